/- What is proved: what the laws' copies of data are: the same, in new memory of its own. (Made by tools/mkdat.py.) -/
import Derived.Test.YtfljibjlfjgajaaDaW
import Derived.Deep.OwnRows
import Derived.Handy
namespace Go.Proofs.Ytfljibjlfjgajaa
namespace Da
set_option linter.unusedVariables false
set_option linter.unusedSimpArgs false
open Go.RowKit
attribute [local go_sem ↓] Go.wp_at_zero Go.wp_at_succ

/-- The contract of a list. -/
def ToL (fid : Nat) (d : D) : Prop := ∀ (w : World) (c : Value), sz d ≤ 1048576 → At w d c →
  Calls Try.prog fid #[c] w fun e w' => ∃ v, e = .returned v ∧ Own w' d (rng w.heap.size w'.heap.size) v ∧ Below w.heap.size w w'

theorem ownR_nil {w : World} {r : Nat → D} {F : Nat → Prop} : OwnR w r F [] := ⟨fun _ _ => False, fun j hj => absurd hj (by simp), fun j v h => by simp at h⟩
theorem ownR_cons {w : World} {r : Nat → D} {F1 F2 F : Nat → Prop} {v : Value} {vs : List Value} (h : Own w (r 0) F1 v) (hs : OwnR w (fun j => r (j + 1)) F2 vs) (hd : ∀ b, F1 b → ¬ F2 b) (h1 : ∀ b, F1 b → F b) (h2 : ∀ b, F2 b → F b) : OwnR w r F (v :: vs) := by
  obtain ⟨G, g1, g2⟩ := hs
  refine ⟨fun j b => match j with | 0 => F1 b | j + 1 => G j b, fun j hj => ?_, fun j u hu => ?_⟩
  · match j with
    | 0 =>
      refine ⟨fun b hb => h1 b hb, fun j' hj' hne b hb => ?_⟩
      match j' with
      | 0 => exact absurd rfl hne
      | j' + 1 => exact fun hc => hd b hb ((g1 j' (by simpa using hj')).1 b hc)
    | j + 1 =>
      refine ⟨fun b hb => h2 b ((g1 j (by simpa using hj)).1 b hb), fun j' hj' hne b hb => ?_⟩
      match j' with
      | 0 => exact fun hc => hd b hc ((g1 j (by simpa using hj)).1 b hb)
      | j' + 1 => exact (g1 j (by simpa using hj)).2 j' (by simpa using hj') (by omega) b hb
  · match j with
    | 0 =>
      obtain rfl : v = u := by simpa using hu
      exact h
    | j + 1 => exact g2 j u (by simpa using hu)
/-- A cell that leads nowhere, ahead of a row. -/
theorem ownR_plain {w : World} {r : Nat → D} {F : Nat → Prop} {v : Value} {vs : List Value} (h : Own w (r 0) (fun _ => False) v) (hs : OwnR w (fun j => r (j + 1)) F vs) : OwnR w r F (v :: vs) :=
  ownR_cons h hs (fun _ h => h.elim) (fun _ h => h.elim) (fun _ h => h)
theorem below_set2 {w : World} {B : Nat} {w1 : World} {g p : Nat} {v : Value} (h : Below B w w1) (hg : B ≤ g) : Below B w (w1.setCell ⟨g, p, none⟩ v) := h.setCell hg v
def plainF : Da.F → Bool
  | .lst _ => false
  | _ => true
theorem Own.plain {w w' : World} {d : D} {c : Value} {F : Nat → Prop} {f : Da.F} (h : At w d c) (hs : Sh d f) (hf : plainF f = true := by rfl) : Own w' d F c := by
  match d, h with
  | .int _, h => exact h
  | .str _, h => exact h
  | .bool _, h => exact h
  | .list _ _ _, _ =>
    obtain ⟨k, rfl, -⟩ := hs
    cases hf
end Da
end Go.Proofs.Ytfljibjlfjgajaa
