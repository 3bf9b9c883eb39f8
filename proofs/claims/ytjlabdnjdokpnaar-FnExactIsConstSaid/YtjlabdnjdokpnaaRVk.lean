/- What is proved: the law of IsConst, walked: whether there is no variable in a value, by both. -/
import Derived.Test.YtjlabdnjdokpnaaRVj
import Derived.Test.YtjlabdnjdokpnaaRVt
import Derived.Deep.DeepCutAuto
import Derived.Deep.CutBlock
namespace Go.Proofs.YtjlabdnjdokpnaaR
namespace Va
open Go.RowKit
attribute [local go_sem ↓] Go.wp_at_zero Go.wp_at_succ

def CnOne (v : V) : Prop := ∀ (w : World) (c0 c1 c2 c3 : Value), At w v c0 c1 c2 c3 →
  Calls Try.prog 25 #[.agg #[c0, c1, c2, c3]] w fun e w' => ∃ r : Bool, e = .returned (.bool r) ∧ (r = true ↔ isC v) ∧ Below w.heap.size w w'

theorem cnStep (k : Int) (t : ByteArray) (n : Nat) (it : Nat → V) (m : Nat) (nm : Nat → ByteArray) (hit : ∀ i, i < n → CnOne (it i)) : CnOne (.mk k t n it m nm) := by
  intro w c0 c1 c2 c3 h
  obtain ⟨rfl, rfl, ht, hI, -⟩ := At_mk.1 h
  clear h
  have hI0 := hI
  obtain ⟨A, cap, rfl, hn, -⟩ := hI
  unfold maxLen at hn
  obtain ⟨S, hS⟩ : ∃ S : Prop, isC (.mk k t n it m nm) = S := ⟨_, rfl⟩
  rw [hS]
  have HS : Hid (S = ((∀ i, i < n → isC (it i)) ∧ k ≠ 1)) := by rw [← hS]; rfl
  clear hS
  obtain ⟨W1, hW1⟩ : ∃ W1, w.alloc (Obj.cells #[.int .i64 k, .string t, .slice A n cap, c3] 30) = W1 := ⟨_, rfl⟩
  have ba : Below w.heap.size w W1 := by rw [← hW1]; exact below_alloc _ _
  have hb0 : W1.heap[w.heap.size]? = some (Obj.cells #[.int .i64 k, .string t, .slice A n cap, c3] 30) := by rw [← hW1]; exact heap_alloc_new w _
  have HB0 := Lib.hid hb0
  clear hb0
  go_enter Try.func25, Try.ntmps25
  go_wp2
  go_loopw [3] (fun i wr => ∃ p : Nat, p ≤ n ∧ i = .int .i64 p ∧ Below W1.heap.size W1 wr ∧ ∀ j, j < p → isC (it j)) (fun i _ => n - (intOf i).toNat)
  case atStart => exact ⟨0, Nat.zero_le _, rfl, Below.refl _ _, fun j hj => absurd hj (Nat.not_lt_zero _)⟩
  case round =>
    obtain ⟨p, hp, rfl, hbel, hsame⟩ := hrel
    have HSi := Lib.hid hsame
    clear hsame
    have hbox := (hbel.block _ (lt_of HB0.out)).trans HB0.out
    have q0 : wr.cell? ⟨w.heap.size, 0, none⟩ = some (.int .i64 k) := by rw [cell_of hbox]; rfl
    have q2 : wr.cell? ⟨w.heap.size, 2, none⟩ = some (.slice A n cap) := by rw [cell_of hbox]; rfl
    have bb := below_trans ba hbel
    clear hbox
    by_cases hlt : p < n
    · have hk0 : (0 : Int) ≤ (p : Int) := by omega
      have hk1 : (p : Int) < (n : Int) := by omega
      obtain ⟨A1, cap1, e1, -, hc⟩ := hI0.below bb
      obtain ⟨b, o, d0, d1, d2, d3, e2, hf, hat⟩ := hc p hlt
      simp only [Value.slice.injEq] at e1
      obtain ⟨e3, -, e4⟩ := e1
      subst e3 e4
      subst e2
      clear hc
      obtain ⟨f0, f1, f2, f3⟩ := hf
      have cc := hit p hlt wr d0 d1 d2 d3 hat
      go_wp2_with fail
      refine cc.mono ?_
      rintro e w1 ⟨r, rfl, hr, hb1⟩
      cases r with
      | false =>
        have hno : ¬ isC (it p) := fun hh => by have := hr.2 hh; cases this
        clear hr
        go_wp2
        go_ret
        exact ⟨false, rfl, by rw [HS.out]; simp only [Bool.false_eq_true, false_iff]; exact fun hh => hno (hh.1 p hlt), below_trans bb hb1⟩
      | true =>
        have hyes : Hid (isC (it p)) := hr.1 rfl
        clear hr
        go_wp2
        go_roundw
        case rel =>
          refine ⟨p + 1, by omega, by go_num, below_trans hbel hb1, fun j hj => ?_⟩
          by_cases hjp : j = p
          · subst hjp; exact hyes.out
          · exact HSi.out j (by omega)
        case measure => simp [intOf]; omega
    · obtain rfl : p = n := by omega
      go_wp2
      go_ret
      refine ⟨k != 1, rfl, ?_, bb⟩
      rw [HS.out]
      simp only [bne_iff_ne, ne_eq]
      exact ⟨fun hh => ⟨HSi.out, hh⟩, fun hh => hh.2⟩

theorem cnV : ∀ v : V, CnOne v
  | .no => fun _ _ _ _ _ h => h.elim
  | .mk k t n it m nm => cnStep k t n it m nm fun i _ => cnV (it i)

theorem constS (v : V) (w : World) (c0 c1 c2 c3 : Value) (h : At w v c0 c1 c2 c3) :
    Calls Try.prog 11 #[.agg #[c0, c1, c2, c3]] w fun e w' => ∃ r : Bool, e = .returned (.bool r) ∧ (r = true ↔ isC v) ∧ Below w.heap.size w w' := by
  go_enter Try.func11, Try.ntmps11
  go_wp2_with fail
  refine (cnV v _ _ _ _ _ (At.below (below_alloc _ _) v h)).mono ?_
  rintro e w1 ⟨r, rfl, hr, hb1⟩
  go_wp2
  go_ret
  exact ⟨r, rfl, hr, below_trans (below_alloc _ _) hb1⟩

theorem constI (v : V) (w : World) (c0 c1 c2 c3 : Value) (hs : sz v ≤ 1048576) (h : At w v c0 c1 c2 c3) :
    Calls Try.prog 12 #[.agg #[c0, c1, c2, c3]] w fun e w' => ∃ r : Bool, e = .returned (.bool r) ∧ (r = true ↔ isC v) ∧ Below w.heap.size w w' := by
  obtain ⟨X, hX⟩ : ∃ X, vars v [] = X := ⟨_, rfl⟩
  have HX := Lib.hid hX
  have cI := varsI v (w.alloc (Obj.cells #[c0, c1, c2, c3] 30)) c0 c1 c2 c3 hs (At.below (below_alloc _ _) v h)
  rw [hX] at cI
  clear hX
  go_enter Try.func12, Try.ntmps12
  go_wp2_with fail
  refine cI.mono ?_
  rintro e w1 ⟨g, c, rfl, -, hb1⟩
  go_wp2
  go_ret
  refine ⟨_, rfl, ?_, below_trans (below_alloc _ _) hb1⟩
  rw [← vars_nil, HX.out]
  cases X <;> simp <;> omega
end Va
end Go.Proofs.YtjlabdnjdokpnaaR
