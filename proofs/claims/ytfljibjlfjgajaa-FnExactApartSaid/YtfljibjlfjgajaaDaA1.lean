/- What is proved: how lists of structs are read off an argument. -/
import Derived.Test.YtfljibjlfjgajaaDaA
namespace Go.Proofs.Ytfljibjlfjgajaa
namespace Da
set_option linter.unusedVariables false
set_option linter.unusedSimpArgs false
open Go.RowKit Go.Deep Go.WideShapes

/-! ### Off an argument -/
section
variable {H : Type} {enc : TypeId × Value → H} {w : World} {spare : Nat → Bool} {held : Bool}
theorem und3 : Try.prog.underlying 3 = some (.int .i64) := by kernel_rfl
theorem und9 : Try.prog.underlying 9 = some .string := by kernel_rfl
theorem cells9 : Try.prog.cellsOf 9 = 1 := by kernel_rfl

theorem plain_of {w : World} {a : Addr} {v : Value} (h0 : w.cell? (a.add 0) = some v) : ∃ b o, a = ⟨b, o, none⟩ := by
  rw [show a.add 0 = a from by simp [Addr.add]] at h0
  obtain ⟨b, o, s⟩ := a
  cases s with
  | none => exact ⟨b, o, rfl⟩
  | some s => simp [World.cell?] at h0; split at h0 <;> simp at h0

/-- A row of cells. -/
def RowAt (w : World) (k : K) (cs : List Value) : Prop :=
  ∃ r : Nat → D, cs.length = (row k).length ∧ (∀ j g, (row k)[j]? = some g → Sh (r j) g) ∧ ∀ j v, cs[j]? = some v → At w (r j) v

theorem lst_of {k : K} {tS T : TypeId} {fuel : Nat} (hu : Try.prog.underlying tS = some (.slice T)) (hc : Try.prog.cellsOf T = (row k).length) (hpos : 0 < (row k).length)
    (each : ∀ f', f' < fuel → ∀ {cs : List Value} {x : DataW H × List MemPlace}, DataW.trod enc Try.prog w 0 spare held f' T cs = some x → RowAt w k cs)
    {c : Value} {x : DataW H × List MemPlace} (h : DataW.trod enc Try.prog w 0 spare held fuel tS [c] = some x) : ∃ d, Sh d (.lst k) ∧ At w d c := by
  rcases DataW.trod_slice hu h with ⟨hc, -⟩ | ⟨a, len, cap, elems, rest, n', hn', hcc, -, -, hl, hm, hel, hx, -, -⟩
  · obtain rfl : c = .slice none 0 0 := by simpa using hc
    exact ⟨.list (row k).length 0 fun _ _ => .no, ⟨k, rfl, rfl, fun i hi => absurd hi (Nat.not_lt_zero _)⟩, none, 0, rfl, Nat.zero_le _, fun j hj => absurd hj (Nat.not_lt_zero _)⟩
  · obtain rfl : c = .slice (some a) len cap := by simpa using hcc
    rw [hc] at hx
    have one : ∀ i, i < len → ∃ r : Nat → D, (∀ j g, (row k)[j]? = some g → Sh (r j) g) ∧ ∃ b o, some a = some ⟨b, o, none⟩ ∧ ∀ j, j < (row k).length → ∃ d, w.cell? ⟨b, o + i * (row k).length + j, none⟩ = some d ∧ At w (r j) d := by
      intro i hi
      have pl : ∃ b o, a = ⟨b, o, none⟩ := by
        have h0 := hx 0 (by omega)
        rw [List.getElem?_eq_getElem (by omega)] at h0
        obtain ⟨cs', h1, h2⟩ := Option.bind_eq_some_iff.1 h0
        obtain ⟨-, hl', hcell⟩ := World.cells?_some h1
        have h2 := hcell 0 (by omega)
        rw [List.getElem?_eq_getElem (by omega), add_add] at h2
        exact plain_of (by simpa using h2)
      obtain ⟨b, o, rfl⟩ := pl
      have h0 := hx i hi
      rw [List.getElem?_eq_getElem (by omega)] at h0
      obtain ⟨cs', h1, h2⟩ := Option.bind_eq_some_iff.1 h0
      obtain ⟨r, hlen, hsh, hat⟩ := each n' (by omega) h2
      obtain ⟨-, hl', hcell⟩ := World.cells?_some h1
      refine ⟨r, hsh, b, o, rfl, fun j hj => ?_⟩
      have q := hcell j (by omega)
      rw [add_add, add_plain, List.getElem?_eq_getElem (by omega)] at q
      exact ⟨cs'[j]'(by omega), by rw [Nat.add_assoc]; exact q, hat j _ (List.getElem?_eq_getElem (by omega))⟩
    obtain ⟨it, hit⟩ := choose_lt one
    exact ⟨.list (row k).length len it, ⟨k, rfl, rfl, fun i hi => (hit i hi).1⟩, some a, cap, rfl, by omega, fun i hi => (hit i hi).2⟩
end
theorem lenB1 {α : Type} : ∀ {L : List α}, L.length = 1 → ∃ a0, L = [a0]
  | [a0], _ => ⟨_, rfl⟩
theorem lenB3 {α : Type} : ∀ {L : List α}, L.length = 3 → ∃ a0 a1 a2, L = [a0, a1, a2]
  | [a0, a1, a2], _ => ⟨_, _, _, rfl⟩
end Da
end Go.Proofs.Ytfljibjlfjgajaa
