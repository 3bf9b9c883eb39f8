/- What is proved: the program's test whether two values are the same but for their items. -/
import Derived.Test.YtjbagkoggmmnfaaVs
namespace Go.Proofs.Ytjbagkoggmmnfaa
namespace Va
open Go.RowKit
attribute [local go_sem ↓] Go.wp_at_zero Go.wp_at_succ

theorem seN {m m' : Nat} {nm nm' : Nat → ByteArray} {c d : Value} (w : World) (h : Nam w m nm c) (h' : Nam w m' nm' d) :
    Calls Try.prog 26 #[c, d] w fun e w' => ∃ r : Bool, e = .returned (.bool r) ∧ (r = true ↔ m = m' ∧ ∀ j, j < m → nm j = nm' j) ∧ Below w.heap.size w w' := by
  obtain ⟨A, cap, rfl, hm, hc⟩ := h
  obtain ⟨A', cap', rfl, hm', hc'⟩ := h'
  unfold maxLen at hm hm'
  have HC : Hid (∀ j, j < m → ∃ b o, A = some ⟨b, o, none⟩ ∧ w.cell? ⟨b, o + j, none⟩ = some (.string (nm j)) ∧ (nm j).size ≤ maxLen) := hc
  have HC' : Hid (∀ j, j < m' → ∃ b o, A' = some ⟨b, o, none⟩ ∧ w.cell? ⟨b, o + j, none⟩ = some (.string (nm' j)) ∧ (nm' j).size ≤ maxLen) := hc'
  clear hc hc'
  by_cases hmm : m = m'
  case neg =>
    have hmm2 : ((m : Int) != (m' : Int)) = true := by simp; omega
    go_enter Try.func26, Try.ntmps26
    go_wp2
    go_ret
    exact ⟨false, rfl, by simp [hmm], Below.refl _ _⟩
  subst hmm
  go_enter Try.func26, Try.ntmps26
  go_wp2
  go_loopw [13] (fun i wr => ∃ k d : Nat, k ≤ m ∧ i = .int .i64 k ∧ wr = w.drewN d ∧ ∀ j, j < k → nm j = nm' j) (fun i _ => m - (intOf i).toNat)
  case atStart => exact ⟨0, 0, Nat.zero_le _, rfl, rfl, fun j hj => absurd hj (Nat.not_lt_zero _)⟩
  case round =>
    obtain ⟨p, d, hk, rfl, rfl, hsame⟩ := hrel
    have HSa : Hid (∀ j, j < p → nm j = nm' j) := hsame
    clear hsame
    by_cases hlt : p < m
    · have hk0 : (0 : Int) ≤ (p : Int) := by omega
      have hk1 : (p : Int) < (m : Int) := by omega
      obtain ⟨b, o, rfl, hs1, -⟩ := HC.out p hlt
      obtain ⟨b', o', rfl, hs2, -⟩ := HC'.out p hlt
      by_cases hx : nm p = nm' p
      · have hx2 := str_eq hx
        have HX : Hid (nm p = nm' p) := hx
        clear hx
        go_wp2
        go_quiet (fail)
        go_wp2
        go_roundw
        case rel =>
          refine ⟨p + 1, _, by omega, by go_num, rfl, fun j hj => ?_⟩
          by_cases hjp : j = p
          · subst hjp; exact HX.out
          · exact HSa.out j (by omega)
        case measure => simp [intOf]; omega
      · have hx2 := str_ne hx
        go_wp2
        go_quiet (fail)
        go_wp2
        go_ret
        exact ⟨false, rfl, by simp only [Bool.false_eq_true, false_iff]; exact fun hh => hx (hh.2 p hlt), below_trans (below_drewN _ _) (below_drewN _ _)⟩
    · obtain rfl : p = m := by omega
      go_wp2
      go_ret
      exact ⟨true, rfl, by simp only [true_iff]; exact ⟨trivial, HSa.out⟩, below_drewN _ _⟩

/-- The same but for the items. -/
def Beside : V → V → Prop
  | .mk k t _ _ m nm, .mk k' t' _ _ m' nm' => k = k' ∧ t = t' ∧ m = m' ∧ ∀ j, j < m → nm j = nm' j
  | _, _ => False

theorem besideC (v u : V) (w : World) (c0 c1 c2 c3 d0 d1 d2 d3 : Value) (h : At w v c0 c1 c2 c3) (h' : At w u d0 d1 d2 d3) :
    Calls Try.prog 23 #[.agg #[c0, c1, c2, c3], .agg #[d0, d1, d2, d3]] w fun e w' => ∃ r : Bool, e = .returned (.bool r) ∧ (r = true ↔ Beside v u) ∧ Below w.heap.size w w' := by
  match v, h, u, h' with
  | .mk k t n it m nm, h, .mk k' t' n' it' m' nm', h' =>
  obtain ⟨rfl, rfl, ht, -, hN⟩ := At_mk.1 h
  obtain ⟨rfl, rfl, ht', -, hN'⟩ := At_mk.1 h'
  clear h h'
  obtain ⟨S, hS⟩ : ∃ S : Prop, Beside (.mk k t n it m nm) (.mk k' t' n' it' m' nm') = S := ⟨_, rfl⟩
  rw [hS]
  have HS : Hid (S = (k = k' ∧ t = t' ∧ m = m' ∧ ∀ j, j < m → nm j = nm' j)) := by rw [← hS]; rfl
  clear hS
  by_cases hk : k = k'
  case neg =>
    go_enter Try.func23, Try.ntmps23
    go_wp2
    go_ret
    exact ⟨false, rfl, by rw [HS.out]; simp [hk], (below_alloc _ _).alloc (by simp) _⟩
  by_cases htt : t = t'
  case neg =>
    have htt2 := str_ne htt
    go_enter Try.func23, Try.ntmps23
    go_wp2
    go_ret
    exact ⟨false, rfl, by rw [HS.out]; simp [htt], (below_alloc _ _).alloc (by simp) _⟩
  subst hk htt
  go_enter Try.func23, Try.ntmps23
  go_wp2_with fail
  have ba : Below w.heap.size w ((w.alloc (Obj.cells #[.int .i64 k, .string t, c2, c3] 37)).alloc (Obj.cells #[.int .i64 k, .string t, d2, d3] 37)) := (below_alloc _ _).alloc (by simp) _
  refine (seN _ (hN.below ba) (hN'.below ba)).mono ?_
  rintro e w1 ⟨r, rfl, hr, hb1⟩
  have HR : Hid (r = true ↔ m = m' ∧ ∀ j, j < m → nm j = nm' j) := hr
  clear hr
  go_wp2
  go_ret
  exact ⟨r, rfl, by rw [HS.out, HR.out]; simp, below_trans ba hb1⟩
end Va
end Go.Proofs.Ytjbagkoggmmnfaa
