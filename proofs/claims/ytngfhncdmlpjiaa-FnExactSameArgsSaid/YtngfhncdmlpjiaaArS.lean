/- What is proved: the model's SameArgs says whether two lists of names with values are the same, one by one. -/
import Derived.Test.YtngfhncdmlpjiaaArE
import Derived.Test.YtngfhncdmlpjiaaVs
namespace Go.Proofs.Ytngfhncdmlpjiaa
namespace Va
open Go.RowKit
attribute [local go_sem ↓] Go.wp_at_zero Go.wp_at_succ

/-- The same, one by one. -/
def SameA (n : Nat) (nm : Nat → ByteArray) (it : Nat → V) (n' : Nat) (nm' : Nat → ByteArray) (it' : Nat → V) : Prop :=
  n = n' ∧ ∀ i, i < n → nm i = nm' i ∧ Same (it i) (it' i)

/-- What is left behind the call. -/
def SmLeft (S : Prop) (w : World) (e : Ending) (w' : World) : Prop := ∃ r : Bool, e = .returned (.bool r) ∧ (r = true ↔ S) ∧ Below w.heap.size w w'

set_option maxHeartbeats 4000000 in
theorem smA {n n' : Nat} {nm nm' : Nat → ByteArray} {it it' : Nat → V} {c d : Value} (w : World) (h : Ars w n nm it c) (h' : Ars w n' nm' it' d) :
    Calls Try.prog 11 #[c, d] w (SmLeft (SameA n nm it n' nm' it') w) := by
  obtain ⟨S, hS⟩ : ∃ S : Prop, SameA n nm it n' nm' it' = S := ⟨_, rfl⟩
  rw [hS]
  have HS : Hid (S = (n = n' ∧ ∀ i, i < n → nm i = nm' i ∧ Same (it i) (it' i))) := by rw [← hS]; rfl
  clear hS
  have HI := h
  have HI' := h'
  obtain ⟨A, cap, rfl, hm, -⟩ := h
  obtain ⟨A', cap', rfl, hm', -⟩ := h'
  unfold maxLen at hm hm'
  go_enter Try.func11, Try.ntmps11
  go_wp2
  go_loopw [5] (fun i wr => ∃ k : Nat, k ≤ n ∧ k ≤ n' ∧ i = .int .i64 k ∧ Below w.heap.size w wr ∧ ∀ j, j < k → nm j = nm' j ∧ Same (it j) (it' j)) (fun i _ => n - (intOf i).toNat)
  case atStart => exact ⟨0, Nat.zero_le _, Nat.zero_le _, rfl, Below.refl _ _, fun j hj => absurd hj (Nat.not_lt_zero _)⟩
  case round =>
    obtain ⟨p, hp, hp', rfl, hbel, hsame⟩ := hrel
    have HSi : Hid (∀ j, j < p → nm j = nm' j ∧ Same (it j) (it' j)) := hsame
    clear hsame
    by_cases hlt : p < n
    case neg =>
      obtain rfl : p = n := by omega
      by_cases hnn : p = n'
      · subst hnn
        go_wp2
        go_ret
        exact ⟨true, rfl, by rw [HS.out]; simp only [true_iff]; exact ⟨trivial, HSi.out⟩, hbel⟩
      · have hq : ((p : Int) == (n' : Int)) = false := by simp; omega
        go_wp2
        go_ret
        exact ⟨false, rfl, by rw [HS.out]; simp [hnn], hbel⟩
    by_cases hlt' : p < n'
    case neg =>
      obtain rfl : p = n' := by omega
      have hnn : ¬ n = p := by omega
      have hq : ((n : Int) == (p : Int)) = false := by simp; omega
      have hk1 : (p : Int) < (n : Int) := by omega
      go_wp2
      go_ret
      exact ⟨false, rfl, by rw [HS.out]; simp [hnn], hbel⟩
    have hk0 : (0 : Int) ≤ (p : Int) := by omega
    have hk1 : (p : Int) < (n : Int) := by omega
    have hk2 : (p : Int) < (n' : Int) := by omega
    obtain ⟨b, o, c0, c1, c2, c3, e2, hf, -, hat⟩ := (HI.below hbel).nth hlt
    subst e2
    obtain ⟨b', o', d0, d1, d2, d3, e2, hf', -, hat'⟩ := (HI'.below hbel).nth hlt'
    subst e2
    obtain ⟨fn, f0, f1, f2, f3⟩ := hf
    obtain ⟨gn, g0, g1, g2, g3⟩ := hf'
    by_cases hx : nm p = nm' p
    case neg =>
      have hx2 := str_ne hx
      go_wp2
      go_quiet (fail)
      go_wp2
      go_ret
      exact ⟨false, rfl, by rw [HS.out]; simp only [Bool.false_eq_true, false_iff]; exact fun hh => hx (hh.2 p hlt).1, below_trans hbel (below_drewN _ _)⟩
    have hx2 := str_eq hx
    have HX : Hid (nm p = nm' p) := hx
    clear hx
    have cd : ∀ W, Below wr.heap.size wr W → Calls Try.prog 6 #[.agg #[c0, c1, c2, c3], .agg #[d0, d1, d2, d3]] W fun e w' => ∃ r : Bool, e = .returned (.bool r) ∧ (r = true ↔ Same (it p) (it' p)) ∧ Below wr.heap.size wr w' := fun W hW =>
      (smV (it p) (it' p) W c0 c1 c2 c3 d0 d1 d2 d3 (At.below hW _ hat) (At.below hW _ hat')).mono fun e w' ⟨r, he, hr, hb⟩ => ⟨r, he, hr, below_trans hW hb⟩
    have HC := Lib.hid cd
    have HK : Hid (∀ W, Below wr.heap.size wr W → W.cell? ⟨b, o + p * 5, none⟩ = some (.string (nm p)) ∧ W.cell? ⟨b, o + p * 5 + 1, none⟩ = some c0 ∧ W.cell? ⟨b, o + p * 5 + 2, none⟩ = some c1 ∧ W.cell? ⟨b, o + p * 5 + 3, none⟩ = some c2 ∧ W.cell? ⟨b, o + p * 5 + 4, none⟩ = some c3
        ∧ W.cell? ⟨b', o' + p * 5, none⟩ = some (.string (nm' p)) ∧ W.cell? ⟨b', o' + p * 5 + 1, none⟩ = some d0 ∧ W.cell? ⟨b', o' + p * 5 + 2, none⟩ = some d1 ∧ W.cell? ⟨b', o' + p * 5 + 3, none⟩ = some d2 ∧ W.cell? ⟨b', o' + p * 5 + 4, none⟩ = some d3) := fun W hW =>
      have F := (Five.mk fn f0 f1 f2 f3).below hW
      have G := (Five.mk gn g0 g1 g2 g3).below hW
      ⟨F.cn, F.c0, F.c1, F.c2, F.c3, G.cn, G.c0, G.c1, G.c2, G.c3⟩
    clear cd
    go_wp2
    go_region_held3 (fun W => W.cell? ⟨b, o + p * 5, none⟩ = some (.string (nm p)) ∧ W.cell? ⟨b, o + p * 5 + 1, none⟩ = some c0 ∧ W.cell? ⟨b, o + p * 5 + 2, none⟩ = some c1 ∧ W.cell? ⟨b, o + p * 5 + 3, none⟩ = some c2 ∧ W.cell? ⟨b, o + p * 5 + 4, none⟩ = some c3
        ∧ W.cell? ⟨b', o' + p * 5, none⟩ = some (.string (nm' p)) ∧ W.cell? ⟨b', o' + p * 5 + 1, none⟩ = some d0 ∧ W.cell? ⟨b', o' + p * 5 + 2, none⟩ = some d1 ∧ W.cell? ⟨b', o' + p * 5 + 3, none⟩ = some d2 ∧ W.cell? ⟨b', o' + p * 5 + 4, none⟩ = some d3) (first | exact HK.out _ hb1 | exact HK.out _ (below_drew _) | go_keep)
      ((go_at_call 6; refine (HC.out _ (below_drew _)).mono ?_; rintro e w1 ⟨r, rfl, hr, hb1⟩))
    all_goals
      cases r with
      | false =>
        have hno : ¬ Same (it p) (it' p) := fun hh => by have := hr.2 hh; cases this
        clear hr
        go_wp2
        go_ret
        exact ⟨false, rfl, by rw [HS.out]; simp only [Bool.false_eq_true, false_iff]; exact fun hh => hno (hh.2 p hlt).2, below_trans hbel hb1⟩
      | true =>
        have hyes : Hid (Same (it p) (it' p)) := hr.1 rfl
        clear hr
        go_wp2
        go_roundw
        case rel =>
          refine ⟨p + 1, by omega, by omega, by go_num, below_trans hbel hb1, fun j hj => ?_⟩
          by_cases hjp : j = p
          · subst hjp; exact ⟨HX.out, hyes.out⟩
          · exact HSi.out j (by omega)
        case measure => simp [intOf]; omega
end Va
end Go.Proofs.Ytngfhncdmlpjiaa
