/- What is proved: the program's SameArgs says whether two lists of names with values are the same, one by one. -/
import Derived.Test.YtjbagkoggmmnfaaArS
import Derived.Test.YtjbagkoggmmnfaaVn
import Derived.Shelf.Abstract
namespace Go.Proofs.Ytjbagkoggmmnfaa
namespace Va
open Go.RowKit
attribute [local go_sem ↓] Go.wp_at_zero Go.wp_at_succ

set_option maxHeartbeats 4000000 in
theorem sameOneArg (t u : ByteArray) (v x : V) (w : World) (c0 c1 c2 c3 d0 d1 d2 d3 : Value) (hs : sz v ≤ 1048576) (h : At w v c0 c1 c2 c3) (h' : At w x d0 d1 d2 d3) :
    Calls Try.prog 13 #[.agg #[.string t, c0, c1, c2, c3], .agg #[.string u, d0, d1, d2, d3]] w (SmLeft (t = u ∧ Same v x) w) := by
  obtain ⟨S, hS⟩ : ∃ S : Prop, (t = u ∧ Same v x) = S := ⟨_, rfl⟩
  rw [hS]
  have HS : Hid (S = (t = u ∧ Same v x)) := hS.symm
  clear hS
  have ba : Below w.heap.size w ((w.alloc (Obj.cells #[.string t, c0, c1, c2, c3] 39)).alloc (Obj.cells #[.string u, d0, d1, d2, d3] 39)) := (below_alloc _ _).alloc (by simp) _
  by_cases htu : t = u
  case neg =>
    have hx2 := str_ne htu
    go_enter Try.func13, Try.ntmps13
    go_wp2
    go_ret
    exact ⟨false, rfl, by rw [HS.out]; simp [htu], ba⟩
  have hx2 := str_eq htu
  have HT := Lib.hid htu
  clear htu
  have cI := sameI v x _ c0 c1 c2 c3 d0 d1 d2 d3 hs (At.below ba v h) (At.below ba x h')
  have HB := Lib.hid ba
  clear ba h h' hs
  go_enter Try.func13, Try.ntmps13
  go_wp2_with fail
  refine cI.mono ?_
  rintro e w1 ⟨r, rfl, hr, hb1⟩
  have HR := Lib.hid hr
  clear hr cI
  go_wp2
  go_ret
  exact ⟨r, rfl, by rw [HS.out, HR.out]; simp [HT.out], below_trans HB.out hb1⟩

theorem enterSame : ∀ args w, (callFunc 13 args).run Try.prog w = .ok (.enter 13 args) w := enters_of Try.func13 (by kernel_rfl) rfl

set_option maxHeartbeats 4000000 in
theorem eqfA {n n' : Nat} {nm nm' : Nat → ByteArray} {it it' : Nat → V} {c d : Value} (w : World) (hs : sza n nm it ≤ 1048576) (h : Ars w n nm it c) (h' : Ars w n' nm' it' d) :
    Calls Try.prog 12 #[c, d, .func (.func 13) #[] #[]] w (SmLeft (SameA n nm it n' nm' it') w) := by
  obtain ⟨S, hS⟩ : ∃ S : Prop, SameA n nm it n' nm' it' = S := ⟨_, rfl⟩
  rw [hS]
  have HS : Hid (S = (n = n' ∧ ∀ i, i < n → nm i = nm' i ∧ Same (it i) (it' i))) := by rw [← hS]; rfl
  clear hS
  have HI := h
  have HI' := h'
  obtain ⟨A, cap, rfl, hm, -⟩ := h
  obtain ⟨A', cap', rfl, hm', -⟩ := h'
  unfold maxLen at hm hm'
  have eg := enterSame
  by_cases hnn : n = n'
  case neg =>
    have hq : ((n : Int) != (n' : Int)) = true := by simp; omega
    go_enter Try.func12, Try.ntmps12
    go_wp2
    go_ret
    exact ⟨false, rfl, by rw [HS.out]; simp [hnn], Below.refl _ _⟩
  subst hnn
  go_enter Try.func12, Try.ntmps12
  go_wp2
  go_loopw [17] (fun i wr => ∃ k : Nat, k ≤ n ∧ i = .int .i64 k ∧ Below w.heap.size w wr ∧ ∀ j, j < k → nm j = nm' j ∧ Same (it j) (it' j)) (fun i _ => n - (intOf i).toNat)
  case atStart => exact ⟨0, Nat.zero_le _, rfl, Below.refl _ _, fun j hj => absurd hj (Nat.not_lt_zero _)⟩
  case round =>
    obtain ⟨p, hp, rfl, hbel, hsame⟩ := hrel
    have HSi := Lib.hid hsame
    clear hsame
    by_cases hlt : p < n
    case neg =>
      obtain rfl : p = n := by omega
      go_wp2
      go_ret
      exact ⟨true, rfl, by rw [HS.out]; simp only [true_iff]; exact ⟨trivial, HSi.out⟩, hbel⟩
    have hk0 : (0 : Int) ≤ (p : Int) := by omega
    have hk1 : (p : Int) < (n : Int) := by omega
    obtain ⟨b, o, c0, c1, c2, c3, e2, hf, -, hat⟩ := (HI.below hbel).nth hlt
    subst e2
    obtain ⟨b', o', d0, d1, d2, d3, e2, hf', -, hat'⟩ := (HI'.below hbel).nth hlt
    subst e2
    obtain ⟨fn, f0, f1, f2, f3⟩ := hf
    obtain ⟨gn, g0, g1, g2, g3⟩ := hf'
    obtain ⟨x0, x1, x2, x3, x4, x5, x6, x7, rfl, rfl, rfl, rfl⟩ := At.form hat
    obtain ⟨y0, y1, y2, y3, y4, y5, y6, y7, rfl, rfl, rfl, rfl⟩ := At.form hat'
    have hsp : sz (it p) ≤ 1048576 := by have := sza_item (nm := nm) (it := it) hlt; omega
    have cd : ∀ W, Below wr.heap.size wr W → Calls Try.prog 13 #[.agg #[.string (nm p), .int .i64 x0, .string x1, .slice x2 x4 x5, .slice x3 x6 x7], .agg #[.string (nm' p), .int .i64 y0, .string y1, .slice y2 y4 y5, .slice y3 y6 y7]] W fun e w' => ∃ r : Bool, e = .returned (.bool r) ∧ (r = true ↔ nm p = nm' p ∧ Same (it p) (it' p)) ∧ Below wr.heap.size wr w' := fun W hW =>
      (sameOneArg (nm p) (nm' p) (it p) (it' p) W _ _ _ _ _ _ _ _ hsp (At.below hW _ hat) (At.below hW _ hat')).mono fun e w' ⟨r, he, hr, hb⟩ => ⟨r, he, hr, below_trans hW hb⟩
    have HC := Lib.hid cd
    clear cd
    have G := fun ob => (Five.mk gn g0 g1 g2 g3).below (below_alloc wr ob)
    have gn' := fun ob => (G ob).cn
    have g0' := fun ob => (G ob).c0
    have g1' := fun ob => (G ob).c1
    have g2' := fun ob => (G ob).c2
    have g3' := fun ob => (G ob).c3
    clear G
    go_wp2_with fail
    refine (HC.out _ ((below_alloc _ _).alloc (by simp) _)).mono ?_
    rintro e w1 ⟨r, rfl, hr, hb1⟩
    have HR := Lib.hid hr
    clear hr
    cases r with
    | false =>
      go_wp2
      go_ret
      exact ⟨false, rfl, by rw [HS.out]; simp only [Bool.false_eq_true, false_iff]; exact fun hh => (by have := HR.out.2 (hh.2 p hlt); cases this), below_trans hbel hb1⟩
    | true =>
      go_wp2
      go_roundw
      case rel =>
        refine ⟨p + 1, by omega, by go_num, below_trans hbel hb1, fun j hj => ?_⟩
        by_cases hjp : j = p
        · subst hjp; have := HR.out; simpa using this
        · exact HSi.out j (by omega)
      case measure => simp [intOf]; omega

set_option maxHeartbeats 4000000 in
/-- The program's SameArgs. -/
theorem sameA {n n' : Nat} {nm nm' : Nat → ByteArray} {it it' : Nat → V} {c d : Value} (w : World) (hs : sza n nm it ≤ 1048576) (h : Ars w n nm it c) (h' : Ars w n' nm' it' d) :
    Calls Try.prog 7 #[c, d] w (SmLeft (SameA n nm it n' nm' it') w) := by
  have cE := eqfA w hs h h'
  obtain ⟨A, cap, rfl, -⟩ := h
  obtain ⟨A', cap', rfl, -⟩ := h'
  obtain ⟨S, hS⟩ : ∃ S : Prop, SameA n nm it n' nm' it' = S := ⟨_, rfl⟩
  rw [hS] at cE ⊢
  clear hS
  go_enter Try.func7, Try.ntmps7
  go_wp2_with fail
  refine cE.mono ?_
  rintro e w1 ⟨r, rfl, hr, hb1⟩
  have HR := Lib.hid hr
  clear hr
  go_wp2
  go_ret
  exact ⟨r, rfl, HR.out, hb1⟩
end Va
end Go.Proofs.Ytjbagkoggmmnfaa
