/- What is proved: the law of IsConst, walked: the program's answer is the model's, and nothing that was handed in has turned. -/
import Derived.Test.YtjlabdnjdokpnaaRVk
namespace Go.Proofs.YtjlabdnjdokpnaaR
namespace Va
open Go.RowKit
attribute [local go_sem ↓] Go.wp_at_zero Go.wp_at_succ

set_option maxHeartbeats 4000000 in
theorem walkFnExactIsConst (v : V) (w : World) (c0 c1 c2 c3 : Value) (h : At w v c0 c1 c2 c3) :
    Calls Try.prog 4 #[.agg #[c0, c1, c2, c3]] w fun e w' => e = .returned (.bool true) ∧ Below w.heap.size w w' := by
  obtain ⟨W1, hW1⟩ : ∃ W1, w.alloc (Obj.cells #[c0, c1, c2, c3] 25) = W1 := ⟨_, rfl⟩
  have ba : Below w.heap.size w W1 := by rw [← hW1]; exact below_alloc _ _
  have hB0 : W1.heap[w.heap.size]? = some (Obj.cells #[c0, c1, c2, c3] 25) := by rw [← hW1]; exact heap_alloc_new w _
  have HA := Lib.hid h
  have cz : Calls Try.prog 6 #[.agg #[c0, c1, c2, c3], .int .i64 1048576] W1 fun e w' => e = .returned (.int .i64 (left 1048576 (sz v))) ∧ Below W1.heap.size W1 w' := szV v W1 1048576 c0 c1 c2 c3 (Nat.le_refl _) (At.below ba v h)
  have K0 := Lib.hid hB0
  clear h hB0
  obtain ⟨p0, p1, p2, p3⟩ := keep4 (Below.refl _ _) K0.out
  go_enter Try.func4, Try.ntmps4
  go_wp2_with fail
  clear hW1 p0 p1 p2 p3
  refine cz.mono ?_
  rintro e w1 ⟨rfl, hb1⟩
  clear cz
  by_cases hv : sz v ≤ 1048576
  case neg =>
    rw [show left 1048576 (sz v) = -1 from by rw [left, if_neg hv]]
    go_wp2
    go_ret
    exact ⟨rfl, below_trans ba hb1⟩
  obtain ⟨L, hL⟩ : ∃ L : Nat, ((1048576 : Nat) : Int) - (sz v : Int) = (L : Int) := ⟨1048576 - sz v, by omega⟩
  rw [show left 1048576 (sz v) = (L : Int) from by rw [left, if_pos hv, hL]]
  have hL0 : ¬ (L : Int) < 0 := by omega
  clear hL
  have cT : ∀ x, Below w.heap.size w x → Calls Try.prog 8 #[.agg #[c0, c1, c2, c3]] x fun e w' => ∃ d0 d1 d2 d3, e = .returned (.agg #[d0, d1, d2, d3]) ∧ At w' v d0 d1 d2 d3 ∧ Below x.heap.size x w' :=
    fun x hx => (toV v x c0 c1 c2 c3 hv (At.below hx v HA.out)).mono fun e w' ⟨d0, d1, d2, d3, he, ho, hb⟩ => ⟨d0, d1, d2, d3, he, Own.at v ho, hb⟩
  obtain ⟨p0, p1, p2, p3⟩ := keep4 hb1 K0.out
  have bb1 := below_trans ba hb1
  go_wp2_with fail
  refine (cT w1 bb1).mono ?_
  rintro e w2 ⟨i0, i1, i2, i3, rfl, hat, hb2⟩
  clear p0 p1 p2 p3
  go_wp2_with fail
  refine (constS v w2 _ _ _ _ hat).mono ?_
  rintro e w3 ⟨r, rfl, hr, hb3⟩
  have HR := Lib.hid hr
  clear hr hat
  have hb13 := below_trans hb1 (below_trans hb2 hb3)
  have bb3 := below_trans ba hb13
  obtain ⟨p0, p1, p2, p3⟩ := keep4 hb13 K0.out
  go_wp2_with fail
  refine (cT w3 bb3).mono ?_
  rintro e w4 ⟨j0, j1, j2, j3, rfl, hat, hb4⟩
  clear p0 p1 p2 p3
  have hb14 := below_trans hb13 hb4
  have bb4 := below_trans bb3 hb4
  obtain ⟨s0, s1, s2, s3, s4, s5, s6, s7, rfl, rfl, rfl, rfl⟩ := At.form hat
  have aa4 := below_alloc w4 (Obj.cells #[Value.int .i64 s0, .string s1, .slice s2 s4 s5, .slice s3 s6 s7] 30)
  have hat4 := At.below aa4 v hat
  go_wp2_with fail
  refine (constI v _ _ _ _ _ hv hat4).mono ?_
  rintro e w6 ⟨r2, rfl, hr2, hb6⟩
  obtain rfl : r2 = r := by
    have h1 := HR.out
    cases r <;> cases r2 <;> simp_all
  clear hr2
  have X0 : Hid (w6.heap[w4.heap.size]? = some (Obj.cells #[Value.int .i64 s0, .string s1, .slice s2 s4 s5, .slice s3 s6 s7] 30)) := (hb6.block _ (by simp)).trans (heap_alloc_new w4 _)
  have hat6 := At.below hb6 v hat4
  have h46 := below_trans aa4 hb6
  have bb6 := below_trans bb4 h46
  have hb16 := below_trans hb14 h46
  clear hat hat4
  obtain ⟨p0, p1, p2, p3⟩ := keep4 hb16 K0.out
  obtain ⟨q0, q1, q2, q3⟩ := keep4 (Below.refl _ w6) X0.out
  have rb : (r2 != r2) = false := by simp
  go_upto_region 10 with fail
  go_cut [26] (fun r wc => r = .bool false ∧ Below w6.heap.size w6 wc)
  case first =>
    go_region_with (first
      | (go_at_call 10; refine (eqV v _ _ _ _ _ _ _ _ _ (At.below hx2 v hat6) hx0).mono ?_; rintro e x3 ⟨rfl, hx3⟩)
      | (go_at_call_of 8 c0; refine (cT _ bb6.drew).mono ?_; rintro e x1 ⟨i0, i1, i2, i3, rfl, hx0, hx1⟩; have hx2 := below_trans (below_drew _) hx1; obtain ⟨m0, m1, m2, m3⟩ := keep4 hx2 X0.out))
    all_goals go_wp2
    all_goals go_meet
    all_goals exact ⟨rfl, below_trans hx2 hx3⟩
  case rest =>
    obtain ⟨hr0, hb7⟩ := hcut
    subst hr0
    go_wp2
    go_ret
    exact ⟨rfl, below_trans bb6 hb7⟩
end Va
end Go.Proofs.YtjlabdnjdokpnaaR
