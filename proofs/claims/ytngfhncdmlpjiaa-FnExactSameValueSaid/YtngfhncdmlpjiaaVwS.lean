/- What is proved: the law of SameValue, walked: the program's answer is the model's, and nothing that was handed in has turned. -/
import Derived.Test.YtngfhncdmlpjiaaVn
import Derived.Test.YtngfhncdmlpjiaaVt
namespace Go.Proofs.Ytngfhncdmlpjiaa
namespace Va
open Go.RowKit
attribute [local go_sem ↓] Go.wp_at_zero Go.wp_at_succ

set_option maxHeartbeats 4000000 in
theorem walkFnExactSameValue (v u : V) (w : World) (c0 c1 c2 c3 d0 d1 d2 d3 : Value) (h : At w v c0 c1 c2 c3) (h' : At w u d0 d1 d2 d3) :
    Calls Try.prog 3 #[.agg #[c0, c1, c2, c3], .agg #[d0, d1, d2, d3]] w fun e w' => e = .returned (.bool true) ∧ Below w.heap.size w w' := by
  obtain ⟨W1, hW1, ba, hz, hB0, hB1⟩ := boxes w 25 c0 c1 c2 c3 d0 d1 d2 d3
  have HA := Lib.hid h
  have HA' := Lib.hid h'
  have cz : Calls Try.prog 5 #[.agg #[c0, c1, c2, c3], .int .i64 1048576] W1 fun e w' => e = .returned (.int .i64 (left 1048576 (sz v))) ∧ Below W1.heap.size W1 w' := szV v W1 1048576 c0 c1 c2 c3 (Nat.le_refl _) (At.below ba v h)
  have K0 := Lib.hid hB0
  have K1 := Lib.hid hB1
  clear h h' hB0 hB1
  obtain ⟨p0, p1, p2, p3⟩ := keep4 (Below.refl _ _) K0.out
  obtain ⟨q0, q1, q2, q3⟩ := keep4 (Below.refl _ _) K1.out
  go_enter Try.func3, Try.ntmps3
  go_wp2_with fail
  clear hW1 p0 p1 p2 p3 q0 q1 q2 q3
  refine cz.mono ?_
  rintro e w1 ⟨rfl, hb1⟩
  clear cz
  by_cases hv : sz v ≤ 1048576
  case neg =>
    rw [show left 1048576 (sz v) = -1 from by rw [left, if_neg hv]]
    go_wp2
    go_ret
    exact ⟨rfl, below_trans ba hb1⟩
  obtain ⟨L, hL⟩ : ∃ L : Nat, ((1048576 : Nat) : Int) - (sz v : Int) = (L : Int) := ⟨1048576 - sz v, by omega⟩
  rw [show left 1048576 (sz v) = (L : Int) from by rw [left, if_pos hv, hL]]
  have hLl : L ≤ 1048576 := by omega
  have hL0 : ¬ (L : Int) < 0 := by omega
  clear hL
  obtain ⟨p0, p1, p2, p3⟩ := keep4 hb1 K0.out
  obtain ⟨q0, q1, q2, q3⟩ := keep4 hb1 K1.out
  have bb1 := below_trans ba hb1
  go_wp2_with fail
  refine (szV u w1 L d0 d1 d2 d3 hLl (At.below bb1 u HA'.out)).mono ?_
  rintro e w2 ⟨rfl, hb2⟩
  by_cases hu : sz u ≤ L
  case neg =>
    rw [show left L (sz u) = -1 from by rw [left, if_neg hu]]
    go_wp2
    go_ret
    exact ⟨rfl, below_trans bb1 hb2⟩
  obtain ⟨Z, hZ⟩ : ∃ Z : Nat, (L : Int) - (sz u : Int) = (Z : Int) := ⟨L - sz u, by omega⟩
  rw [show left L (sz u) = (Z : Int) from by rw [left, if_pos hu, hZ]]
  have hu2 : sz u ≤ 1048576 := by omega
  have hZ0 : ¬ (Z : Int) < 0 := by omega
  clear hZ p0 p1 p2 p3 q0 q1 q2 q3
  have hb12 := below_trans hb1 hb2
  obtain ⟨p0, p1, p2, p3⟩ := keep4 hb12 K0.out
  obtain ⟨q0, q1, q2, q3⟩ := keep4 hb12 K1.out
  have bb2 := below_trans bb1 hb2
  have cT : ∀ x, Below w.heap.size w x → Calls Try.prog 7 #[.agg #[c0, c1, c2, c3]] x fun e w' => ∃ d0 d1 d2 d3, e = .returned (.agg #[d0, d1, d2, d3]) ∧ At w' v d0 d1 d2 d3 ∧ Below x.heap.size x w' :=
    fun x hx => (toV v x c0 c1 c2 c3 hv (At.below hx v HA.out)).mono fun e w' ⟨d0, d1, d2, d3, he, ho, hb⟩ => ⟨d0, d1, d2, d3, he, Own.at v ho, hb⟩
  have cU : ∀ x, Below w.heap.size w x → Calls Try.prog 7 #[.agg #[d0, d1, d2, d3]] x fun e w' => ∃ c0 c1 c2 c3, e = .returned (.agg #[c0, c1, c2, c3]) ∧ At w' u c0 c1 c2 c3 ∧ Below x.heap.size x w' :=
    fun x hx => (toV u x d0 d1 d2 d3 hu2 (At.below hx u HA'.out)).mono fun e w' ⟨d0, d1, d2, d3, he, ho, hb⟩ => ⟨d0, d1, d2, d3, he, Own.at u ho, hb⟩
  go_upto_region 8 with fail
  go_cut [6] (fun r wc => ∃ b : Bool, r = .bool b ∧ (b = true ↔ Same v u) ∧ Below w2.heap.size w2 wc)
  case first =>
    go_region_with (first
      | (go_at_call 6; refine (smV v u _ _ _ _ _ _ _ _ _ (At.below hy1 v hx0) hy0).mono ?_; rintro e x3 ⟨r, rfl, hr, hx3⟩)
      | (go_at_call_of 7 c0; refine (cT _ bb2.drew).mono ?_; rintro e x1 ⟨i0, i1, i2, i3, rfl, hx0, hx1⟩; have hx2 := below_trans bb2.drew hx1; obtain ⟨m0, m1, m2, m3⟩ := keep4 (below_trans hb12 (below_trans (below_drew _) hx1)) K1.out)
      | (go_at_call_of 7 d0; refine (cU _ hx2).mono ?_; rintro e y1 ⟨j0, j1, j2, j3, rfl, hy0, hy1⟩))
    all_goals go_wp2
    all_goals go_meet
    all_goals exact ⟨r, rfl, hr, below_trans (below_drew _) (below_trans hx1 (below_trans hy1 hx3))⟩
  case rest =>
    obtain ⟨r, hr0, hr, hb3⟩ := hcut
    subst hr0
    have HR := Lib.hid hr
    clear hr p0 p1 p2 p3 q0 q1 q2 q3
    have hb13 := below_trans hb12 hb3
    have bb3 := below_trans bb2 hb3
    obtain ⟨p0, p1, p2, p3⟩ := keep4 hb13 K0.out
    go_wp2_with fail
    refine (cT wc bb3).mono ?_
    rintro e w4 ⟨i0, i1, i2, i3, rfl, hat1, hb4⟩
    clear p0 p1 p2 p3
    have hb14 := below_trans hb13 hb4
    have bb4 := below_trans bb3 hb4
    obtain ⟨s0, s1, s2, s3, s4, s5, s6, s7, rfl, rfl, rfl, rfl⟩ := At.form hat1
    obtain ⟨q0, q1, q2, q3⟩ := keepA hb14 K1.out
    go_wp2_with fail
    have aa4 := below_alloc w4 (Obj.cells #[Value.int .i64 s0, .string s1, .slice s2 s4 s5, .slice s3 s6 s7] 30)
    refine (cU _ (below_trans bb4 aa4)).mono ?_
    rintro e w5 ⟨j0, j1, j2, j3, rfl, hat2, hb5⟩
    clear q0 q1 q2 q3
    have hat1' := At.below (below_trans aa4 hb5) v hat1
    have bb5 := below_trans (below_trans bb4 aa4) hb5
    have X0 : Hid (w5.heap[w4.heap.size]? = some (Obj.cells #[Value.int .i64 s0, .string s1, .slice s2 s4 s5, .slice s3 s6 s7] 30)) := (hb5.block _ (by simp)).trans (heap_alloc_new w4 _)
    have hb15 := below_trans hb14 (below_trans aa4 hb5)
    obtain ⟨t0, t1, t2, t3, t4, t5, t6, t7, rfl, rfl, rfl, rfl⟩ := At.form hat2
    obtain ⟨q0, q1, q2, q3⟩ := keepA (Below.refl _ w5) X0.out
    have cI := fun o : Obj => sameI v u (w5.alloc o) _ _ _ _ _ _ _ _ hv (At.below (below_alloc w5 o) v hat1') (At.below (below_alloc w5 o) u hat2)
    clear hat1 aa4
    go_wp2_with fail
    refine (cI _).mono ?_
    rintro e w6 ⟨r2, rfl, hr2, hb6⟩
    clear cI q0 q1 q2 q3
    obtain rfl : r2 = r := by
      have h1 := HR.out
      cases r <;> cases r2 <;> simp_all
    clear hr2
    have aa5 := below_alloc w5 (Obj.cells #[Value.int .i64 t0, .string t1, .slice t2 t4 t5, .slice t3 t6 t7] 30)
    have X1 : Hid (w6.heap[w5.heap.size]? = some (Obj.cells #[Value.int .i64 t0, .string t1, .slice t2 t4 t5, .slice t3 t6 t7] 30)) := (hb6.block _ (by simp)).trans (heap_alloc_new w5 _)
    have h56 := below_trans aa5 hb6
    have X0' := Lib.hid ((h56.block _ (lt_of X0.out)).trans X0.out)
    have bb6 := below_trans bb5 h56
    have hat1 := At.below h56 v hat1'
    have hat2' := At.below h56 u hat2
    have hb16 := below_trans hb15 h56
    clear X0 hat1' hat2
    obtain ⟨p0, p1, p2, p3⟩ := keep4 hb16 K0.out
    obtain ⟨q0, q1, q2, q3⟩ := keep4 (Below.refl _ w6) X0'.out
    have rb : (r2 != r2) = false := by simp
    go_upto_region 14 with fail
    go_cut [39] (fun r wc => r = .bool false ∧ Below w6.heap.size w6 wc)
    case first =>
      go_region_with (first
        | (go_at_call 9; refine (eqV v _ _ _ _ _ _ _ _ _ (At.below hx2 v hat1) hx0).mono ?_; rintro e x3 ⟨rfl, hx3⟩)
        | (go_at_call_of 7 c0; refine (cT _ bb6.drew).mono ?_; rintro e x1 ⟨i0, i1, i2, i3, rfl, hx0, hx1⟩; have hx2 := below_trans (below_drew _) hx1; obtain ⟨m0, m1, m2, m3⟩ := keep4 hx2 X0'.out))
      all_goals go_wp2
      all_goals go_meet
      all_goals exact ⟨rfl, below_trans hx2 hx3⟩
    case rest =>
      obtain ⟨hr0, hb7⟩ := hcut
      subst hr0
      clear p0 p1 p2 p3 q0 q1 q2 q3
      rename World => w7
      have bb7 := below_trans bb6 hb7
      have hb17 := below_trans hb16 hb7
      have hat2 := At.below hb7 u hat2'
      have X1' := Lib.hid ((hb7.block _ (lt_of X1.out)).trans X1.out)
      obtain ⟨p0, p1, p2, p3⟩ := keep4 hb17 K1.out
      obtain ⟨q0, q1, q2, q3⟩ := keep4 (Below.refl _ w7) X1'.out
      go_upto_region 16 with fail
      go_cut [44] (fun r wc => r = .bool false ∧ Below w7.heap.size w7 wc)
      case first =>
        go_region_with (first
          | (go_at_call 9; refine (eqV u _ _ _ _ _ _ _ _ _ (At.below hx2 u hat2) hx0).mono ?_; rintro e x3 ⟨rfl, hx3⟩)
          | (go_at_call_of 7 d0; refine (cU _ bb7.drew).mono ?_; rintro e x1 ⟨i0, i1, i2, i3, rfl, hx0, hx1⟩; have hx2 := below_trans (below_drew _) hx1; obtain ⟨m0, m1, m2, m3⟩ := keep4 hx2 X1'.out))
        all_goals go_wp2
        all_goals go_meet
        all_goals exact ⟨rfl, below_trans hx2 hx3⟩
      case rest =>
        obtain ⟨hr0, hb8⟩ := hcut
        subst hr0
        go_wp2
        go_ret
        exact ⟨rfl, below_trans bb7 hb8⟩
end Va
end Go.Proofs.Ytngfhncdmlpjiaa
