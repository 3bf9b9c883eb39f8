/- What is proved: the law of SameArgs, walked: the program's answer is the model's, and nothing that was handed in has turned. -/
import Derived.Test.YtngfhncdmlpjiaaArI
import Derived.Test.YtngfhncdmlpjiaaArZ
import Derived.Test.YtngfhncdmlpjiaaArT
namespace Go.Proofs.Ytngfhncdmlpjiaa
namespace Va
open Go.RowKit
attribute [local go_sem ↓] Go.wp_at_zero Go.wp_at_succ

set_option maxHeartbeats 4000000 in
theorem walkFnExactSameArgs {n n' : Nat} {nm nm' : Nat → ByteArray} {it it' : Nat → V} {c d : Value} (w : World) (h : Ars w n nm it c) (h' : Ars w n' nm' it' d) :
    Calls Try.prog 4 #[c, d] w fun e w' => e = .returned (.bool true) ∧ Below w.heap.size w w' := by
  have HA := Lib.hid h
  have HA' := Lib.hid h'
  obtain ⟨A, cap, rfl, -⟩ := h
  obtain ⟨A', cap', rfl, -⟩ := h'
  obtain ⟨Z0, hZ0⟩ : ∃ Z0, sza n nm it = Z0 := ⟨_, rfl⟩
  obtain ⟨Z1, hZ1⟩ : ∃ Z1, sza n' nm' it' = Z1 := ⟨_, rfl⟩
  have cz := szA 1048576 (Nat.le_refl _) w HA.out
  rw [hZ0] at cz
  have E0 := Lib.hid hZ0
  have E1 := Lib.hid hZ1
  clear hZ0 hZ1
  go_enter Try.func4, Try.ntmps4
  go_wp2_with fail
  refine cz.mono ?_
  rintro e w1 ⟨rfl, hb1⟩
  clear cz
  by_cases hv : Z0 ≤ 1048576
  case neg =>
    rw [show left 1048576 Z0 = -1 from by rw [left, if_neg hv]]
    go_wp2
    go_ret
    exact ⟨rfl, hb1⟩
  obtain ⟨L, hL⟩ : ∃ L : Nat, ((1048576 : Nat) : Int) - (Z0 : Int) = (L : Int) := ⟨1048576 - Z0, by omega⟩
  rw [show left 1048576 Z0 = (L : Int) from by rw [left, if_pos hv, hL]]
  have hLl : L ≤ 1048576 := by omega
  have hL0 : ¬ (L : Int) < 0 := by omega
  clear hL
  have cz := szA L hLl w1 (HA'.out.below hb1)
  rw [E1.out] at cz
  go_wp2_with fail
  refine cz.mono ?_
  rintro e w2 ⟨rfl, hb2⟩
  clear cz
  have bb2 := below_trans hb1 hb2
  by_cases hu : Z1 ≤ L
  case neg =>
    rw [show left L Z1 = -1 from by rw [left, if_neg hu]]
    go_wp2
    go_ret
    exact ⟨rfl, bb2⟩
  obtain ⟨Z, hZ⟩ : ∃ Z : Nat, (L : Int) - (Z1 : Int) = (Z : Int) := ⟨L - Z1, by omega⟩
  rw [show left L Z1 = (Z : Int) from by rw [left, if_pos hu, hZ]]
  have hu2 : Z1 ≤ 1048576 := by omega
  have hZ0 : ¬ (Z : Int) < 0 := by omega
  clear hZ
  have cT : ∀ x, Below w.heap.size w x → Calls Try.prog 12 #[.slice A n cap] x fun e w' => ∃ d, e = .returned d ∧ Ars w' n nm it d ∧ Below x.heap.size x w' :=
    fun x hx => (toA (by rw [E0.out]; exact hv) x (HA.out.below hx)).mono fun e w' ⟨d, he, ho, hb⟩ => ⟨d, he, ho.ars, hb⟩
  have cU : ∀ x, Below w.heap.size w x → Calls Try.prog 12 #[.slice A' n' cap'] x fun e w' => ∃ d, e = .returned d ∧ Ars w' n' nm' it' d ∧ Below x.heap.size x w' :=
    fun x hx => (toA (by rw [E1.out]; exact hu2) x (HA'.out.below hx)).mono fun e w' ⟨d, he, ho, hb⟩ => ⟨d, he, ho.ars, hb⟩
  have CT := Lib.hid cT
  have CU := Lib.hid cU
  clear cT cU
  go_wp2_with fail
  refine (CT.out _ bb2).mono ?_
  rintro e x1 ⟨i0, rfl, hx0, hx1⟩
  have bx1 := below_trans bb2 hx1
  go_wp2_with fail
  refine (CU.out _ bx1).mono ?_
  rintro e y1 ⟨j0, rfl, hy0, hy1⟩
  have by1 := below_trans bx1 hy1
  go_wp2_with fail
  refine (smA y1 (hx0.below hy1) hy0).mono ?_
  rintro e w3 ⟨r, rfl, hr, hb3⟩
  have HR := Lib.hid hr
  have bb3 := below_trans by1 hb3
  clear hr hx0 hy0
  go_wp2_with fail
  refine (CT.out _ bb3).mono ?_
  rintro e w4 ⟨k0, rfl, hk0, hb4⟩
  have bb4 := below_trans bb3 hb4
  go_wp2_with fail
  refine (CU.out _ bb4).mono ?_
  rintro e w5 ⟨l0, rfl, hl0, hb5⟩
  have bb5 := below_trans bb4 hb5
  have K0 := Lib.hid (hk0.below hb5)
  have K1 := Lib.hid hl0
  clear hk0 hl0
  go_wp2_with fail
  refine (sameA w5 (by rw [E0.out]; exact hv) K0.out K1.out).mono ?_
  rintro e w6 ⟨r2, rfl, hr2, hb6⟩
  obtain rfl : r2 = r := by
    have h1 := HR.out
    cases r <;> cases r2 <;> simp_all
  clear hr2
  have bb6 := below_trans bb5 hb6
  have rb : (r2 != r2) = false := by simp
  go_wp2_with fail
  refine (CT.out _ bb6).mono ?_
  rintro e w7 ⟨m0, rfl, hm0, hb7⟩
  have bb7 := below_trans bb6 hb7
  go_wp2_with fail
  refine (eqA w7 (K0.out.below (below_trans hb6 hb7)) hm0).mono ?_
  rintro e w8 ⟨rfl, hb8⟩
  have bb8 := below_trans bb7 hb8
  go_wp2_with fail
  refine (CU.out _ bb8).mono ?_
  rintro e w9 ⟨q0, rfl, hq0, hb9⟩
  have bb9 := below_trans bb8 hb9
  go_wp2_with fail
  refine (eqA w9 (K1.out.below (below_trans (below_trans hb6 hb7) (below_trans hb8 hb9))) hq0).mono ?_
  rintro e wa ⟨rfl, hba⟩
  go_wp2
  go_ret
  exact ⟨rfl, below_trans bb9 hba⟩
end Va
end Go.Proofs.Ytngfhncdmlpjiaa
