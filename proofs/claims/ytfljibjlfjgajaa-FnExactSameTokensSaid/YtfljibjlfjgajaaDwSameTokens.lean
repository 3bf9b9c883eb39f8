/- What is proved: the law of SameTokens, walked, from what the model's function and the program's answer. (Made by tools/mkdbw.py.) -/
import Derived.Test.YtfljibjlfjgajaaDbZk
import Derived.Test.YtfljibjlfjgajaaDbEk
import Derived.Test.YtfljibjlfjgajaaDbTk
namespace Go.Proofs.Ytfljibjlfjgajaa
namespace Da
set_option linter.unusedVariables false
set_option linter.unusedSimpArgs false
open Go.RowKit
attribute [local go_sem ↓] Go.wp_at_zero Go.wp_at_succ

set_option maxRecDepth 100000 in
set_option maxHeartbeats 8000000 in
theorem walkSameTokens (d0 : D) (hsh0 : Sh d0 (.lst .token)) (d1 : D) (hsh1 : Sh d1 (.lst .token)) (R : Bool)
    (hS : ∀ (x : World) (c0 c1 : Value), At x d0 c0 → At x d1 c1 → Calls Try.prog 10 #[c0, c1] x fun e w' => e = .returned (.bool R) ∧ Below x.heap.size x w')
    (hI : ∀ (x : World) (c0 c1 : Value), At x d0 c0 → At x d1 c1 → Calls Try.prog 12 #[c0, c1] x fun e w' => e = .returned (.bool R) ∧ Below x.heap.size x w')
    (w : World) (c0 c1 : Value) (ac0 : At w d0 c0) (ac1 : At w d1 c1) :
    Calls Try.prog 4 #[c0, c1] w fun e w' => e = .returned (.bool true) ∧ Below w.heap.size w w' := by
  have HS := Lib.hid hS
  have HI := Lib.hid hI
  clear hS hI
  have Ac0 := Lib.hid ac0
  have Ac1 := Lib.hid ac1
  clear ac0 ac1
  obtain ⟨Z0, hZ0⟩ : ∃ Z, sz d0 = Z := ⟨_, rfl⟩
  have HZ0 := Lib.hid hZ0
  clear hZ0
  obtain ⟨Z1, hZ1⟩ : ∃ Z, sz d1 = Z := ⟨_, rfl⟩
  have HZ1 := Lib.hid hZ1
  clear hZ1
  go_enter Try.func4, Try.ntmps4
  go_wp2_with fail
  have cz : Calls Try.prog 9 #[c0, .int .i64 1048576] w fun e w' => e = .returned (.int .i64 (left 1048576 Z0)) ∧ Below w.heap.size w w' := by
    rw [← HZ0.out]
    exact szTokens hsh0 w 1048576 c0 (by omega) (At.below (Below.refl w.heap.size w) _ Ac0.out)
  by_cases v0 : Z0 ≤ 1048576
  case neg =>
    rw [left_neg v0] at cz
    refine cz.mono ?_
    rintro e w1 ⟨rfl, b1⟩
    go_wp2
    go_ret
    exact ⟨rfl, below_trans (Below.refl w.heap.size w) b1⟩
  rw [left_pos v0] at cz
  obtain ⟨L0, l0⟩ : ∃ L, 1048576 - Z0 = L := ⟨_, rfl⟩
  rw [l0] at cz
  have hL0 : ¬ ((L0 : Nat) : Int) < 0 := by omega
  have mL0 : L0 ≤ 1048576 := by omega
  have GL0 := Lib.hid l0
  clear l0
  refine cz.mono ?_
  rintro e ws0 ⟨rfl, bs0⟩
  clear cz
  have bbs0 := below_trans (Below.refl w.heap.size w) bs0
  go_wp2_with fail
  have cz : Calls Try.prog 9 #[c1, .int .i64 L0] ws0 fun e w' => e = .returned (.int .i64 (left L0 Z1)) ∧ Below ws0.heap.size ws0 w' := by
    rw [← HZ1.out]
    exact szTokens hsh1 ws0 L0 c1 (by omega) (At.below bbs0 _ Ac1.out)
  by_cases v1 : Z1 ≤ L0
  case neg =>
    rw [left_neg v1] at cz
    refine cz.mono ?_
    rintro e w1 ⟨rfl, b1⟩
    go_wp2
    go_ret
    exact ⟨rfl, below_trans bbs0 b1⟩
  rw [left_pos v1] at cz
  obtain ⟨L1, l1⟩ : ∃ L, L0 - Z1 = L := ⟨_, rfl⟩
  rw [l1] at cz
  have hL1 : ¬ ((L1 : Nat) : Int) < 0 := by omega
  have mL1 : L1 ≤ 1048576 := by omega
  have GL1 := Lib.hid l1
  clear l1
  refine cz.mono ?_
  rintro e ws1 ⟨rfl, bs1⟩
  clear cz
  have bbs1 := below_trans bbs0 bs1
  have small0 : sz d0 ≤ 1048576 := by rw [HZ0.out]; omega
  have small1 : sz d1 ≤ 1048576 := by rw [HZ1.out]; omega
  go_wp2_with fail
  refine (toTokens hsh0 ws1 c0 small0 (At.below bbs1 _ Ac0.out)).mono ?_
  rintro e wS0 ⟨vS0, rfl, oS0, bS0⟩
  have qS0_0 := Lib.hid (Own.at _ oS0)
  clear oS0
  have bbS0 := below_trans bbs1 bS0
  go_wp2_with fail
  refine (toTokens hsh1 wS0 c1 small1 (At.below bbS0 _ Ac1.out)).mono ?_
  rintro e wS1 ⟨vS1, rfl, oS1, bS1⟩
  have qS1_0 := Lib.hid (Own.at _ oS1)
  clear oS1
  have bbS1 := below_trans bbS0 bS1
  have y0 := bS1
  go_wp2_with fail
  refine (HS.out wS1 (vS0) (vS1) (At.below y0 _ qS0_0.out) qS1_0.out).mono ?_
  rintro e wsp ⟨rfl, bsp⟩
  have y1 := below_trans y0 bsp
  have y2 := bsp
  have bbsp := below_trans bbS1 bsp
  go_wp2_with fail
  refine (toTokens hsh0 wsp c0 small0 (At.below bbsp _ Ac0.out)).mono ?_
  rintro e wI0 ⟨vI0, rfl, oI0, bI0⟩
  have qI0_0 := Lib.hid (Own.at _ oI0)
  clear oI0
  have bbI0 := below_trans bbsp bI0
  have y3 := below_trans y1 bI0
  have y4 := below_trans y2 bI0
  go_wp2_with fail
  refine (toTokens hsh1 wI0 c1 small1 (At.below bbI0 _ Ac1.out)).mono ?_
  rintro e wI1 ⟨vI1, rfl, oI1, bI1⟩
  have qI1_0 := Lib.hid (Own.at _ oI1)
  clear oI1
  have bbI1 := below_trans bbI0 bI1
  have y5 := below_trans y3 bI1
  have y6 := below_trans y4 bI1
  have y7 := bI1
  go_wp2_with fail
  refine (HI.out wI1 (vI0) (vI1) (At.below y7 _ qI0_0.out) qI1_0.out).mono ?_
  rintro e wim ⟨rfl, bim⟩
  have y8 := below_trans y5 bim
  have y9 := below_trans y6 bim
  have y10 := below_trans y7 bim
  have y11 := bim
  have bbim := below_trans bbI1 bim
  go_wp2_with fail
  refine (toTokens hsh0 wim c0 small0 (At.below bbim _ Ac0.out)).mono ?_
  rintro e wE0 ⟨vE0, rfl, oE0, bE0⟩
  have qE0_0 := Lib.hid (Own.at _ oE0)
  clear oE0
  have bbE0 := below_trans bbim bE0
  have y12 := below_trans y8 bE0
  have y13 := below_trans y9 bE0
  have y14 := below_trans y10 bE0
  have y15 := below_trans y11 bE0
  go_wp2_with fail
  refine (eqTokens hsh0 wE0 (vI0) vE0 (At.below y14 _ qI0_0.out) qE0_0.out).mono ?_
  rintro e wq0 ⟨rfl, bq0⟩
  have y16 := below_trans y12 bq0
  have y17 := below_trans y13 bq0
  have y18 := below_trans y14 bq0
  have y19 := below_trans y15 bq0
  have y20 := bq0
  have bbq0 := below_trans bbE0 bq0
  go_wp2_with fail
  refine (toTokens hsh1 wq0 c1 small1 (At.below bbq0 _ Ac1.out)).mono ?_
  rintro e wE1 ⟨vE1, rfl, oE1, bE1⟩
  have qE1_0 := Lib.hid (Own.at _ oE1)
  clear oE1
  have bbE1 := below_trans bbq0 bE1
  have y21 := below_trans y16 bE1
  have y22 := below_trans y17 bE1
  have y23 := below_trans y18 bE1
  have y24 := below_trans y19 bE1
  have y25 := below_trans y20 bE1
  go_wp2_with fail
  refine (eqTokens hsh1 wE1 (vI1) vE1 (At.below y24 _ qI1_0.out) qE1_0.out).mono ?_
  rintro e wq1 ⟨rfl, bq1⟩
  have y26 := below_trans y21 bq1
  have y27 := below_trans y22 bq1
  have y28 := below_trans y23 bq1
  have y29 := below_trans y24 bq1
  have y30 := below_trans y25 bq1
  have y31 := bq1
  have bbq1 := below_trans bbE1 bq1
  go_wp2
  go_ret
  exact ⟨rfl, bbq1⟩
end Da
end Go.Proofs.Ytfljibjlfjgajaa
