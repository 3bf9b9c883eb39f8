/- What is proved: the program's test whether two items are the same. (Made by tools/mkdc.py.) -/
import Derived.Test.YtngfhncdmlpjiaaGreatDcPg
import Derived.Test.YtngfhncdmlpjiaaGreatDcPo
namespace Go.Proofs.YtngfhncdmlpjiaaGreat
namespace Dc
set_option linter.unusedVariables false
set_option linter.unusedSimpArgs false
open Go.RowKit Da
attribute [local go_sem ↓] Go.wp_at_zero Go.wp_at_succ

set_option maxHeartbeats 4000000 in
theorem itemI {r r' : Nat → D} (hs : ∀ j g, (row .item)[j]? = some g → Sh (r j) g) (hs' : ∀ j g, (row .item)[j]? = some g → Sh (r' j) g)
    (hz : sumTo (fun j => sz (r j)) 21 ≤ 1048576) : CmpR 16 21 (smR 21 r r') r r' := by
  intro w cs ds hcl hdl ha hb
  obtain ⟨c0, c1, c2, c3, c4, c5, c6, c7, c8, c9, c10, c11, c12, c13, c14, c15, c16, c17, c18, c19, c20, rfl⟩ := lnB21 hcl
  obtain ⟨d0, d1, d2, d3, d4, d5, d6, d7, d8, d9, d10, d11, d12, d13, d14, d15, d16, d17, d18, d19, d20, rfl⟩ := lnB21 hdl
  have a0 := ha 0 _ rfl
  have b0 := hb 0 _ rfl
  have a1 := ha 1 _ rfl
  have b1 := hb 1 _ rfl
  have a2 := ha 2 _ rfl
  have b2 := hb 2 _ rfl
  have a3 := ha 3 _ rfl
  have b3 := hb 3 _ rfl
  have a4 := ha 4 _ rfl
  have b4 := hb 4 _ rfl
  have a5 := ha 5 _ rfl
  have b5 := hb 5 _ rfl
  have a6 := ha 6 _ rfl
  have b6 := hb 6 _ rfl
  have a7 := ha 7 _ rfl
  have b7 := hb 7 _ rfl
  have a8 := ha 8 _ rfl
  have b8 := hb 8 _ rfl
  have a9 := ha 9 _ rfl
  have b9 := hb 9 _ rfl
  have a10 := ha 10 _ rfl
  have b10 := hb 10 _ rfl
  have a11 := ha 11 _ rfl
  have b11 := hb 11 _ rfl
  have a12 := ha 12 _ rfl
  have b12 := hb 12 _ rfl
  have a13 := ha 13 _ rfl
  have b13 := hb 13 _ rfl
  have a14 := ha 14 _ rfl
  have b14 := hb 14 _ rfl
  have a15 := ha 15 _ rfl
  have b15 := hb 15 _ rfl
  have a16 := ha 16 _ rfl
  have b16 := hb 16 _ rfl
  have a17 := ha 17 _ rfl
  have b17 := hb 17 _ rfl
  have a18 := ha 18 _ rfl
  have b18 := hb 18 _ rfl
  have a19 := ha 19 _ rfl
  have b19 := hb 19 _ rfl
  have a20 := ha 20 _ rfl
  have b20 := hb 20 _ rfl
  clear ha hb hcl hdl
  obtain ⟨k0, e0⟩ := (hs 0 _ rfl).int
  rw [e0] at a0
  obtain rfl : c0 = Value.int .i64 k0 := a0
  obtain ⟨k0', e0'⟩ := (hs' 0 _ rfl).int
  rw [e0'] at b0
  obtain rfl : d0 = Value.int .i64 k0' := b0
  have hrow : smR 21 r r' = ((k0 == k0') && (smR 5 (fun i => r (i + 1)) (fun i => r' (i + 1)) && (smR 4 (fun i => r (i + 6)) (fun i => r' (i + 6)) && smR 11 (fun i => r (i + 10)) (fun i => r' (i + 10))))) := by simp only [smR, allB, Bool.true_and, Bool.and_assoc, e0, e0', sm_int]
  have HR := Lib.hid hrow
  clear hrow
  have HC1 := opI (r := fun i => r (i + 1)) (r' := fun i => r' (i + 1)) (shl_cons (hs 1 _ rfl) (shl_cons (hs 2 _ rfl) (shl_cons (hs 3 _ rfl) (shl_cons (hs 4 _ rfl) (shl_cons (hs 5 _ rfl) shl_nil))))) (shl_cons (hs' 1 _ rfl) (shl_cons (hs' 2 _ rfl) (shl_cons (hs' 3 _ rfl) (shl_cons (hs' 4 _ rfl) (shl_cons (hs' 5 _ rfl) shl_nil))))) (by simp only [sumTo] at hz; show (((((0 + sz (r 1)) + sz (r 2)) + sz (r 3)) + sz (r 4)) + sz (r 5)) ≤ 1048576; omega)
  obtain ⟨x1, hx1⟩ : ∃ x, smR 5 (fun i => r (i + 1)) (fun i => r' (i + 1)) = x := ⟨_, rfl⟩
  unfold CmpR at HC1
  rw [hx1] at HR HC1
  replace HC1 := Lib.hid HC1
  have HC6 := fragI (r := fun i => r (i + 6)) (r' := fun i => r' (i + 6)) (shl_cons (hs 6 _ rfl) (shl_cons (hs 7 _ rfl) (shl_cons (hs 8 _ rfl) (shl_cons (hs 9 _ rfl) shl_nil)))) (shl_cons (hs' 6 _ rfl) (shl_cons (hs' 7 _ rfl) (shl_cons (hs' 8 _ rfl) (shl_cons (hs' 9 _ rfl) shl_nil)))) (by simp only [sumTo] at hz; show ((((0 + sz (r 6)) + sz (r 7)) + sz (r 8)) + sz (r 9)) ≤ 1048576; omega)
  obtain ⟨x6, hx6⟩ : ∃ x, smR 4 (fun i => r (i + 6)) (fun i => r' (i + 6)) = x := ⟨_, rfl⟩
  unfold CmpR at HC6
  rw [hx6] at HR HC6
  replace HC6 := Lib.hid HC6
  have HC10 := defI (r := fun i => r (i + 10)) (r' := fun i => r' (i + 10)) (shl_cons (hs 10 _ rfl) (shl_cons (hs 11 _ rfl) (shl_cons (hs 12 _ rfl) (shl_cons (hs 13 _ rfl) (shl_cons (hs 14 _ rfl) (shl_cons (hs 15 _ rfl) (shl_cons (hs 16 _ rfl) (shl_cons (hs 17 _ rfl) (shl_cons (hs 18 _ rfl) (shl_cons (hs 19 _ rfl) (shl_cons (hs 20 _ rfl) shl_nil))))))))))) (shl_cons (hs' 10 _ rfl) (shl_cons (hs' 11 _ rfl) (shl_cons (hs' 12 _ rfl) (shl_cons (hs' 13 _ rfl) (shl_cons (hs' 14 _ rfl) (shl_cons (hs' 15 _ rfl) (shl_cons (hs' 16 _ rfl) (shl_cons (hs' 17 _ rfl) (shl_cons (hs' 18 _ rfl) (shl_cons (hs' 19 _ rfl) (shl_cons (hs' 20 _ rfl) shl_nil))))))))))) (by simp only [sumTo] at hz; show (((((((((((0 + sz (r 10)) + sz (r 11)) + sz (r 12)) + sz (r 13)) + sz (r 14)) + sz (r 15)) + sz (r 16)) + sz (r 17)) + sz (r 18)) + sz (r 19)) + sz (r 20)) ≤ 1048576; omega)
  obtain ⟨x10, hx10⟩ : ∃ x, smR 11 (fun i => r (i + 10)) (fun i => r' (i + 10)) = x := ⟨_, rfl⟩
  unfold CmpR at HC10
  rw [hx10] at HR HC10
  replace HC10 := Lib.hid HC10
  obtain ⟨S, hS⟩ : ∃ S, smR 21 r r' = S := ⟨_, rfl⟩
  rw [hS]
  have HS := Lib.hid hS
  clear hS
  clear e0 e0'
  by_cases h0 : k0 = k0'
  case neg =>
    have hx : (k0 == k0') = false := by simp [h0]
    have hn : smR 21 r r' = false := by rw [HR.out, hx]; simp
    go_enter Tryz.func16, Tryz.ntmps16
    obtain rfl : S = false := HS.out.symm.trans hn
    clear hn
    go_wp2
    go_ret
    exact ⟨rfl, (twoNew w _ _).2.2⟩
  subst h0
  go_enter Tryz.func16, Tryz.ntmps16
  go_wp2_with fail
  obtain ⟨W1, hW1⟩ : ∃ W1, ((w.alloc (Obj.cells #[Value.int .i64 k0, c1, c2, c3, c4, c5, c6, c7, c8, c9, c10, c11, c12, c13, c14, c15, c16, c17, c18, c19, c20] 48)).alloc (Obj.cells #[Value.int .i64 k0, d1, d2, d3, d4, d5, d6, d7, d8, d9, d10, d11, d12, d13, d14, d15, d16, d17, d18, d19, d20] 48)) = W1 := ⟨_, rfl⟩
  have ba : Below w.heap.size w W1 := by rw [← hW1]; exact (twoNew w _ _).2.2
  have B0 : W1.heap[w.heap.size]? = some (Obj.cells #[Value.int .i64 k0, c1, c2, c3, c4, c5, c6, c7, c8, c9, c10, c11, c12, c13, c14, c15, c16, c17, c18, c19, c20] 48) := by rw [← hW1]; exact (twoNew w _ _).1
  have B1 : W1.heap[w.heap.size + 1]? = some (Obj.cells #[Value.int .i64 k0, d1, d2, d3, d4, d5, d6, d7, d8, d9, d10, d11, d12, d13, d14, d15, d16, d17, d18, d19, d20] 48) := by rw [← hW1]; exact (twoNew w _ _).2.1
  rw [hW1]
  clear hW1
  have P6 := fun X : Gr W1 => X.cell (show W1.cell? ⟨w.heap.size, 6, none⟩ = some (c6) by rw [cellOf B0]; rfl)
  have Q6 := fun X : Gr W1 => X.cell (show W1.cell? ⟨w.heap.size + 1, 6, none⟩ = some (d6) by rw [cellOf B1]; rfl)
  have P7 := fun X : Gr W1 => X.cell (show W1.cell? ⟨w.heap.size, 7, none⟩ = some (c7) by rw [cellOf B0]; rfl)
  have Q7 := fun X : Gr W1 => X.cell (show W1.cell? ⟨w.heap.size + 1, 7, none⟩ = some (d7) by rw [cellOf B1]; rfl)
  have P8 := fun X : Gr W1 => X.cell (show W1.cell? ⟨w.heap.size, 8, none⟩ = some (c8) by rw [cellOf B0]; rfl)
  have Q8 := fun X : Gr W1 => X.cell (show W1.cell? ⟨w.heap.size + 1, 8, none⟩ = some (d8) by rw [cellOf B1]; rfl)
  have P9 := fun X : Gr W1 => X.cell (show W1.cell? ⟨w.heap.size, 9, none⟩ = some (c9) by rw [cellOf B0]; rfl)
  have Q9 := fun X : Gr W1 => X.cell (show W1.cell? ⟨w.heap.size + 1, 9, none⟩ = some (d9) by rw [cellOf B1]; rfl)
  have P10 := fun X : Gr W1 => X.cell (show W1.cell? ⟨w.heap.size, 10, none⟩ = some (c10) by rw [cellOf B0]; rfl)
  have Q10 := fun X : Gr W1 => X.cell (show W1.cell? ⟨w.heap.size + 1, 10, none⟩ = some (d10) by rw [cellOf B1]; rfl)
  have P11 := fun X : Gr W1 => X.cell (show W1.cell? ⟨w.heap.size, 11, none⟩ = some (c11) by rw [cellOf B0]; rfl)
  have Q11 := fun X : Gr W1 => X.cell (show W1.cell? ⟨w.heap.size + 1, 11, none⟩ = some (d11) by rw [cellOf B1]; rfl)
  have P12 := fun X : Gr W1 => X.cell (show W1.cell? ⟨w.heap.size, 12, none⟩ = some (c12) by rw [cellOf B0]; rfl)
  have Q12 := fun X : Gr W1 => X.cell (show W1.cell? ⟨w.heap.size + 1, 12, none⟩ = some (d12) by rw [cellOf B1]; rfl)
  have P13 := fun X : Gr W1 => X.cell (show W1.cell? ⟨w.heap.size, 13, none⟩ = some (c13) by rw [cellOf B0]; rfl)
  have Q13 := fun X : Gr W1 => X.cell (show W1.cell? ⟨w.heap.size + 1, 13, none⟩ = some (d13) by rw [cellOf B1]; rfl)
  have P14 := fun X : Gr W1 => X.cell (show W1.cell? ⟨w.heap.size, 14, none⟩ = some (c14) by rw [cellOf B0]; rfl)
  have Q14 := fun X : Gr W1 => X.cell (show W1.cell? ⟨w.heap.size + 1, 14, none⟩ = some (d14) by rw [cellOf B1]; rfl)
  have P15 := fun X : Gr W1 => X.cell (show W1.cell? ⟨w.heap.size, 15, none⟩ = some (c15) by rw [cellOf B0]; rfl)
  have Q15 := fun X : Gr W1 => X.cell (show W1.cell? ⟨w.heap.size + 1, 15, none⟩ = some (d15) by rw [cellOf B1]; rfl)
  have P16 := fun X : Gr W1 => X.cell (show W1.cell? ⟨w.heap.size, 16, none⟩ = some (c16) by rw [cellOf B0]; rfl)
  have Q16 := fun X : Gr W1 => X.cell (show W1.cell? ⟨w.heap.size + 1, 16, none⟩ = some (d16) by rw [cellOf B1]; rfl)
  have P17 := fun X : Gr W1 => X.cell (show W1.cell? ⟨w.heap.size, 17, none⟩ = some (c17) by rw [cellOf B0]; rfl)
  have Q17 := fun X : Gr W1 => X.cell (show W1.cell? ⟨w.heap.size + 1, 17, none⟩ = some (d17) by rw [cellOf B1]; rfl)
  have P18 := fun X : Gr W1 => X.cell (show W1.cell? ⟨w.heap.size, 18, none⟩ = some (c18) by rw [cellOf B0]; rfl)
  have Q18 := fun X : Gr W1 => X.cell (show W1.cell? ⟨w.heap.size + 1, 18, none⟩ = some (d18) by rw [cellOf B1]; rfl)
  have P19 := fun X : Gr W1 => X.cell (show W1.cell? ⟨w.heap.size, 19, none⟩ = some (c19) by rw [cellOf B0]; rfl)
  have Q19 := fun X : Gr W1 => X.cell (show W1.cell? ⟨w.heap.size + 1, 19, none⟩ = some (d19) by rw [cellOf B1]; rfl)
  have P20 := fun X : Gr W1 => X.cell (show W1.cell? ⟨w.heap.size, 20, none⟩ = some (c20) by rw [cellOf B0]; rfl)
  have Q20 := fun X : Gr W1 => X.cell (show W1.cell? ⟨w.heap.size + 1, 20, none⟩ = some (d20) by rw [cellOf B1]; rfl)
  have HB0 := Lib.hid B0
  have HB1 := Lib.hid B1
  clear B0 B1
  refine (gr_call (X := (⟨W1, Below.refl _ _⟩ : Gr W1)) (HC1.out W1 [c1, c2, c3, c4, c5] [d1, d2, d3, d4, d5] rfl rfl (atl_below ba (atl_cons a1 (atl_cons a2 (atl_cons a3 (atl_cons a4 (atl_cons a5 atl_nil)))))) (atl_below ba (atl_cons b1 (atl_cons b2 (atl_cons b3 (atl_cons b4 (atl_cons b5 atl_nil)))))))).mono ?_
  rintro e _ ⟨rfl, X1, rfl⟩
  cases x1
  case false =>
    have hn : smR 21 r r' = false := by rw [HR.out]; simp
    obtain rfl : S = false := HS.out.symm.trans hn
    clear hn
    go_wp2
    go_ret
    exact ⟨rfl, (below_trans ba X1.below)⟩
  go_wp2_with fail
  refine (gr_call (X := X1) (HC6.out X1.W [c6, c7, c8, c9] [d6, d7, d8, d9] rfl rfl (atl_below (below_trans ba X1.below) (atl_cons a6 (atl_cons a7 (atl_cons a8 (atl_cons a9 atl_nil))))) (atl_below (below_trans ba X1.below) (atl_cons b6 (atl_cons b7 (atl_cons b8 (atl_cons b9 atl_nil))))))).mono ?_
  rintro e _ ⟨rfl, X6, rfl⟩
  cases x6
  case false =>
    have hn : smR 21 r r' = false := by rw [HR.out]; simp
    obtain rfl : S = false := HS.out.symm.trans hn
    clear hn
    go_wp2
    go_ret
    exact ⟨rfl, (below_trans ba X6.below)⟩
  go_wp2_with fail
  refine (gr_call (X := X6) (HC10.out X6.W [c10, c11, c12, c13, c14, c15, c16, c17, c18, c19, c20] [d10, d11, d12, d13, d14, d15, d16, d17, d18, d19, d20] rfl rfl (atl_below (below_trans ba X6.below) (atl_cons a10 (atl_cons a11 (atl_cons a12 (atl_cons a13 (atl_cons a14 (atl_cons a15 (atl_cons a16 (atl_cons a17 (atl_cons a18 (atl_cons a19 (atl_cons a20 atl_nil)))))))))))) (atl_below (below_trans ba X6.below) (atl_cons b10 (atl_cons b11 (atl_cons b12 (atl_cons b13 (atl_cons b14 (atl_cons b15 (atl_cons b16 (atl_cons b17 (atl_cons b18 (atl_cons b19 (atl_cons b20 atl_nil)))))))))))))).mono ?_
  rintro e _ ⟨rfl, X10, rfl⟩
  cases x10
  case false =>
    have hn : smR 21 r r' = false := by rw [HR.out]; simp
    obtain rfl : S = false := HS.out.symm.trans hn
    clear hn
    go_wp2
    go_ret
    exact ⟨rfl, (below_trans ba X10.below)⟩
  have hy : smR 21 r r' = true := by rw [HR.out]; simp
  obtain rfl : S = true := HS.out.symm.trans hy
  clear hy
  go_wp2
  go_ret
  exact ⟨rfl, (below_trans ba X10.below)⟩

end Dc
end Go.Proofs.YtngfhncdmlpjiaaGreat
