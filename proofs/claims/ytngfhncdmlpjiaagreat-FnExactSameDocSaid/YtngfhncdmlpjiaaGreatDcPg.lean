/- What is proved: the program's test whether two definitions are the same. (Made by tools/mkdc.py.) -/
import Derived.Test.YtngfhncdmlpjiaaGreatDcPf
namespace Go.Proofs.YtngfhncdmlpjiaaGreat
namespace Dc
set_option linter.unusedVariables false
set_option linter.unusedSimpArgs false
open Go.RowKit Da
attribute [local go_sem ↓] Go.wp_at_zero Go.wp_at_succ

set_option maxHeartbeats 4000000 in
theorem listsI {r r' : Nat → D} (hs : ∀ j g, (row .defn)[j]? = some g → Sh (r j) g) (hs' : ∀ j g, (row .defn)[j]? = some g → Sh (r' j) g)
    (hz : sumTo (fun j => sz (r j)) 11 ≤ 1048576) : CmpR 37 11 (smLs r r') r r' := by
  intro w cs ds hcl hdl ha hb
  obtain ⟨c0, c1, c2, c3, c4, c5, c6, c7, c8, c9, c10, rfl⟩ := lnB11 hcl
  obtain ⟨d0, d1, d2, d3, d4, d5, d6, d7, d8, d9, d10, rfl⟩ := lnB11 hdl
  have a0 := ha 0 _ rfl
  have b0 := hb 0 _ rfl
  have a1 := ha 1 _ rfl
  have b1 := hb 1 _ rfl
  have a2 := ha 2 _ rfl
  have b2 := hb 2 _ rfl
  have a3 := ha 3 _ rfl
  have b3 := hb 3 _ rfl
  have a4 := ha 4 _ rfl
  have b4 := hb 4 _ rfl
  have a5 := ha 5 _ rfl
  have b5 := hb 5 _ rfl
  have a6 := ha 6 _ rfl
  have b6 := hb 6 _ rfl
  have a7 := ha 7 _ rfl
  have b7 := hb 7 _ rfl
  have a8 := ha 8 _ rfl
  have b8 := hb 8 _ rfl
  have a9 := ha 9 _ rfl
  have b9 := hb 9 _ rfl
  have a10 := ha 10 _ rfl
  have b10 := hb 10 _ rfl
  clear ha hb hcl hdl
  have hrow : smLs r r' = (sm (r 4) (r' 4) && (sm (r 5) (r' 5) && (sm (r 6) (r' 6) && (sm (r 7) (r' 7) && (sm (r 8) (r' 8) && sm (r 10) (r' 10)))))) := rfl
  have HR := Lib.hid hrow
  clear hrow
  have HC4 := stringsI (hs 4 _ rfl) (hs' 4 _ rfl)
  obtain ⟨x4, hx4⟩ : ∃ x, sm (r 4) (r' 4) = x := ⟨_, rfl⟩
  unfold CmpL at HC4
  rw [hx4] at HR HC4
  replace HC4 := Lib.hid HC4
  have HC5 := eqFF (hs 5 _ rfl) (hs' 5 _ rfl) (by simp only [sumTo] at hz; omega)
  obtain ⟨x5, hx5⟩ : ∃ x, sm (r 5) (r' 5) = x := ⟨_, rfl⟩
  unfold CmpF at HC5
  rw [hx5] at HR HC5
  replace HC5 := Lib.hid HC5
  have HC6 := eqFI (hs 6 _ rfl) (hs' 6 _ rfl) (by simp only [sumTo] at hz; omega)
  obtain ⟨x6, hx6⟩ : ∃ x, sm (r 6) (r' 6) = x := ⟨_, rfl⟩
  unfold CmpF at HC6
  rw [hx6] at HR HC6
  replace HC6 := Lib.hid HC6
  have HC7 := eqFE (hs 7 _ rfl) (hs' 7 _ rfl) (by simp only [sumTo] at hz; omega)
  obtain ⟨x7, hx7⟩ : ∃ x, sm (r 7) (r' 7) = x := ⟨_, rfl⟩
  unfold CmpF at HC7
  rw [hx7] at HR HC7
  replace HC7 := Lib.hid HC7
  have HC8 := rootsI (hs 8 _ rfl) (hs' 8 _ rfl)
  obtain ⟨x8, hx8⟩ : ∃ x, sm (r 8) (r' 8) = x := ⟨_, rfl⟩
  unfold CmpL at HC8
  rw [hx8] at HR HC8
  replace HC8 := Lib.hid HC8
  have HC10 := dirsI (hs 10 _ rfl) (hs' 10 _ rfl) (by simp only [sumTo] at hz; omega)
  obtain ⟨x10, hx10⟩ : ∃ x, sm (r 10) (r' 10) = x := ⟨_, rfl⟩
  unfold CmpL at HC10
  rw [hx10] at HR HC10
  replace HC10 := Lib.hid HC10
  obtain ⟨S, hS⟩ : ∃ S, smLs r r' = S := ⟨_, rfl⟩
  rw [hS]
  have HS := Lib.hid hS
  clear hS
  go_enter Tryz.func37, Tryz.ntmps37
  go_wp2_with fail
  obtain ⟨W1, hW1⟩ : ∃ W1, ((w.alloc (Obj.cells #[c0, c1, c2, c3, c4, c5, c6, c7, c8, c9, c10] 46)).alloc (Obj.cells #[d0, d1, d2, d3, d4, d5, d6, d7, d8, d9, d10] 46)) = W1 := ⟨_, rfl⟩
  have ba : Below w.heap.size w W1 := by rw [← hW1]; exact (twoNew w _ _).2.2
  have B0 : W1.heap[w.heap.size]? = some (Obj.cells #[c0, c1, c2, c3, c4, c5, c6, c7, c8, c9, c10] 46) := by rw [← hW1]; exact (twoNew w _ _).1
  have B1 : W1.heap[w.heap.size + 1]? = some (Obj.cells #[d0, d1, d2, d3, d4, d5, d6, d7, d8, d9, d10] 46) := by rw [← hW1]; exact (twoNew w _ _).2.1
  rw [hW1]
  clear hW1
  have P5 := fun X : Gr W1 => X.cell (show W1.cell? ⟨w.heap.size, 5, none⟩ = some (c5) by rw [cellOf B0]; rfl)
  have Q5 := fun X : Gr W1 => X.cell (show W1.cell? ⟨w.heap.size + 1, 5, none⟩ = some (d5) by rw [cellOf B1]; rfl)
  have P6 := fun X : Gr W1 => X.cell (show W1.cell? ⟨w.heap.size, 6, none⟩ = some (c6) by rw [cellOf B0]; rfl)
  have Q6 := fun X : Gr W1 => X.cell (show W1.cell? ⟨w.heap.size + 1, 6, none⟩ = some (d6) by rw [cellOf B1]; rfl)
  have P7 := fun X : Gr W1 => X.cell (show W1.cell? ⟨w.heap.size, 7, none⟩ = some (c7) by rw [cellOf B0]; rfl)
  have Q7 := fun X : Gr W1 => X.cell (show W1.cell? ⟨w.heap.size + 1, 7, none⟩ = some (d7) by rw [cellOf B1]; rfl)
  have P8 := fun X : Gr W1 => X.cell (show W1.cell? ⟨w.heap.size, 8, none⟩ = some (c8) by rw [cellOf B0]; rfl)
  have Q8 := fun X : Gr W1 => X.cell (show W1.cell? ⟨w.heap.size + 1, 8, none⟩ = some (d8) by rw [cellOf B1]; rfl)
  have P10 := fun X : Gr W1 => X.cell (show W1.cell? ⟨w.heap.size, 10, none⟩ = some (c10) by rw [cellOf B0]; rfl)
  have Q10 := fun X : Gr W1 => X.cell (show W1.cell? ⟨w.heap.size + 1, 10, none⟩ = some (d10) by rw [cellOf B1]; rfl)
  have HB0 := Lib.hid B0
  have HB1 := Lib.hid B1
  clear B0 B1
  refine (gr_call (X := (⟨W1, Below.refl _ _⟩ : Gr W1)) (HC4.out W1 _ _ (At.below ba _ a4) (At.below ba _ b4))).mono ?_
  rintro e _ ⟨rfl, X4, rfl⟩
  cases x4
  case false =>
    have hn : smLs r r' = false := by rw [HR.out]; simp
    obtain rfl : S = false := HS.out.symm.trans hn
    clear hn
    go_wp2
    go_ret
    exact ⟨rfl, (below_trans ba X4.below)⟩
  go_wp2_with fail
  refine (gr_call (X := X4) (HC5.out X4.W _ _ (At.below (below_trans ba X4.below) _ a5) (At.below (below_trans ba X4.below) _ b5))).mono ?_
  rintro e _ ⟨rfl, X5, rfl⟩
  cases x5
  case false =>
    have hn : smLs r r' = false := by rw [HR.out]; simp
    obtain rfl : S = false := HS.out.symm.trans hn
    clear hn
    go_wp2
    go_ret
    exact ⟨rfl, (below_trans ba X5.below)⟩
  go_wp2_with fail
  refine (gr_call (X := X5) (HC6.out X5.W _ _ (At.below (below_trans ba X5.below) _ a6) (At.below (below_trans ba X5.below) _ b6))).mono ?_
  rintro e _ ⟨rfl, X6, rfl⟩
  cases x6
  case false =>
    have hn : smLs r r' = false := by rw [HR.out]; simp
    obtain rfl : S = false := HS.out.symm.trans hn
    clear hn
    go_wp2
    go_ret
    exact ⟨rfl, (below_trans ba X6.below)⟩
  go_wp2_with fail
  refine (gr_call (X := X6) (HC7.out X6.W _ _ (At.below (below_trans ba X6.below) _ a7) (At.below (below_trans ba X6.below) _ b7))).mono ?_
  rintro e _ ⟨rfl, X7, rfl⟩
  cases x7
  case false =>
    have hn : smLs r r' = false := by rw [HR.out]; simp
    obtain rfl : S = false := HS.out.symm.trans hn
    clear hn
    go_wp2
    go_ret
    exact ⟨rfl, (below_trans ba X7.below)⟩
  go_wp2_with fail
  refine (gr_call (X := X7) (HC8.out X7.W _ _ (At.below (below_trans ba X7.below) _ a8) (At.below (below_trans ba X7.below) _ b8))).mono ?_
  rintro e _ ⟨rfl, X8, rfl⟩
  cases x8
  case false =>
    have hn : smLs r r' = false := by rw [HR.out]; simp
    obtain rfl : S = false := HS.out.symm.trans hn
    clear hn
    go_wp2
    go_ret
    exact ⟨rfl, (below_trans ba X8.below)⟩
  go_wp2_with fail
  refine (gr_call (X := X8) (HC10.out X8.W _ _ (At.below (below_trans ba X8.below) _ a10) (At.below (below_trans ba X8.below) _ b10))).mono ?_
  rintro e _ ⟨rfl, X10, rfl⟩
  cases x10
  case false =>
    have hn : smLs r r' = false := by rw [HR.out]; simp
    obtain rfl : S = false := HS.out.symm.trans hn
    clear hn
    go_wp2
    go_ret
    exact ⟨rfl, (below_trans ba X10.below)⟩
  have hy : smLs r r' = true := by rw [HR.out]; simp
  obtain rfl : S = true := HS.out.symm.trans hy
  clear hy
  go_wp2
  go_ret
  exact ⟨rfl, (below_trans ba X10.below)⟩

set_option maxHeartbeats 4000000 in
theorem defI {r r' : Nat → D} (hs : ∀ j g, (row .defn)[j]? = some g → Sh (r j) g) (hs' : ∀ j g, (row .defn)[j]? = some g → Sh (r' j) g)
    (hz : sumTo (fun j => sz (r j)) 11 ≤ 1048576) : CmpR 25 11 (smR 11 r r') r r' := by
  intro w cs ds hcl hdl ha hb
  obtain ⟨c0, c1, c2, c3, c4, c5, c6, c7, c8, c9, c10, rfl⟩ := lnB11 hcl
  obtain ⟨d0, d1, d2, d3, d4, d5, d6, d7, d8, d9, d10, rfl⟩ := lnB11 hdl
  have a0 := ha 0 _ rfl
  have b0 := hb 0 _ rfl
  have a1 := ha 1 _ rfl
  have b1 := hb 1 _ rfl
  have a2 := ha 2 _ rfl
  have b2 := hb 2 _ rfl
  have a3 := ha 3 _ rfl
  have b3 := hb 3 _ rfl
  have a4 := ha 4 _ rfl
  have b4 := hb 4 _ rfl
  have a5 := ha 5 _ rfl
  have b5 := hb 5 _ rfl
  have a6 := ha 6 _ rfl
  have b6 := hb 6 _ rfl
  have a7 := ha 7 _ rfl
  have b7 := hb 7 _ rfl
  have a8 := ha 8 _ rfl
  have b8 := hb 8 _ rfl
  have a9 := ha 9 _ rfl
  have b9 := hb 9 _ rfl
  have a10 := ha 10 _ rfl
  have b10 := hb 10 _ rfl
  clear hcl hdl
  obtain ⟨k0, e0⟩ := (hs 0 _ rfl).int
  rw [e0] at a0
  obtain rfl : c0 = Value.int .i64 k0 := a0
  obtain ⟨k0', e0'⟩ := (hs' 0 _ rfl).int
  rw [e0'] at b0
  obtain rfl : d0 = Value.int .i64 k0' := b0
  obtain ⟨p1, e1⟩ := (hs 1 _ rfl).bool
  rw [e1] at a1
  obtain rfl : c1 = Value.bool p1 := a1
  obtain ⟨p1', e1'⟩ := (hs' 1 _ rfl).bool
  rw [e1'] at b1
  obtain rfl : d1 = Value.bool p1' := b1
  obtain ⟨t2, e2⟩ := (hs 2 _ rfl).str
  rw [e2] at a2
  obtain ⟨rfl, -⟩ := a2
  obtain ⟨t2', e2'⟩ := (hs' 2 _ rfl).str
  rw [e2'] at b2
  obtain ⟨rfl, -⟩ := b2
  obtain ⟨t3, e3⟩ := (hs 3 _ rfl).str
  rw [e3] at a3
  obtain ⟨rfl, -⟩ := a3
  obtain ⟨t3', e3'⟩ := (hs' 3 _ rfl).str
  rw [e3'] at b3
  obtain ⟨rfl, -⟩ := b3
  obtain ⟨p9, e9⟩ := (hs 9 _ rfl).bool
  rw [e9] at a9
  obtain rfl : c9 = Value.bool p9 := a9
  obtain ⟨p9', e9'⟩ := (hs' 9 _ rfl).bool
  rw [e9'] at b9
  obtain rfl : d9 = Value.bool p9' := b9
  have HWa := Lib.hid ha
  have HWb := Lib.hid hb
  have hrow : smR 11 r r' = ((k0 == k0') && ((p1 == p1') && ((t2.toList == t2'.toList) && ((t3.toList == t3'.toList) && ((p9 == p9') && smLs r r'))))) := by
    simp only [smR, allB, Bool.true_and, Bool.and_assoc, e0, e0', e1, e1', e2, e2', e3, e3', e9, e9', sm_int, sm_str, sm_bool, smLs]
    generalize (p9 == p9') = y
    cases y <;> simp
  have HR := Lib.hid hrow
  clear hrow
  have HC99 := listsI hs hs' hz
  obtain ⟨x99, hx99⟩ : ∃ x, smLs r r' = x := ⟨_, rfl⟩
  unfold CmpR at HC99
  rw [hx99] at HR HC99
  replace HC99 := Lib.hid HC99
  clear ha hb
  obtain ⟨S, hS⟩ : ∃ S, smR 11 r r' = S := ⟨_, rfl⟩
  rw [hS]
  have HS := Lib.hid hS
  clear hS
  clear e0 e0' e1 e1' e2 e2' e3 e3' e9 e9'
  by_cases h0 : k0 = k0'
  case neg =>
    have hx : (k0 == k0') = false := by simp [h0]
    have hn : smR 11 r r' = false := by rw [HR.out, hx]; simp
    go_enter Tryz.func25, Tryz.ntmps25
    obtain rfl : S = false := HS.out.symm.trans hn
    clear hn
    go_wp2
    go_ret
    exact ⟨rfl, (twoNew w _ _).2.2⟩
  subst h0
  by_cases h1 : p1 = p1'
  case neg =>
    have hx : (p1 == p1') = false := by simp [h1]
    have hn : smR 11 r r' = false := by rw [HR.out, hx]; simp
    go_enter Tryz.func25, Tryz.ntmps25
    obtain rfl : S = false := HS.out.symm.trans hn
    clear hn
    go_wp2
    go_ret
    exact ⟨rfl, (twoNew w _ _).2.2⟩
  subst h1
  by_cases h2 : t2 = t2'
  case neg =>
    have hx := str_ne h2
    have hn : smR 11 r r' = false := by rw [HR.out, hx]; simp
    go_enter Tryz.func25, Tryz.ntmps25
    obtain rfl : S = false := HS.out.symm.trans hn
    clear hn
    go_wp2
    go_ret
    exact ⟨rfl, (twoNew w _ _).2.2⟩
  subst h2
  by_cases h3 : t3 = t3'
  case neg =>
    have hx := str_ne h3
    have hn : smR 11 r r' = false := by rw [HR.out, hx]; simp
    go_enter Tryz.func25, Tryz.ntmps25
    obtain rfl : S = false := HS.out.symm.trans hn
    clear hn
    go_wp2
    go_ret
    exact ⟨rfl, (twoNew w _ _).2.2⟩
  subst h3
  by_cases h9 : p9 = p9'
  case neg =>
    have hx : (p9 == p9') = false := by simp [h9]
    have hn : smR 11 r r' = false := by rw [HR.out, hx]; simp
    go_enter Tryz.func25, Tryz.ntmps25
    obtain rfl : S = false := HS.out.symm.trans hn
    clear hn
    go_wp2
    go_ret
    exact ⟨rfl, (twoNew w _ _).2.2⟩
  subst h9
  go_enter Tryz.func25, Tryz.ntmps25
  go_wp2_with fail
  obtain ⟨W1, hW1⟩ : ∃ W1, ((w.alloc (Obj.cells #[Value.int .i64 k0, Value.bool p1, Value.string t2, Value.string t3, c4, c5, c6, c7, c8, Value.bool p9, c10] 46)).alloc (Obj.cells #[Value.int .i64 k0, Value.bool p1, Value.string t2, Value.string t3, d4, d5, d6, d7, d8, Value.bool p9, d10] 46)) = W1 := ⟨_, rfl⟩
  have ba : Below w.heap.size w W1 := by rw [← hW1]; exact (twoNew w _ _).2.2
  have B0 : W1.heap[w.heap.size]? = some (Obj.cells #[Value.int .i64 k0, Value.bool p1, Value.string t2, Value.string t3, c4, c5, c6, c7, c8, Value.bool p9, c10] 46) := by rw [← hW1]; exact (twoNew w _ _).1
  have B1 : W1.heap[w.heap.size + 1]? = some (Obj.cells #[Value.int .i64 k0, Value.bool p1, Value.string t2, Value.string t3, d4, d5, d6, d7, d8, Value.bool p9, d10] 46) := by rw [← hW1]; exact (twoNew w _ _).2.1
  rw [hW1]
  clear hW1
  have HB0 := Lib.hid B0
  have HB1 := Lib.hid B1
  clear B0 B1
  refine (gr_call (X := (⟨W1, Below.refl _ _⟩ : Gr W1)) (HC99.out W1 [Value.int .i64 k0, Value.bool p1, Value.string t2, Value.string t3, c4, c5, c6, c7, c8, Value.bool p9, c10] [Value.int .i64 k0, Value.bool p1, Value.string t2, Value.string t3, d4, d5, d6, d7, d8, Value.bool p9, d10] rfl rfl (atl_below ba HWa.out) (atl_below ba HWb.out))).mono ?_
  rintro e _ ⟨rfl, X99, rfl⟩
  cases x99
  case false =>
    have hn : smR 11 r r' = false := by rw [HR.out]; simp
    obtain rfl : S = false := HS.out.symm.trans hn
    clear hn
    go_wp2
    go_ret
    exact ⟨rfl, (below_trans ba X99.below)⟩
  have hy : smR 11 r r' = true := by rw [HR.out]; simp
  obtain rfl : S = true := HS.out.symm.trans hy
  clear hy
  go_wp2
  go_ret
  exact ⟨rfl, (below_trans ba X99.below)⟩

end Dc
end Go.Proofs.YtngfhncdmlpjiaaGreat
