/- What is proved: the program's tests whether two questions, and two pieces, are the same. (Made by tools/mkdc.py.) -/
import Derived.Test.YtngfhncdmlpjiaaGreatDcPv
import Derived.Test.YtngfhncdmlpjiaaGreatDcPs3
namespace Go.Proofs.YtngfhncdmlpjiaaGreat
namespace Dc
set_option linter.unusedVariables false
set_option linter.unusedSimpArgs false
open Go.RowKit Da
attribute [local go_sem ↓] Go.wp_at_zero Go.wp_at_succ

set_option maxHeartbeats 4000000 in
theorem opI {r r' : Nat → D} (hs : ∀ j g, (row .op)[j]? = some g → Sh (r j) g) (hs' : ∀ j g, (row .op)[j]? = some g → Sh (r' j) g)
    (hz : sumTo (fun j => sz (r j)) 5 ≤ 1048576) : CmpR 23 5 (smR 5 r r') r r' := by
  intro w cs ds hcl hdl ha hb
  obtain ⟨c0, c1, c2, c3, c4, rfl⟩ := len5 hcl
  obtain ⟨d0, d1, d2, d3, d4, rfl⟩ := len5 hdl
  have a0 := ha 0 _ rfl
  have b0 := hb 0 _ rfl
  have a1 := ha 1 _ rfl
  have b1 := hb 1 _ rfl
  have a2 := ha 2 _ rfl
  have b2 := hb 2 _ rfl
  have a3 := ha 3 _ rfl
  have b3 := hb 3 _ rfl
  have a4 := ha 4 _ rfl
  have b4 := hb 4 _ rfl
  clear ha hb hcl hdl
  obtain ⟨k0, e0⟩ := (hs 0 _ rfl).int
  rw [e0] at a0
  obtain rfl : c0 = Value.int .i64 k0 := a0
  obtain ⟨k0', e0'⟩ := (hs' 0 _ rfl).int
  rw [e0'] at b0
  obtain rfl : d0 = Value.int .i64 k0' := b0
  obtain ⟨t1, e1⟩ := (hs 1 _ rfl).str
  rw [e1] at a1
  obtain ⟨rfl, -⟩ := a1
  obtain ⟨t1', e1'⟩ := (hs' 1 _ rfl).str
  rw [e1'] at b1
  obtain ⟨rfl, -⟩ := b1
  have hrow : smR 5 r r' = ((k0 == k0') && ((t1.toList == t1'.toList) && (sm (r 2) (r' 2) && (sm (r 3) (r' 3) && sm (r 4) (r' 4))))) := by simp only [smR, allB, Bool.true_and, Bool.and_assoc, e0, e0', e1, e1', sm_int, sm_str]
  have HR := Lib.hid hrow
  clear hrow
  have HC2 := eqFQ (hs 2 _ rfl) (hs' 2 _ rfl) (by simp only [sumTo] at hz; omega)
  obtain ⟨x2, hx2⟩ : ∃ x, sm (r 2) (r' 2) = x := ⟨_, rfl⟩
  unfold CmpF at HC2
  rw [hx2] at HR HC2
  replace HC2 := Lib.hid HC2
  have HC3 := dirsI (hs 3 _ rfl) (hs' 3 _ rfl) (by simp only [sumTo] at hz; omega)
  obtain ⟨x3, hx3⟩ : ∃ x, sm (r 3) (r' 3) = x := ⟨_, rfl⟩
  unfold CmpL at HC3
  rw [hx3] at HR HC3
  replace HC3 := Lib.hid HC3
  have HC4 := selsI (hs 4 _ rfl) (hs' 4 _ rfl) (by simp only [sumTo] at hz; omega)
  obtain ⟨x4, hx4⟩ : ∃ x, sm (r 4) (r' 4) = x := ⟨_, rfl⟩
  unfold CmpL at HC4
  rw [hx4] at HR HC4
  replace HC4 := Lib.hid HC4
  obtain ⟨S, hS⟩ : ∃ S, smR 5 r r' = S := ⟨_, rfl⟩
  rw [hS]
  have HS := Lib.hid hS
  clear hS
  clear e0 e0' e1 e1'
  by_cases h0 : k0 = k0'
  case neg =>
    have hx : (k0 == k0') = false := by simp [h0]
    have hn : smR 5 r r' = false := by rw [HR.out, hx]; simp
    go_enter Tryz.func23, Tryz.ntmps23
    obtain rfl : S = false := HS.out.symm.trans hn
    clear hn
    go_wp2
    go_ret
    exact ⟨rfl, (twoNew w _ _).2.2⟩
  subst h0
  by_cases h1 : t1 = t1'
  case neg =>
    have hx := str_ne h1
    have hn : smR 5 r r' = false := by rw [HR.out, hx]; simp
    go_enter Tryz.func23, Tryz.ntmps23
    obtain rfl : S = false := HS.out.symm.trans hn
    clear hn
    go_wp2
    go_ret
    exact ⟨rfl, (twoNew w _ _).2.2⟩
  subst h1
  go_enter Tryz.func23, Tryz.ntmps23
  go_wp2_with fail
  obtain ⟨W1, hW1⟩ : ∃ W1, ((w.alloc (Obj.cells #[Value.int .i64 k0, Value.string t1, c2, c3, c4] 37)).alloc (Obj.cells #[Value.int .i64 k0, Value.string t1, d2, d3, d4] 37)) = W1 := ⟨_, rfl⟩
  have ba : Below w.heap.size w W1 := by rw [← hW1]; exact (twoNew w _ _).2.2
  have B0 : W1.heap[w.heap.size]? = some (Obj.cells #[Value.int .i64 k0, Value.string t1, c2, c3, c4] 37) := by rw [← hW1]; exact (twoNew w _ _).1
  have B1 : W1.heap[w.heap.size + 1]? = some (Obj.cells #[Value.int .i64 k0, Value.string t1, d2, d3, d4] 37) := by rw [← hW1]; exact (twoNew w _ _).2.1
  rw [hW1]
  clear hW1
  have P3 := fun X : Gr W1 => X.cell (show W1.cell? ⟨w.heap.size, 3, none⟩ = some (c3) by rw [cellOf B0]; rfl)
  have Q3 := fun X : Gr W1 => X.cell (show W1.cell? ⟨w.heap.size + 1, 3, none⟩ = some (d3) by rw [cellOf B1]; rfl)
  have P4 := fun X : Gr W1 => X.cell (show W1.cell? ⟨w.heap.size, 4, none⟩ = some (c4) by rw [cellOf B0]; rfl)
  have Q4 := fun X : Gr W1 => X.cell (show W1.cell? ⟨w.heap.size + 1, 4, none⟩ = some (d4) by rw [cellOf B1]; rfl)
  have HB0 := Lib.hid B0
  have HB1 := Lib.hid B1
  clear B0 B1
  refine (gr_call (X := (⟨W1, Below.refl _ _⟩ : Gr W1)) (HC2.out W1 _ _ (At.below ba _ a2) (At.below ba _ b2))).mono ?_
  rintro e _ ⟨rfl, X2, rfl⟩
  cases x2
  case false =>
    have hn : smR 5 r r' = false := by rw [HR.out]; simp
    obtain rfl : S = false := HS.out.symm.trans hn
    clear hn
    go_wp2
    go_ret
    exact ⟨rfl, (below_trans ba X2.below)⟩
  go_wp2_with fail
  refine (gr_call (X := X2) (HC3.out X2.W _ _ (At.below (below_trans ba X2.below) _ a3) (At.below (below_trans ba X2.below) _ b3))).mono ?_
  rintro e _ ⟨rfl, X3, rfl⟩
  cases x3
  case false =>
    have hn : smR 5 r r' = false := by rw [HR.out]; simp
    obtain rfl : S = false := HS.out.symm.trans hn
    clear hn
    go_wp2
    go_ret
    exact ⟨rfl, (below_trans ba X3.below)⟩
  go_wp2_with fail
  refine (gr_call (X := X3) (HC4.out X3.W _ _ (At.below (below_trans ba X3.below) _ a4) (At.below (below_trans ba X3.below) _ b4))).mono ?_
  rintro e _ ⟨rfl, X4, rfl⟩
  cases x4
  case false =>
    have hn : smR 5 r r' = false := by rw [HR.out]; simp
    obtain rfl : S = false := HS.out.symm.trans hn
    clear hn
    go_wp2
    go_ret
    exact ⟨rfl, (below_trans ba X4.below)⟩
  have hy : smR 5 r r' = true := by rw [HR.out]; simp
  obtain rfl : S = true := HS.out.symm.trans hy
  clear hy
  go_wp2
  go_ret
  exact ⟨rfl, (below_trans ba X4.below)⟩

set_option maxHeartbeats 4000000 in
theorem fragI {r r' : Nat → D} (hs : ∀ j g, (row .frag)[j]? = some g → Sh (r j) g) (hs' : ∀ j g, (row .frag)[j]? = some g → Sh (r' j) g)
    (hz : sumTo (fun j => sz (r j)) 4 ≤ 1048576) : CmpR 24 4 (smR 4 r r') r r' := by
  intro w cs ds hcl hdl ha hb
  obtain ⟨c0, c1, c2, c3, rfl⟩ := len4 hcl
  obtain ⟨d0, d1, d2, d3, rfl⟩ := len4 hdl
  have a0 := ha 0 _ rfl
  have b0 := hb 0 _ rfl
  have a1 := ha 1 _ rfl
  have b1 := hb 1 _ rfl
  have a2 := ha 2 _ rfl
  have b2 := hb 2 _ rfl
  have a3 := ha 3 _ rfl
  have b3 := hb 3 _ rfl
  clear ha hb hcl hdl
  obtain ⟨t0, e0⟩ := (hs 0 _ rfl).str
  rw [e0] at a0
  obtain ⟨rfl, -⟩ := a0
  obtain ⟨t0', e0'⟩ := (hs' 0 _ rfl).str
  rw [e0'] at b0
  obtain ⟨rfl, -⟩ := b0
  obtain ⟨t1, e1⟩ := (hs 1 _ rfl).str
  rw [e1] at a1
  obtain ⟨rfl, -⟩ := a1
  obtain ⟨t1', e1'⟩ := (hs' 1 _ rfl).str
  rw [e1'] at b1
  obtain ⟨rfl, -⟩ := b1
  have hrow : smR 4 r r' = ((t0.toList == t0'.toList) && ((t1.toList == t1'.toList) && (sm (r 2) (r' 2) && sm (r 3) (r' 3)))) := by simp only [smR, allB, Bool.true_and, Bool.and_assoc, e0, e0', e1, e1', sm_str]
  have HR := Lib.hid hrow
  clear hrow
  have HC2 := dirsI (hs 2 _ rfl) (hs' 2 _ rfl) (by simp only [sumTo] at hz; omega)
  obtain ⟨x2, hx2⟩ : ∃ x, sm (r 2) (r' 2) = x := ⟨_, rfl⟩
  unfold CmpL at HC2
  rw [hx2] at HR HC2
  replace HC2 := Lib.hid HC2
  have HC3 := selsI (hs 3 _ rfl) (hs' 3 _ rfl) (by simp only [sumTo] at hz; omega)
  obtain ⟨x3, hx3⟩ : ∃ x, sm (r 3) (r' 3) = x := ⟨_, rfl⟩
  unfold CmpL at HC3
  rw [hx3] at HR HC3
  replace HC3 := Lib.hid HC3
  obtain ⟨S, hS⟩ : ∃ S, smR 4 r r' = S := ⟨_, rfl⟩
  rw [hS]
  have HS := Lib.hid hS
  clear hS
  clear e0 e0' e1 e1'
  by_cases h0 : t0 = t0'
  case neg =>
    have hx := str_ne h0
    have hn : smR 4 r r' = false := by rw [HR.out, hx]; simp
    go_enter Tryz.func24, Tryz.ntmps24
    obtain rfl : S = false := HS.out.symm.trans hn
    clear hn
    go_wp2
    go_ret
    exact ⟨rfl, (twoNew w _ _).2.2⟩
  subst h0
  by_cases h1 : t1 = t1'
  case neg =>
    have hx := str_ne h1
    have hn : smR 4 r r' = false := by rw [HR.out, hx]; simp
    go_enter Tryz.func24, Tryz.ntmps24
    obtain rfl : S = false := HS.out.symm.trans hn
    clear hn
    go_wp2
    go_ret
    exact ⟨rfl, (twoNew w _ _).2.2⟩
  subst h1
  go_enter Tryz.func24, Tryz.ntmps24
  go_wp2_with fail
  obtain ⟨W1, hW1⟩ : ∃ W1, ((w.alloc (Obj.cells #[Value.string t0, Value.string t1, c2, c3] 39)).alloc (Obj.cells #[Value.string t0, Value.string t1, d2, d3] 39)) = W1 := ⟨_, rfl⟩
  have ba : Below w.heap.size w W1 := by rw [← hW1]; exact (twoNew w _ _).2.2
  have B0 : W1.heap[w.heap.size]? = some (Obj.cells #[Value.string t0, Value.string t1, c2, c3] 39) := by rw [← hW1]; exact (twoNew w _ _).1
  have B1 : W1.heap[w.heap.size + 1]? = some (Obj.cells #[Value.string t0, Value.string t1, d2, d3] 39) := by rw [← hW1]; exact (twoNew w _ _).2.1
  rw [hW1]
  clear hW1
  have P3 := fun X : Gr W1 => X.cell (show W1.cell? ⟨w.heap.size, 3, none⟩ = some (c3) by rw [cellOf B0]; rfl)
  have Q3 := fun X : Gr W1 => X.cell (show W1.cell? ⟨w.heap.size + 1, 3, none⟩ = some (d3) by rw [cellOf B1]; rfl)
  have HB0 := Lib.hid B0
  have HB1 := Lib.hid B1
  clear B0 B1
  refine (gr_call (X := (⟨W1, Below.refl _ _⟩ : Gr W1)) (HC2.out W1 _ _ (At.below ba _ a2) (At.below ba _ b2))).mono ?_
  rintro e _ ⟨rfl, X2, rfl⟩
  cases x2
  case false =>
    have hn : smR 4 r r' = false := by rw [HR.out]; simp
    obtain rfl : S = false := HS.out.symm.trans hn
    clear hn
    go_wp2
    go_ret
    exact ⟨rfl, (below_trans ba X2.below)⟩
  go_wp2_with fail
  refine (gr_call (X := X2) (HC3.out X2.W _ _ (At.below (below_trans ba X2.below) _ a3) (At.below (below_trans ba X2.below) _ b3))).mono ?_
  rintro e _ ⟨rfl, X3, rfl⟩
  cases x3
  case false =>
    have hn : smR 4 r r' = false := by rw [HR.out]; simp
    obtain rfl : S = false := HS.out.symm.trans hn
    clear hn
    go_wp2
    go_ret
    exact ⟨rfl, (below_trans ba X3.below)⟩
  have hy : smR 4 r r' = true := by rw [HR.out]; simp
  obtain rfl : S = true := HS.out.symm.trans hy
  clear hy
  go_wp2
  go_ret
  exact ⟨rfl, (below_trans ba X3.below)⟩

end Dc
end Go.Proofs.YtngfhncdmlpjiaaGreat
