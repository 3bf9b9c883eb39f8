/- What is proved: the program's test whether two selections are the same but for those in them. (Made by tools/mkdc.py.) -/
import Derived.Test.YtngfhncdmlpjiaaGreatDcPd
namespace Go.Proofs.YtngfhncdmlpjiaaGreat
namespace Dc
set_option linter.unusedVariables false
set_option linter.unusedSimpArgs false
open Go.RowKit Da
attribute [local go_sem ↓] Go.wp_at_zero Go.wp_at_succ

set_option maxHeartbeats 4000000 in
theorem besideS {r r' : Nat → D} (hs : ∀ j g, (row .sel)[j]? = some g → Sh (r j) g) (hs' : ∀ j g, (row .sel)[j]? = some g → Sh (r' j) g)
    (hz : ∀ j, j < 7 → sz (r j) ≤ 1048576) : CmpR 61 7 (smX 7 6 r r') r r' := by
  intro w cs ds hcl hdl ha hb
  obtain ⟨c0, c1, c2, c3, c4, c5, c6, rfl⟩ := len7 hcl
  obtain ⟨d0, d1, d2, d3, d4, d5, d6, rfl⟩ := len7 hdl
  have a0 := ha 0 _ rfl
  have b0 := hb 0 _ rfl
  have a1 := ha 1 _ rfl
  have b1 := hb 1 _ rfl
  have a2 := ha 2 _ rfl
  have b2 := hb 2 _ rfl
  have a3 := ha 3 _ rfl
  have b3 := hb 3 _ rfl
  have a4 := ha 4 _ rfl
  have b4 := hb 4 _ rfl
  have a5 := ha 5 _ rfl
  have b5 := hb 5 _ rfl
  have a6 := ha 6 _ rfl
  have b6 := hb 6 _ rfl
  clear ha hb hcl hdl
  obtain ⟨k0, e0⟩ := (hs 0 _ rfl).int
  rw [e0] at a0
  obtain rfl : c0 = Value.int .i64 k0 := a0
  obtain ⟨k0', e0'⟩ := (hs' 0 _ rfl).int
  rw [e0'] at b0
  obtain rfl : d0 = Value.int .i64 k0' := b0
  obtain ⟨t1, e1⟩ := (hs 1 _ rfl).str
  rw [e1] at a1
  obtain ⟨rfl, -⟩ := a1
  obtain ⟨t1', e1'⟩ := (hs' 1 _ rfl).str
  rw [e1'] at b1
  obtain ⟨rfl, -⟩ := b1
  obtain ⟨t2, e2⟩ := (hs 2 _ rfl).str
  rw [e2] at a2
  obtain ⟨rfl, -⟩ := a2
  obtain ⟨t2', e2'⟩ := (hs' 2 _ rfl).str
  rw [e2'] at b2
  obtain ⟨rfl, -⟩ := b2
  obtain ⟨t3, e3⟩ := (hs 3 _ rfl).str
  rw [e3] at a3
  obtain ⟨rfl, -⟩ := a3
  obtain ⟨t3', e3'⟩ := (hs' 3 _ rfl).str
  rw [e3'] at b3
  obtain ⟨rfl, -⟩ := b3
  have hrow : smX 7 6 r r' = ((k0 == k0') && ((t1.toList == t1'.toList) && ((t2.toList == t2'.toList) && ((t3.toList == t3'.toList) && (sm (r 4) (r' 4) && (sm (r 5) (r' 5))))))) := by simp only [smX, allB, Bool.true_and, Bool.and_true, Bool.false_or, Bool.true_or, Bool.and_assoc, e0, e0', e1, e1', e2, e2', e3, e3', sm_int, sm_str, Nat.reduceBEq]
  have HR := Lib.hid hrow
  clear hrow
  have HC4 := argsI (hs 4 _ rfl) (hs' 4 _ rfl) (hz _ (by omega))
  obtain ⟨x4, hx4⟩ : ∃ x, sm (r 4) (r' 4) = x := ⟨_, rfl⟩
  unfold CmpL at HC4
  rw [hx4] at HR HC4
  replace HC4 := Lib.hid HC4
  have HC5 := dirsI (hs 5 _ rfl) (hs' 5 _ rfl) (hz _ (by omega))
  obtain ⟨x5, hx5⟩ : ∃ x, sm (r 5) (r' 5) = x := ⟨_, rfl⟩
  unfold CmpL at HC5
  rw [hx5] at HR HC5
  replace HC5 := Lib.hid HC5
  obtain ⟨S, hS⟩ : ∃ S, smX 7 6 r r' = S := ⟨_, rfl⟩
  rw [hS]
  have HS := Lib.hid hS
  clear hS
  clear e0 e0' e1 e1' e2 e2' e3 e3'
  by_cases h0 : k0 = k0'
  case neg =>
    have hx : (k0 == k0') = false := by simp [h0]
    have hn : smX 7 6 r r' = false := by rw [HR.out, hx]; simp
    go_enter Tryz.func61, Tryz.ntmps61
    obtain rfl : S = false := HS.out.symm.trans hn
    clear hn
    go_wp2
    go_ret
    exact ⟨rfl, (twoNew w _ _).2.2⟩
  subst h0
  by_cases h1 : t1 = t1'
  case neg =>
    have hx := str_ne h1
    have hn : smX 7 6 r r' = false := by rw [HR.out, hx]; simp
    go_enter Tryz.func61, Tryz.ntmps61
    obtain rfl : S = false := HS.out.symm.trans hn
    clear hn
    go_wp2
    go_ret
    exact ⟨rfl, (twoNew w _ _).2.2⟩
  subst h1
  by_cases h2 : t2 = t2'
  case neg =>
    have hx := str_ne h2
    have hn : smX 7 6 r r' = false := by rw [HR.out, hx]; simp
    go_enter Tryz.func61, Tryz.ntmps61
    obtain rfl : S = false := HS.out.symm.trans hn
    clear hn
    go_wp2
    go_ret
    exact ⟨rfl, (twoNew w _ _).2.2⟩
  subst h2
  by_cases h3 : t3 = t3'
  case neg =>
    have hx := str_ne h3
    have hn : smX 7 6 r r' = false := by rw [HR.out, hx]; simp
    go_enter Tryz.func61, Tryz.ntmps61
    obtain rfl : S = false := HS.out.symm.trans hn
    clear hn
    go_wp2
    go_ret
    exact ⟨rfl, (twoNew w _ _).2.2⟩
  subst h3
  go_enter Tryz.func61, Tryz.ntmps61
  go_wp2_with fail
  obtain ⟨W1, hW1⟩ : ∃ W1, ((w.alloc (Obj.cells #[Value.int .i64 k0, Value.string t1, Value.string t2, Value.string t3, c4, c5, c6] 86)).alloc (Obj.cells #[Value.int .i64 k0, Value.string t1, Value.string t2, Value.string t3, d4, d5, d6] 86)) = W1 := ⟨_, rfl⟩
  have ba : Below w.heap.size w W1 := by rw [← hW1]; exact (twoNew w _ _).2.2
  have B0 : W1.heap[w.heap.size]? = some (Obj.cells #[Value.int .i64 k0, Value.string t1, Value.string t2, Value.string t3, c4, c5, c6] 86) := by rw [← hW1]; exact (twoNew w _ _).1
  have B1 : W1.heap[w.heap.size + 1]? = some (Obj.cells #[Value.int .i64 k0, Value.string t1, Value.string t2, Value.string t3, d4, d5, d6] 86) := by rw [← hW1]; exact (twoNew w _ _).2.1
  rw [hW1]
  clear hW1
  have P5 := fun X : Gr W1 => X.cell (show W1.cell? ⟨w.heap.size, 5, none⟩ = some (c5) by rw [cellOf B0]; rfl)
  have Q5 := fun X : Gr W1 => X.cell (show W1.cell? ⟨w.heap.size + 1, 5, none⟩ = some (d5) by rw [cellOf B1]; rfl)
  have HB0 := Lib.hid B0
  have HB1 := Lib.hid B1
  clear B0 B1
  refine (gr_call (X := (⟨W1, Below.refl _ _⟩ : Gr W1)) (HC4.out W1 _ _ (At.below ba _ a4) (At.below ba _ b4))).mono ?_
  rintro e _ ⟨rfl, X4, rfl⟩
  cases x4
  case false =>
    have hn : smX 7 6 r r' = false := by rw [HR.out]; simp
    obtain rfl : S = false := HS.out.symm.trans hn
    clear hn
    go_wp2
    go_ret
    exact ⟨rfl, (below_trans ba X4.below)⟩
  go_wp2_with fail
  refine (gr_call (X := X4) (HC5.out X4.W _ _ (At.below (below_trans ba X4.below) _ a5) (At.below (below_trans ba X4.below) _ b5))).mono ?_
  rintro e _ ⟨rfl, X5, rfl⟩
  cases x5
  case false =>
    have hn : smX 7 6 r r' = false := by rw [HR.out]; simp
    obtain rfl : S = false := HS.out.symm.trans hn
    clear hn
    go_wp2
    go_ret
    exact ⟨rfl, (below_trans ba X5.below)⟩
  have hy : smX 7 6 r r' = true := by rw [HR.out]; simp
  obtain rfl : S = true := HS.out.symm.trans hy
  clear hy
  go_wp2
  go_ret
  exact ⟨rfl, (below_trans ba X5.below)⟩

end Dc
end Go.Proofs.YtngfhncdmlpjiaaGreat
