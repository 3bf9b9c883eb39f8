/- What is proved: the program's SameDoc says whether two documents are the same. (Made by tools/mkdc.py.) -/
import Derived.Test.YtngfhncdmlpjiaaGreatDcPz0
import Derived.Test.YtngfhncdmlpjiaaGreatDcPz1
namespace Go.Proofs.YtngfhncdmlpjiaaGreat
namespace Dc
set_option linter.unusedVariables false
set_option linter.unusedSimpArgs false
open Go.RowKit Da
attribute [local go_sem ↓] Go.wp_at_zero Go.wp_at_succ

theorem eqFZ {d d' : D} (h : Sh d (.lst .item)) (h' : Sh d' (.lst .item)) (hz : sz d ≤ 1048576) : CmpF 15 16 d d' := by
  obtain ⟨n, it, rfl, hs⟩ := h.lst
  obtain ⟨n', it', rfl, hs'⟩ := h'.lst
  intro w c c' hc hc'
  have e := eqfZ n n' it it' (fun i => smR 21 (it i) (it' i)) (fun i hi hi' => itemI (hs i hi) (hs' i hi') (by have := sz_row (W := 21) (it := it) hi; have hz : sz (.list 21 n it) ≤ 1048576 := hz; omega)) w c c' hc hc'
  rw [← sm_list 21 21 n n' it it'] at e
  exact e

set_option maxHeartbeats 4000000 in
theorem docI {r r' : Nat → D} (hs : ∀ j g, [F.lst K.item][j]? = some g → Sh (r j) g) (hs' : ∀ j g, [F.lst K.item][j]? = some g → Sh (r' j) g)
    (hz : sumTo (fun j => sz (r j)) 1 ≤ 1048576) : CmpR 7 1 (smR 1 r r') r r' := by
  intro w cs ds hcl hdl ha hb
  obtain ⟨c0, rfl⟩ := lnB1 hcl
  obtain ⟨d0, rfl⟩ := lnB1 hdl
  have a0 := ha 0 _ rfl
  have b0 := hb 0 _ rfl
  clear ha hb hcl hdl
  have hrow : smR 1 r r' = sm (r 0) (r' 0) := by simp only [smR, allB, Bool.true_and]
  have HR := Lib.hid hrow
  clear hrow
  have HC0 := eqFZ (hs 0 _ rfl) (hs' 0 _ rfl) (by simp only [sumTo] at hz; omega)
  obtain ⟨x0, hx0⟩ : ∃ x, sm (r 0) (r' 0) = x := ⟨_, rfl⟩
  unfold CmpF at HC0
  rw [hx0] at HR HC0
  replace HC0 := Lib.hid HC0
  obtain ⟨S, hS⟩ : ∃ S, smR 1 r r' = S := ⟨_, rfl⟩
  rw [hS]
  have HS := Lib.hid hS
  clear hS
  go_enter Tryz.func7, Tryz.ntmps7
  go_wp2_with fail
  obtain ⟨W1, hW1⟩ : ∃ W1, ((w.alloc (Obj.cells #[c0] 29)).alloc (Obj.cells #[d0] 29)) = W1 := ⟨_, rfl⟩
  have ba : Below w.heap.size w W1 := by rw [← hW1]; exact (twoNew w _ _).2.2
  have B0 : W1.heap[w.heap.size]? = some (Obj.cells #[c0] 29) := by rw [← hW1]; exact (twoNew w _ _).1
  have B1 : W1.heap[w.heap.size + 1]? = some (Obj.cells #[d0] 29) := by rw [← hW1]; exact (twoNew w _ _).2.1
  rw [hW1]
  clear hW1
  have HB0 := Lib.hid B0
  have HB1 := Lib.hid B1
  clear B0 B1
  refine (gr_call (X := (⟨W1, Below.refl _ _⟩ : Gr W1)) (HC0.out W1 _ _ (At.below ba _ a0) (At.below ba _ b0))).mono ?_
  rintro e _ ⟨rfl, X0, rfl⟩
  cases x0
  case false =>
    have hn : smR 1 r r' = false := by rw [HR.out]
    obtain rfl : S = false := HS.out.symm.trans hn
    clear hn
    go_wp2
    go_ret
    exact ⟨rfl, (below_trans ba X0.below)⟩
  have hy : smR 1 r r' = true := by rw [HR.out]
  obtain rfl : S = true := HS.out.symm.trans hy
  clear hy
  go_wp2
  go_ret
  exact ⟨rfl, (below_trans ba X0.below)⟩

end Dc
end Go.Proofs.YtngfhncdmlpjiaaGreat
