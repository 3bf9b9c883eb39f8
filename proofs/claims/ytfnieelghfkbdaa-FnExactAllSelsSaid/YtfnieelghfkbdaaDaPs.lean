/- What is proved: the program's copy of a selection: the same, in new memory of its own. (Made by tools/mkdap.py.) -/
import Derived.Test.YtfnieelghfkbdaaDaJs
namespace Go.Proofs.Ytfnieelghfkbdaa
namespace Da
set_option linter.unusedVariables false
open Go.RowKit
attribute [local go_sem ↓] Go.wp_at_zero Go.wp_at_succ

/-- The contract of the program's copy of one. -/
def PcSel (r : Nat → D) : Prop := ∀ (w : World) (c0 c1 c2 c3 c4 c5 c6 : Value), (∀ j, j < 7 → sz (r j) ≤ 1048576) → At w (r 0) c0 → At w (r 1) c1 → At w (r 2) c2 → At w (r 3) c3 → At w (r 4) c4 → At w (r 5) c5 → At w (r 6) c6 →
  Calls Try.prog 19 #[.agg #[c0, c1, c2, c3, c4, c5, c6]] w fun e w' => ∃ d0 d1 d2 d3 d4 d5 d6, e = .returned (.agg #[d0, d1, d2, d3, d4, d5, d6]) ∧ OwnR w' r (rng w.heap.size w'.heap.size) [d0, d1, d2, d3, d4, d5, d6] ∧ Below w.heap.size w w'
set_option maxRecDepth 100000 in
set_option maxHeartbeats 4000000 in
theorem copyOfSel (r : Nat → D) (hsh : ∀ j g, (row .sel)[j]? = some g → Sh (r j) g) : PcSel r := by
  intro w c0 c1 c2 c3 c4 c5 c6 hz a0 a1 a2 a3 a4 a5 a6
  obtain ⟨W0, hW0⟩ : ∃ W0, (w.alloc (Obj.cells #[c0, c1, c2, c3, c4, c5, c6] 41)).alloc (Obj.cells #[Value.int .i64 0, Value.string ⟨#[]⟩, Value.string ⟨#[]⟩, Value.string ⟨#[]⟩, Value.slice none 0 0, Value.slice none 0 0, Value.slice none 0 0] 41) = W0 := ⟨_, rfl⟩
  have b0 : Below w.heap.size w W0 := by rw [← hW0]; exact (below_alloc _ _).alloc (by simp) _
  have z0 : W0.heap.size = w.heap.size + 2 := by rw [← hW0]; simp
  have h0 : W0.heap[w.heap.size]? = some (Obj.cells #[c0, c1, c2, c3, c4, c5, c6] 41) := by rw [← hW0, Below.heap_alloc _ _ _ (by simp)]; exact heap_alloc_new w _
  have h1 : W0.heap[w.heap.size + 1]? = some (Obj.cells #[Value.int .i64 0, Value.string ⟨#[]⟩, Value.string ⟨#[]⟩, Value.string ⟨#[]⟩, Value.slice none 0 0, Value.slice none 0 0, Value.slice none 0 0] 41) := by rw [← hW0]; exact heap_alloc2_new w _ _
  have p0 : W0.cell? ⟨w.heap.size, 0, none⟩ = some c0 := by rw [cell_of h0]; rfl
  have p1 : W0.cell? ⟨w.heap.size, 1, none⟩ = some c1 := by rw [cell_of h0]; rfl
  have p2 : W0.cell? ⟨w.heap.size, 2, none⟩ = some c2 := by rw [cell_of h0]; rfl
  have p3 : W0.cell? ⟨w.heap.size, 3, none⟩ = some c3 := by rw [cell_of h0]; rfl
  have p4 : W0.cell? ⟨w.heap.size, 4, none⟩ = some c4 := by rw [cell_of h0]; rfl
  have p5 : W0.cell? ⟨w.heap.size, 5, none⟩ = some c5 := by rw [cell_of h0]; rfl
  have p6 : W0.cell? ⟨w.heap.size, 6, none⟩ = some c6 := by rw [cell_of h0]; rfl
  have H1 := Lib.hid h1
  have Z0 := Lib.hid z0
  have cc := Lib.hid (inNewSel r hsh hz W0 c0 c1 c2 c3 c4 c5 c6 (At.below b0 _ a0) (At.below b0 _ a1) (At.below b0 _ a2) (At.below b0 _ a3) (At.below b0 _ a4) (At.below b0 _ a5) (At.below b0 _ a6))
  clear h0 h1 z0 a0 a1 a2 a3 a4 a5 a6
  go_enter Try.func19, Try.ntmps19
  go_wp2_with fail
  clear hW0 p0 p1 p2 p3 p4 p5 p6
  refine cc.out.mono ?_
  rintro e w1 ⟨d0, d1, d2, d3, d4, d5, d6, rfl, ho, hb1⟩
  have HO := Lib.hid ho
  have t0 := ho.at 0 _ rfl
  have t1 := ho.at 1 _ rfl
  have t2 := ho.at 2 _ rfl
  have t3 := ho.at 3 _ rfl
  have t4 := ho.at 4 _ rfl
  have t5 := ho.at 5 _ rfl
  have t6 := ho.at 6 _ rfl
  clear ho cc
  obtain ⟨yk0, rfl⟩ := At.int t0 (hsh 0 _ rfl)
  obtain ⟨yk1, rfl⟩ := At.str t1 (hsh 1 _ rfl)
  obtain ⟨yk2, rfl⟩ := At.str t2 (hsh 2 _ rfl)
  obtain ⟨yk3, rfl⟩ := At.str t3 (hsh 3 _ rfl)
  obtain ⟨yA4, yn4, yp4, rfl⟩ := At.lst t4 (hsh 4 _ rfl)
  obtain ⟨yA5, yn5, yp5, rfl⟩ := At.lst t5 (hsh 5 _ rfl)
  obtain ⟨yA6, yn6, yp6, rfl⟩ := At.lst t6 (hsh 6 _ rfl)
  clear t0 t1 t2 t3 t4 t5 t6
  have hzb := (hb1.block _ (by have := Z0.out; omega)).trans H1.out
  have u0 : w1.cell? ⟨w.heap.size + 1, 0, none⟩ = some (Value.int .i64 0) := by rw [cell_of hzb]; rfl
  have z0 : w1.frozen? ⟨w.heap.size + 1, 0, none⟩ = false := frozen_no hzb _
  have u1 : w1.cell? ⟨w.heap.size + 1, 1, none⟩ = some (Value.string ⟨#[]⟩) := by rw [cell_of hzb]; rfl
  have z1 : w1.frozen? ⟨w.heap.size + 1, 1, none⟩ = false := frozen_no hzb _
  have u2 : w1.cell? ⟨w.heap.size + 1, 2, none⟩ = some (Value.string ⟨#[]⟩) := by rw [cell_of hzb]; rfl
  have z2 : w1.frozen? ⟨w.heap.size + 1, 2, none⟩ = false := frozen_no hzb _
  have u3 : w1.cell? ⟨w.heap.size + 1, 3, none⟩ = some (Value.string ⟨#[]⟩) := by rw [cell_of hzb]; rfl
  have z3 : w1.frozen? ⟨w.heap.size + 1, 3, none⟩ = false := frozen_no hzb _
  have u4 : w1.cell? ⟨w.heap.size + 1, 4, none⟩ = some (Value.slice none 0 0) := by rw [cell_of hzb]; rfl
  have z4 : w1.frozen? ⟨w.heap.size + 1, 4, none⟩ = false := frozen_no hzb _
  have u5 : w1.cell? ⟨w.heap.size + 1, 5, none⟩ = some (Value.slice none 0 0) := by rw [cell_of hzb]; rfl
  have z5 : w1.frozen? ⟨w.heap.size + 1, 5, none⟩ = false := frozen_no hzb _
  have u6 : w1.cell? ⟨w.heap.size + 1, 6, none⟩ = some (Value.slice none 0 0) := by rw [cell_of hzb]; rfl
  have z6 : w1.frozen? ⟨w.heap.size + 1, 6, none⟩ = false := frozen_no hzb _
  have HZB := Lib.hid hzb
  have hs1 := hb1.size
  clear hzb
  go_wp2
  obtain ⟨W9, hW9⟩ : ∃ W9, (((((((w1.setCell ⟨w.heap.size + 1, 0, none⟩ (Value.int .i64 yk0)).setCell ⟨w.heap.size + 1, 1, none⟩ (Value.string yk1)).setCell ⟨w.heap.size + 1, 2, none⟩ (Value.string yk2)).setCell ⟨w.heap.size + 1, 3, none⟩ (Value.string yk3)).setCell ⟨w.heap.size + 1, 4, none⟩ (Value.slice yA4 yn4 yp4)).setCell ⟨w.heap.size + 1, 5, none⟩ (Value.slice yA5 yn5 yp5)).setCell ⟨w.heap.size + 1, 6, none⟩ (Value.slice yA6 yn6 yp6)) = W9 := ⟨_, rfl⟩
  have hW9' : stores w1 (w.heap.size + 1) 0 [Value.int .i64 yk0, Value.string yk1, Value.string yk2, Value.string yk3, Value.slice yA4 yn4 yp4, Value.slice yA5 yn5 yp5, Value.slice yA6 yn6 yp6] = W9 := hW9
  rw [hW9]
  clear hW9
  have hg9 : W9.heap[w.heap.size + 1]? = some (Obj.cells #[Value.int .i64 yk0, Value.string yk1, Value.string yk2, Value.string yk3, Value.slice yA4 yn4 yp4, Value.slice yA5 yn5 yp5, Value.slice yA6 yn6 yp6] 41) := by
    rw [← hW9']
    exact stores_heap _ _ 0 #[Value.int .i64 0, Value.string ⟨#[]⟩, Value.string ⟨#[]⟩, Value.string ⟨#[]⟩, Value.slice none 0 0, Value.slice none 0 0, Value.slice none 0 0] HZB.out
  have hk9 : ∀ x, x ≠ w.heap.size + 1 → W9.heap[x]? = w1.heap[x]? := fun x hx => by rw [← hW9', stores_other hx]
  have hz9 : W9.heap.size = w1.heap.size := by rw [← hW9', stores_size]
  have bb9 : Below w.heap.size w W9 := by rw [← hW9']; exact stores_below (by omega) _ _ _ (below_trans b0 hb1)
  clear hW9'
  (try simp only [Exit.inBlock, Exit.then])
  refine bodyPost_ret (results_cell_row rfl _ W9 (w.heap.size + 1) _ _ _ _ rfl hg9 Try.underlying41 rfl (by kernel_rfl)) rfl ?_
  refine ⟨_, _, _, _, _, _, _, rfl, ?_, bb9⟩
  have := Z0.out
  exact (HO.out.same fun x hx => hk9 x (by have := hx.1; omega)).wide fun x hx => ⟨by have := hx.1; omega, by have := hx.2; omega⟩

end Da
end Go.Proofs.Ytfnieelghfkbdaa
