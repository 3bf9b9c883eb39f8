/- What is proved: the laws' copies of a definition are the same, in new memory of their own. (Made by tools/mkdbt.py.) -/
import Derived.Test.YtngfhncdmlpjiaaGreatDbTi
namespace Go.Proofs.YtngfhncdmlpjiaaGreat
namespace Da
set_option linter.unusedVariables false
set_option linter.unusedSimpArgs false
open Go.RowKit
attribute [local go_sem ↓] Go.wp_at_zero Go.wp_at_succ

/-- The contract of one. -/
def ToRDef (r : Nat → D) : Prop := ∀ (w : World) (c0 c1 c2 c3 c4 c5 c6 c7 c8 c9 c10 : Value), sumTo (fun j => sz (r j)) 11 ≤ 1048576 → At w (r 0) c0 → At w (r 1) c1 → At w (r 2) c2 → At w (r 3) c3 → At w (r 4) c4 → At w (r 5) c5 → At w (r 6) c6 → At w (r 7) c7 → At w (r 8) c8 → At w (r 9) c9 → At w (r 10) c10 →
  Calls Tryz.prog 32 #[.agg #[c0, c1, c2, c3, c4, c5, c6, c7, c8, c9, c10]] w fun e w' => ∃ d0 d1 d2 d3 d4 d5 d6 d7 d8 d9 d10, e = .returned (.agg #[d0, d1, d2, d3, d4, d5, d6, d7, d8, d9, d10]) ∧ OwnR w' r (rng w.heap.size w'.heap.size) [d0, d1, d2, d3, d4, d5, d6, d7, d8, d9, d10] ∧ Below w.heap.size w w'
theorem sizeDef : (Tryz.prog.info? 46).map (·.size) = some 11 := by kernel_rfl
set_option maxHeartbeats 8000000 in
theorem toRDef_of (r : Nat → D) (hsh : ∀ j g, (row .defn)[j]? = some g → Sh (r j) g) (h4 : ToL 52 (r 4)) (h5 : ToL 53 (r 5)) (h6 : ToL 54 (r 6)) (h7 : ToL 55 (r 7)) (h8 : ToL 56 (r 8)) (h10 : ToL 50 (r 10)) : ToRDef r := by
  intro w c0 c1 c2 c3 c4 c5 c6 c7 c8 c9 c10 hs a0 a1 a2 a3 a4 a5 a6 a7 a8 a9 a10
  simp only [sumTo] at hs
  have HA0 := Lib.hid a0
  have HA1 := Lib.hid a1
  have HA2 := Lib.hid a2
  have HA3 := Lib.hid a3
  have HA4 := Lib.hid a4
  have HA5 := Lib.hid a5
  have HA6 := Lib.hid a6
  have HA7 := Lib.hid a7
  have HA8 := Lib.hid a8
  have HA9 := Lib.hid a9
  have HA10 := Lib.hid a10
  obtain ⟨xk0, rfl⟩ := At.int a0 (hsh 0 _ rfl)
  obtain ⟨xk1, rfl⟩ := At.bool a1 (hsh 1 _ rfl)
  obtain ⟨xk2, rfl⟩ := At.str a2 (hsh 2 _ rfl)
  obtain ⟨xk3, rfl⟩ := At.str a3 (hsh 3 _ rfl)
  obtain ⟨xA4, xn4, xp4, rfl⟩ := At.lst a4 (hsh 4 _ rfl)
  obtain ⟨xA5, xn5, xp5, rfl⟩ := At.lst a5 (hsh 5 _ rfl)
  obtain ⟨xA6, xn6, xp6, rfl⟩ := At.lst a6 (hsh 6 _ rfl)
  obtain ⟨xA7, xn7, xp7, rfl⟩ := At.lst a7 (hsh 7 _ rfl)
  obtain ⟨xA8, xn8, xp8, rfl⟩ := At.lst a8 (hsh 8 _ rfl)
  obtain ⟨xk9, rfl⟩ := At.bool a9 (hsh 9 _ rfl)
  obtain ⟨xA10, xn10, xp10, rfl⟩ := At.lst a10 (hsh 10 _ rfl)
  clear a0 a1 a2 a3 a4 a5 a6 a7 a8 a9 a10
  go_enter Tryz.func32, Tryz.ntmps32
  go_wp2_with fail
  obtain ⟨W0, hW0⟩ : ∃ W0, (((w.alloc (Obj.cells #[Value.int .i64 xk0, Value.bool xk1, Value.string xk2, Value.string xk3, Value.slice xA4 xn4 xp4, Value.slice xA5 xn5 xp5, Value.slice xA6 xn6 xp6, Value.slice xA7 xn7 xp7, Value.slice xA8 xn8 xp8, Value.bool xk9, Value.slice xA10 xn10 xp10] 70)).alloc (Obj.cells #[Value.int .i64 0, Value.bool false, Value.string ⟨#[]⟩, Value.string ⟨#[]⟩, Value.slice none 0 0, Value.slice none 0 0, Value.slice none 0 0, Value.slice none 0 0, Value.slice none 0 0, Value.bool false, Value.slice none 0 0] 46)).alloc (Obj.cells #[Value.int .i64 xk0, Value.bool xk1, Value.string xk2, Value.string xk3, Value.slice none 0 0, Value.slice none 0 0, Value.slice none 0 0, Value.slice none 0 0, Value.slice none 0 0, Value.bool false, Value.slice none 0 0] 46)) = W0 := ⟨_, rfl⟩
  have ba : Below w.heap.size w W0 := by rw [← hW0]; exact ((below_alloc _ _).alloc (by simp) _).alloc (by simp; omega) _
  have hz : W0.heap.size = w.heap.size + 3 := by rw [← hW0]; simp
  have hB0 : W0.heap[w.heap.size]? = some (Obj.cells #[Value.int .i64 xk0, Value.bool xk1, Value.string xk2, Value.string xk3, Value.slice xA4 xn4 xp4, Value.slice xA5 xn5 xp5, Value.slice xA6 xn6 xp6, Value.slice xA7 xn7 xp7, Value.slice xA8 xn8 xp8, Value.bool xk9, Value.slice xA10 xn10 xp10] 70) := by
    rw [← hW0, Below.heap_alloc _ _ _ (by simp; omega), Below.heap_alloc _ _ _ (by simp)]; exact heap_alloc_new w _
  have hB1 : W0.heap[w.heap.size + 1]? = some (Obj.cells #[Value.int .i64 0, Value.bool false, Value.string ⟨#[]⟩, Value.string ⟨#[]⟩, Value.slice none 0 0, Value.slice none 0 0, Value.slice none 0 0, Value.slice none 0 0, Value.slice none 0 0, Value.bool false, Value.slice none 0 0] 46) := by
    rw [← hW0, Below.heap_alloc _ _ _ (by simp)]
    have := heap_alloc_new (w.alloc (Obj.cells #[Value.int .i64 xk0, Value.bool xk1, Value.string xk2, Value.string xk3, Value.slice xA4 xn4 xp4, Value.slice xA5 xn5 xp5, Value.slice xA6 xn6 xp6, Value.slice xA7 xn7 xp7, Value.slice xA8 xn8 xp8, Value.bool xk9, Value.slice xA10 xn10 xp10] 70)) (Obj.cells #[Value.int .i64 0, Value.bool false, Value.string ⟨#[]⟩, Value.string ⟨#[]⟩, Value.slice none 0 0, Value.slice none 0 0, Value.slice none 0 0, Value.slice none 0 0, Value.slice none 0 0, Value.bool false, Value.slice none 0 0] 46)
    simpa using this
  have hB2 : W0.heap[w.heap.size + 1 + 1]? = some (Obj.cells #[Value.int .i64 xk0, Value.bool xk1, Value.string xk2, Value.string xk3, Value.slice none 0 0, Value.slice none 0 0, Value.slice none 0 0, Value.slice none 0 0, Value.slice none 0 0, Value.bool false, Value.slice none 0 0] 46) := by
    rw [← hW0]
    have := heap_alloc_new ((w.alloc (Obj.cells #[Value.int .i64 xk0, Value.bool xk1, Value.string xk2, Value.string xk3, Value.slice xA4 xn4 xp4, Value.slice xA5 xn5 xp5, Value.slice xA6 xn6 xp6, Value.slice xA7 xn7 xp7, Value.slice xA8 xn8 xp8, Value.bool xk9, Value.slice xA10 xn10 xp10] 70)).alloc (Obj.cells #[Value.int .i64 0, Value.bool false, Value.string ⟨#[]⟩, Value.string ⟨#[]⟩, Value.slice none 0 0, Value.slice none 0 0, Value.slice none 0 0, Value.slice none 0 0, Value.slice none 0 0, Value.bool false, Value.slice none 0 0] 46)) (Obj.cells #[Value.int .i64 xk0, Value.bool xk1, Value.string xk2, Value.string xk3, Value.slice none 0 0, Value.slice none 0 0, Value.slice none 0 0, Value.slice none 0 0, Value.slice none 0 0, Value.bool false, Value.slice none 0 0] 46)
    simpa using this
  rw [hW0]
  clear hW0
  refine (h4 W0 _ (by omega) (At.below ba _ HA4.out)).mono ?_
  rintro e w4 ⟨v, rfl, own4, hb4⟩
  obtain ⟨yA4, yn4, yp4, rfl⟩ := At.lst (Own.at _ own4) (hsh 4 _ rfl)
  have hB0 := (hb4.block _ (lt_of hB0)).trans hB0
  have hB1 := (hb4.block _ (lt_of hB1)).trans hB1
  have hB2 := (hb4.block _ (lt_of hB2)).trans hB2
  have bb4 := below_trans ba hb4
  have s4 := hb4.size
  rw [hz] at own4 s4
  clear hb4
  have q4 : w4.cell? ⟨w.heap.size + 1 + 1, 4, none⟩ = some (Value.slice none 0 0) := by rw [cell_of hB2]; rfl
  have r4 : w4.frozen? ⟨w.heap.size + 1 + 1, 4, none⟩ = false := frozen_no hB2 _
  have g5 : w4.cell? ⟨w.heap.size, 5, none⟩ = some (Value.slice xA5 xn5 xp5) := by rw [cell_of hB0]; rfl
  have HB0 := Lib.hid hB0
  have HB1 := Lib.hid hB1
  have HB2 := Lib.hid hB2
  clear hB0 hB1 hB2
  go_wp2_with fail
  clear q4 r4 g5
  obtain ⟨W4, hW4⟩ : ∃ W', (w4.setCell ⟨w.heap.size + 1 + 1, 4, none⟩ (Value.slice yA4 yn4 yp4)) = W' := ⟨_, rfl⟩
  have hW4' : stores w4 (w.heap.size + 1 + 1) 4 [Value.slice yA4 yn4 yp4] = W4 := hW4
  rw [hW4]
  clear hW4
  have bc4 : Below w.heap.size w W4 := by rw [← hW4']; exact stores_below (by omega) _ _ _ bb4
  have sz4 : W4.heap.size = w4.heap.size := by rw [← hW4', stores_size]
  have hB0 : W4.heap[w.heap.size]? = some (Obj.cells #[Value.int .i64 xk0, Value.bool xk1, Value.string xk2, Value.string xk3, Value.slice xA4 xn4 xp4, Value.slice xA5 xn5 xp5, Value.slice xA6 xn6 xp6, Value.slice xA7 xn7 xp7, Value.slice xA8 xn8 xp8, Value.bool xk9, Value.slice xA10 xn10 xp10] 70) := by rw [← hW4', stores_other (by omega)]; exact HB0.out
  have hB1 : W4.heap[w.heap.size + 1]? = some (Obj.cells #[Value.int .i64 0, Value.bool false, Value.string ⟨#[]⟩, Value.string ⟨#[]⟩, Value.slice none 0 0, Value.slice none 0 0, Value.slice none 0 0, Value.slice none 0 0, Value.slice none 0 0, Value.bool false, Value.slice none 0 0] 46) := by rw [← hW4', stores_other (by omega)]; exact HB1.out
  have hB2 : W4.heap[w.heap.size + 1 + 1]? = some (Obj.cells #[Value.int .i64 xk0, Value.bool xk1, Value.string xk2, Value.string xk3, Value.slice yA4 yn4 yp4, Value.slice none 0 0, Value.slice none 0 0, Value.slice none 0 0, Value.slice none 0 0, Value.bool false, Value.slice none 0 0] 46) := by rw [← hW4']; exact stores_heap _ _ 4 #[Value.int .i64 xk0, Value.bool xk1, Value.string xk2, Value.string xk3, Value.slice none 0 0, Value.slice none 0 0, Value.slice none 0 0, Value.slice none 0 0, Value.slice none 0 0, Value.bool false, Value.slice none 0 0] HB2.out
  have own4 := Own.same (w' := W4) _ own4 fun b hb => by rw [← hW4', stores_other (by have := hb.1; omega)]
  clear hW4' HB0 HB1 HB2
  refine (h5 W4 _ (by omega) (At.below bc4 _ HA5.out)).mono ?_
  rintro e w5 ⟨v, rfl, own5, hb5⟩
  obtain ⟨yA5, yn5, yp5, rfl⟩ := At.lst (Own.at _ own5) (hsh 5 _ rfl)
  have hB0 := (hb5.block _ (lt_of hB0)).trans hB0
  have hB1 := (hb5.block _ (lt_of hB1)).trans hB1
  have hB2 := (hb5.block _ (lt_of hB2)).trans hB2
  have bb5 := below_trans bc4 hb5
  have s5 := hb5.size
  have own4 := Own.below own4 hb5 (fun b hb => by have := hb.2; omega)
  rw [sz4] at own5 s5
  clear hb5
  have q5 : w5.cell? ⟨w.heap.size + 1 + 1, 5, none⟩ = some (Value.slice none 0 0) := by rw [cell_of hB2]; rfl
  have r5 : w5.frozen? ⟨w.heap.size + 1 + 1, 5, none⟩ = false := frozen_no hB2 _
  have g6 : w5.cell? ⟨w.heap.size, 6, none⟩ = some (Value.slice xA6 xn6 xp6) := by rw [cell_of hB0]; rfl
  have HB0 := Lib.hid hB0
  have HB1 := Lib.hid hB1
  have HB2 := Lib.hid hB2
  clear hB0 hB1 hB2
  go_wp2_with fail
  clear q5 r5 g6
  obtain ⟨W5, hW5⟩ : ∃ W', (w5.setCell ⟨w.heap.size + 1 + 1, 5, none⟩ (Value.slice yA5 yn5 yp5)) = W' := ⟨_, rfl⟩
  have hW5' : stores w5 (w.heap.size + 1 + 1) 5 [Value.slice yA5 yn5 yp5] = W5 := hW5
  rw [hW5]
  clear hW5
  have bc5 : Below w.heap.size w W5 := by rw [← hW5']; exact stores_below (by omega) _ _ _ bb5
  have sz5 : W5.heap.size = w5.heap.size := by rw [← hW5', stores_size]
  have hB0 : W5.heap[w.heap.size]? = some (Obj.cells #[Value.int .i64 xk0, Value.bool xk1, Value.string xk2, Value.string xk3, Value.slice xA4 xn4 xp4, Value.slice xA5 xn5 xp5, Value.slice xA6 xn6 xp6, Value.slice xA7 xn7 xp7, Value.slice xA8 xn8 xp8, Value.bool xk9, Value.slice xA10 xn10 xp10] 70) := by rw [← hW5', stores_other (by omega)]; exact HB0.out
  have hB1 : W5.heap[w.heap.size + 1]? = some (Obj.cells #[Value.int .i64 0, Value.bool false, Value.string ⟨#[]⟩, Value.string ⟨#[]⟩, Value.slice none 0 0, Value.slice none 0 0, Value.slice none 0 0, Value.slice none 0 0, Value.slice none 0 0, Value.bool false, Value.slice none 0 0] 46) := by rw [← hW5', stores_other (by omega)]; exact HB1.out
  have hB2 : W5.heap[w.heap.size + 1 + 1]? = some (Obj.cells #[Value.int .i64 xk0, Value.bool xk1, Value.string xk2, Value.string xk3, Value.slice yA4 yn4 yp4, Value.slice yA5 yn5 yp5, Value.slice none 0 0, Value.slice none 0 0, Value.slice none 0 0, Value.bool false, Value.slice none 0 0] 46) := by rw [← hW5']; exact stores_heap _ _ 5 #[Value.int .i64 xk0, Value.bool xk1, Value.string xk2, Value.string xk3, Value.slice yA4 yn4 yp4, Value.slice none 0 0, Value.slice none 0 0, Value.slice none 0 0, Value.slice none 0 0, Value.bool false, Value.slice none 0 0] HB2.out
  have own4 := Own.same (w' := W5) _ own4 fun b hb => by rw [← hW5', stores_other (by have := hb.1; omega)]
  have own5 := Own.same (w' := W5) _ own5 fun b hb => by rw [← hW5', stores_other (by have := hb.1; omega)]
  clear hW5' HB0 HB1 HB2
  refine (h6 W5 _ (by omega) (At.below bc5 _ HA6.out)).mono ?_
  rintro e w6 ⟨v, rfl, own6, hb6⟩
  obtain ⟨yA6, yn6, yp6, rfl⟩ := At.lst (Own.at _ own6) (hsh 6 _ rfl)
  have hB0 := (hb6.block _ (lt_of hB0)).trans hB0
  have hB1 := (hb6.block _ (lt_of hB1)).trans hB1
  have hB2 := (hb6.block _ (lt_of hB2)).trans hB2
  have bb6 := below_trans bc5 hb6
  have s6 := hb6.size
  have own4 := Own.below own4 hb6 (fun b hb => by have := hb.2; omega)
  have own5 := Own.below own5 hb6 (fun b hb => by have := hb.2; omega)
  rw [sz5] at own6 s6
  clear hb6
  have q6 : w6.cell? ⟨w.heap.size + 1 + 1, 6, none⟩ = some (Value.slice none 0 0) := by rw [cell_of hB2]; rfl
  have r6 : w6.frozen? ⟨w.heap.size + 1 + 1, 6, none⟩ = false := frozen_no hB2 _
  have g7 : w6.cell? ⟨w.heap.size, 7, none⟩ = some (Value.slice xA7 xn7 xp7) := by rw [cell_of hB0]; rfl
  have HB0 := Lib.hid hB0
  have HB1 := Lib.hid hB1
  have HB2 := Lib.hid hB2
  clear hB0 hB1 hB2
  go_wp2_with fail
  clear q6 r6 g7
  obtain ⟨W6, hW6⟩ : ∃ W', (w6.setCell ⟨w.heap.size + 1 + 1, 6, none⟩ (Value.slice yA6 yn6 yp6)) = W' := ⟨_, rfl⟩
  have hW6' : stores w6 (w.heap.size + 1 + 1) 6 [Value.slice yA6 yn6 yp6] = W6 := hW6
  rw [hW6]
  clear hW6
  have bc6 : Below w.heap.size w W6 := by rw [← hW6']; exact stores_below (by omega) _ _ _ bb6
  have sz6 : W6.heap.size = w6.heap.size := by rw [← hW6', stores_size]
  have hB0 : W6.heap[w.heap.size]? = some (Obj.cells #[Value.int .i64 xk0, Value.bool xk1, Value.string xk2, Value.string xk3, Value.slice xA4 xn4 xp4, Value.slice xA5 xn5 xp5, Value.slice xA6 xn6 xp6, Value.slice xA7 xn7 xp7, Value.slice xA8 xn8 xp8, Value.bool xk9, Value.slice xA10 xn10 xp10] 70) := by rw [← hW6', stores_other (by omega)]; exact HB0.out
  have hB1 : W6.heap[w.heap.size + 1]? = some (Obj.cells #[Value.int .i64 0, Value.bool false, Value.string ⟨#[]⟩, Value.string ⟨#[]⟩, Value.slice none 0 0, Value.slice none 0 0, Value.slice none 0 0, Value.slice none 0 0, Value.slice none 0 0, Value.bool false, Value.slice none 0 0] 46) := by rw [← hW6', stores_other (by omega)]; exact HB1.out
  have hB2 : W6.heap[w.heap.size + 1 + 1]? = some (Obj.cells #[Value.int .i64 xk0, Value.bool xk1, Value.string xk2, Value.string xk3, Value.slice yA4 yn4 yp4, Value.slice yA5 yn5 yp5, Value.slice yA6 yn6 yp6, Value.slice none 0 0, Value.slice none 0 0, Value.bool false, Value.slice none 0 0] 46) := by rw [← hW6']; exact stores_heap _ _ 6 #[Value.int .i64 xk0, Value.bool xk1, Value.string xk2, Value.string xk3, Value.slice yA4 yn4 yp4, Value.slice yA5 yn5 yp5, Value.slice none 0 0, Value.slice none 0 0, Value.slice none 0 0, Value.bool false, Value.slice none 0 0] HB2.out
  have own4 := Own.same (w' := W6) _ own4 fun b hb => by rw [← hW6', stores_other (by have := hb.1; omega)]
  have own5 := Own.same (w' := W6) _ own5 fun b hb => by rw [← hW6', stores_other (by have := hb.1; omega)]
  have own6 := Own.same (w' := W6) _ own6 fun b hb => by rw [← hW6', stores_other (by have := hb.1; omega)]
  clear hW6' HB0 HB1 HB2
  refine (h7 W6 _ (by omega) (At.below bc6 _ HA7.out)).mono ?_
  rintro e w7 ⟨v, rfl, own7, hb7⟩
  obtain ⟨yA7, yn7, yp7, rfl⟩ := At.lst (Own.at _ own7) (hsh 7 _ rfl)
  have hB0 := (hb7.block _ (lt_of hB0)).trans hB0
  have hB1 := (hb7.block _ (lt_of hB1)).trans hB1
  have hB2 := (hb7.block _ (lt_of hB2)).trans hB2
  have bb7 := below_trans bc6 hb7
  have s7 := hb7.size
  have own4 := Own.below own4 hb7 (fun b hb => by have := hb.2; omega)
  have own5 := Own.below own5 hb7 (fun b hb => by have := hb.2; omega)
  have own6 := Own.below own6 hb7 (fun b hb => by have := hb.2; omega)
  rw [sz6] at own7 s7
  clear hb7
  have q7 : w7.cell? ⟨w.heap.size + 1 + 1, 7, none⟩ = some (Value.slice none 0 0) := by rw [cell_of hB2]; rfl
  have r7 : w7.frozen? ⟨w.heap.size + 1 + 1, 7, none⟩ = false := frozen_no hB2 _
  have g8 : w7.cell? ⟨w.heap.size, 8, none⟩ = some (Value.slice xA8 xn8 xp8) := by rw [cell_of hB0]; rfl
  have HB0 := Lib.hid hB0
  have HB1 := Lib.hid hB1
  have HB2 := Lib.hid hB2
  clear hB0 hB1 hB2
  go_wp2_with fail
  clear q7 r7 g8
  obtain ⟨W7, hW7⟩ : ∃ W', (w7.setCell ⟨w.heap.size + 1 + 1, 7, none⟩ (Value.slice yA7 yn7 yp7)) = W' := ⟨_, rfl⟩
  have hW7' : stores w7 (w.heap.size + 1 + 1) 7 [Value.slice yA7 yn7 yp7] = W7 := hW7
  rw [hW7]
  clear hW7
  have bc7 : Below w.heap.size w W7 := by rw [← hW7']; exact stores_below (by omega) _ _ _ bb7
  have sz7 : W7.heap.size = w7.heap.size := by rw [← hW7', stores_size]
  have hB0 : W7.heap[w.heap.size]? = some (Obj.cells #[Value.int .i64 xk0, Value.bool xk1, Value.string xk2, Value.string xk3, Value.slice xA4 xn4 xp4, Value.slice xA5 xn5 xp5, Value.slice xA6 xn6 xp6, Value.slice xA7 xn7 xp7, Value.slice xA8 xn8 xp8, Value.bool xk9, Value.slice xA10 xn10 xp10] 70) := by rw [← hW7', stores_other (by omega)]; exact HB0.out
  have hB1 : W7.heap[w.heap.size + 1]? = some (Obj.cells #[Value.int .i64 0, Value.bool false, Value.string ⟨#[]⟩, Value.string ⟨#[]⟩, Value.slice none 0 0, Value.slice none 0 0, Value.slice none 0 0, Value.slice none 0 0, Value.slice none 0 0, Value.bool false, Value.slice none 0 0] 46) := by rw [← hW7', stores_other (by omega)]; exact HB1.out
  have hB2 : W7.heap[w.heap.size + 1 + 1]? = some (Obj.cells #[Value.int .i64 xk0, Value.bool xk1, Value.string xk2, Value.string xk3, Value.slice yA4 yn4 yp4, Value.slice yA5 yn5 yp5, Value.slice yA6 yn6 yp6, Value.slice yA7 yn7 yp7, Value.slice none 0 0, Value.bool false, Value.slice none 0 0] 46) := by rw [← hW7']; exact stores_heap _ _ 7 #[Value.int .i64 xk0, Value.bool xk1, Value.string xk2, Value.string xk3, Value.slice yA4 yn4 yp4, Value.slice yA5 yn5 yp5, Value.slice yA6 yn6 yp6, Value.slice none 0 0, Value.slice none 0 0, Value.bool false, Value.slice none 0 0] HB2.out
  have own4 := Own.same (w' := W7) _ own4 fun b hb => by rw [← hW7', stores_other (by have := hb.1; omega)]
  have own5 := Own.same (w' := W7) _ own5 fun b hb => by rw [← hW7', stores_other (by have := hb.1; omega)]
  have own6 := Own.same (w' := W7) _ own6 fun b hb => by rw [← hW7', stores_other (by have := hb.1; omega)]
  have own7 := Own.same (w' := W7) _ own7 fun b hb => by rw [← hW7', stores_other (by have := hb.1; omega)]
  clear hW7' HB0 HB1 HB2
  refine (h8 W7 _ (by omega) (At.below bc7 _ HA8.out)).mono ?_
  rintro e w8 ⟨v, rfl, own8, hb8⟩
  obtain ⟨yA8, yn8, yp8, rfl⟩ := At.lst (Own.at _ own8) (hsh 8 _ rfl)
  have hB0 := (hb8.block _ (lt_of hB0)).trans hB0
  have hB1 := (hb8.block _ (lt_of hB1)).trans hB1
  have hB2 := (hb8.block _ (lt_of hB2)).trans hB2
  have bb8 := below_trans bc7 hb8
  have s8 := hb8.size
  have own4 := Own.below own4 hb8 (fun b hb => by have := hb.2; omega)
  have own5 := Own.below own5 hb8 (fun b hb => by have := hb.2; omega)
  have own6 := Own.below own6 hb8 (fun b hb => by have := hb.2; omega)
  have own7 := Own.below own7 hb8 (fun b hb => by have := hb.2; omega)
  rw [sz7] at own8 s8
  clear hb8
  have q8 : w8.cell? ⟨w.heap.size + 1 + 1, 8, none⟩ = some (Value.slice none 0 0) := by rw [cell_of hB2]; rfl
  have r8 : w8.frozen? ⟨w.heap.size + 1 + 1, 8, none⟩ = false := frozen_no hB2 _
  have q9 : w8.cell? ⟨w.heap.size + 1 + 1, 9, none⟩ = some (Value.bool false) := by rw [cell_of hB2]; rfl
  have r9 : w8.frozen? ⟨w.heap.size + 1 + 1, 9, none⟩ = false := frozen_no hB2 _
  have g9 : w8.cell? ⟨w.heap.size, 9, none⟩ = some (Value.bool xk9) := by rw [cell_of hB0]; rfl
  have g10 : w8.cell? ⟨w.heap.size, 10, none⟩ = some (Value.slice xA10 xn10 xp10) := by rw [cell_of hB0]; rfl
  have HB0 := Lib.hid hB0
  have HB1 := Lib.hid hB1
  have HB2 := Lib.hid hB2
  clear hB0 hB1 hB2
  go_wp2_with fail
  clear q8 r8 q9 r9 g9 g10
  obtain ⟨W8, hW8⟩ : ∃ W', ((w8.setCell ⟨w.heap.size + 1 + 1, 8, none⟩ (Value.slice yA8 yn8 yp8)).setCell ⟨w.heap.size + 1 + 1, 9, none⟩ (Value.bool xk9)) = W' := ⟨_, rfl⟩
  have hW8' : stores w8 (w.heap.size + 1 + 1) 8 [Value.slice yA8 yn8 yp8, Value.bool xk9] = W8 := hW8
  rw [hW8]
  clear hW8
  have bc8 : Below w.heap.size w W8 := by rw [← hW8']; exact stores_below (by omega) _ _ _ bb8
  have sz8 : W8.heap.size = w8.heap.size := by rw [← hW8', stores_size]
  have hB0 : W8.heap[w.heap.size]? = some (Obj.cells #[Value.int .i64 xk0, Value.bool xk1, Value.string xk2, Value.string xk3, Value.slice xA4 xn4 xp4, Value.slice xA5 xn5 xp5, Value.slice xA6 xn6 xp6, Value.slice xA7 xn7 xp7, Value.slice xA8 xn8 xp8, Value.bool xk9, Value.slice xA10 xn10 xp10] 70) := by rw [← hW8', stores_other (by omega)]; exact HB0.out
  have hB1 : W8.heap[w.heap.size + 1]? = some (Obj.cells #[Value.int .i64 0, Value.bool false, Value.string ⟨#[]⟩, Value.string ⟨#[]⟩, Value.slice none 0 0, Value.slice none 0 0, Value.slice none 0 0, Value.slice none 0 0, Value.slice none 0 0, Value.bool false, Value.slice none 0 0] 46) := by rw [← hW8', stores_other (by omega)]; exact HB1.out
  have hB2 : W8.heap[w.heap.size + 1 + 1]? = some (Obj.cells #[Value.int .i64 xk0, Value.bool xk1, Value.string xk2, Value.string xk3, Value.slice yA4 yn4 yp4, Value.slice yA5 yn5 yp5, Value.slice yA6 yn6 yp6, Value.slice yA7 yn7 yp7, Value.slice yA8 yn8 yp8, Value.bool xk9, Value.slice none 0 0] 46) := by rw [← hW8']; exact stores_heap _ _ 8 #[Value.int .i64 xk0, Value.bool xk1, Value.string xk2, Value.string xk3, Value.slice yA4 yn4 yp4, Value.slice yA5 yn5 yp5, Value.slice yA6 yn6 yp6, Value.slice yA7 yn7 yp7, Value.slice none 0 0, Value.bool false, Value.slice none 0 0] HB2.out
  have own4 := Own.same (w' := W8) _ own4 fun b hb => by rw [← hW8', stores_other (by have := hb.1; omega)]
  have own5 := Own.same (w' := W8) _ own5 fun b hb => by rw [← hW8', stores_other (by have := hb.1; omega)]
  have own6 := Own.same (w' := W8) _ own6 fun b hb => by rw [← hW8', stores_other (by have := hb.1; omega)]
  have own7 := Own.same (w' := W8) _ own7 fun b hb => by rw [← hW8', stores_other (by have := hb.1; omega)]
  have own8 := Own.same (w' := W8) _ own8 fun b hb => by rw [← hW8', stores_other (by have := hb.1; omega)]
  clear hW8' HB0 HB1 HB2
  refine (h10 W8 _ (by omega) (At.below bc8 _ HA10.out)).mono ?_
  rintro e w10 ⟨v, rfl, own10, hb10⟩
  obtain ⟨yA10, yn10, yp10, rfl⟩ := At.lst (Own.at _ own10) (hsh 10 _ rfl)
  have hB0 := (hb10.block _ (lt_of hB0)).trans hB0
  have hB1 := (hb10.block _ (lt_of hB1)).trans hB1
  have hB2 := (hb10.block _ (lt_of hB2)).trans hB2
  have bb10 := below_trans bc8 hb10
  have s10 := hb10.size
  have own4 := Own.below own4 hb10 (fun b hb => by have := hb.2; omega)
  have own5 := Own.below own5 hb10 (fun b hb => by have := hb.2; omega)
  have own6 := Own.below own6 hb10 (fun b hb => by have := hb.2; omega)
  have own7 := Own.below own7 hb10 (fun b hb => by have := hb.2; omega)
  have own8 := Own.below own8 hb10 (fun b hb => by have := hb.2; omega)
  rw [sz8] at own10 s10
  clear hb10
  have q10 : w10.cell? ⟨w.heap.size + 1 + 1, 10, none⟩ = some (Value.slice none 0 0) := by rw [cell_of hB2]; rfl
  have r10 : w10.frozen? ⟨w.heap.size + 1 + 1, 10, none⟩ = false := frozen_no hB2 _
  have HL2 : Hid (((w10.setCell ⟨w.heap.size + 1 + 1, 10, none⟩ (Value.slice yA10 yn10 yp10))).heap[w.heap.size + 1 + 1]? = some (Obj.cells #[Value.int .i64 xk0, Value.bool xk1, Value.string xk2, Value.string xk3, Value.slice yA4 yn4 yp4, Value.slice yA5 yn5 yp5, Value.slice yA6 yn6 yp6, Value.slice yA7 yn7 yp7, Value.slice yA8 yn8 yp8, Value.bool xk9, Value.slice yA10 yn10 yp10] 46)) := by
    have e : setRow #[Value.int .i64 xk0, Value.bool xk1, Value.string xk2, Value.string xk3, Value.slice yA4 yn4 yp4, Value.slice yA5 yn5 yp5, Value.slice yA6 yn6 yp6, Value.slice yA7 yn7 yp7, Value.slice yA8 yn8 yp8, Value.bool xk9, Value.slice none 0 0] 10 [Value.slice yA10 yn10 yp10] = #[Value.int .i64 xk0, Value.bool xk1, Value.string xk2, Value.string xk3, Value.slice yA4 yn4 yp4, Value.slice yA5 yn5 yp5, Value.slice yA6 yn6 yp6, Value.slice yA7 yn7 yp7, Value.slice yA8 yn8 yp8, Value.bool xk9, Value.slice yA10 yn10 yp10] := by simp [setRow]
    have h := stores_heap [Value.slice yA10 yn10 yp10] w10 10 _ hB2
    rw [e] at h
    exact h
  have HL1 : Hid (((w10.setCell ⟨w.heap.size + 1 + 1, 10, none⟩ (Value.slice yA10 yn10 yp10))).heap[w.heap.size + 1]? = some (Obj.cells #[Value.int .i64 0, Value.bool false, Value.string ⟨#[]⟩, Value.string ⟨#[]⟩, Value.slice none 0 0, Value.slice none 0 0, Value.slice none 0 0, Value.slice none 0 0, Value.slice none 0 0, Value.bool false, Value.slice none 0 0] 46)) := (stores_other (by omega) [Value.slice yA10 yn10 yp10] w10 10).trans hB1
  have HA1' : Hid ((#[Value.int .i64 xk0, Value.bool xk1, Value.string xk2, Value.string xk3, Value.slice yA4 yn4 yp4, Value.slice yA5 yn5 yp5, Value.slice yA6 yn6 yp6, Value.slice yA7 yn7 yp7, Value.slice yA8 yn8 yp8, Value.bool xk9, Value.slice yA10 yn10 yp10] : Array Value).all (·.oneCell') = true) := by simp [Hid, Value.oneCell']
  clear hB0 hB1 hB2
  go_wp2_with (first | (refine wpList_load_row rfl 46 _ rfl (w.heap.size + 1 + 1) rfl 46 #[Value.int .i64 xk0, Value.bool xk1, Value.string xk2, Value.string xk3, Value.slice yA4 yn4 yp4, Value.slice yA5 yn5 yp5, Value.slice yA6 yn6 yp6, Value.slice yA7 yn7 yp7, Value.slice yA8 yn8 yp8, Value.bool xk9, Value.slice yA10 yn10 yp10] (0, 0) _ HL2.out Tryz.underlying46 rfl sizeDef ?_) | (refine wpList_store_row rfl 46 _ _ rfl (w.heap.size + 1) #[Value.int .i64 xk0, Value.bool xk1, Value.string xk2, Value.string xk3, Value.slice yA4 yn4 yp4, Value.slice yA5 yn5 yp5, Value.slice yA6 yn6 yp6, Value.slice yA7 yn7 yp7, Value.slice yA8 yn8 yp8, Value.bool xk9, Value.slice yA10 yn10 yp10] rfl rfl 46 #[Value.int .i64 0, Value.bool false, Value.string ⟨#[]⟩, Value.string ⟨#[]⟩, Value.slice none 0 0, Value.slice none 0 0, Value.slice none 0 0, Value.slice none 0 0, Value.slice none 0 0, Value.bool false, Value.slice none 0 0] HL1.out sizeDef rfl HA1'.out ?_))
  obtain ⟨W9, hW9⟩ : ∃ W9, (w10.setCell ⟨w.heap.size + 1 + 1, 10, none⟩ (Value.slice yA10 yn10 yp10)).setRow (w.heap.size + 1) #[Value.int .i64 xk0, Value.bool xk1, Value.string xk2, Value.string xk3, Value.slice yA4 yn4 yp4, Value.slice yA5 yn5 yp5, Value.slice yA6 yn6 yp6, Value.slice yA7 yn7 yp7, Value.slice yA8 yn8 yp8, Value.bool xk9, Value.slice yA10 yn10 yp10] = W9 := ⟨_, rfl⟩
  have hW9' : (stores w10 (w.heap.size + 1 + 1) 10 [Value.slice yA10 yn10 yp10]).setRow (w.heap.size + 1) #[Value.int .i64 xk0, Value.bool xk1, Value.string xk2, Value.string xk3, Value.slice yA4 yn4 yp4, Value.slice yA5 yn5 yp5, Value.slice yA6 yn6 yp6, Value.slice yA7 yn7 yp7, Value.slice yA8 yn8 yp8, Value.bool xk9, Value.slice yA10 yn10 yp10] = W9 := hW9
  rw [hW9]
  clear hW9
  have hg9 : W9.heap[w.heap.size + 1]? = some (Obj.cells #[Value.int .i64 xk0, Value.bool xk1, Value.string xk2, Value.string xk3, Value.slice yA4 yn4 yp4, Value.slice yA5 yn5 yp5, Value.slice yA6 yn6 yp6, Value.slice yA7 yn7 yp7, Value.slice yA8 yn8 yp8, Value.bool xk9, Value.slice yA10 yn10 yp10] 46) := by
    rw [← hW9']
    exact heap_setRow_same HL1.out
  have hk9 : ∀ b, w.heap.size + 2 < b → W9.heap[b]? = w10.heap[b]? := fun b hb => by rw [← hW9', heap_setRow_other (by omega), stores_other (by omega)]
  have hz9 : W9.heap.size = w10.heap.size := by rw [← hW9', size_setRow, stores_size]
  have bb9 : Below w.heap.size w W9 := by rw [← hW9']; exact below_setRow (stores_below (by omega) _ _ _ bb10) (by omega)
  clear hW9'
  (try simp only [Exit.inBlock, Exit.then])
  refine bodyPost_ret (results_cell_row rfl _ W9 (w.heap.size + 1) _ _ _ _ rfl hg9 Tryz.underlying46 rfl (by kernel_rfl)) rfl ?_
  refine ⟨_, _, _, _, _, _, _, _, _, _, _, rfl, ?_, bb9⟩
  rw [hz9]
  have own4 := Own.same (w' := W9) _ own4 fun b hb => hk9 b (by have := hb.1; omega)
  have own5 := Own.same (w' := W9) _ own5 fun b hb => hk9 b (by have := hb.1; omega)
  have own6 := Own.same (w' := W9) _ own6 fun b hb => hk9 b (by have := hb.1; omega)
  have own7 := Own.same (w' := W9) _ own7 fun b hb => hk9 b (by have := hb.1; omega)
  have own8 := Own.same (w' := W9) _ own8 fun b hb => hk9 b (by have := hb.1; omega)
  have own10 := Own.same (w' := W9) _ own10 fun b hb => hk9 b (by have := hb.1; omega)
  refine OwnR.wide ?_ (F := rng (w.heap.size + 3) w10.heap.size) (fun b h => ⟨by have := h.1; omega, h.2⟩)
  exact (ownR_plain (F := rng (w.heap.size + 3) w10.heap.size) (Own.plain HA0.out (hsh 0 _ rfl)) (ownR_plain (F := rng (w.heap.size + 3) w10.heap.size) (Own.plain HA1.out (hsh 1 _ rfl)) (ownR_plain (F := rng (w.heap.size + 3) w10.heap.size) (Own.plain HA2.out (hsh 2 _ rfl)) (ownR_plain (F := rng (w.heap.size + 3) w10.heap.size) (Own.plain HA3.out (hsh 3 _ rfl)) (ownR_cons (F1 := rng (w.heap.size + 3) (w4.heap.size)) (F2 := rng (w4.heap.size) w10.heap.size) (F := rng (w.heap.size + 3) w10.heap.size) own4 (ownR_cons (F1 := rng (w4.heap.size) (w5.heap.size)) (F2 := rng (w5.heap.size) w10.heap.size) (F := rng (w4.heap.size) w10.heap.size) own5 (ownR_cons (F1 := rng (w5.heap.size) (w6.heap.size)) (F2 := rng (w6.heap.size) w10.heap.size) (F := rng (w5.heap.size) w10.heap.size) own6 (ownR_cons (F1 := rng (w6.heap.size) (w7.heap.size)) (F2 := rng (w7.heap.size) w10.heap.size) (F := rng (w6.heap.size) w10.heap.size) own7 (ownR_cons (F1 := rng (w7.heap.size) (w8.heap.size)) (F2 := rng (w8.heap.size) w10.heap.size) (F := rng (w7.heap.size) w10.heap.size) own8 (ownR_plain (F := rng (w8.heap.size) w10.heap.size) (Own.plain HA9.out (hsh 9 _ rfl)) (ownR_cons (F1 := rng (w8.heap.size) (w10.heap.size)) (F2 := rng w10.heap.size w10.heap.size) (F := rng (w8.heap.size) w10.heap.size) own10 ownR_nil (fun b h1 h2 => by have := h1.2; have := h2.1; omega) (fun b h => ⟨by have := h.1; omega, by have := h.2; omega⟩) (fun b h => ⟨by have := h.1; omega, h.2⟩))) (fun b h1 h2 => by have := h1.2; have := h2.1; omega) (fun b h => ⟨by have := h.1; omega, by have := h.2; omega⟩) (fun b h => ⟨by have := h.1; omega, h.2⟩)) (fun b h1 h2 => by have := h1.2; have := h2.1; omega) (fun b h => ⟨by have := h.1; omega, by have := h.2; omega⟩) (fun b h => ⟨by have := h.1; omega, h.2⟩)) (fun b h1 h2 => by have := h1.2; have := h2.1; omega) (fun b h => ⟨by have := h.1; omega, by have := h.2; omega⟩) (fun b h => ⟨by have := h.1; omega, h.2⟩)) (fun b h1 h2 => by have := h1.2; have := h2.1; omega) (fun b h => ⟨by have := h.1; omega, by have := h.2; omega⟩) (fun b h => ⟨by have := h.1; omega, h.2⟩)) (fun b h1 h2 => by have := h1.2; have := h2.1; omega) (fun b h => ⟨by have := h.1; omega, by have := h.2; omega⟩) (fun b h => ⟨by have := h.1; omega, h.2⟩))))))

theorem toDef {r : Nat → D} (hs : ∀ j g, (row .defn)[j]? = some g → Sh (r j) g) : ToRDef r := (toRDef_of r hs (toStrings (hs 4 _ rfl)) (toFieldDefs (hs 5 _ rfl)) (toInDefs (hs 6 _ rfl)) (toEnumDefs (hs 7 _ rfl)) (toRoots (hs 8 _ rfl)) (toDirs (hs 10 _ rfl)))

end Da
end Go.Proofs.YtngfhncdmlpjiaaGreat
