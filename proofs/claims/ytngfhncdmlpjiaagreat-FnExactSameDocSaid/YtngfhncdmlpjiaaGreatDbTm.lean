/- What is proved: the laws' copies of an item are the same, in new memory of their own. (Made by tools/mkdbt.py.) -/
import Derived.Test.YtngfhncdmlpjiaaGreatDbTv
import Derived.Test.YtngfhncdmlpjiaaGreatDbTd
namespace Go.Proofs.YtngfhncdmlpjiaaGreat
namespace Da
set_option linter.unusedVariables false
set_option linter.unusedSimpArgs false
open Go.RowKit
attribute [local go_sem ↓] Go.wp_at_zero Go.wp_at_succ

/-- The contract of one. -/
def ToRItem (r : Nat → D) : Prop := ∀ (w : World) (c0 c1 c2 c3 c4 c5 c6 c7 c8 c9 c10 c11 c12 c13 c14 c15 c16 c17 c18 c19 c20 : Value), sumTo (fun j => sz (r j)) 21 ≤ 1048576 → At w (r 0) c0 → At w (r 1) c1 → At w (r 2) c2 → At w (r 3) c3 → At w (r 4) c4 → At w (r 5) c5 → At w (r 6) c6 → At w (r 7) c7 → At w (r 8) c8 → At w (r 9) c9 → At w (r 10) c10 → At w (r 11) c11 → At w (r 12) c12 → At w (r 13) c13 → At w (r 14) c14 → At w (r 15) c15 → At w (r 16) c16 → At w (r 17) c17 → At w (r 18) c18 → At w (r 19) c19 → At w (r 20) c20 →
  Calls Tryz.prog 22 #[.agg #[c0, c1, c2, c3, c4, c5, c6, c7, c8, c9, c10, c11, c12, c13, c14, c15, c16, c17, c18, c19, c20]] w fun e w' => ∃ d0 d1 d2 d3 d4 d5 d6 d7 d8 d9 d10 d11 d12 d13 d14 d15 d16 d17 d18 d19 d20, e = .returned (.agg #[d0, d1, d2, d3, d4, d5, d6, d7, d8, d9, d10, d11, d12, d13, d14, d15, d16, d17, d18, d19, d20]) ∧ OwnR w' r (rng w.heap.size w'.heap.size) [d0, d1, d2, d3, d4, d5, d6, d7, d8, d9, d10, d11, d12, d13, d14, d15, d16, d17, d18, d19, d20] ∧ Below w.heap.size w w'
theorem sizeItem : (Tryz.prog.info? 48).map (·.size) = some 21 := by kernel_rfl
set_option maxHeartbeats 8000000 in
theorem toRItem_of (r : Nat → D) (hsh : ∀ j g, (row .item)[j]? = some g → Sh (r j) g) (h1 : ToROp fun j => r (j + 1)) (h6 : ToRFrag fun j => r (j + 6)) (h10 : ToRDef fun j => r (j + 10)) : ToRItem r := by
  intro w c0 c1 c2 c3 c4 c5 c6 c7 c8 c9 c10 c11 c12 c13 c14 c15 c16 c17 c18 c19 c20 hs a0 a1 a2 a3 a4 a5 a6 a7 a8 a9 a10 a11 a12 a13 a14 a15 a16 a17 a18 a19 a20
  simp only [sumTo] at hs
  have HA0 := Lib.hid a0
  have HA1 := Lib.hid a1
  have HA2 := Lib.hid a2
  have HA3 := Lib.hid a3
  have HA4 := Lib.hid a4
  have HA5 := Lib.hid a5
  have HA6 := Lib.hid a6
  have HA7 := Lib.hid a7
  have HA8 := Lib.hid a8
  have HA9 := Lib.hid a9
  have HA10 := Lib.hid a10
  have HA11 := Lib.hid a11
  have HA12 := Lib.hid a12
  have HA13 := Lib.hid a13
  have HA14 := Lib.hid a14
  have HA15 := Lib.hid a15
  have HA16 := Lib.hid a16
  have HA17 := Lib.hid a17
  have HA18 := Lib.hid a18
  have HA19 := Lib.hid a19
  have HA20 := Lib.hid a20
  obtain ⟨xk0, rfl⟩ := At.int a0 (hsh 0 _ rfl)
  obtain ⟨xk1, rfl⟩ := At.int a1 (hsh 1 _ rfl)
  obtain ⟨xk2, rfl⟩ := At.str a2 (hsh 2 _ rfl)
  obtain ⟨xA3, xn3, xp3, rfl⟩ := At.lst a3 (hsh 3 _ rfl)
  obtain ⟨xA4, xn4, xp4, rfl⟩ := At.lst a4 (hsh 4 _ rfl)
  obtain ⟨xA5, xn5, xp5, rfl⟩ := At.lst a5 (hsh 5 _ rfl)
  obtain ⟨xk6, rfl⟩ := At.str a6 (hsh 6 _ rfl)
  obtain ⟨xk7, rfl⟩ := At.str a7 (hsh 7 _ rfl)
  obtain ⟨xA8, xn8, xp8, rfl⟩ := At.lst a8 (hsh 8 _ rfl)
  obtain ⟨xA9, xn9, xp9, rfl⟩ := At.lst a9 (hsh 9 _ rfl)
  obtain ⟨xk10, rfl⟩ := At.int a10 (hsh 10 _ rfl)
  obtain ⟨xk11, rfl⟩ := At.bool a11 (hsh 11 _ rfl)
  obtain ⟨xk12, rfl⟩ := At.str a12 (hsh 12 _ rfl)
  obtain ⟨xk13, rfl⟩ := At.str a13 (hsh 13 _ rfl)
  obtain ⟨xA14, xn14, xp14, rfl⟩ := At.lst a14 (hsh 14 _ rfl)
  obtain ⟨xA15, xn15, xp15, rfl⟩ := At.lst a15 (hsh 15 _ rfl)
  obtain ⟨xA16, xn16, xp16, rfl⟩ := At.lst a16 (hsh 16 _ rfl)
  obtain ⟨xA17, xn17, xp17, rfl⟩ := At.lst a17 (hsh 17 _ rfl)
  obtain ⟨xA18, xn18, xp18, rfl⟩ := At.lst a18 (hsh 18 _ rfl)
  obtain ⟨xk19, rfl⟩ := At.bool a19 (hsh 19 _ rfl)
  obtain ⟨xA20, xn20, xp20, rfl⟩ := At.lst a20 (hsh 20 _ rfl)
  clear a0 a1 a2 a3 a4 a5 a6 a7 a8 a9 a10 a11 a12 a13 a14 a15 a16 a17 a18 a19 a20
  go_enter Tryz.func22, Tryz.ntmps22
  go_wp2_with fail
  obtain ⟨W0, hW0⟩ : ∃ W0, (((w.alloc (Obj.cells #[Value.int .i64 xk0, Value.int .i64 xk1, Value.string xk2, Value.slice xA3 xn3 xp3, Value.slice xA4 xn4 xp4, Value.slice xA5 xn5 xp5, Value.string xk6, Value.string xk7, Value.slice xA8 xn8 xp8, Value.slice xA9 xn9 xp9, Value.int .i64 xk10, Value.bool xk11, Value.string xk12, Value.string xk13, Value.slice xA14 xn14 xp14, Value.slice xA15 xn15 xp15, Value.slice xA16 xn16 xp16, Value.slice xA17 xn17 xp17, Value.slice xA18 xn18 xp18, Value.bool xk19, Value.slice xA20 xn20 xp20] 72)).alloc (Obj.cells #[Value.int .i64 0, Value.int .i64 0, Value.string ⟨#[]⟩, Value.slice none 0 0, Value.slice none 0 0, Value.slice none 0 0, Value.string ⟨#[]⟩, Value.string ⟨#[]⟩, Value.slice none 0 0, Value.slice none 0 0, Value.int .i64 0, Value.bool false, Value.string ⟨#[]⟩, Value.string ⟨#[]⟩, Value.slice none 0 0, Value.slice none 0 0, Value.slice none 0 0, Value.slice none 0 0, Value.slice none 0 0, Value.bool false, Value.slice none 0 0] 48)).alloc (Obj.cells #[Value.int .i64 xk0, Value.int .i64 0, Value.string ⟨#[]⟩, Value.slice none 0 0, Value.slice none 0 0, Value.slice none 0 0, Value.string ⟨#[]⟩, Value.string ⟨#[]⟩, Value.slice none 0 0, Value.slice none 0 0, Value.int .i64 0, Value.bool false, Value.string ⟨#[]⟩, Value.string ⟨#[]⟩, Value.slice none 0 0, Value.slice none 0 0, Value.slice none 0 0, Value.slice none 0 0, Value.slice none 0 0, Value.bool false, Value.slice none 0 0] 48)) = W0 := ⟨_, rfl⟩
  have ba : Below w.heap.size w W0 := by rw [← hW0]; exact ((below_alloc _ _).alloc (by simp) _).alloc (by simp; omega) _
  have hz : W0.heap.size = w.heap.size + 3 := by rw [← hW0]; simp
  have hB0 : W0.heap[w.heap.size]? = some (Obj.cells #[Value.int .i64 xk0, Value.int .i64 xk1, Value.string xk2, Value.slice xA3 xn3 xp3, Value.slice xA4 xn4 xp4, Value.slice xA5 xn5 xp5, Value.string xk6, Value.string xk7, Value.slice xA8 xn8 xp8, Value.slice xA9 xn9 xp9, Value.int .i64 xk10, Value.bool xk11, Value.string xk12, Value.string xk13, Value.slice xA14 xn14 xp14, Value.slice xA15 xn15 xp15, Value.slice xA16 xn16 xp16, Value.slice xA17 xn17 xp17, Value.slice xA18 xn18 xp18, Value.bool xk19, Value.slice xA20 xn20 xp20] 72) := by
    rw [← hW0, Below.heap_alloc _ _ _ (by simp; omega), Below.heap_alloc _ _ _ (by simp)]; exact heap_alloc_new w _
  have hB1 : W0.heap[w.heap.size + 1]? = some (Obj.cells #[Value.int .i64 0, Value.int .i64 0, Value.string ⟨#[]⟩, Value.slice none 0 0, Value.slice none 0 0, Value.slice none 0 0, Value.string ⟨#[]⟩, Value.string ⟨#[]⟩, Value.slice none 0 0, Value.slice none 0 0, Value.int .i64 0, Value.bool false, Value.string ⟨#[]⟩, Value.string ⟨#[]⟩, Value.slice none 0 0, Value.slice none 0 0, Value.slice none 0 0, Value.slice none 0 0, Value.slice none 0 0, Value.bool false, Value.slice none 0 0] 48) := by
    rw [← hW0, Below.heap_alloc _ _ _ (by simp)]
    have := heap_alloc_new (w.alloc (Obj.cells #[Value.int .i64 xk0, Value.int .i64 xk1, Value.string xk2, Value.slice xA3 xn3 xp3, Value.slice xA4 xn4 xp4, Value.slice xA5 xn5 xp5, Value.string xk6, Value.string xk7, Value.slice xA8 xn8 xp8, Value.slice xA9 xn9 xp9, Value.int .i64 xk10, Value.bool xk11, Value.string xk12, Value.string xk13, Value.slice xA14 xn14 xp14, Value.slice xA15 xn15 xp15, Value.slice xA16 xn16 xp16, Value.slice xA17 xn17 xp17, Value.slice xA18 xn18 xp18, Value.bool xk19, Value.slice xA20 xn20 xp20] 72)) (Obj.cells #[Value.int .i64 0, Value.int .i64 0, Value.string ⟨#[]⟩, Value.slice none 0 0, Value.slice none 0 0, Value.slice none 0 0, Value.string ⟨#[]⟩, Value.string ⟨#[]⟩, Value.slice none 0 0, Value.slice none 0 0, Value.int .i64 0, Value.bool false, Value.string ⟨#[]⟩, Value.string ⟨#[]⟩, Value.slice none 0 0, Value.slice none 0 0, Value.slice none 0 0, Value.slice none 0 0, Value.slice none 0 0, Value.bool false, Value.slice none 0 0] 48)
    simpa using this
  have hB2 : W0.heap[w.heap.size + 1 + 1]? = some (Obj.cells #[Value.int .i64 xk0, Value.int .i64 0, Value.string ⟨#[]⟩, Value.slice none 0 0, Value.slice none 0 0, Value.slice none 0 0, Value.string ⟨#[]⟩, Value.string ⟨#[]⟩, Value.slice none 0 0, Value.slice none 0 0, Value.int .i64 0, Value.bool false, Value.string ⟨#[]⟩, Value.string ⟨#[]⟩, Value.slice none 0 0, Value.slice none 0 0, Value.slice none 0 0, Value.slice none 0 0, Value.slice none 0 0, Value.bool false, Value.slice none 0 0] 48) := by
    rw [← hW0]
    have := heap_alloc_new ((w.alloc (Obj.cells #[Value.int .i64 xk0, Value.int .i64 xk1, Value.string xk2, Value.slice xA3 xn3 xp3, Value.slice xA4 xn4 xp4, Value.slice xA5 xn5 xp5, Value.string xk6, Value.string xk7, Value.slice xA8 xn8 xp8, Value.slice xA9 xn9 xp9, Value.int .i64 xk10, Value.bool xk11, Value.string xk12, Value.string xk13, Value.slice xA14 xn14 xp14, Value.slice xA15 xn15 xp15, Value.slice xA16 xn16 xp16, Value.slice xA17 xn17 xp17, Value.slice xA18 xn18 xp18, Value.bool xk19, Value.slice xA20 xn20 xp20] 72)).alloc (Obj.cells #[Value.int .i64 0, Value.int .i64 0, Value.string ⟨#[]⟩, Value.slice none 0 0, Value.slice none 0 0, Value.slice none 0 0, Value.string ⟨#[]⟩, Value.string ⟨#[]⟩, Value.slice none 0 0, Value.slice none 0 0, Value.int .i64 0, Value.bool false, Value.string ⟨#[]⟩, Value.string ⟨#[]⟩, Value.slice none 0 0, Value.slice none 0 0, Value.slice none 0 0, Value.slice none 0 0, Value.slice none 0 0, Value.bool false, Value.slice none 0 0] 48)) (Obj.cells #[Value.int .i64 xk0, Value.int .i64 0, Value.string ⟨#[]⟩, Value.slice none 0 0, Value.slice none 0 0, Value.slice none 0 0, Value.string ⟨#[]⟩, Value.string ⟨#[]⟩, Value.slice none 0 0, Value.slice none 0 0, Value.int .i64 0, Value.bool false, Value.string ⟨#[]⟩, Value.string ⟨#[]⟩, Value.slice none 0 0, Value.slice none 0 0, Value.slice none 0 0, Value.slice none 0 0, Value.slice none 0 0, Value.bool false, Value.slice none 0 0] 48)
    simpa using this
  rw [hW0]
  clear hW0
  refine (h1 W0 _ _ _ _ _ (by simp only [sumTo, Nat.zero_add, Nat.reduceAdd]; omega) (At.below ba _ HA1.out) (At.below ba _ HA2.out) (At.below ba _ HA3.out) (At.below ba _ HA4.out) (At.below ba _ HA5.out)).mono ?_
  rintro e w1 ⟨v1, v2, v3, v4, v5, rfl, own1, hb1⟩
  have t1 := own1.at 0 _ rfl
  have t2 := own1.at 1 _ rfl
  have t3 := own1.at 2 _ rfl
  have t4 := own1.at 3 _ rfl
  have t5 := own1.at 4 _ rfl
  obtain ⟨yk1, rfl⟩ := At.int t1 (hsh 1 _ rfl)
  obtain ⟨yk2, rfl⟩ := At.str t2 (hsh 2 _ rfl)
  obtain ⟨yA3, yn3, yp3, rfl⟩ := At.lst t3 (hsh 3 _ rfl)
  obtain ⟨yA4, yn4, yp4, rfl⟩ := At.lst t4 (hsh 4 _ rfl)
  obtain ⟨yA5, yn5, yp5, rfl⟩ := At.lst t5 (hsh 5 _ rfl)
  clear t1 t2 t3 t4 t5
  have hB0 := (hb1.block _ (lt_of hB0)).trans hB0
  have hB1 := (hb1.block _ (lt_of hB1)).trans hB1
  have hB2 := (hb1.block _ (lt_of hB2)).trans hB2
  have bb1 := below_trans ba hb1
  have s1 := hb1.size
  rw [hz] at own1 s1
  clear hb1
  have q1 : w1.cell? ⟨w.heap.size + 1 + 1, 1, none⟩ = some (Value.int .i64 0) := by rw [cell_of hB2]; rfl
  have r1 : w1.frozen? ⟨w.heap.size + 1 + 1, 1, none⟩ = false := frozen_no hB2 _
  have q2 : w1.cell? ⟨w.heap.size + 1 + 1, 2, none⟩ = some (Value.string ⟨#[]⟩) := by rw [cell_of hB2]; rfl
  have r2 : w1.frozen? ⟨w.heap.size + 1 + 1, 2, none⟩ = false := frozen_no hB2 _
  have q3 : w1.cell? ⟨w.heap.size + 1 + 1, 3, none⟩ = some (Value.slice none 0 0) := by rw [cell_of hB2]; rfl
  have r3 : w1.frozen? ⟨w.heap.size + 1 + 1, 3, none⟩ = false := frozen_no hB2 _
  have q4 : w1.cell? ⟨w.heap.size + 1 + 1, 4, none⟩ = some (Value.slice none 0 0) := by rw [cell_of hB2]; rfl
  have r4 : w1.frozen? ⟨w.heap.size + 1 + 1, 4, none⟩ = false := frozen_no hB2 _
  have q5 : w1.cell? ⟨w.heap.size + 1 + 1, 5, none⟩ = some (Value.slice none 0 0) := by rw [cell_of hB2]; rfl
  have r5 : w1.frozen? ⟨w.heap.size + 1 + 1, 5, none⟩ = false := frozen_no hB2 _
  have g6 : w1.cell? ⟨w.heap.size, 6, none⟩ = some (Value.string xk6) := by rw [cell_of hB0]; rfl
  have g7 : w1.cell? ⟨w.heap.size, 7, none⟩ = some (Value.string xk7) := by rw [cell_of hB0]; rfl
  have g8 : w1.cell? ⟨w.heap.size, 8, none⟩ = some (Value.slice xA8 xn8 xp8) := by rw [cell_of hB0]; rfl
  have g9 : w1.cell? ⟨w.heap.size, 9, none⟩ = some (Value.slice xA9 xn9 xp9) := by rw [cell_of hB0]; rfl
  have HB0 := Lib.hid hB0
  have HB1 := Lib.hid hB1
  have HB2 := Lib.hid hB2
  clear hB0 hB1 hB2
  go_wp2_with fail
  clear q1 r1 q2 r2 q3 r3 q4 r4 q5 r5 g6 g7 g8 g9
  obtain ⟨W1, hW1⟩ : ∃ W', (((((w1.setCell ⟨w.heap.size + 1 + 1, 1, none⟩ (Value.int .i64 yk1)).setCell ⟨w.heap.size + 1 + 1, 2, none⟩ (Value.string yk2)).setCell ⟨w.heap.size + 1 + 1, 3, none⟩ (Value.slice yA3 yn3 yp3)).setCell ⟨w.heap.size + 1 + 1, 4, none⟩ (Value.slice yA4 yn4 yp4)).setCell ⟨w.heap.size + 1 + 1, 5, none⟩ (Value.slice yA5 yn5 yp5)) = W' := ⟨_, rfl⟩
  have hW1' : stores w1 (w.heap.size + 1 + 1) 1 [Value.int .i64 yk1, Value.string yk2, Value.slice yA3 yn3 yp3, Value.slice yA4 yn4 yp4, Value.slice yA5 yn5 yp5] = W1 := hW1
  rw [hW1]
  clear hW1
  have bc1 : Below w.heap.size w W1 := by rw [← hW1']; exact stores_below (by omega) _ _ _ bb1
  have sz1 : W1.heap.size = w1.heap.size := by rw [← hW1', stores_size]
  have hB0 : W1.heap[w.heap.size]? = some (Obj.cells #[Value.int .i64 xk0, Value.int .i64 xk1, Value.string xk2, Value.slice xA3 xn3 xp3, Value.slice xA4 xn4 xp4, Value.slice xA5 xn5 xp5, Value.string xk6, Value.string xk7, Value.slice xA8 xn8 xp8, Value.slice xA9 xn9 xp9, Value.int .i64 xk10, Value.bool xk11, Value.string xk12, Value.string xk13, Value.slice xA14 xn14 xp14, Value.slice xA15 xn15 xp15, Value.slice xA16 xn16 xp16, Value.slice xA17 xn17 xp17, Value.slice xA18 xn18 xp18, Value.bool xk19, Value.slice xA20 xn20 xp20] 72) := by rw [← hW1', stores_other (by omega)]; exact HB0.out
  have hB1 : W1.heap[w.heap.size + 1]? = some (Obj.cells #[Value.int .i64 0, Value.int .i64 0, Value.string ⟨#[]⟩, Value.slice none 0 0, Value.slice none 0 0, Value.slice none 0 0, Value.string ⟨#[]⟩, Value.string ⟨#[]⟩, Value.slice none 0 0, Value.slice none 0 0, Value.int .i64 0, Value.bool false, Value.string ⟨#[]⟩, Value.string ⟨#[]⟩, Value.slice none 0 0, Value.slice none 0 0, Value.slice none 0 0, Value.slice none 0 0, Value.slice none 0 0, Value.bool false, Value.slice none 0 0] 48) := by rw [← hW1', stores_other (by omega)]; exact HB1.out
  have hB2 : W1.heap[w.heap.size + 1 + 1]? = some (Obj.cells #[Value.int .i64 xk0, Value.int .i64 yk1, Value.string yk2, Value.slice yA3 yn3 yp3, Value.slice yA4 yn4 yp4, Value.slice yA5 yn5 yp5, Value.string ⟨#[]⟩, Value.string ⟨#[]⟩, Value.slice none 0 0, Value.slice none 0 0, Value.int .i64 0, Value.bool false, Value.string ⟨#[]⟩, Value.string ⟨#[]⟩, Value.slice none 0 0, Value.slice none 0 0, Value.slice none 0 0, Value.slice none 0 0, Value.slice none 0 0, Value.bool false, Value.slice none 0 0] 48) := by rw [← hW1']; exact stores_heap _ _ 1 #[Value.int .i64 xk0, Value.int .i64 0, Value.string ⟨#[]⟩, Value.slice none 0 0, Value.slice none 0 0, Value.slice none 0 0, Value.string ⟨#[]⟩, Value.string ⟨#[]⟩, Value.slice none 0 0, Value.slice none 0 0, Value.int .i64 0, Value.bool false, Value.string ⟨#[]⟩, Value.string ⟨#[]⟩, Value.slice none 0 0, Value.slice none 0 0, Value.slice none 0 0, Value.slice none 0 0, Value.slice none 0 0, Value.bool false, Value.slice none 0 0] HB2.out
  have own1 := own1.same (w' := W1) fun b hb => by rw [← hW1', stores_other (by have := hb.1; omega)]
  clear hW1' HB0 HB1 HB2
  refine (h6 W1 _ _ _ _ (by simp only [sumTo, Nat.zero_add, Nat.reduceAdd]; omega) (At.below bc1 _ HA6.out) (At.below bc1 _ HA7.out) (At.below bc1 _ HA8.out) (At.below bc1 _ HA9.out)).mono ?_
  rintro e w6 ⟨v6, v7, v8, v9, rfl, own6, hb6⟩
  have t6 := own6.at 0 _ rfl
  have t7 := own6.at 1 _ rfl
  have t8 := own6.at 2 _ rfl
  have t9 := own6.at 3 _ rfl
  obtain ⟨yk6, rfl⟩ := At.str t6 (hsh 6 _ rfl)
  obtain ⟨yk7, rfl⟩ := At.str t7 (hsh 7 _ rfl)
  obtain ⟨yA8, yn8, yp8, rfl⟩ := At.lst t8 (hsh 8 _ rfl)
  obtain ⟨yA9, yn9, yp9, rfl⟩ := At.lst t9 (hsh 9 _ rfl)
  clear t6 t7 t8 t9
  have hB0 := (hb6.block _ (lt_of hB0)).trans hB0
  have hB1 := (hb6.block _ (lt_of hB1)).trans hB1
  have hB2 := (hb6.block _ (lt_of hB2)).trans hB2
  have bb6 := below_trans bc1 hb6
  have s6 := hb6.size
  have own1 := own1.same fun b hb => hb6.block b (by have := hb.2; omega)
  rw [sz1] at own6 s6
  clear hb6
  have q6 : w6.cell? ⟨w.heap.size + 1 + 1, 6, none⟩ = some (Value.string ⟨#[]⟩) := by rw [cell_of hB2]; rfl
  have r6 : w6.frozen? ⟨w.heap.size + 1 + 1, 6, none⟩ = false := frozen_no hB2 _
  have q7 : w6.cell? ⟨w.heap.size + 1 + 1, 7, none⟩ = some (Value.string ⟨#[]⟩) := by rw [cell_of hB2]; rfl
  have r7 : w6.frozen? ⟨w.heap.size + 1 + 1, 7, none⟩ = false := frozen_no hB2 _
  have q8 : w6.cell? ⟨w.heap.size + 1 + 1, 8, none⟩ = some (Value.slice none 0 0) := by rw [cell_of hB2]; rfl
  have r8 : w6.frozen? ⟨w.heap.size + 1 + 1, 8, none⟩ = false := frozen_no hB2 _
  have q9 : w6.cell? ⟨w.heap.size + 1 + 1, 9, none⟩ = some (Value.slice none 0 0) := by rw [cell_of hB2]; rfl
  have r9 : w6.frozen? ⟨w.heap.size + 1 + 1, 9, none⟩ = false := frozen_no hB2 _
  have g10 : w6.cell? ⟨w.heap.size, 10, none⟩ = some (Value.int .i64 xk10) := by rw [cell_of hB0]; rfl
  have g11 : w6.cell? ⟨w.heap.size, 11, none⟩ = some (Value.bool xk11) := by rw [cell_of hB0]; rfl
  have g12 : w6.cell? ⟨w.heap.size, 12, none⟩ = some (Value.string xk12) := by rw [cell_of hB0]; rfl
  have g13 : w6.cell? ⟨w.heap.size, 13, none⟩ = some (Value.string xk13) := by rw [cell_of hB0]; rfl
  have g14 : w6.cell? ⟨w.heap.size, 14, none⟩ = some (Value.slice xA14 xn14 xp14) := by rw [cell_of hB0]; rfl
  have g15 : w6.cell? ⟨w.heap.size, 15, none⟩ = some (Value.slice xA15 xn15 xp15) := by rw [cell_of hB0]; rfl
  have g16 : w6.cell? ⟨w.heap.size, 16, none⟩ = some (Value.slice xA16 xn16 xp16) := by rw [cell_of hB0]; rfl
  have g17 : w6.cell? ⟨w.heap.size, 17, none⟩ = some (Value.slice xA17 xn17 xp17) := by rw [cell_of hB0]; rfl
  have g18 : w6.cell? ⟨w.heap.size, 18, none⟩ = some (Value.slice xA18 xn18 xp18) := by rw [cell_of hB0]; rfl
  have g19 : w6.cell? ⟨w.heap.size, 19, none⟩ = some (Value.bool xk19) := by rw [cell_of hB0]; rfl
  have g20 : w6.cell? ⟨w.heap.size, 20, none⟩ = some (Value.slice xA20 xn20 xp20) := by rw [cell_of hB0]; rfl
  have HB0 := Lib.hid hB0
  have HB1 := Lib.hid hB1
  have HB2 := Lib.hid hB2
  clear hB0 hB1 hB2
  go_wp2_with fail
  clear q6 r6 q7 r7 q8 r8 q9 r9 g10 g11 g12 g13 g14 g15 g16 g17 g18 g19 g20
  obtain ⟨W6, hW6⟩ : ∃ W', ((((w6.setCell ⟨w.heap.size + 1 + 1, 6, none⟩ (Value.string yk6)).setCell ⟨w.heap.size + 1 + 1, 7, none⟩ (Value.string yk7)).setCell ⟨w.heap.size + 1 + 1, 8, none⟩ (Value.slice yA8 yn8 yp8)).setCell ⟨w.heap.size + 1 + 1, 9, none⟩ (Value.slice yA9 yn9 yp9)) = W' := ⟨_, rfl⟩
  have hW6' : stores w6 (w.heap.size + 1 + 1) 6 [Value.string yk6, Value.string yk7, Value.slice yA8 yn8 yp8, Value.slice yA9 yn9 yp9] = W6 := hW6
  rw [hW6]
  clear hW6
  have bc6 : Below w.heap.size w W6 := by rw [← hW6']; exact stores_below (by omega) _ _ _ bb6
  have sz6 : W6.heap.size = w6.heap.size := by rw [← hW6', stores_size]
  have hB0 : W6.heap[w.heap.size]? = some (Obj.cells #[Value.int .i64 xk0, Value.int .i64 xk1, Value.string xk2, Value.slice xA3 xn3 xp3, Value.slice xA4 xn4 xp4, Value.slice xA5 xn5 xp5, Value.string xk6, Value.string xk7, Value.slice xA8 xn8 xp8, Value.slice xA9 xn9 xp9, Value.int .i64 xk10, Value.bool xk11, Value.string xk12, Value.string xk13, Value.slice xA14 xn14 xp14, Value.slice xA15 xn15 xp15, Value.slice xA16 xn16 xp16, Value.slice xA17 xn17 xp17, Value.slice xA18 xn18 xp18, Value.bool xk19, Value.slice xA20 xn20 xp20] 72) := by rw [← hW6', stores_other (by omega)]; exact HB0.out
  have hB1 : W6.heap[w.heap.size + 1]? = some (Obj.cells #[Value.int .i64 0, Value.int .i64 0, Value.string ⟨#[]⟩, Value.slice none 0 0, Value.slice none 0 0, Value.slice none 0 0, Value.string ⟨#[]⟩, Value.string ⟨#[]⟩, Value.slice none 0 0, Value.slice none 0 0, Value.int .i64 0, Value.bool false, Value.string ⟨#[]⟩, Value.string ⟨#[]⟩, Value.slice none 0 0, Value.slice none 0 0, Value.slice none 0 0, Value.slice none 0 0, Value.slice none 0 0, Value.bool false, Value.slice none 0 0] 48) := by rw [← hW6', stores_other (by omega)]; exact HB1.out
  have hB2 : W6.heap[w.heap.size + 1 + 1]? = some (Obj.cells #[Value.int .i64 xk0, Value.int .i64 yk1, Value.string yk2, Value.slice yA3 yn3 yp3, Value.slice yA4 yn4 yp4, Value.slice yA5 yn5 yp5, Value.string yk6, Value.string yk7, Value.slice yA8 yn8 yp8, Value.slice yA9 yn9 yp9, Value.int .i64 0, Value.bool false, Value.string ⟨#[]⟩, Value.string ⟨#[]⟩, Value.slice none 0 0, Value.slice none 0 0, Value.slice none 0 0, Value.slice none 0 0, Value.slice none 0 0, Value.bool false, Value.slice none 0 0] 48) := by rw [← hW6']; exact stores_heap _ _ 6 #[Value.int .i64 xk0, Value.int .i64 yk1, Value.string yk2, Value.slice yA3 yn3 yp3, Value.slice yA4 yn4 yp4, Value.slice yA5 yn5 yp5, Value.string ⟨#[]⟩, Value.string ⟨#[]⟩, Value.slice none 0 0, Value.slice none 0 0, Value.int .i64 0, Value.bool false, Value.string ⟨#[]⟩, Value.string ⟨#[]⟩, Value.slice none 0 0, Value.slice none 0 0, Value.slice none 0 0, Value.slice none 0 0, Value.slice none 0 0, Value.bool false, Value.slice none 0 0] HB2.out
  have own1 := own1.same (w' := W6) fun b hb => by rw [← hW6', stores_other (by have := hb.1; omega)]
  have own6 := own6.same (w' := W6) fun b hb => by rw [← hW6', stores_other (by have := hb.1; omega)]
  clear hW6' HB0 HB1 HB2
  refine (h10 W6 _ _ _ _ _ _ _ _ _ _ _ (by simp only [sumTo, Nat.zero_add, Nat.reduceAdd]; omega) (At.below bc6 _ HA10.out) (At.below bc6 _ HA11.out) (At.below bc6 _ HA12.out) (At.below bc6 _ HA13.out) (At.below bc6 _ HA14.out) (At.below bc6 _ HA15.out) (At.below bc6 _ HA16.out) (At.below bc6 _ HA17.out) (At.below bc6 _ HA18.out) (At.below bc6 _ HA19.out) (At.below bc6 _ HA20.out)).mono ?_
  rintro e w10 ⟨v10, v11, v12, v13, v14, v15, v16, v17, v18, v19, v20, rfl, own10, hb10⟩
  have t10 := own10.at 0 _ rfl
  have t11 := own10.at 1 _ rfl
  have t12 := own10.at 2 _ rfl
  have t13 := own10.at 3 _ rfl
  have t14 := own10.at 4 _ rfl
  have t15 := own10.at 5 _ rfl
  have t16 := own10.at 6 _ rfl
  have t17 := own10.at 7 _ rfl
  have t18 := own10.at 8 _ rfl
  have t19 := own10.at 9 _ rfl
  have t20 := own10.at 10 _ rfl
  obtain ⟨yk10, rfl⟩ := At.int t10 (hsh 10 _ rfl)
  obtain ⟨yk11, rfl⟩ := At.bool t11 (hsh 11 _ rfl)
  obtain ⟨yk12, rfl⟩ := At.str t12 (hsh 12 _ rfl)
  obtain ⟨yk13, rfl⟩ := At.str t13 (hsh 13 _ rfl)
  obtain ⟨yA14, yn14, yp14, rfl⟩ := At.lst t14 (hsh 14 _ rfl)
  obtain ⟨yA15, yn15, yp15, rfl⟩ := At.lst t15 (hsh 15 _ rfl)
  obtain ⟨yA16, yn16, yp16, rfl⟩ := At.lst t16 (hsh 16 _ rfl)
  obtain ⟨yA17, yn17, yp17, rfl⟩ := At.lst t17 (hsh 17 _ rfl)
  obtain ⟨yA18, yn18, yp18, rfl⟩ := At.lst t18 (hsh 18 _ rfl)
  obtain ⟨yk19, rfl⟩ := At.bool t19 (hsh 19 _ rfl)
  obtain ⟨yA20, yn20, yp20, rfl⟩ := At.lst t20 (hsh 20 _ rfl)
  clear t10 t11 t12 t13 t14 t15 t16 t17 t18 t19 t20
  have hB0 := (hb10.block _ (lt_of hB0)).trans hB0
  have hB1 := (hb10.block _ (lt_of hB1)).trans hB1
  have hB2 := (hb10.block _ (lt_of hB2)).trans hB2
  have bb10 := below_trans bc6 hb10
  have s10 := hb10.size
  have own1 := own1.same fun b hb => hb10.block b (by have := hb.2; omega)
  have own6 := own6.same fun b hb => hb10.block b (by have := hb.2; omega)
  rw [sz6] at own10 s10
  clear hb10
  have q10 : w10.cell? ⟨w.heap.size + 1 + 1, 10, none⟩ = some (Value.int .i64 0) := by rw [cell_of hB2]; rfl
  have r10 : w10.frozen? ⟨w.heap.size + 1 + 1, 10, none⟩ = false := frozen_no hB2 _
  have q11 : w10.cell? ⟨w.heap.size + 1 + 1, 11, none⟩ = some (Value.bool false) := by rw [cell_of hB2]; rfl
  have r11 : w10.frozen? ⟨w.heap.size + 1 + 1, 11, none⟩ = false := frozen_no hB2 _
  have q12 : w10.cell? ⟨w.heap.size + 1 + 1, 12, none⟩ = some (Value.string ⟨#[]⟩) := by rw [cell_of hB2]; rfl
  have r12 : w10.frozen? ⟨w.heap.size + 1 + 1, 12, none⟩ = false := frozen_no hB2 _
  have q13 : w10.cell? ⟨w.heap.size + 1 + 1, 13, none⟩ = some (Value.string ⟨#[]⟩) := by rw [cell_of hB2]; rfl
  have r13 : w10.frozen? ⟨w.heap.size + 1 + 1, 13, none⟩ = false := frozen_no hB2 _
  have q14 : w10.cell? ⟨w.heap.size + 1 + 1, 14, none⟩ = some (Value.slice none 0 0) := by rw [cell_of hB2]; rfl
  have r14 : w10.frozen? ⟨w.heap.size + 1 + 1, 14, none⟩ = false := frozen_no hB2 _
  have q15 : w10.cell? ⟨w.heap.size + 1 + 1, 15, none⟩ = some (Value.slice none 0 0) := by rw [cell_of hB2]; rfl
  have r15 : w10.frozen? ⟨w.heap.size + 1 + 1, 15, none⟩ = false := frozen_no hB2 _
  have q16 : w10.cell? ⟨w.heap.size + 1 + 1, 16, none⟩ = some (Value.slice none 0 0) := by rw [cell_of hB2]; rfl
  have r16 : w10.frozen? ⟨w.heap.size + 1 + 1, 16, none⟩ = false := frozen_no hB2 _
  have q17 : w10.cell? ⟨w.heap.size + 1 + 1, 17, none⟩ = some (Value.slice none 0 0) := by rw [cell_of hB2]; rfl
  have r17 : w10.frozen? ⟨w.heap.size + 1 + 1, 17, none⟩ = false := frozen_no hB2 _
  have q18 : w10.cell? ⟨w.heap.size + 1 + 1, 18, none⟩ = some (Value.slice none 0 0) := by rw [cell_of hB2]; rfl
  have r18 : w10.frozen? ⟨w.heap.size + 1 + 1, 18, none⟩ = false := frozen_no hB2 _
  have q19 : w10.cell? ⟨w.heap.size + 1 + 1, 19, none⟩ = some (Value.bool false) := by rw [cell_of hB2]; rfl
  have r19 : w10.frozen? ⟨w.heap.size + 1 + 1, 19, none⟩ = false := frozen_no hB2 _
  have q20 : w10.cell? ⟨w.heap.size + 1 + 1, 20, none⟩ = some (Value.slice none 0 0) := by rw [cell_of hB2]; rfl
  have r20 : w10.frozen? ⟨w.heap.size + 1 + 1, 20, none⟩ = false := frozen_no hB2 _
  clear q10 r10 q11 r11 q12 r12 q13 r13 q14 r14 q15 r15 q16 r16 q17 r17 q18 r18 q19 r19 q20 r20
  have HB2 := Lib.hid hB2
  have HFE : Hid ((((#[Value.int .i64 xk0, Value.int .i64 yk1, Value.string yk2, Value.slice yA3 yn3 yp3, Value.slice yA4 yn4 yp4, Value.slice yA5 yn5 yp5, Value.string yk6, Value.string yk7, Value.slice yA8 yn8 yp8, Value.slice yA9 yn9 yp9, Value.int .i64 0, Value.bool false, Value.string ⟨#[]⟩, Value.string ⟨#[]⟩, Value.slice none 0 0, Value.slice none 0 0, Value.slice none 0 0, Value.slice none 0 0, Value.slice none 0 0, Value.bool false, Value.slice none 0 0] : Array Value).toList.take 10) ++ [Value.int .i64 yk10, Value.bool yk11, Value.string yk12, Value.string yk13, Value.slice yA14 yn14 yp14, Value.slice yA15 yn15 yp15, Value.slice yA16 yn16 yp16, Value.slice yA17 yn17 yp17, Value.slice yA18 yn18 yp18, Value.bool yk19, Value.slice yA20 yn20 yp20] ++ ((#[Value.int .i64 xk0, Value.int .i64 yk1, Value.string yk2, Value.slice yA3 yn3 yp3, Value.slice yA4 yn4 yp4, Value.slice yA5 yn5 yp5, Value.string yk6, Value.string yk7, Value.slice yA8 yn8 yp8, Value.slice yA9 yn9 yp9, Value.int .i64 0, Value.bool false, Value.string ⟨#[]⟩, Value.string ⟨#[]⟩, Value.slice none 0 0, Value.slice none 0 0, Value.slice none 0 0, Value.slice none 0 0, Value.slice none 0 0, Value.bool false, Value.slice none 0 0] : Array Value).toList.drop (10 + [Value.int .i64 yk10, Value.bool yk11, Value.string yk12, Value.string yk13, Value.slice yA14 yn14 yp14, Value.slice yA15 yn15 yp15, Value.slice yA16 yn16 yp16, Value.slice yA17 yn17 yp17, Value.slice yA18 yn18 yp18, Value.bool yk19, Value.slice yA20 yn20 yp20].length))).toArray = #[Value.int .i64 xk0, Value.int .i64 yk1, Value.string yk2, Value.slice yA3 yn3 yp3, Value.slice yA4 yn4 yp4, Value.slice yA5 yn5 yp5, Value.string yk6, Value.string yk7, Value.slice yA8 yn8 yp8, Value.slice yA9 yn9 yp9, Value.int .i64 yk10, Value.bool yk11, Value.string yk12, Value.string yk13, Value.slice yA14 yn14 yp14, Value.slice yA15 yn15 yp15, Value.slice yA16 yn16 yp16, Value.slice yA17 yn17 yp17, Value.slice yA18 yn18 yp18, Value.bool yk19, Value.slice yA20 yn20 yp20]) := by simp [Hid]
  have HOC : Hid (∀ v ∈ [Value.int .i64 yk10, Value.bool yk11, Value.string yk12, Value.string yk13, Value.slice yA14 yn14 yp14, Value.slice yA15 yn15 yp15, Value.slice yA16 yn16 yp16, Value.slice yA17 yn17 yp17, Value.slice yA18 yn18 yp18, Value.bool yk19, Value.slice yA20 yn20 yp20], v.oneCell' = true) := by simp [Hid, Value.oneCell']
  have HL2 : Hid ((w10.setRow (w.heap.size + 1 + 1) #[Value.int .i64 xk0, Value.int .i64 yk1, Value.string yk2, Value.slice yA3 yn3 yp3, Value.slice yA4 yn4 yp4, Value.slice yA5 yn5 yp5, Value.string yk6, Value.string yk7, Value.slice yA8 yn8 yp8, Value.slice yA9 yn9 yp9, Value.int .i64 yk10, Value.bool yk11, Value.string yk12, Value.string yk13, Value.slice yA14 yn14 yp14, Value.slice yA15 yn15 yp15, Value.slice yA16 yn16 yp16, Value.slice yA17 yn17 yp17, Value.slice yA18 yn18 yp18, Value.bool yk19, Value.slice yA20 yn20 yp20]).heap[w.heap.size + 1 + 1]? = some (Obj.cells #[Value.int .i64 xk0, Value.int .i64 yk1, Value.string yk2, Value.slice yA3 yn3 yp3, Value.slice yA4 yn4 yp4, Value.slice yA5 yn5 yp5, Value.string yk6, Value.string yk7, Value.slice yA8 yn8 yp8, Value.slice yA9 yn9 yp9, Value.int .i64 yk10, Value.bool yk11, Value.string yk12, Value.string yk13, Value.slice yA14 yn14 yp14, Value.slice yA15 yn15 yp15, Value.slice yA16 yn16 yp16, Value.slice yA17 yn17 yp17, Value.slice yA18 yn18 yp18, Value.bool yk19, Value.slice yA20 yn20 yp20] 48)) := heap_setRow_same hB2
  have HL1 : Hid ((w10.setRow (w.heap.size + 1 + 1) #[Value.int .i64 xk0, Value.int .i64 yk1, Value.string yk2, Value.slice yA3 yn3 yp3, Value.slice yA4 yn4 yp4, Value.slice yA5 yn5 yp5, Value.string yk6, Value.string yk7, Value.slice yA8 yn8 yp8, Value.slice yA9 yn9 yp9, Value.int .i64 yk10, Value.bool yk11, Value.string yk12, Value.string yk13, Value.slice yA14 yn14 yp14, Value.slice yA15 yn15 yp15, Value.slice yA16 yn16 yp16, Value.slice yA17 yn17 yp17, Value.slice yA18 yn18 yp18, Value.bool yk19, Value.slice yA20 yn20 yp20]).heap[w.heap.size + 1]? = some (Obj.cells #[Value.int .i64 0, Value.int .i64 0, Value.string ⟨#[]⟩, Value.slice none 0 0, Value.slice none 0 0, Value.slice none 0 0, Value.string ⟨#[]⟩, Value.string ⟨#[]⟩, Value.slice none 0 0, Value.slice none 0 0, Value.int .i64 0, Value.bool false, Value.string ⟨#[]⟩, Value.string ⟨#[]⟩, Value.slice none 0 0, Value.slice none 0 0, Value.slice none 0 0, Value.slice none 0 0, Value.slice none 0 0, Value.bool false, Value.slice none 0 0] 48)) := (heap_setRow_other (by omega)).trans hB1
  have HA1' : Hid ((#[Value.int .i64 xk0, Value.int .i64 yk1, Value.string yk2, Value.slice yA3 yn3 yp3, Value.slice yA4 yn4 yp4, Value.slice yA5 yn5 yp5, Value.string yk6, Value.string yk7, Value.slice yA8 yn8 yp8, Value.slice yA9 yn9 yp9, Value.int .i64 yk10, Value.bool yk11, Value.string yk12, Value.string yk13, Value.slice yA14 yn14 yp14, Value.slice yA15 yn15 yp15, Value.slice yA16 yn16 yp16, Value.slice yA17 yn17 yp17, Value.slice yA18 yn18 yp18, Value.bool yk19, Value.slice yA20 yn20 yp20] : Array Value).all (·.oneCell') = true) := by simp [Hid, Value.oneCell']
  clear hB0 hB1 hB2
  go_wp2_with (first | (refine wpList_store_part rfl 46 _ _ rfl (w.heap.size + 1 + 1) 10 [Value.int .i64 yk10, Value.bool yk11, Value.string yk12, Value.string yk13, Value.slice yA14 yn14 yp14, Value.slice yA15 yn15 yp15, Value.slice yA16 yn16 yp16, Value.slice yA17 yn17 yp17, Value.slice yA18 yn18 yp18, Value.bool yk19, Value.slice yA20 yn20 yp20] rfl rfl 48 #[Value.int .i64 xk0, Value.int .i64 yk1, Value.string yk2, Value.slice yA3 yn3 yp3, Value.slice yA4 yn4 yp4, Value.slice yA5 yn5 yp5, Value.string yk6, Value.string yk7, Value.slice yA8 yn8 yp8, Value.slice yA9 yn9 yp9, Value.int .i64 0, Value.bool false, Value.string ⟨#[]⟩, Value.string ⟨#[]⟩, Value.slice none 0 0, Value.slice none 0 0, Value.slice none 0 0, Value.slice none 0 0, Value.slice none 0 0, Value.bool false, Value.slice none 0 0] HB2.out sizeDef (by simp) HOC.out #[Value.int .i64 xk0, Value.int .i64 yk1, Value.string yk2, Value.slice yA3 yn3 yp3, Value.slice yA4 yn4 yp4, Value.slice yA5 yn5 yp5, Value.string yk6, Value.string yk7, Value.slice yA8 yn8 yp8, Value.slice yA9 yn9 yp9, Value.int .i64 yk10, Value.bool yk11, Value.string yk12, Value.string yk13, Value.slice yA14 yn14 yp14, Value.slice yA15 yn15 yp15, Value.slice yA16 yn16 yp16, Value.slice yA17 yn17 yp17, Value.slice yA18 yn18 yp18, Value.bool yk19, Value.slice yA20 yn20 yp20] HFE.out ?_) | (refine wpList_load_row rfl 48 _ rfl (w.heap.size + 1 + 1) rfl 48 #[Value.int .i64 xk0, Value.int .i64 yk1, Value.string yk2, Value.slice yA3 yn3 yp3, Value.slice yA4 yn4 yp4, Value.slice yA5 yn5 yp5, Value.string yk6, Value.string yk7, Value.slice yA8 yn8 yp8, Value.slice yA9 yn9 yp9, Value.int .i64 yk10, Value.bool yk11, Value.string yk12, Value.string yk13, Value.slice yA14 yn14 yp14, Value.slice yA15 yn15 yp15, Value.slice yA16 yn16 yp16, Value.slice yA17 yn17 yp17, Value.slice yA18 yn18 yp18, Value.bool yk19, Value.slice yA20 yn20 yp20] (0, 0) _ HL2.out Tryz.underlying48 rfl sizeItem ?_) | (refine wpList_store_row rfl 48 _ _ rfl (w.heap.size + 1) #[Value.int .i64 xk0, Value.int .i64 yk1, Value.string yk2, Value.slice yA3 yn3 yp3, Value.slice yA4 yn4 yp4, Value.slice yA5 yn5 yp5, Value.string yk6, Value.string yk7, Value.slice yA8 yn8 yp8, Value.slice yA9 yn9 yp9, Value.int .i64 yk10, Value.bool yk11, Value.string yk12, Value.string yk13, Value.slice yA14 yn14 yp14, Value.slice yA15 yn15 yp15, Value.slice yA16 yn16 yp16, Value.slice yA17 yn17 yp17, Value.slice yA18 yn18 yp18, Value.bool yk19, Value.slice yA20 yn20 yp20] rfl rfl 48 #[Value.int .i64 0, Value.int .i64 0, Value.string ⟨#[]⟩, Value.slice none 0 0, Value.slice none 0 0, Value.slice none 0 0, Value.string ⟨#[]⟩, Value.string ⟨#[]⟩, Value.slice none 0 0, Value.slice none 0 0, Value.int .i64 0, Value.bool false, Value.string ⟨#[]⟩, Value.string ⟨#[]⟩, Value.slice none 0 0, Value.slice none 0 0, Value.slice none 0 0, Value.slice none 0 0, Value.slice none 0 0, Value.bool false, Value.slice none 0 0] HL1.out sizeItem rfl HA1'.out ?_))
  obtain ⟨W9, hW9⟩ : ∃ W9, (w10.setRow (w.heap.size + 1 + 1) #[Value.int .i64 xk0, Value.int .i64 yk1, Value.string yk2, Value.slice yA3 yn3 yp3, Value.slice yA4 yn4 yp4, Value.slice yA5 yn5 yp5, Value.string yk6, Value.string yk7, Value.slice yA8 yn8 yp8, Value.slice yA9 yn9 yp9, Value.int .i64 yk10, Value.bool yk11, Value.string yk12, Value.string yk13, Value.slice yA14 yn14 yp14, Value.slice yA15 yn15 yp15, Value.slice yA16 yn16 yp16, Value.slice yA17 yn17 yp17, Value.slice yA18 yn18 yp18, Value.bool yk19, Value.slice yA20 yn20 yp20]).setRow (w.heap.size + 1) #[Value.int .i64 xk0, Value.int .i64 yk1, Value.string yk2, Value.slice yA3 yn3 yp3, Value.slice yA4 yn4 yp4, Value.slice yA5 yn5 yp5, Value.string yk6, Value.string yk7, Value.slice yA8 yn8 yp8, Value.slice yA9 yn9 yp9, Value.int .i64 yk10, Value.bool yk11, Value.string yk12, Value.string yk13, Value.slice yA14 yn14 yp14, Value.slice yA15 yn15 yp15, Value.slice yA16 yn16 yp16, Value.slice yA17 yn17 yp17, Value.slice yA18 yn18 yp18, Value.bool yk19, Value.slice yA20 yn20 yp20] = W9 := ⟨_, rfl⟩
  rw [hW9]
  have hW9' := hW9
  clear hW9
  have hg9 : W9.heap[w.heap.size + 1]? = some (Obj.cells #[Value.int .i64 xk0, Value.int .i64 yk1, Value.string yk2, Value.slice yA3 yn3 yp3, Value.slice yA4 yn4 yp4, Value.slice yA5 yn5 yp5, Value.string yk6, Value.string yk7, Value.slice yA8 yn8 yp8, Value.slice yA9 yn9 yp9, Value.int .i64 yk10, Value.bool yk11, Value.string yk12, Value.string yk13, Value.slice yA14 yn14 yp14, Value.slice yA15 yn15 yp15, Value.slice yA16 yn16 yp16, Value.slice yA17 yn17 yp17, Value.slice yA18 yn18 yp18, Value.bool yk19, Value.slice yA20 yn20 yp20] 48) := by
    rw [← hW9']
    exact heap_setRow_same HL1.out
  have hk9 : ∀ b, w.heap.size + 2 < b → W9.heap[b]? = w10.heap[b]? := fun b hb => by rw [← hW9', heap_setRow_other (by omega), heap_setRow_other (by omega)]
  have hz9 : W9.heap.size = w10.heap.size := by rw [← hW9', size_setRow, size_setRow]
  have bb9 : Below w.heap.size w W9 := by rw [← hW9']; exact below_setRow (below_setRow bb10 (by omega)) (by omega)
  clear hW9'
  (try simp only [Exit.inBlock, Exit.then])
  refine bodyPost_ret (results_cell_row rfl _ W9 (w.heap.size + 1) _ _ _ _ rfl hg9 Tryz.underlying48 rfl (by kernel_rfl)) rfl ?_
  refine ⟨_, _, _, _, _, _, _, _, _, _, _, _, _, _, _, _, _, _, _, _, _, rfl, ?_, bb9⟩
  rw [hz9]
  have own1 := own1.same (w' := W9) fun b hb => hk9 b (by have := hb.1; omega)
  have own6 := own6.same (w' := W9) fun b hb => hk9 b (by have := hb.1; omega)
  have own10 := own10.same (w' := W9) fun b hb => hk9 b (by have := hb.1; omega)
  refine OwnR.wide ?_ (F := rng (w.heap.size + 3) w10.heap.size) (fun b h => ⟨by have := h.1; omega, h.2⟩)
  exact (ownR_plain (F := rng (w.heap.size + 3) w10.heap.size) (Own.plain HA0.out (hsh 0 _ rfl)) (ownR_append (F1 := rng (w.heap.size + 3) (w1.heap.size)) (F2 := rng (w1.heap.size) w10.heap.size) (F := rng (w.heap.size + 3) w10.heap.size) (n := 5) rfl own1 (ownR_append (F1 := rng (w1.heap.size) (w6.heap.size)) (F2 := rng (w6.heap.size) w10.heap.size) (F := rng (w1.heap.size) w10.heap.size) (n := 4) rfl own6 (ownR_append (F1 := rng (w6.heap.size) (w10.heap.size)) (F2 := rng w10.heap.size w10.heap.size) (F := rng (w6.heap.size) w10.heap.size) (n := 11) rfl own10 ownR_nil (fun b h1 h2 => by have := h1.2; have := h2.1; omega) (fun b h => ⟨by have := h.1; omega, by have := h.2; omega⟩) (fun b h => ⟨by have := h.1; omega, h.2⟩)) (fun b h1 h2 => by have := h1.2; have := h2.1; omega) (fun b h => ⟨by have := h.1; omega, by have := h.2; omega⟩) (fun b h => ⟨by have := h.1; omega, h.2⟩)) (fun b h1 h2 => by have := h1.2; have := h2.1; omega) (fun b h => ⟨by have := h.1; omega, by have := h.2; omega⟩) (fun b h => ⟨by have := h.1; omega, h.2⟩)))

theorem toItem {r : Nat → D} (hs : ∀ j g, (row .item)[j]? = some g → Sh (r j) g) : ToRItem r := (toRItem_of r hs (toROp_of _ (sub_sh (k := .op) 1 (by decide) hs) (toVarDefs (hs 3 _ rfl)) (toDirs (hs 4 _ rfl)) (toSels _ (hs 5 _ rfl))) (toRFrag_of _ (sub_sh (k := .frag) 6 (by decide) hs) (toDirs (hs 8 _ rfl)) (toSels _ (hs 9 _ rfl))) (toRDef_of _ (sub_sh (k := .defn) 10 (by decide) hs) (toStrings (hs 14 _ rfl)) (toFieldDefs (hs 15 _ rfl)) (toInDefs (hs 16 _ rfl)) (toEnumDefs (hs 17 _ rfl)) (toRoots (hs 18 _ rfl)) (toDirs (hs 20 _ rfl))))

end Da
end Go.Proofs.YtngfhncdmlpjiaaGreat
