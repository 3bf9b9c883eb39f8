/- What is proved: the laws' copies of questions and pieces are the same, in new memory of their own. (Made by tools/mkdbt.py.) -/
import Derived.Test.YtngfhncdmlpjiaaGreatDbT
namespace Go.Proofs.YtngfhncdmlpjiaaGreat
namespace Da
set_option linter.unusedVariables false
set_option linter.unusedSimpArgs false
open Go.RowKit
attribute [local go_sem ↓] Go.wp_at_zero Go.wp_at_succ

/-- The contract of one. -/
def ToRVarDef (r : Nat → D) : Prop := ∀ (w : World) (c0 c1 c2 c3 c4 c5 c6 c7 c8 : Value), sumTo (fun j => sz (r j)) 9 ≤ 1048576 → At w (r 0) c0 → At w (r 1) c1 → At w (r 2) c2 → At w (r 3) c3 → At w (r 4) c4 → At w (r 5) c5 → At w (r 6) c6 → At w (r 7) c7 → At w (r 8) c8 →
  Calls Tryz.prog 86 #[.agg #[c0, c1, c2, c3, c4, c5, c6, c7, c8]] w fun e w' => ∃ d0 d1 d2 d3 d4 d5 d6 d7 d8, e = .returned (.agg #[d0, d1, d2, d3, d4, d5, d6, d7, d8]) ∧ OwnR w' r (rng w.heap.size w'.heap.size) [d0, d1, d2, d3, d4, d5, d6, d7, d8] ∧ Below w.heap.size w w'
theorem sizeVarDef : (Tryz.prog.info? 79).map (·.size) = some 9 := by kernel_rfl
set_option maxHeartbeats 8000000 in
theorem toRVarDef_of (r : Nat → D) (hsh : ∀ j g, (row .vardef)[j]? = some g → Sh (r j) g) (h1 : ToRType fun j => r (j + 1)) (h4 : ToRValue fun j => r (j + 4)) (h8 : ToL 50 (r 8)) : ToRVarDef r := by
  intro w c0 c1 c2 c3 c4 c5 c6 c7 c8 hs a0 a1 a2 a3 a4 a5 a6 a7 a8
  simp only [sumTo] at hs
  have HA0 := Lib.hid a0
  have HA1 := Lib.hid a1
  have HA2 := Lib.hid a2
  have HA3 := Lib.hid a3
  have HA4 := Lib.hid a4
  have HA5 := Lib.hid a5
  have HA6 := Lib.hid a6
  have HA7 := Lib.hid a7
  have HA8 := Lib.hid a8
  obtain ⟨xk0, rfl⟩ := At.str a0 (hsh 0 _ rfl)
  obtain ⟨xk1, rfl⟩ := At.str a1 (hsh 1 _ rfl)
  obtain ⟨xk2, rfl⟩ := At.str a2 (hsh 2 _ rfl)
  obtain ⟨xk3, rfl⟩ := At.bool a3 (hsh 3 _ rfl)
  obtain ⟨xk4, rfl⟩ := At.int a4 (hsh 4 _ rfl)
  obtain ⟨xk5, rfl⟩ := At.str a5 (hsh 5 _ rfl)
  obtain ⟨xA6, xn6, xp6, rfl⟩ := At.lst a6 (hsh 6 _ rfl)
  obtain ⟨xA7, xn7, xp7, rfl⟩ := At.lst a7 (hsh 7 _ rfl)
  obtain ⟨xA8, xn8, xp8, rfl⟩ := At.lst a8 (hsh 8 _ rfl)
  clear a0 a1 a2 a3 a4 a5 a6 a7 a8
  go_enter Tryz.func86, Tryz.ntmps86
  go_wp2_with fail
  obtain ⟨W0, hW0⟩ : ∃ W0, (((w.alloc (Obj.cells #[Value.string xk0, Value.string xk1, Value.string xk2, Value.bool xk3, Value.int .i64 xk4, Value.string xk5, Value.slice xA6 xn6 xp6, Value.slice xA7 xn7 xp7, Value.slice xA8 xn8 xp8] 146)).alloc (Obj.cells #[Value.string ⟨#[]⟩, Value.string ⟨#[]⟩, Value.string ⟨#[]⟩, Value.bool false, Value.int .i64 0, Value.string ⟨#[]⟩, Value.slice none 0 0, Value.slice none 0 0, Value.slice none 0 0] 79)).alloc (Obj.cells #[Value.string xk0, Value.string ⟨#[]⟩, Value.string ⟨#[]⟩, Value.bool false, Value.int .i64 0, Value.string ⟨#[]⟩, Value.slice none 0 0, Value.slice none 0 0, Value.slice none 0 0] 79)) = W0 := ⟨_, rfl⟩
  have ba : Below w.heap.size w W0 := by rw [← hW0]; exact ((below_alloc _ _).alloc (by simp) _).alloc (by simp; omega) _
  have hz : W0.heap.size = w.heap.size + 3 := by rw [← hW0]; simp
  have hB0 : W0.heap[w.heap.size]? = some (Obj.cells #[Value.string xk0, Value.string xk1, Value.string xk2, Value.bool xk3, Value.int .i64 xk4, Value.string xk5, Value.slice xA6 xn6 xp6, Value.slice xA7 xn7 xp7, Value.slice xA8 xn8 xp8] 146) := by
    rw [← hW0, Below.heap_alloc _ _ _ (by simp; omega), Below.heap_alloc _ _ _ (by simp)]; exact heap_alloc_new w _
  have hB1 : W0.heap[w.heap.size + 1]? = some (Obj.cells #[Value.string ⟨#[]⟩, Value.string ⟨#[]⟩, Value.string ⟨#[]⟩, Value.bool false, Value.int .i64 0, Value.string ⟨#[]⟩, Value.slice none 0 0, Value.slice none 0 0, Value.slice none 0 0] 79) := by
    rw [← hW0, Below.heap_alloc _ _ _ (by simp)]
    have := heap_alloc_new (w.alloc (Obj.cells #[Value.string xk0, Value.string xk1, Value.string xk2, Value.bool xk3, Value.int .i64 xk4, Value.string xk5, Value.slice xA6 xn6 xp6, Value.slice xA7 xn7 xp7, Value.slice xA8 xn8 xp8] 146)) (Obj.cells #[Value.string ⟨#[]⟩, Value.string ⟨#[]⟩, Value.string ⟨#[]⟩, Value.bool false, Value.int .i64 0, Value.string ⟨#[]⟩, Value.slice none 0 0, Value.slice none 0 0, Value.slice none 0 0] 79)
    simpa using this
  have hB2 : W0.heap[w.heap.size + 1 + 1]? = some (Obj.cells #[Value.string xk0, Value.string ⟨#[]⟩, Value.string ⟨#[]⟩, Value.bool false, Value.int .i64 0, Value.string ⟨#[]⟩, Value.slice none 0 0, Value.slice none 0 0, Value.slice none 0 0] 79) := by
    rw [← hW0]
    have := heap_alloc_new ((w.alloc (Obj.cells #[Value.string xk0, Value.string xk1, Value.string xk2, Value.bool xk3, Value.int .i64 xk4, Value.string xk5, Value.slice xA6 xn6 xp6, Value.slice xA7 xn7 xp7, Value.slice xA8 xn8 xp8] 146)).alloc (Obj.cells #[Value.string ⟨#[]⟩, Value.string ⟨#[]⟩, Value.string ⟨#[]⟩, Value.bool false, Value.int .i64 0, Value.string ⟨#[]⟩, Value.slice none 0 0, Value.slice none 0 0, Value.slice none 0 0] 79)) (Obj.cells #[Value.string xk0, Value.string ⟨#[]⟩, Value.string ⟨#[]⟩, Value.bool false, Value.int .i64 0, Value.string ⟨#[]⟩, Value.slice none 0 0, Value.slice none 0 0, Value.slice none 0 0] 79)
    simpa using this
  rw [hW0]
  clear hW0
  refine (h1 W0 _ _ (by simp only [sumTo, Nat.zero_add, Nat.reduceAdd]; omega) (At.below ba _ HA1.out) (At.below ba _ HA2.out)).mono ?_
  rintro e w1 ⟨v1, v2, rfl, own1, hb1⟩
  have t1 := own1.at 0 _ rfl
  have t2 := own1.at 1 _ rfl
  obtain ⟨yk1, rfl⟩ := At.str t1 (hsh 1 _ rfl)
  obtain ⟨yk2, rfl⟩ := At.str t2 (hsh 2 _ rfl)
  clear t1 t2
  have hB0 := (hb1.block _ (lt_of hB0)).trans hB0
  have hB1 := (hb1.block _ (lt_of hB1)).trans hB1
  have hB2 := (hb1.block _ (lt_of hB2)).trans hB2
  have bb1 := below_trans ba hb1
  have s1 := hb1.size
  rw [hz] at own1 s1
  clear hb1
  have q1 : w1.cell? ⟨w.heap.size + 1 + 1, 1, none⟩ = some (Value.string ⟨#[]⟩) := by rw [cell_of hB2]; rfl
  have r1 : w1.frozen? ⟨w.heap.size + 1 + 1, 1, none⟩ = false := frozen_no hB2 _
  have q2 : w1.cell? ⟨w.heap.size + 1 + 1, 2, none⟩ = some (Value.string ⟨#[]⟩) := by rw [cell_of hB2]; rfl
  have r2 : w1.frozen? ⟨w.heap.size + 1 + 1, 2, none⟩ = false := frozen_no hB2 _
  have q3 : w1.cell? ⟨w.heap.size + 1 + 1, 3, none⟩ = some (Value.bool false) := by rw [cell_of hB2]; rfl
  have r3 : w1.frozen? ⟨w.heap.size + 1 + 1, 3, none⟩ = false := frozen_no hB2 _
  have g3 : w1.cell? ⟨w.heap.size, 3, none⟩ = some (Value.bool xk3) := by rw [cell_of hB0]; rfl
  have g4 : w1.cell? ⟨w.heap.size, 4, none⟩ = some (Value.int .i64 xk4) := by rw [cell_of hB0]; rfl
  have g5 : w1.cell? ⟨w.heap.size, 5, none⟩ = some (Value.string xk5) := by rw [cell_of hB0]; rfl
  have g6 : w1.cell? ⟨w.heap.size, 6, none⟩ = some (Value.slice xA6 xn6 xp6) := by rw [cell_of hB0]; rfl
  have g7 : w1.cell? ⟨w.heap.size, 7, none⟩ = some (Value.slice xA7 xn7 xp7) := by rw [cell_of hB0]; rfl
  have HB0 := Lib.hid hB0
  have HB1 := Lib.hid hB1
  have HB2 := Lib.hid hB2
  clear hB0 hB1 hB2
  go_wp2_with fail
  clear q1 r1 q2 r2 q3 r3 g3 g4 g5 g6 g7
  obtain ⟨W1, hW1⟩ : ∃ W', (((w1.setCell ⟨w.heap.size + 1 + 1, 1, none⟩ (Value.string yk1)).setCell ⟨w.heap.size + 1 + 1, 2, none⟩ (Value.string yk2)).setCell ⟨w.heap.size + 1 + 1, 3, none⟩ (Value.bool xk3)) = W' := ⟨_, rfl⟩
  have hW1' : stores w1 (w.heap.size + 1 + 1) 1 [Value.string yk1, Value.string yk2, Value.bool xk3] = W1 := hW1
  rw [hW1]
  clear hW1
  have bc1 : Below w.heap.size w W1 := by rw [← hW1']; exact stores_below (by omega) _ _ _ bb1
  have sz1 : W1.heap.size = w1.heap.size := by rw [← hW1', stores_size]
  have hB0 : W1.heap[w.heap.size]? = some (Obj.cells #[Value.string xk0, Value.string xk1, Value.string xk2, Value.bool xk3, Value.int .i64 xk4, Value.string xk5, Value.slice xA6 xn6 xp6, Value.slice xA7 xn7 xp7, Value.slice xA8 xn8 xp8] 146) := by rw [← hW1', stores_other (by omega)]; exact HB0.out
  have hB1 : W1.heap[w.heap.size + 1]? = some (Obj.cells #[Value.string ⟨#[]⟩, Value.string ⟨#[]⟩, Value.string ⟨#[]⟩, Value.bool false, Value.int .i64 0, Value.string ⟨#[]⟩, Value.slice none 0 0, Value.slice none 0 0, Value.slice none 0 0] 79) := by rw [← hW1', stores_other (by omega)]; exact HB1.out
  have hB2 : W1.heap[w.heap.size + 1 + 1]? = some (Obj.cells #[Value.string xk0, Value.string yk1, Value.string yk2, Value.bool xk3, Value.int .i64 0, Value.string ⟨#[]⟩, Value.slice none 0 0, Value.slice none 0 0, Value.slice none 0 0] 79) := by rw [← hW1']; exact stores_heap _ _ 1 #[Value.string xk0, Value.string ⟨#[]⟩, Value.string ⟨#[]⟩, Value.bool false, Value.int .i64 0, Value.string ⟨#[]⟩, Value.slice none 0 0, Value.slice none 0 0, Value.slice none 0 0] HB2.out
  have own1 := own1.same (w' := W1) fun b hb => by rw [← hW1', stores_other (by have := hb.1; omega)]
  clear hW1' HB0 HB1 HB2
  refine (h4 W1 _ _ _ _ (by simp only [sumTo, Nat.zero_add, Nat.reduceAdd]; omega) (At.below bc1 _ HA4.out) (At.below bc1 _ HA5.out) (At.below bc1 _ HA6.out) (At.below bc1 _ HA7.out)).mono ?_
  rintro e w4 ⟨v4, v5, v6, v7, rfl, own4, hb4⟩
  have t4 := own4.at 0 _ rfl
  have t5 := own4.at 1 _ rfl
  have t6 := own4.at 2 _ rfl
  have t7 := own4.at 3 _ rfl
  obtain ⟨yk4, rfl⟩ := At.int t4 (hsh 4 _ rfl)
  obtain ⟨yk5, rfl⟩ := At.str t5 (hsh 5 _ rfl)
  obtain ⟨yA6, yn6, yp6, rfl⟩ := At.lst t6 (hsh 6 _ rfl)
  obtain ⟨yA7, yn7, yp7, rfl⟩ := At.lst t7 (hsh 7 _ rfl)
  clear t4 t5 t6 t7
  have hB0 := (hb4.block _ (lt_of hB0)).trans hB0
  have hB1 := (hb4.block _ (lt_of hB1)).trans hB1
  have hB2 := (hb4.block _ (lt_of hB2)).trans hB2
  have bb4 := below_trans bc1 hb4
  have s4 := hb4.size
  have own1 := own1.same fun b hb => hb4.block b (by have := hb.2; omega)
  rw [sz1] at own4 s4
  clear hb4
  have q4 : w4.cell? ⟨w.heap.size + 1 + 1, 4, none⟩ = some (Value.int .i64 0) := by rw [cell_of hB2]; rfl
  have r4 : w4.frozen? ⟨w.heap.size + 1 + 1, 4, none⟩ = false := frozen_no hB2 _
  have q5 : w4.cell? ⟨w.heap.size + 1 + 1, 5, none⟩ = some (Value.string ⟨#[]⟩) := by rw [cell_of hB2]; rfl
  have r5 : w4.frozen? ⟨w.heap.size + 1 + 1, 5, none⟩ = false := frozen_no hB2 _
  have q6 : w4.cell? ⟨w.heap.size + 1 + 1, 6, none⟩ = some (Value.slice none 0 0) := by rw [cell_of hB2]; rfl
  have r6 : w4.frozen? ⟨w.heap.size + 1 + 1, 6, none⟩ = false := frozen_no hB2 _
  have q7 : w4.cell? ⟨w.heap.size + 1 + 1, 7, none⟩ = some (Value.slice none 0 0) := by rw [cell_of hB2]; rfl
  have r7 : w4.frozen? ⟨w.heap.size + 1 + 1, 7, none⟩ = false := frozen_no hB2 _
  have g8 : w4.cell? ⟨w.heap.size, 8, none⟩ = some (Value.slice xA8 xn8 xp8) := by rw [cell_of hB0]; rfl
  have HB0 := Lib.hid hB0
  have HB1 := Lib.hid hB1
  have HB2 := Lib.hid hB2
  clear hB0 hB1 hB2
  go_wp2_with fail
  clear q4 r4 q5 r5 q6 r6 q7 r7 g8
  obtain ⟨W4, hW4⟩ : ∃ W', ((((w4.setCell ⟨w.heap.size + 1 + 1, 4, none⟩ (Value.int .i64 yk4)).setCell ⟨w.heap.size + 1 + 1, 5, none⟩ (Value.string yk5)).setCell ⟨w.heap.size + 1 + 1, 6, none⟩ (Value.slice yA6 yn6 yp6)).setCell ⟨w.heap.size + 1 + 1, 7, none⟩ (Value.slice yA7 yn7 yp7)) = W' := ⟨_, rfl⟩
  have hW4' : stores w4 (w.heap.size + 1 + 1) 4 [Value.int .i64 yk4, Value.string yk5, Value.slice yA6 yn6 yp6, Value.slice yA7 yn7 yp7] = W4 := hW4
  rw [hW4]
  clear hW4
  have bc4 : Below w.heap.size w W4 := by rw [← hW4']; exact stores_below (by omega) _ _ _ bb4
  have sz4 : W4.heap.size = w4.heap.size := by rw [← hW4', stores_size]
  have hB0 : W4.heap[w.heap.size]? = some (Obj.cells #[Value.string xk0, Value.string xk1, Value.string xk2, Value.bool xk3, Value.int .i64 xk4, Value.string xk5, Value.slice xA6 xn6 xp6, Value.slice xA7 xn7 xp7, Value.slice xA8 xn8 xp8] 146) := by rw [← hW4', stores_other (by omega)]; exact HB0.out
  have hB1 : W4.heap[w.heap.size + 1]? = some (Obj.cells #[Value.string ⟨#[]⟩, Value.string ⟨#[]⟩, Value.string ⟨#[]⟩, Value.bool false, Value.int .i64 0, Value.string ⟨#[]⟩, Value.slice none 0 0, Value.slice none 0 0, Value.slice none 0 0] 79) := by rw [← hW4', stores_other (by omega)]; exact HB1.out
  have hB2 : W4.heap[w.heap.size + 1 + 1]? = some (Obj.cells #[Value.string xk0, Value.string yk1, Value.string yk2, Value.bool xk3, Value.int .i64 yk4, Value.string yk5, Value.slice yA6 yn6 yp6, Value.slice yA7 yn7 yp7, Value.slice none 0 0] 79) := by rw [← hW4']; exact stores_heap _ _ 4 #[Value.string xk0, Value.string yk1, Value.string yk2, Value.bool xk3, Value.int .i64 0, Value.string ⟨#[]⟩, Value.slice none 0 0, Value.slice none 0 0, Value.slice none 0 0] HB2.out
  have own1 := own1.same (w' := W4) fun b hb => by rw [← hW4', stores_other (by have := hb.1; omega)]
  have own4 := own4.same (w' := W4) fun b hb => by rw [← hW4', stores_other (by have := hb.1; omega)]
  clear hW4' HB0 HB1 HB2
  refine (h8 W4 _ (by omega) (At.below bc4 _ HA8.out)).mono ?_
  rintro e w8 ⟨v, rfl, own8, hb8⟩
  obtain ⟨yA8, yn8, yp8, rfl⟩ := At.lst (Own.at _ own8) (hsh 8 _ rfl)
  have hB0 := (hb8.block _ (lt_of hB0)).trans hB0
  have hB1 := (hb8.block _ (lt_of hB1)).trans hB1
  have hB2 := (hb8.block _ (lt_of hB2)).trans hB2
  have bb8 := below_trans bc4 hb8
  have s8 := hb8.size
  have own1 := own1.same fun b hb => hb8.block b (by have := hb.2; omega)
  have own4 := own4.same fun b hb => hb8.block b (by have := hb.2; omega)
  rw [sz4] at own8 s8
  clear hb8
  have q8 : w8.cell? ⟨w.heap.size + 1 + 1, 8, none⟩ = some (Value.slice none 0 0) := by rw [cell_of hB2]; rfl
  have r8 : w8.frozen? ⟨w.heap.size + 1 + 1, 8, none⟩ = false := frozen_no hB2 _
  have HL2 : Hid (((w8.setCell ⟨w.heap.size + 1 + 1, 8, none⟩ (Value.slice yA8 yn8 yp8))).heap[w.heap.size + 1 + 1]? = some (Obj.cells #[Value.string xk0, Value.string yk1, Value.string yk2, Value.bool xk3, Value.int .i64 yk4, Value.string yk5, Value.slice yA6 yn6 yp6, Value.slice yA7 yn7 yp7, Value.slice yA8 yn8 yp8] 79)) := by
    have e : setRow #[Value.string xk0, Value.string yk1, Value.string yk2, Value.bool xk3, Value.int .i64 yk4, Value.string yk5, Value.slice yA6 yn6 yp6, Value.slice yA7 yn7 yp7, Value.slice none 0 0] 8 [Value.slice yA8 yn8 yp8] = #[Value.string xk0, Value.string yk1, Value.string yk2, Value.bool xk3, Value.int .i64 yk4, Value.string yk5, Value.slice yA6 yn6 yp6, Value.slice yA7 yn7 yp7, Value.slice yA8 yn8 yp8] := by simp [setRow]
    have h := stores_heap [Value.slice yA8 yn8 yp8] w8 8 _ hB2
    rw [e] at h
    exact h
  have HL1 : Hid (((w8.setCell ⟨w.heap.size + 1 + 1, 8, none⟩ (Value.slice yA8 yn8 yp8))).heap[w.heap.size + 1]? = some (Obj.cells #[Value.string ⟨#[]⟩, Value.string ⟨#[]⟩, Value.string ⟨#[]⟩, Value.bool false, Value.int .i64 0, Value.string ⟨#[]⟩, Value.slice none 0 0, Value.slice none 0 0, Value.slice none 0 0] 79)) := (stores_other (by omega) [Value.slice yA8 yn8 yp8] w8 8).trans hB1
  have HA1' : Hid ((#[Value.string xk0, Value.string yk1, Value.string yk2, Value.bool xk3, Value.int .i64 yk4, Value.string yk5, Value.slice yA6 yn6 yp6, Value.slice yA7 yn7 yp7, Value.slice yA8 yn8 yp8] : Array Value).all (·.oneCell') = true) := by simp [Hid, Value.oneCell']
  clear hB0 hB1 hB2
  go_wp2_with (first | (refine wpList_load_row rfl 79 _ rfl (w.heap.size + 1 + 1) rfl 79 #[Value.string xk0, Value.string yk1, Value.string yk2, Value.bool xk3, Value.int .i64 yk4, Value.string yk5, Value.slice yA6 yn6 yp6, Value.slice yA7 yn7 yp7, Value.slice yA8 yn8 yp8] (0, 0) _ HL2.out Tryz.underlying79 rfl sizeVarDef ?_) | (refine wpList_store_row rfl 79 _ _ rfl (w.heap.size + 1) #[Value.string xk0, Value.string yk1, Value.string yk2, Value.bool xk3, Value.int .i64 yk4, Value.string yk5, Value.slice yA6 yn6 yp6, Value.slice yA7 yn7 yp7, Value.slice yA8 yn8 yp8] rfl rfl 79 #[Value.string ⟨#[]⟩, Value.string ⟨#[]⟩, Value.string ⟨#[]⟩, Value.bool false, Value.int .i64 0, Value.string ⟨#[]⟩, Value.slice none 0 0, Value.slice none 0 0, Value.slice none 0 0] HL1.out sizeVarDef rfl HA1'.out ?_))
  obtain ⟨W9, hW9⟩ : ∃ W9, (w8.setCell ⟨w.heap.size + 1 + 1, 8, none⟩ (Value.slice yA8 yn8 yp8)).setRow (w.heap.size + 1) #[Value.string xk0, Value.string yk1, Value.string yk2, Value.bool xk3, Value.int .i64 yk4, Value.string yk5, Value.slice yA6 yn6 yp6, Value.slice yA7 yn7 yp7, Value.slice yA8 yn8 yp8] = W9 := ⟨_, rfl⟩
  have hW9' : (stores w8 (w.heap.size + 1 + 1) 8 [Value.slice yA8 yn8 yp8]).setRow (w.heap.size + 1) #[Value.string xk0, Value.string yk1, Value.string yk2, Value.bool xk3, Value.int .i64 yk4, Value.string yk5, Value.slice yA6 yn6 yp6, Value.slice yA7 yn7 yp7, Value.slice yA8 yn8 yp8] = W9 := hW9
  rw [hW9]
  clear hW9
  have hg9 : W9.heap[w.heap.size + 1]? = some (Obj.cells #[Value.string xk0, Value.string yk1, Value.string yk2, Value.bool xk3, Value.int .i64 yk4, Value.string yk5, Value.slice yA6 yn6 yp6, Value.slice yA7 yn7 yp7, Value.slice yA8 yn8 yp8] 79) := by
    rw [← hW9']
    exact heap_setRow_same HL1.out
  have hk9 : ∀ b, w.heap.size + 2 < b → W9.heap[b]? = w8.heap[b]? := fun b hb => by rw [← hW9', heap_setRow_other (by omega), stores_other (by omega)]
  have hz9 : W9.heap.size = w8.heap.size := by rw [← hW9', size_setRow, stores_size]
  have bb9 : Below w.heap.size w W9 := by rw [← hW9']; exact below_setRow (stores_below (by omega) _ _ _ bb8) (by omega)
  clear hW9'
  (try simp only [Exit.inBlock, Exit.then])
  refine bodyPost_ret (results_cell_row rfl _ W9 (w.heap.size + 1) _ _ _ _ rfl hg9 Tryz.underlying79 rfl (by kernel_rfl)) rfl ?_
  refine ⟨_, _, _, _, _, _, _, _, _, rfl, ?_, bb9⟩
  rw [hz9]
  have own1 := own1.same (w' := W9) fun b hb => hk9 b (by have := hb.1; omega)
  have own4 := own4.same (w' := W9) fun b hb => hk9 b (by have := hb.1; omega)
  have own8 := Own.same (w' := W9) _ own8 fun b hb => hk9 b (by have := hb.1; omega)
  refine OwnR.wide ?_ (F := rng (w.heap.size + 3) w8.heap.size) (fun b h => ⟨by have := h.1; omega, h.2⟩)
  exact (ownR_plain (F := rng (w.heap.size + 3) w8.heap.size) (Own.plain HA0.out (hsh 0 _ rfl)) (ownR_append (F1 := rng (w.heap.size + 3) (w1.heap.size)) (F2 := rng (w1.heap.size) w8.heap.size) (F := rng (w.heap.size + 3) w8.heap.size) (n := 2) rfl own1 (ownR_plain (F := rng (w1.heap.size) w8.heap.size) (Own.plain HA3.out (hsh 3 _ rfl)) (ownR_append (F1 := rng (w1.heap.size) (w4.heap.size)) (F2 := rng (w4.heap.size) w8.heap.size) (F := rng (w1.heap.size) w8.heap.size) (n := 4) rfl own4 (ownR_cons (F1 := rng (w4.heap.size) (w8.heap.size)) (F2 := rng w8.heap.size w8.heap.size) (F := rng (w4.heap.size) w8.heap.size) own8 ownR_nil (fun b h1 h2 => by have := h1.2; have := h2.1; omega) (fun b h => ⟨by have := h.1; omega, by have := h.2; omega⟩) (fun b h => ⟨by have := h.1; omega, h.2⟩)) (fun b h1 h2 => by have := h1.2; have := h2.1; omega) (fun b h => ⟨by have := h.1; omega, by have := h.2; omega⟩) (fun b h => ⟨by have := h.1; omega, h.2⟩))) (fun b h1 h2 => by have := h1.2; have := h2.1; omega) (fun b h => ⟨by have := h.1; omega, by have := h.2; omega⟩) (fun b h => ⟨by have := h.1; omega, h.2⟩)))

theorem toVarDef {r : Nat → D} (hs : ∀ j g, (row .vardef)[j]? = some g → Sh (r j) g) : ToRVarDef r := (toRVarDef_of r hs (toRType_of _ (sub_sh (k := .typ) 1 (by decide) hs) ) (toRValue_of _ (sub_sh (k := .value) 4 (by decide) hs) (toValues _ (hs 6 _ rfl)) (toStrings (hs 7 _ rfl))) (toDirs (hs 8 _ rfl)))

def zeroVarDef : Value := .agg #[Value.string ⟨#[]⟩, Value.string ⟨#[]⟩, Value.string ⟨#[]⟩, Value.bool false, Value.int .i64 0, Value.string ⟨#[]⟩, Value.slice none 0 0, Value.slice none 0 0, Value.slice none 0 0]
theorem infoVarDef : (Tryz.prog.info? 79).map (fun i => (i.zero, i.size, i.bytes)) = some (some zeroVarDef, 9, 152) := by kernel_rfl
theorem undsVarDef : Tryz.prog.underlying 33 = some (.slice 79) := by kernel_rfl
theorem makeVarDef (n : Nat) (hn : n ≤ 1048576) : ∃ cur : Array Value, cur.size = n * 9 ∧ ∀ w : World, (Instr.makeSlice 33 (.int .i64 (n : Int)) (.int .i64 (n : Int))).run Tryz.prog w = .ok (.slice (some ⟨w.heap.size, 0, none⟩) n n) (w.alloc (.cells cur 79)) := by
  obtain ⟨i, hi, hzz⟩ := Option.map_eq_some_iff.1 infoVarDef
  simp only [Prod.mk.injEq] at hzz
  obtain ⟨hz, hs, hb⟩ := hzz
  refine ⟨madeCells zeroVarDef.cells (n * 9), size_madeCells _ _, fun w => ?_⟩
  have := run_make (P := Tryz.prog) w 33 79 i zeroVarDef undsVarDef hi hz .i64 .i64 n n (by omega) (by omega) (by rw [hb]; omega) (by omega)
  rw [hs] at this
  simpa using this
set_option maxHeartbeats 4000000 in
theorem toLsVarDef (n : Nat) (it : Nat → Nat → D) (hsh : ∀ i, i < n → ∀ j g, (row .vardef)[j]? = some g → Sh (it i j) g) (hit : ∀ i, i < n → ToRVarDef (it i)) : ToL 49 (.list 9 n it) := by
  intro w c hs h
  have HI := Lib.hid h
  obtain ⟨A, cap, rfl, hm⟩ := h.slice
  clear h
  unfold maxLen at hm
  have hn : n ≤ 1048576 := by simp only [sz] at hs; omega
  have HSZ := Lib.hid hs
  clear hs
  obtain ⟨cur0, hcur0, hmk⟩ := makeVarDef n hn
  have HCu := Lib.hid hcur0
  clear hcur0
  go_enter Tryz.func49, Tryz.ntmps49
  go_wp2
  clear hmk
  go_loopw [4] (fun i wr => ∃ k : Nat, k ≤ n ∧ i = .int .i64 k ∧ Laid wr (w.heap.size + 1) w.heap.size 9 n k 79 it ∧ w.heap.size < wr.heap.size ∧ Below w.heap.size w wr) (fun i _ => n - (intOf i).toNat)
  case atStart => exact ⟨0, Nat.zero_le _, rfl, Laid.zero (heap_alloc_new w _) (by have := HCu.out; omega), by simp, below_alloc _ _⟩
  case round =>
    obtain ⟨k, hk, rfl, hlaid, hgl, hbel⟩ := hrel
    have HLD := Lib.hid hlaid
    obtain ⟨cur, hg, hcs⟩ := hlaid.heap
    have HG := Lib.hid hg
    have HCS := Lib.hid hcs
    clear hlaid hg hcs
    by_cases hlt : k < n
    · have hk0 : (0 : Int) ≤ (k : Int) := by omega
      have hk1 : (k : Int) < (n : Int) := by omega
      obtain ⟨b, o, e2, hf⟩ := (At.below hbel _ HI.out).nth hlt
      subst e2
      obtain ⟨c0, f0, a0⟩ := hf 0 (by omega)
      obtain ⟨c1, f1, a1⟩ := hf 1 (by omega)
      obtain ⟨c2, f2, a2⟩ := hf 2 (by omega)
      obtain ⟨c3, f3, a3⟩ := hf 3 (by omega)
      obtain ⟨c4, f4, a4⟩ := hf 4 (by omega)
      obtain ⟨c5, f5, a5⟩ := hf 5 (by omega)
      obtain ⟨c6, f6, a6⟩ := hf 6 (by omega)
      obtain ⟨c7, f7, a7⟩ := hf 7 (by omega)
      obtain ⟨c8, f8, a8⟩ := hf 8 (by omega)
      clear hf
      rw [Nat.add_zero] at f0
      have cc := hit k hlt wr c0 c1 c2 c3 c4 c5 c6 c7 c8 (by have := sz_row (W := 9) (it := it) hlt; have := HSZ.out; omega) a0 a1 a2 a3 a4 a5 a6 a7 a8
      clear a0 a1 a2 a3 a4 a5 a6 a7 a8
      go_wp2_with fail
      refine cc.mono ?_
      rintro e w1 ⟨d0, d1, d2, d3, d4, d5, d6, d7, d8, rfl, hown, hb1⟩
      clear cc
      have HG1 := Lib.hid ((hb1.block _ hgl).trans HG.out)
      have HO := Lib.hid hown
      have t0 := hown.at 0 _ rfl
      have t1 := hown.at 1 _ rfl
      have t2 := hown.at 2 _ rfl
      have t3 := hown.at 3 _ rfl
      have t4 := hown.at 4 _ rfl
      have t5 := hown.at 5 _ rfl
      have t6 := hown.at 6 _ rfl
      have t7 := hown.at 7 _ rfl
      have t8 := hown.at 8 _ rfl
      clear hown
      obtain ⟨yk0, rfl⟩ := At.str t0 (hsh k hlt 0 _ rfl)
      obtain ⟨yk1, rfl⟩ := At.str t1 (hsh k hlt 1 _ rfl)
      obtain ⟨yk2, rfl⟩ := At.str t2 (hsh k hlt 2 _ rfl)
      obtain ⟨yk3, rfl⟩ := At.bool t3 (hsh k hlt 3 _ rfl)
      obtain ⟨yk4, rfl⟩ := At.int t4 (hsh k hlt 4 _ rfl)
      obtain ⟨yk5, rfl⟩ := At.str t5 (hsh k hlt 5 _ rfl)
      obtain ⟨yA6, yn6, yp6, rfl⟩ := At.lst t6 (hsh k hlt 6 _ rfl)
      obtain ⟨yA7, yn7, yp7, rfl⟩ := At.lst t7 (hsh k hlt 7 _ rfl)
      obtain ⟨yA8, yn8, yp8, rfl⟩ := At.lst t8 (hsh k hlt 8 _ rfl)
      clear t0 t1 t2 t3 t4 t5 t6 t7 t8
      have hcs := HCS.out
      obtain ⟨o0, p0⟩ : ∃ old, w1.cell? ⟨w.heap.size, k * 9, none⟩ = some old := by rw [cell_of HG1.out]; exact ⟨_, Array.getElem?_eq_getElem (by omega)⟩
      have z0 : w1.frozen? ⟨w.heap.size, k * 9, none⟩ = false := frozen_no HG1.out _
      obtain ⟨o1, p1⟩ : ∃ old, w1.cell? ⟨w.heap.size, k * 9 + 1, none⟩ = some old := by rw [cell_of HG1.out]; exact ⟨_, Array.getElem?_eq_getElem (by omega)⟩
      have z1 : w1.frozen? ⟨w.heap.size, k * 9 + 1, none⟩ = false := frozen_no HG1.out _
      obtain ⟨o2, p2⟩ : ∃ old, w1.cell? ⟨w.heap.size, k * 9 + 2, none⟩ = some old := by rw [cell_of HG1.out]; exact ⟨_, Array.getElem?_eq_getElem (by omega)⟩
      have z2 : w1.frozen? ⟨w.heap.size, k * 9 + 2, none⟩ = false := frozen_no HG1.out _
      obtain ⟨o3, p3⟩ : ∃ old, w1.cell? ⟨w.heap.size, k * 9 + 3, none⟩ = some old := by rw [cell_of HG1.out]; exact ⟨_, Array.getElem?_eq_getElem (by omega)⟩
      have z3 : w1.frozen? ⟨w.heap.size, k * 9 + 3, none⟩ = false := frozen_no HG1.out _
      obtain ⟨o4, p4⟩ : ∃ old, w1.cell? ⟨w.heap.size, k * 9 + 4, none⟩ = some old := by rw [cell_of HG1.out]; exact ⟨_, Array.getElem?_eq_getElem (by omega)⟩
      have z4 : w1.frozen? ⟨w.heap.size, k * 9 + 4, none⟩ = false := frozen_no HG1.out _
      obtain ⟨o5, p5⟩ : ∃ old, w1.cell? ⟨w.heap.size, k * 9 + 5, none⟩ = some old := by rw [cell_of HG1.out]; exact ⟨_, Array.getElem?_eq_getElem (by omega)⟩
      have z5 : w1.frozen? ⟨w.heap.size, k * 9 + 5, none⟩ = false := frozen_no HG1.out _
      obtain ⟨o6, p6⟩ : ∃ old, w1.cell? ⟨w.heap.size, k * 9 + 6, none⟩ = some old := by rw [cell_of HG1.out]; exact ⟨_, Array.getElem?_eq_getElem (by omega)⟩
      have z6 : w1.frozen? ⟨w.heap.size, k * 9 + 6, none⟩ = false := frozen_no HG1.out _
      obtain ⟨o7, p7⟩ : ∃ old, w1.cell? ⟨w.heap.size, k * 9 + 7, none⟩ = some old := by rw [cell_of HG1.out]; exact ⟨_, Array.getElem?_eq_getElem (by omega)⟩
      have z7 : w1.frozen? ⟨w.heap.size, k * 9 + 7, none⟩ = false := frozen_no HG1.out _
      obtain ⟨o8, p8⟩ : ∃ old, w1.cell? ⟨w.heap.size, k * 9 + 8, none⟩ = some old := by rw [cell_of HG1.out]; exact ⟨_, Array.getElem?_eq_getElem (by omega)⟩
      have z8 : w1.frozen? ⟨w.heap.size, k * 9 + 8, none⟩ = false := frozen_no HG1.out _
      clear hcs
      go_wp2
      go_roundw
      case rel =>
        have hst := Laid.step (vs := [Value.string yk0, Value.string yk1, Value.string yk2, Value.bool yk3, Value.int .i64 yk4, Value.string yk5, Value.slice yA6 yn6 yp6, Value.slice yA7 yn7 yp7, Value.slice yA8 yn8 yp8]) HLD.out hlt hgl (by omega) hb1 rfl HO.out
        have hsz := stores_size (g := w.heap.size) [Value.string yk0, Value.string yk1, Value.string yk2, Value.bool yk3, Value.int .i64 yk4, Value.string yk5, Value.slice yA6 yn6 yp6, Value.slice yA7 yn7 yp7, Value.slice yA8 yn8 yp8] w1 (k * 9)
        have hbb := stores_below (Nat.le_refl _) [Value.string yk0, Value.string yk1, Value.string yk2, Value.bool yk3, Value.int .i64 yk4, Value.string yk5, Value.slice yA6 yn6 yp6, Value.slice yA7 yn7 yp7, Value.slice yA8 yn8 yp8] w1 (k * 9) (below_trans hbel hb1)
        have hlt9 := Nat.lt_of_lt_of_eq (Nat.lt_of_lt_of_le hgl hb1.size) hsz.symm
        exact ⟨k + 1, by omega, by go_num, hst, hlt9, hbb⟩
      case measure => simp [intOf]; omega
    · go_wp2
      go_ret
      obtain rfl : k = n := by omega
      exact ⟨_, rfl, HLD.out.own (Nat.le_refl _) (Nat.le_refl _) (by unfold maxLen; omega) hgl, hbel⟩

theorem toVarDefs {d : D} (h : Sh d (.lst .vardef)) : ToL 49 d := by
  obtain ⟨n, it, rfl, hs⟩ := h.lst
  exact toLsVarDef n it hs fun i hi => (toRVarDef_of (it i) (hs i hi) (toRType_of _ (sub_sh (k := .typ) 1 (by decide) (hs i hi)) ) (toRValue_of _ (sub_sh (k := .value) 4 (by decide) (hs i hi)) (toValues _ ((hs i hi) 6 _ rfl)) (toStrings ((hs i hi) 7 _ rfl))) (toDirs ((hs i hi) 8 _ rfl)))

/-- The contract of one. -/
def ToROp (r : Nat → D) : Prop := ∀ (w : World) (c0 c1 c2 c3 c4 : Value), sumTo (fun j => sz (r j)) 5 ≤ 1048576 → At w (r 0) c0 → At w (r 1) c1 → At w (r 2) c2 → At w (r 3) c3 → At w (r 4) c4 →
  Calls Tryz.prog 30 #[.agg #[c0, c1, c2, c3, c4]] w fun e w' => ∃ d0 d1 d2 d3 d4, e = .returned (.agg #[d0, d1, d2, d3, d4]) ∧ OwnR w' r (rng w.heap.size w'.heap.size) [d0, d1, d2, d3, d4] ∧ Below w.heap.size w w'
theorem sizeOp : (Tryz.prog.info? 37).map (·.size) = some 5 := by kernel_rfl
set_option maxHeartbeats 8000000 in
theorem toROp_of (r : Nat → D) (hsh : ∀ j g, (row .op)[j]? = some g → Sh (r j) g) (h2 : ToL 49 (r 2)) (h3 : ToL 50 (r 3)) (h4 : ToL 51 (r 4)) : ToROp r := by
  intro w c0 c1 c2 c3 c4 hs a0 a1 a2 a3 a4
  simp only [sumTo] at hs
  have HA0 := Lib.hid a0
  have HA1 := Lib.hid a1
  have HA2 := Lib.hid a2
  have HA3 := Lib.hid a3
  have HA4 := Lib.hid a4
  obtain ⟨xk0, rfl⟩ := At.int a0 (hsh 0 _ rfl)
  obtain ⟨xk1, rfl⟩ := At.str a1 (hsh 1 _ rfl)
  obtain ⟨xA2, xn2, xp2, rfl⟩ := At.lst a2 (hsh 2 _ rfl)
  obtain ⟨xA3, xn3, xp3, rfl⟩ := At.lst a3 (hsh 3 _ rfl)
  obtain ⟨xA4, xn4, xp4, rfl⟩ := At.lst a4 (hsh 4 _ rfl)
  clear a0 a1 a2 a3 a4
  go_enter Tryz.func30, Tryz.ntmps30
  go_wp2_with fail
  obtain ⟨W0, hW0⟩ : ∃ W0, (((w.alloc (Obj.cells #[Value.int .i64 xk0, Value.string xk1, Value.slice xA2 xn2 xp2, Value.slice xA3 xn3 xp3, Value.slice xA4 xn4 xp4] 62)).alloc (Obj.cells #[Value.int .i64 0, Value.string ⟨#[]⟩, Value.slice none 0 0, Value.slice none 0 0, Value.slice none 0 0] 37)).alloc (Obj.cells #[Value.int .i64 xk0, Value.string xk1, Value.slice none 0 0, Value.slice none 0 0, Value.slice none 0 0] 37)) = W0 := ⟨_, rfl⟩
  have ba : Below w.heap.size w W0 := by rw [← hW0]; exact ((below_alloc _ _).alloc (by simp) _).alloc (by simp; omega) _
  have hz : W0.heap.size = w.heap.size + 3 := by rw [← hW0]; simp
  have hB0 : W0.heap[w.heap.size]? = some (Obj.cells #[Value.int .i64 xk0, Value.string xk1, Value.slice xA2 xn2 xp2, Value.slice xA3 xn3 xp3, Value.slice xA4 xn4 xp4] 62) := by
    rw [← hW0, Below.heap_alloc _ _ _ (by simp; omega), Below.heap_alloc _ _ _ (by simp)]; exact heap_alloc_new w _
  have hB1 : W0.heap[w.heap.size + 1]? = some (Obj.cells #[Value.int .i64 0, Value.string ⟨#[]⟩, Value.slice none 0 0, Value.slice none 0 0, Value.slice none 0 0] 37) := by
    rw [← hW0, Below.heap_alloc _ _ _ (by simp)]
    have := heap_alloc_new (w.alloc (Obj.cells #[Value.int .i64 xk0, Value.string xk1, Value.slice xA2 xn2 xp2, Value.slice xA3 xn3 xp3, Value.slice xA4 xn4 xp4] 62)) (Obj.cells #[Value.int .i64 0, Value.string ⟨#[]⟩, Value.slice none 0 0, Value.slice none 0 0, Value.slice none 0 0] 37)
    simpa using this
  have hB2 : W0.heap[w.heap.size + 1 + 1]? = some (Obj.cells #[Value.int .i64 xk0, Value.string xk1, Value.slice none 0 0, Value.slice none 0 0, Value.slice none 0 0] 37) := by
    rw [← hW0]
    have := heap_alloc_new ((w.alloc (Obj.cells #[Value.int .i64 xk0, Value.string xk1, Value.slice xA2 xn2 xp2, Value.slice xA3 xn3 xp3, Value.slice xA4 xn4 xp4] 62)).alloc (Obj.cells #[Value.int .i64 0, Value.string ⟨#[]⟩, Value.slice none 0 0, Value.slice none 0 0, Value.slice none 0 0] 37)) (Obj.cells #[Value.int .i64 xk0, Value.string xk1, Value.slice none 0 0, Value.slice none 0 0, Value.slice none 0 0] 37)
    simpa using this
  rw [hW0]
  clear hW0
  refine (h2 W0 _ (by omega) (At.below ba _ HA2.out)).mono ?_
  rintro e w2 ⟨v, rfl, own2, hb2⟩
  obtain ⟨yA2, yn2, yp2, rfl⟩ := At.lst (Own.at _ own2) (hsh 2 _ rfl)
  have hB0 := (hb2.block _ (lt_of hB0)).trans hB0
  have hB1 := (hb2.block _ (lt_of hB1)).trans hB1
  have hB2 := (hb2.block _ (lt_of hB2)).trans hB2
  have bb2 := below_trans ba hb2
  have s2 := hb2.size
  rw [hz] at own2 s2
  clear hb2
  have q2 : w2.cell? ⟨w.heap.size + 1 + 1, 2, none⟩ = some (Value.slice none 0 0) := by rw [cell_of hB2]; rfl
  have r2 : w2.frozen? ⟨w.heap.size + 1 + 1, 2, none⟩ = false := frozen_no hB2 _
  have g3 : w2.cell? ⟨w.heap.size, 3, none⟩ = some (Value.slice xA3 xn3 xp3) := by rw [cell_of hB0]; rfl
  have HB0 := Lib.hid hB0
  have HB1 := Lib.hid hB1
  have HB2 := Lib.hid hB2
  clear hB0 hB1 hB2
  go_wp2_with fail
  clear q2 r2 g3
  obtain ⟨W2, hW2⟩ : ∃ W', (w2.setCell ⟨w.heap.size + 1 + 1, 2, none⟩ (Value.slice yA2 yn2 yp2)) = W' := ⟨_, rfl⟩
  have hW2' : stores w2 (w.heap.size + 1 + 1) 2 [Value.slice yA2 yn2 yp2] = W2 := hW2
  rw [hW2]
  clear hW2
  have bc2 : Below w.heap.size w W2 := by rw [← hW2']; exact stores_below (by omega) _ _ _ bb2
  have sz2 : W2.heap.size = w2.heap.size := by rw [← hW2', stores_size]
  have hB0 : W2.heap[w.heap.size]? = some (Obj.cells #[Value.int .i64 xk0, Value.string xk1, Value.slice xA2 xn2 xp2, Value.slice xA3 xn3 xp3, Value.slice xA4 xn4 xp4] 62) := by rw [← hW2', stores_other (by omega)]; exact HB0.out
  have hB1 : W2.heap[w.heap.size + 1]? = some (Obj.cells #[Value.int .i64 0, Value.string ⟨#[]⟩, Value.slice none 0 0, Value.slice none 0 0, Value.slice none 0 0] 37) := by rw [← hW2', stores_other (by omega)]; exact HB1.out
  have hB2 : W2.heap[w.heap.size + 1 + 1]? = some (Obj.cells #[Value.int .i64 xk0, Value.string xk1, Value.slice yA2 yn2 yp2, Value.slice none 0 0, Value.slice none 0 0] 37) := by rw [← hW2']; exact stores_heap _ _ 2 #[Value.int .i64 xk0, Value.string xk1, Value.slice none 0 0, Value.slice none 0 0, Value.slice none 0 0] HB2.out
  have own2 := Own.same (w' := W2) _ own2 fun b hb => by rw [← hW2', stores_other (by have := hb.1; omega)]
  clear hW2' HB0 HB1 HB2
  refine (h3 W2 _ (by omega) (At.below bc2 _ HA3.out)).mono ?_
  rintro e w3 ⟨v, rfl, own3, hb3⟩
  obtain ⟨yA3, yn3, yp3, rfl⟩ := At.lst (Own.at _ own3) (hsh 3 _ rfl)
  have hB0 := (hb3.block _ (lt_of hB0)).trans hB0
  have hB1 := (hb3.block _ (lt_of hB1)).trans hB1
  have hB2 := (hb3.block _ (lt_of hB2)).trans hB2
  have bb3 := below_trans bc2 hb3
  have s3 := hb3.size
  have own2 := Own.below own2 hb3 (fun b hb => by have := hb.2; omega)
  rw [sz2] at own3 s3
  clear hb3
  have q3 : w3.cell? ⟨w.heap.size + 1 + 1, 3, none⟩ = some (Value.slice none 0 0) := by rw [cell_of hB2]; rfl
  have r3 : w3.frozen? ⟨w.heap.size + 1 + 1, 3, none⟩ = false := frozen_no hB2 _
  have g4 : w3.cell? ⟨w.heap.size, 4, none⟩ = some (Value.slice xA4 xn4 xp4) := by rw [cell_of hB0]; rfl
  have HB0 := Lib.hid hB0
  have HB1 := Lib.hid hB1
  have HB2 := Lib.hid hB2
  clear hB0 hB1 hB2
  go_wp2_with fail
  clear q3 r3 g4
  obtain ⟨W3, hW3⟩ : ∃ W', (w3.setCell ⟨w.heap.size + 1 + 1, 3, none⟩ (Value.slice yA3 yn3 yp3)) = W' := ⟨_, rfl⟩
  have hW3' : stores w3 (w.heap.size + 1 + 1) 3 [Value.slice yA3 yn3 yp3] = W3 := hW3
  rw [hW3]
  clear hW3
  have bc3 : Below w.heap.size w W3 := by rw [← hW3']; exact stores_below (by omega) _ _ _ bb3
  have sz3 : W3.heap.size = w3.heap.size := by rw [← hW3', stores_size]
  have hB0 : W3.heap[w.heap.size]? = some (Obj.cells #[Value.int .i64 xk0, Value.string xk1, Value.slice xA2 xn2 xp2, Value.slice xA3 xn3 xp3, Value.slice xA4 xn4 xp4] 62) := by rw [← hW3', stores_other (by omega)]; exact HB0.out
  have hB1 : W3.heap[w.heap.size + 1]? = some (Obj.cells #[Value.int .i64 0, Value.string ⟨#[]⟩, Value.slice none 0 0, Value.slice none 0 0, Value.slice none 0 0] 37) := by rw [← hW3', stores_other (by omega)]; exact HB1.out
  have hB2 : W3.heap[w.heap.size + 1 + 1]? = some (Obj.cells #[Value.int .i64 xk0, Value.string xk1, Value.slice yA2 yn2 yp2, Value.slice yA3 yn3 yp3, Value.slice none 0 0] 37) := by rw [← hW3']; exact stores_heap _ _ 3 #[Value.int .i64 xk0, Value.string xk1, Value.slice yA2 yn2 yp2, Value.slice none 0 0, Value.slice none 0 0] HB2.out
  have own2 := Own.same (w' := W3) _ own2 fun b hb => by rw [← hW3', stores_other (by have := hb.1; omega)]
  have own3 := Own.same (w' := W3) _ own3 fun b hb => by rw [← hW3', stores_other (by have := hb.1; omega)]
  clear hW3' HB0 HB1 HB2
  refine (h4 W3 _ (by omega) (At.below bc3 _ HA4.out)).mono ?_
  rintro e w4 ⟨v, rfl, own4, hb4⟩
  obtain ⟨yA4, yn4, yp4, rfl⟩ := At.lst (Own.at _ own4) (hsh 4 _ rfl)
  have hB0 := (hb4.block _ (lt_of hB0)).trans hB0
  have hB1 := (hb4.block _ (lt_of hB1)).trans hB1
  have hB2 := (hb4.block _ (lt_of hB2)).trans hB2
  have bb4 := below_trans bc3 hb4
  have s4 := hb4.size
  have own2 := Own.below own2 hb4 (fun b hb => by have := hb.2; omega)
  have own3 := Own.below own3 hb4 (fun b hb => by have := hb.2; omega)
  rw [sz3] at own4 s4
  clear hb4
  have q4 : w4.cell? ⟨w.heap.size + 1 + 1, 4, none⟩ = some (Value.slice none 0 0) := by rw [cell_of hB2]; rfl
  have r4 : w4.frozen? ⟨w.heap.size + 1 + 1, 4, none⟩ = false := frozen_no hB2 _
  have HL2 : Hid (((w4.setCell ⟨w.heap.size + 1 + 1, 4, none⟩ (Value.slice yA4 yn4 yp4))).heap[w.heap.size + 1 + 1]? = some (Obj.cells #[Value.int .i64 xk0, Value.string xk1, Value.slice yA2 yn2 yp2, Value.slice yA3 yn3 yp3, Value.slice yA4 yn4 yp4] 37)) := by
    have e : setRow #[Value.int .i64 xk0, Value.string xk1, Value.slice yA2 yn2 yp2, Value.slice yA3 yn3 yp3, Value.slice none 0 0] 4 [Value.slice yA4 yn4 yp4] = #[Value.int .i64 xk0, Value.string xk1, Value.slice yA2 yn2 yp2, Value.slice yA3 yn3 yp3, Value.slice yA4 yn4 yp4] := by simp [setRow]
    have h := stores_heap [Value.slice yA4 yn4 yp4] w4 4 _ hB2
    rw [e] at h
    exact h
  have HL1 : Hid (((w4.setCell ⟨w.heap.size + 1 + 1, 4, none⟩ (Value.slice yA4 yn4 yp4))).heap[w.heap.size + 1]? = some (Obj.cells #[Value.int .i64 0, Value.string ⟨#[]⟩, Value.slice none 0 0, Value.slice none 0 0, Value.slice none 0 0] 37)) := (stores_other (by omega) [Value.slice yA4 yn4 yp4] w4 4).trans hB1
  have HA1' : Hid ((#[Value.int .i64 xk0, Value.string xk1, Value.slice yA2 yn2 yp2, Value.slice yA3 yn3 yp3, Value.slice yA4 yn4 yp4] : Array Value).all (·.oneCell') = true) := by simp [Hid, Value.oneCell']
  clear hB0 hB1 hB2
  go_wp2_with (first | (refine wpList_load_row rfl 37 _ rfl (w.heap.size + 1 + 1) rfl 37 #[Value.int .i64 xk0, Value.string xk1, Value.slice yA2 yn2 yp2, Value.slice yA3 yn3 yp3, Value.slice yA4 yn4 yp4] (0, 0) _ HL2.out Tryz.underlying37 rfl sizeOp ?_) | (refine wpList_store_row rfl 37 _ _ rfl (w.heap.size + 1) #[Value.int .i64 xk0, Value.string xk1, Value.slice yA2 yn2 yp2, Value.slice yA3 yn3 yp3, Value.slice yA4 yn4 yp4] rfl rfl 37 #[Value.int .i64 0, Value.string ⟨#[]⟩, Value.slice none 0 0, Value.slice none 0 0, Value.slice none 0 0] HL1.out sizeOp rfl HA1'.out ?_))
  obtain ⟨W9, hW9⟩ : ∃ W9, (w4.setCell ⟨w.heap.size + 1 + 1, 4, none⟩ (Value.slice yA4 yn4 yp4)).setRow (w.heap.size + 1) #[Value.int .i64 xk0, Value.string xk1, Value.slice yA2 yn2 yp2, Value.slice yA3 yn3 yp3, Value.slice yA4 yn4 yp4] = W9 := ⟨_, rfl⟩
  have hW9' : (stores w4 (w.heap.size + 1 + 1) 4 [Value.slice yA4 yn4 yp4]).setRow (w.heap.size + 1) #[Value.int .i64 xk0, Value.string xk1, Value.slice yA2 yn2 yp2, Value.slice yA3 yn3 yp3, Value.slice yA4 yn4 yp4] = W9 := hW9
  rw [hW9]
  clear hW9
  have hg9 : W9.heap[w.heap.size + 1]? = some (Obj.cells #[Value.int .i64 xk0, Value.string xk1, Value.slice yA2 yn2 yp2, Value.slice yA3 yn3 yp3, Value.slice yA4 yn4 yp4] 37) := by
    rw [← hW9']
    exact heap_setRow_same HL1.out
  have hk9 : ∀ b, w.heap.size + 2 < b → W9.heap[b]? = w4.heap[b]? := fun b hb => by rw [← hW9', heap_setRow_other (by omega), stores_other (by omega)]
  have hz9 : W9.heap.size = w4.heap.size := by rw [← hW9', size_setRow, stores_size]
  have bb9 : Below w.heap.size w W9 := by rw [← hW9']; exact below_setRow (stores_below (by omega) _ _ _ bb4) (by omega)
  clear hW9'
  (try simp only [Exit.inBlock, Exit.then])
  refine bodyPost_ret (results_cell_row rfl _ W9 (w.heap.size + 1) _ _ _ _ rfl hg9 Tryz.underlying37 rfl (by kernel_rfl)) rfl ?_
  refine ⟨_, _, _, _, _, rfl, ?_, bb9⟩
  rw [hz9]
  have own2 := Own.same (w' := W9) _ own2 fun b hb => hk9 b (by have := hb.1; omega)
  have own3 := Own.same (w' := W9) _ own3 fun b hb => hk9 b (by have := hb.1; omega)
  have own4 := Own.same (w' := W9) _ own4 fun b hb => hk9 b (by have := hb.1; omega)
  refine OwnR.wide ?_ (F := rng (w.heap.size + 3) w4.heap.size) (fun b h => ⟨by have := h.1; omega, h.2⟩)
  exact (ownR_plain (F := rng (w.heap.size + 3) w4.heap.size) (Own.plain HA0.out (hsh 0 _ rfl)) (ownR_plain (F := rng (w.heap.size + 3) w4.heap.size) (Own.plain HA1.out (hsh 1 _ rfl)) (ownR_cons (F1 := rng (w.heap.size + 3) (w2.heap.size)) (F2 := rng (w2.heap.size) w4.heap.size) (F := rng (w.heap.size + 3) w4.heap.size) own2 (ownR_cons (F1 := rng (w2.heap.size) (w3.heap.size)) (F2 := rng (w3.heap.size) w4.heap.size) (F := rng (w2.heap.size) w4.heap.size) own3 (ownR_cons (F1 := rng (w3.heap.size) (w4.heap.size)) (F2 := rng w4.heap.size w4.heap.size) (F := rng (w3.heap.size) w4.heap.size) own4 ownR_nil (fun b h1 h2 => by have := h1.2; have := h2.1; omega) (fun b h => ⟨by have := h.1; omega, by have := h.2; omega⟩) (fun b h => ⟨by have := h.1; omega, h.2⟩)) (fun b h1 h2 => by have := h1.2; have := h2.1; omega) (fun b h => ⟨by have := h.1; omega, by have := h.2; omega⟩) (fun b h => ⟨by have := h.1; omega, h.2⟩)) (fun b h1 h2 => by have := h1.2; have := h2.1; omega) (fun b h => ⟨by have := h.1; omega, by have := h.2; omega⟩) (fun b h => ⟨by have := h.1; omega, h.2⟩))))

theorem toOp {r : Nat → D} (hs : ∀ j g, (row .op)[j]? = some g → Sh (r j) g) : ToROp r := (toROp_of r hs (toVarDefs (hs 2 _ rfl)) (toDirs (hs 3 _ rfl)) (toSels _ (hs 4 _ rfl)))

/-- The contract of one. -/
def ToRFrag (r : Nat → D) : Prop := ∀ (w : World) (c0 c1 c2 c3 : Value), sumTo (fun j => sz (r j)) 4 ≤ 1048576 → At w (r 0) c0 → At w (r 1) c1 → At w (r 2) c2 → At w (r 3) c3 →
  Calls Tryz.prog 31 #[.agg #[c0, c1, c2, c3]] w fun e w' => ∃ d0 d1 d2 d3, e = .returned (.agg #[d0, d1, d2, d3]) ∧ OwnR w' r (rng w.heap.size w'.heap.size) [d0, d1, d2, d3] ∧ Below w.heap.size w w'
theorem sizeFrag : (Tryz.prog.info? 39).map (·.size) = some 4 := by kernel_rfl
set_option maxHeartbeats 8000000 in
theorem toRFrag_of (r : Nat → D) (hsh : ∀ j g, (row .frag)[j]? = some g → Sh (r j) g) (h2 : ToL 50 (r 2)) (h3 : ToL 51 (r 3)) : ToRFrag r := by
  intro w c0 c1 c2 c3 hs a0 a1 a2 a3
  simp only [sumTo] at hs
  have HA0 := Lib.hid a0
  have HA1 := Lib.hid a1
  have HA2 := Lib.hid a2
  have HA3 := Lib.hid a3
  obtain ⟨xk0, rfl⟩ := At.str a0 (hsh 0 _ rfl)
  obtain ⟨xk1, rfl⟩ := At.str a1 (hsh 1 _ rfl)
  obtain ⟨xA2, xn2, xp2, rfl⟩ := At.lst a2 (hsh 2 _ rfl)
  obtain ⟨xA3, xn3, xp3, rfl⟩ := At.lst a3 (hsh 3 _ rfl)
  clear a0 a1 a2 a3
  go_enter Tryz.func31, Tryz.ntmps31
  go_wp2_with fail
  obtain ⟨W0, hW0⟩ : ∃ W0, (((w.alloc (Obj.cells #[Value.string xk0, Value.string xk1, Value.slice xA2 xn2 xp2, Value.slice xA3 xn3 xp3] 64)).alloc (Obj.cells #[Value.string ⟨#[]⟩, Value.string ⟨#[]⟩, Value.slice none 0 0, Value.slice none 0 0] 39)).alloc (Obj.cells #[Value.string xk0, Value.string xk1, Value.slice none 0 0, Value.slice none 0 0] 39)) = W0 := ⟨_, rfl⟩
  have ba : Below w.heap.size w W0 := by rw [← hW0]; exact ((below_alloc _ _).alloc (by simp) _).alloc (by simp; omega) _
  have hz : W0.heap.size = w.heap.size + 3 := by rw [← hW0]; simp
  have hB0 : W0.heap[w.heap.size]? = some (Obj.cells #[Value.string xk0, Value.string xk1, Value.slice xA2 xn2 xp2, Value.slice xA3 xn3 xp3] 64) := by
    rw [← hW0, Below.heap_alloc _ _ _ (by simp; omega), Below.heap_alloc _ _ _ (by simp)]; exact heap_alloc_new w _
  have hB1 : W0.heap[w.heap.size + 1]? = some (Obj.cells #[Value.string ⟨#[]⟩, Value.string ⟨#[]⟩, Value.slice none 0 0, Value.slice none 0 0] 39) := by
    rw [← hW0, Below.heap_alloc _ _ _ (by simp)]
    have := heap_alloc_new (w.alloc (Obj.cells #[Value.string xk0, Value.string xk1, Value.slice xA2 xn2 xp2, Value.slice xA3 xn3 xp3] 64)) (Obj.cells #[Value.string ⟨#[]⟩, Value.string ⟨#[]⟩, Value.slice none 0 0, Value.slice none 0 0] 39)
    simpa using this
  have hB2 : W0.heap[w.heap.size + 1 + 1]? = some (Obj.cells #[Value.string xk0, Value.string xk1, Value.slice none 0 0, Value.slice none 0 0] 39) := by
    rw [← hW0]
    have := heap_alloc_new ((w.alloc (Obj.cells #[Value.string xk0, Value.string xk1, Value.slice xA2 xn2 xp2, Value.slice xA3 xn3 xp3] 64)).alloc (Obj.cells #[Value.string ⟨#[]⟩, Value.string ⟨#[]⟩, Value.slice none 0 0, Value.slice none 0 0] 39)) (Obj.cells #[Value.string xk0, Value.string xk1, Value.slice none 0 0, Value.slice none 0 0] 39)
    simpa using this
  rw [hW0]
  clear hW0
  refine (h2 W0 _ (by omega) (At.below ba _ HA2.out)).mono ?_
  rintro e w2 ⟨v, rfl, own2, hb2⟩
  obtain ⟨yA2, yn2, yp2, rfl⟩ := At.lst (Own.at _ own2) (hsh 2 _ rfl)
  have hB0 := (hb2.block _ (lt_of hB0)).trans hB0
  have hB1 := (hb2.block _ (lt_of hB1)).trans hB1
  have hB2 := (hb2.block _ (lt_of hB2)).trans hB2
  have bb2 := below_trans ba hb2
  have s2 := hb2.size
  rw [hz] at own2 s2
  clear hb2
  have q2 : w2.cell? ⟨w.heap.size + 1 + 1, 2, none⟩ = some (Value.slice none 0 0) := by rw [cell_of hB2]; rfl
  have r2 : w2.frozen? ⟨w.heap.size + 1 + 1, 2, none⟩ = false := frozen_no hB2 _
  have g3 : w2.cell? ⟨w.heap.size, 3, none⟩ = some (Value.slice xA3 xn3 xp3) := by rw [cell_of hB0]; rfl
  have HB0 := Lib.hid hB0
  have HB1 := Lib.hid hB1
  have HB2 := Lib.hid hB2
  clear hB0 hB1 hB2
  go_wp2_with fail
  clear q2 r2 g3
  obtain ⟨W2, hW2⟩ : ∃ W', (w2.setCell ⟨w.heap.size + 1 + 1, 2, none⟩ (Value.slice yA2 yn2 yp2)) = W' := ⟨_, rfl⟩
  have hW2' : stores w2 (w.heap.size + 1 + 1) 2 [Value.slice yA2 yn2 yp2] = W2 := hW2
  rw [hW2]
  clear hW2
  have bc2 : Below w.heap.size w W2 := by rw [← hW2']; exact stores_below (by omega) _ _ _ bb2
  have sz2 : W2.heap.size = w2.heap.size := by rw [← hW2', stores_size]
  have hB0 : W2.heap[w.heap.size]? = some (Obj.cells #[Value.string xk0, Value.string xk1, Value.slice xA2 xn2 xp2, Value.slice xA3 xn3 xp3] 64) := by rw [← hW2', stores_other (by omega)]; exact HB0.out
  have hB1 : W2.heap[w.heap.size + 1]? = some (Obj.cells #[Value.string ⟨#[]⟩, Value.string ⟨#[]⟩, Value.slice none 0 0, Value.slice none 0 0] 39) := by rw [← hW2', stores_other (by omega)]; exact HB1.out
  have hB2 : W2.heap[w.heap.size + 1 + 1]? = some (Obj.cells #[Value.string xk0, Value.string xk1, Value.slice yA2 yn2 yp2, Value.slice none 0 0] 39) := by rw [← hW2']; exact stores_heap _ _ 2 #[Value.string xk0, Value.string xk1, Value.slice none 0 0, Value.slice none 0 0] HB2.out
  have own2 := Own.same (w' := W2) _ own2 fun b hb => by rw [← hW2', stores_other (by have := hb.1; omega)]
  clear hW2' HB0 HB1 HB2
  refine (h3 W2 _ (by omega) (At.below bc2 _ HA3.out)).mono ?_
  rintro e w3 ⟨v, rfl, own3, hb3⟩
  obtain ⟨yA3, yn3, yp3, rfl⟩ := At.lst (Own.at _ own3) (hsh 3 _ rfl)
  have hB0 := (hb3.block _ (lt_of hB0)).trans hB0
  have hB1 := (hb3.block _ (lt_of hB1)).trans hB1
  have hB2 := (hb3.block _ (lt_of hB2)).trans hB2
  have bb3 := below_trans bc2 hb3
  have s3 := hb3.size
  have own2 := Own.below own2 hb3 (fun b hb => by have := hb.2; omega)
  rw [sz2] at own3 s3
  clear hb3
  have q3 : w3.cell? ⟨w.heap.size + 1 + 1, 3, none⟩ = some (Value.slice none 0 0) := by rw [cell_of hB2]; rfl
  have r3 : w3.frozen? ⟨w.heap.size + 1 + 1, 3, none⟩ = false := frozen_no hB2 _
  have HL2 : Hid (((w3.setCell ⟨w.heap.size + 1 + 1, 3, none⟩ (Value.slice yA3 yn3 yp3))).heap[w.heap.size + 1 + 1]? = some (Obj.cells #[Value.string xk0, Value.string xk1, Value.slice yA2 yn2 yp2, Value.slice yA3 yn3 yp3] 39)) := by
    have e : setRow #[Value.string xk0, Value.string xk1, Value.slice yA2 yn2 yp2, Value.slice none 0 0] 3 [Value.slice yA3 yn3 yp3] = #[Value.string xk0, Value.string xk1, Value.slice yA2 yn2 yp2, Value.slice yA3 yn3 yp3] := by simp [setRow]
    have h := stores_heap [Value.slice yA3 yn3 yp3] w3 3 _ hB2
    rw [e] at h
    exact h
  have HL1 : Hid (((w3.setCell ⟨w.heap.size + 1 + 1, 3, none⟩ (Value.slice yA3 yn3 yp3))).heap[w.heap.size + 1]? = some (Obj.cells #[Value.string ⟨#[]⟩, Value.string ⟨#[]⟩, Value.slice none 0 0, Value.slice none 0 0] 39)) := (stores_other (by omega) [Value.slice yA3 yn3 yp3] w3 3).trans hB1
  have HA1' : Hid ((#[Value.string xk0, Value.string xk1, Value.slice yA2 yn2 yp2, Value.slice yA3 yn3 yp3] : Array Value).all (·.oneCell') = true) := by simp [Hid, Value.oneCell']
  clear hB0 hB1 hB2
  go_wp2_with (first | (refine wpList_load_row rfl 39 _ rfl (w.heap.size + 1 + 1) rfl 39 #[Value.string xk0, Value.string xk1, Value.slice yA2 yn2 yp2, Value.slice yA3 yn3 yp3] (0, 0) _ HL2.out Tryz.underlying39 rfl sizeFrag ?_) | (refine wpList_store_row rfl 39 _ _ rfl (w.heap.size + 1) #[Value.string xk0, Value.string xk1, Value.slice yA2 yn2 yp2, Value.slice yA3 yn3 yp3] rfl rfl 39 #[Value.string ⟨#[]⟩, Value.string ⟨#[]⟩, Value.slice none 0 0, Value.slice none 0 0] HL1.out sizeFrag rfl HA1'.out ?_))
  obtain ⟨W9, hW9⟩ : ∃ W9, (w3.setCell ⟨w.heap.size + 1 + 1, 3, none⟩ (Value.slice yA3 yn3 yp3)).setRow (w.heap.size + 1) #[Value.string xk0, Value.string xk1, Value.slice yA2 yn2 yp2, Value.slice yA3 yn3 yp3] = W9 := ⟨_, rfl⟩
  have hW9' : (stores w3 (w.heap.size + 1 + 1) 3 [Value.slice yA3 yn3 yp3]).setRow (w.heap.size + 1) #[Value.string xk0, Value.string xk1, Value.slice yA2 yn2 yp2, Value.slice yA3 yn3 yp3] = W9 := hW9
  rw [hW9]
  clear hW9
  have hg9 : W9.heap[w.heap.size + 1]? = some (Obj.cells #[Value.string xk0, Value.string xk1, Value.slice yA2 yn2 yp2, Value.slice yA3 yn3 yp3] 39) := by
    rw [← hW9']
    exact heap_setRow_same HL1.out
  have hk9 : ∀ b, w.heap.size + 2 < b → W9.heap[b]? = w3.heap[b]? := fun b hb => by rw [← hW9', heap_setRow_other (by omega), stores_other (by omega)]
  have hz9 : W9.heap.size = w3.heap.size := by rw [← hW9', size_setRow, stores_size]
  have bb9 : Below w.heap.size w W9 := by rw [← hW9']; exact below_setRow (stores_below (by omega) _ _ _ bb3) (by omega)
  clear hW9'
  (try simp only [Exit.inBlock, Exit.then])
  refine bodyPost_ret (results_cell_row rfl _ W9 (w.heap.size + 1) _ _ _ _ rfl hg9 Tryz.underlying39 rfl (by kernel_rfl)) rfl ?_
  refine ⟨_, _, _, _, rfl, ?_, bb9⟩
  rw [hz9]
  have own2 := Own.same (w' := W9) _ own2 fun b hb => hk9 b (by have := hb.1; omega)
  have own3 := Own.same (w' := W9) _ own3 fun b hb => hk9 b (by have := hb.1; omega)
  refine OwnR.wide ?_ (F := rng (w.heap.size + 3) w3.heap.size) (fun b h => ⟨by have := h.1; omega, h.2⟩)
  exact (ownR_plain (F := rng (w.heap.size + 3) w3.heap.size) (Own.plain HA0.out (hsh 0 _ rfl)) (ownR_plain (F := rng (w.heap.size + 3) w3.heap.size) (Own.plain HA1.out (hsh 1 _ rfl)) (ownR_cons (F1 := rng (w.heap.size + 3) (w2.heap.size)) (F2 := rng (w2.heap.size) w3.heap.size) (F := rng (w.heap.size + 3) w3.heap.size) own2 (ownR_cons (F1 := rng (w2.heap.size) (w3.heap.size)) (F2 := rng w3.heap.size w3.heap.size) (F := rng (w2.heap.size) w3.heap.size) own3 ownR_nil (fun b h1 h2 => by have := h1.2; have := h2.1; omega) (fun b h => ⟨by have := h.1; omega, by have := h.2; omega⟩) (fun b h => ⟨by have := h.1; omega, h.2⟩)) (fun b h1 h2 => by have := h1.2; have := h2.1; omega) (fun b h => ⟨by have := h.1; omega, by have := h.2; omega⟩) (fun b h => ⟨by have := h.1; omega, h.2⟩))))

theorem toFrag {r : Nat → D} (hs : ∀ j g, (row .frag)[j]? = some g → Sh (r j) g) : ToRFrag r := (toRFrag_of r hs (toDirs (hs 2 _ rfl)) (toSels _ (hs 3 _ rfl)))

end Da
end Go.Proofs.YtngfhncdmlpjiaaGreat
