/- What is proved: the laws' copies of what is handed in, fields, values and roots are the same, in new memory of their own. (Made by tools/mkdbt.py.) -/
import Derived.Test.YtngfhncdmlpjiaaGreatDbT
namespace Go.Proofs.YtngfhncdmlpjiaaGreat
namespace Da
set_option linter.unusedVariables false
set_option linter.unusedSimpArgs false
open Go.RowKit
attribute [local go_sem ↓] Go.wp_at_zero Go.wp_at_succ

/-- The contract of one. -/
def ToRInDef (r : Nat → D) : Prop := ∀ (w : World) (c0 c1 c2 c3 c4 c5 c6 c7 c8 c9 : Value), sumTo (fun j => sz (r j)) 10 ≤ 1048576 → At w (r 0) c0 → At w (r 1) c1 → At w (r 2) c2 → At w (r 3) c3 → At w (r 4) c4 → At w (r 5) c5 → At w (r 6) c6 → At w (r 7) c7 → At w (r 8) c8 → At w (r 9) c9 →
  Calls Tryz.prog 90 #[.agg #[c0, c1, c2, c3, c4, c5, c6, c7, c8, c9]] w fun e w' => ∃ d0 d1 d2 d3 d4 d5 d6 d7 d8 d9, e = .returned (.agg #[d0, d1, d2, d3, d4, d5, d6, d7, d8, d9]) ∧ OwnR w' r (rng w.heap.size w'.heap.size) [d0, d1, d2, d3, d4, d5, d6, d7, d8, d9] ∧ Below w.heap.size w w'
theorem sizeInDef : (Tryz.prog.info? 102).map (·.size) = some 10 := by kernel_rfl
set_option maxHeartbeats 8000000 in
theorem toRInDef_of (r : Nat → D) (hsh : ∀ j g, (row .indef)[j]? = some g → Sh (r j) g) (h2 : ToRType fun j => r (j + 2)) (h5 : ToRValue fun j => r (j + 5)) (h9 : ToL 50 (r 9)) : ToRInDef r := by
  intro w c0 c1 c2 c3 c4 c5 c6 c7 c8 c9 hs a0 a1 a2 a3 a4 a5 a6 a7 a8 a9
  simp only [sumTo] at hs
  have HA0 := Lib.hid a0
  have HA1 := Lib.hid a1
  have HA2 := Lib.hid a2
  have HA3 := Lib.hid a3
  have HA4 := Lib.hid a4
  have HA5 := Lib.hid a5
  have HA6 := Lib.hid a6
  have HA7 := Lib.hid a7
  have HA8 := Lib.hid a8
  have HA9 := Lib.hid a9
  obtain ⟨xk0, rfl⟩ := At.str a0 (hsh 0 _ rfl)
  obtain ⟨xk1, rfl⟩ := At.str a1 (hsh 1 _ rfl)
  obtain ⟨xk2, rfl⟩ := At.str a2 (hsh 2 _ rfl)
  obtain ⟨xk3, rfl⟩ := At.str a3 (hsh 3 _ rfl)
  obtain ⟨xk4, rfl⟩ := At.bool a4 (hsh 4 _ rfl)
  obtain ⟨xk5, rfl⟩ := At.int a5 (hsh 5 _ rfl)
  obtain ⟨xk6, rfl⟩ := At.str a6 (hsh 6 _ rfl)
  obtain ⟨xA7, xn7, xp7, rfl⟩ := At.lst a7 (hsh 7 _ rfl)
  obtain ⟨xA8, xn8, xp8, rfl⟩ := At.lst a8 (hsh 8 _ rfl)
  obtain ⟨xA9, xn9, xp9, rfl⟩ := At.lst a9 (hsh 9 _ rfl)
  clear a0 a1 a2 a3 a4 a5 a6 a7 a8 a9
  go_enter Tryz.func90, Tryz.ntmps90
  go_wp2_with fail
  obtain ⟨W0, hW0⟩ : ∃ W0, (((w.alloc (Obj.cells #[Value.string xk0, Value.string xk1, Value.string xk2, Value.string xk3, Value.bool xk4, Value.int .i64 xk5, Value.string xk6, Value.slice xA7 xn7 xp7, Value.slice xA8 xn8 xp8, Value.slice xA9 xn9 xp9] 159)).alloc (Obj.cells #[Value.string ⟨#[]⟩, Value.string ⟨#[]⟩, Value.string ⟨#[]⟩, Value.string ⟨#[]⟩, Value.bool false, Value.int .i64 0, Value.string ⟨#[]⟩, Value.slice none 0 0, Value.slice none 0 0, Value.slice none 0 0] 102)).alloc (Obj.cells #[Value.string xk0, Value.string xk1, Value.string ⟨#[]⟩, Value.string ⟨#[]⟩, Value.bool false, Value.int .i64 0, Value.string ⟨#[]⟩, Value.slice none 0 0, Value.slice none 0 0, Value.slice none 0 0] 102)) = W0 := ⟨_, rfl⟩
  have ba : Below w.heap.size w W0 := by rw [← hW0]; exact ((below_alloc _ _).alloc (by simp) _).alloc (by simp; omega) _
  have hz : W0.heap.size = w.heap.size + 3 := by rw [← hW0]; simp
  have hB0 : W0.heap[w.heap.size]? = some (Obj.cells #[Value.string xk0, Value.string xk1, Value.string xk2, Value.string xk3, Value.bool xk4, Value.int .i64 xk5, Value.string xk6, Value.slice xA7 xn7 xp7, Value.slice xA8 xn8 xp8, Value.slice xA9 xn9 xp9] 159) := by
    rw [← hW0, Below.heap_alloc _ _ _ (by simp; omega), Below.heap_alloc _ _ _ (by simp)]; exact heap_alloc_new w _
  have hB1 : W0.heap[w.heap.size + 1]? = some (Obj.cells #[Value.string ⟨#[]⟩, Value.string ⟨#[]⟩, Value.string ⟨#[]⟩, Value.string ⟨#[]⟩, Value.bool false, Value.int .i64 0, Value.string ⟨#[]⟩, Value.slice none 0 0, Value.slice none 0 0, Value.slice none 0 0] 102) := by
    rw [← hW0, Below.heap_alloc _ _ _ (by simp)]
    have := heap_alloc_new (w.alloc (Obj.cells #[Value.string xk0, Value.string xk1, Value.string xk2, Value.string xk3, Value.bool xk4, Value.int .i64 xk5, Value.string xk6, Value.slice xA7 xn7 xp7, Value.slice xA8 xn8 xp8, Value.slice xA9 xn9 xp9] 159)) (Obj.cells #[Value.string ⟨#[]⟩, Value.string ⟨#[]⟩, Value.string ⟨#[]⟩, Value.string ⟨#[]⟩, Value.bool false, Value.int .i64 0, Value.string ⟨#[]⟩, Value.slice none 0 0, Value.slice none 0 0, Value.slice none 0 0] 102)
    simpa using this
  have hB2 : W0.heap[w.heap.size + 1 + 1]? = some (Obj.cells #[Value.string xk0, Value.string xk1, Value.string ⟨#[]⟩, Value.string ⟨#[]⟩, Value.bool false, Value.int .i64 0, Value.string ⟨#[]⟩, Value.slice none 0 0, Value.slice none 0 0, Value.slice none 0 0] 102) := by
    rw [← hW0]
    have := heap_alloc_new ((w.alloc (Obj.cells #[Value.string xk0, Value.string xk1, Value.string xk2, Value.string xk3, Value.bool xk4, Value.int .i64 xk5, Value.string xk6, Value.slice xA7 xn7 xp7, Value.slice xA8 xn8 xp8, Value.slice xA9 xn9 xp9] 159)).alloc (Obj.cells #[Value.string ⟨#[]⟩, Value.string ⟨#[]⟩, Value.string ⟨#[]⟩, Value.string ⟨#[]⟩, Value.bool false, Value.int .i64 0, Value.string ⟨#[]⟩, Value.slice none 0 0, Value.slice none 0 0, Value.slice none 0 0] 102)) (Obj.cells #[Value.string xk0, Value.string xk1, Value.string ⟨#[]⟩, Value.string ⟨#[]⟩, Value.bool false, Value.int .i64 0, Value.string ⟨#[]⟩, Value.slice none 0 0, Value.slice none 0 0, Value.slice none 0 0] 102)
    simpa using this
  rw [hW0]
  clear hW0
  refine (h2 W0 _ _ (by simp only [sumTo, Nat.zero_add, Nat.reduceAdd]; omega) (At.below ba _ HA2.out) (At.below ba _ HA3.out)).mono ?_
  rintro e w2 ⟨v2, v3, rfl, own2, hb2⟩
  have t2 := own2.at 0 _ rfl
  have t3 := own2.at 1 _ rfl
  obtain ⟨yk2, rfl⟩ := At.str t2 (hsh 2 _ rfl)
  obtain ⟨yk3, rfl⟩ := At.str t3 (hsh 3 _ rfl)
  clear t2 t3
  have hB0 := (hb2.block _ (lt_of hB0)).trans hB0
  have hB1 := (hb2.block _ (lt_of hB1)).trans hB1
  have hB2 := (hb2.block _ (lt_of hB2)).trans hB2
  have bb2 := below_trans ba hb2
  have s2 := hb2.size
  rw [hz] at own2 s2
  clear hb2
  have q2 : w2.cell? ⟨w.heap.size + 1 + 1, 2, none⟩ = some (Value.string ⟨#[]⟩) := by rw [cell_of hB2]; rfl
  have r2 : w2.frozen? ⟨w.heap.size + 1 + 1, 2, none⟩ = false := frozen_no hB2 _
  have q3 : w2.cell? ⟨w.heap.size + 1 + 1, 3, none⟩ = some (Value.string ⟨#[]⟩) := by rw [cell_of hB2]; rfl
  have r3 : w2.frozen? ⟨w.heap.size + 1 + 1, 3, none⟩ = false := frozen_no hB2 _
  have q4 : w2.cell? ⟨w.heap.size + 1 + 1, 4, none⟩ = some (Value.bool false) := by rw [cell_of hB2]; rfl
  have r4 : w2.frozen? ⟨w.heap.size + 1 + 1, 4, none⟩ = false := frozen_no hB2 _
  have g4 : w2.cell? ⟨w.heap.size, 4, none⟩ = some (Value.bool xk4) := by rw [cell_of hB0]; rfl
  have g5 : w2.cell? ⟨w.heap.size, 5, none⟩ = some (Value.int .i64 xk5) := by rw [cell_of hB0]; rfl
  have g6 : w2.cell? ⟨w.heap.size, 6, none⟩ = some (Value.string xk6) := by rw [cell_of hB0]; rfl
  have g7 : w2.cell? ⟨w.heap.size, 7, none⟩ = some (Value.slice xA7 xn7 xp7) := by rw [cell_of hB0]; rfl
  have g8 : w2.cell? ⟨w.heap.size, 8, none⟩ = some (Value.slice xA8 xn8 xp8) := by rw [cell_of hB0]; rfl
  have HB0 := Lib.hid hB0
  have HB1 := Lib.hid hB1
  have HB2 := Lib.hid hB2
  clear hB0 hB1 hB2
  go_wp2_with fail
  clear q2 r2 q3 r3 q4 r4 g4 g5 g6 g7 g8
  obtain ⟨W2, hW2⟩ : ∃ W', (((w2.setCell ⟨w.heap.size + 1 + 1, 2, none⟩ (Value.string yk2)).setCell ⟨w.heap.size + 1 + 1, 3, none⟩ (Value.string yk3)).setCell ⟨w.heap.size + 1 + 1, 4, none⟩ (Value.bool xk4)) = W' := ⟨_, rfl⟩
  have hW2' : stores w2 (w.heap.size + 1 + 1) 2 [Value.string yk2, Value.string yk3, Value.bool xk4] = W2 := hW2
  rw [hW2]
  clear hW2
  have bc2 : Below w.heap.size w W2 := by rw [← hW2']; exact stores_below (by omega) _ _ _ bb2
  have sz2 : W2.heap.size = w2.heap.size := by rw [← hW2', stores_size]
  have hB0 : W2.heap[w.heap.size]? = some (Obj.cells #[Value.string xk0, Value.string xk1, Value.string xk2, Value.string xk3, Value.bool xk4, Value.int .i64 xk5, Value.string xk6, Value.slice xA7 xn7 xp7, Value.slice xA8 xn8 xp8, Value.slice xA9 xn9 xp9] 159) := by rw [← hW2', stores_other (by omega)]; exact HB0.out
  have hB1 : W2.heap[w.heap.size + 1]? = some (Obj.cells #[Value.string ⟨#[]⟩, Value.string ⟨#[]⟩, Value.string ⟨#[]⟩, Value.string ⟨#[]⟩, Value.bool false, Value.int .i64 0, Value.string ⟨#[]⟩, Value.slice none 0 0, Value.slice none 0 0, Value.slice none 0 0] 102) := by rw [← hW2', stores_other (by omega)]; exact HB1.out
  have hB2 : W2.heap[w.heap.size + 1 + 1]? = some (Obj.cells #[Value.string xk0, Value.string xk1, Value.string yk2, Value.string yk3, Value.bool xk4, Value.int .i64 0, Value.string ⟨#[]⟩, Value.slice none 0 0, Value.slice none 0 0, Value.slice none 0 0] 102) := by rw [← hW2']; exact stores_heap _ _ 2 #[Value.string xk0, Value.string xk1, Value.string ⟨#[]⟩, Value.string ⟨#[]⟩, Value.bool false, Value.int .i64 0, Value.string ⟨#[]⟩, Value.slice none 0 0, Value.slice none 0 0, Value.slice none 0 0] HB2.out
  have own2 := own2.same (w' := W2) fun b hb => by rw [← hW2', stores_other (by have := hb.1; omega)]
  clear hW2' HB0 HB1 HB2
  refine (h5 W2 _ _ _ _ (by simp only [sumTo, Nat.zero_add, Nat.reduceAdd]; omega) (At.below bc2 _ HA5.out) (At.below bc2 _ HA6.out) (At.below bc2 _ HA7.out) (At.below bc2 _ HA8.out)).mono ?_
  rintro e w5 ⟨v5, v6, v7, v8, rfl, own5, hb5⟩
  have t5 := own5.at 0 _ rfl
  have t6 := own5.at 1 _ rfl
  have t7 := own5.at 2 _ rfl
  have t8 := own5.at 3 _ rfl
  obtain ⟨yk5, rfl⟩ := At.int t5 (hsh 5 _ rfl)
  obtain ⟨yk6, rfl⟩ := At.str t6 (hsh 6 _ rfl)
  obtain ⟨yA7, yn7, yp7, rfl⟩ := At.lst t7 (hsh 7 _ rfl)
  obtain ⟨yA8, yn8, yp8, rfl⟩ := At.lst t8 (hsh 8 _ rfl)
  clear t5 t6 t7 t8
  have hB0 := (hb5.block _ (lt_of hB0)).trans hB0
  have hB1 := (hb5.block _ (lt_of hB1)).trans hB1
  have hB2 := (hb5.block _ (lt_of hB2)).trans hB2
  have bb5 := below_trans bc2 hb5
  have s5 := hb5.size
  have own2 := own2.same fun b hb => hb5.block b (by have := hb.2; omega)
  rw [sz2] at own5 s5
  clear hb5
  have q5 : w5.cell? ⟨w.heap.size + 1 + 1, 5, none⟩ = some (Value.int .i64 0) := by rw [cell_of hB2]; rfl
  have r5 : w5.frozen? ⟨w.heap.size + 1 + 1, 5, none⟩ = false := frozen_no hB2 _
  have q6 : w5.cell? ⟨w.heap.size + 1 + 1, 6, none⟩ = some (Value.string ⟨#[]⟩) := by rw [cell_of hB2]; rfl
  have r6 : w5.frozen? ⟨w.heap.size + 1 + 1, 6, none⟩ = false := frozen_no hB2 _
  have q7 : w5.cell? ⟨w.heap.size + 1 + 1, 7, none⟩ = some (Value.slice none 0 0) := by rw [cell_of hB2]; rfl
  have r7 : w5.frozen? ⟨w.heap.size + 1 + 1, 7, none⟩ = false := frozen_no hB2 _
  have q8 : w5.cell? ⟨w.heap.size + 1 + 1, 8, none⟩ = some (Value.slice none 0 0) := by rw [cell_of hB2]; rfl
  have r8 : w5.frozen? ⟨w.heap.size + 1 + 1, 8, none⟩ = false := frozen_no hB2 _
  have g9 : w5.cell? ⟨w.heap.size, 9, none⟩ = some (Value.slice xA9 xn9 xp9) := by rw [cell_of hB0]; rfl
  have HB0 := Lib.hid hB0
  have HB1 := Lib.hid hB1
  have HB2 := Lib.hid hB2
  clear hB0 hB1 hB2
  go_wp2_with fail
  clear q5 r5 q6 r6 q7 r7 q8 r8 g9
  obtain ⟨W5, hW5⟩ : ∃ W', ((((w5.setCell ⟨w.heap.size + 1 + 1, 5, none⟩ (Value.int .i64 yk5)).setCell ⟨w.heap.size + 1 + 1, 6, none⟩ (Value.string yk6)).setCell ⟨w.heap.size + 1 + 1, 7, none⟩ (Value.slice yA7 yn7 yp7)).setCell ⟨w.heap.size + 1 + 1, 8, none⟩ (Value.slice yA8 yn8 yp8)) = W' := ⟨_, rfl⟩
  have hW5' : stores w5 (w.heap.size + 1 + 1) 5 [Value.int .i64 yk5, Value.string yk6, Value.slice yA7 yn7 yp7, Value.slice yA8 yn8 yp8] = W5 := hW5
  rw [hW5]
  clear hW5
  have bc5 : Below w.heap.size w W5 := by rw [← hW5']; exact stores_below (by omega) _ _ _ bb5
  have sz5 : W5.heap.size = w5.heap.size := by rw [← hW5', stores_size]
  have hB0 : W5.heap[w.heap.size]? = some (Obj.cells #[Value.string xk0, Value.string xk1, Value.string xk2, Value.string xk3, Value.bool xk4, Value.int .i64 xk5, Value.string xk6, Value.slice xA7 xn7 xp7, Value.slice xA8 xn8 xp8, Value.slice xA9 xn9 xp9] 159) := by rw [← hW5', stores_other (by omega)]; exact HB0.out
  have hB1 : W5.heap[w.heap.size + 1]? = some (Obj.cells #[Value.string ⟨#[]⟩, Value.string ⟨#[]⟩, Value.string ⟨#[]⟩, Value.string ⟨#[]⟩, Value.bool false, Value.int .i64 0, Value.string ⟨#[]⟩, Value.slice none 0 0, Value.slice none 0 0, Value.slice none 0 0] 102) := by rw [← hW5', stores_other (by omega)]; exact HB1.out
  have hB2 : W5.heap[w.heap.size + 1 + 1]? = some (Obj.cells #[Value.string xk0, Value.string xk1, Value.string yk2, Value.string yk3, Value.bool xk4, Value.int .i64 yk5, Value.string yk6, Value.slice yA7 yn7 yp7, Value.slice yA8 yn8 yp8, Value.slice none 0 0] 102) := by rw [← hW5']; exact stores_heap _ _ 5 #[Value.string xk0, Value.string xk1, Value.string yk2, Value.string yk3, Value.bool xk4, Value.int .i64 0, Value.string ⟨#[]⟩, Value.slice none 0 0, Value.slice none 0 0, Value.slice none 0 0] HB2.out
  have own2 := own2.same (w' := W5) fun b hb => by rw [← hW5', stores_other (by have := hb.1; omega)]
  have own5 := own5.same (w' := W5) fun b hb => by rw [← hW5', stores_other (by have := hb.1; omega)]
  clear hW5' HB0 HB1 HB2
  refine (h9 W5 _ (by omega) (At.below bc5 _ HA9.out)).mono ?_
  rintro e w9 ⟨v, rfl, own9, hb9⟩
  obtain ⟨yA9, yn9, yp9, rfl⟩ := At.lst (Own.at _ own9) (hsh 9 _ rfl)
  have hB0 := (hb9.block _ (lt_of hB0)).trans hB0
  have hB1 := (hb9.block _ (lt_of hB1)).trans hB1
  have hB2 := (hb9.block _ (lt_of hB2)).trans hB2
  have bb9 := below_trans bc5 hb9
  have s9 := hb9.size
  have own2 := own2.same fun b hb => hb9.block b (by have := hb.2; omega)
  have own5 := own5.same fun b hb => hb9.block b (by have := hb.2; omega)
  rw [sz5] at own9 s9
  clear hb9
  have q9 : w9.cell? ⟨w.heap.size + 1 + 1, 9, none⟩ = some (Value.slice none 0 0) := by rw [cell_of hB2]; rfl
  have r9 : w9.frozen? ⟨w.heap.size + 1 + 1, 9, none⟩ = false := frozen_no hB2 _
  have HL2 : Hid (((w9.setCell ⟨w.heap.size + 1 + 1, 9, none⟩ (Value.slice yA9 yn9 yp9))).heap[w.heap.size + 1 + 1]? = some (Obj.cells #[Value.string xk0, Value.string xk1, Value.string yk2, Value.string yk3, Value.bool xk4, Value.int .i64 yk5, Value.string yk6, Value.slice yA7 yn7 yp7, Value.slice yA8 yn8 yp8, Value.slice yA9 yn9 yp9] 102)) := by
    have e : setRow #[Value.string xk0, Value.string xk1, Value.string yk2, Value.string yk3, Value.bool xk4, Value.int .i64 yk5, Value.string yk6, Value.slice yA7 yn7 yp7, Value.slice yA8 yn8 yp8, Value.slice none 0 0] 9 [Value.slice yA9 yn9 yp9] = #[Value.string xk0, Value.string xk1, Value.string yk2, Value.string yk3, Value.bool xk4, Value.int .i64 yk5, Value.string yk6, Value.slice yA7 yn7 yp7, Value.slice yA8 yn8 yp8, Value.slice yA9 yn9 yp9] := by simp [setRow]
    have h := stores_heap [Value.slice yA9 yn9 yp9] w9 9 _ hB2
    rw [e] at h
    exact h
  have HL1 : Hid (((w9.setCell ⟨w.heap.size + 1 + 1, 9, none⟩ (Value.slice yA9 yn9 yp9))).heap[w.heap.size + 1]? = some (Obj.cells #[Value.string ⟨#[]⟩, Value.string ⟨#[]⟩, Value.string ⟨#[]⟩, Value.string ⟨#[]⟩, Value.bool false, Value.int .i64 0, Value.string ⟨#[]⟩, Value.slice none 0 0, Value.slice none 0 0, Value.slice none 0 0] 102)) := (stores_other (by omega) [Value.slice yA9 yn9 yp9] w9 9).trans hB1
  have HA1' : Hid ((#[Value.string xk0, Value.string xk1, Value.string yk2, Value.string yk3, Value.bool xk4, Value.int .i64 yk5, Value.string yk6, Value.slice yA7 yn7 yp7, Value.slice yA8 yn8 yp8, Value.slice yA9 yn9 yp9] : Array Value).all (·.oneCell') = true) := by simp [Hid, Value.oneCell']
  clear hB0 hB1 hB2
  go_wp2_with (first | (refine wpList_load_row rfl 102 _ rfl (w.heap.size + 1 + 1) rfl 102 #[Value.string xk0, Value.string xk1, Value.string yk2, Value.string yk3, Value.bool xk4, Value.int .i64 yk5, Value.string yk6, Value.slice yA7 yn7 yp7, Value.slice yA8 yn8 yp8, Value.slice yA9 yn9 yp9] (0, 0) _ HL2.out Tryz.underlying102 rfl sizeInDef ?_) | (refine wpList_store_row rfl 102 _ _ rfl (w.heap.size + 1) #[Value.string xk0, Value.string xk1, Value.string yk2, Value.string yk3, Value.bool xk4, Value.int .i64 yk5, Value.string yk6, Value.slice yA7 yn7 yp7, Value.slice yA8 yn8 yp8, Value.slice yA9 yn9 yp9] rfl rfl 102 #[Value.string ⟨#[]⟩, Value.string ⟨#[]⟩, Value.string ⟨#[]⟩, Value.string ⟨#[]⟩, Value.bool false, Value.int .i64 0, Value.string ⟨#[]⟩, Value.slice none 0 0, Value.slice none 0 0, Value.slice none 0 0] HL1.out sizeInDef rfl HA1'.out ?_))
  obtain ⟨W9, hW9⟩ : ∃ W9, (w9.setCell ⟨w.heap.size + 1 + 1, 9, none⟩ (Value.slice yA9 yn9 yp9)).setRow (w.heap.size + 1) #[Value.string xk0, Value.string xk1, Value.string yk2, Value.string yk3, Value.bool xk4, Value.int .i64 yk5, Value.string yk6, Value.slice yA7 yn7 yp7, Value.slice yA8 yn8 yp8, Value.slice yA9 yn9 yp9] = W9 := ⟨_, rfl⟩
  have hW9' : (stores w9 (w.heap.size + 1 + 1) 9 [Value.slice yA9 yn9 yp9]).setRow (w.heap.size + 1) #[Value.string xk0, Value.string xk1, Value.string yk2, Value.string yk3, Value.bool xk4, Value.int .i64 yk5, Value.string yk6, Value.slice yA7 yn7 yp7, Value.slice yA8 yn8 yp8, Value.slice yA9 yn9 yp9] = W9 := hW9
  rw [hW9]
  clear hW9
  have hg9 : W9.heap[w.heap.size + 1]? = some (Obj.cells #[Value.string xk0, Value.string xk1, Value.string yk2, Value.string yk3, Value.bool xk4, Value.int .i64 yk5, Value.string yk6, Value.slice yA7 yn7 yp7, Value.slice yA8 yn8 yp8, Value.slice yA9 yn9 yp9] 102) := by
    rw [← hW9']
    exact heap_setRow_same HL1.out
  have hk9 : ∀ b, w.heap.size + 2 < b → W9.heap[b]? = w9.heap[b]? := fun b hb => by rw [← hW9', heap_setRow_other (by omega), stores_other (by omega)]
  have hz9 : W9.heap.size = w9.heap.size := by rw [← hW9', size_setRow, stores_size]
  have bb9 : Below w.heap.size w W9 := by rw [← hW9']; exact below_setRow (stores_below (by omega) _ _ _ bb9) (by omega)
  clear hW9'
  (try simp only [Exit.inBlock, Exit.then])
  refine bodyPost_ret (results_cell_row rfl _ W9 (w.heap.size + 1) _ _ _ _ rfl hg9 Tryz.underlying102 rfl (by kernel_rfl)) rfl ?_
  refine ⟨_, _, _, _, _, _, _, _, _, _, rfl, ?_, bb9⟩
  rw [hz9]
  have own2 := own2.same (w' := W9) fun b hb => hk9 b (by have := hb.1; omega)
  have own5 := own5.same (w' := W9) fun b hb => hk9 b (by have := hb.1; omega)
  have own9 := Own.same (w' := W9) _ own9 fun b hb => hk9 b (by have := hb.1; omega)
  refine OwnR.wide ?_ (F := rng (w.heap.size + 3) w9.heap.size) (fun b h => ⟨by have := h.1; omega, h.2⟩)
  exact (ownR_plain (F := rng (w.heap.size + 3) w9.heap.size) (Own.plain HA0.out (hsh 0 _ rfl)) (ownR_plain (F := rng (w.heap.size + 3) w9.heap.size) (Own.plain HA1.out (hsh 1 _ rfl)) (ownR_append (F1 := rng (w.heap.size + 3) (w2.heap.size)) (F2 := rng (w2.heap.size) w9.heap.size) (F := rng (w.heap.size + 3) w9.heap.size) (n := 2) rfl own2 (ownR_plain (F := rng (w2.heap.size) w9.heap.size) (Own.plain HA4.out (hsh 4 _ rfl)) (ownR_append (F1 := rng (w2.heap.size) (w5.heap.size)) (F2 := rng (w5.heap.size) w9.heap.size) (F := rng (w2.heap.size) w9.heap.size) (n := 4) rfl own5 (ownR_cons (F1 := rng (w5.heap.size) (w9.heap.size)) (F2 := rng w9.heap.size w9.heap.size) (F := rng (w5.heap.size) w9.heap.size) own9 ownR_nil (fun b h1 h2 => by have := h1.2; have := h2.1; omega) (fun b h => ⟨by have := h.1; omega, by have := h.2; omega⟩) (fun b h => ⟨by have := h.1; omega, h.2⟩)) (fun b h1 h2 => by have := h1.2; have := h2.1; omega) (fun b h => ⟨by have := h.1; omega, by have := h.2; omega⟩) (fun b h => ⟨by have := h.1; omega, h.2⟩))) (fun b h1 h2 => by have := h1.2; have := h2.1; omega) (fun b h => ⟨by have := h.1; omega, by have := h.2; omega⟩) (fun b h => ⟨by have := h.1; omega, h.2⟩))))

theorem toInDef {r : Nat → D} (hs : ∀ j g, (row .indef)[j]? = some g → Sh (r j) g) : ToRInDef r := (toRInDef_of r hs (toRType_of _ (sub_sh (k := .typ) 2 (by decide) hs) ) (toRValue_of _ (sub_sh (k := .value) 5 (by decide) hs) (toValues _ (hs 7 _ rfl)) (toStrings (hs 8 _ rfl))) (toDirs (hs 9 _ rfl)))

def zeroInDef : Value := .agg #[Value.string ⟨#[]⟩, Value.string ⟨#[]⟩, Value.string ⟨#[]⟩, Value.string ⟨#[]⟩, Value.bool false, Value.int .i64 0, Value.string ⟨#[]⟩, Value.slice none 0 0, Value.slice none 0 0, Value.slice none 0 0]
theorem infoInDef : (Tryz.prog.info? 102).map (fun i => (i.zero, i.size, i.bytes)) = some (some zeroInDef, 10, 168) := by kernel_rfl
theorem undsInDef : Tryz.prog.underlying 42 = some (.slice 102) := by kernel_rfl
theorem makeInDef (n : Nat) (hn : n ≤ 1048576) : ∃ cur : Array Value, cur.size = n * 10 ∧ ∀ w : World, (Instr.makeSlice 42 (.int .i64 (n : Int)) (.int .i64 (n : Int))).run Tryz.prog w = .ok (.slice (some ⟨w.heap.size, 0, none⟩) n n) (w.alloc (.cells cur 102)) := by
  obtain ⟨i, hi, hzz⟩ := Option.map_eq_some_iff.1 infoInDef
  simp only [Prod.mk.injEq] at hzz
  obtain ⟨hz, hs, hb⟩ := hzz
  refine ⟨madeCells zeroInDef.cells (n * 10), size_madeCells _ _, fun w => ?_⟩
  have := run_make (P := Tryz.prog) w 42 102 i zeroInDef undsInDef hi hz .i64 .i64 n n (by omega) (by omega) (by rw [hb]; omega) (by omega)
  rw [hs] at this
  simpa using this
set_option maxHeartbeats 4000000 in
theorem toLsInDef (n : Nat) (it : Nat → Nat → D) (hsh : ∀ i, i < n → ∀ j g, (row .indef)[j]? = some g → Sh (it i j) g) (hit : ∀ i, i < n → ToRInDef (it i)) : ToL 54 (.list 10 n it) := by
  intro w c hs h
  have HI := Lib.hid h
  obtain ⟨A, cap, rfl, hm⟩ := h.slice
  clear h
  unfold maxLen at hm
  have hn : n ≤ 1048576 := by simp only [sz] at hs; omega
  have HSZ := Lib.hid hs
  clear hs
  obtain ⟨cur0, hcur0, hmk⟩ := makeInDef n hn
  have HCu := Lib.hid hcur0
  clear hcur0
  go_enter Tryz.func54, Tryz.ntmps54
  go_wp2
  clear hmk
  go_loopw [4] (fun i wr => ∃ k : Nat, k ≤ n ∧ i = .int .i64 k ∧ Laid wr (w.heap.size + 1) w.heap.size 10 n k 102 it ∧ w.heap.size < wr.heap.size ∧ Below w.heap.size w wr) (fun i _ => n - (intOf i).toNat)
  case atStart => exact ⟨0, Nat.zero_le _, rfl, Laid.zero (heap_alloc_new w _) (by have := HCu.out; omega), by simp, below_alloc _ _⟩
  case round =>
    obtain ⟨k, hk, rfl, hlaid, hgl, hbel⟩ := hrel
    have HLD := Lib.hid hlaid
    obtain ⟨cur, hg, hcs⟩ := hlaid.heap
    have HG := Lib.hid hg
    have HCS := Lib.hid hcs
    clear hlaid hg hcs
    by_cases hlt : k < n
    · have hk0 : (0 : Int) ≤ (k : Int) := by omega
      have hk1 : (k : Int) < (n : Int) := by omega
      obtain ⟨b, o, e2, hf⟩ := (At.below hbel _ HI.out).nth hlt
      subst e2
      obtain ⟨c0, f0, a0⟩ := hf 0 (by omega)
      obtain ⟨c1, f1, a1⟩ := hf 1 (by omega)
      obtain ⟨c2, f2, a2⟩ := hf 2 (by omega)
      obtain ⟨c3, f3, a3⟩ := hf 3 (by omega)
      obtain ⟨c4, f4, a4⟩ := hf 4 (by omega)
      obtain ⟨c5, f5, a5⟩ := hf 5 (by omega)
      obtain ⟨c6, f6, a6⟩ := hf 6 (by omega)
      obtain ⟨c7, f7, a7⟩ := hf 7 (by omega)
      obtain ⟨c8, f8, a8⟩ := hf 8 (by omega)
      obtain ⟨c9, f9, a9⟩ := hf 9 (by omega)
      clear hf
      rw [Nat.add_zero] at f0
      have cc := hit k hlt wr c0 c1 c2 c3 c4 c5 c6 c7 c8 c9 (by have := sz_row (W := 10) (it := it) hlt; have := HSZ.out; omega) a0 a1 a2 a3 a4 a5 a6 a7 a8 a9
      clear a0 a1 a2 a3 a4 a5 a6 a7 a8 a9
      go_wp2_with fail
      refine cc.mono ?_
      rintro e w1 ⟨d0, d1, d2, d3, d4, d5, d6, d7, d8, d9, rfl, hown, hb1⟩
      clear cc
      have HG1 := Lib.hid ((hb1.block _ hgl).trans HG.out)
      have HO := Lib.hid hown
      have t0 := hown.at 0 _ rfl
      have t1 := hown.at 1 _ rfl
      have t2 := hown.at 2 _ rfl
      have t3 := hown.at 3 _ rfl
      have t4 := hown.at 4 _ rfl
      have t5 := hown.at 5 _ rfl
      have t6 := hown.at 6 _ rfl
      have t7 := hown.at 7 _ rfl
      have t8 := hown.at 8 _ rfl
      have t9 := hown.at 9 _ rfl
      clear hown
      obtain ⟨yk0, rfl⟩ := At.str t0 (hsh k hlt 0 _ rfl)
      obtain ⟨yk1, rfl⟩ := At.str t1 (hsh k hlt 1 _ rfl)
      obtain ⟨yk2, rfl⟩ := At.str t2 (hsh k hlt 2 _ rfl)
      obtain ⟨yk3, rfl⟩ := At.str t3 (hsh k hlt 3 _ rfl)
      obtain ⟨yk4, rfl⟩ := At.bool t4 (hsh k hlt 4 _ rfl)
      obtain ⟨yk5, rfl⟩ := At.int t5 (hsh k hlt 5 _ rfl)
      obtain ⟨yk6, rfl⟩ := At.str t6 (hsh k hlt 6 _ rfl)
      obtain ⟨yA7, yn7, yp7, rfl⟩ := At.lst t7 (hsh k hlt 7 _ rfl)
      obtain ⟨yA8, yn8, yp8, rfl⟩ := At.lst t8 (hsh k hlt 8 _ rfl)
      obtain ⟨yA9, yn9, yp9, rfl⟩ := At.lst t9 (hsh k hlt 9 _ rfl)
      clear t0 t1 t2 t3 t4 t5 t6 t7 t8 t9
      have hcs := HCS.out
      obtain ⟨o0, p0⟩ : ∃ old, w1.cell? ⟨w.heap.size, k * 10, none⟩ = some old := by rw [cell_of HG1.out]; exact ⟨_, Array.getElem?_eq_getElem (by omega)⟩
      have z0 : w1.frozen? ⟨w.heap.size, k * 10, none⟩ = false := frozen_no HG1.out _
      obtain ⟨o1, p1⟩ : ∃ old, w1.cell? ⟨w.heap.size, k * 10 + 1, none⟩ = some old := by rw [cell_of HG1.out]; exact ⟨_, Array.getElem?_eq_getElem (by omega)⟩
      have z1 : w1.frozen? ⟨w.heap.size, k * 10 + 1, none⟩ = false := frozen_no HG1.out _
      obtain ⟨o2, p2⟩ : ∃ old, w1.cell? ⟨w.heap.size, k * 10 + 2, none⟩ = some old := by rw [cell_of HG1.out]; exact ⟨_, Array.getElem?_eq_getElem (by omega)⟩
      have z2 : w1.frozen? ⟨w.heap.size, k * 10 + 2, none⟩ = false := frozen_no HG1.out _
      obtain ⟨o3, p3⟩ : ∃ old, w1.cell? ⟨w.heap.size, k * 10 + 3, none⟩ = some old := by rw [cell_of HG1.out]; exact ⟨_, Array.getElem?_eq_getElem (by omega)⟩
      have z3 : w1.frozen? ⟨w.heap.size, k * 10 + 3, none⟩ = false := frozen_no HG1.out _
      obtain ⟨o4, p4⟩ : ∃ old, w1.cell? ⟨w.heap.size, k * 10 + 4, none⟩ = some old := by rw [cell_of HG1.out]; exact ⟨_, Array.getElem?_eq_getElem (by omega)⟩
      have z4 : w1.frozen? ⟨w.heap.size, k * 10 + 4, none⟩ = false := frozen_no HG1.out _
      obtain ⟨o5, p5⟩ : ∃ old, w1.cell? ⟨w.heap.size, k * 10 + 5, none⟩ = some old := by rw [cell_of HG1.out]; exact ⟨_, Array.getElem?_eq_getElem (by omega)⟩
      have z5 : w1.frozen? ⟨w.heap.size, k * 10 + 5, none⟩ = false := frozen_no HG1.out _
      obtain ⟨o6, p6⟩ : ∃ old, w1.cell? ⟨w.heap.size, k * 10 + 6, none⟩ = some old := by rw [cell_of HG1.out]; exact ⟨_, Array.getElem?_eq_getElem (by omega)⟩
      have z6 : w1.frozen? ⟨w.heap.size, k * 10 + 6, none⟩ = false := frozen_no HG1.out _
      obtain ⟨o7, p7⟩ : ∃ old, w1.cell? ⟨w.heap.size, k * 10 + 7, none⟩ = some old := by rw [cell_of HG1.out]; exact ⟨_, Array.getElem?_eq_getElem (by omega)⟩
      have z7 : w1.frozen? ⟨w.heap.size, k * 10 + 7, none⟩ = false := frozen_no HG1.out _
      obtain ⟨o8, p8⟩ : ∃ old, w1.cell? ⟨w.heap.size, k * 10 + 8, none⟩ = some old := by rw [cell_of HG1.out]; exact ⟨_, Array.getElem?_eq_getElem (by omega)⟩
      have z8 : w1.frozen? ⟨w.heap.size, k * 10 + 8, none⟩ = false := frozen_no HG1.out _
      obtain ⟨o9, p9⟩ : ∃ old, w1.cell? ⟨w.heap.size, k * 10 + 9, none⟩ = some old := by rw [cell_of HG1.out]; exact ⟨_, Array.getElem?_eq_getElem (by omega)⟩
      have z9 : w1.frozen? ⟨w.heap.size, k * 10 + 9, none⟩ = false := frozen_no HG1.out _
      clear hcs
      go_wp2
      go_roundw
      case rel =>
        have hst := Laid.step (vs := [Value.string yk0, Value.string yk1, Value.string yk2, Value.string yk3, Value.bool yk4, Value.int .i64 yk5, Value.string yk6, Value.slice yA7 yn7 yp7, Value.slice yA8 yn8 yp8, Value.slice yA9 yn9 yp9]) HLD.out hlt hgl (by omega) hb1 rfl HO.out
        have hsz := stores_size (g := w.heap.size) [Value.string yk0, Value.string yk1, Value.string yk2, Value.string yk3, Value.bool yk4, Value.int .i64 yk5, Value.string yk6, Value.slice yA7 yn7 yp7, Value.slice yA8 yn8 yp8, Value.slice yA9 yn9 yp9] w1 (k * 10)
        have hbb := stores_below (Nat.le_refl _) [Value.string yk0, Value.string yk1, Value.string yk2, Value.string yk3, Value.bool yk4, Value.int .i64 yk5, Value.string yk6, Value.slice yA7 yn7 yp7, Value.slice yA8 yn8 yp8, Value.slice yA9 yn9 yp9] w1 (k * 10) (below_trans hbel hb1)
        have hlt9 := Nat.lt_of_lt_of_eq (Nat.lt_of_lt_of_le hgl hb1.size) hsz.symm
        exact ⟨k + 1, by omega, by go_num, hst, hlt9, hbb⟩
      case measure => simp [intOf]; omega
    · go_wp2
      go_ret
      obtain rfl : k = n := by omega
      exact ⟨_, rfl, HLD.out.own (Nat.le_refl _) (Nat.le_refl _) (by unfold maxLen; omega) hgl, hbel⟩

theorem toInDefs {d : D} (h : Sh d (.lst .indef)) : ToL 54 d := by
  obtain ⟨n, it, rfl, hs⟩ := h.lst
  exact toLsInDef n it hs fun i hi => (toRInDef_of (it i) (hs i hi) (toRType_of _ (sub_sh (k := .typ) 2 (by decide) (hs i hi)) ) (toRValue_of _ (sub_sh (k := .value) 5 (by decide) (hs i hi)) (toValues _ ((hs i hi) 7 _ rfl)) (toStrings ((hs i hi) 8 _ rfl))) (toDirs ((hs i hi) 9 _ rfl)))

/-- The contract of one. -/
def ToRFieldDef (r : Nat → D) : Prop := ∀ (w : World) (c0 c1 c2 c3 c4 c5 : Value), sumTo (fun j => sz (r j)) 6 ≤ 1048576 → At w (r 0) c0 → At w (r 1) c1 → At w (r 2) c2 → At w (r 3) c3 → At w (r 4) c4 → At w (r 5) c5 →
  Calls Tryz.prog 89 #[.agg #[c0, c1, c2, c3, c4, c5]] w fun e w' => ∃ d0 d1 d2 d3 d4 d5, e = .returned (.agg #[d0, d1, d2, d3, d4, d5]) ∧ OwnR w' r (rng w.heap.size w'.heap.size) [d0, d1, d2, d3, d4, d5] ∧ Below w.heap.size w w'
theorem sizeFieldDef : (Tryz.prog.info? 89).map (·.size) = some 6 := by kernel_rfl
set_option maxHeartbeats 8000000 in
theorem toRFieldDef_of (r : Nat → D) (hsh : ∀ j g, (row .fielddef)[j]? = some g → Sh (r j) g) (h2 : ToL 54 (r 2)) (h3 : ToRType fun j => r (j + 3)) (h5 : ToL 50 (r 5)) : ToRFieldDef r := by
  intro w c0 c1 c2 c3 c4 c5 hs a0 a1 a2 a3 a4 a5
  simp only [sumTo] at hs
  have HA0 := Lib.hid a0
  have HA1 := Lib.hid a1
  have HA2 := Lib.hid a2
  have HA3 := Lib.hid a3
  have HA4 := Lib.hid a4
  have HA5 := Lib.hid a5
  obtain ⟨xk0, rfl⟩ := At.str a0 (hsh 0 _ rfl)
  obtain ⟨xk1, rfl⟩ := At.str a1 (hsh 1 _ rfl)
  obtain ⟨xA2, xn2, xp2, rfl⟩ := At.lst a2 (hsh 2 _ rfl)
  obtain ⟨xk3, rfl⟩ := At.str a3 (hsh 3 _ rfl)
  obtain ⟨xk4, rfl⟩ := At.str a4 (hsh 4 _ rfl)
  obtain ⟨xA5, xn5, xp5, rfl⟩ := At.lst a5 (hsh 5 _ rfl)
  clear a0 a1 a2 a3 a4 a5
  go_enter Tryz.func89, Tryz.ntmps89
  go_wp2_with fail
  obtain ⟨W0, hW0⟩ : ∃ W0, (((w.alloc (Obj.cells #[Value.string xk0, Value.string xk1, Value.slice xA2 xn2 xp2, Value.string xk3, Value.string xk4, Value.slice xA5 xn5 xp5] 156)).alloc (Obj.cells #[Value.string ⟨#[]⟩, Value.string ⟨#[]⟩, Value.slice none 0 0, Value.string ⟨#[]⟩, Value.string ⟨#[]⟩, Value.slice none 0 0] 89)).alloc (Obj.cells #[Value.string xk0, Value.string xk1, Value.slice none 0 0, Value.string ⟨#[]⟩, Value.string ⟨#[]⟩, Value.slice none 0 0] 89)) = W0 := ⟨_, rfl⟩
  have ba : Below w.heap.size w W0 := by rw [← hW0]; exact ((below_alloc _ _).alloc (by simp) _).alloc (by simp; omega) _
  have hz : W0.heap.size = w.heap.size + 3 := by rw [← hW0]; simp
  have hB0 : W0.heap[w.heap.size]? = some (Obj.cells #[Value.string xk0, Value.string xk1, Value.slice xA2 xn2 xp2, Value.string xk3, Value.string xk4, Value.slice xA5 xn5 xp5] 156) := by
    rw [← hW0, Below.heap_alloc _ _ _ (by simp; omega), Below.heap_alloc _ _ _ (by simp)]; exact heap_alloc_new w _
  have hB1 : W0.heap[w.heap.size + 1]? = some (Obj.cells #[Value.string ⟨#[]⟩, Value.string ⟨#[]⟩, Value.slice none 0 0, Value.string ⟨#[]⟩, Value.string ⟨#[]⟩, Value.slice none 0 0] 89) := by
    rw [← hW0, Below.heap_alloc _ _ _ (by simp)]
    have := heap_alloc_new (w.alloc (Obj.cells #[Value.string xk0, Value.string xk1, Value.slice xA2 xn2 xp2, Value.string xk3, Value.string xk4, Value.slice xA5 xn5 xp5] 156)) (Obj.cells #[Value.string ⟨#[]⟩, Value.string ⟨#[]⟩, Value.slice none 0 0, Value.string ⟨#[]⟩, Value.string ⟨#[]⟩, Value.slice none 0 0] 89)
    simpa using this
  have hB2 : W0.heap[w.heap.size + 1 + 1]? = some (Obj.cells #[Value.string xk0, Value.string xk1, Value.slice none 0 0, Value.string ⟨#[]⟩, Value.string ⟨#[]⟩, Value.slice none 0 0] 89) := by
    rw [← hW0]
    have := heap_alloc_new ((w.alloc (Obj.cells #[Value.string xk0, Value.string xk1, Value.slice xA2 xn2 xp2, Value.string xk3, Value.string xk4, Value.slice xA5 xn5 xp5] 156)).alloc (Obj.cells #[Value.string ⟨#[]⟩, Value.string ⟨#[]⟩, Value.slice none 0 0, Value.string ⟨#[]⟩, Value.string ⟨#[]⟩, Value.slice none 0 0] 89)) (Obj.cells #[Value.string xk0, Value.string xk1, Value.slice none 0 0, Value.string ⟨#[]⟩, Value.string ⟨#[]⟩, Value.slice none 0 0] 89)
    simpa using this
  rw [hW0]
  clear hW0
  refine (h2 W0 _ (by omega) (At.below ba _ HA2.out)).mono ?_
  rintro e w2 ⟨v, rfl, own2, hb2⟩
  obtain ⟨yA2, yn2, yp2, rfl⟩ := At.lst (Own.at _ own2) (hsh 2 _ rfl)
  have hB0 := (hb2.block _ (lt_of hB0)).trans hB0
  have hB1 := (hb2.block _ (lt_of hB1)).trans hB1
  have hB2 := (hb2.block _ (lt_of hB2)).trans hB2
  have bb2 := below_trans ba hb2
  have s2 := hb2.size
  rw [hz] at own2 s2
  clear hb2
  have q2 : w2.cell? ⟨w.heap.size + 1 + 1, 2, none⟩ = some (Value.slice none 0 0) := by rw [cell_of hB2]; rfl
  have r2 : w2.frozen? ⟨w.heap.size + 1 + 1, 2, none⟩ = false := frozen_no hB2 _
  have g3 : w2.cell? ⟨w.heap.size, 3, none⟩ = some (Value.string xk3) := by rw [cell_of hB0]; rfl
  have g4 : w2.cell? ⟨w.heap.size, 4, none⟩ = some (Value.string xk4) := by rw [cell_of hB0]; rfl
  have HB0 := Lib.hid hB0
  have HB1 := Lib.hid hB1
  have HB2 := Lib.hid hB2
  clear hB0 hB1 hB2
  go_wp2_with fail
  clear q2 r2 g3 g4
  obtain ⟨W2, hW2⟩ : ∃ W', (w2.setCell ⟨w.heap.size + 1 + 1, 2, none⟩ (Value.slice yA2 yn2 yp2)) = W' := ⟨_, rfl⟩
  have hW2' : stores w2 (w.heap.size + 1 + 1) 2 [Value.slice yA2 yn2 yp2] = W2 := hW2
  rw [hW2]
  clear hW2
  have bc2 : Below w.heap.size w W2 := by rw [← hW2']; exact stores_below (by omega) _ _ _ bb2
  have sz2 : W2.heap.size = w2.heap.size := by rw [← hW2', stores_size]
  have hB0 : W2.heap[w.heap.size]? = some (Obj.cells #[Value.string xk0, Value.string xk1, Value.slice xA2 xn2 xp2, Value.string xk3, Value.string xk4, Value.slice xA5 xn5 xp5] 156) := by rw [← hW2', stores_other (by omega)]; exact HB0.out
  have hB1 : W2.heap[w.heap.size + 1]? = some (Obj.cells #[Value.string ⟨#[]⟩, Value.string ⟨#[]⟩, Value.slice none 0 0, Value.string ⟨#[]⟩, Value.string ⟨#[]⟩, Value.slice none 0 0] 89) := by rw [← hW2', stores_other (by omega)]; exact HB1.out
  have hB2 : W2.heap[w.heap.size + 1 + 1]? = some (Obj.cells #[Value.string xk0, Value.string xk1, Value.slice yA2 yn2 yp2, Value.string ⟨#[]⟩, Value.string ⟨#[]⟩, Value.slice none 0 0] 89) := by rw [← hW2']; exact stores_heap _ _ 2 #[Value.string xk0, Value.string xk1, Value.slice none 0 0, Value.string ⟨#[]⟩, Value.string ⟨#[]⟩, Value.slice none 0 0] HB2.out
  have own2 := Own.same (w' := W2) _ own2 fun b hb => by rw [← hW2', stores_other (by have := hb.1; omega)]
  clear hW2' HB0 HB1 HB2
  refine (h3 W2 _ _ (by simp only [sumTo, Nat.zero_add, Nat.reduceAdd]; omega) (At.below bc2 _ HA3.out) (At.below bc2 _ HA4.out)).mono ?_
  rintro e w3 ⟨v3, v4, rfl, own3, hb3⟩
  have t3 := own3.at 0 _ rfl
  have t4 := own3.at 1 _ rfl
  obtain ⟨yk3, rfl⟩ := At.str t3 (hsh 3 _ rfl)
  obtain ⟨yk4, rfl⟩ := At.str t4 (hsh 4 _ rfl)
  clear t3 t4
  have hB0 := (hb3.block _ (lt_of hB0)).trans hB0
  have hB1 := (hb3.block _ (lt_of hB1)).trans hB1
  have hB2 := (hb3.block _ (lt_of hB2)).trans hB2
  have bb3 := below_trans bc2 hb3
  have s3 := hb3.size
  have own2 := Own.below own2 hb3 (fun b hb => by have := hb.2; omega)
  rw [sz2] at own3 s3
  clear hb3
  have q3 : w3.cell? ⟨w.heap.size + 1 + 1, 3, none⟩ = some (Value.string ⟨#[]⟩) := by rw [cell_of hB2]; rfl
  have r3 : w3.frozen? ⟨w.heap.size + 1 + 1, 3, none⟩ = false := frozen_no hB2 _
  have q4 : w3.cell? ⟨w.heap.size + 1 + 1, 4, none⟩ = some (Value.string ⟨#[]⟩) := by rw [cell_of hB2]; rfl
  have r4 : w3.frozen? ⟨w.heap.size + 1 + 1, 4, none⟩ = false := frozen_no hB2 _
  have g5 : w3.cell? ⟨w.heap.size, 5, none⟩ = some (Value.slice xA5 xn5 xp5) := by rw [cell_of hB0]; rfl
  have HB0 := Lib.hid hB0
  have HB1 := Lib.hid hB1
  have HB2 := Lib.hid hB2
  clear hB0 hB1 hB2
  go_wp2_with fail
  clear q3 r3 q4 r4 g5
  obtain ⟨W3, hW3⟩ : ∃ W', ((w3.setCell ⟨w.heap.size + 1 + 1, 3, none⟩ (Value.string yk3)).setCell ⟨w.heap.size + 1 + 1, 4, none⟩ (Value.string yk4)) = W' := ⟨_, rfl⟩
  have hW3' : stores w3 (w.heap.size + 1 + 1) 3 [Value.string yk3, Value.string yk4] = W3 := hW3
  rw [hW3]
  clear hW3
  have bc3 : Below w.heap.size w W3 := by rw [← hW3']; exact stores_below (by omega) _ _ _ bb3
  have sz3 : W3.heap.size = w3.heap.size := by rw [← hW3', stores_size]
  have hB0 : W3.heap[w.heap.size]? = some (Obj.cells #[Value.string xk0, Value.string xk1, Value.slice xA2 xn2 xp2, Value.string xk3, Value.string xk4, Value.slice xA5 xn5 xp5] 156) := by rw [← hW3', stores_other (by omega)]; exact HB0.out
  have hB1 : W3.heap[w.heap.size + 1]? = some (Obj.cells #[Value.string ⟨#[]⟩, Value.string ⟨#[]⟩, Value.slice none 0 0, Value.string ⟨#[]⟩, Value.string ⟨#[]⟩, Value.slice none 0 0] 89) := by rw [← hW3', stores_other (by omega)]; exact HB1.out
  have hB2 : W3.heap[w.heap.size + 1 + 1]? = some (Obj.cells #[Value.string xk0, Value.string xk1, Value.slice yA2 yn2 yp2, Value.string yk3, Value.string yk4, Value.slice none 0 0] 89) := by rw [← hW3']; exact stores_heap _ _ 3 #[Value.string xk0, Value.string xk1, Value.slice yA2 yn2 yp2, Value.string ⟨#[]⟩, Value.string ⟨#[]⟩, Value.slice none 0 0] HB2.out
  have own2 := Own.same (w' := W3) _ own2 fun b hb => by rw [← hW3', stores_other (by have := hb.1; omega)]
  have own3 := own3.same (w' := W3) fun b hb => by rw [← hW3', stores_other (by have := hb.1; omega)]
  clear hW3' HB0 HB1 HB2
  refine (h5 W3 _ (by omega) (At.below bc3 _ HA5.out)).mono ?_
  rintro e w5 ⟨v, rfl, own5, hb5⟩
  obtain ⟨yA5, yn5, yp5, rfl⟩ := At.lst (Own.at _ own5) (hsh 5 _ rfl)
  have hB0 := (hb5.block _ (lt_of hB0)).trans hB0
  have hB1 := (hb5.block _ (lt_of hB1)).trans hB1
  have hB2 := (hb5.block _ (lt_of hB2)).trans hB2
  have bb5 := below_trans bc3 hb5
  have s5 := hb5.size
  have own2 := Own.below own2 hb5 (fun b hb => by have := hb.2; omega)
  have own3 := own3.same fun b hb => hb5.block b (by have := hb.2; omega)
  rw [sz3] at own5 s5
  clear hb5
  have q5 : w5.cell? ⟨w.heap.size + 1 + 1, 5, none⟩ = some (Value.slice none 0 0) := by rw [cell_of hB2]; rfl
  have r5 : w5.frozen? ⟨w.heap.size + 1 + 1, 5, none⟩ = false := frozen_no hB2 _
  have HL2 : Hid (((w5.setCell ⟨w.heap.size + 1 + 1, 5, none⟩ (Value.slice yA5 yn5 yp5))).heap[w.heap.size + 1 + 1]? = some (Obj.cells #[Value.string xk0, Value.string xk1, Value.slice yA2 yn2 yp2, Value.string yk3, Value.string yk4, Value.slice yA5 yn5 yp5] 89)) := by
    have e : setRow #[Value.string xk0, Value.string xk1, Value.slice yA2 yn2 yp2, Value.string yk3, Value.string yk4, Value.slice none 0 0] 5 [Value.slice yA5 yn5 yp5] = #[Value.string xk0, Value.string xk1, Value.slice yA2 yn2 yp2, Value.string yk3, Value.string yk4, Value.slice yA5 yn5 yp5] := by simp [setRow]
    have h := stores_heap [Value.slice yA5 yn5 yp5] w5 5 _ hB2
    rw [e] at h
    exact h
  have HL1 : Hid (((w5.setCell ⟨w.heap.size + 1 + 1, 5, none⟩ (Value.slice yA5 yn5 yp5))).heap[w.heap.size + 1]? = some (Obj.cells #[Value.string ⟨#[]⟩, Value.string ⟨#[]⟩, Value.slice none 0 0, Value.string ⟨#[]⟩, Value.string ⟨#[]⟩, Value.slice none 0 0] 89)) := (stores_other (by omega) [Value.slice yA5 yn5 yp5] w5 5).trans hB1
  have HA1' : Hid ((#[Value.string xk0, Value.string xk1, Value.slice yA2 yn2 yp2, Value.string yk3, Value.string yk4, Value.slice yA5 yn5 yp5] : Array Value).all (·.oneCell') = true) := by simp [Hid, Value.oneCell']
  clear hB0 hB1 hB2
  go_wp2_with (first | (refine wpList_load_row rfl 89 _ rfl (w.heap.size + 1 + 1) rfl 89 #[Value.string xk0, Value.string xk1, Value.slice yA2 yn2 yp2, Value.string yk3, Value.string yk4, Value.slice yA5 yn5 yp5] (0, 0) _ HL2.out Tryz.underlying89 rfl sizeFieldDef ?_) | (refine wpList_store_row rfl 89 _ _ rfl (w.heap.size + 1) #[Value.string xk0, Value.string xk1, Value.slice yA2 yn2 yp2, Value.string yk3, Value.string yk4, Value.slice yA5 yn5 yp5] rfl rfl 89 #[Value.string ⟨#[]⟩, Value.string ⟨#[]⟩, Value.slice none 0 0, Value.string ⟨#[]⟩, Value.string ⟨#[]⟩, Value.slice none 0 0] HL1.out sizeFieldDef rfl HA1'.out ?_))
  obtain ⟨W9, hW9⟩ : ∃ W9, (w5.setCell ⟨w.heap.size + 1 + 1, 5, none⟩ (Value.slice yA5 yn5 yp5)).setRow (w.heap.size + 1) #[Value.string xk0, Value.string xk1, Value.slice yA2 yn2 yp2, Value.string yk3, Value.string yk4, Value.slice yA5 yn5 yp5] = W9 := ⟨_, rfl⟩
  have hW9' : (stores w5 (w.heap.size + 1 + 1) 5 [Value.slice yA5 yn5 yp5]).setRow (w.heap.size + 1) #[Value.string xk0, Value.string xk1, Value.slice yA2 yn2 yp2, Value.string yk3, Value.string yk4, Value.slice yA5 yn5 yp5] = W9 := hW9
  rw [hW9]
  clear hW9
  have hg9 : W9.heap[w.heap.size + 1]? = some (Obj.cells #[Value.string xk0, Value.string xk1, Value.slice yA2 yn2 yp2, Value.string yk3, Value.string yk4, Value.slice yA5 yn5 yp5] 89) := by
    rw [← hW9']
    exact heap_setRow_same HL1.out
  have hk9 : ∀ b, w.heap.size + 2 < b → W9.heap[b]? = w5.heap[b]? := fun b hb => by rw [← hW9', heap_setRow_other (by omega), stores_other (by omega)]
  have hz9 : W9.heap.size = w5.heap.size := by rw [← hW9', size_setRow, stores_size]
  have bb9 : Below w.heap.size w W9 := by rw [← hW9']; exact below_setRow (stores_below (by omega) _ _ _ bb5) (by omega)
  clear hW9'
  (try simp only [Exit.inBlock, Exit.then])
  refine bodyPost_ret (results_cell_row rfl _ W9 (w.heap.size + 1) _ _ _ _ rfl hg9 Tryz.underlying89 rfl (by kernel_rfl)) rfl ?_
  refine ⟨_, _, _, _, _, _, rfl, ?_, bb9⟩
  rw [hz9]
  have own2 := Own.same (w' := W9) _ own2 fun b hb => hk9 b (by have := hb.1; omega)
  have own3 := own3.same (w' := W9) fun b hb => hk9 b (by have := hb.1; omega)
  have own5 := Own.same (w' := W9) _ own5 fun b hb => hk9 b (by have := hb.1; omega)
  refine OwnR.wide ?_ (F := rng (w.heap.size + 3) w5.heap.size) (fun b h => ⟨by have := h.1; omega, h.2⟩)
  exact (ownR_plain (F := rng (w.heap.size + 3) w5.heap.size) (Own.plain HA0.out (hsh 0 _ rfl)) (ownR_plain (F := rng (w.heap.size + 3) w5.heap.size) (Own.plain HA1.out (hsh 1 _ rfl)) (ownR_cons (F1 := rng (w.heap.size + 3) (w2.heap.size)) (F2 := rng (w2.heap.size) w5.heap.size) (F := rng (w.heap.size + 3) w5.heap.size) own2 (ownR_append (F1 := rng (w2.heap.size) (w3.heap.size)) (F2 := rng (w3.heap.size) w5.heap.size) (F := rng (w2.heap.size) w5.heap.size) (n := 2) rfl own3 (ownR_cons (F1 := rng (w3.heap.size) (w5.heap.size)) (F2 := rng w5.heap.size w5.heap.size) (F := rng (w3.heap.size) w5.heap.size) own5 ownR_nil (fun b h1 h2 => by have := h1.2; have := h2.1; omega) (fun b h => ⟨by have := h.1; omega, by have := h.2; omega⟩) (fun b h => ⟨by have := h.1; omega, h.2⟩)) (fun b h1 h2 => by have := h1.2; have := h2.1; omega) (fun b h => ⟨by have := h.1; omega, by have := h.2; omega⟩) (fun b h => ⟨by have := h.1; omega, h.2⟩)) (fun b h1 h2 => by have := h1.2; have := h2.1; omega) (fun b h => ⟨by have := h.1; omega, by have := h.2; omega⟩) (fun b h => ⟨by have := h.1; omega, h.2⟩))))

theorem toFieldDef {r : Nat → D} (hs : ∀ j g, (row .fielddef)[j]? = some g → Sh (r j) g) : ToRFieldDef r := (toRFieldDef_of r hs (toInDefs (hs 2 _ rfl)) (toRType_of _ (sub_sh (k := .typ) 3 (by decide) hs) ) (toDirs (hs 5 _ rfl)))

def zeroFieldDef : Value := .agg #[Value.string ⟨#[]⟩, Value.string ⟨#[]⟩, Value.slice none 0 0, Value.string ⟨#[]⟩, Value.string ⟨#[]⟩, Value.slice none 0 0]
theorem infoFieldDef : (Tryz.prog.info? 89).map (fun i => (i.zero, i.size, i.bytes)) = some (some zeroFieldDef, 6, 112) := by kernel_rfl
theorem undsFieldDef : Tryz.prog.underlying 41 = some (.slice 89) := by kernel_rfl
theorem makeFieldDef (n : Nat) (hn : n ≤ 1048576) : ∃ cur : Array Value, cur.size = n * 6 ∧ ∀ w : World, (Instr.makeSlice 41 (.int .i64 (n : Int)) (.int .i64 (n : Int))).run Tryz.prog w = .ok (.slice (some ⟨w.heap.size, 0, none⟩) n n) (w.alloc (.cells cur 89)) := by
  obtain ⟨i, hi, hzz⟩ := Option.map_eq_some_iff.1 infoFieldDef
  simp only [Prod.mk.injEq] at hzz
  obtain ⟨hz, hs, hb⟩ := hzz
  refine ⟨madeCells zeroFieldDef.cells (n * 6), size_madeCells _ _, fun w => ?_⟩
  have := run_make (P := Tryz.prog) w 41 89 i zeroFieldDef undsFieldDef hi hz .i64 .i64 n n (by omega) (by omega) (by rw [hb]; omega) (by omega)
  rw [hs] at this
  simpa using this
set_option maxHeartbeats 4000000 in
theorem toLsFieldDef (n : Nat) (it : Nat → Nat → D) (hsh : ∀ i, i < n → ∀ j g, (row .fielddef)[j]? = some g → Sh (it i j) g) (hit : ∀ i, i < n → ToRFieldDef (it i)) : ToL 53 (.list 6 n it) := by
  intro w c hs h
  have HI := Lib.hid h
  obtain ⟨A, cap, rfl, hm⟩ := h.slice
  clear h
  unfold maxLen at hm
  have hn : n ≤ 1048576 := by simp only [sz] at hs; omega
  have HSZ := Lib.hid hs
  clear hs
  obtain ⟨cur0, hcur0, hmk⟩ := makeFieldDef n hn
  have HCu := Lib.hid hcur0
  clear hcur0
  go_enter Tryz.func53, Tryz.ntmps53
  go_wp2
  clear hmk
  go_loopw [4] (fun i wr => ∃ k : Nat, k ≤ n ∧ i = .int .i64 k ∧ Laid wr (w.heap.size + 1) w.heap.size 6 n k 89 it ∧ w.heap.size < wr.heap.size ∧ Below w.heap.size w wr) (fun i _ => n - (intOf i).toNat)
  case atStart => exact ⟨0, Nat.zero_le _, rfl, Laid.zero (heap_alloc_new w _) (by have := HCu.out; omega), by simp, below_alloc _ _⟩
  case round =>
    obtain ⟨k, hk, rfl, hlaid, hgl, hbel⟩ := hrel
    have HLD := Lib.hid hlaid
    obtain ⟨cur, hg, hcs⟩ := hlaid.heap
    have HG := Lib.hid hg
    have HCS := Lib.hid hcs
    clear hlaid hg hcs
    by_cases hlt : k < n
    · have hk0 : (0 : Int) ≤ (k : Int) := by omega
      have hk1 : (k : Int) < (n : Int) := by omega
      obtain ⟨b, o, e2, hf⟩ := (At.below hbel _ HI.out).nth hlt
      subst e2
      obtain ⟨c0, f0, a0⟩ := hf 0 (by omega)
      obtain ⟨c1, f1, a1⟩ := hf 1 (by omega)
      obtain ⟨c2, f2, a2⟩ := hf 2 (by omega)
      obtain ⟨c3, f3, a3⟩ := hf 3 (by omega)
      obtain ⟨c4, f4, a4⟩ := hf 4 (by omega)
      obtain ⟨c5, f5, a5⟩ := hf 5 (by omega)
      clear hf
      rw [Nat.add_zero] at f0
      have cc := hit k hlt wr c0 c1 c2 c3 c4 c5 (by have := sz_row (W := 6) (it := it) hlt; have := HSZ.out; omega) a0 a1 a2 a3 a4 a5
      clear a0 a1 a2 a3 a4 a5
      go_wp2_with fail
      refine cc.mono ?_
      rintro e w1 ⟨d0, d1, d2, d3, d4, d5, rfl, hown, hb1⟩
      clear cc
      have HG1 := Lib.hid ((hb1.block _ hgl).trans HG.out)
      have HO := Lib.hid hown
      have t0 := hown.at 0 _ rfl
      have t1 := hown.at 1 _ rfl
      have t2 := hown.at 2 _ rfl
      have t3 := hown.at 3 _ rfl
      have t4 := hown.at 4 _ rfl
      have t5 := hown.at 5 _ rfl
      clear hown
      obtain ⟨yk0, rfl⟩ := At.str t0 (hsh k hlt 0 _ rfl)
      obtain ⟨yk1, rfl⟩ := At.str t1 (hsh k hlt 1 _ rfl)
      obtain ⟨yA2, yn2, yp2, rfl⟩ := At.lst t2 (hsh k hlt 2 _ rfl)
      obtain ⟨yk3, rfl⟩ := At.str t3 (hsh k hlt 3 _ rfl)
      obtain ⟨yk4, rfl⟩ := At.str t4 (hsh k hlt 4 _ rfl)
      obtain ⟨yA5, yn5, yp5, rfl⟩ := At.lst t5 (hsh k hlt 5 _ rfl)
      clear t0 t1 t2 t3 t4 t5
      have hcs := HCS.out
      obtain ⟨o0, p0⟩ : ∃ old, w1.cell? ⟨w.heap.size, k * 6, none⟩ = some old := by rw [cell_of HG1.out]; exact ⟨_, Array.getElem?_eq_getElem (by omega)⟩
      have z0 : w1.frozen? ⟨w.heap.size, k * 6, none⟩ = false := frozen_no HG1.out _
      obtain ⟨o1, p1⟩ : ∃ old, w1.cell? ⟨w.heap.size, k * 6 + 1, none⟩ = some old := by rw [cell_of HG1.out]; exact ⟨_, Array.getElem?_eq_getElem (by omega)⟩
      have z1 : w1.frozen? ⟨w.heap.size, k * 6 + 1, none⟩ = false := frozen_no HG1.out _
      obtain ⟨o2, p2⟩ : ∃ old, w1.cell? ⟨w.heap.size, k * 6 + 2, none⟩ = some old := by rw [cell_of HG1.out]; exact ⟨_, Array.getElem?_eq_getElem (by omega)⟩
      have z2 : w1.frozen? ⟨w.heap.size, k * 6 + 2, none⟩ = false := frozen_no HG1.out _
      obtain ⟨o3, p3⟩ : ∃ old, w1.cell? ⟨w.heap.size, k * 6 + 3, none⟩ = some old := by rw [cell_of HG1.out]; exact ⟨_, Array.getElem?_eq_getElem (by omega)⟩
      have z3 : w1.frozen? ⟨w.heap.size, k * 6 + 3, none⟩ = false := frozen_no HG1.out _
      obtain ⟨o4, p4⟩ : ∃ old, w1.cell? ⟨w.heap.size, k * 6 + 4, none⟩ = some old := by rw [cell_of HG1.out]; exact ⟨_, Array.getElem?_eq_getElem (by omega)⟩
      have z4 : w1.frozen? ⟨w.heap.size, k * 6 + 4, none⟩ = false := frozen_no HG1.out _
      obtain ⟨o5, p5⟩ : ∃ old, w1.cell? ⟨w.heap.size, k * 6 + 5, none⟩ = some old := by rw [cell_of HG1.out]; exact ⟨_, Array.getElem?_eq_getElem (by omega)⟩
      have z5 : w1.frozen? ⟨w.heap.size, k * 6 + 5, none⟩ = false := frozen_no HG1.out _
      clear hcs
      go_wp2
      go_roundw
      case rel =>
        have hst := Laid.step (vs := [Value.string yk0, Value.string yk1, Value.slice yA2 yn2 yp2, Value.string yk3, Value.string yk4, Value.slice yA5 yn5 yp5]) HLD.out hlt hgl (by omega) hb1 rfl HO.out
        have hsz := stores_size (g := w.heap.size) [Value.string yk0, Value.string yk1, Value.slice yA2 yn2 yp2, Value.string yk3, Value.string yk4, Value.slice yA5 yn5 yp5] w1 (k * 6)
        have hbb := stores_below (Nat.le_refl _) [Value.string yk0, Value.string yk1, Value.slice yA2 yn2 yp2, Value.string yk3, Value.string yk4, Value.slice yA5 yn5 yp5] w1 (k * 6) (below_trans hbel hb1)
        have hlt9 := Nat.lt_of_lt_of_eq (Nat.lt_of_lt_of_le hgl hb1.size) hsz.symm
        exact ⟨k + 1, by omega, by go_num, hst, hlt9, hbb⟩
      case measure => simp [intOf]; omega
    · go_wp2
      go_ret
      obtain rfl : k = n := by omega
      exact ⟨_, rfl, HLD.out.own (Nat.le_refl _) (Nat.le_refl _) (by unfold maxLen; omega) hgl, hbel⟩

theorem toFieldDefs {d : D} (h : Sh d (.lst .fielddef)) : ToL 53 d := by
  obtain ⟨n, it, rfl, hs⟩ := h.lst
  exact toLsFieldDef n it hs fun i hi => (toRFieldDef_of (it i) (hs i hi) (toInDefs ((hs i hi) 2 _ rfl)) (toRType_of _ (sub_sh (k := .typ) 3 (by decide) (hs i hi)) ) (toDirs ((hs i hi) 5 _ rfl)))

/-- The contract of one. -/
def ToREnumDef (r : Nat → D) : Prop := ∀ (w : World) (c0 c1 c2 : Value), sumTo (fun j => sz (r j)) 3 ≤ 1048576 → At w (r 0) c0 → At w (r 1) c1 → At w (r 2) c2 →
  Calls Tryz.prog 91 #[.agg #[c0, c1, c2]] w fun e w' => ∃ d0 d1 d2, e = .returned (.agg #[d0, d1, d2]) ∧ OwnR w' r (rng w.heap.size w'.heap.size) [d0, d1, d2] ∧ Below w.heap.size w w'
theorem sizeEnumDef : (Tryz.prog.info? 91).map (·.size) = some 3 := by kernel_rfl
set_option maxHeartbeats 8000000 in
theorem toREnumDef_of (r : Nat → D) (hsh : ∀ j g, (row .enumdef)[j]? = some g → Sh (r j) g) (h2 : ToL 50 (r 2)) : ToREnumDef r := by
  intro w c0 c1 c2 hs a0 a1 a2
  simp only [sumTo] at hs
  have HA0 := Lib.hid a0
  have HA1 := Lib.hid a1
  have HA2 := Lib.hid a2
  obtain ⟨xk0, rfl⟩ := At.str a0 (hsh 0 _ rfl)
  obtain ⟨xk1, rfl⟩ := At.str a1 (hsh 1 _ rfl)
  obtain ⟨xA2, xn2, xp2, rfl⟩ := At.lst a2 (hsh 2 _ rfl)
  clear a0 a1 a2
  go_enter Tryz.func91, Tryz.ntmps91
  go_wp2_with fail
  obtain ⟨W0, hW0⟩ : ∃ W0, (((w.alloc (Obj.cells #[Value.string xk0, Value.string xk1, Value.slice xA2 xn2 xp2] 162)).alloc (Obj.cells #[Value.string ⟨#[]⟩, Value.string ⟨#[]⟩, Value.slice none 0 0] 91)).alloc (Obj.cells #[Value.string xk0, Value.string xk1, Value.slice none 0 0] 91)) = W0 := ⟨_, rfl⟩
  have ba : Below w.heap.size w W0 := by rw [← hW0]; exact ((below_alloc _ _).alloc (by simp) _).alloc (by simp; omega) _
  have hz : W0.heap.size = w.heap.size + 3 := by rw [← hW0]; simp
  have hB0 : W0.heap[w.heap.size]? = some (Obj.cells #[Value.string xk0, Value.string xk1, Value.slice xA2 xn2 xp2] 162) := by
    rw [← hW0, Below.heap_alloc _ _ _ (by simp; omega), Below.heap_alloc _ _ _ (by simp)]; exact heap_alloc_new w _
  have hB1 : W0.heap[w.heap.size + 1]? = some (Obj.cells #[Value.string ⟨#[]⟩, Value.string ⟨#[]⟩, Value.slice none 0 0] 91) := by
    rw [← hW0, Below.heap_alloc _ _ _ (by simp)]
    have := heap_alloc_new (w.alloc (Obj.cells #[Value.string xk0, Value.string xk1, Value.slice xA2 xn2 xp2] 162)) (Obj.cells #[Value.string ⟨#[]⟩, Value.string ⟨#[]⟩, Value.slice none 0 0] 91)
    simpa using this
  have hB2 : W0.heap[w.heap.size + 1 + 1]? = some (Obj.cells #[Value.string xk0, Value.string xk1, Value.slice none 0 0] 91) := by
    rw [← hW0]
    have := heap_alloc_new ((w.alloc (Obj.cells #[Value.string xk0, Value.string xk1, Value.slice xA2 xn2 xp2] 162)).alloc (Obj.cells #[Value.string ⟨#[]⟩, Value.string ⟨#[]⟩, Value.slice none 0 0] 91)) (Obj.cells #[Value.string xk0, Value.string xk1, Value.slice none 0 0] 91)
    simpa using this
  rw [hW0]
  clear hW0
  refine (h2 W0 _ (by omega) (At.below ba _ HA2.out)).mono ?_
  rintro e w2 ⟨v, rfl, own2, hb2⟩
  obtain ⟨yA2, yn2, yp2, rfl⟩ := At.lst (Own.at _ own2) (hsh 2 _ rfl)
  have hB0 := (hb2.block _ (lt_of hB0)).trans hB0
  have hB1 := (hb2.block _ (lt_of hB1)).trans hB1
  have hB2 := (hb2.block _ (lt_of hB2)).trans hB2
  have bb2 := below_trans ba hb2
  have s2 := hb2.size
  rw [hz] at own2 s2
  clear hb2
  have q2 : w2.cell? ⟨w.heap.size + 1 + 1, 2, none⟩ = some (Value.slice none 0 0) := by rw [cell_of hB2]; rfl
  have r2 : w2.frozen? ⟨w.heap.size + 1 + 1, 2, none⟩ = false := frozen_no hB2 _
  have HL2 : Hid (((w2.setCell ⟨w.heap.size + 1 + 1, 2, none⟩ (Value.slice yA2 yn2 yp2))).heap[w.heap.size + 1 + 1]? = some (Obj.cells #[Value.string xk0, Value.string xk1, Value.slice yA2 yn2 yp2] 91)) := by
    have e : setRow #[Value.string xk0, Value.string xk1, Value.slice none 0 0] 2 [Value.slice yA2 yn2 yp2] = #[Value.string xk0, Value.string xk1, Value.slice yA2 yn2 yp2] := by simp [setRow]
    have h := stores_heap [Value.slice yA2 yn2 yp2] w2 2 _ hB2
    rw [e] at h
    exact h
  have HL1 : Hid (((w2.setCell ⟨w.heap.size + 1 + 1, 2, none⟩ (Value.slice yA2 yn2 yp2))).heap[w.heap.size + 1]? = some (Obj.cells #[Value.string ⟨#[]⟩, Value.string ⟨#[]⟩, Value.slice none 0 0] 91)) := (stores_other (by omega) [Value.slice yA2 yn2 yp2] w2 2).trans hB1
  have HA1' : Hid ((#[Value.string xk0, Value.string xk1, Value.slice yA2 yn2 yp2] : Array Value).all (·.oneCell') = true) := by simp [Hid, Value.oneCell']
  clear hB0 hB1 hB2
  go_wp2_with (first | (refine wpList_load_row rfl 91 _ rfl (w.heap.size + 1 + 1) rfl 91 #[Value.string xk0, Value.string xk1, Value.slice yA2 yn2 yp2] (0, 0) _ HL2.out Tryz.underlying91 rfl sizeEnumDef ?_) | (refine wpList_store_row rfl 91 _ _ rfl (w.heap.size + 1) #[Value.string xk0, Value.string xk1, Value.slice yA2 yn2 yp2] rfl rfl 91 #[Value.string ⟨#[]⟩, Value.string ⟨#[]⟩, Value.slice none 0 0] HL1.out sizeEnumDef rfl HA1'.out ?_))
  obtain ⟨W9, hW9⟩ : ∃ W9, (w2.setCell ⟨w.heap.size + 1 + 1, 2, none⟩ (Value.slice yA2 yn2 yp2)).setRow (w.heap.size + 1) #[Value.string xk0, Value.string xk1, Value.slice yA2 yn2 yp2] = W9 := ⟨_, rfl⟩
  have hW9' : (stores w2 (w.heap.size + 1 + 1) 2 [Value.slice yA2 yn2 yp2]).setRow (w.heap.size + 1) #[Value.string xk0, Value.string xk1, Value.slice yA2 yn2 yp2] = W9 := hW9
  rw [hW9]
  clear hW9
  have hg9 : W9.heap[w.heap.size + 1]? = some (Obj.cells #[Value.string xk0, Value.string xk1, Value.slice yA2 yn2 yp2] 91) := by
    rw [← hW9']
    exact heap_setRow_same HL1.out
  have hk9 : ∀ b, w.heap.size + 2 < b → W9.heap[b]? = w2.heap[b]? := fun b hb => by rw [← hW9', heap_setRow_other (by omega), stores_other (by omega)]
  have hz9 : W9.heap.size = w2.heap.size := by rw [← hW9', size_setRow, stores_size]
  have bb9 : Below w.heap.size w W9 := by rw [← hW9']; exact below_setRow (stores_below (by omega) _ _ _ bb2) (by omega)
  clear hW9'
  (try simp only [Exit.inBlock, Exit.then])
  refine bodyPost_ret (results_cell_row rfl _ W9 (w.heap.size + 1) _ _ _ _ rfl hg9 Tryz.underlying91 rfl (by kernel_rfl)) rfl ?_
  refine ⟨_, _, _, rfl, ?_, bb9⟩
  rw [hz9]
  have own2 := Own.same (w' := W9) _ own2 fun b hb => hk9 b (by have := hb.1; omega)
  refine OwnR.wide ?_ (F := rng (w.heap.size + 3) w2.heap.size) (fun b h => ⟨by have := h.1; omega, h.2⟩)
  exact (ownR_plain (F := rng (w.heap.size + 3) w2.heap.size) (Own.plain HA0.out (hsh 0 _ rfl)) (ownR_plain (F := rng (w.heap.size + 3) w2.heap.size) (Own.plain HA1.out (hsh 1 _ rfl)) (ownR_cons (F1 := rng (w.heap.size + 3) (w2.heap.size)) (F2 := rng w2.heap.size w2.heap.size) (F := rng (w.heap.size + 3) w2.heap.size) own2 ownR_nil (fun b h1 h2 => by have := h1.2; have := h2.1; omega) (fun b h => ⟨by have := h.1; omega, by have := h.2; omega⟩) (fun b h => ⟨by have := h.1; omega, h.2⟩))))

theorem toEnumDef {r : Nat → D} (hs : ∀ j g, (row .enumdef)[j]? = some g → Sh (r j) g) : ToREnumDef r := (toREnumDef_of r hs (toDirs (hs 2 _ rfl)))

def zeroEnumDef : Value := .agg #[Value.string ⟨#[]⟩, Value.string ⟨#[]⟩, Value.slice none 0 0]
theorem infoEnumDef : (Tryz.prog.info? 91).map (fun i => (i.zero, i.size, i.bytes)) = some (some zeroEnumDef, 3, 56) := by kernel_rfl
theorem undsEnumDef : Tryz.prog.underlying 43 = some (.slice 91) := by kernel_rfl
theorem makeEnumDef (n : Nat) (hn : n ≤ 1048576) : ∃ cur : Array Value, cur.size = n * 3 ∧ ∀ w : World, (Instr.makeSlice 43 (.int .i64 (n : Int)) (.int .i64 (n : Int))).run Tryz.prog w = .ok (.slice (some ⟨w.heap.size, 0, none⟩) n n) (w.alloc (.cells cur 91)) := by
  obtain ⟨i, hi, hzz⟩ := Option.map_eq_some_iff.1 infoEnumDef
  simp only [Prod.mk.injEq] at hzz
  obtain ⟨hz, hs, hb⟩ := hzz
  refine ⟨madeCells zeroEnumDef.cells (n * 3), size_madeCells _ _, fun w => ?_⟩
  have := run_make (P := Tryz.prog) w 43 91 i zeroEnumDef undsEnumDef hi hz .i64 .i64 n n (by omega) (by omega) (by rw [hb]; omega) (by omega)
  rw [hs] at this
  simpa using this
set_option maxHeartbeats 4000000 in
theorem toLsEnumDef (n : Nat) (it : Nat → Nat → D) (hsh : ∀ i, i < n → ∀ j g, (row .enumdef)[j]? = some g → Sh (it i j) g) (hit : ∀ i, i < n → ToREnumDef (it i)) : ToL 55 (.list 3 n it) := by
  intro w c hs h
  have HI := Lib.hid h
  obtain ⟨A, cap, rfl, hm⟩ := h.slice
  clear h
  unfold maxLen at hm
  have hn : n ≤ 1048576 := by simp only [sz] at hs; omega
  have HSZ := Lib.hid hs
  clear hs
  obtain ⟨cur0, hcur0, hmk⟩ := makeEnumDef n hn
  have HCu := Lib.hid hcur0
  clear hcur0
  go_enter Tryz.func55, Tryz.ntmps55
  go_wp2
  clear hmk
  go_loopw [4] (fun i wr => ∃ k : Nat, k ≤ n ∧ i = .int .i64 k ∧ Laid wr (w.heap.size + 1) w.heap.size 3 n k 91 it ∧ w.heap.size < wr.heap.size ∧ Below w.heap.size w wr) (fun i _ => n - (intOf i).toNat)
  case atStart => exact ⟨0, Nat.zero_le _, rfl, Laid.zero (heap_alloc_new w _) (by have := HCu.out; omega), by simp, below_alloc _ _⟩
  case round =>
    obtain ⟨k, hk, rfl, hlaid, hgl, hbel⟩ := hrel
    have HLD := Lib.hid hlaid
    obtain ⟨cur, hg, hcs⟩ := hlaid.heap
    have HG := Lib.hid hg
    have HCS := Lib.hid hcs
    clear hlaid hg hcs
    by_cases hlt : k < n
    · have hk0 : (0 : Int) ≤ (k : Int) := by omega
      have hk1 : (k : Int) < (n : Int) := by omega
      obtain ⟨b, o, e2, hf⟩ := (At.below hbel _ HI.out).nth hlt
      subst e2
      obtain ⟨c0, f0, a0⟩ := hf 0 (by omega)
      obtain ⟨c1, f1, a1⟩ := hf 1 (by omega)
      obtain ⟨c2, f2, a2⟩ := hf 2 (by omega)
      clear hf
      rw [Nat.add_zero] at f0
      have cc := hit k hlt wr c0 c1 c2 (by have := sz_row (W := 3) (it := it) hlt; have := HSZ.out; omega) a0 a1 a2
      clear a0 a1 a2
      go_wp2_with fail
      refine cc.mono ?_
      rintro e w1 ⟨d0, d1, d2, rfl, hown, hb1⟩
      clear cc
      have HG1 := Lib.hid ((hb1.block _ hgl).trans HG.out)
      have HO := Lib.hid hown
      have t0 := hown.at 0 _ rfl
      have t1 := hown.at 1 _ rfl
      have t2 := hown.at 2 _ rfl
      clear hown
      obtain ⟨yk0, rfl⟩ := At.str t0 (hsh k hlt 0 _ rfl)
      obtain ⟨yk1, rfl⟩ := At.str t1 (hsh k hlt 1 _ rfl)
      obtain ⟨yA2, yn2, yp2, rfl⟩ := At.lst t2 (hsh k hlt 2 _ rfl)
      clear t0 t1 t2
      have hcs := HCS.out
      obtain ⟨o0, p0⟩ : ∃ old, w1.cell? ⟨w.heap.size, k * 3, none⟩ = some old := by rw [cell_of HG1.out]; exact ⟨_, Array.getElem?_eq_getElem (by omega)⟩
      have z0 : w1.frozen? ⟨w.heap.size, k * 3, none⟩ = false := frozen_no HG1.out _
      obtain ⟨o1, p1⟩ : ∃ old, w1.cell? ⟨w.heap.size, k * 3 + 1, none⟩ = some old := by rw [cell_of HG1.out]; exact ⟨_, Array.getElem?_eq_getElem (by omega)⟩
      have z1 : w1.frozen? ⟨w.heap.size, k * 3 + 1, none⟩ = false := frozen_no HG1.out _
      obtain ⟨o2, p2⟩ : ∃ old, w1.cell? ⟨w.heap.size, k * 3 + 2, none⟩ = some old := by rw [cell_of HG1.out]; exact ⟨_, Array.getElem?_eq_getElem (by omega)⟩
      have z2 : w1.frozen? ⟨w.heap.size, k * 3 + 2, none⟩ = false := frozen_no HG1.out _
      clear hcs
      go_wp2
      go_roundw
      case rel =>
        have hst := Laid.step (vs := [Value.string yk0, Value.string yk1, Value.slice yA2 yn2 yp2]) HLD.out hlt hgl (by omega) hb1 rfl HO.out
        have hsz := stores_size (g := w.heap.size) [Value.string yk0, Value.string yk1, Value.slice yA2 yn2 yp2] w1 (k * 3)
        have hbb := stores_below (Nat.le_refl _) [Value.string yk0, Value.string yk1, Value.slice yA2 yn2 yp2] w1 (k * 3) (below_trans hbel hb1)
        have hlt9 := Nat.lt_of_lt_of_eq (Nat.lt_of_lt_of_le hgl hb1.size) hsz.symm
        exact ⟨k + 1, by omega, by go_num, hst, hlt9, hbb⟩
      case measure => simp [intOf]; omega
    · go_wp2
      go_ret
      obtain rfl : k = n := by omega
      exact ⟨_, rfl, HLD.out.own (Nat.le_refl _) (Nat.le_refl _) (by unfold maxLen; omega) hgl, hbel⟩

theorem toEnumDefs {d : D} (h : Sh d (.lst .enumdef)) : ToL 55 d := by
  obtain ⟨n, it, rfl, hs⟩ := h.lst
  exact toLsEnumDef n it hs fun i hi => (toREnumDef_of (it i) (hs i hi) (toDirs ((hs i hi) 2 _ rfl)))

/-- The contract of one. -/
def ToRRoot (r : Nat → D) : Prop := ∀ (w : World) (c0 c1 : Value), sumTo (fun j => sz (r j)) 2 ≤ 1048576 → At w (r 0) c0 → At w (r 1) c1 →
  Calls Tryz.prog 92 #[.agg #[c0, c1]] w fun e w' => ∃ d0 d1, e = .returned (.agg #[d0, d1]) ∧ OwnR w' r (rng w.heap.size w'.heap.size) [d0, d1] ∧ Below w.heap.size w w'
theorem sizeRoot : (Tryz.prog.info? 93).map (·.size) = some 2 := by kernel_rfl
set_option maxHeartbeats 8000000 in
theorem toRRoot_of (r : Nat → D) (hsh : ∀ j g, (row .root)[j]? = some g → Sh (r j) g) : ToRRoot r := by
  intro w c0 c1 hs a0 a1
  simp only [sumTo] at hs
  have HA0 := Lib.hid a0
  have HA1 := Lib.hid a1
  obtain ⟨xk0, rfl⟩ := At.int a0 (hsh 0 _ rfl)
  obtain ⟨xk1, rfl⟩ := At.str a1 (hsh 1 _ rfl)
  clear a0 a1
  go_enter Tryz.func92, Tryz.ntmps92
  go_wp2
  obtain ⟨W9, hW9⟩ : ∃ W9, (((w.alloc (Obj.cells #[Value.int .i64 xk0, Value.string xk1] 164)).alloc (Obj.cells #[Value.int .i64 xk0, Value.string xk1] 93)).alloc (Obj.cells #[Value.int .i64 xk0, Value.string xk1] 93)) = W9 := ⟨_, rfl⟩
  rw [hW9]
  have hg9 : W9.heap[w.heap.size + 1]? = some (Obj.cells #[Value.int .i64 xk0, Value.string xk1] 93) := by
    rw [← hW9, Below.heap_alloc _ _ _ (by simp)]
    exact heap_alloc2_new w _ _
  have bb9 : Below w.heap.size w W9 := by rw [← hW9]; exact ((below_alloc _ _).alloc (by simp) _).alloc (by simp; omega) _
  clear hW9
  (try simp only [Exit.inBlock, Exit.then])
  refine bodyPost_ret (results_cell_row rfl _ W9 (w.heap.size + 1) _ _ _ _ rfl hg9 Tryz.underlying93 rfl (by kernel_rfl)) rfl ?_
  refine ⟨_, _, rfl, ?_, bb9⟩
  exact (ownR_plain (Own.plain HA0.out (hsh 0 _ rfl)) (ownR_plain (Own.plain HA1.out (hsh 1 _ rfl)) ownR_nil))

theorem toRoot {r : Nat → D} (hs : ∀ j g, (row .root)[j]? = some g → Sh (r j) g) : ToRRoot r := (toRRoot_of r hs )

def zeroRoot : Value := .agg #[Value.int .i64 0, Value.string ⟨#[]⟩]
theorem infoRoot : (Tryz.prog.info? 93).map (fun i => (i.zero, i.size, i.bytes)) = some (some zeroRoot, 2, 24) := by kernel_rfl
theorem undsRoot : Tryz.prog.underlying 44 = some (.slice 93) := by kernel_rfl
theorem makeRoot (n : Nat) (hn : n ≤ 1048576) : ∃ cur : Array Value, cur.size = n * 2 ∧ ∀ w : World, (Instr.makeSlice 44 (.int .i64 (n : Int)) (.int .i64 (n : Int))).run Tryz.prog w = .ok (.slice (some ⟨w.heap.size, 0, none⟩) n n) (w.alloc (.cells cur 93)) := by
  obtain ⟨i, hi, hzz⟩ := Option.map_eq_some_iff.1 infoRoot
  simp only [Prod.mk.injEq] at hzz
  obtain ⟨hz, hs, hb⟩ := hzz
  refine ⟨madeCells zeroRoot.cells (n * 2), size_madeCells _ _, fun w => ?_⟩
  have := run_make (P := Tryz.prog) w 44 93 i zeroRoot undsRoot hi hz .i64 .i64 n n (by omega) (by omega) (by rw [hb]; omega) (by omega)
  rw [hs] at this
  simpa using this
set_option maxHeartbeats 4000000 in
theorem toLsRoot (n : Nat) (it : Nat → Nat → D) (hsh : ∀ i, i < n → ∀ j g, (row .root)[j]? = some g → Sh (it i j) g) (hit : ∀ i, i < n → ToRRoot (it i)) : ToL 56 (.list 2 n it) := by
  intro w c hs h
  have HI := Lib.hid h
  obtain ⟨A, cap, rfl, hm⟩ := h.slice
  clear h
  unfold maxLen at hm
  have hn : n ≤ 1048576 := by simp only [sz] at hs; omega
  have HSZ := Lib.hid hs
  clear hs
  obtain ⟨cur0, hcur0, hmk⟩ := makeRoot n hn
  have HCu := Lib.hid hcur0
  clear hcur0
  go_enter Tryz.func56, Tryz.ntmps56
  go_wp2
  clear hmk
  go_loopw [4] (fun i wr => ∃ k : Nat, k ≤ n ∧ i = .int .i64 k ∧ Laid wr (w.heap.size + 1) w.heap.size 2 n k 93 it ∧ w.heap.size < wr.heap.size ∧ Below w.heap.size w wr) (fun i _ => n - (intOf i).toNat)
  case atStart => exact ⟨0, Nat.zero_le _, rfl, Laid.zero (heap_alloc_new w _) (by have := HCu.out; omega), by simp, below_alloc _ _⟩
  case round =>
    obtain ⟨k, hk, rfl, hlaid, hgl, hbel⟩ := hrel
    have HLD := Lib.hid hlaid
    obtain ⟨cur, hg, hcs⟩ := hlaid.heap
    have HG := Lib.hid hg
    have HCS := Lib.hid hcs
    clear hlaid hg hcs
    by_cases hlt : k < n
    · have hk0 : (0 : Int) ≤ (k : Int) := by omega
      have hk1 : (k : Int) < (n : Int) := by omega
      obtain ⟨b, o, e2, hf⟩ := (At.below hbel _ HI.out).nth hlt
      subst e2
      obtain ⟨c0, f0, a0⟩ := hf 0 (by omega)
      obtain ⟨c1, f1, a1⟩ := hf 1 (by omega)
      clear hf
      rw [Nat.add_zero] at f0
      have cc := hit k hlt wr c0 c1 (by have := sz_row (W := 2) (it := it) hlt; have := HSZ.out; omega) a0 a1
      clear a0 a1
      go_wp2_with fail
      refine cc.mono ?_
      rintro e w1 ⟨d0, d1, rfl, hown, hb1⟩
      clear cc
      have HG1 := Lib.hid ((hb1.block _ hgl).trans HG.out)
      have HO := Lib.hid hown
      have t0 := hown.at 0 _ rfl
      have t1 := hown.at 1 _ rfl
      clear hown
      obtain ⟨yk0, rfl⟩ := At.int t0 (hsh k hlt 0 _ rfl)
      obtain ⟨yk1, rfl⟩ := At.str t1 (hsh k hlt 1 _ rfl)
      clear t0 t1
      have hcs := HCS.out
      obtain ⟨o0, p0⟩ : ∃ old, w1.cell? ⟨w.heap.size, k * 2, none⟩ = some old := by rw [cell_of HG1.out]; exact ⟨_, Array.getElem?_eq_getElem (by omega)⟩
      have z0 : w1.frozen? ⟨w.heap.size, k * 2, none⟩ = false := frozen_no HG1.out _
      obtain ⟨o1, p1⟩ : ∃ old, w1.cell? ⟨w.heap.size, k * 2 + 1, none⟩ = some old := by rw [cell_of HG1.out]; exact ⟨_, Array.getElem?_eq_getElem (by omega)⟩
      have z1 : w1.frozen? ⟨w.heap.size, k * 2 + 1, none⟩ = false := frozen_no HG1.out _
      clear hcs
      go_wp2
      go_roundw
      case rel =>
        have hst := Laid.step (vs := [Value.int .i64 yk0, Value.string yk1]) HLD.out hlt hgl (by omega) hb1 rfl HO.out
        have hsz := stores_size (g := w.heap.size) [Value.int .i64 yk0, Value.string yk1] w1 (k * 2)
        have hbb := stores_below (Nat.le_refl _) [Value.int .i64 yk0, Value.string yk1] w1 (k * 2) (below_trans hbel hb1)
        have hlt9 := Nat.lt_of_lt_of_eq (Nat.lt_of_lt_of_le hgl hb1.size) hsz.symm
        exact ⟨k + 1, by omega, by go_num, hst, hlt9, hbb⟩
      case measure => simp [intOf]; omega
    · go_wp2
      go_ret
      obtain rfl : k = n := by omega
      exact ⟨_, rfl, HLD.out.own (Nat.le_refl _) (Nat.le_refl _) (by unfold maxLen; omega) hgl, hbel⟩

theorem toRoots {d : D} (h : Sh d (.lst .root)) : ToL 56 d := by
  obtain ⟨n, it, rfl, hs⟩ := h.lst
  exact toLsRoot n it hs fun i hi => (toRRoot_of (it i) (hs i hi) )

end Da
end Go.Proofs.YtngfhncdmlpjiaaGreat
