/- What is proved: the laws' tests whether they are the same say yes of one datum in two places: a definition. (Made by tools/mkdbe.py.) -/
import Derived.Test.YtngfhncdmlpjiaaGreatDbEi
namespace Go.Proofs.YtngfhncdmlpjiaaGreat
namespace Da
set_option linter.unusedVariables false
set_option linter.unusedSimpArgs false
open Go.RowKit
attribute [local go_sem ↓] Go.wp_at_zero Go.wp_at_succ

/-- The contract of one. -/
def EqRDef (r : Nat → D) : Prop := ∀ (w : World) (c0 c1 c2 c3 c4 c5 c6 c7 c8 c9 c10 d0 d1 d2 d3 d4 d5 d6 d7 d8 d9 d10 : Value), At w (r 0) c0 → At w (r 1) c1 → At w (r 2) c2 → At w (r 3) c3 → At w (r 4) c4 → At w (r 5) c5 → At w (r 6) c6 → At w (r 7) c7 → At w (r 8) c8 → At w (r 9) c9 → At w (r 10) c10 → At w (r 0) d0 → At w (r 1) d1 → At w (r 2) d2 → At w (r 3) d3 → At w (r 4) d4 → At w (r 5) d5 → At w (r 6) d6 → At w (r 7) d7 → At w (r 8) d8 → At w (r 9) d9 → At w (r 10) d10 →
  Calls Tryz.prog 40 #[.agg #[c0, c1, c2, c3, c4, c5, c6, c7, c8, c9, c10], .agg #[d0, d1, d2, d3, d4, d5, d6, d7, d8, d9, d10]] w fun e w' => e = .returned (.bool true) ∧ Below w.heap.size w w'
set_option maxHeartbeats 4000000 in
theorem eqRDef_of (r : Nat → D) (h0 : Sh (r 0) .int) (h1 : Sh (r 1) .bool) (h2 : Sh (r 2) .str) (h3 : Sh (r 3) .str) (h4 : EqL 74 (r 4)) (h5 : EqL 75 (r 5)) (h6 : EqL 76 (r 6)) (h7 : EqL 77 (r 7)) (h8 : EqL 78 (r 8)) (h9 : Sh (r 9) .bool) (h10 : EqL 72 (r 10)) : EqRDef r := by
  intro w c0 c1 c2 c3 c4 c5 c6 c7 c8 c9 c10 d0 d1 d2 d3 d4 d5 d6 d7 d8 d9 d10 a0 a1 a2 a3 a4 a5 a6 a7 a8 a9 a10 b0 b1 b2 b3 b4 b5 b6 b7 b8 b9 b10
  obtain ⟨k0, e0⟩ := h0.int
  rw [e0] at a0 b0
  obtain rfl : c0 = Value.int .i64 k0 := a0
  obtain rfl : d0 = Value.int .i64 k0 := b0
  clear e0
  obtain ⟨q1, e1⟩ := h1.bool
  rw [e1] at a1 b1
  obtain rfl : c1 = Value.bool q1 := a1
  obtain rfl : d1 = Value.bool q1 := b1
  clear e1
  obtain ⟨u2, e2⟩ := h2.str
  rw [e2] at a2 b2
  obtain ⟨rfl, -⟩ := a2
  obtain ⟨rfl, -⟩ := b2
  clear e2
  obtain ⟨u3, e3⟩ := h3.str
  rw [e3] at a3 b3
  obtain ⟨rfl, -⟩ := a3
  obtain ⟨rfl, -⟩ := b3
  clear e3
  obtain ⟨q9, e9⟩ := h9.bool
  rw [e9] at a9 b9
  obtain rfl : c9 = Value.bool q9 := a9
  obtain rfl : d9 = Value.bool q9 := b9
  clear e9
  go_enter Tryz.func40, Tryz.ntmps40
  go_wp2_with fail
  obtain ⟨W1, hW1⟩ : ∃ W1, ((w.alloc (Obj.cells #[Value.int .i64 k0, Value.bool q1, Value.string u2, Value.string u3, c4, c5, c6, c7, c8, Value.bool q9, c10] 46)).alloc (Obj.cells #[Value.int .i64 k0, Value.bool q1, Value.string u2, Value.string u3, d4, d5, d6, d7, d8, Value.bool q9, d10] 46)) = W1 := ⟨_, rfl⟩
  have ba : Below w.heap.size w W1 := by rw [← hW1]; exact (below_alloc _ _).alloc (by simp) _
  have hB0 : W1.heap[w.heap.size]? = some (Obj.cells #[Value.int .i64 k0, Value.bool q1, Value.string u2, Value.string u3, c4, c5, c6, c7, c8, Value.bool q9, c10] 46) := by
    rw [← hW1, Below.heap_alloc _ _ _ (by simp)]; exact heap_alloc_new w _
  have hB1 : W1.heap[w.heap.size + 1]? = some (Obj.cells #[Value.int .i64 k0, Value.bool q1, Value.string u2, Value.string u3, d4, d5, d6, d7, d8, Value.bool q9, d10] 46) := by
    rw [← hW1]; exact heap_alloc2_new w _ _
  rw [hW1]
  clear hW1
  refine (h4 W1 c4 d4 (At.below ba _ a4) (At.below ba _ b4)).mono ?_
  rintro e w4 ⟨rfl, hb4⟩
  have bb4 := below_trans ba hb4
  have hB0 := (hb4.block _ (lt_of hB0)).trans hB0
  have hB1 := (hb4.block _ (lt_of hB1)).trans hB1
  have q5' : w4.cell? ⟨w.heap.size, 5, none⟩ = some (c5) := by rw [cell_of hB0]; rfl
  have r5' : w4.cell? ⟨w.heap.size + 1, 5, none⟩ = some (d5) := by rw [cell_of hB1]; rfl
  have HB0 := Lib.hid hB0
  have HB1 := Lib.hid hB1
  clear hB0 hB1
  go_wp2_with fail
  clear q5' r5'
  have hB0 := HB0.out
  have hB1 := HB1.out
  clear HB0 HB1
  refine (h5 w4 c5 d5 (At.below bb4 _ a5) (At.below bb4 _ b5)).mono ?_
  rintro e w5 ⟨rfl, hb5⟩
  have bb5 := below_trans bb4 hb5
  have hB0 := (hb5.block _ (lt_of hB0)).trans hB0
  have hB1 := (hb5.block _ (lt_of hB1)).trans hB1
  have q6' : w5.cell? ⟨w.heap.size, 6, none⟩ = some (c6) := by rw [cell_of hB0]; rfl
  have r6' : w5.cell? ⟨w.heap.size + 1, 6, none⟩ = some (d6) := by rw [cell_of hB1]; rfl
  have HB0 := Lib.hid hB0
  have HB1 := Lib.hid hB1
  clear hB0 hB1
  go_wp2_with fail
  clear q6' r6'
  have hB0 := HB0.out
  have hB1 := HB1.out
  clear HB0 HB1
  refine (h6 w5 c6 d6 (At.below bb5 _ a6) (At.below bb5 _ b6)).mono ?_
  rintro e w6 ⟨rfl, hb6⟩
  have bb6 := below_trans bb5 hb6
  have hB0 := (hb6.block _ (lt_of hB0)).trans hB0
  have hB1 := (hb6.block _ (lt_of hB1)).trans hB1
  have q7' : w6.cell? ⟨w.heap.size, 7, none⟩ = some (c7) := by rw [cell_of hB0]; rfl
  have r7' : w6.cell? ⟨w.heap.size + 1, 7, none⟩ = some (d7) := by rw [cell_of hB1]; rfl
  have HB0 := Lib.hid hB0
  have HB1 := Lib.hid hB1
  clear hB0 hB1
  go_wp2_with fail
  clear q7' r7'
  have hB0 := HB0.out
  have hB1 := HB1.out
  clear HB0 HB1
  refine (h7 w6 c7 d7 (At.below bb6 _ a7) (At.below bb6 _ b7)).mono ?_
  rintro e w7 ⟨rfl, hb7⟩
  have bb7 := below_trans bb6 hb7
  have hB0 := (hb7.block _ (lt_of hB0)).trans hB0
  have hB1 := (hb7.block _ (lt_of hB1)).trans hB1
  have q8' : w7.cell? ⟨w.heap.size, 8, none⟩ = some (c8) := by rw [cell_of hB0]; rfl
  have r8' : w7.cell? ⟨w.heap.size + 1, 8, none⟩ = some (d8) := by rw [cell_of hB1]; rfl
  have HB0 := Lib.hid hB0
  have HB1 := Lib.hid hB1
  clear hB0 hB1
  go_wp2_with fail
  clear q8' r8'
  have hB0 := HB0.out
  have hB1 := HB1.out
  clear HB0 HB1
  refine (h8 w7 c8 d8 (At.below bb7 _ a8) (At.below bb7 _ b8)).mono ?_
  rintro e w8 ⟨rfl, hb8⟩
  have bb8 := below_trans bb7 hb8
  have hB0 := (hb8.block _ (lt_of hB0)).trans hB0
  have hB1 := (hb8.block _ (lt_of hB1)).trans hB1
  have q9' : w8.cell? ⟨w.heap.size, 9, none⟩ = some (Value.bool q9) := by rw [cell_of hB0]; rfl
  have r9' : w8.cell? ⟨w.heap.size + 1, 9, none⟩ = some (Value.bool q9) := by rw [cell_of hB1]; rfl
  have q10' : w8.cell? ⟨w.heap.size, 10, none⟩ = some (c10) := by rw [cell_of hB0]; rfl
  have r10' : w8.cell? ⟨w.heap.size + 1, 10, none⟩ = some (d10) := by rw [cell_of hB1]; rfl
  have HB0 := Lib.hid hB0
  have HB1 := Lib.hid hB1
  clear hB0 hB1
  go_wp2_with fail
  clear q9' r9' q10' r10'
  have hB0 := HB0.out
  have hB1 := HB1.out
  clear HB0 HB1
  refine (h10 w8 c10 d10 (At.below bb8 _ a10) (At.below bb8 _ b10)).mono ?_
  rintro e w10 ⟨rfl, hb10⟩
  have bb10 := below_trans bb8 hb10
  go_wp2
  go_ret
  exact ⟨rfl, bb10⟩

theorem eqDef {r : Nat → D} (hs : ∀ j g, (row .defn)[j]? = some g → Sh (r j) g) : EqRDef r := (eqRDef_of r (hs 0 _ rfl) (hs 1 _ rfl) (hs 2 _ rfl) (hs 3 _ rfl) (eqStrings (hs 4 _ rfl)) (eqFieldDefs (hs 5 _ rfl)) (eqInDefs (hs 6 _ rfl)) (eqEnumDefs (hs 7 _ rfl)) (eqRoots (hs 8 _ rfl)) (hs 9 _ rfl) (eqDirs (hs 10 _ rfl)))

end Da
end Go.Proofs.YtngfhncdmlpjiaaGreat
