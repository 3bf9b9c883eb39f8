/- What is proved: the laws' tests whether they are the same say yes of one datum in two places: an item. (Made by tools/mkdbe.py.) -/
import Derived.Test.YtngfhncdmlpjiaaGreatDbEv
import Derived.Test.YtngfhncdmlpjiaaGreatDbEd
namespace Go.Proofs.YtngfhncdmlpjiaaGreat
namespace Da
set_option linter.unusedVariables false
set_option linter.unusedSimpArgs false
open Go.RowKit
attribute [local go_sem ↓] Go.wp_at_zero Go.wp_at_succ

/-- The contract of one. -/
def EqRItem (r : Nat → D) : Prop := ∀ (w : World) (c0 c1 c2 c3 c4 c5 c6 c7 c8 c9 c10 c11 c12 c13 c14 c15 c16 c17 c18 c19 c20 d0 d1 d2 d3 d4 d5 d6 d7 d8 d9 d10 d11 d12 d13 d14 d15 d16 d17 d18 d19 d20 : Value), At w (r 0) c0 → At w (r 1) c1 → At w (r 2) c2 → At w (r 3) c3 → At w (r 4) c4 → At w (r 5) c5 → At w (r 6) c6 → At w (r 7) c7 → At w (r 8) c8 → At w (r 9) c9 → At w (r 10) c10 → At w (r 11) c11 → At w (r 12) c12 → At w (r 13) c13 → At w (r 14) c14 → At w (r 15) c15 → At w (r 16) c16 → At w (r 17) c17 → At w (r 18) c18 → At w (r 19) c19 → At w (r 20) c20 → At w (r 0) d0 → At w (r 1) d1 → At w (r 2) d2 → At w (r 3) d3 → At w (r 4) d4 → At w (r 5) d5 → At w (r 6) d6 → At w (r 7) d7 → At w (r 8) d8 → At w (r 9) d9 → At w (r 10) d10 → At w (r 11) d11 → At w (r 12) d12 → At w (r 13) d13 → At w (r 14) d14 → At w (r 15) d15 → At w (r 16) d16 → At w (r 17) d17 → At w (r 18) d18 → At w (r 19) d19 → At w (r 20) d20 →
  Calls Tryz.prog 26 #[.agg #[c0, c1, c2, c3, c4, c5, c6, c7, c8, c9, c10, c11, c12, c13, c14, c15, c16, c17, c18, c19, c20], .agg #[d0, d1, d2, d3, d4, d5, d6, d7, d8, d9, d10, d11, d12, d13, d14, d15, d16, d17, d18, d19, d20]] w fun e w' => e = .returned (.bool true) ∧ Below w.heap.size w w'
set_option maxHeartbeats 4000000 in
theorem eqRItem_of (r : Nat → D) (h0 : Sh (r 0) .int) (h1 : EqROp fun j => r (j + 1)) (h6 : EqRFrag fun j => r (j + 6)) (h10 : EqRDef fun j => r (j + 10)) : EqRItem r := by
  intro w c0 c1 c2 c3 c4 c5 c6 c7 c8 c9 c10 c11 c12 c13 c14 c15 c16 c17 c18 c19 c20 d0 d1 d2 d3 d4 d5 d6 d7 d8 d9 d10 d11 d12 d13 d14 d15 d16 d17 d18 d19 d20 a0 a1 a2 a3 a4 a5 a6 a7 a8 a9 a10 a11 a12 a13 a14 a15 a16 a17 a18 a19 a20 b0 b1 b2 b3 b4 b5 b6 b7 b8 b9 b10 b11 b12 b13 b14 b15 b16 b17 b18 b19 b20
  obtain ⟨k0, e0⟩ := h0.int
  rw [e0] at a0 b0
  obtain rfl : c0 = Value.int .i64 k0 := a0
  obtain rfl : d0 = Value.int .i64 k0 := b0
  clear e0
  go_enter Tryz.func26, Tryz.ntmps26
  go_wp2_with fail
  obtain ⟨W1, hW1⟩ : ∃ W1, ((w.alloc (Obj.cells #[Value.int .i64 k0, c1, c2, c3, c4, c5, c6, c7, c8, c9, c10, c11, c12, c13, c14, c15, c16, c17, c18, c19, c20] 48)).alloc (Obj.cells #[Value.int .i64 k0, d1, d2, d3, d4, d5, d6, d7, d8, d9, d10, d11, d12, d13, d14, d15, d16, d17, d18, d19, d20] 48)) = W1 := ⟨_, rfl⟩
  have ba : Below w.heap.size w W1 := by rw [← hW1]; exact (below_alloc _ _).alloc (by simp) _
  have hB0 : W1.heap[w.heap.size]? = some (Obj.cells #[Value.int .i64 k0, c1, c2, c3, c4, c5, c6, c7, c8, c9, c10, c11, c12, c13, c14, c15, c16, c17, c18, c19, c20] 48) := by
    rw [← hW1, Below.heap_alloc _ _ _ (by simp)]; exact heap_alloc_new w _
  have hB1 : W1.heap[w.heap.size + 1]? = some (Obj.cells #[Value.int .i64 k0, d1, d2, d3, d4, d5, d6, d7, d8, d9, d10, d11, d12, d13, d14, d15, d16, d17, d18, d19, d20] 48) := by
    rw [← hW1]; exact heap_alloc2_new w _ _
  rw [hW1]
  clear hW1
  refine (h1 W1 (c1) (c2) (c3) (c4) (c5) (d1) (d2) (d3) (d4) (d5) (At.below ba _ a1) (At.below ba _ a2) (At.below ba _ a3) (At.below ba _ a4) (At.below ba _ a5) (At.below ba _ b1) (At.below ba _ b2) (At.below ba _ b3) (At.below ba _ b4) (At.below ba _ b5)).mono ?_
  rintro e w1 ⟨rfl, hb1⟩
  have bb1 := below_trans ba hb1
  have hB0 := (hb1.block _ (lt_of hB0)).trans hB0
  have hB1 := (hb1.block _ (lt_of hB1)).trans hB1
  have q6' : w1.cell? ⟨w.heap.size, 6, none⟩ = some (c6) := by rw [cell_of hB0]; rfl
  have r6' : w1.cell? ⟨w.heap.size + 1, 6, none⟩ = some (d6) := by rw [cell_of hB1]; rfl
  have q7' : w1.cell? ⟨w.heap.size, 7, none⟩ = some (c7) := by rw [cell_of hB0]; rfl
  have r7' : w1.cell? ⟨w.heap.size + 1, 7, none⟩ = some (d7) := by rw [cell_of hB1]; rfl
  have q8' : w1.cell? ⟨w.heap.size, 8, none⟩ = some (c8) := by rw [cell_of hB0]; rfl
  have r8' : w1.cell? ⟨w.heap.size + 1, 8, none⟩ = some (d8) := by rw [cell_of hB1]; rfl
  have q9' : w1.cell? ⟨w.heap.size, 9, none⟩ = some (c9) := by rw [cell_of hB0]; rfl
  have r9' : w1.cell? ⟨w.heap.size + 1, 9, none⟩ = some (d9) := by rw [cell_of hB1]; rfl
  have HB0 := Lib.hid hB0
  have HB1 := Lib.hid hB1
  clear hB0 hB1
  go_wp2_with fail
  clear q6' r6' q7' r7' q8' r8' q9' r9'
  have hB0 := HB0.out
  have hB1 := HB1.out
  clear HB0 HB1
  refine (h6 w1 (c6) (c7) (c8) (c9) (d6) (d7) (d8) (d9) (At.below bb1 _ a6) (At.below bb1 _ a7) (At.below bb1 _ a8) (At.below bb1 _ a9) (At.below bb1 _ b6) (At.below bb1 _ b7) (At.below bb1 _ b8) (At.below bb1 _ b9)).mono ?_
  rintro e w6 ⟨rfl, hb6⟩
  have bb6 := below_trans bb1 hb6
  have hB0 := (hb6.block _ (lt_of hB0)).trans hB0
  have hB1 := (hb6.block _ (lt_of hB1)).trans hB1
  have q10' : w6.cell? ⟨w.heap.size, 10, none⟩ = some (c10) := by rw [cell_of hB0]; rfl
  have r10' : w6.cell? ⟨w.heap.size + 1, 10, none⟩ = some (d10) := by rw [cell_of hB1]; rfl
  have q11' : w6.cell? ⟨w.heap.size, 11, none⟩ = some (c11) := by rw [cell_of hB0]; rfl
  have r11' : w6.cell? ⟨w.heap.size + 1, 11, none⟩ = some (d11) := by rw [cell_of hB1]; rfl
  have q12' : w6.cell? ⟨w.heap.size, 12, none⟩ = some (c12) := by rw [cell_of hB0]; rfl
  have r12' : w6.cell? ⟨w.heap.size + 1, 12, none⟩ = some (d12) := by rw [cell_of hB1]; rfl
  have q13' : w6.cell? ⟨w.heap.size, 13, none⟩ = some (c13) := by rw [cell_of hB0]; rfl
  have r13' : w6.cell? ⟨w.heap.size + 1, 13, none⟩ = some (d13) := by rw [cell_of hB1]; rfl
  have q14' : w6.cell? ⟨w.heap.size, 14, none⟩ = some (c14) := by rw [cell_of hB0]; rfl
  have r14' : w6.cell? ⟨w.heap.size + 1, 14, none⟩ = some (d14) := by rw [cell_of hB1]; rfl
  have q15' : w6.cell? ⟨w.heap.size, 15, none⟩ = some (c15) := by rw [cell_of hB0]; rfl
  have r15' : w6.cell? ⟨w.heap.size + 1, 15, none⟩ = some (d15) := by rw [cell_of hB1]; rfl
  have q16' : w6.cell? ⟨w.heap.size, 16, none⟩ = some (c16) := by rw [cell_of hB0]; rfl
  have r16' : w6.cell? ⟨w.heap.size + 1, 16, none⟩ = some (d16) := by rw [cell_of hB1]; rfl
  have q17' : w6.cell? ⟨w.heap.size, 17, none⟩ = some (c17) := by rw [cell_of hB0]; rfl
  have r17' : w6.cell? ⟨w.heap.size + 1, 17, none⟩ = some (d17) := by rw [cell_of hB1]; rfl
  have q18' : w6.cell? ⟨w.heap.size, 18, none⟩ = some (c18) := by rw [cell_of hB0]; rfl
  have r18' : w6.cell? ⟨w.heap.size + 1, 18, none⟩ = some (d18) := by rw [cell_of hB1]; rfl
  have q19' : w6.cell? ⟨w.heap.size, 19, none⟩ = some (c19) := by rw [cell_of hB0]; rfl
  have r19' : w6.cell? ⟨w.heap.size + 1, 19, none⟩ = some (d19) := by rw [cell_of hB1]; rfl
  have q20' : w6.cell? ⟨w.heap.size, 20, none⟩ = some (c20) := by rw [cell_of hB0]; rfl
  have r20' : w6.cell? ⟨w.heap.size + 1, 20, none⟩ = some (d20) := by rw [cell_of hB1]; rfl
  have HB0 := Lib.hid hB0
  have HB1 := Lib.hid hB1
  clear hB0 hB1
  go_wp2_with fail
  clear q10' r10' q11' r11' q12' r12' q13' r13' q14' r14' q15' r15' q16' r16' q17' r17' q18' r18' q19' r19' q20' r20'
  have hB0 := HB0.out
  have hB1 := HB1.out
  clear HB0 HB1
  refine (h10 w6 (c10) (c11) (c12) (c13) (c14) (c15) (c16) (c17) (c18) (c19) (c20) (d10) (d11) (d12) (d13) (d14) (d15) (d16) (d17) (d18) (d19) (d20) (At.below bb6 _ a10) (At.below bb6 _ a11) (At.below bb6 _ a12) (At.below bb6 _ a13) (At.below bb6 _ a14) (At.below bb6 _ a15) (At.below bb6 _ a16) (At.below bb6 _ a17) (At.below bb6 _ a18) (At.below bb6 _ a19) (At.below bb6 _ a20) (At.below bb6 _ b10) (At.below bb6 _ b11) (At.below bb6 _ b12) (At.below bb6 _ b13) (At.below bb6 _ b14) (At.below bb6 _ b15) (At.below bb6 _ b16) (At.below bb6 _ b17) (At.below bb6 _ b18) (At.below bb6 _ b19) (At.below bb6 _ b20)).mono ?_
  rintro e w10 ⟨rfl, hb10⟩
  have bb10 := below_trans bb6 hb10
  go_wp2
  go_ret
  exact ⟨rfl, bb10⟩

theorem eqItem {r : Nat → D} (hs : ∀ j g, (row .item)[j]? = some g → Sh (r j) g) : EqRItem r := (eqRItem_of r (hs 0 _ rfl) (eqROp_of _ (hs 1 _ rfl) (hs 2 _ rfl) (eqVarDefs (hs 3 _ rfl)) (eqDirs (hs 4 _ rfl)) (eqSels _ (hs 5 _ rfl))) (eqRFrag_of _ (hs 6 _ rfl) (hs 7 _ rfl) (eqDirs (hs 8 _ rfl)) (eqSels _ (hs 9 _ rfl))) (eqRDef_of _ (hs 10 _ rfl) (hs 11 _ rfl) (hs 12 _ rfl) (hs 13 _ rfl) (eqStrings (hs 14 _ rfl)) (eqFieldDefs (hs 15 _ rfl)) (eqInDefs (hs 16 _ rfl)) (eqEnumDefs (hs 17 _ rfl)) (eqRoots (hs 18 _ rfl)) (hs 19 _ rfl) (eqDirs (hs 20 _ rfl))))

end Da
end Go.Proofs.YtngfhncdmlpjiaaGreat
