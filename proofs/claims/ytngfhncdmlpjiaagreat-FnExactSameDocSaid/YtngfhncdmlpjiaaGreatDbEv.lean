/- What is proved: the laws' tests whether they are the same say yes of one datum in two places: questions and pieces. (Made by tools/mkdbe.py.) -/
import Derived.Test.YtngfhncdmlpjiaaGreatDbE
namespace Go.Proofs.YtngfhncdmlpjiaaGreat
namespace Da
set_option linter.unusedVariables false
set_option linter.unusedSimpArgs false
open Go.RowKit
attribute [local go_sem ↓] Go.wp_at_zero Go.wp_at_succ

/-- The contract of one. -/
def EqRVarDef (r : Nat → D) : Prop := ∀ (w : World) (c0 c1 c2 c3 c4 c5 c6 c7 c8 d0 d1 d2 d3 d4 d5 d6 d7 d8 : Value), At w (r 0) c0 → At w (r 1) c1 → At w (r 2) c2 → At w (r 3) c3 → At w (r 4) c4 → At w (r 5) c5 → At w (r 6) c6 → At w (r 7) c7 → At w (r 8) c8 → At w (r 0) d0 → At w (r 1) d1 → At w (r 2) d2 → At w (r 3) d3 → At w (r 4) d4 → At w (r 5) d5 → At w (r 6) d6 → At w (r 7) d7 → At w (r 8) d8 →
  Calls Tryz.prog 99 #[.agg #[c0, c1, c2, c3, c4, c5, c6, c7, c8], .agg #[d0, d1, d2, d3, d4, d5, d6, d7, d8]] w fun e w' => e = .returned (.bool true) ∧ Below w.heap.size w w'
set_option maxHeartbeats 4000000 in
theorem eqRVarDef_of (r : Nat → D) (h0 : Sh (r 0) .str) (h1 : EqRType fun j => r (j + 1)) (h3 : Sh (r 3) .bool) (h4 : EqRValue fun j => r (j + 4)) (h8 : EqL 72 (r 8)) : EqRVarDef r := by
  intro w c0 c1 c2 c3 c4 c5 c6 c7 c8 d0 d1 d2 d3 d4 d5 d6 d7 d8 a0 a1 a2 a3 a4 a5 a6 a7 a8 b0 b1 b2 b3 b4 b5 b6 b7 b8
  obtain ⟨u0, e0⟩ := h0.str
  rw [e0] at a0 b0
  obtain ⟨rfl, -⟩ := a0
  obtain ⟨rfl, -⟩ := b0
  clear e0
  obtain ⟨q3, e3⟩ := h3.bool
  rw [e3] at a3 b3
  obtain rfl : c3 = Value.bool q3 := a3
  obtain rfl : d3 = Value.bool q3 := b3
  clear e3
  go_enter Tryz.func99, Tryz.ntmps99
  go_wp2_with fail
  obtain ⟨W1, hW1⟩ : ∃ W1, ((w.alloc (Obj.cells #[Value.string u0, c1, c2, Value.bool q3, c4, c5, c6, c7, c8] 79)).alloc (Obj.cells #[Value.string u0, d1, d2, Value.bool q3, d4, d5, d6, d7, d8] 79)) = W1 := ⟨_, rfl⟩
  have ba : Below w.heap.size w W1 := by rw [← hW1]; exact (below_alloc _ _).alloc (by simp) _
  have hB0 : W1.heap[w.heap.size]? = some (Obj.cells #[Value.string u0, c1, c2, Value.bool q3, c4, c5, c6, c7, c8] 79) := by
    rw [← hW1, Below.heap_alloc _ _ _ (by simp)]; exact heap_alloc_new w _
  have hB1 : W1.heap[w.heap.size + 1]? = some (Obj.cells #[Value.string u0, d1, d2, Value.bool q3, d4, d5, d6, d7, d8] 79) := by
    rw [← hW1]; exact heap_alloc2_new w _ _
  rw [hW1]
  clear hW1
  refine (h1 W1 (c1) (c2) (d1) (d2) (At.below ba _ a1) (At.below ba _ a2) (At.below ba _ b1) (At.below ba _ b2)).mono ?_
  rintro e w1 ⟨rfl, hb1⟩
  have bb1 := below_trans ba hb1
  have hB0 := (hb1.block _ (lt_of hB0)).trans hB0
  have hB1 := (hb1.block _ (lt_of hB1)).trans hB1
  have q3' : w1.cell? ⟨w.heap.size, 3, none⟩ = some (Value.bool q3) := by rw [cell_of hB0]; rfl
  have r3' : w1.cell? ⟨w.heap.size + 1, 3, none⟩ = some (Value.bool q3) := by rw [cell_of hB1]; rfl
  have q4' : w1.cell? ⟨w.heap.size, 4, none⟩ = some (c4) := by rw [cell_of hB0]; rfl
  have r4' : w1.cell? ⟨w.heap.size + 1, 4, none⟩ = some (d4) := by rw [cell_of hB1]; rfl
  have q5' : w1.cell? ⟨w.heap.size, 5, none⟩ = some (c5) := by rw [cell_of hB0]; rfl
  have r5' : w1.cell? ⟨w.heap.size + 1, 5, none⟩ = some (d5) := by rw [cell_of hB1]; rfl
  have q6' : w1.cell? ⟨w.heap.size, 6, none⟩ = some (c6) := by rw [cell_of hB0]; rfl
  have r6' : w1.cell? ⟨w.heap.size + 1, 6, none⟩ = some (d6) := by rw [cell_of hB1]; rfl
  have q7' : w1.cell? ⟨w.heap.size, 7, none⟩ = some (c7) := by rw [cell_of hB0]; rfl
  have r7' : w1.cell? ⟨w.heap.size + 1, 7, none⟩ = some (d7) := by rw [cell_of hB1]; rfl
  have HB0 := Lib.hid hB0
  have HB1 := Lib.hid hB1
  clear hB0 hB1
  go_wp2_with fail
  clear q3' r3' q4' r4' q5' r5' q6' r6' q7' r7'
  have hB0 := HB0.out
  have hB1 := HB1.out
  clear HB0 HB1
  refine (h4 w1 (c4) (c5) (c6) (c7) (d4) (d5) (d6) (d7) (At.below bb1 _ a4) (At.below bb1 _ a5) (At.below bb1 _ a6) (At.below bb1 _ a7) (At.below bb1 _ b4) (At.below bb1 _ b5) (At.below bb1 _ b6) (At.below bb1 _ b7)).mono ?_
  rintro e w4 ⟨rfl, hb4⟩
  have bb4 := below_trans bb1 hb4
  have hB0 := (hb4.block _ (lt_of hB0)).trans hB0
  have hB1 := (hb4.block _ (lt_of hB1)).trans hB1
  have q8' : w4.cell? ⟨w.heap.size, 8, none⟩ = some (c8) := by rw [cell_of hB0]; rfl
  have r8' : w4.cell? ⟨w.heap.size + 1, 8, none⟩ = some (d8) := by rw [cell_of hB1]; rfl
  have HB0 := Lib.hid hB0
  have HB1 := Lib.hid hB1
  clear hB0 hB1
  go_wp2_with fail
  clear q8' r8'
  have hB0 := HB0.out
  have hB1 := HB1.out
  clear HB0 HB1
  refine (h8 w4 c8 d8 (At.below bb4 _ a8) (At.below bb4 _ b8)).mono ?_
  rintro e w8 ⟨rfl, hb8⟩
  have bb8 := below_trans bb4 hb8
  go_wp2
  go_ret
  exact ⟨rfl, bb8⟩

theorem eqVarDef {r : Nat → D} (hs : ∀ j g, (row .vardef)[j]? = some g → Sh (r j) g) : EqRVarDef r := (eqRVarDef_of r (hs 0 _ rfl) (eqRType_of _ (hs 1 _ rfl) (hs 2 _ rfl)) (hs 3 _ rfl) (eqRValue_of _ (hs 4 _ rfl) (hs 5 _ rfl) (eqValues _ (hs 6 _ rfl)) (eqStrings (hs 7 _ rfl))) (eqDirs (hs 8 _ rfl)))

set_option maxHeartbeats 4000000 in
theorem eqLsVarDef (n : Nat) (it : Nat → Nat → D) (hit : ∀ i, i < n → EqRVarDef (it i)) : EqL 71 (.list 9 n it) := by
  intro w c c' h h'
  have HI := Lib.hid h
  have HI' := Lib.hid h'
  obtain ⟨A, cap, rfl, hm⟩ := h.slice
  obtain ⟨A', cap', rfl, -⟩ := h'.slice
  clear h h'
  unfold maxLen at hm
  go_enter Tryz.func71, Tryz.ntmps71
  go_wp2
  go_loopw [5] (fun i wr => ∃ k : Nat, k ≤ n ∧ i = .int .i64 k ∧ Below w.heap.size w wr) (fun i _ => n - (intOf i).toNat)
  case atStart => exact ⟨0, Nat.zero_le _, rfl, Below.refl _ _⟩
  case round =>
    obtain ⟨k, hk, rfl, hbel⟩ := hrel
    by_cases hlt : k < n
    · have hk0 : (0 : Int) ≤ (k : Int) := by omega
      have hk1 : (k : Int) < (n : Int) := by omega
      obtain ⟨b, o, e2, hf⟩ := (At.below hbel _ HI.out).nth hlt
      subst e2
      obtain ⟨b', o', e2, hf'⟩ := (At.below hbel _ HI'.out).nth hlt
      subst e2
      obtain ⟨c0, f0, a0⟩ := hf 0 (by omega)
      obtain ⟨d0, g0, b0'⟩ := hf' 0 (by omega)
      obtain ⟨c1, f1, a1⟩ := hf 1 (by omega)
      obtain ⟨d1, g1, b1'⟩ := hf' 1 (by omega)
      obtain ⟨c2, f2, a2⟩ := hf 2 (by omega)
      obtain ⟨d2, g2, b2'⟩ := hf' 2 (by omega)
      obtain ⟨c3, f3, a3⟩ := hf 3 (by omega)
      obtain ⟨d3, g3, b3'⟩ := hf' 3 (by omega)
      obtain ⟨c4, f4, a4⟩ := hf 4 (by omega)
      obtain ⟨d4, g4, b4'⟩ := hf' 4 (by omega)
      obtain ⟨c5, f5, a5⟩ := hf 5 (by omega)
      obtain ⟨d5, g5, b5'⟩ := hf' 5 (by omega)
      obtain ⟨c6, f6, a6⟩ := hf 6 (by omega)
      obtain ⟨d6, g6, b6'⟩ := hf' 6 (by omega)
      obtain ⟨c7, f7, a7⟩ := hf 7 (by omega)
      obtain ⟨d7, g7, b7'⟩ := hf' 7 (by omega)
      obtain ⟨c8, f8, a8⟩ := hf 8 (by omega)
      obtain ⟨d8, g8, b8'⟩ := hf' 8 (by omega)
      clear hf hf'
      rw [Nat.add_zero] at f0 g0
      have cd : Calls Tryz.prog 99 #[.agg #[c0, c1, c2, c3, c4, c5, c6, c7, c8], .agg #[d0, d1, d2, d3, d4, d5, d6, d7, d8]] wr.drew fun e w' => e = .returned (.bool true) ∧ Below wr.heap.size wr w' :=
        (hit k hlt wr.drew c0 c1 c2 c3 c4 c5 c6 c7 c8 d0 d1 d2 d3 d4 d5 d6 d7 d8 (At.below (below_drew _) _ a0) (At.below (below_drew _) _ a1) (At.below (below_drew _) _ a2) (At.below (below_drew _) _ a3) (At.below (below_drew _) _ a4) (At.below (below_drew _) _ a5) (At.below (below_drew _) _ a6) (At.below (below_drew _) _ a7) (At.below (below_drew _) _ a8) (At.below (below_drew _) _ b0') (At.below (below_drew _) _ b1') (At.below (below_drew _) _ b2') (At.below (below_drew _) _ b3') (At.below (below_drew _) _ b4') (At.below (below_drew _) _ b5') (At.below (below_drew _) _ b6') (At.below (below_drew _) _ b7') (At.below (below_drew _) _ b8')).mono fun e w' ⟨he, hb⟩ => ⟨he, below_trans (below_drew wr) hb⟩
      clear a0 b0' a1 b1' a2 b2' a3 b3' a4 b4' a5 b5' a6 b6' a7 b7' a8 b8'
      go_wp2
      go_region_with (go_at_call 99; refine cd.mono ?_; rintro e w1 ⟨rfl, hb1⟩)
      all_goals go_wp2
      all_goals go_roundw
      case' rel => exact ⟨k + 1, by omega, by go_num, below_trans hbel hb1⟩
      case' measure => simp [intOf]; omega
      case' rel => exact ⟨k + 1, by omega, by go_num, below_trans hbel hb1⟩
      case' measure => simp [intOf]; omega
    · go_wp2
      go_ret
      exact ⟨rfl, hbel⟩

theorem eqVarDefs {d : D} (h : Sh d (.lst .vardef)) : EqL 71 d := by
  obtain ⟨n, it, rfl, hs⟩ := h.lst
  exact eqLsVarDef n it fun i hi => (eqRVarDef_of (it i) (hs i hi 0 _ rfl) (eqRType_of _ (hs i hi 1 _ rfl) (hs i hi 2 _ rfl)) (hs i hi 3 _ rfl) (eqRValue_of _ (hs i hi 4 _ rfl) (hs i hi 5 _ rfl) (eqValues _ (hs i hi 6 _ rfl)) (eqStrings (hs i hi 7 _ rfl))) (eqDirs (hs i hi 8 _ rfl)))

/-- The contract of one. -/
def EqROp (r : Nat → D) : Prop := ∀ (w : World) (c0 c1 c2 c3 c4 d0 d1 d2 d3 d4 : Value), At w (r 0) c0 → At w (r 1) c1 → At w (r 2) c2 → At w (r 3) c3 → At w (r 4) c4 → At w (r 0) d0 → At w (r 1) d1 → At w (r 2) d2 → At w (r 3) d3 → At w (r 4) d4 →
  Calls Tryz.prog 38 #[.agg #[c0, c1, c2, c3, c4], .agg #[d0, d1, d2, d3, d4]] w fun e w' => e = .returned (.bool true) ∧ Below w.heap.size w w'
set_option maxHeartbeats 4000000 in
theorem eqROp_of (r : Nat → D) (h0 : Sh (r 0) .int) (h1 : Sh (r 1) .str) (h2 : EqL 71 (r 2)) (h3 : EqL 72 (r 3)) (h4 : EqL 73 (r 4)) : EqROp r := by
  intro w c0 c1 c2 c3 c4 d0 d1 d2 d3 d4 a0 a1 a2 a3 a4 b0 b1 b2 b3 b4
  obtain ⟨k0, e0⟩ := h0.int
  rw [e0] at a0 b0
  obtain rfl : c0 = Value.int .i64 k0 := a0
  obtain rfl : d0 = Value.int .i64 k0 := b0
  clear e0
  obtain ⟨u1, e1⟩ := h1.str
  rw [e1] at a1 b1
  obtain ⟨rfl, -⟩ := a1
  obtain ⟨rfl, -⟩ := b1
  clear e1
  go_enter Tryz.func38, Tryz.ntmps38
  go_wp2_with fail
  obtain ⟨W1, hW1⟩ : ∃ W1, ((w.alloc (Obj.cells #[Value.int .i64 k0, Value.string u1, c2, c3, c4] 37)).alloc (Obj.cells #[Value.int .i64 k0, Value.string u1, d2, d3, d4] 37)) = W1 := ⟨_, rfl⟩
  have ba : Below w.heap.size w W1 := by rw [← hW1]; exact (below_alloc _ _).alloc (by simp) _
  have hB0 : W1.heap[w.heap.size]? = some (Obj.cells #[Value.int .i64 k0, Value.string u1, c2, c3, c4] 37) := by
    rw [← hW1, Below.heap_alloc _ _ _ (by simp)]; exact heap_alloc_new w _
  have hB1 : W1.heap[w.heap.size + 1]? = some (Obj.cells #[Value.int .i64 k0, Value.string u1, d2, d3, d4] 37) := by
    rw [← hW1]; exact heap_alloc2_new w _ _
  rw [hW1]
  clear hW1
  refine (h2 W1 c2 d2 (At.below ba _ a2) (At.below ba _ b2)).mono ?_
  rintro e w2 ⟨rfl, hb2⟩
  have bb2 := below_trans ba hb2
  have hB0 := (hb2.block _ (lt_of hB0)).trans hB0
  have hB1 := (hb2.block _ (lt_of hB1)).trans hB1
  have q3' : w2.cell? ⟨w.heap.size, 3, none⟩ = some (c3) := by rw [cell_of hB0]; rfl
  have r3' : w2.cell? ⟨w.heap.size + 1, 3, none⟩ = some (d3) := by rw [cell_of hB1]; rfl
  have HB0 := Lib.hid hB0
  have HB1 := Lib.hid hB1
  clear hB0 hB1
  go_wp2_with fail
  clear q3' r3'
  have hB0 := HB0.out
  have hB1 := HB1.out
  clear HB0 HB1
  refine (h3 w2 c3 d3 (At.below bb2 _ a3) (At.below bb2 _ b3)).mono ?_
  rintro e w3 ⟨rfl, hb3⟩
  have bb3 := below_trans bb2 hb3
  have hB0 := (hb3.block _ (lt_of hB0)).trans hB0
  have hB1 := (hb3.block _ (lt_of hB1)).trans hB1
  have q4' : w3.cell? ⟨w.heap.size, 4, none⟩ = some (c4) := by rw [cell_of hB0]; rfl
  have r4' : w3.cell? ⟨w.heap.size + 1, 4, none⟩ = some (d4) := by rw [cell_of hB1]; rfl
  have HB0 := Lib.hid hB0
  have HB1 := Lib.hid hB1
  clear hB0 hB1
  go_wp2_with fail
  clear q4' r4'
  have hB0 := HB0.out
  have hB1 := HB1.out
  clear HB0 HB1
  refine (h4 w3 c4 d4 (At.below bb3 _ a4) (At.below bb3 _ b4)).mono ?_
  rintro e w4 ⟨rfl, hb4⟩
  have bb4 := below_trans bb3 hb4
  go_wp2
  go_ret
  exact ⟨rfl, bb4⟩

theorem eqOp {r : Nat → D} (hs : ∀ j g, (row .op)[j]? = some g → Sh (r j) g) : EqROp r := (eqROp_of r (hs 0 _ rfl) (hs 1 _ rfl) (eqVarDefs (hs 2 _ rfl)) (eqDirs (hs 3 _ rfl)) (eqSels _ (hs 4 _ rfl)))

/-- The contract of one. -/
def EqRFrag (r : Nat → D) : Prop := ∀ (w : World) (c0 c1 c2 c3 d0 d1 d2 d3 : Value), At w (r 0) c0 → At w (r 1) c1 → At w (r 2) c2 → At w (r 3) c3 → At w (r 0) d0 → At w (r 1) d1 → At w (r 2) d2 → At w (r 3) d3 →
  Calls Tryz.prog 39 #[.agg #[c0, c1, c2, c3], .agg #[d0, d1, d2, d3]] w fun e w' => e = .returned (.bool true) ∧ Below w.heap.size w w'
set_option maxHeartbeats 4000000 in
theorem eqRFrag_of (r : Nat → D) (h0 : Sh (r 0) .str) (h1 : Sh (r 1) .str) (h2 : EqL 72 (r 2)) (h3 : EqL 73 (r 3)) : EqRFrag r := by
  intro w c0 c1 c2 c3 d0 d1 d2 d3 a0 a1 a2 a3 b0 b1 b2 b3
  obtain ⟨u0, e0⟩ := h0.str
  rw [e0] at a0 b0
  obtain ⟨rfl, -⟩ := a0
  obtain ⟨rfl, -⟩ := b0
  clear e0
  obtain ⟨u1, e1⟩ := h1.str
  rw [e1] at a1 b1
  obtain ⟨rfl, -⟩ := a1
  obtain ⟨rfl, -⟩ := b1
  clear e1
  go_enter Tryz.func39, Tryz.ntmps39
  go_wp2_with fail
  obtain ⟨W1, hW1⟩ : ∃ W1, ((w.alloc (Obj.cells #[Value.string u0, Value.string u1, c2, c3] 39)).alloc (Obj.cells #[Value.string u0, Value.string u1, d2, d3] 39)) = W1 := ⟨_, rfl⟩
  have ba : Below w.heap.size w W1 := by rw [← hW1]; exact (below_alloc _ _).alloc (by simp) _
  have hB0 : W1.heap[w.heap.size]? = some (Obj.cells #[Value.string u0, Value.string u1, c2, c3] 39) := by
    rw [← hW1, Below.heap_alloc _ _ _ (by simp)]; exact heap_alloc_new w _
  have hB1 : W1.heap[w.heap.size + 1]? = some (Obj.cells #[Value.string u0, Value.string u1, d2, d3] 39) := by
    rw [← hW1]; exact heap_alloc2_new w _ _
  rw [hW1]
  clear hW1
  refine (h2 W1 c2 d2 (At.below ba _ a2) (At.below ba _ b2)).mono ?_
  rintro e w2 ⟨rfl, hb2⟩
  have bb2 := below_trans ba hb2
  have hB0 := (hb2.block _ (lt_of hB0)).trans hB0
  have hB1 := (hb2.block _ (lt_of hB1)).trans hB1
  have q3' : w2.cell? ⟨w.heap.size, 3, none⟩ = some (c3) := by rw [cell_of hB0]; rfl
  have r3' : w2.cell? ⟨w.heap.size + 1, 3, none⟩ = some (d3) := by rw [cell_of hB1]; rfl
  have HB0 := Lib.hid hB0
  have HB1 := Lib.hid hB1
  clear hB0 hB1
  go_wp2_with fail
  clear q3' r3'
  have hB0 := HB0.out
  have hB1 := HB1.out
  clear HB0 HB1
  refine (h3 w2 c3 d3 (At.below bb2 _ a3) (At.below bb2 _ b3)).mono ?_
  rintro e w3 ⟨rfl, hb3⟩
  have bb3 := below_trans bb2 hb3
  go_wp2
  go_ret
  exact ⟨rfl, bb3⟩

theorem eqFrag {r : Nat → D} (hs : ∀ j g, (row .frag)[j]? = some g → Sh (r j) g) : EqRFrag r := (eqRFrag_of r (hs 0 _ rfl) (hs 1 _ rfl) (eqDirs (hs 2 _ rfl)) (eqSels _ (hs 3 _ rfl)))

end Da
end Go.Proofs.YtngfhncdmlpjiaaGreat
