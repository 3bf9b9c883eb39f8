/- What is proved: the laws' tests whether they are the same say yes of one datum in two places: what is handed in, fields, values and roots. (Made by tools/mkdbe.py.) -/
import Derived.Test.YtngfhncdmlpjiaaGreatDbE
namespace Go.Proofs.YtngfhncdmlpjiaaGreat
namespace Da
set_option linter.unusedVariables false
set_option linter.unusedSimpArgs false
open Go.RowKit
attribute [local go_sem ↓] Go.wp_at_zero Go.wp_at_succ

/-- The contract of one. -/
def EqRInDef (r : Nat → D) : Prop := ∀ (w : World) (c0 c1 c2 c3 c4 c5 c6 c7 c8 c9 d0 d1 d2 d3 d4 d5 d6 d7 d8 d9 : Value), At w (r 0) c0 → At w (r 1) c1 → At w (r 2) c2 → At w (r 3) c3 → At w (r 4) c4 → At w (r 5) c5 → At w (r 6) c6 → At w (r 7) c7 → At w (r 8) c8 → At w (r 9) c9 → At w (r 0) d0 → At w (r 1) d1 → At w (r 2) d2 → At w (r 3) d3 → At w (r 4) d4 → At w (r 5) d5 → At w (r 6) d6 → At w (r 7) d7 → At w (r 8) d8 → At w (r 9) d9 →
  Calls Tryz.prog 103 #[.agg #[c0, c1, c2, c3, c4, c5, c6, c7, c8, c9], .agg #[d0, d1, d2, d3, d4, d5, d6, d7, d8, d9]] w fun e w' => e = .returned (.bool true) ∧ Below w.heap.size w w'
set_option maxHeartbeats 4000000 in
theorem eqRInDef_of (r : Nat → D) (h0 : Sh (r 0) .str) (h1 : Sh (r 1) .str) (h2 : EqRType fun j => r (j + 2)) (h4 : Sh (r 4) .bool) (h5 : EqRValue fun j => r (j + 5)) (h9 : EqL 72 (r 9)) : EqRInDef r := by
  intro w c0 c1 c2 c3 c4 c5 c6 c7 c8 c9 d0 d1 d2 d3 d4 d5 d6 d7 d8 d9 a0 a1 a2 a3 a4 a5 a6 a7 a8 a9 b0 b1 b2 b3 b4 b5 b6 b7 b8 b9
  obtain ⟨u0, e0⟩ := h0.str
  rw [e0] at a0 b0
  obtain ⟨rfl, -⟩ := a0
  obtain ⟨rfl, -⟩ := b0
  clear e0
  obtain ⟨u1, e1⟩ := h1.str
  rw [e1] at a1 b1
  obtain ⟨rfl, -⟩ := a1
  obtain ⟨rfl, -⟩ := b1
  clear e1
  obtain ⟨q4, e4⟩ := h4.bool
  rw [e4] at a4 b4
  obtain rfl : c4 = Value.bool q4 := a4
  obtain rfl : d4 = Value.bool q4 := b4
  clear e4
  go_enter Tryz.func103, Tryz.ntmps103
  go_wp2_with fail
  obtain ⟨W1, hW1⟩ : ∃ W1, ((w.alloc (Obj.cells #[Value.string u0, Value.string u1, c2, c3, Value.bool q4, c5, c6, c7, c8, c9] 102)).alloc (Obj.cells #[Value.string u0, Value.string u1, d2, d3, Value.bool q4, d5, d6, d7, d8, d9] 102)) = W1 := ⟨_, rfl⟩
  have ba : Below w.heap.size w W1 := by rw [← hW1]; exact (below_alloc _ _).alloc (by simp) _
  have hB0 : W1.heap[w.heap.size]? = some (Obj.cells #[Value.string u0, Value.string u1, c2, c3, Value.bool q4, c5, c6, c7, c8, c9] 102) := by
    rw [← hW1, Below.heap_alloc _ _ _ (by simp)]; exact heap_alloc_new w _
  have hB1 : W1.heap[w.heap.size + 1]? = some (Obj.cells #[Value.string u0, Value.string u1, d2, d3, Value.bool q4, d5, d6, d7, d8, d9] 102) := by
    rw [← hW1]; exact heap_alloc2_new w _ _
  rw [hW1]
  clear hW1
  refine (h2 W1 (c2) (c3) (d2) (d3) (At.below ba _ a2) (At.below ba _ a3) (At.below ba _ b2) (At.below ba _ b3)).mono ?_
  rintro e w2 ⟨rfl, hb2⟩
  have bb2 := below_trans ba hb2
  have hB0 := (hb2.block _ (lt_of hB0)).trans hB0
  have hB1 := (hb2.block _ (lt_of hB1)).trans hB1
  have q4' : w2.cell? ⟨w.heap.size, 4, none⟩ = some (Value.bool q4) := by rw [cell_of hB0]; rfl
  have r4' : w2.cell? ⟨w.heap.size + 1, 4, none⟩ = some (Value.bool q4) := by rw [cell_of hB1]; rfl
  have q5' : w2.cell? ⟨w.heap.size, 5, none⟩ = some (c5) := by rw [cell_of hB0]; rfl
  have r5' : w2.cell? ⟨w.heap.size + 1, 5, none⟩ = some (d5) := by rw [cell_of hB1]; rfl
  have q6' : w2.cell? ⟨w.heap.size, 6, none⟩ = some (c6) := by rw [cell_of hB0]; rfl
  have r6' : w2.cell? ⟨w.heap.size + 1, 6, none⟩ = some (d6) := by rw [cell_of hB1]; rfl
  have q7' : w2.cell? ⟨w.heap.size, 7, none⟩ = some (c7) := by rw [cell_of hB0]; rfl
  have r7' : w2.cell? ⟨w.heap.size + 1, 7, none⟩ = some (d7) := by rw [cell_of hB1]; rfl
  have q8' : w2.cell? ⟨w.heap.size, 8, none⟩ = some (c8) := by rw [cell_of hB0]; rfl
  have r8' : w2.cell? ⟨w.heap.size + 1, 8, none⟩ = some (d8) := by rw [cell_of hB1]; rfl
  have HB0 := Lib.hid hB0
  have HB1 := Lib.hid hB1
  clear hB0 hB1
  go_wp2_with fail
  clear q4' r4' q5' r5' q6' r6' q7' r7' q8' r8'
  have hB0 := HB0.out
  have hB1 := HB1.out
  clear HB0 HB1
  refine (h5 w2 (c5) (c6) (c7) (c8) (d5) (d6) (d7) (d8) (At.below bb2 _ a5) (At.below bb2 _ a6) (At.below bb2 _ a7) (At.below bb2 _ a8) (At.below bb2 _ b5) (At.below bb2 _ b6) (At.below bb2 _ b7) (At.below bb2 _ b8)).mono ?_
  rintro e w5 ⟨rfl, hb5⟩
  have bb5 := below_trans bb2 hb5
  have hB0 := (hb5.block _ (lt_of hB0)).trans hB0
  have hB1 := (hb5.block _ (lt_of hB1)).trans hB1
  have q9' : w5.cell? ⟨w.heap.size, 9, none⟩ = some (c9) := by rw [cell_of hB0]; rfl
  have r9' : w5.cell? ⟨w.heap.size + 1, 9, none⟩ = some (d9) := by rw [cell_of hB1]; rfl
  have HB0 := Lib.hid hB0
  have HB1 := Lib.hid hB1
  clear hB0 hB1
  go_wp2_with fail
  clear q9' r9'
  have hB0 := HB0.out
  have hB1 := HB1.out
  clear HB0 HB1
  refine (h9 w5 c9 d9 (At.below bb5 _ a9) (At.below bb5 _ b9)).mono ?_
  rintro e w9 ⟨rfl, hb9⟩
  have bb9 := below_trans bb5 hb9
  go_wp2
  go_ret
  exact ⟨rfl, bb9⟩

theorem eqInDef {r : Nat → D} (hs : ∀ j g, (row .indef)[j]? = some g → Sh (r j) g) : EqRInDef r := (eqRInDef_of r (hs 0 _ rfl) (hs 1 _ rfl) (eqRType_of _ (hs 2 _ rfl) (hs 3 _ rfl)) (hs 4 _ rfl) (eqRValue_of _ (hs 5 _ rfl) (hs 6 _ rfl) (eqValues _ (hs 7 _ rfl)) (eqStrings (hs 8 _ rfl))) (eqDirs (hs 9 _ rfl)))

set_option maxHeartbeats 4000000 in
theorem eqLsInDef (n : Nat) (it : Nat → Nat → D) (hit : ∀ i, i < n → EqRInDef (it i)) : EqL 76 (.list 10 n it) := by
  intro w c c' h h'
  have HI := Lib.hid h
  have HI' := Lib.hid h'
  obtain ⟨A, cap, rfl, hm⟩ := h.slice
  obtain ⟨A', cap', rfl, -⟩ := h'.slice
  clear h h'
  unfold maxLen at hm
  go_enter Tryz.func76, Tryz.ntmps76
  go_wp2
  go_loopw [5] (fun i wr => ∃ k : Nat, k ≤ n ∧ i = .int .i64 k ∧ Below w.heap.size w wr) (fun i _ => n - (intOf i).toNat)
  case atStart => exact ⟨0, Nat.zero_le _, rfl, Below.refl _ _⟩
  case round =>
    obtain ⟨k, hk, rfl, hbel⟩ := hrel
    by_cases hlt : k < n
    · have hk0 : (0 : Int) ≤ (k : Int) := by omega
      have hk1 : (k : Int) < (n : Int) := by omega
      obtain ⟨b, o, e2, hf⟩ := (At.below hbel _ HI.out).nth hlt
      subst e2
      obtain ⟨b', o', e2, hf'⟩ := (At.below hbel _ HI'.out).nth hlt
      subst e2
      obtain ⟨c0, f0, a0⟩ := hf 0 (by omega)
      obtain ⟨d0, g0, b0'⟩ := hf' 0 (by omega)
      obtain ⟨c1, f1, a1⟩ := hf 1 (by omega)
      obtain ⟨d1, g1, b1'⟩ := hf' 1 (by omega)
      obtain ⟨c2, f2, a2⟩ := hf 2 (by omega)
      obtain ⟨d2, g2, b2'⟩ := hf' 2 (by omega)
      obtain ⟨c3, f3, a3⟩ := hf 3 (by omega)
      obtain ⟨d3, g3, b3'⟩ := hf' 3 (by omega)
      obtain ⟨c4, f4, a4⟩ := hf 4 (by omega)
      obtain ⟨d4, g4, b4'⟩ := hf' 4 (by omega)
      obtain ⟨c5, f5, a5⟩ := hf 5 (by omega)
      obtain ⟨d5, g5, b5'⟩ := hf' 5 (by omega)
      obtain ⟨c6, f6, a6⟩ := hf 6 (by omega)
      obtain ⟨d6, g6, b6'⟩ := hf' 6 (by omega)
      obtain ⟨c7, f7, a7⟩ := hf 7 (by omega)
      obtain ⟨d7, g7, b7'⟩ := hf' 7 (by omega)
      obtain ⟨c8, f8, a8⟩ := hf 8 (by omega)
      obtain ⟨d8, g8, b8'⟩ := hf' 8 (by omega)
      obtain ⟨c9, f9, a9⟩ := hf 9 (by omega)
      obtain ⟨d9, g9, b9'⟩ := hf' 9 (by omega)
      clear hf hf'
      rw [Nat.add_zero] at f0 g0
      have cd : Calls Tryz.prog 103 #[.agg #[c0, c1, c2, c3, c4, c5, c6, c7, c8, c9], .agg #[d0, d1, d2, d3, d4, d5, d6, d7, d8, d9]] wr.drew fun e w' => e = .returned (.bool true) ∧ Below wr.heap.size wr w' :=
        (hit k hlt wr.drew c0 c1 c2 c3 c4 c5 c6 c7 c8 c9 d0 d1 d2 d3 d4 d5 d6 d7 d8 d9 (At.below (below_drew _) _ a0) (At.below (below_drew _) _ a1) (At.below (below_drew _) _ a2) (At.below (below_drew _) _ a3) (At.below (below_drew _) _ a4) (At.below (below_drew _) _ a5) (At.below (below_drew _) _ a6) (At.below (below_drew _) _ a7) (At.below (below_drew _) _ a8) (At.below (below_drew _) _ a9) (At.below (below_drew _) _ b0') (At.below (below_drew _) _ b1') (At.below (below_drew _) _ b2') (At.below (below_drew _) _ b3') (At.below (below_drew _) _ b4') (At.below (below_drew _) _ b5') (At.below (below_drew _) _ b6') (At.below (below_drew _) _ b7') (At.below (below_drew _) _ b8') (At.below (below_drew _) _ b9')).mono fun e w' ⟨he, hb⟩ => ⟨he, below_trans (below_drew wr) hb⟩
      clear a0 b0' a1 b1' a2 b2' a3 b3' a4 b4' a5 b5' a6 b6' a7 b7' a8 b8' a9 b9'
      go_wp2
      go_region_with (go_at_call 103; refine cd.mono ?_; rintro e w1 ⟨rfl, hb1⟩)
      all_goals go_wp2
      all_goals go_roundw
      case' rel => exact ⟨k + 1, by omega, by go_num, below_trans hbel hb1⟩
      case' measure => simp [intOf]; omega
      case' rel => exact ⟨k + 1, by omega, by go_num, below_trans hbel hb1⟩
      case' measure => simp [intOf]; omega
    · go_wp2
      go_ret
      exact ⟨rfl, hbel⟩

theorem eqInDefs {d : D} (h : Sh d (.lst .indef)) : EqL 76 d := by
  obtain ⟨n, it, rfl, hs⟩ := h.lst
  exact eqLsInDef n it fun i hi => (eqRInDef_of (it i) (hs i hi 0 _ rfl) (hs i hi 1 _ rfl) (eqRType_of _ (hs i hi 2 _ rfl) (hs i hi 3 _ rfl)) (hs i hi 4 _ rfl) (eqRValue_of _ (hs i hi 5 _ rfl) (hs i hi 6 _ rfl) (eqValues _ (hs i hi 7 _ rfl)) (eqStrings (hs i hi 8 _ rfl))) (eqDirs (hs i hi 9 _ rfl)))

/-- The contract of one. -/
def EqRFieldDef (r : Nat → D) : Prop := ∀ (w : World) (c0 c1 c2 c3 c4 c5 d0 d1 d2 d3 d4 d5 : Value), At w (r 0) c0 → At w (r 1) c1 → At w (r 2) c2 → At w (r 3) c3 → At w (r 4) c4 → At w (r 5) c5 → At w (r 0) d0 → At w (r 1) d1 → At w (r 2) d2 → At w (r 3) d3 → At w (r 4) d4 → At w (r 5) d5 →
  Calls Tryz.prog 102 #[.agg #[c0, c1, c2, c3, c4, c5], .agg #[d0, d1, d2, d3, d4, d5]] w fun e w' => e = .returned (.bool true) ∧ Below w.heap.size w w'
set_option maxHeartbeats 4000000 in
theorem eqRFieldDef_of (r : Nat → D) (h0 : Sh (r 0) .str) (h1 : Sh (r 1) .str) (h2 : EqL 76 (r 2)) (h3 : EqRType fun j => r (j + 3)) (h5 : EqL 72 (r 5)) : EqRFieldDef r := by
  intro w c0 c1 c2 c3 c4 c5 d0 d1 d2 d3 d4 d5 a0 a1 a2 a3 a4 a5 b0 b1 b2 b3 b4 b5
  obtain ⟨u0, e0⟩ := h0.str
  rw [e0] at a0 b0
  obtain ⟨rfl, -⟩ := a0
  obtain ⟨rfl, -⟩ := b0
  clear e0
  obtain ⟨u1, e1⟩ := h1.str
  rw [e1] at a1 b1
  obtain ⟨rfl, -⟩ := a1
  obtain ⟨rfl, -⟩ := b1
  clear e1
  go_enter Tryz.func102, Tryz.ntmps102
  go_wp2_with fail
  obtain ⟨W1, hW1⟩ : ∃ W1, ((w.alloc (Obj.cells #[Value.string u0, Value.string u1, c2, c3, c4, c5] 89)).alloc (Obj.cells #[Value.string u0, Value.string u1, d2, d3, d4, d5] 89)) = W1 := ⟨_, rfl⟩
  have ba : Below w.heap.size w W1 := by rw [← hW1]; exact (below_alloc _ _).alloc (by simp) _
  have hB0 : W1.heap[w.heap.size]? = some (Obj.cells #[Value.string u0, Value.string u1, c2, c3, c4, c5] 89) := by
    rw [← hW1, Below.heap_alloc _ _ _ (by simp)]; exact heap_alloc_new w _
  have hB1 : W1.heap[w.heap.size + 1]? = some (Obj.cells #[Value.string u0, Value.string u1, d2, d3, d4, d5] 89) := by
    rw [← hW1]; exact heap_alloc2_new w _ _
  rw [hW1]
  clear hW1
  refine (h2 W1 c2 d2 (At.below ba _ a2) (At.below ba _ b2)).mono ?_
  rintro e w2 ⟨rfl, hb2⟩
  have bb2 := below_trans ba hb2
  have hB0 := (hb2.block _ (lt_of hB0)).trans hB0
  have hB1 := (hb2.block _ (lt_of hB1)).trans hB1
  have q3' : w2.cell? ⟨w.heap.size, 3, none⟩ = some (c3) := by rw [cell_of hB0]; rfl
  have r3' : w2.cell? ⟨w.heap.size + 1, 3, none⟩ = some (d3) := by rw [cell_of hB1]; rfl
  have q4' : w2.cell? ⟨w.heap.size, 4, none⟩ = some (c4) := by rw [cell_of hB0]; rfl
  have r4' : w2.cell? ⟨w.heap.size + 1, 4, none⟩ = some (d4) := by rw [cell_of hB1]; rfl
  have HB0 := Lib.hid hB0
  have HB1 := Lib.hid hB1
  clear hB0 hB1
  go_wp2_with fail
  clear q3' r3' q4' r4'
  have hB0 := HB0.out
  have hB1 := HB1.out
  clear HB0 HB1
  refine (h3 w2 (c3) (c4) (d3) (d4) (At.below bb2 _ a3) (At.below bb2 _ a4) (At.below bb2 _ b3) (At.below bb2 _ b4)).mono ?_
  rintro e w3 ⟨rfl, hb3⟩
  have bb3 := below_trans bb2 hb3
  have hB0 := (hb3.block _ (lt_of hB0)).trans hB0
  have hB1 := (hb3.block _ (lt_of hB1)).trans hB1
  have q5' : w3.cell? ⟨w.heap.size, 5, none⟩ = some (c5) := by rw [cell_of hB0]; rfl
  have r5' : w3.cell? ⟨w.heap.size + 1, 5, none⟩ = some (d5) := by rw [cell_of hB1]; rfl
  have HB0 := Lib.hid hB0
  have HB1 := Lib.hid hB1
  clear hB0 hB1
  go_wp2_with fail
  clear q5' r5'
  have hB0 := HB0.out
  have hB1 := HB1.out
  clear HB0 HB1
  refine (h5 w3 c5 d5 (At.below bb3 _ a5) (At.below bb3 _ b5)).mono ?_
  rintro e w5 ⟨rfl, hb5⟩
  have bb5 := below_trans bb3 hb5
  go_wp2
  go_ret
  exact ⟨rfl, bb5⟩

theorem eqFieldDef {r : Nat → D} (hs : ∀ j g, (row .fielddef)[j]? = some g → Sh (r j) g) : EqRFieldDef r := (eqRFieldDef_of r (hs 0 _ rfl) (hs 1 _ rfl) (eqInDefs (hs 2 _ rfl)) (eqRType_of _ (hs 3 _ rfl) (hs 4 _ rfl)) (eqDirs (hs 5 _ rfl)))

set_option maxHeartbeats 4000000 in
theorem eqLsFieldDef (n : Nat) (it : Nat → Nat → D) (hit : ∀ i, i < n → EqRFieldDef (it i)) : EqL 75 (.list 6 n it) := by
  intro w c c' h h'
  have HI := Lib.hid h
  have HI' := Lib.hid h'
  obtain ⟨A, cap, rfl, hm⟩ := h.slice
  obtain ⟨A', cap', rfl, -⟩ := h'.slice
  clear h h'
  unfold maxLen at hm
  go_enter Tryz.func75, Tryz.ntmps75
  go_wp2
  go_loopw [5] (fun i wr => ∃ k : Nat, k ≤ n ∧ i = .int .i64 k ∧ Below w.heap.size w wr) (fun i _ => n - (intOf i).toNat)
  case atStart => exact ⟨0, Nat.zero_le _, rfl, Below.refl _ _⟩
  case round =>
    obtain ⟨k, hk, rfl, hbel⟩ := hrel
    by_cases hlt : k < n
    · have hk0 : (0 : Int) ≤ (k : Int) := by omega
      have hk1 : (k : Int) < (n : Int) := by omega
      obtain ⟨b, o, e2, hf⟩ := (At.below hbel _ HI.out).nth hlt
      subst e2
      obtain ⟨b', o', e2, hf'⟩ := (At.below hbel _ HI'.out).nth hlt
      subst e2
      obtain ⟨c0, f0, a0⟩ := hf 0 (by omega)
      obtain ⟨d0, g0, b0'⟩ := hf' 0 (by omega)
      obtain ⟨c1, f1, a1⟩ := hf 1 (by omega)
      obtain ⟨d1, g1, b1'⟩ := hf' 1 (by omega)
      obtain ⟨c2, f2, a2⟩ := hf 2 (by omega)
      obtain ⟨d2, g2, b2'⟩ := hf' 2 (by omega)
      obtain ⟨c3, f3, a3⟩ := hf 3 (by omega)
      obtain ⟨d3, g3, b3'⟩ := hf' 3 (by omega)
      obtain ⟨c4, f4, a4⟩ := hf 4 (by omega)
      obtain ⟨d4, g4, b4'⟩ := hf' 4 (by omega)
      obtain ⟨c5, f5, a5⟩ := hf 5 (by omega)
      obtain ⟨d5, g5, b5'⟩ := hf' 5 (by omega)
      clear hf hf'
      rw [Nat.add_zero] at f0 g0
      have cd : Calls Tryz.prog 102 #[.agg #[c0, c1, c2, c3, c4, c5], .agg #[d0, d1, d2, d3, d4, d5]] wr.drew fun e w' => e = .returned (.bool true) ∧ Below wr.heap.size wr w' :=
        (hit k hlt wr.drew c0 c1 c2 c3 c4 c5 d0 d1 d2 d3 d4 d5 (At.below (below_drew _) _ a0) (At.below (below_drew _) _ a1) (At.below (below_drew _) _ a2) (At.below (below_drew _) _ a3) (At.below (below_drew _) _ a4) (At.below (below_drew _) _ a5) (At.below (below_drew _) _ b0') (At.below (below_drew _) _ b1') (At.below (below_drew _) _ b2') (At.below (below_drew _) _ b3') (At.below (below_drew _) _ b4') (At.below (below_drew _) _ b5')).mono fun e w' ⟨he, hb⟩ => ⟨he, below_trans (below_drew wr) hb⟩
      clear a0 b0' a1 b1' a2 b2' a3 b3' a4 b4' a5 b5'
      go_wp2
      go_region_with (go_at_call 102; refine cd.mono ?_; rintro e w1 ⟨rfl, hb1⟩)
      all_goals go_wp2
      all_goals go_roundw
      case' rel => exact ⟨k + 1, by omega, by go_num, below_trans hbel hb1⟩
      case' measure => simp [intOf]; omega
      case' rel => exact ⟨k + 1, by omega, by go_num, below_trans hbel hb1⟩
      case' measure => simp [intOf]; omega
    · go_wp2
      go_ret
      exact ⟨rfl, hbel⟩

theorem eqFieldDefs {d : D} (h : Sh d (.lst .fielddef)) : EqL 75 d := by
  obtain ⟨n, it, rfl, hs⟩ := h.lst
  exact eqLsFieldDef n it fun i hi => (eqRFieldDef_of (it i) (hs i hi 0 _ rfl) (hs i hi 1 _ rfl) (eqInDefs (hs i hi 2 _ rfl)) (eqRType_of _ (hs i hi 3 _ rfl) (hs i hi 4 _ rfl)) (eqDirs (hs i hi 5 _ rfl)))

/-- The contract of one. -/
def EqREnumDef (r : Nat → D) : Prop := ∀ (w : World) (c0 c1 c2 d0 d1 d2 : Value), At w (r 0) c0 → At w (r 1) c1 → At w (r 2) c2 → At w (r 0) d0 → At w (r 1) d1 → At w (r 2) d2 →
  Calls Tryz.prog 104 #[.agg #[c0, c1, c2], .agg #[d0, d1, d2]] w fun e w' => e = .returned (.bool true) ∧ Below w.heap.size w w'
set_option maxHeartbeats 4000000 in
theorem eqREnumDef_of (r : Nat → D) (h0 : Sh (r 0) .str) (h1 : Sh (r 1) .str) (h2 : EqL 72 (r 2)) : EqREnumDef r := by
  intro w c0 c1 c2 d0 d1 d2 a0 a1 a2 b0 b1 b2
  obtain ⟨u0, e0⟩ := h0.str
  rw [e0] at a0 b0
  obtain ⟨rfl, -⟩ := a0
  obtain ⟨rfl, -⟩ := b0
  clear e0
  obtain ⟨u1, e1⟩ := h1.str
  rw [e1] at a1 b1
  obtain ⟨rfl, -⟩ := a1
  obtain ⟨rfl, -⟩ := b1
  clear e1
  go_enter Tryz.func104, Tryz.ntmps104
  go_wp2_with fail
  obtain ⟨W1, hW1⟩ : ∃ W1, ((w.alloc (Obj.cells #[Value.string u0, Value.string u1, c2] 91)).alloc (Obj.cells #[Value.string u0, Value.string u1, d2] 91)) = W1 := ⟨_, rfl⟩
  have ba : Below w.heap.size w W1 := by rw [← hW1]; exact (below_alloc _ _).alloc (by simp) _
  have hB0 : W1.heap[w.heap.size]? = some (Obj.cells #[Value.string u0, Value.string u1, c2] 91) := by
    rw [← hW1, Below.heap_alloc _ _ _ (by simp)]; exact heap_alloc_new w _
  have hB1 : W1.heap[w.heap.size + 1]? = some (Obj.cells #[Value.string u0, Value.string u1, d2] 91) := by
    rw [← hW1]; exact heap_alloc2_new w _ _
  rw [hW1]
  clear hW1
  refine (h2 W1 c2 d2 (At.below ba _ a2) (At.below ba _ b2)).mono ?_
  rintro e w2 ⟨rfl, hb2⟩
  have bb2 := below_trans ba hb2
  go_wp2
  go_ret
  exact ⟨rfl, bb2⟩

theorem eqEnumDef {r : Nat → D} (hs : ∀ j g, (row .enumdef)[j]? = some g → Sh (r j) g) : EqREnumDef r := (eqREnumDef_of r (hs 0 _ rfl) (hs 1 _ rfl) (eqDirs (hs 2 _ rfl)))

set_option maxHeartbeats 4000000 in
theorem eqLsEnumDef (n : Nat) (it : Nat → Nat → D) (hit : ∀ i, i < n → EqREnumDef (it i)) : EqL 77 (.list 3 n it) := by
  intro w c c' h h'
  have HI := Lib.hid h
  have HI' := Lib.hid h'
  obtain ⟨A, cap, rfl, hm⟩ := h.slice
  obtain ⟨A', cap', rfl, -⟩ := h'.slice
  clear h h'
  unfold maxLen at hm
  go_enter Tryz.func77, Tryz.ntmps77
  go_wp2
  go_loopw [5] (fun i wr => ∃ k : Nat, k ≤ n ∧ i = .int .i64 k ∧ Below w.heap.size w wr) (fun i _ => n - (intOf i).toNat)
  case atStart => exact ⟨0, Nat.zero_le _, rfl, Below.refl _ _⟩
  case round =>
    obtain ⟨k, hk, rfl, hbel⟩ := hrel
    by_cases hlt : k < n
    · have hk0 : (0 : Int) ≤ (k : Int) := by omega
      have hk1 : (k : Int) < (n : Int) := by omega
      obtain ⟨b, o, e2, hf⟩ := (At.below hbel _ HI.out).nth hlt
      subst e2
      obtain ⟨b', o', e2, hf'⟩ := (At.below hbel _ HI'.out).nth hlt
      subst e2
      obtain ⟨c0, f0, a0⟩ := hf 0 (by omega)
      obtain ⟨d0, g0, b0'⟩ := hf' 0 (by omega)
      obtain ⟨c1, f1, a1⟩ := hf 1 (by omega)
      obtain ⟨d1, g1, b1'⟩ := hf' 1 (by omega)
      obtain ⟨c2, f2, a2⟩ := hf 2 (by omega)
      obtain ⟨d2, g2, b2'⟩ := hf' 2 (by omega)
      clear hf hf'
      rw [Nat.add_zero] at f0 g0
      have cd : Calls Tryz.prog 104 #[.agg #[c0, c1, c2], .agg #[d0, d1, d2]] wr.drew fun e w' => e = .returned (.bool true) ∧ Below wr.heap.size wr w' :=
        (hit k hlt wr.drew c0 c1 c2 d0 d1 d2 (At.below (below_drew _) _ a0) (At.below (below_drew _) _ a1) (At.below (below_drew _) _ a2) (At.below (below_drew _) _ b0') (At.below (below_drew _) _ b1') (At.below (below_drew _) _ b2')).mono fun e w' ⟨he, hb⟩ => ⟨he, below_trans (below_drew wr) hb⟩
      clear a0 b0' a1 b1' a2 b2'
      go_wp2
      go_region_with (go_at_call 104; refine cd.mono ?_; rintro e w1 ⟨rfl, hb1⟩)
      all_goals go_wp2
      all_goals go_roundw
      case' rel => exact ⟨k + 1, by omega, by go_num, below_trans hbel hb1⟩
      case' measure => simp [intOf]; omega
      case' rel => exact ⟨k + 1, by omega, by go_num, below_trans hbel hb1⟩
      case' measure => simp [intOf]; omega
    · go_wp2
      go_ret
      exact ⟨rfl, hbel⟩

theorem eqEnumDefs {d : D} (h : Sh d (.lst .enumdef)) : EqL 77 d := by
  obtain ⟨n, it, rfl, hs⟩ := h.lst
  exact eqLsEnumDef n it fun i hi => (eqREnumDef_of (it i) (hs i hi 0 _ rfl) (hs i hi 1 _ rfl) (eqDirs (hs i hi 2 _ rfl)))

/-- The contract of one. -/
def EqRRoot (r : Nat → D) : Prop := ∀ (w : World) (c0 c1 d0 d1 : Value), At w (r 0) c0 → At w (r 1) c1 → At w (r 0) d0 → At w (r 1) d1 →
  Calls Tryz.prog 105 #[.agg #[c0, c1], .agg #[d0, d1]] w fun e w' => e = .returned (.bool true) ∧ Below w.heap.size w w'
set_option maxHeartbeats 4000000 in
theorem eqRRoot_of (r : Nat → D) (h0 : Sh (r 0) .int) (h1 : Sh (r 1) .str) : EqRRoot r := by
  intro w c0 c1 d0 d1 a0 a1 b0 b1
  obtain ⟨k0, e0⟩ := h0.int
  rw [e0] at a0 b0
  obtain rfl : c0 = Value.int .i64 k0 := a0
  obtain rfl : d0 = Value.int .i64 k0 := b0
  clear e0
  obtain ⟨u1, e1⟩ := h1.str
  rw [e1] at a1 b1
  obtain ⟨rfl, -⟩ := a1
  obtain ⟨rfl, -⟩ := b1
  clear e1
  go_enter Tryz.func105, Tryz.ntmps105
  go_wp2
  go_ret
  exact ⟨rfl, (below_alloc _ _).alloc (by simp) _⟩

theorem eqRoot {r : Nat → D} (hs : ∀ j g, (row .root)[j]? = some g → Sh (r j) g) : EqRRoot r := (eqRRoot_of r (hs 0 _ rfl) (hs 1 _ rfl))

set_option maxHeartbeats 4000000 in
theorem eqLsRoot (n : Nat) (it : Nat → Nat → D) (hit : ∀ i, i < n → EqRRoot (it i)) : EqL 78 (.list 2 n it) := by
  intro w c c' h h'
  have HI := Lib.hid h
  have HI' := Lib.hid h'
  obtain ⟨A, cap, rfl, hm⟩ := h.slice
  obtain ⟨A', cap', rfl, -⟩ := h'.slice
  clear h h'
  unfold maxLen at hm
  go_enter Tryz.func78, Tryz.ntmps78
  go_wp2
  go_loopw [5] (fun i wr => ∃ k : Nat, k ≤ n ∧ i = .int .i64 k ∧ Below w.heap.size w wr) (fun i _ => n - (intOf i).toNat)
  case atStart => exact ⟨0, Nat.zero_le _, rfl, Below.refl _ _⟩
  case round =>
    obtain ⟨k, hk, rfl, hbel⟩ := hrel
    by_cases hlt : k < n
    · have hk0 : (0 : Int) ≤ (k : Int) := by omega
      have hk1 : (k : Int) < (n : Int) := by omega
      obtain ⟨b, o, e2, hf⟩ := (At.below hbel _ HI.out).nth hlt
      subst e2
      obtain ⟨b', o', e2, hf'⟩ := (At.below hbel _ HI'.out).nth hlt
      subst e2
      obtain ⟨c0, f0, a0⟩ := hf 0 (by omega)
      obtain ⟨d0, g0, b0'⟩ := hf' 0 (by omega)
      obtain ⟨c1, f1, a1⟩ := hf 1 (by omega)
      obtain ⟨d1, g1, b1'⟩ := hf' 1 (by omega)
      clear hf hf'
      rw [Nat.add_zero] at f0 g0
      have cd : Calls Tryz.prog 105 #[.agg #[c0, c1], .agg #[d0, d1]] wr.drew fun e w' => e = .returned (.bool true) ∧ Below wr.heap.size wr w' :=
        (hit k hlt wr.drew c0 c1 d0 d1 (At.below (below_drew _) _ a0) (At.below (below_drew _) _ a1) (At.below (below_drew _) _ b0') (At.below (below_drew _) _ b1')).mono fun e w' ⟨he, hb⟩ => ⟨he, below_trans (below_drew wr) hb⟩
      clear a0 b0' a1 b1'
      go_wp2
      go_region_with (go_at_call 105; refine cd.mono ?_; rintro e w1 ⟨rfl, hb1⟩)
      all_goals go_wp2
      all_goals go_roundw
      case' rel => exact ⟨k + 1, by omega, by go_num, below_trans hbel hb1⟩
      case' measure => simp [intOf]; omega
      case' rel => exact ⟨k + 1, by omega, by go_num, below_trans hbel hb1⟩
      case' measure => simp [intOf]; omega
    · go_wp2
      go_ret
      exact ⟨rfl, hbel⟩

theorem eqRoots {d : D} (h : Sh d (.lst .root)) : EqL 78 d := by
  obtain ⟨n, it, rfl, hs⟩ := h.lst
  exact eqLsRoot n it fun i hi => (eqRRoot_of (it i) (hs i hi 0 _ rfl) (hs i hi 1 _ rfl))

end Da
end Go.Proofs.YtngfhncdmlpjiaaGreat
