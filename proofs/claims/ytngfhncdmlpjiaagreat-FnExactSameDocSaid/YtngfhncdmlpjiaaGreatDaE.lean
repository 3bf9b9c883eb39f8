/- What is proved: the laws' tests whether data are the same say yes of one datum in two places. (Made by tools/mkdae.py.) -/
import Derived.Test.YtngfhncdmlpjiaaGreatDaW
import Derived.Deep.RegionWith
import Derived.Laws.StructEq
namespace Go.Proofs.YtngfhncdmlpjiaaGreat
namespace Da
set_option linter.unusedVariables false
open Go.RowKit
attribute [local go_sem ↓] Go.wp_at_zero Go.wp_at_succ

/-- The contract of a list. -/
def EqL (fid : Nat) (d : D) : Prop := ∀ (w : World) (c c' : Value), At w d c → At w d c' →
  Calls Tryz.prog fid #[c, c'] w fun e w' => e = .returned (.bool true) ∧ Below w.heap.size w w'
set_option maxHeartbeats 4000000 in
theorem eqLsString (n : Nat) (it : Nat → Nat → D) (hit : ∀ i, i < n → Sh (it i 0) .str) : EqL 74 (.list 1 n it) := by
  intro w c c' h h'
  have HI := Lib.hid h
  have HI' := Lib.hid h'
  obtain ⟨A, cap, rfl, hm⟩ := h.slice
  obtain ⟨A', cap', rfl, -⟩ := h'.slice
  clear h h'
  unfold maxLen at hm
  go_enter Tryz.func74, Tryz.ntmps74
  go_wp2
  go_loopw [5] (fun i wr => ∃ k : Nat, k ≤ n ∧ i = .int .i64 k ∧ Below w.heap.size w wr) (fun i _ => n - (intOf i).toNat)
  case atStart => exact ⟨0, Nat.zero_le _, rfl, Below.refl _ _⟩
  case round =>
    obtain ⟨k, hk, rfl, hbel⟩ := hrel
    by_cases hlt : k < n
    · have hk0 : (0 : Int) ≤ (k : Int) := by omega
      have hk1 : (k : Int) < (n : Int) := by omega
      obtain ⟨b, o, e2, hf⟩ := (At.below hbel _ HI.out).nth hlt
      subst e2
      obtain ⟨c0, ⟨f0, a0⟩⟩ := one hf
      obtain ⟨b', o', e2, hf'⟩ := (At.below hbel _ HI'.out).nth hlt
      subst e2
      obtain ⟨d0, ⟨g0, b0⟩⟩ := one hf'
      clear hf hf'
      rw [Nat.add_zero, Nat.mul_one] at f0 g0
      obtain ⟨u, hu⟩ := (hit k hlt).str
      rw [hu] at a0 b0
      obtain ⟨rfl, -⟩ := a0
      obtain ⟨rfl, -⟩ := b0
      go_wp2
      go_quiet (fail)
      go_wp2
      go_roundw
      case rel => exact ⟨k + 1, by omega, by go_num, below_trans hbel (below_drewN _ _)⟩
      case measure => simp [intOf]; omega
    · go_wp2
      go_ret
      exact ⟨rfl, hbel⟩

theorem eqStrings {d : D} (h : Sh d (.lst .text)) : EqL 74 d := by
  obtain ⟨n, it, rfl, hs⟩ := h.lst
  exact eqLsString n it fun i hi => hs i hi 0 _ rfl

/-- The contract of one row. -/
def EqRValue (r : Nat → D) : Prop := ∀ (w : World) (c0 c1 c2 c3 d0 d1 d2 d3 : Value), At w (r 0) c0 → At w (r 1) c1 → At w (r 2) c2 → At w (r 3) c3 → At w (r 0) d0 → At w (r 1) d1 → At w (r 2) d2 → At w (r 3) d3 →
  Calls Tryz.prog 116 #[.agg #[c0, c1, c2, c3], .agg #[d0, d1, d2, d3]] w fun e w' => e = .returned (.bool true) ∧ Below w.heap.size w w'
set_option maxHeartbeats 4000000 in
theorem eqLsValue (n : Nat) (it : Nat → Nat → D) (hit : ∀ i, i < n → EqRValue (it i)) : EqL 122 (.list 4 n it) := by
  intro w c c' h h'
  have HI := Lib.hid h
  have HI' := Lib.hid h'
  obtain ⟨A, cap, rfl, hm⟩ := h.slice
  obtain ⟨A', cap', rfl, -⟩ := h'.slice
  clear h h'
  unfold maxLen at hm
  go_enter Tryz.func122, Tryz.ntmps122
  go_wp2
  go_loopw [5] (fun i wr => ∃ k : Nat, k ≤ n ∧ i = .int .i64 k ∧ Below w.heap.size w wr) (fun i _ => n - (intOf i).toNat)
  case atStart => exact ⟨0, Nat.zero_le _, rfl, Below.refl _ _⟩
  case round =>
    obtain ⟨k, hk, rfl, hbel⟩ := hrel
    by_cases hlt : k < n
    · have hk0 : (0 : Int) ≤ (k : Int) := by omega
      have hk1 : (k : Int) < (n : Int) := by omega
      obtain ⟨b, o, e2, hf⟩ := (At.below hbel _ HI.out).nth hlt
      subst e2
      obtain ⟨c0, c1, c2, c3, ⟨f0, a0⟩, ⟨f1, a1⟩, ⟨f2, a2⟩, ⟨f3, a3⟩⟩ := four hf
      obtain ⟨b', o', e2, hf'⟩ := (At.below hbel _ HI'.out).nth hlt
      subst e2
      obtain ⟨d0, d1, d2, d3, ⟨g0, b0⟩, ⟨g1, b1⟩, ⟨g2, b2⟩, ⟨g3, b3⟩⟩ := four hf'
      clear hf hf'
      rw [Nat.add_zero] at f0 g0
      have cd : Calls Tryz.prog 116 #[.agg #[c0, c1, c2, c3], .agg #[d0, d1, d2, d3]] wr.drew fun e w' => e = .returned (.bool true) ∧ Below wr.heap.size wr w' :=
        (hit k hlt wr.drew c0 c1 c2 c3 d0 d1 d2 d3 (At.below (below_drew _) _ a0) (At.below (below_drew _) _ a1) (At.below (below_drew _) _ a2) (At.below (below_drew _) _ a3) (At.below (below_drew _) _ b0) (At.below (below_drew _) _ b1) (At.below (below_drew _) _ b2) (At.below (below_drew _) _ b3)).mono fun e w' ⟨he, hb⟩ => ⟨he, below_trans (below_drew wr) hb⟩
      clear a0 b0 a1 b1 a2 b2 a3 b3
      go_wp2
      go_region_with (go_at_call 116; refine cd.mono ?_; rintro e w1 ⟨rfl, hb1⟩)
      all_goals go_wp2
      all_goals go_roundw
      case' rel => exact ⟨k + 1, by omega, by go_num, below_trans hbel hb1⟩
      case' measure => simp [intOf]; omega
      case' rel => exact ⟨k + 1, by omega, by go_num, below_trans hbel hb1⟩
      case' measure => simp [intOf]; omega
    · go_wp2
      go_ret
      exact ⟨rfl, hbel⟩

set_option maxHeartbeats 4000000 in
theorem eqRValue_of (r : Nat → D) (h0 : Sh (r 0) .int) (h1 : Sh (r 1) .str) (h2 : EqL 122 (r 2)) (h3 : EqL 74 (r 3)) : EqRValue r := by
  intro w c0 c1 c2 c3 d0 d1 d2 d3 a0 a1 a2 a3 b0 b1 b2 b3
  obtain ⟨k0, e0⟩ := h0.int
  rw [e0] at a0 b0
  obtain rfl : c0 = .int .i64 k0 := a0
  obtain rfl : d0 = .int .i64 k0 := b0
  clear e0
  obtain ⟨u1, e1⟩ := h1.str
  rw [e1] at a1 b1
  obtain ⟨rfl, -⟩ := a1
  obtain ⟨rfl, -⟩ := b1
  clear e1
  go_enter Tryz.func116, Tryz.ntmps116
  go_wp2_with fail
  obtain ⟨W1, hW1⟩ : ∃ W1, ((w.alloc (Obj.cells #[Value.int .i64 k0, Value.string u1, c2, c3] 77)).alloc (Obj.cells #[Value.int .i64 k0, Value.string u1, d2, d3] 77)) = W1 := ⟨_, rfl⟩
  have ba : Below w.heap.size w W1 := by rw [← hW1]; exact (below_alloc _ _).alloc (by simp) _
  have hB0 : W1.heap[w.heap.size]? = some (Obj.cells #[Value.int .i64 k0, Value.string u1, c2, c3] 77) := by
    rw [← hW1, Below.heap_alloc _ _ _ (by simp)]; exact heap_alloc_new w _
  have hB1 : W1.heap[w.heap.size + 1]? = some (Obj.cells #[Value.int .i64 k0, Value.string u1, d2, d3] 77) := by
    rw [← hW1]; exact heap_alloc2_new w _ _
  rw [hW1]
  clear hW1
  refine (h2 W1 c2 d2 (At.below ba _ a2) (At.below ba _ b2)).mono ?_
  rintro e w2 ⟨rfl, hb2⟩
  have bb2 := below_trans ba hb2
  have hB0 := (hb2.block _ (lt_of hB0)).trans hB0
  have hB1 := (hb2.block _ (lt_of hB1)).trans hB1
  have q0 : w2.cell? ⟨w.heap.size, 3, none⟩ = some c3 := by rw [cell_of hB0]; rfl
  have q1 : w2.cell? ⟨w.heap.size + 1, 3, none⟩ = some d3 := by rw [cell_of hB1]; rfl
  have HB0 := Lib.hid hB0
  have HB1 := Lib.hid hB1
  clear hB0 hB1
  go_wp2_with fail
  clear q0 q1
  have hB0 := HB0.out
  have hB1 := HB1.out
  clear HB0 HB1
  refine (h3 w2 c3 d3 (At.below bb2 _ a3) (At.below bb2 _ b3)).mono ?_
  rintro e w3 ⟨rfl, hb3⟩
  have bb3 := below_trans bb2 hb3
  go_wp2
  go_ret
  exact ⟨rfl, bb3⟩

/-- The contract of one row. -/
def EqRArg (r : Nat → D) : Prop := ∀ (w : World) (c0 c1 c2 c3 c4 d0 d1 d2 d3 d4 : Value), At w (r 0) c0 → At w (r 1) c1 → At w (r 2) c2 → At w (r 3) c3 → At w (r 4) c4 → At w (r 0) d0 → At w (r 1) d1 → At w (r 2) d2 → At w (r 3) d3 → At w (r 4) d4 →
  Calls Tryz.prog 123 #[.agg #[c0, c1, c2, c3, c4], .agg #[d0, d1, d2, d3, d4]] w fun e w' => e = .returned (.bool true) ∧ Below w.heap.size w w'
set_option maxHeartbeats 4000000 in
theorem eqLsArg (n : Nat) (it : Nat → Nat → D) (hit : ∀ i, i < n → EqRArg (it i)) : EqL 117 (.list 5 n it) := by
  intro w c c' h h'
  have HI := Lib.hid h
  have HI' := Lib.hid h'
  obtain ⟨A, cap, rfl, hm⟩ := h.slice
  obtain ⟨A', cap', rfl, -⟩ := h'.slice
  clear h h'
  unfold maxLen at hm
  go_enter Tryz.func117, Tryz.ntmps117
  go_wp2
  go_loopw [5] (fun i wr => ∃ k : Nat, k ≤ n ∧ i = .int .i64 k ∧ Below w.heap.size w wr) (fun i _ => n - (intOf i).toNat)
  case atStart => exact ⟨0, Nat.zero_le _, rfl, Below.refl _ _⟩
  case round =>
    obtain ⟨k, hk, rfl, hbel⟩ := hrel
    by_cases hlt : k < n
    · have hk0 : (0 : Int) ≤ (k : Int) := by omega
      have hk1 : (k : Int) < (n : Int) := by omega
      obtain ⟨b, o, e2, hf⟩ := (At.below hbel _ HI.out).nth hlt
      subst e2
      obtain ⟨c0, c1, c2, c3, c4, ⟨f0, a0⟩, ⟨f1, a1⟩, ⟨f2, a2⟩, ⟨f3, a3⟩, ⟨f4, a4⟩⟩ := five hf
      obtain ⟨b', o', e2, hf'⟩ := (At.below hbel _ HI'.out).nth hlt
      subst e2
      obtain ⟨d0, d1, d2, d3, d4, ⟨g0, b0⟩, ⟨g1, b1⟩, ⟨g2, b2⟩, ⟨g3, b3⟩, ⟨g4, b4⟩⟩ := five hf'
      clear hf hf'
      rw [Nat.add_zero] at f0 g0
      have cd : Calls Tryz.prog 123 #[.agg #[c0, c1, c2, c3, c4], .agg #[d0, d1, d2, d3, d4]] wr.drew fun e w' => e = .returned (.bool true) ∧ Below wr.heap.size wr w' :=
        (hit k hlt wr.drew c0 c1 c2 c3 c4 d0 d1 d2 d3 d4 (At.below (below_drew _) _ a0) (At.below (below_drew _) _ a1) (At.below (below_drew _) _ a2) (At.below (below_drew _) _ a3) (At.below (below_drew _) _ a4) (At.below (below_drew _) _ b0) (At.below (below_drew _) _ b1) (At.below (below_drew _) _ b2) (At.below (below_drew _) _ b3) (At.below (below_drew _) _ b4)).mono fun e w' ⟨he, hb⟩ => ⟨he, below_trans (below_drew wr) hb⟩
      clear a0 b0 a1 b1 a2 b2 a3 b3 a4 b4
      go_wp2
      go_region_with (go_at_call 123; refine cd.mono ?_; rintro e w1 ⟨rfl, hb1⟩)
      all_goals go_wp2
      all_goals go_roundw
      case' rel => exact ⟨k + 1, by omega, by go_num, below_trans hbel hb1⟩
      case' measure => simp [intOf]; omega
      case' rel => exact ⟨k + 1, by omega, by go_num, below_trans hbel hb1⟩
      case' measure => simp [intOf]; omega
    · go_wp2
      go_ret
      exact ⟨rfl, hbel⟩

set_option maxHeartbeats 4000000 in
theorem eqRArg_of (r : Nat → D) (h0 : Sh (r 0) .str) (h1 : EqRValue fun j => r (j + 1)) : EqRArg r := by
  intro w c0 c1 c2 c3 c4 d0 d1 d2 d3 d4 a0 a1 a2 a3 a4 b0 b1 b2 b3 b4
  obtain ⟨u0, e0⟩ := h0.str
  rw [e0] at a0 b0
  obtain ⟨rfl, -⟩ := a0
  obtain ⟨rfl, -⟩ := b0
  clear e0
  go_enter Tryz.func123, Tryz.ntmps123
  go_wp2_with fail
  obtain ⟨W1, hW1⟩ : ∃ W1, ((w.alloc (Obj.cells #[Value.string u0, c1, c2, c3, c4] 100)).alloc (Obj.cells #[Value.string u0, d1, d2, d3, d4] 100)) = W1 := ⟨_, rfl⟩
  have ba : Below w.heap.size w W1 := by rw [← hW1]; exact (below_alloc _ _).alloc (by simp) _
  have hB0 : W1.heap[w.heap.size]? = some (Obj.cells #[Value.string u0, c1, c2, c3, c4] 100) := by
    rw [← hW1, Below.heap_alloc _ _ _ (by simp)]; exact heap_alloc_new w _
  have hB1 : W1.heap[w.heap.size + 1]? = some (Obj.cells #[Value.string u0, d1, d2, d3, d4] 100) := by
    rw [← hW1]; exact heap_alloc2_new w _ _
  rw [hW1]
  clear hW1
  refine (h1 W1 c1 c2 c3 c4 d1 d2 d3 d4 (At.below ba _ a1) (At.below ba _ a2) (At.below ba _ a3) (At.below ba _ a4) (At.below ba _ b1) (At.below ba _ b2) (At.below ba _ b3) (At.below ba _ b4)).mono ?_
  rintro e w1 ⟨rfl, hb1⟩
  have bb1 := below_trans ba hb1
  go_wp2
  go_ret
  exact ⟨rfl, bb1⟩

/-- The contract of one row. -/
def EqRDir (r : Nat → D) : Prop := ∀ (w : World) (c0 c1 d0 d1 : Value), At w (r 0) c0 → At w (r 1) c1 → At w (r 0) d0 → At w (r 1) d1 →
  Calls Tryz.prog 100 #[.agg #[c0, c1], .agg #[d0, d1]] w fun e w' => e = .returned (.bool true) ∧ Below w.heap.size w w'
set_option maxHeartbeats 4000000 in
theorem eqLsDir (n : Nat) (it : Nat → Nat → D) (hit : ∀ i, i < n → EqRDir (it i)) : EqL 72 (.list 2 n it) := by
  intro w c c' h h'
  have HI := Lib.hid h
  have HI' := Lib.hid h'
  obtain ⟨A, cap, rfl, hm⟩ := h.slice
  obtain ⟨A', cap', rfl, -⟩ := h'.slice
  clear h h'
  unfold maxLen at hm
  go_enter Tryz.func72, Tryz.ntmps72
  go_wp2
  go_loopw [5] (fun i wr => ∃ k : Nat, k ≤ n ∧ i = .int .i64 k ∧ Below w.heap.size w wr) (fun i _ => n - (intOf i).toNat)
  case atStart => exact ⟨0, Nat.zero_le _, rfl, Below.refl _ _⟩
  case round =>
    obtain ⟨k, hk, rfl, hbel⟩ := hrel
    by_cases hlt : k < n
    · have hk0 : (0 : Int) ≤ (k : Int) := by omega
      have hk1 : (k : Int) < (n : Int) := by omega
      obtain ⟨b, o, e2, hf⟩ := (At.below hbel _ HI.out).nth hlt
      subst e2
      obtain ⟨c0, c1, ⟨f0, a0⟩, ⟨f1, a1⟩⟩ := two hf
      obtain ⟨b', o', e2, hf'⟩ := (At.below hbel _ HI'.out).nth hlt
      subst e2
      obtain ⟨d0, d1, ⟨g0, b0⟩, ⟨g1, b1⟩⟩ := two hf'
      clear hf hf'
      rw [Nat.add_zero] at f0 g0
      have cd : Calls Tryz.prog 100 #[.agg #[c0, c1], .agg #[d0, d1]] wr.drew fun e w' => e = .returned (.bool true) ∧ Below wr.heap.size wr w' :=
        (hit k hlt wr.drew c0 c1 d0 d1 (At.below (below_drew _) _ a0) (At.below (below_drew _) _ a1) (At.below (below_drew _) _ b0) (At.below (below_drew _) _ b1)).mono fun e w' ⟨he, hb⟩ => ⟨he, below_trans (below_drew wr) hb⟩
      clear a0 b0 a1 b1
      go_wp2
      go_region_with (go_at_call 100; refine cd.mono ?_; rintro e w1 ⟨rfl, hb1⟩)
      all_goals go_wp2
      all_goals go_roundw
      case' rel => exact ⟨k + 1, by omega, by go_num, below_trans hbel hb1⟩
      case' measure => simp [intOf]; omega
      case' rel => exact ⟨k + 1, by omega, by go_num, below_trans hbel hb1⟩
      case' measure => simp [intOf]; omega
    · go_wp2
      go_ret
      exact ⟨rfl, hbel⟩

set_option maxHeartbeats 4000000 in
theorem eqRDir_of (r : Nat → D) (h0 : Sh (r 0) .str) (h1 : EqL 117 (r 1)) : EqRDir r := by
  intro w c0 c1 d0 d1 a0 a1 b0 b1
  obtain ⟨u0, e0⟩ := h0.str
  rw [e0] at a0 b0
  obtain ⟨rfl, -⟩ := a0
  obtain ⟨rfl, -⟩ := b0
  clear e0
  go_enter Tryz.func100, Tryz.ntmps100
  go_wp2_with fail
  obtain ⟨W1, hW1⟩ : ∃ W1, ((w.alloc (Obj.cells #[Value.string u0, c1] 83)).alloc (Obj.cells #[Value.string u0, d1] 83)) = W1 := ⟨_, rfl⟩
  have ba : Below w.heap.size w W1 := by rw [← hW1]; exact (below_alloc _ _).alloc (by simp) _
  have hB0 : W1.heap[w.heap.size]? = some (Obj.cells #[Value.string u0, c1] 83) := by
    rw [← hW1, Below.heap_alloc _ _ _ (by simp)]; exact heap_alloc_new w _
  have hB1 : W1.heap[w.heap.size + 1]? = some (Obj.cells #[Value.string u0, d1] 83) := by
    rw [← hW1]; exact heap_alloc2_new w _ _
  rw [hW1]
  clear hW1
  refine (h1 W1 c1 d1 (At.below ba _ a1) (At.below ba _ b1)).mono ?_
  rintro e w1 ⟨rfl, hb1⟩
  have bb1 := below_trans ba hb1
  go_wp2
  go_ret
  exact ⟨rfl, bb1⟩

/-- The contract of one row. -/
def EqRSel (r : Nat → D) : Prop := ∀ (w : World) (c0 c1 c2 c3 c4 c5 c6 d0 d1 d2 d3 d4 d5 d6 : Value), At w (r 0) c0 → At w (r 1) c1 → At w (r 2) c2 → At w (r 3) c3 → At w (r 4) c4 → At w (r 5) c5 → At w (r 6) c6 → At w (r 0) d0 → At w (r 1) d1 → At w (r 2) d2 → At w (r 3) d3 → At w (r 4) d4 → At w (r 5) d5 → At w (r 6) d6 →
  Calls Tryz.prog 101 #[.agg #[c0, c1, c2, c3, c4, c5, c6], .agg #[d0, d1, d2, d3, d4, d5, d6]] w fun e w' => e = .returned (.bool true) ∧ Below w.heap.size w w'
set_option maxHeartbeats 4000000 in
theorem eqLsSel (n : Nat) (it : Nat → Nat → D) (hit : ∀ i, i < n → EqRSel (it i)) : EqL 73 (.list 7 n it) := by
  intro w c c' h h'
  have HI := Lib.hid h
  have HI' := Lib.hid h'
  obtain ⟨A, cap, rfl, hm⟩ := h.slice
  obtain ⟨A', cap', rfl, -⟩ := h'.slice
  clear h h'
  unfold maxLen at hm
  go_enter Tryz.func73, Tryz.ntmps73
  go_wp2
  go_loopw [5] (fun i wr => ∃ k : Nat, k ≤ n ∧ i = .int .i64 k ∧ Below w.heap.size w wr) (fun i _ => n - (intOf i).toNat)
  case atStart => exact ⟨0, Nat.zero_le _, rfl, Below.refl _ _⟩
  case round =>
    obtain ⟨k, hk, rfl, hbel⟩ := hrel
    by_cases hlt : k < n
    · have hk0 : (0 : Int) ≤ (k : Int) := by omega
      have hk1 : (k : Int) < (n : Int) := by omega
      obtain ⟨b, o, e2, hf⟩ := (At.below hbel _ HI.out).nth hlt
      subst e2
      obtain ⟨c0, c1, c2, c3, c4, c5, c6, ⟨f0, a0⟩, ⟨f1, a1⟩, ⟨f2, a2⟩, ⟨f3, a3⟩, ⟨f4, a4⟩, ⟨f5, a5⟩, ⟨f6, a6⟩⟩ := seven hf
      obtain ⟨b', o', e2, hf'⟩ := (At.below hbel _ HI'.out).nth hlt
      subst e2
      obtain ⟨d0, d1, d2, d3, d4, d5, d6, ⟨g0, b0⟩, ⟨g1, b1⟩, ⟨g2, b2⟩, ⟨g3, b3⟩, ⟨g4, b4⟩, ⟨g5, b5⟩, ⟨g6, b6⟩⟩ := seven hf'
      clear hf hf'
      rw [Nat.add_zero] at f0 g0
      have cd : Calls Tryz.prog 101 #[.agg #[c0, c1, c2, c3, c4, c5, c6], .agg #[d0, d1, d2, d3, d4, d5, d6]] wr.drew fun e w' => e = .returned (.bool true) ∧ Below wr.heap.size wr w' :=
        (hit k hlt wr.drew c0 c1 c2 c3 c4 c5 c6 d0 d1 d2 d3 d4 d5 d6 (At.below (below_drew _) _ a0) (At.below (below_drew _) _ a1) (At.below (below_drew _) _ a2) (At.below (below_drew _) _ a3) (At.below (below_drew _) _ a4) (At.below (below_drew _) _ a5) (At.below (below_drew _) _ a6) (At.below (below_drew _) _ b0) (At.below (below_drew _) _ b1) (At.below (below_drew _) _ b2) (At.below (below_drew _) _ b3) (At.below (below_drew _) _ b4) (At.below (below_drew _) _ b5) (At.below (below_drew _) _ b6)).mono fun e w' ⟨he, hb⟩ => ⟨he, below_trans (below_drew wr) hb⟩
      clear a0 b0 a1 b1 a2 b2 a3 b3 a4 b4 a5 b5 a6 b6
      go_wp2
      go_region_with (go_at_call 101; refine cd.mono ?_; rintro e w1 ⟨rfl, hb1⟩)
      all_goals go_wp2
      all_goals go_roundw
      case' rel => exact ⟨k + 1, by omega, by go_num, below_trans hbel hb1⟩
      case' measure => simp [intOf]; omega
      case' rel => exact ⟨k + 1, by omega, by go_num, below_trans hbel hb1⟩
      case' measure => simp [intOf]; omega
    · go_wp2
      go_ret
      exact ⟨rfl, hbel⟩

set_option maxHeartbeats 4000000 in
theorem eqRSel_of (r : Nat → D) (h0 : Sh (r 0) .int) (h1 : Sh (r 1) .str) (h2 : Sh (r 2) .str) (h3 : Sh (r 3) .str) (h4 : EqL 117 (r 4)) (h5 : EqL 72 (r 5)) (h6 : EqL 73 (r 6)) : EqRSel r := by
  intro w c0 c1 c2 c3 c4 c5 c6 d0 d1 d2 d3 d4 d5 d6 a0 a1 a2 a3 a4 a5 a6 b0 b1 b2 b3 b4 b5 b6
  obtain ⟨k0, e0⟩ := h0.int
  rw [e0] at a0 b0
  obtain rfl : c0 = .int .i64 k0 := a0
  obtain rfl : d0 = .int .i64 k0 := b0
  clear e0
  obtain ⟨u1, e1⟩ := h1.str
  rw [e1] at a1 b1
  obtain ⟨rfl, -⟩ := a1
  obtain ⟨rfl, -⟩ := b1
  clear e1
  obtain ⟨u2, e2⟩ := h2.str
  rw [e2] at a2 b2
  obtain ⟨rfl, -⟩ := a2
  obtain ⟨rfl, -⟩ := b2
  clear e2
  obtain ⟨u3, e3⟩ := h3.str
  rw [e3] at a3 b3
  obtain ⟨rfl, -⟩ := a3
  obtain ⟨rfl, -⟩ := b3
  clear e3
  go_enter Tryz.func101, Tryz.ntmps101
  go_wp2_with fail
  obtain ⟨W1, hW1⟩ : ∃ W1, ((w.alloc (Obj.cells #[Value.int .i64 k0, Value.string u1, Value.string u2, Value.string u3, c4, c5, c6] 86)).alloc (Obj.cells #[Value.int .i64 k0, Value.string u1, Value.string u2, Value.string u3, d4, d5, d6] 86)) = W1 := ⟨_, rfl⟩
  have ba : Below w.heap.size w W1 := by rw [← hW1]; exact (below_alloc _ _).alloc (by simp) _
  have hB0 : W1.heap[w.heap.size]? = some (Obj.cells #[Value.int .i64 k0, Value.string u1, Value.string u2, Value.string u3, c4, c5, c6] 86) := by
    rw [← hW1, Below.heap_alloc _ _ _ (by simp)]; exact heap_alloc_new w _
  have hB1 : W1.heap[w.heap.size + 1]? = some (Obj.cells #[Value.int .i64 k0, Value.string u1, Value.string u2, Value.string u3, d4, d5, d6] 86) := by
    rw [← hW1]; exact heap_alloc2_new w _ _
  rw [hW1]
  clear hW1
  refine (h4 W1 c4 d4 (At.below ba _ a4) (At.below ba _ b4)).mono ?_
  rintro e w4 ⟨rfl, hb4⟩
  have bb4 := below_trans ba hb4
  have hB0 := (hb4.block _ (lt_of hB0)).trans hB0
  have hB1 := (hb4.block _ (lt_of hB1)).trans hB1
  have q0 : w4.cell? ⟨w.heap.size, 5, none⟩ = some c5 := by rw [cell_of hB0]; rfl
  have q1 : w4.cell? ⟨w.heap.size + 1, 5, none⟩ = some d5 := by rw [cell_of hB1]; rfl
  have HB0 := Lib.hid hB0
  have HB1 := Lib.hid hB1
  clear hB0 hB1
  go_wp2_with fail
  clear q0 q1
  have hB0 := HB0.out
  have hB1 := HB1.out
  clear HB0 HB1
  refine (h5 w4 c5 d5 (At.below bb4 _ a5) (At.below bb4 _ b5)).mono ?_
  rintro e w5 ⟨rfl, hb5⟩
  have bb5 := below_trans bb4 hb5
  have hB0 := (hb5.block _ (lt_of hB0)).trans hB0
  have hB1 := (hb5.block _ (lt_of hB1)).trans hB1
  have q0 : w5.cell? ⟨w.heap.size, 6, none⟩ = some c6 := by rw [cell_of hB0]; rfl
  have q1 : w5.cell? ⟨w.heap.size + 1, 6, none⟩ = some d6 := by rw [cell_of hB1]; rfl
  have HB0 := Lib.hid hB0
  have HB1 := Lib.hid hB1
  clear hB0 hB1
  go_wp2_with fail
  clear q0 q1
  have hB0 := HB0.out
  have hB1 := HB1.out
  clear HB0 HB1
  refine (h6 w5 c6 d6 (At.below bb5 _ a6) (At.below bb5 _ b6)).mono ?_
  rintro e w6 ⟨rfl, hb6⟩
  have bb6 := below_trans bb5 hb6
  go_wp2
  go_ret
  exact ⟨rfl, bb6⟩

theorem eqValues : ∀ (d : D), Sh d (.lst .value) → EqL 122 d
  | .list W n it, h => by
    obtain ⟨n', it', e, hs⟩ := h.lst
    cases e
    exact eqLsValue n it fun i hi => eqRValue_of (it i) (hs i hi 0 _ rfl) (hs i hi 1 _ rfl) (eqValues (it i 2) (hs i hi 2 _ rfl)) (eqStrings (hs i hi 3 _ rfl))
  | .no, h => h.elim
  | .int _, h => by cases h
  | .str _, h => by cases h
  | .bool _, h => by cases h
theorem eqArgs {d : D} (h : Sh d (.lst .arg)) : EqL 117 d := by
  obtain ⟨n, it, rfl, hs⟩ := h.lst
  exact eqLsArg n it fun i hi => eqRArg_of (it i) (hs i hi 0 _ rfl) (eqRValue_of (fun j => it i (j + 1)) (hs i hi 1 _ rfl) (hs i hi 2 _ rfl) (eqValues _ (hs i hi 3 _ rfl)) (eqStrings (hs i hi 4 _ rfl)))
theorem eqDirs {d : D} (h : Sh d (.lst .dir)) : EqL 72 d := by
  obtain ⟨n, it, rfl, hs⟩ := h.lst
  exact eqLsDir n it fun i hi => eqRDir_of (it i) (hs i hi 0 _ rfl) (eqArgs (hs i hi 1 _ rfl))
theorem eqSels : ∀ (d : D), Sh d (.lst .sel) → EqL 73 d
  | .list W n it, h => by
    obtain ⟨n', it', e, hs⟩ := h.lst
    cases e
    exact eqLsSel n it fun i hi => eqRSel_of (it i) (hs i hi 0 _ rfl) (hs i hi 1 _ rfl) (hs i hi 2 _ rfl) (hs i hi 3 _ rfl) (eqArgs (hs i hi 4 _ rfl)) (eqDirs (hs i hi 5 _ rfl)) (eqSels (it i 6) (hs i hi 6 _ rfl))
  | .no, h => h.elim
  | .int _, h => by cases h
  | .str _, h => by cases h
  | .bool _, h => by cases h
theorem eqSel {r : Nat → D} (hs : ∀ j g, (row .sel)[j]? = some g → Sh (r j) g) : EqRSel r :=
  eqRSel_of r (hs 0 _ rfl) (hs 1 _ rfl) (hs 2 _ rfl) (hs 3 _ rfl) (eqArgs (hs 4 _ rfl)) (eqDirs (hs 5 _ rfl)) (eqSels (r 6) (hs 6 _ rfl))
end Da
end Go.Proofs.YtngfhncdmlpjiaaGreat
