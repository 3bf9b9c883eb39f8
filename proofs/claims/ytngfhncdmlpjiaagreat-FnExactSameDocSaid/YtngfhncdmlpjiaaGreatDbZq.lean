/- What is proved: what the laws' helpers that count documents answer: what is left, or -1. (Made by tools/mkdbz.py, tools/mkdbm.py.) -/
import Derived.Test.YtngfhncdmlpjiaaGreatDaZ
import Derived.Test.YtngfhncdmlpjiaaGreatDbAq
namespace Go.Proofs.YtngfhncdmlpjiaaGreat
namespace Da
set_option linter.unusedVariables false
set_option linter.unusedSimpArgs false
open Go.RowKit
attribute [local go_sem ↓] Go.wp_at_zero Go.wp_at_succ

/-- The contract of one. -/
def SzRType (r : Nat → D) : Prop := ∀ (w : World) (l : Nat) (d0 d1 : Value), l ≤ 1048576 → At w (r 0) d0 → At w (r 1) d1 →
  Calls Tryz.prog 106 #[.agg #[d0, d1], .int .i64 l] w fun e w' => e = .returned (.int .i64 (left l (sumTo (fun j => sz (r j)) 2))) ∧ Below w.heap.size w w'
set_option maxHeartbeats 2000000 in
theorem szRType_of (r : Nat → D) (h0 : Sh (r 0) .str) (h1 : Sh (r 1) .str) : SzRType r := by
  intro w l d0 d1 hl a0 a1
  obtain ⟨u0, e0⟩ := h0.str
  obtain ⟨u1, e1⟩ := h1.str
  have hsum : sumTo (fun j => sz (r j)) 2 = u0.size + u1.size := by
    simp [sumTo, sz, e0, e1] <;> omega
  rw [hsum]
  clear hsum
  rw [e0] at a0
  obtain ⟨rfl, m0⟩ := a0
  unfold maxLen at m0
  rw [e1] at a1
  obtain ⟨rfl, m1⟩ := a1
  unfold maxLen at m1
  clear e0 e1 h0 h1
  obtain ⟨R, hR⟩ : ∃ R, left l (u0.size + u1.size) = R := ⟨_, rfl⟩
  rw [hR]
  have HR := Lib.hid hR
  clear hR
  by_cases b0 : (l : Int) - u0.size < 0
  · go_enter Tryz.func106, Tryz.ntmps106
    go_wp2
    go_ret
    have h3 := HR.out
    rw [left_neg (by omega)] at h3
    subst h3; exact ⟨rfl, below_alloc _ _⟩
  obtain ⟨L0, l0⟩ : ∃ L : Nat, (l : Int) - (u0.size : Int) = (L : Int) := ⟨l - u0.size, by omega⟩
  by_cases b1 : (L0 : Int) - u1.size < 0
  · go_enter Tryz.func106, Tryz.ntmps106
    go_wp2
    go_ret
    have h3 := HR.out
    rw [left_neg (by omega)] at h3
    subst h3; exact ⟨rfl, below_alloc _ _⟩
  obtain ⟨L1, l1⟩ : ∃ L : Nat, (L0 : Int) - (u1.size : Int) = (L : Int) := ⟨L0 - u1.size, by omega⟩
  have g0 := Lib.hid l0
  have n0 : ¬ (L0 : Int) < 0 := by omega
  have m0' : L0 ≤ 1048576 := by omega
  have g1 := Lib.hid l1
  have n1 : ¬ (L1 : Int) < 0 := by omega
  have m1' : L1 ≤ 1048576 := by omega
  go_enter Tryz.func106, Tryz.ntmps106
  have ba := below_alloc w (Obj.cells #[Value.string u0, Value.string u1] 141)
  go_wp2
  go_ret
  have := g0.out
  have := g1.out
  have h3 := HR.out
  rw [left_pos (by omega)] at h3
  subst h3; exact ⟨congrArg (fun x => Ending.returned (Value.int .i64 x)) (by omega), ba⟩

theorem szType {r : Nat → D} (hs : ∀ j g, (row .typ)[j]? = some g → Sh (r j) g) : SzRType r := (szRType_of r (hs 0 _ rfl) (hs 1 _ rfl))

end Da
end Go.Proofs.YtngfhncdmlpjiaaGreat
namespace Go.Proofs.YtngfhncdmlpjiaaGreat
namespace Da
set_option linter.unusedVariables false
set_option linter.unusedSimpArgs false
open Go.RowKit
attribute [local go_sem ↓] Go.wp_at_zero Go.wp_at_succ

/-- The contract of one. -/
def SzRVarDef (r : Nat → D) : Prop := ∀ (w : World) (l : Nat) (d0 d1 d2 d3 d4 d5 d6 d7 d8 : Value), l ≤ 1048576 → At w (r 0) d0 → At w (r 1) d1 → At w (r 2) d2 → At w (r 3) d3 → At w (r 4) d4 → At w (r 5) d5 → At w (r 6) d6 → At w (r 7) d7 → At w (r 8) d8 →
  Calls Tryz.prog 79 #[.agg #[d0, d1, d2, d3, d4, d5, d6, d7, d8], .int .i64 l] w fun e w' => e = .returned (.int .i64 (left l (sumTo (fun j => sz (r j)) 9))) ∧ Below w.heap.size w w'
set_option maxHeartbeats 2000000 in
theorem szRVarDef_of (r : Nat → D) (h0 : Sh (r 0) .str) (h1 : SzRType fun j => r (j + 1)) (h3 : Sh (r 3) .bool) (h4 : SzRValue fun j => r (j + 4)) (h8 : SzL 42 (r 8)) : SzRVarDef r := by
  intro w l d0 d1 d2 d3 d4 d5 d6 d7 d8 hl a0 a1 a2 a3 a4 a5 a6 a7 a8
  obtain ⟨u0, e0⟩ := h0.str
  obtain ⟨q3, e3⟩ := h3.bool
  have hsum : sumTo (fun j => sz (r j)) 9 = u0.size + sumTo (fun j => sz (r (j + 1))) 2 + sumTo (fun j => sz (r (j + 4))) 4 + sz (r 8) := by
    simp [sumTo, sz, e0, e3] <;> omega
  rw [hsum]
  clear hsum
  rw [e0] at a0
  obtain ⟨rfl, m0⟩ := a0
  unfold maxLen at m0
  rw [e3] at a3
  obtain rfl : d3 = .bool q3 := a3
  clear e0 e3 h0 h3
  obtain ⟨S1, hS1⟩ : ∃ S, sumTo (fun j => sz (r (j + 1))) 2 = S := ⟨_, rfl⟩
  rw [hS1]
  have HS1 := Lib.hid hS1
  clear hS1
  obtain ⟨S4, hS4⟩ : ∃ S, sumTo (fun j => sz (r (j + 4))) 4 = S := ⟨_, rfl⟩
  rw [hS4]
  have HS4 := Lib.hid hS4
  clear hS4
  obtain ⟨S8, hS8⟩ : ∃ S, sz (r 8) = S := ⟨_, rfl⟩
  rw [hS8]
  have HS8 := Lib.hid hS8
  clear hS8
  obtain ⟨R, hR⟩ : ∃ R, left l (u0.size + S1 + S4 + S8) = R := ⟨_, rfl⟩
  rw [hR]
  have HR := Lib.hid hR
  clear hR
  by_cases b0 : (l : Int) - u0.size < 0
  · go_enter Tryz.func79, Tryz.ntmps79
    go_wp2
    go_ret
    have h3 := HR.out
    rw [left_neg (by omega)] at h3
    subst h3; exact ⟨rfl, below_alloc _ _⟩
  obtain ⟨L0, l0⟩ : ∃ L : Nat, (l : Int) - (u0.size : Int) = (L : Int) := ⟨l - u0.size, by omega⟩
  have g0 := Lib.hid l0
  have n0 : ¬ (L0 : Int) < 0 := by omega
  have m0' : L0 ≤ 1048576 := by omega
  go_enter Tryz.func79, Tryz.ntmps79
  have ba := below_alloc w (Obj.cells #[Value.string u0, d1, d2, Value.bool q3, d4, d5, d6, d7, d8] 146)
  go_wp2_with fail
  clear l0
  have c1 := h1 _ L0 d1 d2 (by omega) (At.below ba _ a1) (At.below ba _ a2)
  rw [HS1.out] at c1
  by_cases b1 : S1 ≤ L0
  case neg =>
    rw [left_neg b1] at c1
    refine c1.mono ?_
    rintro e w1 ⟨rfl, hb1⟩
    go_wp2
    go_ret
    have := g0.out
    have h3 := HR.out
    rw [left_neg (by omega)] at h3
    subst h3; exact ⟨rfl, below_trans ba hb1⟩
  obtain ⟨L1, l1⟩ : ∃ L : Nat, (L0 : Int) - (S1 : Int) = (L : Int) := ⟨L0 - S1, by omega⟩
  rw [show left L0 S1 = (L1 : Int) from by rw [left, if_pos b1, l1]] at c1
  have g1 := Lib.hid l1
  have n1 : ¬ (L1 : Int) < 0 := by omega
  have m1' : L1 ≤ 1048576 := by omega
  clear l1
  refine c1.mono ?_
  rintro e w1 ⟨rfl, hb1⟩
  clear c1
  have bb1 := below_trans ba hb1
  have bx1 := hb1
  have hbox := (bx1.block w.heap.size (by simp)).trans (heap_alloc_new w _)
  have q4' : w1.cell? ⟨w.heap.size, 4, none⟩ = some (d4) := by rw [cell_of hbox]; rfl
  have q5' : w1.cell? ⟨w.heap.size, 5, none⟩ = some (d5) := by rw [cell_of hbox]; rfl
  have q6' : w1.cell? ⟨w.heap.size, 6, none⟩ = some (d6) := by rw [cell_of hbox]; rfl
  have q7' : w1.cell? ⟨w.heap.size, 7, none⟩ = some (d7) := by rw [cell_of hbox]; rfl
  clear hbox
  go_wp2_with fail
  clear q4' q5' q6' q7'
  have c4 := h4 w1 L1 d4 d5 d6 d7 (by omega) (At.below bb1 _ a4) (At.below bb1 _ a5) (At.below bb1 _ a6) (At.below bb1 _ a7)
  rw [HS4.out] at c4
  by_cases b4 : S4 ≤ L1
  case neg =>
    rw [left_neg b4] at c4
    refine c4.mono ?_
    rintro e w4 ⟨rfl, hb4⟩
    go_wp2
    go_ret
    have := g0.out
    have := g1.out
    have h3 := HR.out
    rw [left_neg (by omega)] at h3
    subst h3; exact ⟨rfl, below_trans bb1 hb4⟩
  obtain ⟨L4, l4⟩ : ∃ L : Nat, (L1 : Int) - (S4 : Int) = (L : Int) := ⟨L1 - S4, by omega⟩
  rw [show left L1 S4 = (L4 : Int) from by rw [left, if_pos b4, l4]] at c4
  have g4 := Lib.hid l4
  have n4 : ¬ (L4 : Int) < 0 := by omega
  have m4' : L4 ≤ 1048576 := by omega
  clear l4
  refine c4.mono ?_
  rintro e w4 ⟨rfl, hb4⟩
  clear c4
  have bb4 := below_trans bb1 hb4
  have bx4 := below_trans bx1 hb4
  have hbox := (bx4.block w.heap.size (by simp)).trans (heap_alloc_new w _)
  have q8' : w4.cell? ⟨w.heap.size, 8, none⟩ = some (d8) := by rw [cell_of hbox]; rfl
  clear hbox
  go_wp2_with fail
  clear q8'
  have c8 := h8 w4 L4 d8 (by omega) (At.below bb4 _ a8)
  rw [HS8.out] at c8
  by_cases b8 : S8 ≤ L4
  case neg =>
    rw [left_neg b8] at c8
    refine c8.mono ?_
    rintro e w8 ⟨rfl, hb8⟩
    go_wp2
    go_ret
    have := g0.out
    have := g1.out
    have := g4.out
    have h3 := HR.out
    rw [left_neg (by omega)] at h3
    subst h3; exact ⟨rfl, below_trans bb4 hb8⟩
  obtain ⟨L8, l8⟩ : ∃ L : Nat, (L4 : Int) - (S8 : Int) = (L : Int) := ⟨L4 - S8, by omega⟩
  rw [show left L4 S8 = (L8 : Int) from by rw [left, if_pos b8, l8]] at c8
  have g8 := Lib.hid l8
  have n8 : ¬ (L8 : Int) < 0 := by omega
  have m8' : L8 ≤ 1048576 := by omega
  clear l8
  refine c8.mono ?_
  rintro e w8 ⟨rfl, hb8⟩
  clear c8
  have bb8 := below_trans bb4 hb8
  go_wp2
  go_ret
  have := g0.out
  have := g1.out
  have := g4.out
  have := g8.out
  have h3 := HR.out
  rw [left_pos (by omega)] at h3
  subst h3; exact ⟨congrArg (fun x => Ending.returned (Value.int .i64 x)) (by omega), bb8⟩

theorem szVarDef {r : Nat → D} (hs : ∀ j g, (row .vardef)[j]? = some g → Sh (r j) g) : SzRVarDef r := (szRVarDef_of r (hs 0 _ rfl) (szRType_of _ (hs 1 _ rfl) (hs 2 _ rfl)) (hs 3 _ rfl) (szRValue_of _ (hs 4 _ rfl) (hs 5 _ rfl) (szValues _ (hs 6 _ rfl)) (szStrings (hs 7 _ rfl))) (szDirs (hs 8 _ rfl)))

set_option maxHeartbeats 1000000 in
theorem szLsVarDef (n : Nat) (it : Nat → Nat → D) (hit : ∀ i, i < n → SzRVarDef (it i)) : SzL 41 (.list 9 n it) := by
  intro w l c hl h
  have HI := Lib.hid h
  obtain ⟨A, cap, rfl, hm⟩ := h.slice
  clear h
  unfold maxLen at hm
  have hR0 : sz (.list 9 n it) = n + sumTo (fun i => sumTo (fun j => sz (it i j)) 9) n := rfl
  obtain ⟨R, hR⟩ : ∃ R, left l (n + sumTo (fun i => sumTo (fun j => sz (it i j)) 9) n) = R := ⟨_, rfl⟩
  rw [hR0, hR]
  clear hR0
  have HR := Lib.hid hR
  clear hR
  by_cases h0 : (l : Int) - n < 0
  · go_enter Tryz.func41, Tryz.ntmps41
    go_wp2
    go_ret
    have := HR.out
    rw [left_neg (by omega)] at this
    subst this; exact ⟨rfl, Below.refl _ _⟩
  · go_enter Tryz.func41, Tryz.ntmps41
    go_wp2
    go_loopw [1, 5] (fun x i wr => ∃ k : Nat, k ≤ n ∧ i = .int .i64 k ∧ n + sumTo (fun i => sumTo (fun j => sz (it i j)) 9) k ≤ l ∧ x = .int .i64 ((l : Int) - (n + sumTo (fun i => sumTo (fun j => sz (it i j)) 9) k : Nat)) ∧ Below w.heap.size w wr) (fun _ i _ => n - (intOf i).toNat)
    case atStart => exact ⟨0, Nat.zero_le _, rfl, by simp only [sumTo]; omega, by simp [sumTo], Below.refl _ _⟩
    case round =>
      obtain ⟨k, hk, rfl, hle, rfl, hbel⟩ := hrel
      obtain ⟨T, hT⟩ : ∃ T, sumTo (fun i => sumTo (fun j => sz (it i j)) 9) k = T := ⟨_, rfl⟩
      rw [hT] at hle
      rw [hT]
      have HT := Lib.hid hT
      clear hT
      by_cases hlt : k < n
      · have hk0 : (0 : Int) ≤ (k : Int) := by omega
        have hk1 : (k : Int) < (n : Int) := by omega
        obtain ⟨b, o, e2, hf⟩ := (At.below hbel _ HI.out).nth hlt
        subst e2
        obtain ⟨d0, f0, a0⟩ := hf 0 (by omega)
        obtain ⟨d1, f1, a1⟩ := hf 1 (by omega)
        obtain ⟨d2, f2, a2⟩ := hf 2 (by omega)
        obtain ⟨d3, f3, a3⟩ := hf 3 (by omega)
        obtain ⟨d4, f4, a4⟩ := hf 4 (by omega)
        obtain ⟨d5, f5, a5⟩ := hf 5 (by omega)
        obtain ⟨d6, f6, a6⟩ := hf 6 (by omega)
        obtain ⟨d7, f7, a7⟩ := hf 7 (by omega)
        obtain ⟨d8, f8, a8⟩ := hf 8 (by omega)
        clear hf
        rw [Nat.add_zero] at f0
        obtain ⟨S, hS⟩ : ∃ S, sumTo (fun j => sz (it k j)) 9 = S := ⟨_, rfl⟩
        have HS : Hid (sumTo (fun i => sumTo (fun j => sz (it i j)) 9) (k + 1) = T + S) := by show _ = _; rw [sumTo, HT.out, hS]
        obtain ⟨L, hL⟩ : ∃ L : Nat, (l : Int) - ((n + T : Nat) : Int) = (L : Int) := ⟨l - (n + T), by omega⟩
        have cc := hit k hlt wr L d0 d1 d2 d3 d4 d5 d6 d7 d8 (by omega) a0 a1 a2 a3 a4 a5 a6 a7 a8
        rw [hS] at cc
        clear hS
        rw [hL]
        have HL := Lib.hid hL
        clear hL
        by_cases h1 : S ≤ L
        · obtain ⟨Z, hZ⟩ : ∃ Z : Nat, (L : Int) - (S : Int) = (Z : Int) := ⟨L - S, by omega⟩
          rw [show left L S = (Z : Int) from by rw [left, if_pos h1, hZ]] at cc
          have HZ := Lib.hid hZ
          clear hZ
          go_wp2_with fail
          refine cc.mono ?_
          rintro e w1 ⟨rfl, hb1⟩
          have hz0 : ¬ (Z : Int) < 0 := by omega
          go_wp2
          go_roundw
          case rel =>
            have := HZ.out
            have := HL.out
            exact ⟨k + 1, by omega, by go_num, by rw [HS.out]; omega, by rw [HS.out]; congr 1; omega, below_trans hbel hb1⟩
          case measure => simp [intOf]; omega
        · rw [left_neg h1] at cc
          go_wp2_with fail
          refine cc.mono ?_
          rintro e w1 ⟨rfl, hb1⟩
          go_wp2
          go_ret
          have := HL.out
          have h2 := sumTo_le (fun i => sumTo (fun j => sz (it i j)) 9) (i := k + 1) (n := n) hlt
          rw [HS.out] at h2
          have h3 := HR.out
          rw [left_neg (by omega)] at h3
          subst h3; exact ⟨rfl, below_trans hbel hb1⟩
      · go_wp2
        go_ret
        obtain rfl : k = n := by omega
        have := HR.out
        rw [HT.out, left_pos (by omega)] at this
        subst this; exact ⟨congrArg (fun x => Ending.returned (Value.int .i64 x)) (by omega), hbel⟩

theorem szVarDefs {d : D} (h : Sh d (.lst .vardef)) : SzL 41 d := by
  obtain ⟨n, it, rfl, hs⟩ := h.lst
  exact szLsVarDef n it fun i hi => (szRVarDef_of (it i) (hs i hi 0 _ rfl) (szRType_of _ (hs i hi 1 _ rfl) (hs i hi 2 _ rfl)) (hs i hi 3 _ rfl) (szRValue_of _ (hs i hi 4 _ rfl) (hs i hi 5 _ rfl) (szValues _ (hs i hi 6 _ rfl)) (szStrings (hs i hi 7 _ rfl))) (szDirs (hs i hi 8 _ rfl)))

/-- The contract of one. -/
def SzROp (r : Nat → D) : Prop := ∀ (w : World) (l : Nat) (d0 d1 d2 d3 d4 : Value), l ≤ 1048576 → At w (r 0) d0 → At w (r 1) d1 → At w (r 2) d2 → At w (r 3) d3 → At w (r 4) d4 →
  Calls Tryz.prog 27 #[.agg #[d0, d1, d2, d3, d4], .int .i64 l] w fun e w' => e = .returned (.int .i64 (left l (sumTo (fun j => sz (r j)) 5))) ∧ Below w.heap.size w w'
set_option maxHeartbeats 2000000 in
theorem szROp_of (r : Nat → D) (h0 : Sh (r 0) .int) (h1 : Sh (r 1) .str) (h2 : SzL 41 (r 2)) (h3 : SzL 42 (r 3)) (h4 : SzL 43 (r 4)) : SzROp r := by
  intro w l d0 d1 d2 d3 d4 hl a0 a1 a2 a3 a4
  obtain ⟨k0, e0⟩ := h0.int
  obtain ⟨u1, e1⟩ := h1.str
  have hsum : sumTo (fun j => sz (r j)) 5 = u1.size + sz (r 2) + sz (r 3) + sz (r 4) := by
    simp [sumTo, sz, e0, e1] <;> omega
  rw [hsum]
  clear hsum
  rw [e0] at a0
  obtain rfl : d0 = .int .i64 k0 := a0
  rw [e1] at a1
  obtain ⟨rfl, m1⟩ := a1
  unfold maxLen at m1
  clear e0 e1 h0 h1
  obtain ⟨S2, hS2⟩ : ∃ S, sz (r 2) = S := ⟨_, rfl⟩
  rw [hS2]
  have HS2 := Lib.hid hS2
  clear hS2
  obtain ⟨S3, hS3⟩ : ∃ S, sz (r 3) = S := ⟨_, rfl⟩
  rw [hS3]
  have HS3 := Lib.hid hS3
  clear hS3
  obtain ⟨S4, hS4⟩ : ∃ S, sz (r 4) = S := ⟨_, rfl⟩
  rw [hS4]
  have HS4 := Lib.hid hS4
  clear hS4
  obtain ⟨R, hR⟩ : ∃ R, left l (u1.size + S2 + S3 + S4) = R := ⟨_, rfl⟩
  rw [hR]
  have HR := Lib.hid hR
  clear hR
  by_cases b1 : (l : Int) - u1.size < 0
  · go_enter Tryz.func27, Tryz.ntmps27
    go_wp2
    go_ret
    have h3 := HR.out
    rw [left_neg (by omega)] at h3
    subst h3; exact ⟨rfl, below_alloc _ _⟩
  obtain ⟨L1, l1⟩ : ∃ L : Nat, (l : Int) - (u1.size : Int) = (L : Int) := ⟨l - u1.size, by omega⟩
  have g1 := Lib.hid l1
  have n1 : ¬ (L1 : Int) < 0 := by omega
  have m1' : L1 ≤ 1048576 := by omega
  go_enter Tryz.func27, Tryz.ntmps27
  have ba := below_alloc w (Obj.cells #[Value.int .i64 k0, Value.string u1, d2, d3, d4] 62)
  go_wp2_with fail
  clear l1
  have c2 := h2 _ L1 d2 (by omega) (At.below ba _ a2)
  rw [HS2.out] at c2
  by_cases b2 : S2 ≤ L1
  case neg =>
    rw [left_neg b2] at c2
    refine c2.mono ?_
    rintro e w2 ⟨rfl, hb2⟩
    go_wp2
    go_ret
    have := g1.out
    have h3 := HR.out
    rw [left_neg (by omega)] at h3
    subst h3; exact ⟨rfl, below_trans ba hb2⟩
  obtain ⟨L2, l2⟩ : ∃ L : Nat, (L1 : Int) - (S2 : Int) = (L : Int) := ⟨L1 - S2, by omega⟩
  rw [show left L1 S2 = (L2 : Int) from by rw [left, if_pos b2, l2]] at c2
  have g2 := Lib.hid l2
  have n2 : ¬ (L2 : Int) < 0 := by omega
  have m2' : L2 ≤ 1048576 := by omega
  clear l2
  refine c2.mono ?_
  rintro e w2 ⟨rfl, hb2⟩
  clear c2
  have bb2 := below_trans ba hb2
  have bx2 := hb2
  have hbox := (bx2.block w.heap.size (by simp)).trans (heap_alloc_new w _)
  have q3' : w2.cell? ⟨w.heap.size, 3, none⟩ = some (d3) := by rw [cell_of hbox]; rfl
  clear hbox
  go_wp2_with fail
  clear q3'
  have c3 := h3 w2 L2 d3 (by omega) (At.below bb2 _ a3)
  rw [HS3.out] at c3
  by_cases b3 : S3 ≤ L2
  case neg =>
    rw [left_neg b3] at c3
    refine c3.mono ?_
    rintro e w3 ⟨rfl, hb3⟩
    go_wp2
    go_ret
    have := g1.out
    have := g2.out
    have h3 := HR.out
    rw [left_neg (by omega)] at h3
    subst h3; exact ⟨rfl, below_trans bb2 hb3⟩
  obtain ⟨L3, l3⟩ : ∃ L : Nat, (L2 : Int) - (S3 : Int) = (L : Int) := ⟨L2 - S3, by omega⟩
  rw [show left L2 S3 = (L3 : Int) from by rw [left, if_pos b3, l3]] at c3
  have g3 := Lib.hid l3
  have n3 : ¬ (L3 : Int) < 0 := by omega
  have m3' : L3 ≤ 1048576 := by omega
  clear l3
  refine c3.mono ?_
  rintro e w3 ⟨rfl, hb3⟩
  clear c3
  have bb3 := below_trans bb2 hb3
  have bx3 := below_trans bx2 hb3
  have hbox := (bx3.block w.heap.size (by simp)).trans (heap_alloc_new w _)
  have q4' : w3.cell? ⟨w.heap.size, 4, none⟩ = some (d4) := by rw [cell_of hbox]; rfl
  clear hbox
  go_wp2_with fail
  clear q4'
  have c4 := h4 w3 L3 d4 (by omega) (At.below bb3 _ a4)
  rw [HS4.out] at c4
  by_cases b4 : S4 ≤ L3
  case neg =>
    rw [left_neg b4] at c4
    refine c4.mono ?_
    rintro e w4 ⟨rfl, hb4⟩
    go_wp2
    go_ret
    have := g1.out
    have := g2.out
    have := g3.out
    have h3 := HR.out
    rw [left_neg (by omega)] at h3
    subst h3; exact ⟨rfl, below_trans bb3 hb4⟩
  obtain ⟨L4, l4⟩ : ∃ L : Nat, (L3 : Int) - (S4 : Int) = (L : Int) := ⟨L3 - S4, by omega⟩
  rw [show left L3 S4 = (L4 : Int) from by rw [left, if_pos b4, l4]] at c4
  have g4 := Lib.hid l4
  have n4 : ¬ (L4 : Int) < 0 := by omega
  have m4' : L4 ≤ 1048576 := by omega
  clear l4
  refine c4.mono ?_
  rintro e w4 ⟨rfl, hb4⟩
  clear c4
  have bb4 := below_trans bb3 hb4
  go_wp2
  go_ret
  have := g1.out
  have := g2.out
  have := g3.out
  have := g4.out
  have h3 := HR.out
  rw [left_pos (by omega)] at h3
  subst h3; exact ⟨congrArg (fun x => Ending.returned (Value.int .i64 x)) (by omega), bb4⟩

theorem szOp {r : Nat → D} (hs : ∀ j g, (row .op)[j]? = some g → Sh (r j) g) : SzROp r := (szROp_of r (hs 0 _ rfl) (hs 1 _ rfl) (szVarDefs (hs 2 _ rfl)) (szDirs (hs 3 _ rfl)) (szSels _ (hs 4 _ rfl)))

/-- The contract of one. -/
def SzRFrag (r : Nat → D) : Prop := ∀ (w : World) (l : Nat) (d0 d1 d2 d3 : Value), l ≤ 1048576 → At w (r 0) d0 → At w (r 1) d1 → At w (r 2) d2 → At w (r 3) d3 →
  Calls Tryz.prog 28 #[.agg #[d0, d1, d2, d3], .int .i64 l] w fun e w' => e = .returned (.int .i64 (left l (sumTo (fun j => sz (r j)) 4))) ∧ Below w.heap.size w w'
set_option maxHeartbeats 2000000 in
theorem szRFrag_of (r : Nat → D) (h0 : Sh (r 0) .str) (h1 : Sh (r 1) .str) (h2 : SzL 42 (r 2)) (h3 : SzL 43 (r 3)) : SzRFrag r := by
  intro w l d0 d1 d2 d3 hl a0 a1 a2 a3
  obtain ⟨u0, e0⟩ := h0.str
  obtain ⟨u1, e1⟩ := h1.str
  have hsum : sumTo (fun j => sz (r j)) 4 = u0.size + u1.size + sz (r 2) + sz (r 3) := by
    simp [sumTo, sz, e0, e1] <;> omega
  rw [hsum]
  clear hsum
  rw [e0] at a0
  obtain ⟨rfl, m0⟩ := a0
  unfold maxLen at m0
  rw [e1] at a1
  obtain ⟨rfl, m1⟩ := a1
  unfold maxLen at m1
  clear e0 e1 h0 h1
  obtain ⟨S2, hS2⟩ : ∃ S, sz (r 2) = S := ⟨_, rfl⟩
  rw [hS2]
  have HS2 := Lib.hid hS2
  clear hS2
  obtain ⟨S3, hS3⟩ : ∃ S, sz (r 3) = S := ⟨_, rfl⟩
  rw [hS3]
  have HS3 := Lib.hid hS3
  clear hS3
  obtain ⟨R, hR⟩ : ∃ R, left l (u0.size + u1.size + S2 + S3) = R := ⟨_, rfl⟩
  rw [hR]
  have HR := Lib.hid hR
  clear hR
  by_cases b0 : (l : Int) - u0.size < 0
  · go_enter Tryz.func28, Tryz.ntmps28
    go_wp2
    go_ret
    have h3 := HR.out
    rw [left_neg (by omega)] at h3
    subst h3; exact ⟨rfl, below_alloc _ _⟩
  obtain ⟨L0, l0⟩ : ∃ L : Nat, (l : Int) - (u0.size : Int) = (L : Int) := ⟨l - u0.size, by omega⟩
  by_cases b1 : (L0 : Int) - u1.size < 0
  · go_enter Tryz.func28, Tryz.ntmps28
    go_wp2
    go_ret
    have h3 := HR.out
    rw [left_neg (by omega)] at h3
    subst h3; exact ⟨rfl, below_alloc _ _⟩
  obtain ⟨L1, l1⟩ : ∃ L : Nat, (L0 : Int) - (u1.size : Int) = (L : Int) := ⟨L0 - u1.size, by omega⟩
  have g0 := Lib.hid l0
  have n0 : ¬ (L0 : Int) < 0 := by omega
  have m0' : L0 ≤ 1048576 := by omega
  have g1 := Lib.hid l1
  have n1 : ¬ (L1 : Int) < 0 := by omega
  have m1' : L1 ≤ 1048576 := by omega
  go_enter Tryz.func28, Tryz.ntmps28
  have ba := below_alloc w (Obj.cells #[Value.string u0, Value.string u1, d2, d3] 64)
  go_wp2_with fail
  clear l0 l1
  have c2 := h2 _ L1 d2 (by omega) (At.below ba _ a2)
  rw [HS2.out] at c2
  by_cases b2 : S2 ≤ L1
  case neg =>
    rw [left_neg b2] at c2
    refine c2.mono ?_
    rintro e w2 ⟨rfl, hb2⟩
    go_wp2
    go_ret
    have := g0.out
    have := g1.out
    have h3 := HR.out
    rw [left_neg (by omega)] at h3
    subst h3; exact ⟨rfl, below_trans ba hb2⟩
  obtain ⟨L2, l2⟩ : ∃ L : Nat, (L1 : Int) - (S2 : Int) = (L : Int) := ⟨L1 - S2, by omega⟩
  rw [show left L1 S2 = (L2 : Int) from by rw [left, if_pos b2, l2]] at c2
  have g2 := Lib.hid l2
  have n2 : ¬ (L2 : Int) < 0 := by omega
  have m2' : L2 ≤ 1048576 := by omega
  clear l2
  refine c2.mono ?_
  rintro e w2 ⟨rfl, hb2⟩
  clear c2
  have bb2 := below_trans ba hb2
  have bx2 := hb2
  have hbox := (bx2.block w.heap.size (by simp)).trans (heap_alloc_new w _)
  have q3' : w2.cell? ⟨w.heap.size, 3, none⟩ = some (d3) := by rw [cell_of hbox]; rfl
  clear hbox
  go_wp2_with fail
  clear q3'
  have c3 := h3 w2 L2 d3 (by omega) (At.below bb2 _ a3)
  rw [HS3.out] at c3
  by_cases b3 : S3 ≤ L2
  case neg =>
    rw [left_neg b3] at c3
    refine c3.mono ?_
    rintro e w3 ⟨rfl, hb3⟩
    go_wp2
    go_ret
    have := g0.out
    have := g1.out
    have := g2.out
    have h3 := HR.out
    rw [left_neg (by omega)] at h3
    subst h3; exact ⟨rfl, below_trans bb2 hb3⟩
  obtain ⟨L3, l3⟩ : ∃ L : Nat, (L2 : Int) - (S3 : Int) = (L : Int) := ⟨L2 - S3, by omega⟩
  rw [show left L2 S3 = (L3 : Int) from by rw [left, if_pos b3, l3]] at c3
  have g3 := Lib.hid l3
  have n3 : ¬ (L3 : Int) < 0 := by omega
  have m3' : L3 ≤ 1048576 := by omega
  clear l3
  refine c3.mono ?_
  rintro e w3 ⟨rfl, hb3⟩
  clear c3
  have bb3 := below_trans bb2 hb3
  go_wp2
  go_ret
  have := g0.out
  have := g1.out
  have := g2.out
  have := g3.out
  have h3 := HR.out
  rw [left_pos (by omega)] at h3
  subst h3; exact ⟨congrArg (fun x => Ending.returned (Value.int .i64 x)) (by omega), bb3⟩

theorem szFrag {r : Nat → D} (hs : ∀ j g, (row .frag)[j]? = some g → Sh (r j) g) : SzRFrag r := (szRFrag_of r (hs 0 _ rfl) (hs 1 _ rfl) (szDirs (hs 2 _ rfl)) (szSels _ (hs 3 _ rfl)))

end Da
end Go.Proofs.YtngfhncdmlpjiaaGreat
namespace Go.Proofs.YtngfhncdmlpjiaaGreat
namespace Da
set_option linter.unusedVariables false
set_option linter.unusedSimpArgs false
open Go.RowKit
attribute [local go_sem ↓] Go.wp_at_zero Go.wp_at_succ

/-- The contract of one. -/
def SzRInDef (r : Nat → D) : Prop := ∀ (w : World) (l : Nat) (d0 d1 d2 d3 d4 d5 d6 d7 d8 d9 : Value), l ≤ 1048576 → At w (r 0) d0 → At w (r 1) d1 → At w (r 2) d2 → At w (r 3) d3 → At w (r 4) d4 → At w (r 5) d5 → At w (r 6) d6 → At w (r 7) d7 → At w (r 8) d8 → At w (r 9) d9 →
  Calls Tryz.prog 83 #[.agg #[d0, d1, d2, d3, d4, d5, d6, d7, d8, d9], .int .i64 l] w fun e w' => e = .returned (.int .i64 (left l (sumTo (fun j => sz (r j)) 10))) ∧ Below w.heap.size w w'
set_option maxHeartbeats 2000000 in
theorem szRInDef_of (r : Nat → D) (h0 : Sh (r 0) .str) (h1 : Sh (r 1) .str) (h2 : SzRType fun j => r (j + 2)) (h4 : Sh (r 4) .bool) (h5 : SzRValue fun j => r (j + 5)) (h9 : SzL 42 (r 9)) : SzRInDef r := by
  intro w l d0 d1 d2 d3 d4 d5 d6 d7 d8 d9 hl a0 a1 a2 a3 a4 a5 a6 a7 a8 a9
  obtain ⟨u0, e0⟩ := h0.str
  obtain ⟨u1, e1⟩ := h1.str
  obtain ⟨q4, e4⟩ := h4.bool
  have hsum : sumTo (fun j => sz (r j)) 10 = u0.size + u1.size + sumTo (fun j => sz (r (j + 2))) 2 + sumTo (fun j => sz (r (j + 5))) 4 + sz (r 9) := by
    simp [sumTo, sz, e0, e1, e4] <;> omega
  rw [hsum]
  clear hsum
  rw [e0] at a0
  obtain ⟨rfl, m0⟩ := a0
  unfold maxLen at m0
  rw [e1] at a1
  obtain ⟨rfl, m1⟩ := a1
  unfold maxLen at m1
  rw [e4] at a4
  obtain rfl : d4 = .bool q4 := a4
  clear e0 e1 e4 h0 h1 h4
  obtain ⟨S2, hS2⟩ : ∃ S, sumTo (fun j => sz (r (j + 2))) 2 = S := ⟨_, rfl⟩
  rw [hS2]
  have HS2 := Lib.hid hS2
  clear hS2
  obtain ⟨S5, hS5⟩ : ∃ S, sumTo (fun j => sz (r (j + 5))) 4 = S := ⟨_, rfl⟩
  rw [hS5]
  have HS5 := Lib.hid hS5
  clear hS5
  obtain ⟨S9, hS9⟩ : ∃ S, sz (r 9) = S := ⟨_, rfl⟩
  rw [hS9]
  have HS9 := Lib.hid hS9
  clear hS9
  obtain ⟨R, hR⟩ : ∃ R, left l (u0.size + u1.size + S2 + S5 + S9) = R := ⟨_, rfl⟩
  rw [hR]
  have HR := Lib.hid hR
  clear hR
  by_cases b0 : (l : Int) - u0.size < 0
  · go_enter Tryz.func83, Tryz.ntmps83
    go_wp2
    go_ret
    have h3 := HR.out
    rw [left_neg (by omega)] at h3
    subst h3; exact ⟨rfl, below_alloc _ _⟩
  obtain ⟨L0, l0⟩ : ∃ L : Nat, (l : Int) - (u0.size : Int) = (L : Int) := ⟨l - u0.size, by omega⟩
  by_cases b1 : (L0 : Int) - u1.size < 0
  · go_enter Tryz.func83, Tryz.ntmps83
    go_wp2
    go_ret
    have h3 := HR.out
    rw [left_neg (by omega)] at h3
    subst h3; exact ⟨rfl, below_alloc _ _⟩
  obtain ⟨L1, l1⟩ : ∃ L : Nat, (L0 : Int) - (u1.size : Int) = (L : Int) := ⟨L0 - u1.size, by omega⟩
  have g0 := Lib.hid l0
  have n0 : ¬ (L0 : Int) < 0 := by omega
  have m0' : L0 ≤ 1048576 := by omega
  have g1 := Lib.hid l1
  have n1 : ¬ (L1 : Int) < 0 := by omega
  have m1' : L1 ≤ 1048576 := by omega
  go_enter Tryz.func83, Tryz.ntmps83
  have ba := below_alloc w (Obj.cells #[Value.string u0, Value.string u1, d2, d3, Value.bool q4, d5, d6, d7, d8, d9] 159)
  go_wp2_with fail
  clear l0 l1
  have c2 := h2 _ L1 d2 d3 (by omega) (At.below ba _ a2) (At.below ba _ a3)
  rw [HS2.out] at c2
  by_cases b2 : S2 ≤ L1
  case neg =>
    rw [left_neg b2] at c2
    refine c2.mono ?_
    rintro e w2 ⟨rfl, hb2⟩
    go_wp2
    go_ret
    have := g0.out
    have := g1.out
    have h3 := HR.out
    rw [left_neg (by omega)] at h3
    subst h3; exact ⟨rfl, below_trans ba hb2⟩
  obtain ⟨L2, l2⟩ : ∃ L : Nat, (L1 : Int) - (S2 : Int) = (L : Int) := ⟨L1 - S2, by omega⟩
  rw [show left L1 S2 = (L2 : Int) from by rw [left, if_pos b2, l2]] at c2
  have g2 := Lib.hid l2
  have n2 : ¬ (L2 : Int) < 0 := by omega
  have m2' : L2 ≤ 1048576 := by omega
  clear l2
  refine c2.mono ?_
  rintro e w2 ⟨rfl, hb2⟩
  clear c2
  have bb2 := below_trans ba hb2
  have bx2 := hb2
  have hbox := (bx2.block w.heap.size (by simp)).trans (heap_alloc_new w _)
  have q5' : w2.cell? ⟨w.heap.size, 5, none⟩ = some (d5) := by rw [cell_of hbox]; rfl
  have q6' : w2.cell? ⟨w.heap.size, 6, none⟩ = some (d6) := by rw [cell_of hbox]; rfl
  have q7' : w2.cell? ⟨w.heap.size, 7, none⟩ = some (d7) := by rw [cell_of hbox]; rfl
  have q8' : w2.cell? ⟨w.heap.size, 8, none⟩ = some (d8) := by rw [cell_of hbox]; rfl
  clear hbox
  go_wp2_with fail
  clear q5' q6' q7' q8'
  have c5 := h5 w2 L2 d5 d6 d7 d8 (by omega) (At.below bb2 _ a5) (At.below bb2 _ a6) (At.below bb2 _ a7) (At.below bb2 _ a8)
  rw [HS5.out] at c5
  by_cases b5 : S5 ≤ L2
  case neg =>
    rw [left_neg b5] at c5
    refine c5.mono ?_
    rintro e w5 ⟨rfl, hb5⟩
    go_wp2
    go_ret
    have := g0.out
    have := g1.out
    have := g2.out
    have h3 := HR.out
    rw [left_neg (by omega)] at h3
    subst h3; exact ⟨rfl, below_trans bb2 hb5⟩
  obtain ⟨L5, l5⟩ : ∃ L : Nat, (L2 : Int) - (S5 : Int) = (L : Int) := ⟨L2 - S5, by omega⟩
  rw [show left L2 S5 = (L5 : Int) from by rw [left, if_pos b5, l5]] at c5
  have g5 := Lib.hid l5
  have n5 : ¬ (L5 : Int) < 0 := by omega
  have m5' : L5 ≤ 1048576 := by omega
  clear l5
  refine c5.mono ?_
  rintro e w5 ⟨rfl, hb5⟩
  clear c5
  have bb5 := below_trans bb2 hb5
  have bx5 := below_trans bx2 hb5
  have hbox := (bx5.block w.heap.size (by simp)).trans (heap_alloc_new w _)
  have q9' : w5.cell? ⟨w.heap.size, 9, none⟩ = some (d9) := by rw [cell_of hbox]; rfl
  clear hbox
  go_wp2_with fail
  clear q9'
  have c9 := h9 w5 L5 d9 (by omega) (At.below bb5 _ a9)
  rw [HS9.out] at c9
  by_cases b9 : S9 ≤ L5
  case neg =>
    rw [left_neg b9] at c9
    refine c9.mono ?_
    rintro e w9 ⟨rfl, hb9⟩
    go_wp2
    go_ret
    have := g0.out
    have := g1.out
    have := g2.out
    have := g5.out
    have h3 := HR.out
    rw [left_neg (by omega)] at h3
    subst h3; exact ⟨rfl, below_trans bb5 hb9⟩
  obtain ⟨L9, l9⟩ : ∃ L : Nat, (L5 : Int) - (S9 : Int) = (L : Int) := ⟨L5 - S9, by omega⟩
  rw [show left L5 S9 = (L9 : Int) from by rw [left, if_pos b9, l9]] at c9
  have g9 := Lib.hid l9
  have n9 : ¬ (L9 : Int) < 0 := by omega
  have m9' : L9 ≤ 1048576 := by omega
  clear l9
  refine c9.mono ?_
  rintro e w9 ⟨rfl, hb9⟩
  clear c9
  have bb9 := below_trans bb5 hb9
  go_wp2
  go_ret
  have := g0.out
  have := g1.out
  have := g2.out
  have := g5.out
  have := g9.out
  have h3 := HR.out
  rw [left_pos (by omega)] at h3
  subst h3; exact ⟨congrArg (fun x => Ending.returned (Value.int .i64 x)) (by omega), bb9⟩

theorem szInDef {r : Nat → D} (hs : ∀ j g, (row .indef)[j]? = some g → Sh (r j) g) : SzRInDef r := (szRInDef_of r (hs 0 _ rfl) (hs 1 _ rfl) (szRType_of _ (hs 2 _ rfl) (hs 3 _ rfl)) (hs 4 _ rfl) (szRValue_of _ (hs 5 _ rfl) (hs 6 _ rfl) (szValues _ (hs 7 _ rfl)) (szStrings (hs 8 _ rfl))) (szDirs (hs 9 _ rfl)))

set_option maxHeartbeats 1000000 in
theorem szLsInDef (n : Nat) (it : Nat → Nat → D) (hit : ∀ i, i < n → SzRInDef (it i)) : SzL 46 (.list 10 n it) := by
  intro w l c hl h
  have HI := Lib.hid h
  obtain ⟨A, cap, rfl, hm⟩ := h.slice
  clear h
  unfold maxLen at hm
  have hR0 : sz (.list 10 n it) = n + sumTo (fun i => sumTo (fun j => sz (it i j)) 10) n := rfl
  obtain ⟨R, hR⟩ : ∃ R, left l (n + sumTo (fun i => sumTo (fun j => sz (it i j)) 10) n) = R := ⟨_, rfl⟩
  rw [hR0, hR]
  clear hR0
  have HR := Lib.hid hR
  clear hR
  by_cases h0 : (l : Int) - n < 0
  · go_enter Tryz.func46, Tryz.ntmps46
    go_wp2
    go_ret
    have := HR.out
    rw [left_neg (by omega)] at this
    subst this; exact ⟨rfl, Below.refl _ _⟩
  · go_enter Tryz.func46, Tryz.ntmps46
    go_wp2
    go_loopw [1, 5] (fun x i wr => ∃ k : Nat, k ≤ n ∧ i = .int .i64 k ∧ n + sumTo (fun i => sumTo (fun j => sz (it i j)) 10) k ≤ l ∧ x = .int .i64 ((l : Int) - (n + sumTo (fun i => sumTo (fun j => sz (it i j)) 10) k : Nat)) ∧ Below w.heap.size w wr) (fun _ i _ => n - (intOf i).toNat)
    case atStart => exact ⟨0, Nat.zero_le _, rfl, by simp only [sumTo]; omega, by simp [sumTo], Below.refl _ _⟩
    case round =>
      obtain ⟨k, hk, rfl, hle, rfl, hbel⟩ := hrel
      obtain ⟨T, hT⟩ : ∃ T, sumTo (fun i => sumTo (fun j => sz (it i j)) 10) k = T := ⟨_, rfl⟩
      rw [hT] at hle
      rw [hT]
      have HT := Lib.hid hT
      clear hT
      by_cases hlt : k < n
      · have hk0 : (0 : Int) ≤ (k : Int) := by omega
        have hk1 : (k : Int) < (n : Int) := by omega
        obtain ⟨b, o, e2, hf⟩ := (At.below hbel _ HI.out).nth hlt
        subst e2
        obtain ⟨d0, f0, a0⟩ := hf 0 (by omega)
        obtain ⟨d1, f1, a1⟩ := hf 1 (by omega)
        obtain ⟨d2, f2, a2⟩ := hf 2 (by omega)
        obtain ⟨d3, f3, a3⟩ := hf 3 (by omega)
        obtain ⟨d4, f4, a4⟩ := hf 4 (by omega)
        obtain ⟨d5, f5, a5⟩ := hf 5 (by omega)
        obtain ⟨d6, f6, a6⟩ := hf 6 (by omega)
        obtain ⟨d7, f7, a7⟩ := hf 7 (by omega)
        obtain ⟨d8, f8, a8⟩ := hf 8 (by omega)
        obtain ⟨d9, f9, a9⟩ := hf 9 (by omega)
        clear hf
        rw [Nat.add_zero] at f0
        obtain ⟨S, hS⟩ : ∃ S, sumTo (fun j => sz (it k j)) 10 = S := ⟨_, rfl⟩
        have HS : Hid (sumTo (fun i => sumTo (fun j => sz (it i j)) 10) (k + 1) = T + S) := by show _ = _; rw [sumTo, HT.out, hS]
        obtain ⟨L, hL⟩ : ∃ L : Nat, (l : Int) - ((n + T : Nat) : Int) = (L : Int) := ⟨l - (n + T), by omega⟩
        have cc := hit k hlt wr L d0 d1 d2 d3 d4 d5 d6 d7 d8 d9 (by omega) a0 a1 a2 a3 a4 a5 a6 a7 a8 a9
        rw [hS] at cc
        clear hS
        rw [hL]
        have HL := Lib.hid hL
        clear hL
        by_cases h1 : S ≤ L
        · obtain ⟨Z, hZ⟩ : ∃ Z : Nat, (L : Int) - (S : Int) = (Z : Int) := ⟨L - S, by omega⟩
          rw [show left L S = (Z : Int) from by rw [left, if_pos h1, hZ]] at cc
          have HZ := Lib.hid hZ
          clear hZ
          go_wp2_with fail
          refine cc.mono ?_
          rintro e w1 ⟨rfl, hb1⟩
          have hz0 : ¬ (Z : Int) < 0 := by omega
          go_wp2
          go_roundw
          case rel =>
            have := HZ.out
            have := HL.out
            exact ⟨k + 1, by omega, by go_num, by rw [HS.out]; omega, by rw [HS.out]; congr 1; omega, below_trans hbel hb1⟩
          case measure => simp [intOf]; omega
        · rw [left_neg h1] at cc
          go_wp2_with fail
          refine cc.mono ?_
          rintro e w1 ⟨rfl, hb1⟩
          go_wp2
          go_ret
          have := HL.out
          have h2 := sumTo_le (fun i => sumTo (fun j => sz (it i j)) 10) (i := k + 1) (n := n) hlt
          rw [HS.out] at h2
          have h3 := HR.out
          rw [left_neg (by omega)] at h3
          subst h3; exact ⟨rfl, below_trans hbel hb1⟩
      · go_wp2
        go_ret
        obtain rfl : k = n := by omega
        have := HR.out
        rw [HT.out, left_pos (by omega)] at this
        subst this; exact ⟨congrArg (fun x => Ending.returned (Value.int .i64 x)) (by omega), hbel⟩

theorem szInDefs {d : D} (h : Sh d (.lst .indef)) : SzL 46 d := by
  obtain ⟨n, it, rfl, hs⟩ := h.lst
  exact szLsInDef n it fun i hi => (szRInDef_of (it i) (hs i hi 0 _ rfl) (hs i hi 1 _ rfl) (szRType_of _ (hs i hi 2 _ rfl) (hs i hi 3 _ rfl)) (hs i hi 4 _ rfl) (szRValue_of _ (hs i hi 5 _ rfl) (hs i hi 6 _ rfl) (szValues _ (hs i hi 7 _ rfl)) (szStrings (hs i hi 8 _ rfl))) (szDirs (hs i hi 9 _ rfl)))

/-- The contract of one. -/
def SzRFieldDef (r : Nat → D) : Prop := ∀ (w : World) (l : Nat) (d0 d1 d2 d3 d4 d5 : Value), l ≤ 1048576 → At w (r 0) d0 → At w (r 1) d1 → At w (r 2) d2 → At w (r 3) d3 → At w (r 4) d4 → At w (r 5) d5 →
  Calls Tryz.prog 82 #[.agg #[d0, d1, d2, d3, d4, d5], .int .i64 l] w fun e w' => e = .returned (.int .i64 (left l (sumTo (fun j => sz (r j)) 6))) ∧ Below w.heap.size w w'
set_option maxHeartbeats 2000000 in
theorem szRFieldDef_of (r : Nat → D) (h0 : Sh (r 0) .str) (h1 : Sh (r 1) .str) (h2 : SzL 46 (r 2)) (h3 : SzRType fun j => r (j + 3)) (h5 : SzL 42 (r 5)) : SzRFieldDef r := by
  intro w l d0 d1 d2 d3 d4 d5 hl a0 a1 a2 a3 a4 a5
  obtain ⟨u0, e0⟩ := h0.str
  obtain ⟨u1, e1⟩ := h1.str
  have hsum : sumTo (fun j => sz (r j)) 6 = u0.size + u1.size + sz (r 2) + sumTo (fun j => sz (r (j + 3))) 2 + sz (r 5) := by
    simp [sumTo, sz, e0, e1] <;> omega
  rw [hsum]
  clear hsum
  rw [e0] at a0
  obtain ⟨rfl, m0⟩ := a0
  unfold maxLen at m0
  rw [e1] at a1
  obtain ⟨rfl, m1⟩ := a1
  unfold maxLen at m1
  clear e0 e1 h0 h1
  obtain ⟨S2, hS2⟩ : ∃ S, sz (r 2) = S := ⟨_, rfl⟩
  rw [hS2]
  have HS2 := Lib.hid hS2
  clear hS2
  obtain ⟨S3, hS3⟩ : ∃ S, sumTo (fun j => sz (r (j + 3))) 2 = S := ⟨_, rfl⟩
  rw [hS3]
  have HS3 := Lib.hid hS3
  clear hS3
  obtain ⟨S5, hS5⟩ : ∃ S, sz (r 5) = S := ⟨_, rfl⟩
  rw [hS5]
  have HS5 := Lib.hid hS5
  clear hS5
  obtain ⟨R, hR⟩ : ∃ R, left l (u0.size + u1.size + S2 + S3 + S5) = R := ⟨_, rfl⟩
  rw [hR]
  have HR := Lib.hid hR
  clear hR
  by_cases b0 : (l : Int) - u0.size < 0
  · go_enter Tryz.func82, Tryz.ntmps82
    go_wp2
    go_ret
    have h3 := HR.out
    rw [left_neg (by omega)] at h3
    subst h3; exact ⟨rfl, below_alloc _ _⟩
  obtain ⟨L0, l0⟩ : ∃ L : Nat, (l : Int) - (u0.size : Int) = (L : Int) := ⟨l - u0.size, by omega⟩
  by_cases b1 : (L0 : Int) - u1.size < 0
  · go_enter Tryz.func82, Tryz.ntmps82
    go_wp2
    go_ret
    have h3 := HR.out
    rw [left_neg (by omega)] at h3
    subst h3; exact ⟨rfl, below_alloc _ _⟩
  obtain ⟨L1, l1⟩ : ∃ L : Nat, (L0 : Int) - (u1.size : Int) = (L : Int) := ⟨L0 - u1.size, by omega⟩
  have g0 := Lib.hid l0
  have n0 : ¬ (L0 : Int) < 0 := by omega
  have m0' : L0 ≤ 1048576 := by omega
  have g1 := Lib.hid l1
  have n1 : ¬ (L1 : Int) < 0 := by omega
  have m1' : L1 ≤ 1048576 := by omega
  go_enter Tryz.func82, Tryz.ntmps82
  have ba := below_alloc w (Obj.cells #[Value.string u0, Value.string u1, d2, d3, d4, d5] 156)
  go_wp2_with fail
  clear l0 l1
  have c2 := h2 _ L1 d2 (by omega) (At.below ba _ a2)
  rw [HS2.out] at c2
  by_cases b2 : S2 ≤ L1
  case neg =>
    rw [left_neg b2] at c2
    refine c2.mono ?_
    rintro e w2 ⟨rfl, hb2⟩
    go_wp2
    go_ret
    have := g0.out
    have := g1.out
    have h3 := HR.out
    rw [left_neg (by omega)] at h3
    subst h3; exact ⟨rfl, below_trans ba hb2⟩
  obtain ⟨L2, l2⟩ : ∃ L : Nat, (L1 : Int) - (S2 : Int) = (L : Int) := ⟨L1 - S2, by omega⟩
  rw [show left L1 S2 = (L2 : Int) from by rw [left, if_pos b2, l2]] at c2
  have g2 := Lib.hid l2
  have n2 : ¬ (L2 : Int) < 0 := by omega
  have m2' : L2 ≤ 1048576 := by omega
  clear l2
  refine c2.mono ?_
  rintro e w2 ⟨rfl, hb2⟩
  clear c2
  have bb2 := below_trans ba hb2
  have bx2 := hb2
  have hbox := (bx2.block w.heap.size (by simp)).trans (heap_alloc_new w _)
  have q3' : w2.cell? ⟨w.heap.size, 3, none⟩ = some (d3) := by rw [cell_of hbox]; rfl
  have q4' : w2.cell? ⟨w.heap.size, 4, none⟩ = some (d4) := by rw [cell_of hbox]; rfl
  clear hbox
  go_wp2_with fail
  clear q3' q4'
  have c3 := h3 w2 L2 d3 d4 (by omega) (At.below bb2 _ a3) (At.below bb2 _ a4)
  rw [HS3.out] at c3
  by_cases b3 : S3 ≤ L2
  case neg =>
    rw [left_neg b3] at c3
    refine c3.mono ?_
    rintro e w3 ⟨rfl, hb3⟩
    go_wp2
    go_ret
    have := g0.out
    have := g1.out
    have := g2.out
    have h3 := HR.out
    rw [left_neg (by omega)] at h3
    subst h3; exact ⟨rfl, below_trans bb2 hb3⟩
  obtain ⟨L3, l3⟩ : ∃ L : Nat, (L2 : Int) - (S3 : Int) = (L : Int) := ⟨L2 - S3, by omega⟩
  rw [show left L2 S3 = (L3 : Int) from by rw [left, if_pos b3, l3]] at c3
  have g3 := Lib.hid l3
  have n3 : ¬ (L3 : Int) < 0 := by omega
  have m3' : L3 ≤ 1048576 := by omega
  clear l3
  refine c3.mono ?_
  rintro e w3 ⟨rfl, hb3⟩
  clear c3
  have bb3 := below_trans bb2 hb3
  have bx3 := below_trans bx2 hb3
  have hbox := (bx3.block w.heap.size (by simp)).trans (heap_alloc_new w _)
  have q5' : w3.cell? ⟨w.heap.size, 5, none⟩ = some (d5) := by rw [cell_of hbox]; rfl
  clear hbox
  go_wp2_with fail
  clear q5'
  have c5 := h5 w3 L3 d5 (by omega) (At.below bb3 _ a5)
  rw [HS5.out] at c5
  by_cases b5 : S5 ≤ L3
  case neg =>
    rw [left_neg b5] at c5
    refine c5.mono ?_
    rintro e w5 ⟨rfl, hb5⟩
    go_wp2
    go_ret
    have := g0.out
    have := g1.out
    have := g2.out
    have := g3.out
    have h3 := HR.out
    rw [left_neg (by omega)] at h3
    subst h3; exact ⟨rfl, below_trans bb3 hb5⟩
  obtain ⟨L5, l5⟩ : ∃ L : Nat, (L3 : Int) - (S5 : Int) = (L : Int) := ⟨L3 - S5, by omega⟩
  rw [show left L3 S5 = (L5 : Int) from by rw [left, if_pos b5, l5]] at c5
  have g5 := Lib.hid l5
  have n5 : ¬ (L5 : Int) < 0 := by omega
  have m5' : L5 ≤ 1048576 := by omega
  clear l5
  refine c5.mono ?_
  rintro e w5 ⟨rfl, hb5⟩
  clear c5
  have bb5 := below_trans bb3 hb5
  go_wp2
  go_ret
  have := g0.out
  have := g1.out
  have := g2.out
  have := g3.out
  have := g5.out
  have h3 := HR.out
  rw [left_pos (by omega)] at h3
  subst h3; exact ⟨congrArg (fun x => Ending.returned (Value.int .i64 x)) (by omega), bb5⟩

theorem szFieldDef {r : Nat → D} (hs : ∀ j g, (row .fielddef)[j]? = some g → Sh (r j) g) : SzRFieldDef r := (szRFieldDef_of r (hs 0 _ rfl) (hs 1 _ rfl) (szInDefs (hs 2 _ rfl)) (szRType_of _ (hs 3 _ rfl) (hs 4 _ rfl)) (szDirs (hs 5 _ rfl)))

set_option maxHeartbeats 1000000 in
theorem szLsFieldDef (n : Nat) (it : Nat → Nat → D) (hit : ∀ i, i < n → SzRFieldDef (it i)) : SzL 45 (.list 6 n it) := by
  intro w l c hl h
  have HI := Lib.hid h
  obtain ⟨A, cap, rfl, hm⟩ := h.slice
  clear h
  unfold maxLen at hm
  have hR0 : sz (.list 6 n it) = n + sumTo (fun i => sumTo (fun j => sz (it i j)) 6) n := rfl
  obtain ⟨R, hR⟩ : ∃ R, left l (n + sumTo (fun i => sumTo (fun j => sz (it i j)) 6) n) = R := ⟨_, rfl⟩
  rw [hR0, hR]
  clear hR0
  have HR := Lib.hid hR
  clear hR
  by_cases h0 : (l : Int) - n < 0
  · go_enter Tryz.func45, Tryz.ntmps45
    go_wp2
    go_ret
    have := HR.out
    rw [left_neg (by omega)] at this
    subst this; exact ⟨rfl, Below.refl _ _⟩
  · go_enter Tryz.func45, Tryz.ntmps45
    go_wp2
    go_loopw [1, 5] (fun x i wr => ∃ k : Nat, k ≤ n ∧ i = .int .i64 k ∧ n + sumTo (fun i => sumTo (fun j => sz (it i j)) 6) k ≤ l ∧ x = .int .i64 ((l : Int) - (n + sumTo (fun i => sumTo (fun j => sz (it i j)) 6) k : Nat)) ∧ Below w.heap.size w wr) (fun _ i _ => n - (intOf i).toNat)
    case atStart => exact ⟨0, Nat.zero_le _, rfl, by simp only [sumTo]; omega, by simp [sumTo], Below.refl _ _⟩
    case round =>
      obtain ⟨k, hk, rfl, hle, rfl, hbel⟩ := hrel
      obtain ⟨T, hT⟩ : ∃ T, sumTo (fun i => sumTo (fun j => sz (it i j)) 6) k = T := ⟨_, rfl⟩
      rw [hT] at hle
      rw [hT]
      have HT := Lib.hid hT
      clear hT
      by_cases hlt : k < n
      · have hk0 : (0 : Int) ≤ (k : Int) := by omega
        have hk1 : (k : Int) < (n : Int) := by omega
        obtain ⟨b, o, e2, hf⟩ := (At.below hbel _ HI.out).nth hlt
        subst e2
        obtain ⟨d0, f0, a0⟩ := hf 0 (by omega)
        obtain ⟨d1, f1, a1⟩ := hf 1 (by omega)
        obtain ⟨d2, f2, a2⟩ := hf 2 (by omega)
        obtain ⟨d3, f3, a3⟩ := hf 3 (by omega)
        obtain ⟨d4, f4, a4⟩ := hf 4 (by omega)
        obtain ⟨d5, f5, a5⟩ := hf 5 (by omega)
        clear hf
        rw [Nat.add_zero] at f0
        obtain ⟨S, hS⟩ : ∃ S, sumTo (fun j => sz (it k j)) 6 = S := ⟨_, rfl⟩
        have HS : Hid (sumTo (fun i => sumTo (fun j => sz (it i j)) 6) (k + 1) = T + S) := by show _ = _; rw [sumTo, HT.out, hS]
        obtain ⟨L, hL⟩ : ∃ L : Nat, (l : Int) - ((n + T : Nat) : Int) = (L : Int) := ⟨l - (n + T), by omega⟩
        have cc := hit k hlt wr L d0 d1 d2 d3 d4 d5 (by omega) a0 a1 a2 a3 a4 a5
        rw [hS] at cc
        clear hS
        rw [hL]
        have HL := Lib.hid hL
        clear hL
        by_cases h1 : S ≤ L
        · obtain ⟨Z, hZ⟩ : ∃ Z : Nat, (L : Int) - (S : Int) = (Z : Int) := ⟨L - S, by omega⟩
          rw [show left L S = (Z : Int) from by rw [left, if_pos h1, hZ]] at cc
          have HZ := Lib.hid hZ
          clear hZ
          go_wp2_with fail
          refine cc.mono ?_
          rintro e w1 ⟨rfl, hb1⟩
          have hz0 : ¬ (Z : Int) < 0 := by omega
          go_wp2
          go_roundw
          case rel =>
            have := HZ.out
            have := HL.out
            exact ⟨k + 1, by omega, by go_num, by rw [HS.out]; omega, by rw [HS.out]; congr 1; omega, below_trans hbel hb1⟩
          case measure => simp [intOf]; omega
        · rw [left_neg h1] at cc
          go_wp2_with fail
          refine cc.mono ?_
          rintro e w1 ⟨rfl, hb1⟩
          go_wp2
          go_ret
          have := HL.out
          have h2 := sumTo_le (fun i => sumTo (fun j => sz (it i j)) 6) (i := k + 1) (n := n) hlt
          rw [HS.out] at h2
          have h3 := HR.out
          rw [left_neg (by omega)] at h3
          subst h3; exact ⟨rfl, below_trans hbel hb1⟩
      · go_wp2
        go_ret
        obtain rfl : k = n := by omega
        have := HR.out
        rw [HT.out, left_pos (by omega)] at this
        subst this; exact ⟨congrArg (fun x => Ending.returned (Value.int .i64 x)) (by omega), hbel⟩

theorem szFieldDefs {d : D} (h : Sh d (.lst .fielddef)) : SzL 45 d := by
  obtain ⟨n, it, rfl, hs⟩ := h.lst
  exact szLsFieldDef n it fun i hi => (szRFieldDef_of (it i) (hs i hi 0 _ rfl) (hs i hi 1 _ rfl) (szInDefs (hs i hi 2 _ rfl)) (szRType_of _ (hs i hi 3 _ rfl) (hs i hi 4 _ rfl)) (szDirs (hs i hi 5 _ rfl)))

/-- The contract of one. -/
def SzREnumDef (r : Nat → D) : Prop := ∀ (w : World) (l : Nat) (d0 d1 d2 : Value), l ≤ 1048576 → At w (r 0) d0 → At w (r 1) d1 → At w (r 2) d2 →
  Calls Tryz.prog 84 #[.agg #[d0, d1, d2], .int .i64 l] w fun e w' => e = .returned (.int .i64 (left l (sumTo (fun j => sz (r j)) 3))) ∧ Below w.heap.size w w'
set_option maxHeartbeats 2000000 in
theorem szREnumDef_of (r : Nat → D) (h0 : Sh (r 0) .str) (h1 : Sh (r 1) .str) (h2 : SzL 42 (r 2)) : SzREnumDef r := by
  intro w l d0 d1 d2 hl a0 a1 a2
  obtain ⟨u0, e0⟩ := h0.str
  obtain ⟨u1, e1⟩ := h1.str
  have hsum : sumTo (fun j => sz (r j)) 3 = u0.size + u1.size + sz (r 2) := by
    simp [sumTo, sz, e0, e1] <;> omega
  rw [hsum]
  clear hsum
  rw [e0] at a0
  obtain ⟨rfl, m0⟩ := a0
  unfold maxLen at m0
  rw [e1] at a1
  obtain ⟨rfl, m1⟩ := a1
  unfold maxLen at m1
  clear e0 e1 h0 h1
  obtain ⟨S2, hS2⟩ : ∃ S, sz (r 2) = S := ⟨_, rfl⟩
  rw [hS2]
  have HS2 := Lib.hid hS2
  clear hS2
  obtain ⟨R, hR⟩ : ∃ R, left l (u0.size + u1.size + S2) = R := ⟨_, rfl⟩
  rw [hR]
  have HR := Lib.hid hR
  clear hR
  by_cases b0 : (l : Int) - u0.size < 0
  · go_enter Tryz.func84, Tryz.ntmps84
    go_wp2
    go_ret
    have h3 := HR.out
    rw [left_neg (by omega)] at h3
    subst h3; exact ⟨rfl, below_alloc _ _⟩
  obtain ⟨L0, l0⟩ : ∃ L : Nat, (l : Int) - (u0.size : Int) = (L : Int) := ⟨l - u0.size, by omega⟩
  by_cases b1 : (L0 : Int) - u1.size < 0
  · go_enter Tryz.func84, Tryz.ntmps84
    go_wp2
    go_ret
    have h3 := HR.out
    rw [left_neg (by omega)] at h3
    subst h3; exact ⟨rfl, below_alloc _ _⟩
  obtain ⟨L1, l1⟩ : ∃ L : Nat, (L0 : Int) - (u1.size : Int) = (L : Int) := ⟨L0 - u1.size, by omega⟩
  have g0 := Lib.hid l0
  have n0 : ¬ (L0 : Int) < 0 := by omega
  have m0' : L0 ≤ 1048576 := by omega
  have g1 := Lib.hid l1
  have n1 : ¬ (L1 : Int) < 0 := by omega
  have m1' : L1 ≤ 1048576 := by omega
  go_enter Tryz.func84, Tryz.ntmps84
  have ba := below_alloc w (Obj.cells #[Value.string u0, Value.string u1, d2] 162)
  go_wp2_with fail
  clear l0 l1
  have c2 := h2 _ L1 d2 (by omega) (At.below ba _ a2)
  rw [HS2.out] at c2
  by_cases b2 : S2 ≤ L1
  case neg =>
    rw [left_neg b2] at c2
    refine c2.mono ?_
    rintro e w2 ⟨rfl, hb2⟩
    go_wp2
    go_ret
    have := g0.out
    have := g1.out
    have h3 := HR.out
    rw [left_neg (by omega)] at h3
    subst h3; exact ⟨rfl, below_trans ba hb2⟩
  obtain ⟨L2, l2⟩ : ∃ L : Nat, (L1 : Int) - (S2 : Int) = (L : Int) := ⟨L1 - S2, by omega⟩
  rw [show left L1 S2 = (L2 : Int) from by rw [left, if_pos b2, l2]] at c2
  have g2 := Lib.hid l2
  have n2 : ¬ (L2 : Int) < 0 := by omega
  have m2' : L2 ≤ 1048576 := by omega
  clear l2
  refine c2.mono ?_
  rintro e w2 ⟨rfl, hb2⟩
  clear c2
  have bb2 := below_trans ba hb2
  go_wp2
  go_ret
  have := g0.out
  have := g1.out
  have := g2.out
  have h3 := HR.out
  rw [left_pos (by omega)] at h3
  subst h3; exact ⟨congrArg (fun x => Ending.returned (Value.int .i64 x)) (by omega), bb2⟩

theorem szEnumDef {r : Nat → D} (hs : ∀ j g, (row .enumdef)[j]? = some g → Sh (r j) g) : SzREnumDef r := (szREnumDef_of r (hs 0 _ rfl) (hs 1 _ rfl) (szDirs (hs 2 _ rfl)))

set_option maxHeartbeats 1000000 in
theorem szLsEnumDef (n : Nat) (it : Nat → Nat → D) (hit : ∀ i, i < n → SzREnumDef (it i)) : SzL 47 (.list 3 n it) := by
  intro w l c hl h
  have HI := Lib.hid h
  obtain ⟨A, cap, rfl, hm⟩ := h.slice
  clear h
  unfold maxLen at hm
  have hR0 : sz (.list 3 n it) = n + sumTo (fun i => sumTo (fun j => sz (it i j)) 3) n := rfl
  obtain ⟨R, hR⟩ : ∃ R, left l (n + sumTo (fun i => sumTo (fun j => sz (it i j)) 3) n) = R := ⟨_, rfl⟩
  rw [hR0, hR]
  clear hR0
  have HR := Lib.hid hR
  clear hR
  by_cases h0 : (l : Int) - n < 0
  · go_enter Tryz.func47, Tryz.ntmps47
    go_wp2
    go_ret
    have := HR.out
    rw [left_neg (by omega)] at this
    subst this; exact ⟨rfl, Below.refl _ _⟩
  · go_enter Tryz.func47, Tryz.ntmps47
    go_wp2
    go_loopw [1, 5] (fun x i wr => ∃ k : Nat, k ≤ n ∧ i = .int .i64 k ∧ n + sumTo (fun i => sumTo (fun j => sz (it i j)) 3) k ≤ l ∧ x = .int .i64 ((l : Int) - (n + sumTo (fun i => sumTo (fun j => sz (it i j)) 3) k : Nat)) ∧ Below w.heap.size w wr) (fun _ i _ => n - (intOf i).toNat)
    case atStart => exact ⟨0, Nat.zero_le _, rfl, by simp only [sumTo]; omega, by simp [sumTo], Below.refl _ _⟩
    case round =>
      obtain ⟨k, hk, rfl, hle, rfl, hbel⟩ := hrel
      obtain ⟨T, hT⟩ : ∃ T, sumTo (fun i => sumTo (fun j => sz (it i j)) 3) k = T := ⟨_, rfl⟩
      rw [hT] at hle
      rw [hT]
      have HT := Lib.hid hT
      clear hT
      by_cases hlt : k < n
      · have hk0 : (0 : Int) ≤ (k : Int) := by omega
        have hk1 : (k : Int) < (n : Int) := by omega
        obtain ⟨b, o, e2, hf⟩ := (At.below hbel _ HI.out).nth hlt
        subst e2
        obtain ⟨d0, f0, a0⟩ := hf 0 (by omega)
        obtain ⟨d1, f1, a1⟩ := hf 1 (by omega)
        obtain ⟨d2, f2, a2⟩ := hf 2 (by omega)
        clear hf
        rw [Nat.add_zero] at f0
        obtain ⟨S, hS⟩ : ∃ S, sumTo (fun j => sz (it k j)) 3 = S := ⟨_, rfl⟩
        have HS : Hid (sumTo (fun i => sumTo (fun j => sz (it i j)) 3) (k + 1) = T + S) := by show _ = _; rw [sumTo, HT.out, hS]
        obtain ⟨L, hL⟩ : ∃ L : Nat, (l : Int) - ((n + T : Nat) : Int) = (L : Int) := ⟨l - (n + T), by omega⟩
        have cc := hit k hlt wr L d0 d1 d2 (by omega) a0 a1 a2
        rw [hS] at cc
        clear hS
        rw [hL]
        have HL := Lib.hid hL
        clear hL
        by_cases h1 : S ≤ L
        · obtain ⟨Z, hZ⟩ : ∃ Z : Nat, (L : Int) - (S : Int) = (Z : Int) := ⟨L - S, by omega⟩
          rw [show left L S = (Z : Int) from by rw [left, if_pos h1, hZ]] at cc
          have HZ := Lib.hid hZ
          clear hZ
          go_wp2_with fail
          refine cc.mono ?_
          rintro e w1 ⟨rfl, hb1⟩
          have hz0 : ¬ (Z : Int) < 0 := by omega
          go_wp2
          go_roundw
          case rel =>
            have := HZ.out
            have := HL.out
            exact ⟨k + 1, by omega, by go_num, by rw [HS.out]; omega, by rw [HS.out]; congr 1; omega, below_trans hbel hb1⟩
          case measure => simp [intOf]; omega
        · rw [left_neg h1] at cc
          go_wp2_with fail
          refine cc.mono ?_
          rintro e w1 ⟨rfl, hb1⟩
          go_wp2
          go_ret
          have := HL.out
          have h2 := sumTo_le (fun i => sumTo (fun j => sz (it i j)) 3) (i := k + 1) (n := n) hlt
          rw [HS.out] at h2
          have h3 := HR.out
          rw [left_neg (by omega)] at h3
          subst h3; exact ⟨rfl, below_trans hbel hb1⟩
      · go_wp2
        go_ret
        obtain rfl : k = n := by omega
        have := HR.out
        rw [HT.out, left_pos (by omega)] at this
        subst this; exact ⟨congrArg (fun x => Ending.returned (Value.int .i64 x)) (by omega), hbel⟩

theorem szEnumDefs {d : D} (h : Sh d (.lst .enumdef)) : SzL 47 d := by
  obtain ⟨n, it, rfl, hs⟩ := h.lst
  exact szLsEnumDef n it fun i hi => (szREnumDef_of (it i) (hs i hi 0 _ rfl) (hs i hi 1 _ rfl) (szDirs (hs i hi 2 _ rfl)))

/-- The contract of one. -/
def SzRRoot (r : Nat → D) : Prop := ∀ (w : World) (l : Nat) (d0 d1 : Value), l ≤ 1048576 → At w (r 0) d0 → At w (r 1) d1 →
  Calls Tryz.prog 85 #[.agg #[d0, d1], .int .i64 l] w fun e w' => e = .returned (.int .i64 (left l (sumTo (fun j => sz (r j)) 2))) ∧ Below w.heap.size w w'
set_option maxHeartbeats 2000000 in
theorem szRRoot_of (r : Nat → D) (h0 : Sh (r 0) .int) (h1 : Sh (r 1) .str) : SzRRoot r := by
  intro w l d0 d1 hl a0 a1
  obtain ⟨k0, e0⟩ := h0.int
  obtain ⟨u1, e1⟩ := h1.str
  have hsum : sumTo (fun j => sz (r j)) 2 = u1.size := by
    simp [sumTo, sz, e0, e1] <;> omega
  rw [hsum]
  clear hsum
  rw [e0] at a0
  obtain rfl : d0 = .int .i64 k0 := a0
  rw [e1] at a1
  obtain ⟨rfl, m1⟩ := a1
  unfold maxLen at m1
  clear e0 e1 h0 h1
  obtain ⟨R, hR⟩ : ∃ R, left l (u1.size) = R := ⟨_, rfl⟩
  rw [hR]
  have HR := Lib.hid hR
  clear hR
  by_cases b1 : (l : Int) - u1.size < 0
  · go_enter Tryz.func85, Tryz.ntmps85
    go_wp2
    go_ret
    have h3 := HR.out
    rw [left_neg (by omega)] at h3
    subst h3; exact ⟨rfl, below_alloc _ _⟩
  obtain ⟨L1, l1⟩ : ∃ L : Nat, (l : Int) - (u1.size : Int) = (L : Int) := ⟨l - u1.size, by omega⟩
  have g1 := Lib.hid l1
  have n1 : ¬ (L1 : Int) < 0 := by omega
  have m1' : L1 ≤ 1048576 := by omega
  go_enter Tryz.func85, Tryz.ntmps85
  have ba := below_alloc w (Obj.cells #[Value.int .i64 k0, Value.string u1] 164)
  go_wp2
  go_ret
  have := g1.out
  have h3 := HR.out
  rw [left_pos (by omega)] at h3
  subst h3; exact ⟨congrArg (fun x => Ending.returned (Value.int .i64 x)) (by omega), ba⟩

theorem szRoot {r : Nat → D} (hs : ∀ j g, (row .root)[j]? = some g → Sh (r j) g) : SzRRoot r := (szRRoot_of r (hs 0 _ rfl) (hs 1 _ rfl))

set_option maxHeartbeats 1000000 in
theorem szLsRoot (n : Nat) (it : Nat → Nat → D) (hit : ∀ i, i < n → SzRRoot (it i)) : SzL 48 (.list 2 n it) := by
  intro w l c hl h
  have HI := Lib.hid h
  obtain ⟨A, cap, rfl, hm⟩ := h.slice
  clear h
  unfold maxLen at hm
  have hR0 : sz (.list 2 n it) = n + sumTo (fun i => sumTo (fun j => sz (it i j)) 2) n := rfl
  obtain ⟨R, hR⟩ : ∃ R, left l (n + sumTo (fun i => sumTo (fun j => sz (it i j)) 2) n) = R := ⟨_, rfl⟩
  rw [hR0, hR]
  clear hR0
  have HR := Lib.hid hR
  clear hR
  by_cases h0 : (l : Int) - n < 0
  · go_enter Tryz.func48, Tryz.ntmps48
    go_wp2
    go_ret
    have := HR.out
    rw [left_neg (by omega)] at this
    subst this; exact ⟨rfl, Below.refl _ _⟩
  · go_enter Tryz.func48, Tryz.ntmps48
    go_wp2
    go_loopw [1, 5] (fun x i wr => ∃ k : Nat, k ≤ n ∧ i = .int .i64 k ∧ n + sumTo (fun i => sumTo (fun j => sz (it i j)) 2) k ≤ l ∧ x = .int .i64 ((l : Int) - (n + sumTo (fun i => sumTo (fun j => sz (it i j)) 2) k : Nat)) ∧ Below w.heap.size w wr) (fun _ i _ => n - (intOf i).toNat)
    case atStart => exact ⟨0, Nat.zero_le _, rfl, by simp only [sumTo]; omega, by simp [sumTo], Below.refl _ _⟩
    case round =>
      obtain ⟨k, hk, rfl, hle, rfl, hbel⟩ := hrel
      obtain ⟨T, hT⟩ : ∃ T, sumTo (fun i => sumTo (fun j => sz (it i j)) 2) k = T := ⟨_, rfl⟩
      rw [hT] at hle
      rw [hT]
      have HT := Lib.hid hT
      clear hT
      by_cases hlt : k < n
      · have hk0 : (0 : Int) ≤ (k : Int) := by omega
        have hk1 : (k : Int) < (n : Int) := by omega
        obtain ⟨b, o, e2, hf⟩ := (At.below hbel _ HI.out).nth hlt
        subst e2
        obtain ⟨d0, f0, a0⟩ := hf 0 (by omega)
        obtain ⟨d1, f1, a1⟩ := hf 1 (by omega)
        clear hf
        rw [Nat.add_zero] at f0
        obtain ⟨S, hS⟩ : ∃ S, sumTo (fun j => sz (it k j)) 2 = S := ⟨_, rfl⟩
        have HS : Hid (sumTo (fun i => sumTo (fun j => sz (it i j)) 2) (k + 1) = T + S) := by show _ = _; rw [sumTo, HT.out, hS]
        obtain ⟨L, hL⟩ : ∃ L : Nat, (l : Int) - ((n + T : Nat) : Int) = (L : Int) := ⟨l - (n + T), by omega⟩
        have cc := hit k hlt wr L d0 d1 (by omega) a0 a1
        rw [hS] at cc
        clear hS
        rw [hL]
        have HL := Lib.hid hL
        clear hL
        by_cases h1 : S ≤ L
        · obtain ⟨Z, hZ⟩ : ∃ Z : Nat, (L : Int) - (S : Int) = (Z : Int) := ⟨L - S, by omega⟩
          rw [show left L S = (Z : Int) from by rw [left, if_pos h1, hZ]] at cc
          have HZ := Lib.hid hZ
          clear hZ
          go_wp2_with fail
          refine cc.mono ?_
          rintro e w1 ⟨rfl, hb1⟩
          have hz0 : ¬ (Z : Int) < 0 := by omega
          go_wp2
          go_roundw
          case rel =>
            have := HZ.out
            have := HL.out
            exact ⟨k + 1, by omega, by go_num, by rw [HS.out]; omega, by rw [HS.out]; congr 1; omega, below_trans hbel hb1⟩
          case measure => simp [intOf]; omega
        · rw [left_neg h1] at cc
          go_wp2_with fail
          refine cc.mono ?_
          rintro e w1 ⟨rfl, hb1⟩
          go_wp2
          go_ret
          have := HL.out
          have h2 := sumTo_le (fun i => sumTo (fun j => sz (it i j)) 2) (i := k + 1) (n := n) hlt
          rw [HS.out] at h2
          have h3 := HR.out
          rw [left_neg (by omega)] at h3
          subst h3; exact ⟨rfl, below_trans hbel hb1⟩
      · go_wp2
        go_ret
        obtain rfl : k = n := by omega
        have := HR.out
        rw [HT.out, left_pos (by omega)] at this
        subst this; exact ⟨congrArg (fun x => Ending.returned (Value.int .i64 x)) (by omega), hbel⟩

theorem szRoots {d : D} (h : Sh d (.lst .root)) : SzL 48 d := by
  obtain ⟨n, it, rfl, hs⟩ := h.lst
  exact szLsRoot n it fun i hi => (szRRoot_of (it i) (hs i hi 0 _ rfl) (hs i hi 1 _ rfl))

end Da
end Go.Proofs.YtngfhncdmlpjiaaGreat
namespace Go.Proofs.YtngfhncdmlpjiaaGreat
namespace Da
set_option linter.unusedVariables false
set_option linter.unusedSimpArgs false
open Go.RowKit
attribute [local go_sem ↓] Go.wp_at_zero Go.wp_at_succ

/-- The contract of one. -/
def SzRDef (r : Nat → D) : Prop := ∀ (w : World) (l : Nat) (d0 d1 d2 d3 d4 d5 d6 d7 d8 d9 d10 : Value), l ≤ 1048576 → At w (r 0) d0 → At w (r 1) d1 → At w (r 2) d2 → At w (r 3) d3 → At w (r 4) d4 → At w (r 5) d5 → At w (r 6) d6 → At w (r 7) d7 → At w (r 8) d8 → At w (r 9) d9 → At w (r 10) d10 →
  Calls Tryz.prog 29 #[.agg #[d0, d1, d2, d3, d4, d5, d6, d7, d8, d9, d10], .int .i64 l] w fun e w' => e = .returned (.int .i64 (left l (sumTo (fun j => sz (r j)) 11))) ∧ Below w.heap.size w w'
set_option maxHeartbeats 2000000 in
theorem szRDef_of (r : Nat → D) (h0 : Sh (r 0) .int) (h1 : Sh (r 1) .bool) (h2 : Sh (r 2) .str) (h3 : Sh (r 3) .str) (h4 : SzL 44 (r 4)) (h5 : SzL 45 (r 5)) (h6 : SzL 46 (r 6)) (h7 : SzL 47 (r 7)) (h8 : SzL 48 (r 8)) (h9 : Sh (r 9) .bool) (h10 : SzL 42 (r 10)) : SzRDef r := by
  intro w l d0 d1 d2 d3 d4 d5 d6 d7 d8 d9 d10 hl a0 a1 a2 a3 a4 a5 a6 a7 a8 a9 a10
  obtain ⟨k0, e0⟩ := h0.int
  obtain ⟨q1, e1⟩ := h1.bool
  obtain ⟨u2, e2⟩ := h2.str
  obtain ⟨u3, e3⟩ := h3.str
  obtain ⟨q9, e9⟩ := h9.bool
  have hsum : sumTo (fun j => sz (r j)) 11 = u2.size + u3.size + sz (r 4) + sz (r 5) + sz (r 6) + sz (r 7) + sz (r 8) + sz (r 10) := by
    simp [sumTo, sz, e0, e1, e2, e3, e9] <;> omega
  rw [hsum]
  clear hsum
  rw [e0] at a0
  obtain rfl : d0 = .int .i64 k0 := a0
  rw [e1] at a1
  obtain rfl : d1 = .bool q1 := a1
  rw [e2] at a2
  obtain ⟨rfl, m2⟩ := a2
  unfold maxLen at m2
  rw [e3] at a3
  obtain ⟨rfl, m3⟩ := a3
  unfold maxLen at m3
  rw [e9] at a9
  obtain rfl : d9 = .bool q9 := a9
  clear e0 e1 e2 e3 e9 h0 h1 h2 h3 h9
  obtain ⟨S4, hS4⟩ : ∃ S, sz (r 4) = S := ⟨_, rfl⟩
  rw [hS4]
  have HS4 := Lib.hid hS4
  clear hS4
  obtain ⟨S5, hS5⟩ : ∃ S, sz (r 5) = S := ⟨_, rfl⟩
  rw [hS5]
  have HS5 := Lib.hid hS5
  clear hS5
  obtain ⟨S6, hS6⟩ : ∃ S, sz (r 6) = S := ⟨_, rfl⟩
  rw [hS6]
  have HS6 := Lib.hid hS6
  clear hS6
  obtain ⟨S7, hS7⟩ : ∃ S, sz (r 7) = S := ⟨_, rfl⟩
  rw [hS7]
  have HS7 := Lib.hid hS7
  clear hS7
  obtain ⟨S8, hS8⟩ : ∃ S, sz (r 8) = S := ⟨_, rfl⟩
  rw [hS8]
  have HS8 := Lib.hid hS8
  clear hS8
  obtain ⟨S10, hS10⟩ : ∃ S, sz (r 10) = S := ⟨_, rfl⟩
  rw [hS10]
  have HS10 := Lib.hid hS10
  clear hS10
  obtain ⟨R, hR⟩ : ∃ R, left l (u2.size + u3.size + S4 + S5 + S6 + S7 + S8 + S10) = R := ⟨_, rfl⟩
  rw [hR]
  have HR := Lib.hid hR
  clear hR
  by_cases b2 : (l : Int) - u2.size < 0
  · go_enter Tryz.func29, Tryz.ntmps29
    go_wp2
    go_ret
    have h3 := HR.out
    rw [left_neg (by omega)] at h3
    subst h3; exact ⟨rfl, below_alloc _ _⟩
  obtain ⟨L2, l2⟩ : ∃ L : Nat, (l : Int) - (u2.size : Int) = (L : Int) := ⟨l - u2.size, by omega⟩
  by_cases b3 : (L2 : Int) - u3.size < 0
  · go_enter Tryz.func29, Tryz.ntmps29
    go_wp2
    go_ret
    have h3 := HR.out
    rw [left_neg (by omega)] at h3
    subst h3; exact ⟨rfl, below_alloc _ _⟩
  obtain ⟨L3, l3⟩ : ∃ L : Nat, (L2 : Int) - (u3.size : Int) = (L : Int) := ⟨L2 - u3.size, by omega⟩
  have g2 := Lib.hid l2
  have n2 : ¬ (L2 : Int) < 0 := by omega
  have m2' : L2 ≤ 1048576 := by omega
  have g3 := Lib.hid l3
  have n3 : ¬ (L3 : Int) < 0 := by omega
  have m3' : L3 ≤ 1048576 := by omega
  go_enter Tryz.func29, Tryz.ntmps29
  have ba := below_alloc w (Obj.cells #[Value.int .i64 k0, Value.bool q1, Value.string u2, Value.string u3, d4, d5, d6, d7, d8, Value.bool q9, d10] 70)
  go_wp2_with fail
  clear l2 l3
  have c4 := h4 _ L3 d4 (by omega) (At.below ba _ a4)
  rw [HS4.out] at c4
  by_cases b4 : S4 ≤ L3
  case neg =>
    rw [left_neg b4] at c4
    refine c4.mono ?_
    rintro e w4 ⟨rfl, hb4⟩
    go_wp2
    go_ret
    have := g2.out
    have := g3.out
    have h3 := HR.out
    rw [left_neg (by omega)] at h3
    subst h3; exact ⟨rfl, below_trans ba hb4⟩
  obtain ⟨L4, l4⟩ : ∃ L : Nat, (L3 : Int) - (S4 : Int) = (L : Int) := ⟨L3 - S4, by omega⟩
  rw [show left L3 S4 = (L4 : Int) from by rw [left, if_pos b4, l4]] at c4
  have g4 := Lib.hid l4
  have n4 : ¬ (L4 : Int) < 0 := by omega
  have m4' : L4 ≤ 1048576 := by omega
  clear l4
  refine c4.mono ?_
  rintro e w4 ⟨rfl, hb4⟩
  clear c4
  have bb4 := below_trans ba hb4
  have bx4 := hb4
  have hbox := (bx4.block w.heap.size (by simp)).trans (heap_alloc_new w _)
  have q5' : w4.cell? ⟨w.heap.size, 5, none⟩ = some (d5) := by rw [cell_of hbox]; rfl
  clear hbox
  go_wp2_with fail
  clear q5'
  have c5 := h5 w4 L4 d5 (by omega) (At.below bb4 _ a5)
  rw [HS5.out] at c5
  by_cases b5 : S5 ≤ L4
  case neg =>
    rw [left_neg b5] at c5
    refine c5.mono ?_
    rintro e w5 ⟨rfl, hb5⟩
    go_wp2
    go_ret
    have := g2.out
    have := g3.out
    have := g4.out
    have h3 := HR.out
    rw [left_neg (by omega)] at h3
    subst h3; exact ⟨rfl, below_trans bb4 hb5⟩
  obtain ⟨L5, l5⟩ : ∃ L : Nat, (L4 : Int) - (S5 : Int) = (L : Int) := ⟨L4 - S5, by omega⟩
  rw [show left L4 S5 = (L5 : Int) from by rw [left, if_pos b5, l5]] at c5
  have g5 := Lib.hid l5
  have n5 : ¬ (L5 : Int) < 0 := by omega
  have m5' : L5 ≤ 1048576 := by omega
  clear l5
  refine c5.mono ?_
  rintro e w5 ⟨rfl, hb5⟩
  clear c5
  have bb5 := below_trans bb4 hb5
  have bx5 := below_trans bx4 hb5
  have hbox := (bx5.block w.heap.size (by simp)).trans (heap_alloc_new w _)
  have q6' : w5.cell? ⟨w.heap.size, 6, none⟩ = some (d6) := by rw [cell_of hbox]; rfl
  clear hbox
  go_wp2_with fail
  clear q6'
  have c6 := h6 w5 L5 d6 (by omega) (At.below bb5 _ a6)
  rw [HS6.out] at c6
  by_cases b6 : S6 ≤ L5
  case neg =>
    rw [left_neg b6] at c6
    refine c6.mono ?_
    rintro e w6 ⟨rfl, hb6⟩
    go_wp2
    go_ret
    have := g2.out
    have := g3.out
    have := g4.out
    have := g5.out
    have h3 := HR.out
    rw [left_neg (by omega)] at h3
    subst h3; exact ⟨rfl, below_trans bb5 hb6⟩
  obtain ⟨L6, l6⟩ : ∃ L : Nat, (L5 : Int) - (S6 : Int) = (L : Int) := ⟨L5 - S6, by omega⟩
  rw [show left L5 S6 = (L6 : Int) from by rw [left, if_pos b6, l6]] at c6
  have g6 := Lib.hid l6
  have n6 : ¬ (L6 : Int) < 0 := by omega
  have m6' : L6 ≤ 1048576 := by omega
  clear l6
  refine c6.mono ?_
  rintro e w6 ⟨rfl, hb6⟩
  clear c6
  have bb6 := below_trans bb5 hb6
  have bx6 := below_trans bx5 hb6
  have hbox := (bx6.block w.heap.size (by simp)).trans (heap_alloc_new w _)
  have q7' : w6.cell? ⟨w.heap.size, 7, none⟩ = some (d7) := by rw [cell_of hbox]; rfl
  clear hbox
  go_wp2_with fail
  clear q7'
  have c7 := h7 w6 L6 d7 (by omega) (At.below bb6 _ a7)
  rw [HS7.out] at c7
  by_cases b7 : S7 ≤ L6
  case neg =>
    rw [left_neg b7] at c7
    refine c7.mono ?_
    rintro e w7 ⟨rfl, hb7⟩
    go_wp2
    go_ret
    have := g2.out
    have := g3.out
    have := g4.out
    have := g5.out
    have := g6.out
    have h3 := HR.out
    rw [left_neg (by omega)] at h3
    subst h3; exact ⟨rfl, below_trans bb6 hb7⟩
  obtain ⟨L7, l7⟩ : ∃ L : Nat, (L6 : Int) - (S7 : Int) = (L : Int) := ⟨L6 - S7, by omega⟩
  rw [show left L6 S7 = (L7 : Int) from by rw [left, if_pos b7, l7]] at c7
  have g7 := Lib.hid l7
  have n7 : ¬ (L7 : Int) < 0 := by omega
  have m7' : L7 ≤ 1048576 := by omega
  clear l7
  refine c7.mono ?_
  rintro e w7 ⟨rfl, hb7⟩
  clear c7
  have bb7 := below_trans bb6 hb7
  have bx7 := below_trans bx6 hb7
  have hbox := (bx7.block w.heap.size (by simp)).trans (heap_alloc_new w _)
  have q8' : w7.cell? ⟨w.heap.size, 8, none⟩ = some (d8) := by rw [cell_of hbox]; rfl
  clear hbox
  go_wp2_with fail
  clear q8'
  have c8 := h8 w7 L7 d8 (by omega) (At.below bb7 _ a8)
  rw [HS8.out] at c8
  by_cases b8 : S8 ≤ L7
  case neg =>
    rw [left_neg b8] at c8
    refine c8.mono ?_
    rintro e w8 ⟨rfl, hb8⟩
    go_wp2
    go_ret
    have := g2.out
    have := g3.out
    have := g4.out
    have := g5.out
    have := g6.out
    have := g7.out
    have h3 := HR.out
    rw [left_neg (by omega)] at h3
    subst h3; exact ⟨rfl, below_trans bb7 hb8⟩
  obtain ⟨L8, l8⟩ : ∃ L : Nat, (L7 : Int) - (S8 : Int) = (L : Int) := ⟨L7 - S8, by omega⟩
  rw [show left L7 S8 = (L8 : Int) from by rw [left, if_pos b8, l8]] at c8
  have g8 := Lib.hid l8
  have n8 : ¬ (L8 : Int) < 0 := by omega
  have m8' : L8 ≤ 1048576 := by omega
  clear l8
  refine c8.mono ?_
  rintro e w8 ⟨rfl, hb8⟩
  clear c8
  have bb8 := below_trans bb7 hb8
  have bx8 := below_trans bx7 hb8
  have hbox := (bx8.block w.heap.size (by simp)).trans (heap_alloc_new w _)
  have q10' : w8.cell? ⟨w.heap.size, 10, none⟩ = some (d10) := by rw [cell_of hbox]; rfl
  clear hbox
  go_wp2_with fail
  clear q10'
  have c10 := h10 w8 L8 d10 (by omega) (At.below bb8 _ a10)
  rw [HS10.out] at c10
  by_cases b10 : S10 ≤ L8
  case neg =>
    rw [left_neg b10] at c10
    refine c10.mono ?_
    rintro e w10 ⟨rfl, hb10⟩
    go_wp2
    go_ret
    have := g2.out
    have := g3.out
    have := g4.out
    have := g5.out
    have := g6.out
    have := g7.out
    have := g8.out
    have h3 := HR.out
    rw [left_neg (by omega)] at h3
    subst h3; exact ⟨rfl, below_trans bb8 hb10⟩
  obtain ⟨L10, l10⟩ : ∃ L : Nat, (L8 : Int) - (S10 : Int) = (L : Int) := ⟨L8 - S10, by omega⟩
  rw [show left L8 S10 = (L10 : Int) from by rw [left, if_pos b10, l10]] at c10
  have g10 := Lib.hid l10
  have n10 : ¬ (L10 : Int) < 0 := by omega
  have m10' : L10 ≤ 1048576 := by omega
  clear l10
  refine c10.mono ?_
  rintro e w10 ⟨rfl, hb10⟩
  clear c10
  have bb10 := below_trans bb8 hb10
  go_wp2
  go_ret
  have := g2.out
  have := g3.out
  have := g4.out
  have := g5.out
  have := g6.out
  have := g7.out
  have := g8.out
  have := g10.out
  have h3 := HR.out
  rw [left_pos (by omega)] at h3
  subst h3; exact ⟨congrArg (fun x => Ending.returned (Value.int .i64 x)) (by omega), bb10⟩

theorem szDef {r : Nat → D} (hs : ∀ j g, (row .defn)[j]? = some g → Sh (r j) g) : SzRDef r := (szRDef_of r (hs 0 _ rfl) (hs 1 _ rfl) (hs 2 _ rfl) (hs 3 _ rfl) (szStrings (hs 4 _ rfl)) (szFieldDefs (hs 5 _ rfl)) (szInDefs (hs 6 _ rfl)) (szEnumDefs (hs 7 _ rfl)) (szRoots (hs 8 _ rfl)) (hs 9 _ rfl) (szDirs (hs 10 _ rfl)))

end Da
end Go.Proofs.YtngfhncdmlpjiaaGreat
namespace Go.Proofs.YtngfhncdmlpjiaaGreat
namespace Da
set_option linter.unusedVariables false
set_option linter.unusedSimpArgs false
open Go.RowKit
attribute [local go_sem ↓] Go.wp_at_zero Go.wp_at_succ

/-- The contract of one. -/
def SzRItem (r : Nat → D) : Prop := ∀ (w : World) (l : Nat) (d0 d1 d2 d3 d4 d5 d6 d7 d8 d9 d10 d11 d12 d13 d14 d15 d16 d17 d18 d19 d20 : Value), l ≤ 1048576 → At w (r 0) d0 → At w (r 1) d1 → At w (r 2) d2 → At w (r 3) d3 → At w (r 4) d4 → At w (r 5) d5 → At w (r 6) d6 → At w (r 7) d7 → At w (r 8) d8 → At w (r 9) d9 → At w (r 10) d10 → At w (r 11) d11 → At w (r 12) d12 → At w (r 13) d13 → At w (r 14) d14 → At w (r 15) d15 → At w (r 16) d16 → At w (r 17) d17 → At w (r 18) d18 → At w (r 19) d19 → At w (r 20) d20 →
  Calls Tryz.prog 18 #[.agg #[d0, d1, d2, d3, d4, d5, d6, d7, d8, d9, d10, d11, d12, d13, d14, d15, d16, d17, d18, d19, d20], .int .i64 l] w fun e w' => e = .returned (.int .i64 (left l (sumTo (fun j => sz (r j)) 21))) ∧ Below w.heap.size w w'
set_option maxHeartbeats 2000000 in
theorem szRItem_of (r : Nat → D) (h0 : Sh (r 0) .int) (h1 : SzROp fun j => r (j + 1)) (h6 : SzRFrag fun j => r (j + 6)) (h10 : SzRDef fun j => r (j + 10)) : SzRItem r := by
  intro w l d0 d1 d2 d3 d4 d5 d6 d7 d8 d9 d10 d11 d12 d13 d14 d15 d16 d17 d18 d19 d20 hl a0 a1 a2 a3 a4 a5 a6 a7 a8 a9 a10 a11 a12 a13 a14 a15 a16 a17 a18 a19 a20
  obtain ⟨k0, e0⟩ := h0.int
  have hsum : sumTo (fun j => sz (r j)) 21 = sumTo (fun j => sz (r (j + 1))) 5 + sumTo (fun j => sz (r (j + 6))) 4 + sumTo (fun j => sz (r (j + 10))) 11 := by
    simp [sumTo, sz, e0] <;> omega
  rw [hsum]
  clear hsum
  rw [e0] at a0
  obtain rfl : d0 = .int .i64 k0 := a0
  clear e0 h0
  obtain ⟨S1, hS1⟩ : ∃ S, sumTo (fun j => sz (r (j + 1))) 5 = S := ⟨_, rfl⟩
  rw [hS1]
  have HS1 := Lib.hid hS1
  clear hS1
  obtain ⟨S6, hS6⟩ : ∃ S, sumTo (fun j => sz (r (j + 6))) 4 = S := ⟨_, rfl⟩
  rw [hS6]
  have HS6 := Lib.hid hS6
  clear hS6
  obtain ⟨S10, hS10⟩ : ∃ S, sumTo (fun j => sz (r (j + 10))) 11 = S := ⟨_, rfl⟩
  rw [hS10]
  have HS10 := Lib.hid hS10
  clear hS10
  obtain ⟨R, hR⟩ : ∃ R, left l (S1 + S6 + S10) = R := ⟨_, rfl⟩
  rw [hR]
  have HR := Lib.hid hR
  clear hR
  go_enter Tryz.func18, Tryz.ntmps18
  have ba := below_alloc w (Obj.cells #[Value.int .i64 k0, d1, d2, d3, d4, d5, d6, d7, d8, d9, d10, d11, d12, d13, d14, d15, d16, d17, d18, d19, d20] 72)
  go_wp2_with fail
  have c1 := h1 _ l d1 d2 d3 d4 d5 (by omega) (At.below ba _ a1) (At.below ba _ a2) (At.below ba _ a3) (At.below ba _ a4) (At.below ba _ a5)
  rw [HS1.out] at c1
  by_cases b1 : S1 ≤ l
  case neg =>
    rw [left_neg b1] at c1
    refine c1.mono ?_
    rintro e w1 ⟨rfl, hb1⟩
    go_wp2
    go_ret
    have h3 := HR.out
    rw [left_neg (by omega)] at h3
    subst h3; exact ⟨rfl, below_trans ba hb1⟩
  obtain ⟨L1, l1⟩ : ∃ L : Nat, (l : Int) - (S1 : Int) = (L : Int) := ⟨l - S1, by omega⟩
  rw [show left l S1 = (L1 : Int) from by rw [left, if_pos b1, l1]] at c1
  have g1 := Lib.hid l1
  have n1 : ¬ (L1 : Int) < 0 := by omega
  have m1' : L1 ≤ 1048576 := by omega
  clear l1
  refine c1.mono ?_
  rintro e w1 ⟨rfl, hb1⟩
  clear c1
  have bb1 := below_trans ba hb1
  have bx1 := hb1
  have hbox := (bx1.block w.heap.size (by simp)).trans (heap_alloc_new w _)
  have q6' : w1.cell? ⟨w.heap.size, 6, none⟩ = some (d6) := by rw [cell_of hbox]; rfl
  have q7' : w1.cell? ⟨w.heap.size, 7, none⟩ = some (d7) := by rw [cell_of hbox]; rfl
  have q8' : w1.cell? ⟨w.heap.size, 8, none⟩ = some (d8) := by rw [cell_of hbox]; rfl
  have q9' : w1.cell? ⟨w.heap.size, 9, none⟩ = some (d9) := by rw [cell_of hbox]; rfl
  clear hbox
  go_wp2_with fail
  clear q6' q7' q8' q9'
  have c6 := h6 w1 L1 d6 d7 d8 d9 (by omega) (At.below bb1 _ a6) (At.below bb1 _ a7) (At.below bb1 _ a8) (At.below bb1 _ a9)
  rw [HS6.out] at c6
  by_cases b6 : S6 ≤ L1
  case neg =>
    rw [left_neg b6] at c6
    refine c6.mono ?_
    rintro e w6 ⟨rfl, hb6⟩
    go_wp2
    go_ret
    have := g1.out
    have h3 := HR.out
    rw [left_neg (by omega)] at h3
    subst h3; exact ⟨rfl, below_trans bb1 hb6⟩
  obtain ⟨L6, l6⟩ : ∃ L : Nat, (L1 : Int) - (S6 : Int) = (L : Int) := ⟨L1 - S6, by omega⟩
  rw [show left L1 S6 = (L6 : Int) from by rw [left, if_pos b6, l6]] at c6
  have g6 := Lib.hid l6
  have n6 : ¬ (L6 : Int) < 0 := by omega
  have m6' : L6 ≤ 1048576 := by omega
  clear l6
  refine c6.mono ?_
  rintro e w6 ⟨rfl, hb6⟩
  clear c6
  have bb6 := below_trans bb1 hb6
  have bx6 := below_trans bx1 hb6
  have hbox := (bx6.block w.heap.size (by simp)).trans (heap_alloc_new w _)
  have q10' : w6.cell? ⟨w.heap.size, 10, none⟩ = some (d10) := by rw [cell_of hbox]; rfl
  have q11' : w6.cell? ⟨w.heap.size, 11, none⟩ = some (d11) := by rw [cell_of hbox]; rfl
  have q12' : w6.cell? ⟨w.heap.size, 12, none⟩ = some (d12) := by rw [cell_of hbox]; rfl
  have q13' : w6.cell? ⟨w.heap.size, 13, none⟩ = some (d13) := by rw [cell_of hbox]; rfl
  have q14' : w6.cell? ⟨w.heap.size, 14, none⟩ = some (d14) := by rw [cell_of hbox]; rfl
  have q15' : w6.cell? ⟨w.heap.size, 15, none⟩ = some (d15) := by rw [cell_of hbox]; rfl
  have q16' : w6.cell? ⟨w.heap.size, 16, none⟩ = some (d16) := by rw [cell_of hbox]; rfl
  have q17' : w6.cell? ⟨w.heap.size, 17, none⟩ = some (d17) := by rw [cell_of hbox]; rfl
  have q18' : w6.cell? ⟨w.heap.size, 18, none⟩ = some (d18) := by rw [cell_of hbox]; rfl
  have q19' : w6.cell? ⟨w.heap.size, 19, none⟩ = some (d19) := by rw [cell_of hbox]; rfl
  have q20' : w6.cell? ⟨w.heap.size, 20, none⟩ = some (d20) := by rw [cell_of hbox]; rfl
  clear hbox
  go_wp2_with fail
  clear q10' q11' q12' q13' q14' q15' q16' q17' q18' q19' q20'
  have c10 := h10 w6 L6 d10 d11 d12 d13 d14 d15 d16 d17 d18 d19 d20 (by omega) (At.below bb6 _ a10) (At.below bb6 _ a11) (At.below bb6 _ a12) (At.below bb6 _ a13) (At.below bb6 _ a14) (At.below bb6 _ a15) (At.below bb6 _ a16) (At.below bb6 _ a17) (At.below bb6 _ a18) (At.below bb6 _ a19) (At.below bb6 _ a20)
  rw [HS10.out] at c10
  by_cases b10 : S10 ≤ L6
  case neg =>
    rw [left_neg b10] at c10
    refine c10.mono ?_
    rintro e w10 ⟨rfl, hb10⟩
    go_wp2
    go_ret
    have := g1.out
    have := g6.out
    have h3 := HR.out
    rw [left_neg (by omega)] at h3
    subst h3; exact ⟨rfl, below_trans bb6 hb10⟩
  obtain ⟨L10, l10⟩ : ∃ L : Nat, (L6 : Int) - (S10 : Int) = (L : Int) := ⟨L6 - S10, by omega⟩
  rw [show left L6 S10 = (L10 : Int) from by rw [left, if_pos b10, l10]] at c10
  have g10 := Lib.hid l10
  have n10 : ¬ (L10 : Int) < 0 := by omega
  have m10' : L10 ≤ 1048576 := by omega
  clear l10
  refine c10.mono ?_
  rintro e w10 ⟨rfl, hb10⟩
  clear c10
  have bb10 := below_trans bb6 hb10
  go_wp2
  go_ret
  have := g1.out
  have := g6.out
  have := g10.out
  have h3 := HR.out
  rw [left_pos (by omega)] at h3
  subst h3; exact ⟨congrArg (fun x => Ending.returned (Value.int .i64 x)) (by omega), bb10⟩

theorem szItem {r : Nat → D} (hs : ∀ j g, (row .item)[j]? = some g → Sh (r j) g) : SzRItem r := (szRItem_of r (hs 0 _ rfl) (szROp_of _ (hs 1 _ rfl) (hs 2 _ rfl) (szVarDefs (hs 3 _ rfl)) (szDirs (hs 4 _ rfl)) (szSels _ (hs 5 _ rfl))) (szRFrag_of _ (hs 6 _ rfl) (hs 7 _ rfl) (szDirs (hs 8 _ rfl)) (szSels _ (hs 9 _ rfl))) (szRDef_of _ (hs 10 _ rfl) (hs 11 _ rfl) (hs 12 _ rfl) (hs 13 _ rfl) (szStrings (hs 14 _ rfl)) (szFieldDefs (hs 15 _ rfl)) (szInDefs (hs 16 _ rfl)) (szEnumDefs (hs 17 _ rfl)) (szRoots (hs 18 _ rfl)) (hs 19 _ rfl) (szDirs (hs 20 _ rfl))))

end Da
end Go.Proofs.YtngfhncdmlpjiaaGreat
namespace Go.Proofs.YtngfhncdmlpjiaaGreat
namespace Da
set_option linter.unusedVariables false
set_option linter.unusedSimpArgs false
open Go.RowKit
theorem cells_of {P : Nat → Value → Prop} : ∀ {n : Nat}, (∀ j, j < n → ∃ d, P j d) → ∃ cs : List Value, cs.length = n ∧ ∀ j v, cs[j]? = some v → P j v
  | 0, _ => ⟨[], rfl, fun j v h => by simp at h⟩
  | n + 1, h => by
    obtain ⟨cs, hl, hc⟩ := cells_of (n := n) fun j hj => h j (by omega)
    obtain ⟨d, hd⟩ := h n (by omega)
    refine ⟨cs ++ [d], by simp [hl], fun j v hv => ?_⟩
    rcases Nat.lt_or_ge j n with hj | hj
    · rw [List.getElem?_append_left (by omega)] at hv
      exact hc j v hv
    · rw [List.getElem?_append_right (by omega)] at hv
      have : j = n := by
        rcases Nat.lt_or_ge (j - cs.length) 1 with h1 | h1
        · omega
        · rw [List.getElem?_eq_none (by simpa using h1)] at hv; cases hv
      subst this
      rw [hl, Nat.sub_self] at hv
      obtain rfl : d = v := by simpa using hv
      exact hd
theorem wpList_load_cells {P : Program} {ops : Array Oper} {rest : List Oper} {o : Oper} {a : Act} {w : World} {Q : Exit → Act → World → Prop} (hgd : o.guard = none) (ty : TypeId) (x : Operand) (ho : o.op = .load ty x)
    (b p : Nat) (hx : a.eval x = .pointer (some ⟨b, p, none⟩)) (cs : List Value) (d : TypeDesc) (hc : ∀ j v, cs[j]? = some v → w.cell? ⟨b, p + j, none⟩ = some v)
    (hu : P.underlying ty = some d) (hd : (match d with | .struct _ | .array _ _ => true | _ => false) = true) (hi : (P.info? ty).map (·.size) = some cs.length)
    (h : wpList P ops Q rest (a.put o.dst (.agg cs.toArray)) w) : wpList P ops Q (o :: rest) a w := by
  refine wpList_plain hgd fun _ hK => ?_
  have hl : (loadCells ⟨b, p, none⟩ cs.length).run P w = .ok cs.toArray w :=
    run_loadCells_list (P := P) w ⟨b, p, none⟩ cs (fun j v hv => by
      have hadd : (⟨b, p, none⟩ : Addr).add j = ⟨b, p + j, none⟩ := by unfold Addr.add; split <;> simp_all
      rw [hadd]; exact hc j v hv)
  have hr : (loadVar ty ⟨b, p, none⟩).run P w = .ok (.agg cs.toArray) w := by
    cases hq : P.info? ty with
    | none => simp [hq] at hi
    | some i =>
      have hs : i.size = cs.length := by simpa [hq] using hi
      have hagg : (isAgg ty).run P w = .ok true w := by
        unfold isAgg
        rw [Sem.run_bind, run_underlying hu w]
        cases d <;> simp_all
      simp [loadVar, Sem.run_bind, hagg, sizeOf, typeInfo, hq, hs, hl]
  unfold Oper.wp execOp
  simp only [ho, hx, Instr.loadAt, Instr.sureAddr, Sem.run_bind, Sem.run_pure, Result.andThen_ok, hr]
  exact hK _ _ h
end Da
end Go.Proofs.YtngfhncdmlpjiaaGreat
namespace Go.Proofs.YtngfhncdmlpjiaaGreat
namespace Da
set_option linter.unusedVariables false
set_option linter.unusedSimpArgs false
open Go.RowKit
attribute [local go_sem ↓] Go.wp_at_zero Go.wp_at_succ

theorem sizeLItem : (Tryz.prog.info? 72).map (·.size) = some 21 := by kernel_rfl
theorem szRItem_row {r : Nat → D} (h : SzRItem r) (w : World) (l : Nat) (cs : List Value) (hl : l ≤ 1048576) (hc : cs.length = 21) (hat : ∀ j v, cs[j]? = some v → At w (r j) v) :
    Calls Tryz.prog 18 #[.agg cs.toArray, .int .i64 l] w fun e w' => e = .returned (.int .i64 (left l (sumTo (fun j => sz (r j)) 21))) ∧ Below w.heap.size w w' := by
  obtain ⟨c0, c1, c2, c3, c4, c5, c6, c7, c8, c9, c10, c11, c12, c13, c14, c15, c16, c17, c18, c19, c20, rfl⟩ := lenB21 hc
  exact h w l c0 c1 c2 c3 c4 c5 c6 c7 c8 c9 c10 c11 c12 c13 c14 c15 c16 c17 c18 c19 c20 hl (hat 0 _ rfl) (hat 1 _ rfl) (hat 2 _ rfl) (hat 3 _ rfl) (hat 4 _ rfl) (hat 5 _ rfl) (hat 6 _ rfl) (hat 7 _ rfl) (hat 8 _ rfl) (hat 9 _ rfl) (hat 10 _ rfl) (hat 11 _ rfl) (hat 12 _ rfl) (hat 13 _ rfl) (hat 14 _ rfl) (hat 15 _ rfl) (hat 16 _ rfl) (hat 17 _ rfl) (hat 18 _ rfl) (hat 19 _ rfl) (hat 20 _ rfl)
set_option maxRecDepth 100000 in
set_option maxHeartbeats 4000000 in
theorem szLsItem (n : Nat) (it : Nat → Nat → D) (hit : ∀ i, i < n → SzRItem (it i)) : SzL 9 (.list 21 n it) := by
  intro w l c hl h
  have HI := Lib.hid h
  obtain ⟨A, cap, rfl, hm⟩ := h.slice
  clear h
  unfold maxLen at hm
  obtain ⟨G, hG⟩ : ∃ G : Nat → Nat, sumTo (fun i => sumTo (fun j => sz (it i j)) 21) = G := ⟨_, rfl⟩
  have HS1 : Hid (∀ k, G (k + 1) = G k + sumTo (fun j => sz (it k j)) 21) := fun k => by rw [← hG]; rfl
  have hR0 : sz (.list 21 n it) = n + G n := by rw [← hG]; rfl
  have HLE : Hid (∀ k, k ≤ n → G k ≤ G n) := fun k hk => by rw [← hG]; exact sumTo_le _ hk
  have HG0 : Hid (G 0 = 0) := by rw [← hG]; rfl
  clear hG
  obtain ⟨R, hR⟩ : ∃ R, left l (n + G n) = R := ⟨_, rfl⟩
  rw [hR0, hR]
  clear hR0
  have HR := Lib.hid hR
  clear hR
  by_cases h0 : (l : Int) - n < 0
  · go_enter Tryz.func9, Tryz.ntmps9
    go_wp2
    go_ret
    have := HR.out
    rw [left_neg (by omega)] at this
    subst this; exact ⟨rfl, Below.refl _ _⟩
  · go_enter Tryz.func9, Tryz.ntmps9
    go_wp2
    go_loopw [1, 5] (fun x i wr => ∃ k : Nat, k ≤ n ∧ i = .int .i64 k ∧ n + G k ≤ l ∧ x = .int .i64 ((l : Int) - (n + G k : Nat)) ∧ Below w.heap.size w wr) (fun _ i _ => n - (intOf i).toNat)
    case atStart => exact ⟨0, Nat.zero_le _, rfl, by rw [HG0.out]; omega, by rw [HG0.out]; rfl, Below.refl _ _⟩
    case round =>
      obtain ⟨k, hk, rfl, hle, rfl, hbel⟩ := hrel
      obtain ⟨T, hT⟩ : ∃ T, G k = T := ⟨_, rfl⟩
      rw [hT] at hle
      rw [hT]
      have HT := Lib.hid hT
      clear hT
      by_cases hlt : k < n
      · have hk0 : (0 : Int) ≤ (k : Int) := by omega
        have hk1 : (k : Int) < (n : Int) := by omega
        obtain ⟨b, o, e2, hf⟩ := (At.below hbel _ HI.out).nth hlt
        subst e2
        obtain ⟨cs, hcl, hcs⟩ := cells_of hf
        clear hf
        have HC := Lib.hid (fun j v hv => (hcs j v hv).1)
        have HIF : Hid ((Tryz.prog.info? 72).map (·.size) = some cs.length) := by rw [hcl]; exact sizeLItem
        obtain ⟨S, hS⟩ : ∃ S, sumTo (fun j => sz (it k j)) 21 = S := ⟨_, rfl⟩
        have HS : Hid (G (k + 1) = T + S) := by show _ = _; rw [HS1.out, HT.out, hS]
        obtain ⟨L, hL⟩ : ∃ L : Nat, (l : Int) - ((n + T : Nat) : Int) = (L : Int) := ⟨l - (n + T), by omega⟩
        have cc := szRItem_row (hit k hlt) wr L cs (by omega) hcl (fun j v hv => (hcs j v hv).2)
        rw [hS] at cc
        clear hS hcs hcl
        rw [hL]
        have HL := Lib.hid hL
        clear hL
        by_cases h1 : S ≤ L
        · obtain ⟨Z, hZ⟩ : ∃ Z : Nat, (L : Int) - (S : Int) = (Z : Int) := ⟨L - S, by omega⟩
          rw [show left L S = (Z : Int) from by rw [left, if_pos h1, hZ]] at cc
          have HZ := Lib.hid hZ
          clear hZ
          go_wp2_with (refine wpList_load_cells rfl 72 _ rfl b (o + k * 21) rfl cs _ HC.out Tryz.underlying72 rfl HIF.out ?_)
          refine cc.mono ?_
          rintro e w1 ⟨rfl, hb1⟩
          have hz0 : ¬ (Z : Int) < 0 := by omega
          go_wp2
          go_roundw
          case rel =>
            have := HZ.out
            have := HL.out
            exact ⟨k + 1, by omega, by go_num, by rw [HS.out]; omega, by rw [HS.out]; congr 1; omega, below_trans hbel hb1⟩
          case measure => simp [intOf]; omega
        · rw [left_neg h1] at cc
          go_wp2_with (refine wpList_load_cells rfl 72 _ rfl b (o + k * 21) rfl cs _ HC.out Tryz.underlying72 rfl HIF.out ?_)
          refine cc.mono ?_
          rintro e w1 ⟨rfl, hb1⟩
          go_wp2
          go_ret
          have := HL.out
          have h2 := HLE.out (k + 1) hlt
          rw [HS.out] at h2
          have h3 := HR.out
          rw [left_neg (by omega)] at h3
          subst h3; exact ⟨rfl, below_trans hbel hb1⟩
      · go_wp2
        go_ret
        obtain rfl : k = n := by omega
        have := HR.out
        rw [HT.out, left_pos (by omega)] at this
        subst this; exact ⟨congrArg (fun x => Ending.returned (Value.int .i64 x)) (by omega), hbel⟩
theorem szItems {d : D} (h : Sh d (.lst .item)) : SzL 9 d := by
  obtain ⟨n, it, rfl, hs⟩ := h.lst
  exact szLsItem n it fun i hi => szItem (hs i hi)
end Da
end Go.Proofs.YtngfhncdmlpjiaaGreat
