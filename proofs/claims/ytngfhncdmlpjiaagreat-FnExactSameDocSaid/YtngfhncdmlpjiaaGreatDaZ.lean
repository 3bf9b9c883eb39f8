/- What is proved: what the laws' helpers that count data answer: what is left, or -1. (Made by tools/mkdaz.py.) -/
import Derived.Test.YtngfhncdmlpjiaaGreatDaA
import Derived.WalkSpells
import Derived.WalkLawsBesides
import Derived.OwnWalk
import Derived.Deep.AppendLies
import Derived.Deep.QuietTactic
import Derived.BigQuiet
import Derived.Laws.IdiomStrings
import Derived.Lib.Slices
import Derived.Lib.Hide
import Derived.Deep.RegionHeld3
import Derived.Deep.DrawnRows
namespace Go.Proofs.YtngfhncdmlpjiaaGreat
namespace Da
set_option linter.unusedVariables false
open Go.RowKit
attribute [local go_sem ↓] Go.wp_at_zero Go.wp_at_succ

/-- The contract of a list. -/
def SzL (fid : Nat) (d : D) : Prop := ∀ (w : World) (l : Nat) (c : Value), l ≤ 1048576 → At w d c →
  Calls Tryz.prog fid #[c, .int .i64 l] w fun e w' => e = .returned (.int .i64 (left l (sz d))) ∧ Below w.heap.size w w'
theorem left_pos {l s : Nat} (h : s ≤ l) : left l s = ((l - s : Nat) : Int) := by unfold left; rw [if_pos h]; omega
theorem left_neg {l s : Nat} (h : ¬ s ≤ l) : left l s = -1 := by unfold left; rw [if_neg h]

theorem cell_of {w : World} {g : Nat} {cur : Array Value} {t : TypeId} {fr : Nat × Nat} (h : w.heap[g]? = some (.cells cur t fr)) (j : Nat) : w.cell? ⟨g, j, none⟩ = cur[j]? := by simp [World.cell?, h]

set_option maxHeartbeats 1000000 in
theorem szLsString (n : Nat) (it : Nat → Nat → D) (hit : ∀ i, i < n → Sh (it i 0) .str) : SzL 44 (.list 1 n it) := by
  intro w l c hl h
  have HI := Lib.hid h
  obtain ⟨A, cap, rfl, hm⟩ := h.slice
  clear h
  unfold maxLen at hm
  have hR0 : sz (.list 1 n it) = n + sumTo (fun i => sumTo (fun j => sz (it i j)) 1) n := rfl
  obtain ⟨R, hR⟩ : ∃ R, left l (n + sumTo (fun i => sumTo (fun j => sz (it i j)) 1) n) = R := ⟨_, rfl⟩
  rw [hR0, hR]
  clear hR0
  have HR := Lib.hid hR
  clear hR
  by_cases h0 : (l : Int) - n < 0
  · go_enter Tryz.func44, Tryz.ntmps44
    go_wp2
    go_ret
    have := HR.out
    rw [left_neg (by omega)] at this
    subst this; exact ⟨rfl, Below.refl _ _⟩
  · go_enter Tryz.func44, Tryz.ntmps44
    go_wp2
    go_loopw [1, 5] (fun x i wr => ∃ k : Nat, k ≤ n ∧ i = .int .i64 k ∧ n + sumTo (fun i => sumTo (fun j => sz (it i j)) 1) k ≤ l ∧ x = .int .i64 ((l : Int) - (n + sumTo (fun i => sumTo (fun j => sz (it i j)) 1) k : Nat)) ∧ Below w.heap.size w wr) (fun _ i _ => n - (intOf i).toNat)
    case atStart => exact ⟨0, Nat.zero_le _, rfl, by simp only [sumTo]; omega, by simp [sumTo], Below.refl _ _⟩
    case round =>
      obtain ⟨k, hk, rfl, hle, rfl, hbel⟩ := hrel
      obtain ⟨T, hT⟩ : ∃ T, sumTo (fun i => sumTo (fun j => sz (it i j)) 1) k = T := ⟨_, rfl⟩
      rw [hT] at hle
      rw [hT]
      have HT := Lib.hid hT
      clear hT
      by_cases hlt : k < n
      · have hk0 : (0 : Int) ≤ (k : Int) := by omega
        have hk1 : (k : Int) < (n : Int) := by omega
        obtain ⟨b, o, e2, hf⟩ := (At.below hbel _ HI.out).nth hlt
        subst e2
        obtain ⟨d0, ⟨f0, a0⟩⟩ := one hf
        clear hf
        rw [Nat.add_zero, Nat.mul_one] at f0
        obtain ⟨S, hS⟩ : ∃ S, sumTo (fun j => sz (it k j)) 1 = S := ⟨_, rfl⟩
        have HS : Hid (sumTo (fun i => sumTo (fun j => sz (it i j)) 1) (k + 1) = T + S) := by show _ = _; rw [sumTo, HT.out, hS]
        obtain ⟨L, hL⟩ : ∃ L : Nat, (l : Int) - ((n + T : Nat) : Int) = (L : Int) := ⟨l - (n + T), by omega⟩
        obtain ⟨u, hu⟩ := (hit k hlt).str
        rw [hu] at a0
        obtain ⟨rfl, hus⟩ := a0
        unfold maxLen at hus
        obtain rfl : u.size = S := by rw [← hS]; simp [sumTo, hu, sz]
        clear hS hu
        have HL := Lib.hid hL
        clear hL
        by_cases h1 : (l : Int) - ((n + T : Nat) : Int) - (u.size : Int) < 0
        · go_wp2
          go_ret
          have := HL.out
          have h2 := sumTo_le (fun i => sumTo (fun j => sz (it i j)) 1) (i := k + 1) (n := n) hlt
          rw [HS.out] at h2
          have h3 := HR.out
          rw [left_neg (by omega)] at h3
          subst h3; exact ⟨rfl, hbel⟩
        · go_wp2
          go_roundw
          case rel => exact ⟨k + 1, by omega, by go_num, by rw [HS.out]; omega, by rw [HS.out]; go_num, hbel⟩
          case measure => simp [intOf]; omega
      · go_wp2
        go_ret
        obtain rfl : k = n := by omega
        have := HR.out
        rw [HT.out, left_pos (by omega)] at this
        subst this; exact ⟨congrArg (fun x => Ending.returned (Value.int .i64 x)) (by omega), hbel⟩

theorem szStrings {d : D} (h : Sh d (.lst .text)) : SzL 44 d := by
  obtain ⟨n, it, rfl, hs⟩ := h.lst
  exact szLsString n it fun i hi => hs i hi 0 _ rfl

/-- The contract of one row. -/
def SzRValue (r : Nat → D) : Prop := ∀ (w : World) (l : Nat) (d0 d1 d2 d3 : Value), l ≤ 1048576 → At w (r 0) d0 → At w (r 1) d1 → At w (r 2) d2 → At w (r 3) d3 →
  Calls Tryz.prog 107 #[.agg #[d0, d1, d2, d3], .int .i64 l] w fun e w' => e = .returned (.int .i64 (left l (sumTo (fun j => sz (r j)) 4))) ∧ Below w.heap.size w w'
set_option maxHeartbeats 1000000 in
theorem szLsValue (n : Nat) (it : Nat → Nat → D) (hit : ∀ i, i < n → SzRValue (it i)) : SzL 118 (.list 4 n it) := by
  intro w l c hl h
  have HI := Lib.hid h
  obtain ⟨A, cap, rfl, hm⟩ := h.slice
  clear h
  unfold maxLen at hm
  have hR0 : sz (.list 4 n it) = n + sumTo (fun i => sumTo (fun j => sz (it i j)) 4) n := rfl
  obtain ⟨R, hR⟩ : ∃ R, left l (n + sumTo (fun i => sumTo (fun j => sz (it i j)) 4) n) = R := ⟨_, rfl⟩
  rw [hR0, hR]
  clear hR0
  have HR := Lib.hid hR
  clear hR
  by_cases h0 : (l : Int) - n < 0
  · go_enter Tryz.func118, Tryz.ntmps118
    go_wp2
    go_ret
    have := HR.out
    rw [left_neg (by omega)] at this
    subst this; exact ⟨rfl, Below.refl _ _⟩
  · go_enter Tryz.func118, Tryz.ntmps118
    go_wp2
    go_loopw [1, 5] (fun x i wr => ∃ k : Nat, k ≤ n ∧ i = .int .i64 k ∧ n + sumTo (fun i => sumTo (fun j => sz (it i j)) 4) k ≤ l ∧ x = .int .i64 ((l : Int) - (n + sumTo (fun i => sumTo (fun j => sz (it i j)) 4) k : Nat)) ∧ Below w.heap.size w wr) (fun _ i _ => n - (intOf i).toNat)
    case atStart => exact ⟨0, Nat.zero_le _, rfl, by simp only [sumTo]; omega, by simp [sumTo], Below.refl _ _⟩
    case round =>
      obtain ⟨k, hk, rfl, hle, rfl, hbel⟩ := hrel
      obtain ⟨T, hT⟩ : ∃ T, sumTo (fun i => sumTo (fun j => sz (it i j)) 4) k = T := ⟨_, rfl⟩
      rw [hT] at hle
      rw [hT]
      have HT := Lib.hid hT
      clear hT
      by_cases hlt : k < n
      · have hk0 : (0 : Int) ≤ (k : Int) := by omega
        have hk1 : (k : Int) < (n : Int) := by omega
        obtain ⟨b, o, e2, hf⟩ := (At.below hbel _ HI.out).nth hlt
        subst e2
        obtain ⟨d0, d1, d2, d3, ⟨f0, a0⟩, ⟨f1, a1⟩, ⟨f2, a2⟩, ⟨f3, a3⟩⟩ := four hf
        clear hf
        rw [Nat.add_zero] at f0
        obtain ⟨S, hS⟩ : ∃ S, sumTo (fun j => sz (it k j)) 4 = S := ⟨_, rfl⟩
        have HS : Hid (sumTo (fun i => sumTo (fun j => sz (it i j)) 4) (k + 1) = T + S) := by show _ = _; rw [sumTo, HT.out, hS]
        obtain ⟨L, hL⟩ : ∃ L : Nat, (l : Int) - ((n + T : Nat) : Int) = (L : Int) := ⟨l - (n + T), by omega⟩
        have cc := hit k hlt wr L d0 d1 d2 d3 (by omega) a0 a1 a2 a3
        rw [hS] at cc
        clear hS
        rw [hL]
        have HL := Lib.hid hL
        clear hL
        by_cases h1 : S ≤ L
        · obtain ⟨Z, hZ⟩ : ∃ Z : Nat, (L : Int) - (S : Int) = (Z : Int) := ⟨L - S, by omega⟩
          rw [show left L S = (Z : Int) from by rw [left, if_pos h1, hZ]] at cc
          have HZ := Lib.hid hZ
          clear hZ
          go_wp2_with fail
          refine cc.mono ?_
          rintro e w1 ⟨rfl, hb1⟩
          have hz0 : ¬ (Z : Int) < 0 := by omega
          go_wp2
          go_roundw
          case rel =>
            have := HZ.out
            have := HL.out
            exact ⟨k + 1, by omega, by go_num, by rw [HS.out]; omega, by rw [HS.out]; congr 1; omega, below_trans hbel hb1⟩
          case measure => simp [intOf]; omega
        · rw [left_neg h1] at cc
          go_wp2_with fail
          refine cc.mono ?_
          rintro e w1 ⟨rfl, hb1⟩
          go_wp2
          go_ret
          have := HL.out
          have h2 := sumTo_le (fun i => sumTo (fun j => sz (it i j)) 4) (i := k + 1) (n := n) hlt
          rw [HS.out] at h2
          have h3 := HR.out
          rw [left_neg (by omega)] at h3
          subst h3; exact ⟨rfl, below_trans hbel hb1⟩
      · go_wp2
        go_ret
        obtain rfl : k = n := by omega
        have := HR.out
        rw [HT.out, left_pos (by omega)] at this
        subst this; exact ⟨congrArg (fun x => Ending.returned (Value.int .i64 x)) (by omega), hbel⟩

set_option maxHeartbeats 1000000 in
theorem szRValue_of (r : Nat → D) (h0 : Sh (r 0) .int) (h1 : Sh (r 1) .str) (h2 : SzL 118 (r 2)) (h3 : SzL 44 (r 3)) : SzRValue r := by
  intro w l d0 d1 d2 d3 hl a0 a1 a2 a3
  obtain ⟨k0, e0⟩ := h0.int
  obtain ⟨u1, e1⟩ := h1.str
  have hsum : sumTo (fun j => sz (r j)) 4 = u1.size + sz (r 2) + sz (r 3) := by simp [sumTo, sz, e0, e1]
  rw [hsum]
  clear hsum
  rw [e0] at a0
  obtain rfl : d0 = .int .i64 k0 := a0
  rw [e1] at a1
  obtain ⟨rfl, m1⟩ := a1
  unfold maxLen at m1
  clear e0 e1 h0 h1
  obtain ⟨S2, hS2⟩ : ∃ S, sz (r 2) = S := ⟨_, rfl⟩
  rw [hS2]
  have HS2 := Lib.hid hS2
  clear hS2
  obtain ⟨S3, hS3⟩ : ∃ S, sz (r 3) = S := ⟨_, rfl⟩
  rw [hS3]
  have HS3 := Lib.hid hS3
  clear hS3
  obtain ⟨R, hR⟩ : ∃ R, left l (u1.size + S2 + S3) = R := ⟨_, rfl⟩
  rw [hR]
  have HR := Lib.hid hR
  clear hR
  by_cases b1 : (l : Int) - u1.size < 0
  · go_enter Tryz.func107, Tryz.ntmps107
    go_wp2
    go_ret
    have h3 := HR.out
    rw [left_neg (by omega)] at h3
    subst h3; exact ⟨rfl, below_alloc _ _⟩
  obtain ⟨L1, l1⟩ : ∃ L : Nat, (l : Int) - (u1.size : Int) = (L : Int) := ⟨l - u1.size, by omega⟩
  have g1 := Lib.hid l1
  have n1 : ¬ (L1 : Int) < 0 := by omega
  have m1' : L1 ≤ 1048576 := by omega
  go_enter Tryz.func107, Tryz.ntmps107
  have ba := below_alloc w (Obj.cells #[Value.int .i64 k0, Value.string u1, d2, d3] 144)
  go_wp2_with fail
  clear l1
  have c2 := h2 _ L1 d2 (by omega) (At.below ba _ a2)
  rw [HS2.out] at c2
  by_cases b2 : S2 ≤ L1
  case neg =>
    rw [left_neg b2] at c2
    refine c2.mono ?_
    rintro e w2 ⟨rfl, hb2⟩
    go_wp2
    go_ret
    have := g1.out
    have h3 := HR.out
    rw [left_neg (by omega)] at h3
    subst h3; exact ⟨rfl, below_trans ba hb2⟩
  obtain ⟨L2, l2⟩ : ∃ L : Nat, (L1 : Int) - (S2 : Int) = (L : Int) := ⟨L1 - S2, by omega⟩
  rw [show left L1 S2 = (L2 : Int) from by rw [left, if_pos b2, l2]] at c2
  have g2 := Lib.hid l2
  have n2 : ¬ (L2 : Int) < 0 := by omega
  have m2' : L2 ≤ 1048576 := by omega
  clear l2
  refine c2.mono ?_
  rintro e w2 ⟨rfl, hb2⟩
  clear c2
  have bb2 := below_trans ba hb2
  have bx2 := hb2
  have q3 : w2.cell? ⟨w.heap.size, 3, none⟩ = some d3 := by
    rw [cell_of ((bx2.block w.heap.size (by simp)).trans (heap_alloc_new w _))]; rfl
  go_wp2_with fail
  clear q3
  have c3 := h3 w2 L2 d3 (by omega) (At.below bb2 _ a3)
  rw [HS3.out] at c3
  by_cases b3 : S3 ≤ L2
  case neg =>
    rw [left_neg b3] at c3
    refine c3.mono ?_
    rintro e w3 ⟨rfl, hb3⟩
    go_wp2
    go_ret
    have := g1.out
    have := g2.out
    have h3 := HR.out
    rw [left_neg (by omega)] at h3
    subst h3; exact ⟨rfl, below_trans bb2 hb3⟩
  obtain ⟨L3, l3⟩ : ∃ L : Nat, (L2 : Int) - (S3 : Int) = (L : Int) := ⟨L2 - S3, by omega⟩
  rw [show left L2 S3 = (L3 : Int) from by rw [left, if_pos b3, l3]] at c3
  have g3 := Lib.hid l3
  have n3 : ¬ (L3 : Int) < 0 := by omega
  have m3' : L3 ≤ 1048576 := by omega
  clear l3
  refine c3.mono ?_
  rintro e w3 ⟨rfl, hb3⟩
  clear c3
  have bb3 := below_trans bb2 hb3
  go_wp2
  go_ret
  have := g1.out
  have := g2.out
  have := g3.out
  have h3 := HR.out
  rw [left_pos (by omega)] at h3
  subst h3; exact ⟨congrArg (fun x => Ending.returned (Value.int .i64 x)) (by omega), bb3⟩

/-- The contract of one row. -/
def SzRArg (r : Nat → D) : Prop := ∀ (w : World) (l : Nat) (d0 d1 d2 d3 d4 : Value), l ≤ 1048576 → At w (r 0) d0 → At w (r 1) d1 → At w (r 2) d2 → At w (r 3) d3 → At w (r 4) d4 →
  Calls Tryz.prog 119 #[.agg #[d0, d1, d2, d3, d4], .int .i64 l] w fun e w' => e = .returned (.int .i64 (left l (sumTo (fun j => sz (r j)) 5))) ∧ Below w.heap.size w w'
set_option maxHeartbeats 1000000 in
theorem szLsArg (n : Nat) (it : Nat → Nat → D) (hit : ∀ i, i < n → SzRArg (it i)) : SzL 108 (.list 5 n it) := by
  intro w l c hl h
  have HI := Lib.hid h
  obtain ⟨A, cap, rfl, hm⟩ := h.slice
  clear h
  unfold maxLen at hm
  have hR0 : sz (.list 5 n it) = n + sumTo (fun i => sumTo (fun j => sz (it i j)) 5) n := rfl
  obtain ⟨R, hR⟩ : ∃ R, left l (n + sumTo (fun i => sumTo (fun j => sz (it i j)) 5) n) = R := ⟨_, rfl⟩
  rw [hR0, hR]
  clear hR0
  have HR := Lib.hid hR
  clear hR
  by_cases h0 : (l : Int) - n < 0
  · go_enter Tryz.func108, Tryz.ntmps108
    go_wp2
    go_ret
    have := HR.out
    rw [left_neg (by omega)] at this
    subst this; exact ⟨rfl, Below.refl _ _⟩
  · go_enter Tryz.func108, Tryz.ntmps108
    go_wp2
    go_loopw [1, 5] (fun x i wr => ∃ k : Nat, k ≤ n ∧ i = .int .i64 k ∧ n + sumTo (fun i => sumTo (fun j => sz (it i j)) 5) k ≤ l ∧ x = .int .i64 ((l : Int) - (n + sumTo (fun i => sumTo (fun j => sz (it i j)) 5) k : Nat)) ∧ Below w.heap.size w wr) (fun _ i _ => n - (intOf i).toNat)
    case atStart => exact ⟨0, Nat.zero_le _, rfl, by simp only [sumTo]; omega, by simp [sumTo], Below.refl _ _⟩
    case round =>
      obtain ⟨k, hk, rfl, hle, rfl, hbel⟩ := hrel
      obtain ⟨T, hT⟩ : ∃ T, sumTo (fun i => sumTo (fun j => sz (it i j)) 5) k = T := ⟨_, rfl⟩
      rw [hT] at hle
      rw [hT]
      have HT := Lib.hid hT
      clear hT
      by_cases hlt : k < n
      · have hk0 : (0 : Int) ≤ (k : Int) := by omega
        have hk1 : (k : Int) < (n : Int) := by omega
        obtain ⟨b, o, e2, hf⟩ := (At.below hbel _ HI.out).nth hlt
        subst e2
        obtain ⟨d0, d1, d2, d3, d4, ⟨f0, a0⟩, ⟨f1, a1⟩, ⟨f2, a2⟩, ⟨f3, a3⟩, ⟨f4, a4⟩⟩ := five hf
        clear hf
        rw [Nat.add_zero] at f0
        obtain ⟨S, hS⟩ : ∃ S, sumTo (fun j => sz (it k j)) 5 = S := ⟨_, rfl⟩
        have HS : Hid (sumTo (fun i => sumTo (fun j => sz (it i j)) 5) (k + 1) = T + S) := by show _ = _; rw [sumTo, HT.out, hS]
        obtain ⟨L, hL⟩ : ∃ L : Nat, (l : Int) - ((n + T : Nat) : Int) = (L : Int) := ⟨l - (n + T), by omega⟩
        have cc := hit k hlt wr L d0 d1 d2 d3 d4 (by omega) a0 a1 a2 a3 a4
        rw [hS] at cc
        clear hS
        rw [hL]
        have HL := Lib.hid hL
        clear hL
        by_cases h1 : S ≤ L
        · obtain ⟨Z, hZ⟩ : ∃ Z : Nat, (L : Int) - (S : Int) = (Z : Int) := ⟨L - S, by omega⟩
          rw [show left L S = (Z : Int) from by rw [left, if_pos h1, hZ]] at cc
          have HZ := Lib.hid hZ
          clear hZ
          go_wp2_with fail
          refine cc.mono ?_
          rintro e w1 ⟨rfl, hb1⟩
          have hz0 : ¬ (Z : Int) < 0 := by omega
          go_wp2
          go_roundw
          case rel =>
            have := HZ.out
            have := HL.out
            exact ⟨k + 1, by omega, by go_num, by rw [HS.out]; omega, by rw [HS.out]; congr 1; omega, below_trans hbel hb1⟩
          case measure => simp [intOf]; omega
        · rw [left_neg h1] at cc
          go_wp2_with fail
          refine cc.mono ?_
          rintro e w1 ⟨rfl, hb1⟩
          go_wp2
          go_ret
          have := HL.out
          have h2 := sumTo_le (fun i => sumTo (fun j => sz (it i j)) 5) (i := k + 1) (n := n) hlt
          rw [HS.out] at h2
          have h3 := HR.out
          rw [left_neg (by omega)] at h3
          subst h3; exact ⟨rfl, below_trans hbel hb1⟩
      · go_wp2
        go_ret
        obtain rfl : k = n := by omega
        have := HR.out
        rw [HT.out, left_pos (by omega)] at this
        subst this; exact ⟨congrArg (fun x => Ending.returned (Value.int .i64 x)) (by omega), hbel⟩

set_option maxHeartbeats 1000000 in
theorem szRArg_of (r : Nat → D) (i1 : Sh (r 1) .int) (h0 : Sh (r 0) .str) (h1 : SzRValue fun j => r (j + 1)) : SzRArg r := by
  intro w l d0 d1 d2 d3 d4 hl a0 a1 a2 a3 a4
  obtain ⟨u0, e0⟩ := h0.str
  have hsum : sumTo (fun j => sz (r j)) 5 = u0.size + sumTo (fun j => sz (r (j + 1))) 4 := by simp [sumTo, sz, e0]; omega
  rw [hsum]
  clear hsum
  rw [e0] at a0
  obtain ⟨rfl, m0⟩ := a0
  unfold maxLen at m0
  clear e0 h0 i1
  obtain ⟨S1, hS1⟩ : ∃ S, sumTo (fun j => sz (r (j + 1))) 4 = S := ⟨_, rfl⟩
  rw [hS1]
  have HS1 := Lib.hid hS1
  clear hS1
  obtain ⟨R, hR⟩ : ∃ R, left l (u0.size + S1) = R := ⟨_, rfl⟩
  rw [hR]
  have HR := Lib.hid hR
  clear hR
  by_cases b0 : (l : Int) - u0.size < 0
  · go_enter Tryz.func119, Tryz.ntmps119
    go_wp2
    go_ret
    have h3 := HR.out
    rw [left_neg (by omega)] at h3
    subst h3; exact ⟨rfl, below_alloc _ _⟩
  obtain ⟨L0, l0⟩ : ∃ L : Nat, (l : Int) - (u0.size : Int) = (L : Int) := ⟨l - u0.size, by omega⟩
  have g0 := Lib.hid l0
  have n0 : ¬ (L0 : Int) < 0 := by omega
  have m0' : L0 ≤ 1048576 := by omega
  go_enter Tryz.func119, Tryz.ntmps119
  have ba := below_alloc w (Obj.cells #[Value.string u0, d1, d2, d3, d4] 194)
  go_wp2_with fail
  clear l0
  have c1 := h1 _ L0 d1 d2 d3 d4 (by omega) (At.below ba _ a1) (At.below ba _ a2) (At.below ba _ a3) (At.below ba _ a4)
  rw [HS1.out] at c1
  by_cases b1 : S1 ≤ L0
  case neg =>
    rw [left_neg b1] at c1
    refine c1.mono ?_
    rintro e w1 ⟨rfl, hb1⟩
    go_wp2
    go_ret
    have := g0.out
    have h3 := HR.out
    rw [left_neg (by omega)] at h3
    subst h3; exact ⟨rfl, below_trans ba hb1⟩
  obtain ⟨L1, l1⟩ : ∃ L : Nat, (L0 : Int) - (S1 : Int) = (L : Int) := ⟨L0 - S1, by omega⟩
  rw [show left L0 S1 = (L1 : Int) from by rw [left, if_pos b1, l1]] at c1
  have g1 := Lib.hid l1
  have n1 : ¬ (L1 : Int) < 0 := by omega
  have m1' : L1 ≤ 1048576 := by omega
  clear l1
  refine c1.mono ?_
  rintro e w1 ⟨rfl, hb1⟩
  clear c1
  have bb1 := below_trans ba hb1
  go_wp2
  go_ret
  have := g0.out
  have := g1.out
  have h3 := HR.out
  rw [left_pos (by omega)] at h3
  subst h3; exact ⟨congrArg (fun x => Ending.returned (Value.int .i64 x)) (by omega), bb1⟩

/-- The contract of one row. -/
def SzRDir (r : Nat → D) : Prop := ∀ (w : World) (l : Nat) (d0 d1 : Value), l ≤ 1048576 → At w (r 0) d0 → At w (r 1) d1 →
  Calls Tryz.prog 80 #[.agg #[d0, d1], .int .i64 l] w fun e w' => e = .returned (.int .i64 (left l (sumTo (fun j => sz (r j)) 2))) ∧ Below w.heap.size w w'
set_option maxHeartbeats 1000000 in
theorem szLsDir (n : Nat) (it : Nat → Nat → D) (hit : ∀ i, i < n → SzRDir (it i)) : SzL 42 (.list 2 n it) := by
  intro w l c hl h
  have HI := Lib.hid h
  obtain ⟨A, cap, rfl, hm⟩ := h.slice
  clear h
  unfold maxLen at hm
  have hR0 : sz (.list 2 n it) = n + sumTo (fun i => sumTo (fun j => sz (it i j)) 2) n := rfl
  obtain ⟨R, hR⟩ : ∃ R, left l (n + sumTo (fun i => sumTo (fun j => sz (it i j)) 2) n) = R := ⟨_, rfl⟩
  rw [hR0, hR]
  clear hR0
  have HR := Lib.hid hR
  clear hR
  by_cases h0 : (l : Int) - n < 0
  · go_enter Tryz.func42, Tryz.ntmps42
    go_wp2
    go_ret
    have := HR.out
    rw [left_neg (by omega)] at this
    subst this; exact ⟨rfl, Below.refl _ _⟩
  · go_enter Tryz.func42, Tryz.ntmps42
    go_wp2
    go_loopw [1, 5] (fun x i wr => ∃ k : Nat, k ≤ n ∧ i = .int .i64 k ∧ n + sumTo (fun i => sumTo (fun j => sz (it i j)) 2) k ≤ l ∧ x = .int .i64 ((l : Int) - (n + sumTo (fun i => sumTo (fun j => sz (it i j)) 2) k : Nat)) ∧ Below w.heap.size w wr) (fun _ i _ => n - (intOf i).toNat)
    case atStart => exact ⟨0, Nat.zero_le _, rfl, by simp only [sumTo]; omega, by simp [sumTo], Below.refl _ _⟩
    case round =>
      obtain ⟨k, hk, rfl, hle, rfl, hbel⟩ := hrel
      obtain ⟨T, hT⟩ : ∃ T, sumTo (fun i => sumTo (fun j => sz (it i j)) 2) k = T := ⟨_, rfl⟩
      rw [hT] at hle
      rw [hT]
      have HT := Lib.hid hT
      clear hT
      by_cases hlt : k < n
      · have hk0 : (0 : Int) ≤ (k : Int) := by omega
        have hk1 : (k : Int) < (n : Int) := by omega
        obtain ⟨b, o, e2, hf⟩ := (At.below hbel _ HI.out).nth hlt
        subst e2
        obtain ⟨d0, d1, ⟨f0, a0⟩, ⟨f1, a1⟩⟩ := two hf
        clear hf
        rw [Nat.add_zero] at f0
        obtain ⟨S, hS⟩ : ∃ S, sumTo (fun j => sz (it k j)) 2 = S := ⟨_, rfl⟩
        have HS : Hid (sumTo (fun i => sumTo (fun j => sz (it i j)) 2) (k + 1) = T + S) := by show _ = _; rw [sumTo, HT.out, hS]
        obtain ⟨L, hL⟩ : ∃ L : Nat, (l : Int) - ((n + T : Nat) : Int) = (L : Int) := ⟨l - (n + T), by omega⟩
        have cc := hit k hlt wr L d0 d1 (by omega) a0 a1
        rw [hS] at cc
        clear hS
        rw [hL]
        have HL := Lib.hid hL
        clear hL
        by_cases h1 : S ≤ L
        · obtain ⟨Z, hZ⟩ : ∃ Z : Nat, (L : Int) - (S : Int) = (Z : Int) := ⟨L - S, by omega⟩
          rw [show left L S = (Z : Int) from by rw [left, if_pos h1, hZ]] at cc
          have HZ := Lib.hid hZ
          clear hZ
          go_wp2_with fail
          refine cc.mono ?_
          rintro e w1 ⟨rfl, hb1⟩
          have hz0 : ¬ (Z : Int) < 0 := by omega
          go_wp2
          go_roundw
          case rel =>
            have := HZ.out
            have := HL.out
            exact ⟨k + 1, by omega, by go_num, by rw [HS.out]; omega, by rw [HS.out]; congr 1; omega, below_trans hbel hb1⟩
          case measure => simp [intOf]; omega
        · rw [left_neg h1] at cc
          go_wp2_with fail
          refine cc.mono ?_
          rintro e w1 ⟨rfl, hb1⟩
          go_wp2
          go_ret
          have := HL.out
          have h2 := sumTo_le (fun i => sumTo (fun j => sz (it i j)) 2) (i := k + 1) (n := n) hlt
          rw [HS.out] at h2
          have h3 := HR.out
          rw [left_neg (by omega)] at h3
          subst h3; exact ⟨rfl, below_trans hbel hb1⟩
      · go_wp2
        go_ret
        obtain rfl : k = n := by omega
        have := HR.out
        rw [HT.out, left_pos (by omega)] at this
        subst this; exact ⟨congrArg (fun x => Ending.returned (Value.int .i64 x)) (by omega), hbel⟩

set_option maxHeartbeats 1000000 in
theorem szRDir_of (r : Nat → D) (h0 : Sh (r 0) .str) (h1 : SzL 108 (r 1)) : SzRDir r := by
  intro w l d0 d1 hl a0 a1
  obtain ⟨u0, e0⟩ := h0.str
  have hsum : sumTo (fun j => sz (r j)) 2 = u0.size + sz (r 1) := by simp [sumTo, sz, e0]
  rw [hsum]
  clear hsum
  rw [e0] at a0
  obtain ⟨rfl, m0⟩ := a0
  unfold maxLen at m0
  clear e0 h0
  obtain ⟨S1, hS1⟩ : ∃ S, sz (r 1) = S := ⟨_, rfl⟩
  rw [hS1]
  have HS1 := Lib.hid hS1
  clear hS1
  obtain ⟨R, hR⟩ : ∃ R, left l (u0.size + S1) = R := ⟨_, rfl⟩
  rw [hR]
  have HR := Lib.hid hR
  clear hR
  by_cases b0 : (l : Int) - u0.size < 0
  · go_enter Tryz.func80, Tryz.ntmps80
    go_wp2
    go_ret
    have h3 := HR.out
    rw [left_neg (by omega)] at h3
    subst h3; exact ⟨rfl, below_alloc _ _⟩
  obtain ⟨L0, l0⟩ : ∃ L : Nat, (l : Int) - (u0.size : Int) = (L : Int) := ⟨l - u0.size, by omega⟩
  have g0 := Lib.hid l0
  have n0 : ¬ (L0 : Int) < 0 := by omega
  have m0' : L0 ≤ 1048576 := by omega
  go_enter Tryz.func80, Tryz.ntmps80
  have ba := below_alloc w (Obj.cells #[Value.string u0, d1] 150)
  go_wp2_with fail
  clear l0
  have c1 := h1 _ L0 d1 (by omega) (At.below ba _ a1)
  rw [HS1.out] at c1
  by_cases b1 : S1 ≤ L0
  case neg =>
    rw [left_neg b1] at c1
    refine c1.mono ?_
    rintro e w1 ⟨rfl, hb1⟩
    go_wp2
    go_ret
    have := g0.out
    have h3 := HR.out
    rw [left_neg (by omega)] at h3
    subst h3; exact ⟨rfl, below_trans ba hb1⟩
  obtain ⟨L1, l1⟩ : ∃ L : Nat, (L0 : Int) - (S1 : Int) = (L : Int) := ⟨L0 - S1, by omega⟩
  rw [show left L0 S1 = (L1 : Int) from by rw [left, if_pos b1, l1]] at c1
  have g1 := Lib.hid l1
  have n1 : ¬ (L1 : Int) < 0 := by omega
  have m1' : L1 ≤ 1048576 := by omega
  clear l1
  refine c1.mono ?_
  rintro e w1 ⟨rfl, hb1⟩
  clear c1
  have bb1 := below_trans ba hb1
  go_wp2
  go_ret
  have := g0.out
  have := g1.out
  have h3 := HR.out
  rw [left_pos (by omega)] at h3
  subst h3; exact ⟨congrArg (fun x => Ending.returned (Value.int .i64 x)) (by omega), bb1⟩

/-- The contract of one row. -/
def SzRSel (r : Nat → D) : Prop := ∀ (w : World) (l : Nat) (d0 d1 d2 d3 d4 d5 d6 : Value), l ≤ 1048576 → At w (r 0) d0 → At w (r 1) d1 → At w (r 2) d2 → At w (r 3) d3 → At w (r 4) d4 → At w (r 5) d5 → At w (r 6) d6 →
  Calls Tryz.prog 81 #[.agg #[d0, d1, d2, d3, d4, d5, d6], .int .i64 l] w fun e w' => e = .returned (.int .i64 (left l (sumTo (fun j => sz (r j)) 7))) ∧ Below w.heap.size w w'
set_option maxHeartbeats 1000000 in
theorem szLsSel (n : Nat) (it : Nat → Nat → D) (hit : ∀ i, i < n → SzRSel (it i)) : SzL 43 (.list 7 n it) := by
  intro w l c hl h
  have HI := Lib.hid h
  obtain ⟨A, cap, rfl, hm⟩ := h.slice
  clear h
  unfold maxLen at hm
  have hR0 : sz (.list 7 n it) = n + sumTo (fun i => sumTo (fun j => sz (it i j)) 7) n := rfl
  obtain ⟨R, hR⟩ : ∃ R, left l (n + sumTo (fun i => sumTo (fun j => sz (it i j)) 7) n) = R := ⟨_, rfl⟩
  rw [hR0, hR]
  clear hR0
  have HR := Lib.hid hR
  clear hR
  by_cases h0 : (l : Int) - n < 0
  · go_enter Tryz.func43, Tryz.ntmps43
    go_wp2
    go_ret
    have := HR.out
    rw [left_neg (by omega)] at this
    subst this; exact ⟨rfl, Below.refl _ _⟩
  · go_enter Tryz.func43, Tryz.ntmps43
    go_wp2
    go_loopw [1, 5] (fun x i wr => ∃ k : Nat, k ≤ n ∧ i = .int .i64 k ∧ n + sumTo (fun i => sumTo (fun j => sz (it i j)) 7) k ≤ l ∧ x = .int .i64 ((l : Int) - (n + sumTo (fun i => sumTo (fun j => sz (it i j)) 7) k : Nat)) ∧ Below w.heap.size w wr) (fun _ i _ => n - (intOf i).toNat)
    case atStart => exact ⟨0, Nat.zero_le _, rfl, by simp only [sumTo]; omega, by simp [sumTo], Below.refl _ _⟩
    case round =>
      obtain ⟨k, hk, rfl, hle, rfl, hbel⟩ := hrel
      obtain ⟨T, hT⟩ : ∃ T, sumTo (fun i => sumTo (fun j => sz (it i j)) 7) k = T := ⟨_, rfl⟩
      rw [hT] at hle
      rw [hT]
      have HT := Lib.hid hT
      clear hT
      by_cases hlt : k < n
      · have hk0 : (0 : Int) ≤ (k : Int) := by omega
        have hk1 : (k : Int) < (n : Int) := by omega
        obtain ⟨b, o, e2, hf⟩ := (At.below hbel _ HI.out).nth hlt
        subst e2
        obtain ⟨d0, d1, d2, d3, d4, d5, d6, ⟨f0, a0⟩, ⟨f1, a1⟩, ⟨f2, a2⟩, ⟨f3, a3⟩, ⟨f4, a4⟩, ⟨f5, a5⟩, ⟨f6, a6⟩⟩ := seven hf
        clear hf
        rw [Nat.add_zero] at f0
        obtain ⟨S, hS⟩ : ∃ S, sumTo (fun j => sz (it k j)) 7 = S := ⟨_, rfl⟩
        have HS : Hid (sumTo (fun i => sumTo (fun j => sz (it i j)) 7) (k + 1) = T + S) := by show _ = _; rw [sumTo, HT.out, hS]
        obtain ⟨L, hL⟩ : ∃ L : Nat, (l : Int) - ((n + T : Nat) : Int) = (L : Int) := ⟨l - (n + T), by omega⟩
        have cc := hit k hlt wr L d0 d1 d2 d3 d4 d5 d6 (by omega) a0 a1 a2 a3 a4 a5 a6
        rw [hS] at cc
        clear hS
        rw [hL]
        have HL := Lib.hid hL
        clear hL
        by_cases h1 : S ≤ L
        · obtain ⟨Z, hZ⟩ : ∃ Z : Nat, (L : Int) - (S : Int) = (Z : Int) := ⟨L - S, by omega⟩
          rw [show left L S = (Z : Int) from by rw [left, if_pos h1, hZ]] at cc
          have HZ := Lib.hid hZ
          clear hZ
          go_wp2_with fail
          refine cc.mono ?_
          rintro e w1 ⟨rfl, hb1⟩
          have hz0 : ¬ (Z : Int) < 0 := by omega
          go_wp2
          go_roundw
          case rel =>
            have := HZ.out
            have := HL.out
            exact ⟨k + 1, by omega, by go_num, by rw [HS.out]; omega, by rw [HS.out]; congr 1; omega, below_trans hbel hb1⟩
          case measure => simp [intOf]; omega
        · rw [left_neg h1] at cc
          go_wp2_with fail
          refine cc.mono ?_
          rintro e w1 ⟨rfl, hb1⟩
          go_wp2
          go_ret
          have := HL.out
          have h2 := sumTo_le (fun i => sumTo (fun j => sz (it i j)) 7) (i := k + 1) (n := n) hlt
          rw [HS.out] at h2
          have h3 := HR.out
          rw [left_neg (by omega)] at h3
          subst h3; exact ⟨rfl, below_trans hbel hb1⟩
      · go_wp2
        go_ret
        obtain rfl : k = n := by omega
        have := HR.out
        rw [HT.out, left_pos (by omega)] at this
        subst this; exact ⟨congrArg (fun x => Ending.returned (Value.int .i64 x)) (by omega), hbel⟩

set_option maxHeartbeats 1000000 in
theorem szRSel_of (r : Nat → D) (h0 : Sh (r 0) .int) (h1 : Sh (r 1) .str) (h2 : Sh (r 2) .str) (h3 : Sh (r 3) .str) (h4 : SzL 108 (r 4)) (h5 : SzL 42 (r 5)) (h6 : SzL 43 (r 6)) : SzRSel r := by
  intro w l d0 d1 d2 d3 d4 d5 d6 hl a0 a1 a2 a3 a4 a5 a6
  obtain ⟨k0, e0⟩ := h0.int
  obtain ⟨u1, e1⟩ := h1.str
  obtain ⟨u2, e2⟩ := h2.str
  obtain ⟨u3, e3⟩ := h3.str
  have hsum : sumTo (fun j => sz (r j)) 7 = u1.size + u2.size + u3.size + sz (r 4) + sz (r 5) + sz (r 6) := by simp [sumTo, sz, e0, e1, e2, e3]
  rw [hsum]
  clear hsum
  rw [e0] at a0
  obtain rfl : d0 = .int .i64 k0 := a0
  rw [e1] at a1
  obtain ⟨rfl, m1⟩ := a1
  unfold maxLen at m1
  rw [e2] at a2
  obtain ⟨rfl, m2⟩ := a2
  unfold maxLen at m2
  rw [e3] at a3
  obtain ⟨rfl, m3⟩ := a3
  unfold maxLen at m3
  clear e0 e1 e2 e3 h0 h1 h2 h3
  obtain ⟨S4, hS4⟩ : ∃ S, sz (r 4) = S := ⟨_, rfl⟩
  rw [hS4]
  have HS4 := Lib.hid hS4
  clear hS4
  obtain ⟨S5, hS5⟩ : ∃ S, sz (r 5) = S := ⟨_, rfl⟩
  rw [hS5]
  have HS5 := Lib.hid hS5
  clear hS5
  obtain ⟨S6, hS6⟩ : ∃ S, sz (r 6) = S := ⟨_, rfl⟩
  rw [hS6]
  have HS6 := Lib.hid hS6
  clear hS6
  obtain ⟨R, hR⟩ : ∃ R, left l (u1.size + u2.size + u3.size + S4 + S5 + S6) = R := ⟨_, rfl⟩
  rw [hR]
  have HR := Lib.hid hR
  clear hR
  by_cases b1 : (l : Int) - u1.size < 0
  · go_enter Tryz.func81, Tryz.ntmps81
    go_wp2
    go_ret
    have h3 := HR.out
    rw [left_neg (by omega)] at h3
    subst h3; exact ⟨rfl, below_alloc _ _⟩
  obtain ⟨L1, l1⟩ : ∃ L : Nat, (l : Int) - (u1.size : Int) = (L : Int) := ⟨l - u1.size, by omega⟩
  by_cases b2 : (L1 : Int) - u2.size < 0
  · go_enter Tryz.func81, Tryz.ntmps81
    go_wp2
    go_ret
    have h3 := HR.out
    rw [left_neg (by omega)] at h3
    subst h3; exact ⟨rfl, below_alloc _ _⟩
  obtain ⟨L2, l2⟩ : ∃ L : Nat, (L1 : Int) - (u2.size : Int) = (L : Int) := ⟨L1 - u2.size, by omega⟩
  by_cases b3 : (L2 : Int) - u3.size < 0
  · go_enter Tryz.func81, Tryz.ntmps81
    go_wp2
    go_ret
    have h3 := HR.out
    rw [left_neg (by omega)] at h3
    subst h3; exact ⟨rfl, below_alloc _ _⟩
  obtain ⟨L3, l3⟩ : ∃ L : Nat, (L2 : Int) - (u3.size : Int) = (L : Int) := ⟨L2 - u3.size, by omega⟩
  have g1 := Lib.hid l1
  have n1 : ¬ (L1 : Int) < 0 := by omega
  have m1' : L1 ≤ 1048576 := by omega
  have g2 := Lib.hid l2
  have n2 : ¬ (L2 : Int) < 0 := by omega
  have m2' : L2 ≤ 1048576 := by omega
  have g3 := Lib.hid l3
  have n3 : ¬ (L3 : Int) < 0 := by omega
  have m3' : L3 ≤ 1048576 := by omega
  go_enter Tryz.func81, Tryz.ntmps81
  have ba := below_alloc w (Obj.cells #[Value.int .i64 k0, Value.string u1, Value.string u2, Value.string u3, d4, d5, d6] 153)
  go_wp2_with fail
  clear l1 l2 l3
  have c4 := h4 _ L3 d4 (by omega) (At.below ba _ a4)
  rw [HS4.out] at c4
  by_cases b4 : S4 ≤ L3
  case neg =>
    rw [left_neg b4] at c4
    refine c4.mono ?_
    rintro e w4 ⟨rfl, hb4⟩
    go_wp2
    go_ret
    have := g1.out
    have := g2.out
    have := g3.out
    have h3 := HR.out
    rw [left_neg (by omega)] at h3
    subst h3; exact ⟨rfl, below_trans ba hb4⟩
  obtain ⟨L4, l4⟩ : ∃ L : Nat, (L3 : Int) - (S4 : Int) = (L : Int) := ⟨L3 - S4, by omega⟩
  rw [show left L3 S4 = (L4 : Int) from by rw [left, if_pos b4, l4]] at c4
  have g4 := Lib.hid l4
  have n4 : ¬ (L4 : Int) < 0 := by omega
  have m4' : L4 ≤ 1048576 := by omega
  clear l4
  refine c4.mono ?_
  rintro e w4 ⟨rfl, hb4⟩
  clear c4
  have bb4 := below_trans ba hb4
  have bx4 := hb4
  have q5 : w4.cell? ⟨w.heap.size, 5, none⟩ = some d5 := by
    rw [cell_of ((bx4.block w.heap.size (by simp)).trans (heap_alloc_new w _))]; rfl
  go_wp2_with fail
  clear q5
  have c5 := h5 w4 L4 d5 (by omega) (At.below bb4 _ a5)
  rw [HS5.out] at c5
  by_cases b5 : S5 ≤ L4
  case neg =>
    rw [left_neg b5] at c5
    refine c5.mono ?_
    rintro e w5 ⟨rfl, hb5⟩
    go_wp2
    go_ret
    have := g1.out
    have := g2.out
    have := g3.out
    have := g4.out
    have h3 := HR.out
    rw [left_neg (by omega)] at h3
    subst h3; exact ⟨rfl, below_trans bb4 hb5⟩
  obtain ⟨L5, l5⟩ : ∃ L : Nat, (L4 : Int) - (S5 : Int) = (L : Int) := ⟨L4 - S5, by omega⟩
  rw [show left L4 S5 = (L5 : Int) from by rw [left, if_pos b5, l5]] at c5
  have g5 := Lib.hid l5
  have n5 : ¬ (L5 : Int) < 0 := by omega
  have m5' : L5 ≤ 1048576 := by omega
  clear l5
  refine c5.mono ?_
  rintro e w5 ⟨rfl, hb5⟩
  clear c5
  have bb5 := below_trans bb4 hb5
  have bx5 := below_trans bx4 hb5
  have q6 : w5.cell? ⟨w.heap.size, 6, none⟩ = some d6 := by
    rw [cell_of ((bx5.block w.heap.size (by simp)).trans (heap_alloc_new w _))]; rfl
  go_wp2_with fail
  clear q6
  have c6 := h6 w5 L5 d6 (by omega) (At.below bb5 _ a6)
  rw [HS6.out] at c6
  by_cases b6 : S6 ≤ L5
  case neg =>
    rw [left_neg b6] at c6
    refine c6.mono ?_
    rintro e w6 ⟨rfl, hb6⟩
    go_wp2
    go_ret
    have := g1.out
    have := g2.out
    have := g3.out
    have := g4.out
    have := g5.out
    have h3 := HR.out
    rw [left_neg (by omega)] at h3
    subst h3; exact ⟨rfl, below_trans bb5 hb6⟩
  obtain ⟨L6, l6⟩ : ∃ L : Nat, (L5 : Int) - (S6 : Int) = (L : Int) := ⟨L5 - S6, by omega⟩
  rw [show left L5 S6 = (L6 : Int) from by rw [left, if_pos b6, l6]] at c6
  have g6 := Lib.hid l6
  have n6 : ¬ (L6 : Int) < 0 := by omega
  have m6' : L6 ≤ 1048576 := by omega
  clear l6
  refine c6.mono ?_
  rintro e w6 ⟨rfl, hb6⟩
  clear c6
  have bb6 := below_trans bb5 hb6
  go_wp2
  go_ret
  have := g1.out
  have := g2.out
  have := g3.out
  have := g4.out
  have := g5.out
  have := g6.out
  have h3 := HR.out
  rw [left_pos (by omega)] at h3
  subst h3; exact ⟨congrArg (fun x => Ending.returned (Value.int .i64 x)) (by omega), bb6⟩

theorem szValues : ∀ (d : D), Sh d (.lst .value) → SzL 118 d
  | .list W n it, h => by
    obtain ⟨n', it', e, hs⟩ := h.lst
    cases e
    exact szLsValue n it fun i hi => szRValue_of (it i) (hs i hi 0 _ rfl) (hs i hi 1 _ rfl) (szValues (it i 2) (hs i hi 2 _ rfl)) (szStrings (hs i hi 3 _ rfl))
  | .no, h => h.elim
  | .int _, h => by cases h
  | .str _, h => by cases h
  | .bool _, h => by cases h
theorem szArgs {d : D} (h : Sh d (.lst .arg)) : SzL 108 d := by
  obtain ⟨n, it, rfl, hs⟩ := h.lst
  exact szLsArg n it fun i hi => szRArg_of (it i) (hs i hi 1 _ rfl) (hs i hi 0 _ rfl) (szRValue_of (fun j => it i (j + 1)) (hs i hi 1 _ rfl) (hs i hi 2 _ rfl) (szValues _ (hs i hi 3 _ rfl)) (szStrings (hs i hi 4 _ rfl)))
theorem szDirs {d : D} (h : Sh d (.lst .dir)) : SzL 42 d := by
  obtain ⟨n, it, rfl, hs⟩ := h.lst
  exact szLsDir n it fun i hi => szRDir_of (it i) (hs i hi 0 _ rfl) (szArgs (hs i hi 1 _ rfl))
theorem szSels : ∀ (d : D), Sh d (.lst .sel) → SzL 43 d
  | .list W n it, h => by
    obtain ⟨n', it', e, hs⟩ := h.lst
    cases e
    exact szLsSel n it fun i hi => szRSel_of (it i) (hs i hi 0 _ rfl) (hs i hi 1 _ rfl) (hs i hi 2 _ rfl) (hs i hi 3 _ rfl) (szArgs (hs i hi 4 _ rfl)) (szDirs (hs i hi 5 _ rfl)) (szSels (it i 6) (hs i hi 6 _ rfl))
  | .no, h => h.elim
  | .int _, h => by cases h
  | .str _, h => by cases h
  | .bool _, h => by cases h
theorem szSel {r : Nat → D} (hs : ∀ j g, (row .sel)[j]? = some g → Sh (r j) g) : SzRSel r :=
  szRSel_of r (hs 0 _ rfl) (hs 1 _ rfl) (hs 2 _ rfl) (hs 3 _ rfl) (szArgs (hs 4 _ rfl)) (szDirs (hs 5 _ rfl)) (szSels (r 6) (hs 6 _ rfl))
end Da
end Go.Proofs.YtngfhncdmlpjiaaGreat
