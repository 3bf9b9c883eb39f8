/- What is proved: what the laws' helpers that count answer of tokens: what is left, or -1. (Made by tools/mkdbz.py.) -/
import Derived.Test.YtfljibjlfjgajaaDaZ
namespace Go.Proofs.Ytfljibjlfjgajaa
namespace Da
set_option linter.unusedVariables false
set_option linter.unusedSimpArgs false
open Go.RowKit
attribute [local go_sem ↓] Go.wp_at_zero Go.wp_at_succ

/-- The contract of one. -/
def SzRToken (r : Nat → D) : Prop := ∀ (w : World) (l : Nat) (d0 d1 d2 : Value), l ≤ 1048576 → At w (r 0) d0 → At w (r 1) d1 → At w (r 2) d2 →
  Calls Try.prog 5 #[.agg #[d0, d1, d2], .int .i64 l] w fun e w' => e = .returned (.int .i64 (left l (sumTo (fun j => sz (r j)) 3))) ∧ Below w.heap.size w w'
set_option maxHeartbeats 2000000 in
theorem szRToken_of (r : Nat → D) (h0 : Sh (r 0) .int) (h1 : Sh (r 1) .str) (h2 : Sh (r 2) .int) : SzRToken r := by
  intro w l d0 d1 d2 hl a0 a1 a2
  obtain ⟨k0, e0⟩ := h0.int
  obtain ⟨u1, e1⟩ := h1.str
  obtain ⟨k2, e2⟩ := h2.int
  have hsum : sumTo (fun j => sz (r j)) 3 = u1.size := by
    simp [sumTo, sz, e0, e1, e2] <;> omega
  rw [hsum]
  clear hsum
  rw [e0] at a0
  obtain rfl : d0 = .int .i64 k0 := a0
  rw [e1] at a1
  obtain ⟨rfl, m1⟩ := a1
  unfold maxLen at m1
  rw [e2] at a2
  obtain rfl : d2 = .int .i64 k2 := a2
  clear e0 e1 e2 h0 h1 h2
  obtain ⟨R, hR⟩ : ∃ R, left l (u1.size) = R := ⟨_, rfl⟩
  rw [hR]
  have HR := Lib.hid hR
  clear hR
  by_cases b1 : (l : Int) - u1.size < 0
  · go_enter Try.func5, Try.ntmps5
    go_wp2
    go_ret
    have h3 := HR.out
    rw [left_neg (by omega)] at h3
    subst h3; exact ⟨rfl, below_alloc _ _⟩
  obtain ⟨L1, l1⟩ : ∃ L : Nat, (l : Int) - (u1.size : Int) = (L : Int) := ⟨l - u1.size, by omega⟩
  have g1 := Lib.hid l1
  have n1 : ¬ (L1 : Int) < 0 := by omega
  have m1' : L1 ≤ 1048576 := by omega
  go_enter Try.func5, Try.ntmps5
  have ba := below_alloc w (Obj.cells #[Value.int .i64 k0, Value.string u1, Value.int .i64 k2] 23)
  go_wp2
  go_ret
  have := g1.out
  have h3 := HR.out
  rw [left_pos (by omega)] at h3
  subst h3; exact ⟨congrArg (fun x => Ending.returned (Value.int .i64 x)) (by omega), ba⟩

theorem szToken {r : Nat → D} (hs : ∀ j g, (row .token)[j]? = some g → Sh (r j) g) : SzRToken r := (szRToken_of r (hs 0 _ rfl) (hs 1 _ rfl) (hs 2 _ rfl))

set_option maxHeartbeats 1000000 in
theorem szLsToken (n : Nat) (it : Nat → Nat → D) (hit : ∀ i, i < n → SzRToken (it i)) : SzL 9 (.list 3 n it) := by
  intro w l c hl h
  have HI := Lib.hid h
  obtain ⟨A, cap, rfl, hm⟩ := h.slice
  clear h
  unfold maxLen at hm
  have hR0 : sz (.list 3 n it) = n + sumTo (fun i => sumTo (fun j => sz (it i j)) 3) n := rfl
  obtain ⟨R, hR⟩ : ∃ R, left l (n + sumTo (fun i => sumTo (fun j => sz (it i j)) 3) n) = R := ⟨_, rfl⟩
  rw [hR0, hR]
  clear hR0
  have HR := Lib.hid hR
  clear hR
  by_cases h0 : (l : Int) - n < 0
  · go_enter Try.func9, Try.ntmps9
    go_wp2
    go_ret
    have := HR.out
    rw [left_neg (by omega)] at this
    subst this; exact ⟨rfl, Below.refl _ _⟩
  · go_enter Try.func9, Try.ntmps9
    go_wp2
    go_loopw [1, 5] (fun x i wr => ∃ k : Nat, k ≤ n ∧ i = .int .i64 k ∧ n + sumTo (fun i => sumTo (fun j => sz (it i j)) 3) k ≤ l ∧ x = .int .i64 ((l : Int) - (n + sumTo (fun i => sumTo (fun j => sz (it i j)) 3) k : Nat)) ∧ Below w.heap.size w wr) (fun _ i _ => n - (intOf i).toNat)
    case atStart => exact ⟨0, Nat.zero_le _, rfl, by simp only [sumTo]; omega, by simp [sumTo], Below.refl _ _⟩
    case round =>
      obtain ⟨k, hk, rfl, hle, rfl, hbel⟩ := hrel
      obtain ⟨T, hT⟩ : ∃ T, sumTo (fun i => sumTo (fun j => sz (it i j)) 3) k = T := ⟨_, rfl⟩
      rw [hT] at hle
      rw [hT]
      have HT := Lib.hid hT
      clear hT
      by_cases hlt : k < n
      · have hk0 : (0 : Int) ≤ (k : Int) := by omega
        have hk1 : (k : Int) < (n : Int) := by omega
        obtain ⟨b, o, e2, hf⟩ := (At.below hbel _ HI.out).nth hlt
        subst e2
        obtain ⟨d0, f0, a0⟩ := hf 0 (by omega)
        obtain ⟨d1, f1, a1⟩ := hf 1 (by omega)
        obtain ⟨d2, f2, a2⟩ := hf 2 (by omega)
        clear hf
        rw [Nat.add_zero] at f0
        obtain ⟨S, hS⟩ : ∃ S, sumTo (fun j => sz (it k j)) 3 = S := ⟨_, rfl⟩
        have HS : Hid (sumTo (fun i => sumTo (fun j => sz (it i j)) 3) (k + 1) = T + S) := by show _ = _; rw [sumTo, HT.out, hS]
        obtain ⟨L, hL⟩ : ∃ L : Nat, (l : Int) - ((n + T : Nat) : Int) = (L : Int) := ⟨l - (n + T), by omega⟩
        have cc := hit k hlt wr L d0 d1 d2 (by omega) a0 a1 a2
        rw [hS] at cc
        clear hS
        rw [hL]
        have HL := Lib.hid hL
        clear hL
        by_cases h1 : S ≤ L
        · obtain ⟨Z, hZ⟩ : ∃ Z : Nat, (L : Int) - (S : Int) = (Z : Int) := ⟨L - S, by omega⟩
          rw [show left L S = (Z : Int) from by rw [left, if_pos h1, hZ]] at cc
          have HZ := Lib.hid hZ
          clear hZ
          go_wp2_with fail
          refine cc.mono ?_
          rintro e w1 ⟨rfl, hb1⟩
          have hz0 : ¬ (Z : Int) < 0 := by omega
          go_wp2
          go_roundw
          case rel =>
            have := HZ.out
            have := HL.out
            exact ⟨k + 1, by omega, by go_num, by rw [HS.out]; omega, by rw [HS.out]; congr 1; omega, below_trans hbel hb1⟩
          case measure => simp [intOf]; omega
        · rw [left_neg h1] at cc
          go_wp2_with fail
          refine cc.mono ?_
          rintro e w1 ⟨rfl, hb1⟩
          go_wp2
          go_ret
          have := HL.out
          have h2 := sumTo_le (fun i => sumTo (fun j => sz (it i j)) 3) (i := k + 1) (n := n) hlt
          rw [HS.out] at h2
          have h3 := HR.out
          rw [left_neg (by omega)] at h3
          subst h3; exact ⟨rfl, below_trans hbel hb1⟩
      · go_wp2
        go_ret
        obtain rfl : k = n := by omega
        have := HR.out
        rw [HT.out, left_pos (by omega)] at this
        subst this; exact ⟨congrArg (fun x => Ending.returned (Value.int .i64 x)) (by omega), hbel⟩

theorem szTokens {d : D} (h : Sh d (.lst .token)) : SzL 9 d := by
  obtain ⟨n, it, rfl, hs⟩ := h.lst
  exact szLsToken n it fun i hi => (szRToken_of (it i) (hs i hi 0 _ rfl) (hs i hi 1 _ rfl) (hs i hi 2 _ rfl))

end Da
end Go.Proofs.Ytfljibjlfjgajaa
