/- What is proved: what the model's RuneAt answers at every text of at most a million bytes and every int: the same as the program's. Used by the proofs of FnExactRuneAtCardSaid, FnExactTextOkCardSaid, FnExactRunesOfCardSaid and FnRunesCardSaid. -/
import Derived.Test.YtaafgcnkedaonaaDoorRt
import Derived.WalkKit
import Derived.WalkSpells
import Derived.WalkLawsBesides
import Derived.Lib.Hide
import Derived.Below
import Derived.KernelRfl
namespace Go.Proofs.YtaafgcnkedaonaaDoor
open Go.RowKit

theorem raS_out (s : ByteArray) (x : Int) (w : World) (hx : ¬ (0 ≤ x ∧ x < s.size)) :
    Calls Tryd.prog 39 #[.string s, .int .i64 x] w fun e w' => e = .returned (.tuple #[.int .i64 (-1), .int .i64 0]) ∧ w = w' := by
  by_cases h0 : x < 0
  · go_enter Tryd.func39, Tryd.ntmps39
    go_wp2
    go_ret2
    exact ⟨rfl, rfl⟩
  · have h1 : ¬ x < (s.size : Int) := by omega
    go_enter Tryd.func39, Tryd.ntmps39
    go_wp2
    go_ret2
    exact ⟨rfl, rfl⟩

/-- Which number, which length, and what the first byte gives. -/
structure Lead (b : Nat) (M : Nat) (n0 : Int) : Prop where
  at2 : M = 2 → 194 ≤ b ∧ b < 224 ∧ n0 = (b : Int) - 192
  at3 : M = 3 → 224 ≤ b ∧ b < 240 ∧ n0 = (b : Int) - 224
  at4 : M = 4 → 240 ≤ b ∧ b < 245 ∧ n0 = (b : Int) - 240
  of : M = 2 ∨ M = 3 ∨ M = 4

theorem Lead.bound {b M : Nat} {n0 : Int} (h : Lead b M n0) : 0 ≤ n0 ∧ n0 < 32 := by
  rcases h.of with e | e | e
  · have := h.at2 e; omega
  · have := h.at3 e; omega
  · have := h.at4 e; omega

theorem lead_short {s : ByteArray} {k M : Nat} {n0 : Int} (hL : Lead (bt s k) M n0) (h : s.size < k + M) : ra s k = (-1, 0) := by
  rw [ra_eq]
  have l1 := bt_lt s (k + 1); have l2 := bt_lt s (k + 2); have l3 := bt_lt s (k + 3)
  rcases hL.of with e | e | e
  · have := hL.at2 e; exact rx_two (by omega) l1 (by omega)
  · have := hL.at3 e; exact rx_three (by omega) l1 l2 (by omega)
  · have := hL.at4 e; exact rx_four (by omega) l1 l2 l3 (by omega)
theorem lead_bad {s : ByteArray} {k M j : Nat} {n0 : Int} (hL : Lead (bt s k) M n0) (h1 : 1 ≤ j) (h2 : j < M) (hb : ¬ (128 ≤ bt s (k + j) ∧ bt s (k + j) ≤ 191)) : ra s k = (-1, 0) := by
  rw [ra_eq]
  have l1 := bt_lt s (k + 1); have l2 := bt_lt s (k + 2); have l3 := bt_lt s (k + 3)
  have hj : j = 1 ∨ j = 2 ∨ j = 3 := by rcases hL.of with e | e | e <;> omega
  rcases hL.of with e | e | e
  · have := hL.at2 e
    rcases hj with rfl | rfl | rfl
    · exact rx_two (by omega) l1 (by omega)
    · omega
    · omega
  · have := hL.at3 e
    rcases hj with rfl | rfl | rfl
    · exact rx_three (by omega) l1 l2 (by omega)
    · exact rx_three (by omega) l1 l2 (by omega)
    · omega
  · have := hL.at4 e
    rcases hj with rfl | rfl | rfl
    · exact rx_four (by omega) l1 l2 l3 (by omega)
    · exact rx_four (by omega) l1 l2 l3 (by omega)
    · exact rx_four (by omega) l1 l2 l3 (by omega)
theorem lead_ok {s : ByteArray} {k M : Nat} {n0 : Int} (hL : Lead (bt s k) M n0) (hz : k + M ≤ s.size) (hb : ∀ j, 1 ≤ j → j < M → 128 ≤ bt s (k + j) ∧ bt s (k + j) ≤ 191) :
    ra s k = if rl (acc s k n0 (M - 1)) = M then (acc s k n0 (M - 1), (M : Int)) else (-1, 0) := by
  rw [ra_eq]
  rcases hL.of with e | e | e
  · obtain ⟨g1, g2, g3⟩ := hL.at2 e
    subst e; subst g3
    exact rx_two_ok ⟨g1, g2⟩ (by omega) (hb 1 (by omega) (by omega))
  · obtain ⟨g1, g2, g3⟩ := hL.at3 e
    subst e; subst g3
    exact rx_three_ok ⟨g1, g2⟩ (by omega) (hb 1 (by omega) (by omega)) (hb 2 (by omega) (by omega))
  · obtain ⟨g1, g2, g3⟩ := hL.at4 e
    subst e; subst g3
    exact rx_four_ok ⟨g1, g2⟩ (by omega) (hb 1 (by omega) (by omega)) (hb 2 (by omega) (by omega)) (hb 3 (by omega) (by omega))

set_option maxHeartbeats 800000 in
set_option maxRecDepth 100000 in
theorem raS_small (s : ByteArray) (k : Nat) (w : World) (hk : k < s.size) (hb : bt s k < 194 ∨ 245 ≤ bt s k) :
    Calls Tryd.prog 39 #[.string s, .int .i64 k] w fun e w' => e = .returned (.tuple #[.int .i64 (ra s k).1, .int .i64 (ra s k).2]) ∧ w = w' := by
  have h0 : ¬ (k : Int) < 0 := by omega
  have h1 : (k : Int) < (s.size : Int) := by omega
  have hk0 : (0 : Int) ≤ (k : Int) := by omega
  have l0 := bt_lt s k
  rw [ra_eq]
  by_cases ha : bt s k < 128
  · rw [rx_ascii ha]
    rw [bt_eq s k hk] at ha l0 ⊢
    have hc1 : ((s[k]).toNat : Int) < 128 := by omega
    clear hb
    go_enter Tryd.func39, Tryd.ntmps39
    go_wp2
    go_ret2
    exact ⟨rfl, rfl⟩
  · rw [rx_none (by omega) l0]
    rw [bt_eq s k hk] at ha l0 hb
    have hc1 : ¬ ((s[k]).toNat : Int) < 128 := by omega
    by_cases hd : (s[k]).toNat < 194
    · have hc2 : ((s[k]).toNat : Int) < 194 := by omega
      go_enter Tryd.func39, Tryd.ntmps39
      go_wp2
      go_ret2
      exact ⟨rfl, rfl⟩
    · have hc2 : (245 : Int) ≤ ((s[k]).toNat : Int) := by omega
      go_enter Tryd.func39, Tryd.ntmps39
      go_wp2
      go_ret2
      exact ⟨rfl, rfl⟩

theorem acc_bound {s : ByteArray} {k : Nat} {n0 : Int} (h0 : 0 ≤ n0) (h1 : n0 < 32) : ∀ j, (∀ q, 1 ≤ q → q < j + 1 → 128 ≤ bt s (k + q) ∧ bt s (k + q) ≤ 191) → 0 ≤ acc s k n0 j ∧ acc s k n0 j < 32 * 64 ^ j
  | 0, _ => by simp [acc]; omega
  | j + 1, hb => by
    have ih := acc_bound h0 h1 j (fun q a b => hb q a (by omega))
    have c := hb (j + 1) (by omega) (by omega)
    simp only [acc, Int.pow_succ]
    omega

set_option maxHeartbeats 1600000 in
set_option maxRecDepth 100000 in
theorem raS_2 (s : ByteArray) (k : Nat) (w : World) (hk : k < s.size) (hz : s.size ≤ 1152921504606846976) (hb : 194 ≤ bt s k ∧ bt s k < 224) :
    Calls Tryd.prog 39 #[.string s, .int .i64 k] w fun e w' => e = .returned (.tuple #[.int .i64 (ra s k).1, .int .i64 (ra s k).2]) ∧ Below w.heap.size w w' := by
  have h0 : ¬ (k : Int) < 0 := by omega
  have h1 : (k : Int) < (s.size : Int) := by omega
  have hk0 : (0 : Int) ≤ (k : Int) := by omega
  have hL : Lead (bt s k) 2 ((bt s k : Int) - 192) := ⟨fun h => by omega, fun h => by omega, fun h => by omega, by omega⟩
  have eb := bt_eq s k hk
  have hc1 : (194 : Int) ≤ ((s[k]).toNat : Int) := by omega
  have hc2 : ((s[k]).toNat : Int) < 224 := by omega
  by_cases hs : s.size < k + 2
  · rw [lead_short hL hs]
    have hs' : (s.size : Int) < (k : Int) + 2 := by omega
    clear hL eb hb
    go_enter Tryd.func39, Tryd.ntmps39
    go_wp2
    go_ret2
    exact ⟨rfl, Below.refl _ _⟩
  · have hs' : ¬ (s.size : Int) < (k : Int) + 2 := by omega
    clear eb
    go_enter Tryd.func39, Tryd.ntmps39
    go_wp2
    go_loopw [8, 9] (fun n i wr => ∃ j : Nat, j < 2 ∧ i = .int .i64 ((j : Int) + 1) ∧ n = .int .i64 (acc s k ((bt s k : Int) - 192) j) ∧ (∀ q, 1 ≤ q → q < j + 1 → 128 ≤ bt s (k + q) ∧ bt s (k + q) ≤ 191) ∧ w = wr)
      (fun _ i _ => 2 - (intOf i).toNat)
    case atStart => exact ⟨0, by omega, rfl, by rw [← bt_eq s k hk]; rfl, fun q a b => by omega, rfl⟩
    case round =>
      obtain ⟨j, hj, rfl, rfl, hq, rfl⟩ := hrel
      have ab := acc_bound hL.bound.1 hL.bound.2 j hq
      by_cases hlt : j + 1 < 2
      · have hlt' : (j : Int) + 1 < 2 := by omega
        have hin : k + (j + 1) < s.size := by omega
        have hi0 : (0 : Int) ≤ (k : Int) + ((j : Int) + 1) := by omega
        have hi1 : (k : Int) + ((j : Int) + 1) < (s.size : Int) := by omega
        have l1 := bt_lt s (k + (j + 1))
        rw [bt_eq s _ hin] at l1
        have hA : 0 ≤ acc s k ((bt s k : Int) - 192) j ∧ acc s k ((bt s k : Int) - 192) j < 131072 := by
          have hj3 : j = 0 ∨ j = 1 ∨ j = 2 := by omega
          rcases hj3 with rfl | rfl | rfl <;> (simp only [Int.reducePow, Int.reduceMul] at ab; omega)
        clear ab
        by_cases hc3 : ((s[k + (j + 1)]).toNat : Int) < 128
        · go_wp2
          go_ret2
          rw [lead_bad hL (j := j + 1) (by omega) hlt (by rw [bt_eq s _ hin]; omega)]
          exact ⟨rfl, Below.refl _ _⟩
        · by_cases hc4 : (191 : Int) < ((s[k + (j + 1)]).toNat : Int)
          · go_wp2
            go_ret2
            rw [lead_bad hL (j := j + 1) (by omega) hlt (by rw [bt_eq s _ hin]; omega)]
            exact ⟨rfl, Below.refl _ _⟩
          · go_wp2
            go_roundw
            case rel =>
              refine ⟨j + 1, hlt, by go_num, ?_, ?_, by trivial⟩
              · simp only [acc]
                rw [bt_eq s _ hin]
              · intro q q1 q2
                by_cases hqj : q < j + 1
                · exact hq q q1 hqj
                · obtain rfl : q = j + 1 := by omega
                  rw [bt_eq s _ hin]; omega
            case measure => simp [intOf]; omega
      · have hlt' : ¬ (j : Int) + 1 < 2 := by omega
        obtain rfl : j = 2 - 1 := by omega
        have hok := lead_ok hL (by omega) (fun q a b => hq q a (by omega))
        simp only [Nat.reduceSub] at hok hq ab ⊢
        obtain ⟨A, hA⟩ : ∃ A, acc s k ((bt s k : Int) - 192) 1 = A := ⟨_, rfl⟩
        rw [hA] at hok ab ⊢
        clear hA hq hL hb hc1 hc2 ab
        by_cases hr : rl A = 2
        · have hr' : ((rt A).size : Int) = 2 := by rw [rt_size, hr]; rfl
          have HO := Lib.hid (hok.trans (if_pos hr))
          clear hr hok
          go_wp2_with fail
          refine (rtS A w).mono ?_
          rintro e w1 ⟨rfl, hb1⟩
          go_wp2
          go_ret2
          rw [show ra s k = _ from HO]
          exact ⟨rfl, hb1⟩
        · have hr' : ¬ ((rt A).size : Int) = 2 := by rw [rt_size]; omega
          have HO := Lib.hid (hok.trans (if_neg hr))
          clear hr hok
          go_wp2_with fail
          refine (rtS A w).mono ?_
          rintro e w1 ⟨rfl, hb1⟩
          go_wp2
          go_ret2
          rw [show ra s k = _ from HO]
          exact ⟨rfl, hb1⟩

set_option maxHeartbeats 1600000 in
set_option maxRecDepth 100000 in
theorem raS_3 (s : ByteArray) (k : Nat) (w : World) (hk : k < s.size) (hz : s.size ≤ 1152921504606846976) (hb : 224 ≤ bt s k ∧ bt s k < 240) :
    Calls Tryd.prog 39 #[.string s, .int .i64 k] w fun e w' => e = .returned (.tuple #[.int .i64 (ra s k).1, .int .i64 (ra s k).2]) ∧ Below w.heap.size w w' := by
  have h0 : ¬ (k : Int) < 0 := by omega
  have h1 : (k : Int) < (s.size : Int) := by omega
  have hk0 : (0 : Int) ≤ (k : Int) := by omega
  have hL : Lead (bt s k) 3 ((bt s k : Int) - 224) := ⟨fun h => by omega, fun h => by omega, fun h => by omega, by omega⟩
  have eb := bt_eq s k hk
  have hc1 : (224 : Int) ≤ ((s[k]).toNat : Int) := by omega
  have hc2 : ((s[k]).toNat : Int) < 240 := by omega
  by_cases hs : s.size < k + 3
  · rw [lead_short hL hs]
    have hs' : (s.size : Int) < (k : Int) + 3 := by omega
    clear hL eb hb
    go_enter Tryd.func39, Tryd.ntmps39
    go_wp2
    go_ret2
    exact ⟨rfl, Below.refl _ _⟩
  · have hs' : ¬ (s.size : Int) < (k : Int) + 3 := by omega
    clear eb
    go_enter Tryd.func39, Tryd.ntmps39
    go_wp2
    go_loopw [8, 9] (fun n i wr => ∃ j : Nat, j < 3 ∧ i = .int .i64 ((j : Int) + 1) ∧ n = .int .i64 (acc s k ((bt s k : Int) - 224) j) ∧ (∀ q, 1 ≤ q → q < j + 1 → 128 ≤ bt s (k + q) ∧ bt s (k + q) ≤ 191) ∧ w = wr)
      (fun _ i _ => 3 - (intOf i).toNat)
    case atStart => exact ⟨0, by omega, rfl, by rw [← bt_eq s k hk]; rfl, fun q a b => by omega, rfl⟩
    case round =>
      obtain ⟨j, hj, rfl, rfl, hq, rfl⟩ := hrel
      have ab := acc_bound hL.bound.1 hL.bound.2 j hq
      by_cases hlt : j + 1 < 3
      · have hlt' : (j : Int) + 1 < 3 := by omega
        have hin : k + (j + 1) < s.size := by omega
        have hi0 : (0 : Int) ≤ (k : Int) + ((j : Int) + 1) := by omega
        have hi1 : (k : Int) + ((j : Int) + 1) < (s.size : Int) := by omega
        have l1 := bt_lt s (k + (j + 1))
        rw [bt_eq s _ hin] at l1
        have hA : 0 ≤ acc s k ((bt s k : Int) - 224) j ∧ acc s k ((bt s k : Int) - 224) j < 131072 := by
          have hj3 : j = 0 ∨ j = 1 ∨ j = 2 := by omega
          rcases hj3 with rfl | rfl | rfl <;> (simp only [Int.reducePow, Int.reduceMul] at ab; omega)
        clear ab
        by_cases hc3 : ((s[k + (j + 1)]).toNat : Int) < 128
        · go_wp2
          go_ret2
          rw [lead_bad hL (j := j + 1) (by omega) hlt (by rw [bt_eq s _ hin]; omega)]
          exact ⟨rfl, Below.refl _ _⟩
        · by_cases hc4 : (191 : Int) < ((s[k + (j + 1)]).toNat : Int)
          · go_wp2
            go_ret2
            rw [lead_bad hL (j := j + 1) (by omega) hlt (by rw [bt_eq s _ hin]; omega)]
            exact ⟨rfl, Below.refl _ _⟩
          · go_wp2
            go_roundw
            case rel =>
              refine ⟨j + 1, hlt, by go_num, ?_, ?_, by trivial⟩
              · simp only [acc]
                rw [bt_eq s _ hin]
              · intro q q1 q2
                by_cases hqj : q < j + 1
                · exact hq q q1 hqj
                · obtain rfl : q = j + 1 := by omega
                  rw [bt_eq s _ hin]; omega
            case measure => simp [intOf]; omega
      · have hlt' : ¬ (j : Int) + 1 < 3 := by omega
        obtain rfl : j = 3 - 1 := by omega
        have hok := lead_ok hL (by omega) (fun q a b => hq q a (by omega))
        simp only [Nat.reduceSub] at hok hq ab ⊢
        obtain ⟨A, hA⟩ : ∃ A, acc s k ((bt s k : Int) - 224) 2 = A := ⟨_, rfl⟩
        rw [hA] at hok ab ⊢
        clear hA hq hL hb hc1 hc2 ab
        by_cases hr : rl A = 3
        · have hr' : ((rt A).size : Int) = 3 := by rw [rt_size, hr]; rfl
          have HO := Lib.hid (hok.trans (if_pos hr))
          clear hr hok
          go_wp2_with fail
          refine (rtS A w).mono ?_
          rintro e w1 ⟨rfl, hb1⟩
          go_wp2
          go_ret2
          rw [show ra s k = _ from HO]
          exact ⟨rfl, hb1⟩
        · have hr' : ¬ ((rt A).size : Int) = 3 := by rw [rt_size]; omega
          have HO := Lib.hid (hok.trans (if_neg hr))
          clear hr hok
          go_wp2_with fail
          refine (rtS A w).mono ?_
          rintro e w1 ⟨rfl, hb1⟩
          go_wp2
          go_ret2
          rw [show ra s k = _ from HO]
          exact ⟨rfl, hb1⟩

set_option maxHeartbeats 1600000 in
set_option maxRecDepth 100000 in
theorem raS_4 (s : ByteArray) (k : Nat) (w : World) (hk : k < s.size) (hz : s.size ≤ 1152921504606846976) (hb : 240 ≤ bt s k ∧ bt s k < 245) :
    Calls Tryd.prog 39 #[.string s, .int .i64 k] w fun e w' => e = .returned (.tuple #[.int .i64 (ra s k).1, .int .i64 (ra s k).2]) ∧ Below w.heap.size w w' := by
  have h0 : ¬ (k : Int) < 0 := by omega
  have h1 : (k : Int) < (s.size : Int) := by omega
  have hk0 : (0 : Int) ≤ (k : Int) := by omega
  have hL : Lead (bt s k) 4 ((bt s k : Int) - 240) := ⟨fun h => by omega, fun h => by omega, fun h => by omega, by omega⟩
  have eb := bt_eq s k hk
  have hc1 : (240 : Int) ≤ ((s[k]).toNat : Int) := by omega
  have hc2 : ((s[k]).toNat : Int) < 245 := by omega
  by_cases hs : s.size < k + 4
  · rw [lead_short hL hs]
    have hs' : (s.size : Int) < (k : Int) + 4 := by omega
    clear hL eb hb
    go_enter Tryd.func39, Tryd.ntmps39
    go_wp2
    go_ret2
    exact ⟨rfl, Below.refl _ _⟩
  · have hs' : ¬ (s.size : Int) < (k : Int) + 4 := by omega
    clear eb
    go_enter Tryd.func39, Tryd.ntmps39
    go_wp2
    go_loopw [8, 9] (fun n i wr => ∃ j : Nat, j < 4 ∧ i = .int .i64 ((j : Int) + 1) ∧ n = .int .i64 (acc s k ((bt s k : Int) - 240) j) ∧ (∀ q, 1 ≤ q → q < j + 1 → 128 ≤ bt s (k + q) ∧ bt s (k + q) ≤ 191) ∧ w = wr)
      (fun _ i _ => 4 - (intOf i).toNat)
    case atStart => exact ⟨0, by omega, rfl, by rw [← bt_eq s k hk]; rfl, fun q a b => by omega, rfl⟩
    case round =>
      obtain ⟨j, hj, rfl, rfl, hq, rfl⟩ := hrel
      have ab := acc_bound hL.bound.1 hL.bound.2 j hq
      by_cases hlt : j + 1 < 4
      · have hlt' : (j : Int) + 1 < 4 := by omega
        have hin : k + (j + 1) < s.size := by omega
        have hi0 : (0 : Int) ≤ (k : Int) + ((j : Int) + 1) := by omega
        have hi1 : (k : Int) + ((j : Int) + 1) < (s.size : Int) := by omega
        have l1 := bt_lt s (k + (j + 1))
        rw [bt_eq s _ hin] at l1
        have hA : 0 ≤ acc s k ((bt s k : Int) - 240) j ∧ acc s k ((bt s k : Int) - 240) j < 131072 := by
          have hj3 : j = 0 ∨ j = 1 ∨ j = 2 := by omega
          rcases hj3 with rfl | rfl | rfl <;> (simp only [Int.reducePow, Int.reduceMul] at ab; omega)
        clear ab
        by_cases hc3 : ((s[k + (j + 1)]).toNat : Int) < 128
        · go_wp2
          go_ret2
          rw [lead_bad hL (j := j + 1) (by omega) hlt (by rw [bt_eq s _ hin]; omega)]
          exact ⟨rfl, Below.refl _ _⟩
        · by_cases hc4 : (191 : Int) < ((s[k + (j + 1)]).toNat : Int)
          · go_wp2
            go_ret2
            rw [lead_bad hL (j := j + 1) (by omega) hlt (by rw [bt_eq s _ hin]; omega)]
            exact ⟨rfl, Below.refl _ _⟩
          · go_wp2
            go_roundw
            case rel =>
              refine ⟨j + 1, hlt, by go_num, ?_, ?_, by trivial⟩
              · simp only [acc]
                rw [bt_eq s _ hin]
              · intro q q1 q2
                by_cases hqj : q < j + 1
                · exact hq q q1 hqj
                · obtain rfl : q = j + 1 := by omega
                  rw [bt_eq s _ hin]; omega
            case measure => simp [intOf]; omega
      · have hlt' : ¬ (j : Int) + 1 < 4 := by omega
        obtain rfl : j = 4 - 1 := by omega
        have hok := lead_ok hL (by omega) (fun q a b => hq q a (by omega))
        simp only [Nat.reduceSub] at hok hq ab ⊢
        obtain ⟨A, hA⟩ : ∃ A, acc s k ((bt s k : Int) - 240) 3 = A := ⟨_, rfl⟩
        rw [hA] at hok ab ⊢
        clear hA hq hL hb hc1 hc2 ab
        by_cases hr : rl A = 4
        · have hr' : ((rt A).size : Int) = 4 := by rw [rt_size, hr]; rfl
          have HO := Lib.hid (hok.trans (if_pos hr))
          clear hr hok
          go_wp2_with fail
          refine (rtS A w).mono ?_
          rintro e w1 ⟨rfl, hb1⟩
          go_wp2
          go_ret2
          rw [show ra s k = _ from HO]
          exact ⟨rfl, hb1⟩
        · have hr' : ¬ ((rt A).size : Int) = 4 := by rw [rt_size]; omega
          have HO := Lib.hid (hok.trans (if_neg hr))
          clear hr hok
          go_wp2_with fail
          refine (rtS A w).mono ?_
          rintro e w1 ⟨rfl, hb1⟩
          go_wp2
          go_ret2
          rw [show ra s k = _ from HO]
          exact ⟨rfl, hb1⟩

/-- The model's RuneAt, inside the text. -/
theorem raS (s : ByteArray) (k : Nat) (w : World) (hk : k < s.size) (hz : s.size ≤ 1152921504606846976) :
    Calls Tryd.prog 39 #[.string s, .int .i64 k] w fun e w' => e = .returned (.tuple #[.int .i64 (ra s k).1, .int .i64 (ra s k).2]) ∧ Below w.heap.size w w' := by
  have l := bt_lt s k
  by_cases h1 : bt s k < 194 ∨ 245 ≤ bt s k
  · exact (raS_small s k w hk h1).mono fun e w' h => ⟨h.1, h.2 ▸ Below.refl _ _⟩
  · by_cases h2 : bt s k < 224
    · exact raS_2 s k w hk hz (by omega)
    · by_cases h3 : bt s k < 240
      · exact raS_3 s k w hk hz (by omega)
      · exact raS_4 s k w hk hz (by omega)
end Go.Proofs.YtaafgcnkedaonaaDoor
