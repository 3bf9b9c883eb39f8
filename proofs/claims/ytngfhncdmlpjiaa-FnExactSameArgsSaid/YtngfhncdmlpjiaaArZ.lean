/- What is proved: what the laws' helpers that count names with values answer: what is left, or -1. -/
import Derived.Test.YtngfhncdmlpjiaaArA
namespace Go.Proofs.Ytngfhncdmlpjiaa
namespace Va
open Go.RowKit
attribute [local go_sem ↓] Go.wp_at_zero Go.wp_at_succ

theorem box5 {w w1 : World} {c c0 c1 c2 c3 : Value} {t : TypeId} (hb : Below (w.alloc (Obj.cells #[c, c0, c1, c2, c3] t)).heap.size (w.alloc (Obj.cells #[c, c0, c1, c2, c3] t)) w1) :
    w1.cell? ⟨w.heap.size, 0, none⟩ = some c ∧ w1.cell? ⟨w.heap.size, 1, none⟩ = some c0 ∧ w1.cell? ⟨w.heap.size, 2, none⟩ = some c1 ∧ w1.cell? ⟨w.heap.size, 3, none⟩ = some c2 ∧ w1.cell? ⟨w.heap.size, 4, none⟩ = some c3 := by
  have h : w1.heap[w.heap.size]? = some (Obj.cells #[c, c0, c1, c2, c3] t) := by
    rw [hb.block w.heap.size (by simp)]; exact heap_alloc_new w _
  simp [World.cell?, h]

theorem szOneArg (t : ByteArray) (v : V) (w : World) (l : Nat) (d0 d1 d2 d3 : Value) (hl : l ≤ 1048576) (ht : t.size ≤ maxLen) (h : At w v d0 d1 d2 d3) :
    Calls Try.prog 24 #[.agg #[.string t, d0, d1, d2, d3], .int .i64 l] w fun e w' => e = .returned (.int .i64 (left l (t.size + sz v))) ∧ Below w.heap.size w w' := by
  unfold maxLen at ht
  obtain ⟨R, hR⟩ : ∃ R, left l (t.size + sz v) = R := ⟨_, rfl⟩
  rw [hR]
  have HR : Hid (left l (t.size + sz v) = R) := hR
  clear hR
  by_cases h0 : (l : Int) - t.size < 0
  · go_enter Try.func24, Try.ntmps24
    go_wp2
    go_ret
    have h3 := HR.out
    unfold left at h3
    rw [if_neg (by omega)] at h3
    subst h3; exact ⟨rfl, below_alloc _ _⟩
  · obtain ⟨L, hL⟩ : ∃ L : Nat, (l : Int) - (t.size : Int) = (L : Int) := ⟨l - t.size, by omega⟩
    go_enter Try.func24, Try.ntmps24
    have HL : Hid ((l : Int) - (t.size : Int) = (L : Int)) := hL
    have hLl : L ≤ 1048576 := by omega
    have hLn : ¬ (L : Int) < 0 := by omega
    have ba := below_alloc w (Obj.cells #[Value.string t, d0, d1, d2, d3] 49)
    have cI := szV v _ L d0 d1 d2 d3 hLl (At.below ba v h)
    go_wp2_with fail
    clear hL
    refine cI.mono ?_
    rintro e w1 ⟨rfl, hb1⟩
    have h4 := HR.out
    have := HL.out
    unfold left at h4
    by_cases h1 : sz v ≤ L
    · obtain ⟨Z, hZ⟩ : ∃ Z : Nat, (L : Int) - (sz v : Int) = (Z : Int) := ⟨L - sz v, by omega⟩
      rw [show left L (sz v) = (Z : Int) from by rw [left, if_pos h1, hZ]]
      rw [if_pos (by omega)] at h4
      obtain rfl : R = (Z : Int) := by omega
      clear h4 hZ
      have hz0 : ¬ (Z : Int) < 0 := by omega
      go_wp2
      go_ret
      exact ⟨rfl, below_trans ba hb1⟩
    · rw [show left L (sz v) = -1 from by rw [left, if_neg h1]]
      rw [if_neg (by omega)] at h4
      subst h4
      go_wp2
      go_ret
      exact ⟨rfl, below_trans ba hb1⟩

theorem szA {n : Nat} {nm : Nat → ByteArray} {it : Nat → V} {c : Value} (l : Nat) (hl : l ≤ 1048576) (w : World) (h : Ars w n nm it c) :
    Calls Try.prog 10 #[c, .int .i64 l] w fun e w' => e = .returned (.int .i64 (left l (sza n nm it))) ∧ Below w.heap.size w w' := by
  have HI := h
  obtain ⟨A, cap, rfl, hm, -⟩ := h
  unfold maxLen at hm
  obtain ⟨R, hR⟩ : ∃ R, left l (sza n nm it) = R := ⟨_, rfl⟩
  rw [hR]
  have HR : Hid (left l (sza n nm it) = R) := hR
  clear hR
  by_cases h0 : (l : Int) - n < 0
  · go_enter Try.func10, Try.ntmps10
    go_wp2
    go_ret
    have := HR.out
    unfold left sza at this
    rw [if_neg (by omega)] at this
    subst this; exact ⟨rfl, Below.refl _ _⟩
  · go_enter Try.func10, Try.ntmps10
    go_wp2
    go_loopw [1, 5] (fun x i wr => ∃ k : Nat, k ≤ n ∧ i = .int .i64 k ∧ n + sumTo (fun j => (nm j).size + sz (it j)) k ≤ l ∧ x = .int .i64 ((l : Int) - (n + sumTo (fun j => (nm j).size + sz (it j)) k : Nat)) ∧ Below w.heap.size w wr) (fun _ i _ => n - (intOf i).toNat)
    case atStart => exact ⟨0, Nat.zero_le _, rfl, by simp only [sumTo]; omega, by simp [sumTo], Below.refl _ _⟩
    case round =>
      obtain ⟨k, hk, rfl, hle, rfl, hbel⟩ := hrel
      obtain ⟨T, hT⟩ : ∃ T, sumTo (fun j => (nm j).size + sz (it j)) k = T := ⟨_, rfl⟩
      rw [hT] at hle
      rw [hT]
      have HT : Hid (sumTo (fun j => (nm j).size + sz (it j)) k = T) := hT
      clear hT
      by_cases hlt : k < n
      · have hk0 : (0 : Int) ≤ (k : Int) := by omega
        have hk1 : (k : Int) < (n : Int) := by omega
        obtain ⟨b, o, d0, d1, d2, d3, e2, hf, hns, hat⟩ := (HI.below hbel).nth hlt
        subst e2
        obtain ⟨fn, f0, f1, f2, f3⟩ := hf
        have hs2 : sumTo (fun j => (nm j).size + sz (it j)) (k + 1) = T + ((nm k).size + sz (it k)) := by rw [sumTo, HT.out]
        have HS : Hid (sumTo (fun j => (nm j).size + sz (it j)) (k + 1) = T + ((nm k).size + sz (it k))) := hs2
        clear hs2
        obtain ⟨L, hL⟩ : ∃ L : Nat, (l : Int) - ((n + T : Nat) : Int) = (L : Int) := ⟨l - (n + T), by omega⟩
        have cc := szOneArg (nm k) (it k) wr L d0 d1 d2 d3 (by omega) hns hat
        obtain ⟨S, hS⟩ : ∃ S, (nm k).size + sz (it k) = S := ⟨_, rfl⟩
        rw [hS] at cc HS
        clear hS
        rw [hL]
        have HL : Hid ((l : Int) - ((n + T : Nat) : Int) = (L : Int)) := hL
        clear hL
        by_cases h1 : S ≤ L
        · obtain ⟨Z, hZ⟩ : ∃ Z : Nat, (L : Int) - (S : Int) = (Z : Int) := ⟨L - S, by omega⟩
          rw [show left L S = (Z : Int) from by rw [left, if_pos h1, hZ]] at cc
          have HZ : Hid ((L : Int) - (S : Int) = (Z : Int)) := hZ
          clear hZ
          go_wp2_with fail
          refine cc.mono ?_
          rintro e w1 ⟨rfl, hb1⟩
          have hz0 : ¬ (Z : Int) < 0 := by omega
          go_wp2
          go_roundw
          case rel =>
            have := HZ.out
            have := HL.out
            exact ⟨k + 1, by omega, by go_num, by rw [HS.out]; omega, by rw [HS.out]; congr 1; omega, below_trans hbel hb1⟩
          case measure => simp [intOf]; omega
        · rw [show left L S = -1 from by rw [left, if_neg h1]] at cc
          go_wp2_with fail
          refine cc.mono ?_
          rintro e w1 ⟨rfl, hb1⟩
          go_wp2
          go_ret
          have := HL.out
          have h2 := sumTo_le (fun j => (nm j).size + sz (it j)) (i := k + 1) (n := n) hlt
          rw [HS.out] at h2
          have h3 := HR.out
          unfold left sza at h3
          rw [if_neg (by omega)] at h3
          subst h3; exact ⟨rfl, below_trans hbel hb1⟩
      · go_wp2
        go_ret
        obtain rfl : k = n := by omega
        have := HR.out
        unfold left sza at this
        rw [HT.out, if_pos (by omega)] at this
        subst this; exact ⟨rfl, hbel⟩
end Va
end Go.Proofs.Ytngfhncdmlpjiaa
