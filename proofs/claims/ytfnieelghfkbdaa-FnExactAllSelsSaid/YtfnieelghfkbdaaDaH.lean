/- What is proved: the laws' tests whether data hold their marks, walked: they say yes of what is marked. (Made by tools/mkdah.py.) -/
import Derived.Test.YtfnieelghfkbdaaDaM
import Derived.Deep.RegionWith
import Derived.Laws.StructEq
namespace Go.Proofs.Ytfnieelghfkbdaa
namespace Da
set_option linter.unusedVariables false
open Go.RowKit
attribute [local go_sem ↓] Go.wp_at_zero Go.wp_at_succ

theorem At.mkInt {w : World} {d : D} {c : Value} {q k : Nat} {x : Int} (h : At w (mkd d q) c) (hs : Sh d .int) (hk : q = k) (hx : x = (k : Int)) : c = .int .i64 x := by
  obtain ⟨y, rfl⟩ := hs.int
  subst hk hx
  exact h
theorem At.mkStr {w : World} {d : D} {c : Value} {q k : Nat} (h : At w (mkd d q) c) (hs : Sh d .str) (hk : q = k) : c = .string (mt k) := by
  obtain ⟨y, rfl⟩ := hs.str
  subst hk
  exact h.1

set_option maxHeartbeats 8000000 in
theorem heLsString (n : Nat) (it : Nat → Nat → D) (hsh : ∀ i, i < n → ∀ j g, (row .text)[j]? = some g → Sh (it i j) g) : HeL 41 (.list 1 n it) := by
  intro w k c hk hkb h
  rw [mkd_list] at h
  have HI := Lib.hid h
  obtain ⟨A, cap, rfl, hm⟩ := h.slice
  clear h
  unfold maxLen at hm
  have HKB := Lib.hid hkb
  clear hkb
  go_enter Try.func41, Try.ntmps41
  go_wp2
  go_loopw [1, 5] (fun kv i wr => ∃ p : Nat, p ≤ n ∧ i = .int .i64 p ∧ kv = .int .i64 ((kk it 1 k p 0 : Nat) : Int) ∧ Below w.heap.size w wr) (fun _ i _ => n - (intOf i).toNat)
  case atStart => exact ⟨0, Nat.zero_le _, rfl, by simp [kk, sumTo], Below.refl _ _⟩
  case round =>
    obtain ⟨p, hp, rfl, rfl, hbel⟩ := hrel
    obtain ⟨T0, hT0⟩ : ∃ T, kk it 1 k p 0 = T := ⟨_, rfl⟩
    rw [hT0]
    have H0 := Lib.hid hT0
    clear hT0
    by_cases hlt : p < n
    · have hk0 : (0 : Int) ≤ (p : Int) := by omega
      have hk1 : (p : Int) < (n : Int) := by omega
      have hbd := kk_le (it := it) (k := k) hlt (Nat.le_refl 1)
      have hkb := HKB.out
      have hT1 : 1 ≤ T0 := by have := kk_le0 it 1 k p 0; have := H0.out; omega
      have n0 : kk it 1 k p 1 = kk it 1 k p 0 + mkn (it p 0) := kk_next it 1 k p 0
      rw [mkn_str (hsh p hlt 0 _ rfl)] at n0
      have e0 := H0.out
      have hTb : T0 + 1 ≤ 1125899906842624 := by omega
      have K0 : Hid (kk it 1 k p 0 = T0) := by show _ = _; omega
      have K1 : Hid (kk it 1 k p 1 = T0 + 1) := by show _ = _; omega
      clear e0 hbd hkb n0
      obtain ⟨b, o, e2, hf⟩ := (At.below hbel _ HI.out).nth hlt
      subst e2
      obtain ⟨d0, ⟨f0, a0⟩⟩ := one hf
      clear hf
      rw [Nat.add_zero, Nat.mul_one] at f0
      have hlg := World.block_lt_of_cell? wr _ f0
      obtain rfl := At.mkStr a0 (hsh p hlt 0 _ rfl) K0.out
      clear a0
      obtain ⟨S0, hS0⟩ : ∃ S, mt (T0) = S := ⟨_, rfl⟩
      rw [hS0] at f0
      have HSS0 := Lib.hid hS0
      clear hS0
      have HF0 := Lib.hid f0
      clear f0
      have HBE := Lib.hid (Below.refl wr.heap.size wr)
      have g0 := (HBE.out.cell (World.block_lt_of_cell? wr _ HF0.out)).trans HF0.out
      have hl0' : b < wr.heap.size := Nat.lt_of_lt_of_le hlg HBE.out.size
      go_wp2
      go_region_held3 (fun w' => w'.cell? ⟨b, o + p, none⟩ = some (.string S0)) (first | go_keep | (rw [hb0.cell (by simpa using hl0')]; simpa using g0)) ((go_at_call 21; refine (markT (T0) _ _ (by omega) (by omega) (by omega)).mono ?_; rw [HSS0.out]; rintro e w0 ⟨rfl, hb0⟩))
      have HB0 := Lib.hid (below_trans HBE.out (below_trans (below_drew _) hb0))
      clear hb0 hl0' g0
      go_wp2
      go_roundw
      case rel => exact ⟨p + 1, by omega, by go_num, by rw [kk_row, K1.out]; go_num, below_trans hbel HB0.out⟩
      case measure => simp [intOf]; omega
    · obtain rfl : p = n := by omega
      go_wp2
      go_ret
      refine ⟨?_, hbel⟩
      rw [← H0.out, kk_all]
      rfl

set_option maxHeartbeats 8000000 in
theorem heLsValue (n : Nat) (it : Nat → Nat → D) (hsh : ∀ i, i < n → ∀ j g, (row .value)[j]? = some g → Sh (it i j) g) (hl2 : ∀ i, i < n → HeL 40 (it i 2)) (hl3 : ∀ i, i < n → HeL 41 (it i 3)) : HeL 40 (.list 4 n it) := by
  intro w k c hk hkb h
  rw [mkd_list] at h
  have HI := Lib.hid h
  obtain ⟨A, cap, rfl, hm⟩ := h.slice
  clear h
  unfold maxLen at hm
  have HKB := Lib.hid hkb
  clear hkb
  go_enter Try.func40, Try.ntmps40
  go_wp2
  go_loopw [1, 5] (fun kv i wr => ∃ p : Nat, p ≤ n ∧ i = .int .i64 p ∧ kv = .int .i64 ((kk it 4 k p 0 : Nat) : Int) ∧ Below w.heap.size w wr) (fun _ i _ => n - (intOf i).toNat)
  case atStart => exact ⟨0, Nat.zero_le _, rfl, by simp [kk, sumTo], Below.refl _ _⟩
  case round =>
    obtain ⟨p, hp, rfl, rfl, hbel⟩ := hrel
    obtain ⟨T0, hT0⟩ : ∃ T, kk it 4 k p 0 = T := ⟨_, rfl⟩
    rw [hT0]
    have H0 := Lib.hid hT0
    clear hT0
    by_cases hlt : p < n
    · have hk0 : (0 : Int) ≤ (p : Int) := by omega
      have hk1 : (p : Int) < (n : Int) := by omega
      have hbd := kk_le (it := it) (k := k) hlt (Nat.le_refl 4)
      have hkb := HKB.out
      have hT1 : 1 ≤ T0 := by have := kk_le0 it 4 k p 0; have := H0.out; omega
      have n0 : kk it 4 k p 1 = kk it 4 k p 0 + mkn (it p 0) := kk_next it 4 k p 0
      rw [mkn_int (hsh p hlt 0 _ rfl)] at n0
      have n1 : kk it 4 k p 2 = kk it 4 k p 1 + mkn (it p 1) := kk_next it 4 k p 1
      rw [mkn_str (hsh p hlt 1 _ rfl)] at n1
      have n2 : kk it 4 k p 3 = kk it 4 k p 2 + mkn (it p 2) := kk_next it 4 k p 2
      obtain ⟨M2, hM2⟩ : ∃ M, mkn (it p 2) = M := ⟨_, rfl⟩
      rw [hM2] at n2
      have HM2 := Lib.hid hM2
      clear hM2
      have n3 : kk it 4 k p 4 = kk it 4 k p 3 + mkn (it p 3) := kk_next it 4 k p 3
      obtain ⟨M3, hM3⟩ : ∃ M, mkn (it p 3) = M := ⟨_, rfl⟩
      rw [hM3] at n3
      have HM3 := Lib.hid hM3
      clear hM3
      have e0 := H0.out
      have hTb : T0 + 1 + 1 + M2 + M3 ≤ 1125899906842624 := by omega
      have K0 : Hid (kk it 4 k p 0 = T0) := by show _ = _; omega
      have K1 : Hid (kk it 4 k p 1 = T0 + 1) := by show _ = _; omega
      have K2 : Hid (kk it 4 k p 2 = T0 + 1 + 1) := by show _ = _; omega
      have K3 : Hid (kk it 4 k p 3 = T0 + 1 + 1 + M2) := by show _ = _; omega
      have K4 : Hid (kk it 4 k p 4 = T0 + 1 + 1 + M2 + M3) := by show _ = _; omega
      clear e0 hbd hkb n0 n1 n2 n3
      obtain ⟨b, o, e2, hf⟩ := (At.below hbel _ HI.out).nth hlt
      subst e2
      obtain ⟨d0, d1, d2, d3, ⟨f0, a0⟩, ⟨f1, a1⟩, ⟨f2, a2⟩, ⟨f3, a3⟩⟩ := four hf
      clear hf
      rw [Nat.add_zero] at f0
      have hlg := World.block_lt_of_cell? wr _ f0
      obtain rfl := At.mkInt (x := (T0 : Int)) a0 (hsh p hlt 0 _ rfl) K0.out (by omega)
      clear a0
      obtain rfl := At.mkStr a1 (hsh p hlt 1 _ rfl) K1.out
      clear a1
      obtain ⟨S1, hS1⟩ : ∃ S, mt (T0 + 1) = S := ⟨_, rfl⟩
      rw [hS1] at f1
      have HSS1 := Lib.hid hS1
      clear hS1
      have HA2 := Lib.hid a2
      clear a2
      have HA3 := Lib.hid a3
      clear a3
      have HF0 := Lib.hid f0
      have HF1 := Lib.hid f1
      have HF2 := Lib.hid f2
      have HF3 := Lib.hid f3
      clear f0 f1 f2 f3
      have HBE := Lib.hid (Below.refl wr.heap.size wr)
      have g0 := (HBE.out.cell (World.block_lt_of_cell? wr _ HF0.out)).trans HF0.out
      have g1 := (HBE.out.cell (World.block_lt_of_cell? wr _ HF1.out)).trans HF1.out
      have hl1' : b < wr.heap.size := Nat.lt_of_lt_of_le hlg HBE.out.size
      go_wp2
      go_region_held3 (fun w' => w'.cell? ⟨b, o + p * 4 + 1, none⟩ = some (.string S1)) (first | go_keep | (rw [hb1.cell (by simpa using hl1')]; simpa using g1)) ((go_at_call 21; refine (markT (T0 + 1) _ _ (by omega) (by omega) (by omega)).mono ?_; rw [HSS1.out]; rintro e w1 ⟨rfl, hb1⟩))
      have HB1 := Lib.hid (below_trans HBE.out (below_trans (below_drew _) hb1))
      clear hb1 hl1' g0 g1
      have g2 := (HB1.out.cell (World.block_lt_of_cell? wr _ HF2.out)).trans HF2.out
      go_wp2_with fail
      clear g2
      rw [show (T0 : Int) + 1 + 1 = ((T0 + 1 + 1 : Nat) : Int) from by omega]
      refine (hl2 p hlt w1 (T0 + 1 + 1) d2 (by omega) (by rw [HM2.out]; omega) (by rw [← K2.out]; exact At.below HB1.out _ HA2.out)).mono ?_
      rw [HM2.out]
      rintro e w2 ⟨rfl, hb2⟩
      have hn2 : ¬ ((T0 + 1 + 1 + M2 : Nat) : Int) < 0 := by omega
      have HB2 := Lib.hid (below_trans HB1.out hb2)
      clear hb2
      have g3 := (HB2.out.cell (World.block_lt_of_cell? wr _ HF3.out)).trans HF3.out
      go_wp2_with fail
      clear g3
      refine (hl3 p hlt w2 (T0 + 1 + 1 + M2) d3 (by omega) (by rw [HM3.out]; omega) (by rw [← K3.out]; exact At.below HB2.out _ HA3.out)).mono ?_
      rw [HM3.out]
      rintro e w3 ⟨rfl, hb3⟩
      have hn3 : ¬ ((T0 + 1 + 1 + M2 + M3 : Nat) : Int) < 0 := by omega
      have HB3 := Lib.hid (below_trans HB2.out hb3)
      clear hb3
      go_wp2
      go_roundw
      case rel => exact ⟨p + 1, by omega, by go_num, by rw [kk_row, K4.out]; go_num, below_trans hbel HB3.out⟩
      case measure => simp [intOf]; omega
    · obtain rfl : p = n := by omega
      go_wp2
      go_ret
      refine ⟨?_, hbel⟩
      rw [← H0.out, kk_all]
      rfl

set_option maxHeartbeats 8000000 in
theorem heLsArg (n : Nat) (it : Nat → Nat → D) (hsh : ∀ i, i < n → ∀ j g, (row .arg)[j]? = some g → Sh (it i j) g) (hl3 : ∀ i, i < n → HeL 40 (it i 3)) (hl4 : ∀ i, i < n → HeL 41 (it i 4)) : HeL 24 (.list 5 n it) := by
  intro w k c hk hkb h
  rw [mkd_list] at h
  have HI := Lib.hid h
  obtain ⟨A, cap, rfl, hm⟩ := h.slice
  clear h
  unfold maxLen at hm
  have HKB := Lib.hid hkb
  clear hkb
  go_enter Try.func24, Try.ntmps24
  go_wp2
  go_loopw [1, 5] (fun kv i wr => ∃ p : Nat, p ≤ n ∧ i = .int .i64 p ∧ kv = .int .i64 ((kk it 5 k p 0 : Nat) : Int) ∧ Below w.heap.size w wr) (fun _ i _ => n - (intOf i).toNat)
  case atStart => exact ⟨0, Nat.zero_le _, rfl, by simp [kk, sumTo], Below.refl _ _⟩
  case round =>
    obtain ⟨p, hp, rfl, rfl, hbel⟩ := hrel
    obtain ⟨T0, hT0⟩ : ∃ T, kk it 5 k p 0 = T := ⟨_, rfl⟩
    rw [hT0]
    have H0 := Lib.hid hT0
    clear hT0
    by_cases hlt : p < n
    · have hk0 : (0 : Int) ≤ (p : Int) := by omega
      have hk1 : (p : Int) < (n : Int) := by omega
      have hbd := kk_le (it := it) (k := k) hlt (Nat.le_refl 5)
      have hkb := HKB.out
      have hT1 : 1 ≤ T0 := by have := kk_le0 it 5 k p 0; have := H0.out; omega
      have n0 : kk it 5 k p 1 = kk it 5 k p 0 + mkn (it p 0) := kk_next it 5 k p 0
      rw [mkn_str (hsh p hlt 0 _ rfl)] at n0
      have n1 : kk it 5 k p 2 = kk it 5 k p 1 + mkn (it p 1) := kk_next it 5 k p 1
      rw [mkn_int (hsh p hlt 1 _ rfl)] at n1
      have n2 : kk it 5 k p 3 = kk it 5 k p 2 + mkn (it p 2) := kk_next it 5 k p 2
      rw [mkn_str (hsh p hlt 2 _ rfl)] at n2
      have n3 : kk it 5 k p 4 = kk it 5 k p 3 + mkn (it p 3) := kk_next it 5 k p 3
      obtain ⟨M3, hM3⟩ : ∃ M, mkn (it p 3) = M := ⟨_, rfl⟩
      rw [hM3] at n3
      have HM3 := Lib.hid hM3
      clear hM3
      have n4 : kk it 5 k p 5 = kk it 5 k p 4 + mkn (it p 4) := kk_next it 5 k p 4
      obtain ⟨M4, hM4⟩ : ∃ M, mkn (it p 4) = M := ⟨_, rfl⟩
      rw [hM4] at n4
      have HM4 := Lib.hid hM4
      clear hM4
      have e0 := H0.out
      have hTb : T0 + 1 + 1 + 1 + M3 + M4 ≤ 1125899906842624 := by omega
      have K0 : Hid (kk it 5 k p 0 = T0) := by show _ = _; omega
      have K1 : Hid (kk it 5 k p 1 = T0 + 1) := by show _ = _; omega
      have K2 : Hid (kk it 5 k p 2 = T0 + 1 + 1) := by show _ = _; omega
      have K3 : Hid (kk it 5 k p 3 = T0 + 1 + 1 + 1) := by show _ = _; omega
      have K4 : Hid (kk it 5 k p 4 = T0 + 1 + 1 + 1 + M3) := by show _ = _; omega
      have K5 : Hid (kk it 5 k p 5 = T0 + 1 + 1 + 1 + M3 + M4) := by show _ = _; omega
      clear e0 hbd hkb n0 n1 n2 n3 n4
      obtain ⟨b, o, e2, hf⟩ := (At.below hbel _ HI.out).nth hlt
      subst e2
      obtain ⟨d0, d1, d2, d3, d4, ⟨f0, a0⟩, ⟨f1, a1⟩, ⟨f2, a2⟩, ⟨f3, a3⟩, ⟨f4, a4⟩⟩ := five hf
      clear hf
      rw [Nat.add_zero] at f0
      have hlg := World.block_lt_of_cell? wr _ f0
      obtain rfl := At.mkStr a0 (hsh p hlt 0 _ rfl) K0.out
      clear a0
      obtain ⟨S0, hS0⟩ : ∃ S, mt (T0) = S := ⟨_, rfl⟩
      rw [hS0] at f0
      have HSS0 := Lib.hid hS0
      clear hS0
      obtain rfl := At.mkInt (x := (T0 : Int) + 1) a1 (hsh p hlt 1 _ rfl) K1.out (by omega)
      clear a1
      obtain rfl := At.mkStr a2 (hsh p hlt 2 _ rfl) K2.out
      clear a2
      obtain ⟨S2, hS2⟩ : ∃ S, mt (T0 + 1 + 1) = S := ⟨_, rfl⟩
      rw [hS2] at f2
      have HSS2 := Lib.hid hS2
      clear hS2
      have HA3 := Lib.hid a3
      clear a3
      have HA4 := Lib.hid a4
      clear a4
      have HF0 := Lib.hid f0
      have HF1 := Lib.hid f1
      have HF2 := Lib.hid f2
      have HF3 := Lib.hid f3
      have HF4 := Lib.hid f4
      clear f0 f1 f2 f3 f4
      have HBE := Lib.hid (Below.refl wr.heap.size wr)
      have g0 := (HBE.out.cell (World.block_lt_of_cell? wr _ HF0.out)).trans HF0.out
      have hl0' : b < wr.heap.size := Nat.lt_of_lt_of_le hlg HBE.out.size
      go_wp2
      go_region_held3 (fun w' => w'.cell? ⟨b, o + p * 5, none⟩ = some (.string S0)) (first | go_keep | (rw [hb0.cell (by simpa using hl0')]; simpa using g0)) ((go_at_call 21; refine (markT (T0) _ _ (by omega) (by omega) (by omega)).mono ?_; rw [HSS0.out]; rintro e w0 ⟨rfl, hb0⟩))
      have HB0 := Lib.hid (below_trans HBE.out (below_trans (below_drew _) hb0))
      clear hb0 hl0' g0
      have g1 := (HB0.out.cell (World.block_lt_of_cell? wr _ HF1.out)).trans HF1.out
      have g2 := (HB0.out.cell (World.block_lt_of_cell? wr _ HF2.out)).trans HF2.out
      have hl2' : b < w0.heap.size := Nat.lt_of_lt_of_le hlg HB0.out.size
      go_wp2
      go_region_held3 (fun w' => w'.cell? ⟨b, o + p * 5 + 2, none⟩ = some (.string S2)) (first | go_keep | (rw [hb2.cell (by simpa using hl2')]; simpa using g2)) ((go_at_call 21; refine (markT (T0 + 1 + 1) _ _ (by omega) (by omega) (by omega)).mono ?_; rw [HSS2.out]; rintro e w2 ⟨rfl, hb2⟩))
      have HB2 := Lib.hid (below_trans HB0.out (below_trans (below_drew _) hb2))
      clear hb2 hl2' g1 g2
      have g3 := (HB2.out.cell (World.block_lt_of_cell? wr _ HF3.out)).trans HF3.out
      go_wp2_with fail
      clear g3
      rw [show (T0 : Int) + 1 + 1 + 1 = ((T0 + 1 + 1 + 1 : Nat) : Int) from by omega]
      refine (hl3 p hlt w2 (T0 + 1 + 1 + 1) d3 (by omega) (by rw [HM3.out]; omega) (by rw [← K3.out]; exact At.below HB2.out _ HA3.out)).mono ?_
      rw [HM3.out]
      rintro e w3 ⟨rfl, hb3⟩
      have hn3 : ¬ ((T0 + 1 + 1 + 1 + M3 : Nat) : Int) < 0 := by omega
      have HB3 := Lib.hid (below_trans HB2.out hb3)
      clear hb3
      have g4 := (HB3.out.cell (World.block_lt_of_cell? wr _ HF4.out)).trans HF4.out
      go_wp2_with fail
      clear g4
      refine (hl4 p hlt w3 (T0 + 1 + 1 + 1 + M3) d4 (by omega) (by rw [HM4.out]; omega) (by rw [← K4.out]; exact At.below HB3.out _ HA4.out)).mono ?_
      rw [HM4.out]
      rintro e w4 ⟨rfl, hb4⟩
      have hn4 : ¬ ((T0 + 1 + 1 + 1 + M3 + M4 : Nat) : Int) < 0 := by omega
      have HB4 := Lib.hid (below_trans HB3.out hb4)
      clear hb4
      go_wp2
      go_roundw
      case rel => exact ⟨p + 1, by omega, by go_num, by rw [kk_row, K5.out]; go_num, below_trans hbel HB4.out⟩
      case measure => simp [intOf]; omega
    · obtain rfl : p = n := by omega
      go_wp2
      go_ret
      refine ⟨?_, hbel⟩
      rw [← H0.out, kk_all]
      rfl

set_option maxHeartbeats 8000000 in
theorem heLsDir (n : Nat) (it : Nat → Nat → D) (hsh : ∀ i, i < n → ∀ j g, (row .dir)[j]? = some g → Sh (it i j) g) (hl1 : ∀ i, i < n → HeL 24 (it i 1)) : HeL 25 (.list 2 n it) := by
  intro w k c hk hkb h
  rw [mkd_list] at h
  have HI := Lib.hid h
  obtain ⟨A, cap, rfl, hm⟩ := h.slice
  clear h
  unfold maxLen at hm
  have HKB := Lib.hid hkb
  clear hkb
  go_enter Try.func25, Try.ntmps25
  go_wp2
  go_loopw [1, 5] (fun kv i wr => ∃ p : Nat, p ≤ n ∧ i = .int .i64 p ∧ kv = .int .i64 ((kk it 2 k p 0 : Nat) : Int) ∧ Below w.heap.size w wr) (fun _ i _ => n - (intOf i).toNat)
  case atStart => exact ⟨0, Nat.zero_le _, rfl, by simp [kk, sumTo], Below.refl _ _⟩
  case round =>
    obtain ⟨p, hp, rfl, rfl, hbel⟩ := hrel
    obtain ⟨T0, hT0⟩ : ∃ T, kk it 2 k p 0 = T := ⟨_, rfl⟩
    rw [hT0]
    have H0 := Lib.hid hT0
    clear hT0
    by_cases hlt : p < n
    · have hk0 : (0 : Int) ≤ (p : Int) := by omega
      have hk1 : (p : Int) < (n : Int) := by omega
      have hbd := kk_le (it := it) (k := k) hlt (Nat.le_refl 2)
      have hkb := HKB.out
      have hT1 : 1 ≤ T0 := by have := kk_le0 it 2 k p 0; have := H0.out; omega
      have n0 : kk it 2 k p 1 = kk it 2 k p 0 + mkn (it p 0) := kk_next it 2 k p 0
      rw [mkn_str (hsh p hlt 0 _ rfl)] at n0
      have n1 : kk it 2 k p 2 = kk it 2 k p 1 + mkn (it p 1) := kk_next it 2 k p 1
      obtain ⟨M1, hM1⟩ : ∃ M, mkn (it p 1) = M := ⟨_, rfl⟩
      rw [hM1] at n1
      have HM1 := Lib.hid hM1
      clear hM1
      have e0 := H0.out
      have hTb : T0 + 1 + M1 ≤ 1125899906842624 := by omega
      have K0 : Hid (kk it 2 k p 0 = T0) := by show _ = _; omega
      have K1 : Hid (kk it 2 k p 1 = T0 + 1) := by show _ = _; omega
      have K2 : Hid (kk it 2 k p 2 = T0 + 1 + M1) := by show _ = _; omega
      clear e0 hbd hkb n0 n1
      obtain ⟨b, o, e2, hf⟩ := (At.below hbel _ HI.out).nth hlt
      subst e2
      obtain ⟨d0, d1, ⟨f0, a0⟩, ⟨f1, a1⟩⟩ := two hf
      clear hf
      rw [Nat.add_zero] at f0
      have hlg := World.block_lt_of_cell? wr _ f0
      obtain rfl := At.mkStr a0 (hsh p hlt 0 _ rfl) K0.out
      clear a0
      obtain ⟨S0, hS0⟩ : ∃ S, mt (T0) = S := ⟨_, rfl⟩
      rw [hS0] at f0
      have HSS0 := Lib.hid hS0
      clear hS0
      have HA1 := Lib.hid a1
      clear a1
      have HF0 := Lib.hid f0
      have HF1 := Lib.hid f1
      clear f0 f1
      have HBE := Lib.hid (Below.refl wr.heap.size wr)
      have g0 := (HBE.out.cell (World.block_lt_of_cell? wr _ HF0.out)).trans HF0.out
      have hl0' : b < wr.heap.size := Nat.lt_of_lt_of_le hlg HBE.out.size
      go_wp2
      go_region_held3 (fun w' => w'.cell? ⟨b, o + p * 2, none⟩ = some (.string S0)) (first | go_keep | (rw [hb0.cell (by simpa using hl0')]; simpa using g0)) ((go_at_call 21; refine (markT (T0) _ _ (by omega) (by omega) (by omega)).mono ?_; rw [HSS0.out]; rintro e w0 ⟨rfl, hb0⟩))
      have HB0 := Lib.hid (below_trans HBE.out (below_trans (below_drew _) hb0))
      clear hb0 hl0' g0
      have g1 := (HB0.out.cell (World.block_lt_of_cell? wr _ HF1.out)).trans HF1.out
      go_wp2_with fail
      clear g1
      rw [show (T0 : Int) + 1 = ((T0 + 1 : Nat) : Int) from by omega]
      refine (hl1 p hlt w0 (T0 + 1) d1 (by omega) (by rw [HM1.out]; omega) (by rw [← K1.out]; exact At.below HB0.out _ HA1.out)).mono ?_
      rw [HM1.out]
      rintro e w1 ⟨rfl, hb1⟩
      have hn1 : ¬ ((T0 + 1 + M1 : Nat) : Int) < 0 := by omega
      have HB1 := Lib.hid (below_trans HB0.out hb1)
      clear hb1
      go_wp2
      go_roundw
      case rel => exact ⟨p + 1, by omega, by go_num, by rw [kk_row, K2.out]; go_num, below_trans hbel HB1.out⟩
      case measure => simp [intOf]; omega
    · obtain rfl : p = n := by omega
      go_wp2
      go_ret
      refine ⟨?_, hbel⟩
      rw [← H0.out, kk_all]
      rfl

set_option maxHeartbeats 8000000 in
theorem heLsSel (n : Nat) (it : Nat → Nat → D) (hsh : ∀ i, i < n → ∀ j g, (row .sel)[j]? = some g → Sh (it i j) g) (hl4 : ∀ i, i < n → HeL 24 (it i 4)) (hl5 : ∀ i, i < n → HeL 25 (it i 5)) (hl6 : ∀ i, i < n → HeL 11 (it i 6)) : HeL 11 (.list 7 n it) := by
  intro w k c hk hkb h
  rw [mkd_list] at h
  have HI := Lib.hid h
  obtain ⟨A, cap, rfl, hm⟩ := h.slice
  clear h
  unfold maxLen at hm
  have HKB := Lib.hid hkb
  clear hkb
  go_enter Try.func11, Try.ntmps11
  go_wp2
  go_loopw [1, 5] (fun kv i wr => ∃ p : Nat, p ≤ n ∧ i = .int .i64 p ∧ kv = .int .i64 ((kk it 7 k p 0 : Nat) : Int) ∧ Below w.heap.size w wr) (fun _ i _ => n - (intOf i).toNat)
  case atStart => exact ⟨0, Nat.zero_le _, rfl, by simp [kk, sumTo], Below.refl _ _⟩
  case round =>
    obtain ⟨p, hp, rfl, rfl, hbel⟩ := hrel
    obtain ⟨T0, hT0⟩ : ∃ T, kk it 7 k p 0 = T := ⟨_, rfl⟩
    rw [hT0]
    have H0 := Lib.hid hT0
    clear hT0
    by_cases hlt : p < n
    · have hk0 : (0 : Int) ≤ (p : Int) := by omega
      have hk1 : (p : Int) < (n : Int) := by omega
      have hbd := kk_le (it := it) (k := k) hlt (Nat.le_refl 7)
      have hkb := HKB.out
      have hT1 : 1 ≤ T0 := by have := kk_le0 it 7 k p 0; have := H0.out; omega
      have n0 : kk it 7 k p 1 = kk it 7 k p 0 + mkn (it p 0) := kk_next it 7 k p 0
      rw [mkn_int (hsh p hlt 0 _ rfl)] at n0
      have n1 : kk it 7 k p 2 = kk it 7 k p 1 + mkn (it p 1) := kk_next it 7 k p 1
      rw [mkn_str (hsh p hlt 1 _ rfl)] at n1
      have n2 : kk it 7 k p 3 = kk it 7 k p 2 + mkn (it p 2) := kk_next it 7 k p 2
      rw [mkn_str (hsh p hlt 2 _ rfl)] at n2
      have n3 : kk it 7 k p 4 = kk it 7 k p 3 + mkn (it p 3) := kk_next it 7 k p 3
      rw [mkn_str (hsh p hlt 3 _ rfl)] at n3
      have n4 : kk it 7 k p 5 = kk it 7 k p 4 + mkn (it p 4) := kk_next it 7 k p 4
      obtain ⟨M4, hM4⟩ : ∃ M, mkn (it p 4) = M := ⟨_, rfl⟩
      rw [hM4] at n4
      have HM4 := Lib.hid hM4
      clear hM4
      have n5 : kk it 7 k p 6 = kk it 7 k p 5 + mkn (it p 5) := kk_next it 7 k p 5
      obtain ⟨M5, hM5⟩ : ∃ M, mkn (it p 5) = M := ⟨_, rfl⟩
      rw [hM5] at n5
      have HM5 := Lib.hid hM5
      clear hM5
      have n6 : kk it 7 k p 7 = kk it 7 k p 6 + mkn (it p 6) := kk_next it 7 k p 6
      obtain ⟨M6, hM6⟩ : ∃ M, mkn (it p 6) = M := ⟨_, rfl⟩
      rw [hM6] at n6
      have HM6 := Lib.hid hM6
      clear hM6
      have e0 := H0.out
      have hTb : T0 + 1 + 1 + 1 + 1 + M4 + M5 + M6 ≤ 1125899906842624 := by omega
      have K0 : Hid (kk it 7 k p 0 = T0) := by show _ = _; omega
      have K1 : Hid (kk it 7 k p 1 = T0 + 1) := by show _ = _; omega
      have K2 : Hid (kk it 7 k p 2 = T0 + 1 + 1) := by show _ = _; omega
      have K3 : Hid (kk it 7 k p 3 = T0 + 1 + 1 + 1) := by show _ = _; omega
      have K4 : Hid (kk it 7 k p 4 = T0 + 1 + 1 + 1 + 1) := by show _ = _; omega
      have K5 : Hid (kk it 7 k p 5 = T0 + 1 + 1 + 1 + 1 + M4) := by show _ = _; omega
      have K6 : Hid (kk it 7 k p 6 = T0 + 1 + 1 + 1 + 1 + M4 + M5) := by show _ = _; omega
      have K7 : Hid (kk it 7 k p 7 = T0 + 1 + 1 + 1 + 1 + M4 + M5 + M6) := by show _ = _; omega
      clear e0 hbd hkb n0 n1 n2 n3 n4 n5 n6
      obtain ⟨b, o, e2, hf⟩ := (At.below hbel _ HI.out).nth hlt
      subst e2
      obtain ⟨d0, d1, d2, d3, d4, d5, d6, ⟨f0, a0⟩, ⟨f1, a1⟩, ⟨f2, a2⟩, ⟨f3, a3⟩, ⟨f4, a4⟩, ⟨f5, a5⟩, ⟨f6, a6⟩⟩ := seven hf
      clear hf
      rw [Nat.add_zero] at f0
      have hlg := World.block_lt_of_cell? wr _ f0
      obtain rfl := At.mkInt (x := (T0 : Int)) a0 (hsh p hlt 0 _ rfl) K0.out (by omega)
      clear a0
      obtain rfl := At.mkStr a1 (hsh p hlt 1 _ rfl) K1.out
      clear a1
      obtain ⟨S1, hS1⟩ : ∃ S, mt (T0 + 1) = S := ⟨_, rfl⟩
      rw [hS1] at f1
      have HSS1 := Lib.hid hS1
      clear hS1
      obtain rfl := At.mkStr a2 (hsh p hlt 2 _ rfl) K2.out
      clear a2
      obtain ⟨S2, hS2⟩ : ∃ S, mt (T0 + 1 + 1) = S := ⟨_, rfl⟩
      rw [hS2] at f2
      have HSS2 := Lib.hid hS2
      clear hS2
      obtain rfl := At.mkStr a3 (hsh p hlt 3 _ rfl) K3.out
      clear a3
      obtain ⟨S3, hS3⟩ : ∃ S, mt (T0 + 1 + 1 + 1) = S := ⟨_, rfl⟩
      rw [hS3] at f3
      have HSS3 := Lib.hid hS3
      clear hS3
      have HA4 := Lib.hid a4
      clear a4
      have HA5 := Lib.hid a5
      clear a5
      have HA6 := Lib.hid a6
      clear a6
      have HF0 := Lib.hid f0
      have HF1 := Lib.hid f1
      have HF2 := Lib.hid f2
      have HF3 := Lib.hid f3
      have HF4 := Lib.hid f4
      have HF5 := Lib.hid f5
      have HF6 := Lib.hid f6
      clear f0 f1 f2 f3 f4 f5 f6
      have HBE := Lib.hid (Below.refl wr.heap.size wr)
      have g0 := (HBE.out.cell (World.block_lt_of_cell? wr _ HF0.out)).trans HF0.out
      have g1 := (HBE.out.cell (World.block_lt_of_cell? wr _ HF1.out)).trans HF1.out
      have hl1' : b < wr.heap.size := Nat.lt_of_lt_of_le hlg HBE.out.size
      go_wp2
      go_region_held3 (fun w' => w'.cell? ⟨b, o + p * 7 + 1, none⟩ = some (.string S1)) (first | go_keep | (rw [hb1.cell (by simpa using hl1')]; simpa using g1)) ((go_at_call 21; refine (markT (T0 + 1) _ _ (by omega) (by omega) (by omega)).mono ?_; rw [HSS1.out]; rintro e w1 ⟨rfl, hb1⟩))
      have HB1 := Lib.hid (below_trans HBE.out (below_trans (below_drew _) hb1))
      clear hb1 hl1' g0 g1
      have g2 := (HB1.out.cell (World.block_lt_of_cell? wr _ HF2.out)).trans HF2.out
      have hl2' : b < w1.heap.size := Nat.lt_of_lt_of_le hlg HB1.out.size
      go_wp2
      go_region_held3 (fun w' => w'.cell? ⟨b, o + p * 7 + 2, none⟩ = some (.string S2)) (first | go_keep | (rw [hb2.cell (by simpa using hl2')]; simpa using g2)) ((go_at_call 21; refine (markT (T0 + 1 + 1) _ _ (by omega) (by omega) (by omega)).mono ?_; rw [HSS2.out]; rintro e w2 ⟨rfl, hb2⟩))
      have HB2 := Lib.hid (below_trans HB1.out (below_trans (below_drew _) hb2))
      clear hb2 hl2' g2
      have g3 := (HB2.out.cell (World.block_lt_of_cell? wr _ HF3.out)).trans HF3.out
      have hl3' : b < w2.heap.size := Nat.lt_of_lt_of_le hlg HB2.out.size
      go_wp2
      go_region_held3 (fun w' => w'.cell? ⟨b, o + p * 7 + 3, none⟩ = some (.string S3)) (first | go_keep | (rw [hb3.cell (by simpa using hl3')]; simpa using g3)) ((go_at_call 21; refine (markT (T0 + 1 + 1 + 1) _ _ (by omega) (by omega) (by omega)).mono ?_; rw [HSS3.out]; rintro e w3 ⟨rfl, hb3⟩))
      have HB3 := Lib.hid (below_trans HB2.out (below_trans (below_drew _) hb3))
      clear hb3 hl3' g3
      have g4 := (HB3.out.cell (World.block_lt_of_cell? wr _ HF4.out)).trans HF4.out
      go_wp2_with fail
      clear g4
      rw [show (T0 : Int) + 1 + 1 + 1 + 1 = ((T0 + 1 + 1 + 1 + 1 : Nat) : Int) from by omega]
      refine (hl4 p hlt w3 (T0 + 1 + 1 + 1 + 1) d4 (by omega) (by rw [HM4.out]; omega) (by rw [← K4.out]; exact At.below HB3.out _ HA4.out)).mono ?_
      rw [HM4.out]
      rintro e w4 ⟨rfl, hb4⟩
      have hn4 : ¬ ((T0 + 1 + 1 + 1 + 1 + M4 : Nat) : Int) < 0 := by omega
      have HB4 := Lib.hid (below_trans HB3.out hb4)
      clear hb4
      have g5 := (HB4.out.cell (World.block_lt_of_cell? wr _ HF5.out)).trans HF5.out
      go_wp2_with fail
      clear g5
      refine (hl5 p hlt w4 (T0 + 1 + 1 + 1 + 1 + M4) d5 (by omega) (by rw [HM5.out]; omega) (by rw [← K5.out]; exact At.below HB4.out _ HA5.out)).mono ?_
      rw [HM5.out]
      rintro e w5 ⟨rfl, hb5⟩
      have hn5 : ¬ ((T0 + 1 + 1 + 1 + 1 + M4 + M5 : Nat) : Int) < 0 := by omega
      have HB5 := Lib.hid (below_trans HB4.out hb5)
      clear hb5
      have g6 := (HB5.out.cell (World.block_lt_of_cell? wr _ HF6.out)).trans HF6.out
      go_wp2_with fail
      clear g6
      refine (hl6 p hlt w5 (T0 + 1 + 1 + 1 + 1 + M4 + M5) d6 (by omega) (by rw [HM6.out]; omega) (by rw [← K6.out]; exact At.below HB5.out _ HA6.out)).mono ?_
      rw [HM6.out]
      rintro e w6 ⟨rfl, hb6⟩
      have hn6 : ¬ ((T0 + 1 + 1 + 1 + 1 + M4 + M5 + M6 : Nat) : Int) < 0 := by omega
      have HB6 := Lib.hid (below_trans HB5.out hb6)
      clear hb6
      go_wp2
      go_roundw
      case rel => exact ⟨p + 1, by omega, by go_num, by rw [kk_row, K7.out]; go_num, below_trans hbel HB6.out⟩
      case measure => simp [intOf]; omega
    · obtain rfl : p = n := by omega
      go_wp2
      go_ret
      refine ⟨?_, hbel⟩
      rw [← H0.out, kk_all]
      rfl

theorem heStrings {d : D} (h : Sh d (.lst .text)) : HeL 41 d := by
  obtain ⟨n, it, rfl, hs⟩ := h.lst
  exact heLsString n it hs
theorem heValues : ∀ (d : D), Sh d (.lst .value) → HeL 40 d
  | .list W n it, h => by
    obtain ⟨n', it', e, hs⟩ := h.lst
    cases e
    exact heLsValue n it hs (fun i hi => heValues (it i 2) (hs i hi 2 _ rfl)) (fun i hi => heStrings (hs i hi 3 _ rfl))
  | .no, h => h.elim
  | .int _, h => by cases h
  | .str _, h => by cases h
  | .bool _, h => by cases h
theorem heArgs {d : D} (h : Sh d (.lst .arg)) : HeL 24 d := by
  obtain ⟨n, it, rfl, hs⟩ := h.lst
  exact heLsArg n it hs (fun i hi => heValues (it i 3) (hs i hi 3 _ rfl)) (fun i hi => heStrings (hs i hi 4 _ rfl))
theorem heDirs {d : D} (h : Sh d (.lst .dir)) : HeL 25 d := by
  obtain ⟨n, it, rfl, hs⟩ := h.lst
  exact heLsDir n it hs (fun i hi => heArgs (hs i hi 1 _ rfl))
theorem heSels : ∀ (d : D), Sh d (.lst .sel) → HeL 11 d
  | .list W n it, h => by
    obtain ⟨n', it', e, hs⟩ := h.lst
    cases e
    exact heLsSel n it hs (fun i hi => heArgs (hs i hi 4 _ rfl)) (fun i hi => heDirs (hs i hi 5 _ rfl)) (fun i hi => heSels (it i 6) (hs i hi 6 _ rfl))
  | .no, h => h.elim
  | .int _, h => by cases h
  | .str _, h => by cases h
  | .bool _, h => by cases h
end Da
end Go.Proofs.Ytfnieelghfkbdaa
