/- What is proved: the laws' marks of data, walked: how many there are, what is marked by them, and that nothing else is written. (Made by tools/mkdan.py.) -/
import Derived.Test.YtfnieelghfkbdaaDaM
namespace Go.Proofs.Ytfnieelghfkbdaa
namespace Da
set_option linter.unusedVariables false
open Go.RowKit
attribute [local go_sem ↓] Go.wp_at_zero Go.wp_at_succ

set_option maxHeartbeats 8000000 in
theorem mkLsString (n : Nat) (it : Nat → Nat → D) (hsh : ∀ i, i < n → ∀ j g, (row .text)[j]? = some g → Sh (it i j) g) : MkL 39 (.list 1 n it) := by
  intro w k c F hk hkb hF h
  obtain ⟨A, cap, rfl, hcap1, hcap2⟩ := h.slice
  unfold maxLen at hcap2
  have HO := Lib.hid (h.mst0 (k := k))
  clear h
  have HKB := Lib.hid hkb
  clear hkb
  go_enter Try.func39, Try.ntmps39
  go_wp2
  go_loopw [1, 5] (fun kv i wr => ∃ p : Nat, p ≤ n ∧ i = .int .i64 p ∧ kv = .int .i64 ((kk it 1 k p 0 : Nat) : Int) ∧ Own wr (.list 1 n (mst it 1 k (p * 1))) F (.slice A n cap) ∧ Out F w wr) (fun _ i _ => n - (intOf i).toNat)
  case atStart => exact ⟨0, Nat.zero_le _, rfl, by simp [kk, sumTo], HO.out, Out.refl _ _⟩
  case round =>
    obtain ⟨p, hp, rfl, rfl, hown, hout⟩ := hrel
    obtain ⟨T0, hT0⟩ : ∃ T, kk it 1 k p 0 = T := ⟨_, rfl⟩
    rw [hT0]
    have H0 := Lib.hid hT0
    clear hT0
    have HOut := Lib.hid hout
    have HS0 := Lib.hid (show ∀ b, F b → b < wr.heap.size from fun b hb => Nat.lt_of_lt_of_le (hF b hb) hout.size)
    clear hout
    have HO0 := Lib.hid hown
    clear hown
    by_cases hlt : p < n
    · have hk0 : (0 : Int) ≤ (p : Int) := by omega
      have hk1 : (p : Int) < (n : Int) := by omega
      have hbd := kk_le (it := it) (k := k) hlt (Nat.le_refl 1)
      have hkb := HKB.out
      have hT1 : 1 ≤ T0 := by have := kk_le0 it 1 k p 0; have := H0.out; omega
      have n0 : kk it 1 k p 1 = kk it 1 k p 0 + mkn (it p 0) := kk_next it 1 k p 0
      rw [mkn_str (hsh p hlt 0 _ rfl)] at n0
      have e0 := H0.out
      have hTb : T0 + 1 ≤ 1125899906842624 := by omega
      have K0 : Hid (kk it 1 k p 0 = T0) := by show _ = _; omega
      have K1 : Hid (kk it 1 k p 1 = T0 + 1) := by show _ = _; omega
      clear e0 hbd hkb n0
      obtain ⟨g, eg, hFg, -⟩ := Own.markP (j := 0) HO0.out hlt (by omega)
      subst eg
      go_wp2_with fail
      refine (markT (T0) _ _ (by omega) (by omega) (by omega)).mono ?_
      rintro e w0 ⟨rfl, hb0⟩
      have HO0' := Lib.hid (Own.below HO0.out hb0 HS0.out)
      have HQ0 := Lib.hid (Out.trans HOut.out (Out.of_below hb0))
      have HR0 := Lib.hid (show ∀ b, F b → b < w0.heap.size from fun b hb => Nat.lt_of_lt_of_le (HS0.out b hb) hb0.size)
      clear HO0 HS0 hb0
      obtain ⟨S0, hS0⟩ : ∃ S, mt (T0) = S := ⟨_, rfl⟩
      rw [hS0]
      have HSS0 := Lib.hid hS0
      clear hS0
      obtain ⟨g0, eg0, -, ⟨o0, p0⟩, z0, hs0⟩ := Own.markP (j := 0) HO0'.out hlt (by omega)
      obtain rfl : g = g0 := by simpa using eg0
      clear eg0
      have HO1 := Lib.hid (hs0 (Value.string S0) (by rw [← HSS0.out]; exact own_str (hsh p hlt 0 _ rfl) K0.out))
      clear hs0
      rw [Nat.add_zero, Nat.mul_one] at p0 z0 HO1
      have HT1 := Lib.hid (Out.trans HQ0.out (Out.set (p := p) (v := Value.string S0) hFg))
      have HX1 := Lib.hid (show ∀ b, F b → b < (w0.setCell ⟨g, p, none⟩ (Value.string S0)).heap.size from fun b hb => by have := HR0.out b hb; simpa [World.setCell] using this)
      clear HO0' HR0
      go_wp2
      go_roundw
      case rel => exact ⟨p + 1, by omega, by go_num, by rw [kk_row, K1.out]; go_num, Own.next (by simpa using HO1.out), HT1.out⟩
      case measure => simp [intOf]; omega
    · obtain rfl : p = n := by omega
      go_wp2
      go_ret
      refine ⟨?_, HO0.out.mst9, HOut.out⟩
      rw [← H0.out, kk_all]
      rfl

set_option maxHeartbeats 8000000 in
theorem mkLsValue (n : Nat) (it : Nat → Nat → D) (hsh : ∀ i, i < n → ∀ j g, (row .value)[j]? = some g → Sh (it i j) g) (hl2 : ∀ i, i < n → MkL 38 (it i 2)) (hl3 : ∀ i, i < n → MkL 39 (it i 3)) : MkL 38 (.list 4 n it) := by
  intro w k c F hk hkb hF h
  obtain ⟨A, cap, rfl, hcap1, hcap2⟩ := h.slice
  unfold maxLen at hcap2
  have HO := Lib.hid (h.mst0 (k := k))
  clear h
  have HKB := Lib.hid hkb
  clear hkb
  go_enter Try.func38, Try.ntmps38
  go_wp2
  go_loopw [1, 5] (fun kv i wr => ∃ p : Nat, p ≤ n ∧ i = .int .i64 p ∧ kv = .int .i64 ((kk it 4 k p 0 : Nat) : Int) ∧ Own wr (.list 4 n (mst it 4 k (p * 4))) F (.slice A n cap) ∧ Out F w wr) (fun _ i _ => n - (intOf i).toNat)
  case atStart => exact ⟨0, Nat.zero_le _, rfl, by simp [kk, sumTo], HO.out, Out.refl _ _⟩
  case round =>
    obtain ⟨p, hp, rfl, rfl, hown, hout⟩ := hrel
    obtain ⟨T0, hT0⟩ : ∃ T, kk it 4 k p 0 = T := ⟨_, rfl⟩
    rw [hT0]
    have H0 := Lib.hid hT0
    clear hT0
    have HOut := Lib.hid hout
    have HS0 := Lib.hid (show ∀ b, F b → b < wr.heap.size from fun b hb => Nat.lt_of_lt_of_le (hF b hb) hout.size)
    clear hout
    have HO0 := Lib.hid hown
    clear hown
    by_cases hlt : p < n
    · have hk0 : (0 : Int) ≤ (p : Int) := by omega
      have hk1 : (p : Int) < (n : Int) := by omega
      have hbd := kk_le (it := it) (k := k) hlt (Nat.le_refl 4)
      have hkb := HKB.out
      have hT1 : 1 ≤ T0 := by have := kk_le0 it 4 k p 0; have := H0.out; omega
      have n0 : kk it 4 k p 1 = kk it 4 k p 0 + mkn (it p 0) := kk_next it 4 k p 0
      rw [mkn_int (hsh p hlt 0 _ rfl)] at n0
      have n1 : kk it 4 k p 2 = kk it 4 k p 1 + mkn (it p 1) := kk_next it 4 k p 1
      rw [mkn_str (hsh p hlt 1 _ rfl)] at n1
      have n2 : kk it 4 k p 3 = kk it 4 k p 2 + mkn (it p 2) := kk_next it 4 k p 2
      obtain ⟨M2, hM2⟩ : ∃ M, mkn (it p 2) = M := ⟨_, rfl⟩
      rw [hM2] at n2
      have HM2 := Lib.hid hM2
      clear hM2
      have n3 : kk it 4 k p 4 = kk it 4 k p 3 + mkn (it p 3) := kk_next it 4 k p 3
      obtain ⟨M3, hM3⟩ : ∃ M, mkn (it p 3) = M := ⟨_, rfl⟩
      rw [hM3] at n3
      have HM3 := Lib.hid hM3
      clear hM3
      have e0 := H0.out
      have hTb : T0 + 1 + 1 + M2 + M3 ≤ 1125899906842624 := by omega
      have K0 : Hid (kk it 4 k p 0 = T0) := by show _ = _; omega
      have K1 : Hid (kk it 4 k p 1 = T0 + 1) := by show _ = _; omega
      have K2 : Hid (kk it 4 k p 2 = T0 + 1 + 1) := by show _ = _; omega
      have K3 : Hid (kk it 4 k p 3 = T0 + 1 + 1 + M2) := by show _ = _; omega
      have K4 : Hid (kk it 4 k p 4 = T0 + 1 + 1 + M2 + M3) := by show _ = _; omega
      clear e0 hbd hkb n0 n1 n2 n3
      obtain ⟨g, eg, hFg, -⟩ := Own.markP (j := 0) HO0.out hlt (by omega)
      subst eg
      obtain ⟨g0, eg0, -, ⟨o0, p0⟩, z0, hs0⟩ := Own.markP (j := 0) HO0.out hlt (by omega)
      obtain rfl : g = g0 := by simpa using eg0
      clear eg0
      have HO1 := Lib.hid (hs0 (Value.int .i64 ((T0 : Int))) (own_int (hsh p hlt 0 _ rfl) K0.out (by omega)))
      clear hs0
      rw [Nat.add_zero] at p0 z0 HO1
      have HT1 := Lib.hid (Out.trans HOut.out (Out.set (p := p * 4) (v := Value.int .i64 ((T0 : Int))) hFg))
      have HX1 := Lib.hid (show ∀ b, F b → b < (wr.setCell ⟨g, p * 4, none⟩ (Value.int .i64 ((T0 : Int)))).heap.size from fun b hb => by have := HS0.out b hb; simpa [World.setCell] using this)
      clear HO0 HS0
      go_wp2_with fail
      refine (markT (T0 + 1) _ _ (by omega) (by omega) (by omega)).mono ?_
      rintro e w1 ⟨rfl, hb1⟩
      have HO1' := Lib.hid (Own.below HO1.out hb1 HX1.out)
      have HQ1 := Lib.hid (Out.trans HT1.out (Out.of_below hb1))
      have HR1 := Lib.hid (show ∀ b, F b → b < w1.heap.size from fun b hb => Nat.lt_of_lt_of_le (HX1.out b hb) hb1.size)
      clear HO1 HX1 hb1
      obtain ⟨S1, hS1⟩ : ∃ S, mt (T0 + 1) = S := ⟨_, rfl⟩
      rw [hS1]
      have HSS1 := Lib.hid hS1
      clear hS1
      obtain ⟨g1, eg1, -, ⟨o1, p1⟩, z1, hs1⟩ := Own.markP (j := 1) HO1'.out hlt (by omega)
      obtain rfl : g = g1 := by simpa using eg1
      clear eg1
      have HO2 := Lib.hid (hs1 (Value.string S1) (by rw [← HSS1.out]; exact own_str (hsh p hlt 1 _ rfl) K1.out))
      clear hs1
      have HT2 := Lib.hid (Out.trans HQ1.out (Out.set (p := p * 4 + 1) (v := Value.string S1) hFg))
      have HX2 := Lib.hid (show ∀ b, F b → b < (w1.setCell ⟨g, p * 4 + 1, none⟩ (Value.string S1)).heap.size from fun b hb => by have := HR1.out b hb; simpa [World.setCell] using this)
      clear HO1' HR1
      obtain ⟨g2, d2, G2, eg2, p2, ho2, hG2, hst2⟩ := Own.markL (j := 2) HO2.out hlt (by omega)
      obtain rfl : g = g2 := by simpa using eg2
      clear eg2
      have HH2 := Lib.hid ho2
      have HG2 := Lib.hid hG2
      have HST2 := Lib.hid hst2
      clear ho2 hG2 hst2
      go_wp2_with fail
      clear p2
      obtain ⟨wc2, hwc2⟩ : ∃ wc, (w1.setCell ⟨g, p * 4 + 1, none⟩ (Value.string S1)) = wc := ⟨_, rfl⟩
      rw [hwc2] at HH2 HST2 HX2 HT2 ⊢
      clear hwc2
      rw [show (T0 : Int) + 1 + 1 = ((T0 + 1 + 1 : Nat) : Int) from by omega]
      refine (hl2 p hlt wc2 (T0 + 1 + 1) d2 G2 (by omega) (by rw [HM2.out]; omega) (fun b hb => HX2.out b (HG2.out b hb)) HH2.out).mono ?_
      rw [HM2.out]
      rintro e w2 ⟨rfl, hn2, hq2⟩
      have HO3 := Lib.hid (HST2.out w2 hq2 HX2.out (by rw [K2.out]; exact hn2))
      have HT3 := Lib.hid (Out.trans HT2.out (hq2.wide HG2.out))
      have HX3 := Lib.hid (show ∀ b, F b → b < w2.heap.size from fun b hb => Nat.lt_of_lt_of_le (HX2.out b hb) hq2.size)
      clear HO2 hn2 hq2 HST2 HH2 HG2 HX2
      obtain ⟨g3, d3, G3, eg3, p3, ho3, hG3, hst3⟩ := Own.markL (j := 3) HO3.out hlt (by omega)
      obtain rfl : g = g3 := by simpa using eg3
      clear eg3
      have HH3 := Lib.hid ho3
      have HG3 := Lib.hid hG3
      have HST3 := Lib.hid hst3
      clear ho3 hG3 hst3
      go_wp2_with fail
      clear p3
      refine (hl3 p hlt w2 (T0 + 1 + 1 + M2) d3 G3 (by omega) (by rw [HM3.out]; omega) (fun b hb => HX3.out b (HG3.out b hb)) HH3.out).mono ?_
      rw [HM3.out]
      rintro e w3 ⟨rfl, hn3, hq3⟩
      have HO4 := Lib.hid (HST3.out w3 hq3 HX3.out (by rw [K3.out]; exact hn3))
      have HT4 := Lib.hid (Out.trans HT3.out (hq3.wide HG3.out))
      have HX4 := Lib.hid (show ∀ b, F b → b < w3.heap.size from fun b hb => Nat.lt_of_lt_of_le (HX3.out b hb) hq3.size)
      clear HO3 hn3 hq3 HST3 HH3 HG3 HX3
      go_wp2
      go_roundw
      case rel => exact ⟨p + 1, by omega, by go_num, by rw [kk_row, K4.out]; go_num, Own.next HO4.out, HT4.out⟩
      case measure => simp [intOf]; omega
    · obtain rfl : p = n := by omega
      go_wp2
      go_ret
      refine ⟨?_, HO0.out.mst9, HOut.out⟩
      rw [← H0.out, kk_all]
      rfl

set_option maxHeartbeats 8000000 in
theorem mkLsArg (n : Nat) (it : Nat → Nat → D) (hsh : ∀ i, i < n → ∀ j g, (row .arg)[j]? = some g → Sh (it i j) g) (hl3 : ∀ i, i < n → MkL 38 (it i 3)) (hl4 : ∀ i, i < n → MkL 39 (it i 4)) : MkL 22 (.list 5 n it) := by
  intro w k c F hk hkb hF h
  obtain ⟨A, cap, rfl, hcap1, hcap2⟩ := h.slice
  unfold maxLen at hcap2
  have HO := Lib.hid (h.mst0 (k := k))
  clear h
  have HKB := Lib.hid hkb
  clear hkb
  go_enter Try.func22, Try.ntmps22
  go_wp2
  go_loopw [1, 5] (fun kv i wr => ∃ p : Nat, p ≤ n ∧ i = .int .i64 p ∧ kv = .int .i64 ((kk it 5 k p 0 : Nat) : Int) ∧ Own wr (.list 5 n (mst it 5 k (p * 5))) F (.slice A n cap) ∧ Out F w wr) (fun _ i _ => n - (intOf i).toNat)
  case atStart => exact ⟨0, Nat.zero_le _, rfl, by simp [kk, sumTo], HO.out, Out.refl _ _⟩
  case round =>
    obtain ⟨p, hp, rfl, rfl, hown, hout⟩ := hrel
    obtain ⟨T0, hT0⟩ : ∃ T, kk it 5 k p 0 = T := ⟨_, rfl⟩
    rw [hT0]
    have H0 := Lib.hid hT0
    clear hT0
    have HOut := Lib.hid hout
    have HS0 := Lib.hid (show ∀ b, F b → b < wr.heap.size from fun b hb => Nat.lt_of_lt_of_le (hF b hb) hout.size)
    clear hout
    have HO0 := Lib.hid hown
    clear hown
    by_cases hlt : p < n
    · have hk0 : (0 : Int) ≤ (p : Int) := by omega
      have hk1 : (p : Int) < (n : Int) := by omega
      have hbd := kk_le (it := it) (k := k) hlt (Nat.le_refl 5)
      have hkb := HKB.out
      have hT1 : 1 ≤ T0 := by have := kk_le0 it 5 k p 0; have := H0.out; omega
      have n0 : kk it 5 k p 1 = kk it 5 k p 0 + mkn (it p 0) := kk_next it 5 k p 0
      rw [mkn_str (hsh p hlt 0 _ rfl)] at n0
      have n1 : kk it 5 k p 2 = kk it 5 k p 1 + mkn (it p 1) := kk_next it 5 k p 1
      rw [mkn_int (hsh p hlt 1 _ rfl)] at n1
      have n2 : kk it 5 k p 3 = kk it 5 k p 2 + mkn (it p 2) := kk_next it 5 k p 2
      rw [mkn_str (hsh p hlt 2 _ rfl)] at n2
      have n3 : kk it 5 k p 4 = kk it 5 k p 3 + mkn (it p 3) := kk_next it 5 k p 3
      obtain ⟨M3, hM3⟩ : ∃ M, mkn (it p 3) = M := ⟨_, rfl⟩
      rw [hM3] at n3
      have HM3 := Lib.hid hM3
      clear hM3
      have n4 : kk it 5 k p 5 = kk it 5 k p 4 + mkn (it p 4) := kk_next it 5 k p 4
      obtain ⟨M4, hM4⟩ : ∃ M, mkn (it p 4) = M := ⟨_, rfl⟩
      rw [hM4] at n4
      have HM4 := Lib.hid hM4
      clear hM4
      have e0 := H0.out
      have hTb : T0 + 1 + 1 + 1 + M3 + M4 ≤ 1125899906842624 := by omega
      have K0 : Hid (kk it 5 k p 0 = T0) := by show _ = _; omega
      have K1 : Hid (kk it 5 k p 1 = T0 + 1) := by show _ = _; omega
      have K2 : Hid (kk it 5 k p 2 = T0 + 1 + 1) := by show _ = _; omega
      have K3 : Hid (kk it 5 k p 3 = T0 + 1 + 1 + 1) := by show _ = _; omega
      have K4 : Hid (kk it 5 k p 4 = T0 + 1 + 1 + 1 + M3) := by show _ = _; omega
      have K5 : Hid (kk it 5 k p 5 = T0 + 1 + 1 + 1 + M3 + M4) := by show _ = _; omega
      clear e0 hbd hkb n0 n1 n2 n3 n4
      obtain ⟨g, eg, hFg, -⟩ := Own.markP (j := 0) HO0.out hlt (by omega)
      subst eg
      go_wp2_with fail
      refine (markT (T0) _ _ (by omega) (by omega) (by omega)).mono ?_
      rintro e w0 ⟨rfl, hb0⟩
      have HO0' := Lib.hid (Own.below HO0.out hb0 HS0.out)
      have HQ0 := Lib.hid (Out.trans HOut.out (Out.of_below hb0))
      have HR0 := Lib.hid (show ∀ b, F b → b < w0.heap.size from fun b hb => Nat.lt_of_lt_of_le (HS0.out b hb) hb0.size)
      clear HO0 HS0 hb0
      obtain ⟨S0, hS0⟩ : ∃ S, mt (T0) = S := ⟨_, rfl⟩
      rw [hS0]
      have HSS0 := Lib.hid hS0
      clear hS0
      obtain ⟨g0, eg0, -, ⟨o0, p0⟩, z0, hs0⟩ := Own.markP (j := 0) HO0'.out hlt (by omega)
      obtain rfl : g = g0 := by simpa using eg0
      clear eg0
      have HO1 := Lib.hid (hs0 (Value.string S0) (by rw [← HSS0.out]; exact own_str (hsh p hlt 0 _ rfl) K0.out))
      clear hs0
      rw [Nat.add_zero] at p0 z0 HO1
      have HT1 := Lib.hid (Out.trans HQ0.out (Out.set (p := p * 5) (v := Value.string S0) hFg))
      have HX1 := Lib.hid (show ∀ b, F b → b < (w0.setCell ⟨g, p * 5, none⟩ (Value.string S0)).heap.size from fun b hb => by have := HR0.out b hb; simpa [World.setCell] using this)
      clear HO0' HR0
      obtain ⟨g1, eg1, -, ⟨o1, p1⟩, z1, hs1⟩ := Own.markP (j := 1) HO1.out hlt (by omega)
      obtain rfl : g = g1 := by simpa using eg1
      clear eg1
      have HO2 := Lib.hid (hs1 (Value.int .i64 ((T0 : Int) + 1)) (own_int (hsh p hlt 1 _ rfl) K1.out (by omega)))
      clear hs1
      have HT2 := Lib.hid (Out.trans HT1.out (Out.set (p := p * 5 + 1) (v := Value.int .i64 ((T0 : Int) + 1)) hFg))
      have HX2 := Lib.hid (show ∀ b, F b → b < ((w0.setCell ⟨g, p * 5, none⟩ (Value.string S0)).setCell ⟨g, p * 5 + 1, none⟩ (Value.int .i64 ((T0 : Int) + 1))).heap.size from fun b hb => by have := HX1.out b hb; simpa [World.setCell] using this)
      clear HO1 HX1
      go_wp2_with fail
      refine (markT (T0 + 1 + 1) _ _ (by omega) (by omega) (by omega)).mono ?_
      rintro e w2 ⟨rfl, hb2⟩
      have HO2' := Lib.hid (Own.below HO2.out hb2 HX2.out)
      have HQ2 := Lib.hid (Out.trans HT2.out (Out.of_below hb2))
      have HR2 := Lib.hid (show ∀ b, F b → b < w2.heap.size from fun b hb => Nat.lt_of_lt_of_le (HX2.out b hb) hb2.size)
      clear HO2 HX2 hb2
      obtain ⟨S2, hS2⟩ : ∃ S, mt (T0 + 1 + 1) = S := ⟨_, rfl⟩
      rw [hS2]
      have HSS2 := Lib.hid hS2
      clear hS2
      obtain ⟨g2, eg2, -, ⟨o2, p2⟩, z2, hs2⟩ := Own.markP (j := 2) HO2'.out hlt (by omega)
      obtain rfl : g = g2 := by simpa using eg2
      clear eg2
      have HO3 := Lib.hid (hs2 (Value.string S2) (by rw [← HSS2.out]; exact own_str (hsh p hlt 2 _ rfl) K2.out))
      clear hs2
      have HT3 := Lib.hid (Out.trans HQ2.out (Out.set (p := p * 5 + 2) (v := Value.string S2) hFg))
      have HX3 := Lib.hid (show ∀ b, F b → b < (w2.setCell ⟨g, p * 5 + 2, none⟩ (Value.string S2)).heap.size from fun b hb => by have := HR2.out b hb; simpa [World.setCell] using this)
      clear HO2' HR2
      obtain ⟨g3, d3, G3, eg3, p3, ho3, hG3, hst3⟩ := Own.markL (j := 3) HO3.out hlt (by omega)
      obtain rfl : g = g3 := by simpa using eg3
      clear eg3
      have HH3 := Lib.hid ho3
      have HG3 := Lib.hid hG3
      have HST3 := Lib.hid hst3
      clear ho3 hG3 hst3
      go_wp2_with fail
      clear p3
      obtain ⟨wc3, hwc3⟩ : ∃ wc, (w2.setCell ⟨g, p * 5 + 2, none⟩ (Value.string S2)) = wc := ⟨_, rfl⟩
      rw [hwc3] at HH3 HST3 HX3 HT3 ⊢
      clear hwc3
      rw [show (T0 : Int) + 1 + 1 + 1 = ((T0 + 1 + 1 + 1 : Nat) : Int) from by omega]
      refine (hl3 p hlt wc3 (T0 + 1 + 1 + 1) d3 G3 (by omega) (by rw [HM3.out]; omega) (fun b hb => HX3.out b (HG3.out b hb)) HH3.out).mono ?_
      rw [HM3.out]
      rintro e w3 ⟨rfl, hn3, hq3⟩
      have HO4 := Lib.hid (HST3.out w3 hq3 HX3.out (by rw [K3.out]; exact hn3))
      have HT4 := Lib.hid (Out.trans HT3.out (hq3.wide HG3.out))
      have HX4 := Lib.hid (show ∀ b, F b → b < w3.heap.size from fun b hb => Nat.lt_of_lt_of_le (HX3.out b hb) hq3.size)
      clear HO3 hn3 hq3 HST3 HH3 HG3 HX3
      obtain ⟨g4, d4, G4, eg4, p4, ho4, hG4, hst4⟩ := Own.markL (j := 4) HO4.out hlt (by omega)
      obtain rfl : g = g4 := by simpa using eg4
      clear eg4
      have HH4 := Lib.hid ho4
      have HG4 := Lib.hid hG4
      have HST4 := Lib.hid hst4
      clear ho4 hG4 hst4
      go_wp2_with fail
      clear p4
      refine (hl4 p hlt w3 (T0 + 1 + 1 + 1 + M3) d4 G4 (by omega) (by rw [HM4.out]; omega) (fun b hb => HX4.out b (HG4.out b hb)) HH4.out).mono ?_
      rw [HM4.out]
      rintro e w4 ⟨rfl, hn4, hq4⟩
      have HO5 := Lib.hid (HST4.out w4 hq4 HX4.out (by rw [K4.out]; exact hn4))
      have HT5 := Lib.hid (Out.trans HT4.out (hq4.wide HG4.out))
      have HX5 := Lib.hid (show ∀ b, F b → b < w4.heap.size from fun b hb => Nat.lt_of_lt_of_le (HX4.out b hb) hq4.size)
      clear HO4 hn4 hq4 HST4 HH4 HG4 HX4
      go_wp2
      go_roundw
      case rel => exact ⟨p + 1, by omega, by go_num, by rw [kk_row, K5.out]; go_num, Own.next HO5.out, HT5.out⟩
      case measure => simp [intOf]; omega
    · obtain rfl : p = n := by omega
      go_wp2
      go_ret
      refine ⟨?_, HO0.out.mst9, HOut.out⟩
      rw [← H0.out, kk_all]
      rfl

set_option maxHeartbeats 8000000 in
theorem mkLsDir (n : Nat) (it : Nat → Nat → D) (hsh : ∀ i, i < n → ∀ j g, (row .dir)[j]? = some g → Sh (it i j) g) (hl1 : ∀ i, i < n → MkL 22 (it i 1)) : MkL 23 (.list 2 n it) := by
  intro w k c F hk hkb hF h
  obtain ⟨A, cap, rfl, hcap1, hcap2⟩ := h.slice
  unfold maxLen at hcap2
  have HO := Lib.hid (h.mst0 (k := k))
  clear h
  have HKB := Lib.hid hkb
  clear hkb
  go_enter Try.func23, Try.ntmps23
  go_wp2
  go_loopw [1, 5] (fun kv i wr => ∃ p : Nat, p ≤ n ∧ i = .int .i64 p ∧ kv = .int .i64 ((kk it 2 k p 0 : Nat) : Int) ∧ Own wr (.list 2 n (mst it 2 k (p * 2))) F (.slice A n cap) ∧ Out F w wr) (fun _ i _ => n - (intOf i).toNat)
  case atStart => exact ⟨0, Nat.zero_le _, rfl, by simp [kk, sumTo], HO.out, Out.refl _ _⟩
  case round =>
    obtain ⟨p, hp, rfl, rfl, hown, hout⟩ := hrel
    obtain ⟨T0, hT0⟩ : ∃ T, kk it 2 k p 0 = T := ⟨_, rfl⟩
    rw [hT0]
    have H0 := Lib.hid hT0
    clear hT0
    have HOut := Lib.hid hout
    have HS0 := Lib.hid (show ∀ b, F b → b < wr.heap.size from fun b hb => Nat.lt_of_lt_of_le (hF b hb) hout.size)
    clear hout
    have HO0 := Lib.hid hown
    clear hown
    by_cases hlt : p < n
    · have hk0 : (0 : Int) ≤ (p : Int) := by omega
      have hk1 : (p : Int) < (n : Int) := by omega
      have hbd := kk_le (it := it) (k := k) hlt (Nat.le_refl 2)
      have hkb := HKB.out
      have hT1 : 1 ≤ T0 := by have := kk_le0 it 2 k p 0; have := H0.out; omega
      have n0 : kk it 2 k p 1 = kk it 2 k p 0 + mkn (it p 0) := kk_next it 2 k p 0
      rw [mkn_str (hsh p hlt 0 _ rfl)] at n0
      have n1 : kk it 2 k p 2 = kk it 2 k p 1 + mkn (it p 1) := kk_next it 2 k p 1
      obtain ⟨M1, hM1⟩ : ∃ M, mkn (it p 1) = M := ⟨_, rfl⟩
      rw [hM1] at n1
      have HM1 := Lib.hid hM1
      clear hM1
      have e0 := H0.out
      have hTb : T0 + 1 + M1 ≤ 1125899906842624 := by omega
      have K0 : Hid (kk it 2 k p 0 = T0) := by show _ = _; omega
      have K1 : Hid (kk it 2 k p 1 = T0 + 1) := by show _ = _; omega
      have K2 : Hid (kk it 2 k p 2 = T0 + 1 + M1) := by show _ = _; omega
      clear e0 hbd hkb n0 n1
      obtain ⟨g, eg, hFg, -⟩ := Own.markP (j := 0) HO0.out hlt (by omega)
      subst eg
      go_wp2_with fail
      refine (markT (T0) _ _ (by omega) (by omega) (by omega)).mono ?_
      rintro e w0 ⟨rfl, hb0⟩
      have HO0' := Lib.hid (Own.below HO0.out hb0 HS0.out)
      have HQ0 := Lib.hid (Out.trans HOut.out (Out.of_below hb0))
      have HR0 := Lib.hid (show ∀ b, F b → b < w0.heap.size from fun b hb => Nat.lt_of_lt_of_le (HS0.out b hb) hb0.size)
      clear HO0 HS0 hb0
      obtain ⟨S0, hS0⟩ : ∃ S, mt (T0) = S := ⟨_, rfl⟩
      rw [hS0]
      have HSS0 := Lib.hid hS0
      clear hS0
      obtain ⟨g0, eg0, -, ⟨o0, p0⟩, z0, hs0⟩ := Own.markP (j := 0) HO0'.out hlt (by omega)
      obtain rfl : g = g0 := by simpa using eg0
      clear eg0
      have HO1 := Lib.hid (hs0 (Value.string S0) (by rw [← HSS0.out]; exact own_str (hsh p hlt 0 _ rfl) K0.out))
      clear hs0
      rw [Nat.add_zero] at p0 z0 HO1
      have HT1 := Lib.hid (Out.trans HQ0.out (Out.set (p := p * 2) (v := Value.string S0) hFg))
      have HX1 := Lib.hid (show ∀ b, F b → b < (w0.setCell ⟨g, p * 2, none⟩ (Value.string S0)).heap.size from fun b hb => by have := HR0.out b hb; simpa [World.setCell] using this)
      clear HO0' HR0
      obtain ⟨g1, d1, G1, eg1, p1, ho1, hG1, hst1⟩ := Own.markL (j := 1) HO1.out hlt (by omega)
      obtain rfl : g = g1 := by simpa using eg1
      clear eg1
      have HH1 := Lib.hid ho1
      have HG1 := Lib.hid hG1
      have HST1 := Lib.hid hst1
      clear ho1 hG1 hst1
      go_wp2_with fail
      clear p1
      obtain ⟨wc1, hwc1⟩ : ∃ wc, (w0.setCell ⟨g, p * 2, none⟩ (Value.string S0)) = wc := ⟨_, rfl⟩
      rw [hwc1] at HH1 HST1 HX1 HT1 ⊢
      clear hwc1
      rw [show (T0 : Int) + 1 = ((T0 + 1 : Nat) : Int) from by omega]
      refine (hl1 p hlt wc1 (T0 + 1) d1 G1 (by omega) (by rw [HM1.out]; omega) (fun b hb => HX1.out b (HG1.out b hb)) HH1.out).mono ?_
      rw [HM1.out]
      rintro e w1 ⟨rfl, hn1, hq1⟩
      have HO2 := Lib.hid (HST1.out w1 hq1 HX1.out (by rw [K1.out]; exact hn1))
      have HT2 := Lib.hid (Out.trans HT1.out (hq1.wide HG1.out))
      have HX2 := Lib.hid (show ∀ b, F b → b < w1.heap.size from fun b hb => Nat.lt_of_lt_of_le (HX1.out b hb) hq1.size)
      clear HO1 hn1 hq1 HST1 HH1 HG1 HX1
      go_wp2
      go_roundw
      case rel => exact ⟨p + 1, by omega, by go_num, by rw [kk_row, K2.out]; go_num, Own.next HO2.out, HT2.out⟩
      case measure => simp [intOf]; omega
    · obtain rfl : p = n := by omega
      go_wp2
      go_ret
      refine ⟨?_, HO0.out.mst9, HOut.out⟩
      rw [← H0.out, kk_all]
      rfl

set_option maxHeartbeats 8000000 in
theorem mkLsSel (n : Nat) (it : Nat → Nat → D) (hsh : ∀ i, i < n → ∀ j g, (row .sel)[j]? = some g → Sh (it i j) g) (hl4 : ∀ i, i < n → MkL 22 (it i 4)) (hl5 : ∀ i, i < n → MkL 23 (it i 5)) (hl6 : ∀ i, i < n → MkL 10 (it i 6)) : MkL 10 (.list 7 n it) := by
  intro w k c F hk hkb hF h
  obtain ⟨A, cap, rfl, hcap1, hcap2⟩ := h.slice
  unfold maxLen at hcap2
  have HO := Lib.hid (h.mst0 (k := k))
  clear h
  have HKB := Lib.hid hkb
  clear hkb
  go_enter Try.func10, Try.ntmps10
  go_wp2
  go_loopw [1, 5] (fun kv i wr => ∃ p : Nat, p ≤ n ∧ i = .int .i64 p ∧ kv = .int .i64 ((kk it 7 k p 0 : Nat) : Int) ∧ Own wr (.list 7 n (mst it 7 k (p * 7))) F (.slice A n cap) ∧ Out F w wr) (fun _ i _ => n - (intOf i).toNat)
  case atStart => exact ⟨0, Nat.zero_le _, rfl, by simp [kk, sumTo], HO.out, Out.refl _ _⟩
  case round =>
    obtain ⟨p, hp, rfl, rfl, hown, hout⟩ := hrel
    obtain ⟨T0, hT0⟩ : ∃ T, kk it 7 k p 0 = T := ⟨_, rfl⟩
    rw [hT0]
    have H0 := Lib.hid hT0
    clear hT0
    have HOut := Lib.hid hout
    have HS0 := Lib.hid (show ∀ b, F b → b < wr.heap.size from fun b hb => Nat.lt_of_lt_of_le (hF b hb) hout.size)
    clear hout
    have HO0 := Lib.hid hown
    clear hown
    by_cases hlt : p < n
    · have hk0 : (0 : Int) ≤ (p : Int) := by omega
      have hk1 : (p : Int) < (n : Int) := by omega
      have hbd := kk_le (it := it) (k := k) hlt (Nat.le_refl 7)
      have hkb := HKB.out
      have hT1 : 1 ≤ T0 := by have := kk_le0 it 7 k p 0; have := H0.out; omega
      have n0 : kk it 7 k p 1 = kk it 7 k p 0 + mkn (it p 0) := kk_next it 7 k p 0
      rw [mkn_int (hsh p hlt 0 _ rfl)] at n0
      have n1 : kk it 7 k p 2 = kk it 7 k p 1 + mkn (it p 1) := kk_next it 7 k p 1
      rw [mkn_str (hsh p hlt 1 _ rfl)] at n1
      have n2 : kk it 7 k p 3 = kk it 7 k p 2 + mkn (it p 2) := kk_next it 7 k p 2
      rw [mkn_str (hsh p hlt 2 _ rfl)] at n2
      have n3 : kk it 7 k p 4 = kk it 7 k p 3 + mkn (it p 3) := kk_next it 7 k p 3
      rw [mkn_str (hsh p hlt 3 _ rfl)] at n3
      have n4 : kk it 7 k p 5 = kk it 7 k p 4 + mkn (it p 4) := kk_next it 7 k p 4
      obtain ⟨M4, hM4⟩ : ∃ M, mkn (it p 4) = M := ⟨_, rfl⟩
      rw [hM4] at n4
      have HM4 := Lib.hid hM4
      clear hM4
      have n5 : kk it 7 k p 6 = kk it 7 k p 5 + mkn (it p 5) := kk_next it 7 k p 5
      obtain ⟨M5, hM5⟩ : ∃ M, mkn (it p 5) = M := ⟨_, rfl⟩
      rw [hM5] at n5
      have HM5 := Lib.hid hM5
      clear hM5
      have n6 : kk it 7 k p 7 = kk it 7 k p 6 + mkn (it p 6) := kk_next it 7 k p 6
      obtain ⟨M6, hM6⟩ : ∃ M, mkn (it p 6) = M := ⟨_, rfl⟩
      rw [hM6] at n6
      have HM6 := Lib.hid hM6
      clear hM6
      have e0 := H0.out
      have hTb : T0 + 1 + 1 + 1 + 1 + M4 + M5 + M6 ≤ 1125899906842624 := by omega
      have K0 : Hid (kk it 7 k p 0 = T0) := by show _ = _; omega
      have K1 : Hid (kk it 7 k p 1 = T0 + 1) := by show _ = _; omega
      have K2 : Hid (kk it 7 k p 2 = T0 + 1 + 1) := by show _ = _; omega
      have K3 : Hid (kk it 7 k p 3 = T0 + 1 + 1 + 1) := by show _ = _; omega
      have K4 : Hid (kk it 7 k p 4 = T0 + 1 + 1 + 1 + 1) := by show _ = _; omega
      have K5 : Hid (kk it 7 k p 5 = T0 + 1 + 1 + 1 + 1 + M4) := by show _ = _; omega
      have K6 : Hid (kk it 7 k p 6 = T0 + 1 + 1 + 1 + 1 + M4 + M5) := by show _ = _; omega
      have K7 : Hid (kk it 7 k p 7 = T0 + 1 + 1 + 1 + 1 + M4 + M5 + M6) := by show _ = _; omega
      clear e0 hbd hkb n0 n1 n2 n3 n4 n5 n6
      obtain ⟨g, eg, hFg, -⟩ := Own.markP (j := 0) HO0.out hlt (by omega)
      subst eg
      obtain ⟨g0, eg0, -, ⟨o0, p0⟩, z0, hs0⟩ := Own.markP (j := 0) HO0.out hlt (by omega)
      obtain rfl : g = g0 := by simpa using eg0
      clear eg0
      have HO1 := Lib.hid (hs0 (Value.int .i64 ((T0 : Int))) (own_int (hsh p hlt 0 _ rfl) K0.out (by omega)))
      clear hs0
      rw [Nat.add_zero] at p0 z0 HO1
      have HT1 := Lib.hid (Out.trans HOut.out (Out.set (p := p * 7) (v := Value.int .i64 ((T0 : Int))) hFg))
      have HX1 := Lib.hid (show ∀ b, F b → b < (wr.setCell ⟨g, p * 7, none⟩ (Value.int .i64 ((T0 : Int)))).heap.size from fun b hb => by have := HS0.out b hb; simpa [World.setCell] using this)
      clear HO0 HS0
      go_wp2_with fail
      refine (markT (T0 + 1) _ _ (by omega) (by omega) (by omega)).mono ?_
      rintro e w1 ⟨rfl, hb1⟩
      have HO1' := Lib.hid (Own.below HO1.out hb1 HX1.out)
      have HQ1 := Lib.hid (Out.trans HT1.out (Out.of_below hb1))
      have HR1 := Lib.hid (show ∀ b, F b → b < w1.heap.size from fun b hb => Nat.lt_of_lt_of_le (HX1.out b hb) hb1.size)
      clear HO1 HX1 hb1
      obtain ⟨S1, hS1⟩ : ∃ S, mt (T0 + 1) = S := ⟨_, rfl⟩
      rw [hS1]
      have HSS1 := Lib.hid hS1
      clear hS1
      obtain ⟨g1, eg1, -, ⟨o1, p1⟩, z1, hs1⟩ := Own.markP (j := 1) HO1'.out hlt (by omega)
      obtain rfl : g = g1 := by simpa using eg1
      clear eg1
      have HO2 := Lib.hid (hs1 (Value.string S1) (by rw [← HSS1.out]; exact own_str (hsh p hlt 1 _ rfl) K1.out))
      clear hs1
      have HT2 := Lib.hid (Out.trans HQ1.out (Out.set (p := p * 7 + 1) (v := Value.string S1) hFg))
      have HX2 := Lib.hid (show ∀ b, F b → b < (w1.setCell ⟨g, p * 7 + 1, none⟩ (Value.string S1)).heap.size from fun b hb => by have := HR1.out b hb; simpa [World.setCell] using this)
      clear HO1' HR1
      go_wp2_with fail
      refine (markT (T0 + 1 + 1) _ _ (by omega) (by omega) (by omega)).mono ?_
      rintro e w2 ⟨rfl, hb2⟩
      have HO2' := Lib.hid (Own.below HO2.out hb2 HX2.out)
      have HQ2 := Lib.hid (Out.trans HT2.out (Out.of_below hb2))
      have HR2 := Lib.hid (show ∀ b, F b → b < w2.heap.size from fun b hb => Nat.lt_of_lt_of_le (HX2.out b hb) hb2.size)
      clear HO2 HX2 hb2
      obtain ⟨S2, hS2⟩ : ∃ S, mt (T0 + 1 + 1) = S := ⟨_, rfl⟩
      rw [hS2]
      have HSS2 := Lib.hid hS2
      clear hS2
      obtain ⟨g2, eg2, -, ⟨o2, p2⟩, z2, hs2⟩ := Own.markP (j := 2) HO2'.out hlt (by omega)
      obtain rfl : g = g2 := by simpa using eg2
      clear eg2
      have HO3 := Lib.hid (hs2 (Value.string S2) (by rw [← HSS2.out]; exact own_str (hsh p hlt 2 _ rfl) K2.out))
      clear hs2
      have HT3 := Lib.hid (Out.trans HQ2.out (Out.set (p := p * 7 + 2) (v := Value.string S2) hFg))
      have HX3 := Lib.hid (show ∀ b, F b → b < (w2.setCell ⟨g, p * 7 + 2, none⟩ (Value.string S2)).heap.size from fun b hb => by have := HR2.out b hb; simpa [World.setCell] using this)
      clear HO2' HR2
      go_wp2_with fail
      refine (markT (T0 + 1 + 1 + 1) _ _ (by omega) (by omega) (by omega)).mono ?_
      rintro e w3 ⟨rfl, hb3⟩
      have HO3' := Lib.hid (Own.below HO3.out hb3 HX3.out)
      have HQ3 := Lib.hid (Out.trans HT3.out (Out.of_below hb3))
      have HR3 := Lib.hid (show ∀ b, F b → b < w3.heap.size from fun b hb => Nat.lt_of_lt_of_le (HX3.out b hb) hb3.size)
      clear HO3 HX3 hb3
      obtain ⟨S3, hS3⟩ : ∃ S, mt (T0 + 1 + 1 + 1) = S := ⟨_, rfl⟩
      rw [hS3]
      have HSS3 := Lib.hid hS3
      clear hS3
      obtain ⟨g3, eg3, -, ⟨o3, p3⟩, z3, hs3⟩ := Own.markP (j := 3) HO3'.out hlt (by omega)
      obtain rfl : g = g3 := by simpa using eg3
      clear eg3
      have HO4 := Lib.hid (hs3 (Value.string S3) (by rw [← HSS3.out]; exact own_str (hsh p hlt 3 _ rfl) K3.out))
      clear hs3
      have HT4 := Lib.hid (Out.trans HQ3.out (Out.set (p := p * 7 + 3) (v := Value.string S3) hFg))
      have HX4 := Lib.hid (show ∀ b, F b → b < (w3.setCell ⟨g, p * 7 + 3, none⟩ (Value.string S3)).heap.size from fun b hb => by have := HR3.out b hb; simpa [World.setCell] using this)
      clear HO3' HR3
      obtain ⟨g4, d4, G4, eg4, p4, ho4, hG4, hst4⟩ := Own.markL (j := 4) HO4.out hlt (by omega)
      obtain rfl : g = g4 := by simpa using eg4
      clear eg4
      have HH4 := Lib.hid ho4
      have HG4 := Lib.hid hG4
      have HST4 := Lib.hid hst4
      clear ho4 hG4 hst4
      go_wp2_with fail
      clear p4
      obtain ⟨wc4, hwc4⟩ : ∃ wc, (w3.setCell ⟨g, p * 7 + 3, none⟩ (Value.string S3)) = wc := ⟨_, rfl⟩
      rw [hwc4] at HH4 HST4 HX4 HT4 ⊢
      clear hwc4
      rw [show (T0 : Int) + 1 + 1 + 1 + 1 = ((T0 + 1 + 1 + 1 + 1 : Nat) : Int) from by omega]
      refine (hl4 p hlt wc4 (T0 + 1 + 1 + 1 + 1) d4 G4 (by omega) (by rw [HM4.out]; omega) (fun b hb => HX4.out b (HG4.out b hb)) HH4.out).mono ?_
      rw [HM4.out]
      rintro e w4 ⟨rfl, hn4, hq4⟩
      have HO5 := Lib.hid (HST4.out w4 hq4 HX4.out (by rw [K4.out]; exact hn4))
      have HT5 := Lib.hid (Out.trans HT4.out (hq4.wide HG4.out))
      have HX5 := Lib.hid (show ∀ b, F b → b < w4.heap.size from fun b hb => Nat.lt_of_lt_of_le (HX4.out b hb) hq4.size)
      clear HO4 hn4 hq4 HST4 HH4 HG4 HX4
      obtain ⟨g5, d5, G5, eg5, p5, ho5, hG5, hst5⟩ := Own.markL (j := 5) HO5.out hlt (by omega)
      obtain rfl : g = g5 := by simpa using eg5
      clear eg5
      have HH5 := Lib.hid ho5
      have HG5 := Lib.hid hG5
      have HST5 := Lib.hid hst5
      clear ho5 hG5 hst5
      go_wp2_with fail
      clear p5
      refine (hl5 p hlt w4 (T0 + 1 + 1 + 1 + 1 + M4) d5 G5 (by omega) (by rw [HM5.out]; omega) (fun b hb => HX5.out b (HG5.out b hb)) HH5.out).mono ?_
      rw [HM5.out]
      rintro e w5 ⟨rfl, hn5, hq5⟩
      have HO6 := Lib.hid (HST5.out w5 hq5 HX5.out (by rw [K5.out]; exact hn5))
      have HT6 := Lib.hid (Out.trans HT5.out (hq5.wide HG5.out))
      have HX6 := Lib.hid (show ∀ b, F b → b < w5.heap.size from fun b hb => Nat.lt_of_lt_of_le (HX5.out b hb) hq5.size)
      clear HO5 hn5 hq5 HST5 HH5 HG5 HX5
      obtain ⟨g6, d6, G6, eg6, p6, ho6, hG6, hst6⟩ := Own.markL (j := 6) HO6.out hlt (by omega)
      obtain rfl : g = g6 := by simpa using eg6
      clear eg6
      have HH6 := Lib.hid ho6
      have HG6 := Lib.hid hG6
      have HST6 := Lib.hid hst6
      clear ho6 hG6 hst6
      go_wp2_with fail
      clear p6
      refine (hl6 p hlt w5 (T0 + 1 + 1 + 1 + 1 + M4 + M5) d6 G6 (by omega) (by rw [HM6.out]; omega) (fun b hb => HX6.out b (HG6.out b hb)) HH6.out).mono ?_
      rw [HM6.out]
      rintro e w6 ⟨rfl, hn6, hq6⟩
      have HO7 := Lib.hid (HST6.out w6 hq6 HX6.out (by rw [K6.out]; exact hn6))
      have HT7 := Lib.hid (Out.trans HT6.out (hq6.wide HG6.out))
      have HX7 := Lib.hid (show ∀ b, F b → b < w6.heap.size from fun b hb => Nat.lt_of_lt_of_le (HX6.out b hb) hq6.size)
      clear HO6 hn6 hq6 HST6 HH6 HG6 HX6
      go_wp2
      go_roundw
      case rel => exact ⟨p + 1, by omega, by go_num, by rw [kk_row, K7.out]; go_num, Own.next HO7.out, HT7.out⟩
      case measure => simp [intOf]; omega
    · obtain rfl : p = n := by omega
      go_wp2
      go_ret
      refine ⟨?_, HO0.out.mst9, HOut.out⟩
      rw [← H0.out, kk_all]
      rfl

theorem mkStrings {d : D} (h : Sh d (.lst .text)) : MkL 39 d := by
  obtain ⟨n, it, rfl, hs⟩ := h.lst
  exact mkLsString n it hs
theorem mkValues : ∀ (d : D), Sh d (.lst .value) → MkL 38 d
  | .list W n it, h => by
    obtain ⟨n', it', e, hs⟩ := h.lst
    cases e
    exact mkLsValue n it hs (fun i hi => mkValues (it i 2) (hs i hi 2 _ rfl)) (fun i hi => mkStrings (hs i hi 3 _ rfl))
  | .no, h => h.elim
  | .int _, h => by cases h
  | .str _, h => by cases h
  | .bool _, h => by cases h
theorem mkArgs {d : D} (h : Sh d (.lst .arg)) : MkL 22 d := by
  obtain ⟨n, it, rfl, hs⟩ := h.lst
  exact mkLsArg n it hs (fun i hi => mkValues (it i 3) (hs i hi 3 _ rfl)) (fun i hi => mkStrings (hs i hi 4 _ rfl))
theorem mkDirs {d : D} (h : Sh d (.lst .dir)) : MkL 23 d := by
  obtain ⟨n, it, rfl, hs⟩ := h.lst
  exact mkLsDir n it hs (fun i hi => mkArgs (hs i hi 1 _ rfl))
theorem mkSels : ∀ (d : D), Sh d (.lst .sel) → MkL 10 d
  | .list W n it, h => by
    obtain ⟨n', it', e, hs⟩ := h.lst
    cases e
    exact mkLsSel n it hs (fun i hi => mkArgs (hs i hi 4 _ rfl)) (fun i hi => mkDirs (hs i hi 5 _ rfl)) (fun i hi => mkSels (it i 6) (hs i hi 6 _ rfl))
  | .no, h => h.elim
  | .int _, h => by cases h
  | .str _, h => by cases h
  | .bool _, h => by cases h
end Da
end Go.Proofs.Ytfnieelghfkbdaa
