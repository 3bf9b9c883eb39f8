/- What is proved: what the model's ReadDecimal answers at every text of at most 1048576 bytes: the number whose figures they are, and true, or 0 and false; and that it writes into no memory that was there. Used by the proof of FnExactReadDecimalCardSaid. -/
import Derived.Test.YtibkfgngdbmaiaaDoorDecA
import Derived.Test.YtibkfgngdbmaiaaDoorRdA
namespace Go.Proofs.YtibkfgngdbmaiaaDoor
namespace Rd
open Go.RowKit

theorem list_len (s : ByteArray) : s.data.toList.length = s.size := by rw [Array.length_toList]; rfl
theorem rd_end {l : List UInt8} {x : Int} {b : Bool} (h : R l = (x, b)) : Ending.returned (.tuple #[.int .i64 x, .bool b]) = .returned (.tuple #[.int .i64 (R l).1, .bool (R l).2]) := by rw [h]
theorem take_snoc (s : ByteArray) (k : Nat) (h : k < s.size) : s.data.toList.take (k + 1) = s.data.toList.take k ++ [s[k]] := by
  rw [List.take_succ_eq_append_getElem (by rw [list_len]; exact h)]; rfl
theorem val_take (s : ByteArray) (k : Nat) (hk : k ≤ s.size) (hs : s.size ≤ 10) (h : allD (s.data.toList.take k) = true) : val 0 (s.data.toList.take k) ≤ 9999999999 := by
  have h1 := val_lt _ 0 1 h (by omega)
  have h2 : (s.data.toList.take k).length = k := by rw [List.length_take, list_len]; omega
  rw [h2, Nat.one_mul] at h1
  have h3 : 10 ^ k ≤ 10 ^ 10 := Nat.pow_le_pow_right (by decide) (by omega)
  omega

theorem cmp_no {x : Int} {s : ByteArray} (h : (!Lib.itoa x == s.toList) = true) : Lib.itoa x ≠ s.data.toList := by
  intro e; rw [e, ByteArray.toList_eq] at h; simp at h
theorem cmp_yes {x : Int} {s : ByteArray} (h : (!Lib.itoa x == s.toList) = false) : Lib.itoa x = s.data.toList := by
  rw [ByteArray.toList_eq] at h; simpa using h

set_option maxHeartbeats 600000 in
theorem specLong (s : ByteArray) (w : World) (hs : 10 < s.size) (hm : s.size ≤ 1048576) :
    Calls Tryd.prog 7 #[.string s] w fun e w' => e = .returned (.tuple #[.int .i64 (R s.data.toList).1, .bool (R s.data.toList).2]) ∧ Below w.heap.size w w' := by
  have h1 : (10 : Int) < (s.size : Int) := by omega
  have HR : Hid (R s.data.toList = (0, false)) := R_long (by rw [list_len]; exact hs)
  go_enter Tryd.func7, Tryd.ntmps7
  go_wp2
  go_ret2
  exact ⟨rd_end HR.out, Below.refl _ _⟩

set_option maxHeartbeats 1000000 in
theorem specShort (s : ByteArray) (w : World) (hs : s.size ≤ 10) :
    Calls Tryd.prog 7 #[.string s] w fun e w' => e = .returned (.tuple #[.int .i64 (R s.data.toList).1, .bool (R s.data.toList).2]) ∧ Below w.heap.size w w' := by
  have h1 : ¬ (10 : Int) < (s.size : Int) := by omega
  have HL : Hid (s.data.toList.length = s.size) := list_len s
  go_enter Tryd.func7, Tryd.ntmps7
  go_wp2
  go_loop [4, 5] (fun nv i => ∃ (k : Nat) (x : Int), k ≤ s.size ∧ i = .int .i64 (k : Int) ∧ nv = .int .i64 x ∧ 0 ≤ x ∧ x ≤ 9999999999 ∧ Hid (x = ((val 0 (s.data.toList.take k) : Nat) : Int)) ∧ Hid (allD (s.data.toList.take k) = true))
    (fun _ i => s.size - (intOf i).toNat)
  case atStart => exact ⟨0, 0, Nat.zero_le _, rfl, rfl, by omega, by omega, by show (0 : Int) = _; simp [val], by show allD _ = true; simp [allD]⟩
  case round =>
    obtain ⟨k, x, hk, rfl, rfl, hx0, hx1, HX, HA⟩ := hrel
    by_cases hlt : k < s.size
    · have hi0 : (0 : Int) ≤ (k : Int) := by omega
      have hi1 : (k : Int) < (s.size : Int) := by omega
      have hb := s[k].toNat_lt
      have hb1 : (s[k].toNat : Int) < 256 := by omega
      by_cases hc1 : (s[k].toNat : Int) < 48
      · have HR : Hid (R s.data.toList = (0, false)) := R_sign k (by rw [HL.out]; exact hlt) (by show ¬ (48 ≤ s[k].toNat ∧ s[k].toNat ≤ 57); omega)
        go_wp2
        go_ret2
        exact ⟨rd_end HR.out, Below.refl _ _⟩
      · by_cases hc2 : 57 < (s[k].toNat : Int)
        · have HR : Hid (R s.data.toList = (0, false)) := R_sign k (by rw [HL.out]; exact hlt) (by show ¬ (48 ≤ s[k].toNat ∧ s[k].toNat ≤ 57); omega)
          go_wp2
          go_ret2
          exact ⟨rd_end HR.out, Below.refl _ _⟩
        · have HA2 : Hid (allD (s.data.toList.take (k + 1)) = true) := by
            show _ = _
            rw [take_snoc s k hlt, allD_snoc, HA.out]
            show (true && decide (48 ≤ s[k].toNat ∧ s[k].toNat ≤ 57)) = true
            rw [Bool.true_and, decide_eq_true_iff]; omega
          have HV : Hid (10 * x + (s[k].toNat : Int) - 48 = ((val 0 (s.data.toList.take (k + 1)) : Nat) : Int)) := by
            show _ = _
            rw [take_snoc s k hlt, val_snoc]
            have := HX.out; omega
          have HB := Lib.hid (val_take s (k + 1) hlt hs HA2.out)
          have hy : 10 * x + (s[k].toNat : Int) - 48 ≤ 9999999999 := by have h1 := HV.out; have h2 := HB.out; omega
          go_wp2
          go_round
          case rel => exact ⟨k + 1, 10 * x + (s[k].toNat : Int) - 48, by omega, by go_num, rfl, by omega, hy, HV, HA2⟩
          case measure => simp [intOf]; omega
    · have HT : Hid (s.data.toList.take k = s.data.toList) := List.take_of_length_le (by rw [HL.out]; omega)
      have HX2 : Hid (x = ((val 0 s.data.toList : Nat) : Int)) := by have h := HX.out; rw [HT.out] at h; exact h
      have HA2 : Hid (allD s.data.toList = true) := by have h := HA.out; rw [HT.out] at h; exact h
      have hi1 : ¬ (k : Int) < (s.size : Int) := by omega
      by_cases hbig : 1000000000 < x
      · have HR : Hid (R s.data.toList = (0, false)) := R_great (by have := HX2.out; omega)
        go_wp2
        go_ret2
        exact ⟨rd_end HR.out, Below.refl _ _⟩
      · go_wp2_with fail
        refine (Dec.specDec x w (by omega) (by omega)).mono ?_
        rintro e w1 ⟨rfl, hb1⟩
        go_wp2
        · have h : (!Lib.itoa x == s.toList) = true := by assumption
          have HR : R s.data.toList = (0, false) := R_other (by
            have h1 := cmp_no h
            have h2 := HX2.out
            rw [h2, Lib.itoa_nonneg] at h1
            exact h1)
          go_ret2
          exact ⟨rd_end HR, hb1⟩
        · have h : (!Lib.itoa x == s.toList) = false := by assumption
          have HR : R s.data.toList = (x, true) := R_ok hx0 (by omega) (cmp_yes h)
          go_ret2
          exact ⟨rd_end HR, hb1⟩
end Rd
end Go.Proofs.YtibkfgngdbmaiaaDoor
