/- What is proved: plain facts on UTF-8: the text of a scalar, the scalar that begins at a byte, whether a text is scalars one behind the other, and which they are; each as a function of the bytes. Used by the proofs of FnExactRuneAtCardSaid, FnExactTextOkCardSaid, FnExactRunesOfCardSaid and FnRunesCardSaid. -/
import GoSem.Core.Utf8
import Derived.Lib.DecodeN
import Derived.Shelf.Unicode.DecodeSlow
import Derived.Laws.Runes
namespace Go.Proofs.YtaafgcnkedaonaaDoor
open Go.Lib

/-- The text of a scalar; nothing for another number. -/
def rt (n : Int) : ByteArray := if Utf8.valid n then Utf8.encode n else ⟨#[]⟩
/-- Its length. -/
def rl (v : Int) : Nat := if (0 ≤ v ∧ v < 55296) ∨ (57343 < v ∧ v ≤ 1114111) then (if v < 128 then 1 else if v < 2048 then 2 else if v < 65536 then 3 else 4) else 0

theorem valid_bounds {x : Int} (h : Utf8.valid x = true) : (0 ≤ x ∧ x < 55296) ∨ (57343 < x ∧ x ≤ 1114111) := by
  rw [validRune_eq, validRune] at h; simpa using h
theorem valid_not {x : Int} (h : Utf8.valid x = false) : ¬ ((0 ≤ x ∧ x < 55296) ∨ (57343 < x ∧ x ≤ 1114111)) := by
  rw [validRune_eq, validRune] at h; simpa using h
theorem valid_of {x : Int} (h : (0 ≤ x ∧ x < 55296) ∨ (57343 < x ∧ x ≤ 1114111)) : Utf8.valid x = true := by
  rw [validRune_eq, validRune]; exact decide_eq_true h

theorem rt_none {x : Int} (hv : Utf8.valid x = false) : rt x = ⟨#[]⟩ := by simp [rt, hv]
theorem rt_one {x : Int} (hv : Utf8.valid x = true) (h1 : x < 128) : rt x = ⟨#[UInt8.ofNat x.toNat]⟩ := by
  have c1 : x.toNat < 128 := by omega
  simp [rt, hv, Utf8.encode, c1]
theorem rt_two {x : Int} (hv : Utf8.valid x = true) (h0 : 128 ≤ x) (h1 : x < 2048) : rt x = ⟨#[UInt8.ofNat (192 + x / 64).toNat, UInt8.ofNat (128 + x % 64).toNat]⟩ := by
  have c0 : ¬ x.toNat < 128 := by omega
  have c1 : x.toNat < 2048 := by omega
  simp only [rt, hv, Utf8.encode, c0, c1, if_true, if_false]
  rw [show (192 + x / 64).toNat = 192 + x.toNat / 64 from by omega, show (128 + x % 64).toNat = 128 + x.toNat % 64 from by omega]
theorem rt_three {x : Int} (hv : Utf8.valid x = true) (h0 : 2048 ≤ x) (h1 : x < 65536) : rt x = ⟨#[UInt8.ofNat (224 + x / 4096).toNat, UInt8.ofNat (128 + x / 64 % 64).toNat, UInt8.ofNat (128 + x % 64).toNat]⟩ := by
  have c0 : ¬ x.toNat < 128 := by omega
  have c1 : ¬ x.toNat < 2048 := by omega
  have c2 : x.toNat < 65536 := by omega
  simp only [rt, hv, Utf8.encode, c0, c1, c2, if_true, if_false]
  rw [show (224 + x / 4096).toNat = 224 + x.toNat / 4096 from by omega, show (128 + x / 64 % 64).toNat = 128 + x.toNat / 64 % 64 from by omega, show (128 + x % 64).toNat = 128 + x.toNat % 64 from by omega]
theorem rt_four {x : Int} (hv : Utf8.valid x = true) (h0 : 65536 ≤ x) : rt x = ⟨#[UInt8.ofNat (240 + x / 262144).toNat, UInt8.ofNat (128 + x / 4096 % 64).toNat, UInt8.ofNat (128 + x / 64 % 64).toNat, UInt8.ofNat (128 + x % 64).toNat]⟩ := by
  have c0 : ¬ x.toNat < 128 := by omega
  have c1 : ¬ x.toNat < 2048 := by omega
  have c2 : ¬ x.toNat < 65536 := by omega
  simp only [rt, hv, Utf8.encode, c0, c1, c2, if_true, if_false]
  rw [show (240 + x / 262144).toNat = 240 + x.toNat / 262144 from by omega, show (128 + x / 4096 % 64).toNat = 128 + x.toNat / 4096 % 64 from by omega, show (128 + x / 64 % 64).toNat = 128 + x.toNat / 64 % 64 from by omega, show (128 + x % 64).toNat = 128 + x.toNat % 64 from by omega]

theorem rt_size (x : Int) : (rt x).size = rl x := by
  cases hv : Utf8.valid x with
  | false => rw [rt_none hv, rl, if_neg (valid_not hv)]; rfl
  | true =>
    rw [rl, if_pos (valid_bounds hv)]
    by_cases h1 : x < 128
    · rw [rt_one hv h1, if_pos h1]; rfl
    · by_cases h2 : x < 2048
      · rw [rt_two hv (by omega) h2, if_neg h1, if_pos h2]; rfl
      · by_cases h3 : x < 65536
        · rw [rt_three hv (by omega) h3, if_neg h1, if_neg h2, if_pos h3]; rfl
        · rw [rt_four hv (by omega), if_neg h1, if_neg h2, if_neg h3]; rfl

/-- The byte at a place, as a number (nought behind the end). -/
def bt (s : ByteArray) (i : Nat) : Nat := (s.get! i).toNat
theorem bt_lt (s : ByteArray) (i : Nat) : bt s i < 256 := (s.get! i).toNat_lt
theorem bt_eq (s : ByteArray) (i : Nat) (h : i < s.size) : bt s i = (s[i]).toNat := by
  unfold bt; congr 1
  exact getElem!_pos s.data i h

/-- What RuneAt answers. -/
def rx (n b0 b1 b2 b3 : Nat) : Int × Int := if decodeN n b0 b1 b2 b3 = (65533, 1) then (-1, 0) else (((decodeN n b0 b1 b2 b3).1 : Int), ((decodeN n b0 b1 b2 b3).2 : Int))
def ra (s : ByteArray) (i : Nat) : Int × Int := if Utf8.decode s i = (65533, 1) then (-1, 0) else (((Utf8.decode s i).1 : Int), ((Utf8.decode s i).2 : Int))
theorem ra_eq (s : ByteArray) (i : Nat) : ra s i = rx (s.size - i) (bt s i) (bt s (i + 1)) (bt s (i + 2)) (bt s (i + 3)) := by
  unfold ra rx bt; rw [decode_at]

theorem rx_ascii {n b0 b1 b2 b3 : Nat} (h : b0 < 128) : rx n b0 b1 b2 b3 = ((b0 : Int), 1) := by
  unfold rx decodeN
  rw [if_pos h, if_neg (by simp; omega)]
  rfl
set_option maxHeartbeats 1000000 in
theorem rx_none {n b0 b1 b2 b3 : Nat} (h : (128 ≤ b0 ∧ b0 < 194) ∨ 245 ≤ b0) (h0 : b0 < 256) : rx n b0 b1 b2 b3 = (-1, 0) := by
  have e : decodeN n b0 b1 b2 b3 = (65533, 1) := by
    unfold decodeN
    repeat' split
    all_goals first | rfl | (exfalso; omega)
  unfold rx; rw [if_pos e]
set_option maxHeartbeats 1000000 in
theorem rx_two {n b0 b1 b2 b3 : Nat} (h : 194 ≤ b0 ∧ b0 < 224) (h1 : b1 < 256) (hn : ¬ (2 ≤ n ∧ 128 ≤ b1 ∧ b1 ≤ 191)) : rx n b0 b1 b2 b3 = (-1, 0) := by
  have e : decodeN n b0 b1 b2 b3 = (65533, 1) := by
    unfold decodeN
    repeat' split
    all_goals first | rfl | (exfalso; omega)
  unfold rx; rw [if_pos e]
set_option maxHeartbeats 1000000 in
theorem rx_three {n b0 b1 b2 b3 : Nat} (h : 224 ≤ b0 ∧ b0 < 240) (h1 : b1 < 256) (h2 : b2 < 256) (hn : ¬ (3 ≤ n ∧ (128 ≤ b1 ∧ b1 ≤ 191) ∧ (128 ≤ b2 ∧ b2 ≤ 191))) : rx n b0 b1 b2 b3 = (-1, 0) := by
  have e : decodeN n b0 b1 b2 b3 = (65533, 1) := by
    unfold decodeN
    repeat' split
    all_goals first | rfl | (exfalso; omega)
  unfold rx; rw [if_pos e]
set_option maxHeartbeats 1000000 in
theorem rx_four {n b0 b1 b2 b3 : Nat} (h : 240 ≤ b0 ∧ b0 < 245) (h1 : b1 < 256) (h2 : b2 < 256) (h3 : b3 < 256) (hn : ¬ (4 ≤ n ∧ (128 ≤ b1 ∧ b1 ≤ 191) ∧ (128 ≤ b2 ∧ b2 ≤ 191) ∧ (128 ≤ b3 ∧ b3 ≤ 191))) : rx n b0 b1 b2 b3 = (-1, 0) := by
  have e : decodeN n b0 b1 b2 b3 = (65533, 1) := by
    unfold decodeN
    repeat' split
    all_goals first | rfl | (exfalso; omega)
  unfold rx; rw [if_pos e]

/-- What stands behind the first byte, taken in one by one. -/
def acc (s : ByteArray) (i : Nat) (n0 : Int) : Nat → Int
  | 0 => n0
  | k + 1 => acc s i n0 k * 64 + (bt s (i + (k + 1)) : Int) - 128

set_option maxHeartbeats 2000000 in
theorem rx_two_ok {n b0 b1 b2 b3 : Nat} (h : 194 ≤ b0 ∧ b0 < 224) (hn : 2 ≤ n) (h1 : 128 ≤ b1 ∧ b1 ≤ 191) :
    rx n b0 b1 b2 b3 = if rl (((b0 : Int) - 192) * 64 + b1 - 128) = 2 then (((b0 : Int) - 192) * 64 + b1 - 128, 2) else (-1, 0) := by
  have e : decodeN n b0 b1 b2 b3 = ((b0 - 192) * 64 + (b1 - 128), 2) := by
    unfold decodeN
    repeat' split
    all_goals first | (exfalso; omega) | (apply Prod.ext <;> simp only <;> omega)
  have r : rl (((b0 : Int) - 192) * 64 + b1 - 128) = 2 := by
    unfold rl
    rw [if_pos (by omega), if_neg (by omega), if_pos (by omega)]
  rw [if_pos r]; unfold rx; rw [e, if_neg (by simp)]
  apply Prod.ext <;> simp only <;> omega
set_option maxHeartbeats 2000000 in
theorem rx_three_ok {n b0 b1 b2 b3 : Nat} (h : 224 ≤ b0 ∧ b0 < 240) (hn : 3 ≤ n) (h1 : 128 ≤ b1 ∧ b1 ≤ 191) (h2 : 128 ≤ b2 ∧ b2 ≤ 191) :
    rx n b0 b1 b2 b3 = if rl ((((b0 : Int) - 224) * 64 + b1 - 128) * 64 + b2 - 128) = 3 then ((((b0 : Int) - 224) * 64 + b1 - 128) * 64 + b2 - 128, 3) else (-1, 0) := by
  obtain ⟨v, hv⟩ : ∃ v : Int, (((b0 : Int) - 224) * 64 + b1 - 128) * 64 + b2 - 128 = v := ⟨_, rfl⟩
  rw [hv]
  by_cases hg : 2048 ≤ v ∧ (v < 55296 ∨ 57344 ≤ v)
  · have e : decodeN n b0 b1 b2 b3 = (v.toNat, 3) := by
      unfold decodeN
      repeat' split
      all_goals first | (exfalso; omega) | (apply Prod.ext <;> simp only <;> omega)
    have r : rl v = 3 := by
      unfold rl
      rw [if_pos (by omega), if_neg (by omega), if_neg (by omega), if_pos (by omega)]
    rw [if_pos r]; unfold rx; rw [e, if_neg (by simp)]
    apply Prod.ext <;> simp only <;> omega
  · have e : decodeN n b0 b1 b2 b3 = (65533, 1) := by
      unfold decodeN
      repeat' split
      all_goals first | rfl | (exfalso; omega)
    have r : ¬ rl v = 3 := by
      unfold rl
      repeat' split
      all_goals omega
    rw [if_neg r]; unfold rx; rw [if_pos e]
set_option maxHeartbeats 2000000 in
theorem rx_four_ok {n b0 b1 b2 b3 : Nat} (h : 240 ≤ b0 ∧ b0 < 245) (hn : 4 ≤ n) (h1 : 128 ≤ b1 ∧ b1 ≤ 191) (h2 : 128 ≤ b2 ∧ b2 ≤ 191) (h3 : 128 ≤ b3 ∧ b3 ≤ 191) :
    rx n b0 b1 b2 b3 = if rl (((((b0 : Int) - 240) * 64 + b1 - 128) * 64 + b2 - 128) * 64 + b3 - 128) = 4 then (((((b0 : Int) - 240) * 64 + b1 - 128) * 64 + b2 - 128) * 64 + b3 - 128, 4) else (-1, 0) := by
  obtain ⟨v, hv⟩ : ∃ v : Int, ((((b0 : Int) - 240) * 64 + b1 - 128) * 64 + b2 - 128) * 64 + b3 - 128 = v := ⟨_, rfl⟩
  rw [hv]
  by_cases hg : 65536 ≤ v ∧ v ≤ 1114111
  · have e : decodeN n b0 b1 b2 b3 = (v.toNat, 4) := by
      unfold decodeN
      repeat' split
      all_goals first | (exfalso; omega) | (apply Prod.ext <;> simp only <;> omega)
    have r : rl v = 4 := by
      unfold rl
      rw [if_pos (by omega), if_neg (by omega), if_neg (by omega), if_neg (by omega)]
    rw [if_pos r]; unfold rx; rw [e, if_neg (by simp)]
    apply Prod.ext <;> simp only <;> omega
  · have e : decodeN n b0 b1 b2 b3 = (65533, 1) := by
      unfold decodeN
      repeat' split
      all_goals first | rfl | (exfalso; omega)
    have r : ¬ rl v = 4 := by
      unfold rl
      repeat' split
      all_goals omega
    rw [if_neg r]; unfold rx; rw [if_pos e]

theorem getb (s : ByteArray) (i : Nat) : s.get! i = s.data.toList.getD i 0 := by
  show s.data[i]! = _
  rw [Array.getElem!_eq_getD, Array.getD_eq_getD_getElem?, List.getD_eq_getElem?_getD, Array.getElem?_toList]
  rfl

set_option maxHeartbeats 1000000 in
theorem decodeN_bound (n b0 b1 b2 b3 : Nat) (h : 1 ≤ n) : (decodeN n b0 b1 b2 b3).1 ≤ 1114111 ∧ 1 ≤ (decodeN n b0 b1 b2 b3).2 ∧ (decodeN n b0 b1 b2 b3).2 ≤ 4 ∧ (decodeN n b0 b1 b2 b3).2 ≤ n := by
  unfold decodeN
  repeat' split
  all_goals (refine ⟨?_, ?_, ?_, ?_⟩ <;> simp only <;> omega)
theorem dec_bound (s : ByteArray) (i : Nat) (h : i < s.size) : (Utf8.decode s i).1 ≤ 1114111 ∧ 1 ≤ (Utf8.decode s i).2 ∧ (Utf8.decode s i).2 ≤ 4 ∧ i + (Utf8.decode s i).2 ≤ s.size := by
  rw [decode_at]
  obtain ⟨a, b, c, d⟩ := decodeN_bound (s.size - i) (s.get! i).toNat (s.get! (i + 1)).toNat (s.get! (i + 2)).toNat (s.get! (i + 3)).toNat (by omega)
  exact ⟨a, b, c, by omega⟩

theorem get_tail (s : ByteArray) (k j : Nat) : (s.extract k s.size).get! j = s.get! (k + j) := by
  rw [getb, getb, ByteArray.data_extract, Array.toList_extract]
  simp only [List.getD_eq_getElem?_getD, List.extract_eq_take_drop, List.getElem?_take, List.getElem?_drop]
  by_cases h : j < s.size - k
  · rw [if_pos h]
  · rw [if_neg h, List.getElem?_eq_none (by simp only [Array.length_toList]; show s.data.size ≤ k + j; have : s.size = s.data.size := rfl; omega)]
theorem dec_tail (s : ByteArray) (k : Nat) (h : k < s.size) : decodeGo (s.extract k s.size) = Utf8.decode s k := by
  have hz : (s.extract k s.size).size = s.size - k := by simp
  unfold decodeGo
  rw [if_neg (by omega), decode_at, decode_at, hz]
  simp only [get_tail, Nat.add_zero, Nat.sub_zero, Nat.zero_add]

theorem ra_bad {s : ByteArray} {i : Nat} (h : Utf8.decode s i = (65533, 1)) : ra s i = (-1, 0) := if_pos h
theorem ra_good {s : ByteArray} {i : Nat} (h : ¬ Utf8.decode s i = (65533, 1)) : ra s i = (((Utf8.decode s i).1 : Int), ((Utf8.decode s i).2 : Int)) := if_neg h
end Go.Proofs.YtaafgcnkedaonaaDoor
