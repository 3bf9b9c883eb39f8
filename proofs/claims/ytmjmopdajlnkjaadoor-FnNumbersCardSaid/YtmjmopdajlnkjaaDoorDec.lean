/- What is proved: what the model's Decimal answers at every int: its decimal figures, a minus ahead below 0; and that it writes into no memory that was there. Used by the proofs of the laws that write numbers. -/
import Derived.Test.YtmjmopdajlnkjaaDoorChecked
import Derived.WalkKit
import Derived.WalkSpells
import Derived.WalkLawsBesides
import Derived.OwnWalk
import Derived.Laws.IdiomStrings
import Derived.Lib.ItoaMem
import Derived.Lib.Hide
import Derived.Below
import Derived.KernelRfl
namespace Go.Proofs.YtmjmopdajlnkjaaDoor
namespace Dec
open Go.RowKit

def fig (y : Int) : UInt8 := UInt8.ofNat (48 + y.toNat)
theorem fig_int (y : Int) (h0 : 0 ≤ y) (h1 : y ≤ 9) : ((fig y).toNat : Int) = 48 + y := by
  unfold fig; rw [UInt8.toNat_ofNat']; omega
theorem conv_one (w : World) (x : Int) (c : UInt8) (h : (c.toNat : Int) = x) :
    (convert 22 9 (.slice (some ⟨w.heap.size, 0, none⟩) 1 1)).run Tryd.prog (w.alloc (.cells #[.int .u8 x] 5)) = .ok (.string ⟨#[c]⟩) (w.alloc (.cells #[.int .u8 x] 5)) := by
  subst h
  have := run_convert_bytes_back (P := Tryd.prog) (w.alloc (.cells #[.int .u8 (c.toNat : Int)] 5)) 22 9 5 ⟨w.heap.size, 0, none⟩ 1 [c] Tryd.underlying22 Tryd.underlying5 Tryd.underlying9 (fun j hj => by
    obtain rfl : j = 0 := by simp at hj; omega
    simp [Addr.add])
  exact this
theorem cat_str (c : UInt8) (acc : List UInt8) : (({ data := #[c] } : ByteArray) ++ { data := acc.toArray }) = { data := (c :: acc).toArray } := by
  apply ByteArray.ext; simp

theorem ret_str {a b : List UInt8} (h : a = b) : Ending.returned (.string ⟨a.toArray⟩) = .returned (.string ⟨b.toArray⟩) := by rw [h]

theorem ret_neg {a b : List UInt8} (h : a = b) : Ending.returned (.string (({ data := #[45] } : ByteArray) ++ { data := a.toArray })) = .returned (.string ⟨(45 :: b).toArray⟩) := by rw [cat_str, h]
theorem tmod_neg (y : Int) (h : y ≤ 0) : y.tmod 10 = -((y.natAbs % 10 : Nat) : Int) := by
  obtain ⟨n, rfl⟩ : ∃ n : Nat, y = -(n : Int) := ⟨y.natAbs, by omega⟩
  rw [Int.neg_tmod, Int.natAbs_neg, Int.natAbs_natCast]; rfl
theorem tdiv_neg (y : Int) (h : y ≤ 0) : y.tdiv 10 = -((y.natAbs / 10 : Nat) : Int) := by
  obtain ⟨n, rfl⟩ : ∃ n : Nat, y = -(n : Int) := ⟨y.natAbs, by omega⟩
  rw [Int.neg_tdiv, Int.natAbs_neg, Int.natAbs_natCast]; rfl

/-- The figures of what is left, ahead of those that are there. -/
def D (m : Nat) (acc : List UInt8) : List UInt8 := if m = 0 then acc else Lib.decDigits m ++ acc
theorem D_step (m : Nat) (acc : List UInt8) (h : m ≠ 0) : D (m / 10) (UInt8.ofNat (48 + m % 10) :: acc) = D m acc := by
  unfold D
  rw [if_neg h]
  by_cases h10 : m < 10
  · rw [if_pos (by omega), Lib.decDigits_one h10, show m % 10 = m from by omega]; rfl
  · rw [if_neg (by omega)]
    conv => rhs; rw [Lib.decDigits, dif_neg h10]
    simp

set_option maxHeartbeats 400000 in
theorem figC (y : Int) (w : World) (h0 : 0 ≤ y) (h1 : y ≤ 9) : Calls Tryd.prog 17 #[.int .i64 y] w fun e w' => e = .returned (.int .u8 (48 + y)) ∧ w = w' := by
  go_enter Tryd.func17, Tryd.ntmps17
  go_wp2
  go_ret
  exact ⟨by go_num, rfl⟩

set_option maxHeartbeats 800000 in
theorem specPos (x : Int) (w : World) (h0 : 0 < x) (h1 : x ≤ 9223372036854775807) :
    Calls Tryd.prog 7 #[.int .i64 x] w fun e w' => e = .returned (.string ⟨(Lib.decDigits x.toNat).toArray⟩) ∧ Below w.heap.size w w' := by
  have hz : (x == 0) = false := by simp; omega
  have hn : ¬ x < 0 := by omega
  have hd : decide (x < 0) = false := by simpa using hn
  go_enter Tryd.func7, Tryd.ntmps7
  go_wp2
  go_loopw [0, 4] (fun nv sv wr => ∃ (y : Int) (f : Nat) (acc : List UInt8), 0 ≤ y ∧ y ≤ 9223372036854775807 ∧ nv = .int .i64 y ∧ sv = .string ⟨acc.toArray⟩ ∧ acc.length + f ≤ 20 ∧ Hid (y.toNat < 10 ^ f) ∧ Below w.heap.size w wr ∧ Hid (D y.toNat acc = Lib.decDigits x.toNat))
    (fun nv _ _ => (intOf nv).toNat)
  case atStart => exact ⟨x, 20, [], by omega, h1, rfl, rfl, by simp, by show x.toNat < 10 ^ 20; omega, Below.refl _ _, by show D x.toNat [] = _; unfold D; rw [if_neg (by omega), List.append_nil]⟩
  case round =>
    obtain ⟨y, f, acc, hy0, hy1, rfl, rfl, hf, HM, hnx, HD⟩ := hrel
    have hsz := hnx.size
    by_cases hp : y = 0
    · have HR : Hid (acc = Lib.decDigits x.toNat) := by have h := HD.out; rw [hp] at h; unfold D at h; show _ = _; simpa using h
      have hp' : (y != 0) = false := by simp [hp]
      clear hp
      go_wp2
      go_ret
      exact ⟨ret_str HR.out, hnx⟩
    · have hp' : (y != 0) = true := by simp [hp]
      have hy2 : 0 < y := by omega
      have m0 : 0 ≤ y % 10 := by omega
      have m1 : y % 10 ≤ 9 := by omega
      have hcv := conv_one wr _ _ (fig_int (y % 10) m0 m1)
      obtain ⟨g, rfl⟩ : ∃ g, f = g + 1 := by
        cases f with
        | zero => have := HM.out; simp at this; omega
        | succ g => exact ⟨g, rfl⟩
      have HR : Hid (D (y / 10).toNat (fig (y % 10) :: acc) = Lib.decDigits x.toNat) := by
        have h := HD.out
        rw [← D_step _ _ (by omega)] at h
        show D _ (UInt8.ofNat (48 + (y % 10).toNat) :: acc) = _
        rw [show (y / 10).toNat = y.toNat / 10 from by omega, show (y % 10).toNat = y.toNat % 10 from by omega]
        exact h
      have HN : Hid ((y / 10).toNat < 10 ^ g) := by have := HM.out; rw [Nat.pow_succ] at this; show (y / 10).toNat < 10 ^ g; omega
      clear hp
      go_wp2_with (go_at_call 17; refine (figC _ _ ?_ ?_).mono ?_; omega; omega; rintro e w' ⟨rfl, rfl⟩)
      go_roundw
      case rel => exact ⟨y / 10, g, fig (y % 10) :: acc, by omega, by omega, rfl, by rw [cat_str], by simp; omega, HN, hnx.alloc hsz _, HR⟩
      case measure => simp [intOf]; omega

set_option maxHeartbeats 1600000 in
theorem specNeg (x : Int) (w : World) (h0 : x < 0) (h1 : -9223372036854775808 ≤ x) :
    Calls Tryd.prog 7 #[.int .i64 x] w fun e w' => e = .returned (.string ⟨(45 :: Lib.decDigits x.natAbs).toArray⟩) ∧ Below w.heap.size w w' := by
  have hz : (x == 0) = false := by simp; omega
  have hd : decide (x < 0) = true := by simpa using h0
  go_enter Tryd.func7, Tryd.ntmps7
  go_wp2
  go_loopw [0, 4] (fun nv sv wr => ∃ (y : Int) (f : Nat) (acc : List UInt8), y ≤ 0 ∧ -9223372036854775808 ≤ y ∧ nv = .int .i64 y ∧ sv = .string ⟨acc.toArray⟩ ∧ acc.length + f ≤ 20 ∧ Hid (y.natAbs < 10 ^ f) ∧ Below w.heap.size w wr ∧ Hid (D y.natAbs acc = Lib.decDigits x.natAbs))
    (fun nv _ _ => (intOf nv).natAbs)
  case atStart => exact ⟨x, 20, [], by omega, h1, rfl, rfl, by simp, by show x.natAbs < 10 ^ 20; omega, Below.refl _ _, by show D x.natAbs [] = _; unfold D; rw [if_neg (by omega), List.append_nil]⟩
  case round =>
    obtain ⟨y, f, acc, hy0, hy1, rfl, rfl, hf, HM, hnx, HD⟩ := hrel
    have hsz := hnx.size
    by_cases hp : y = 0
    · have HR : Hid (acc = Lib.decDigits x.natAbs) := by have h := HD.out; rw [hp] at h; unfold D at h; show _ = _; simpa using h
      have hp' : (y != 0) = false := by simp [hp]
      clear hp
      go_wp2
      go_ret
      exact ⟨ret_neg HR.out, hnx⟩
    · have hp' : (y != 0) = true := by simp [hp]
      have hy2 : y < 0 := by omega
      obtain ⟨g, rfl⟩ : ∃ g, f = g + 1 := by
        cases f with
        | zero => have := HM.out; simp at this; omega
        | succ g => exact ⟨g, rfl⟩
      have T := tmod_neg y hy0
      have Q := tdiv_neg y hy0
      have HT := Lib.hid T
      have HQ := Lib.hid Q
      clear T Q
      have t0 : -9 ≤ y.tmod 10 ∧ y.tmod 10 ≤ 0 := by have := HT.out; omega
      have q0 : y ≤ y.tdiv 10 ∧ y.tdiv 10 ≤ 0 := by have := HQ.out; omega
      have HR : Hid (D (y.tdiv 10).natAbs (fig (-(y.tmod 10)) :: acc) = Lib.decDigits x.natAbs) := by
        have h := HD.out
        rw [← D_step _ _ (by omega)] at h
        show D _ (UInt8.ofNat (48 + (-(y.tmod 10)).toNat) :: acc) = _
        rw [HT.out, HQ.out]
        rw [show (- -((y.natAbs % 10 : Nat) : Int)).toNat = y.natAbs % 10 from by omega, show (-((y.natAbs / 10 : Nat) : Int)).natAbs = y.natAbs / 10 from by omega]
        exact h
      have HN : Hid ((y.tdiv 10).natAbs < 10 ^ g) := by
        have := HM.out; rw [Nat.pow_succ] at this; show (y.tdiv 10).natAbs < 10 ^ g; rw [HQ.out]; omega
      have HB : Hid ((y.tdiv 10).natAbs < y.natAbs) := by show _ < _; rw [HQ.out]; omega
      clear hp
      by_cases hd2 : y.tmod 10 < 0
      · have hcv := conv_one wr _ _ (fig_int (-(y.tmod 10)) (by omega) (by omega))
        go_wp2_with (go_at_call 17; refine (figC _ _ ?_ ?_).mono ?_; omega; omega; rintro e w' ⟨rfl, rfl⟩)
        go_roundw
        case rel => exact ⟨y.tdiv 10, g, fig (-(y.tmod 10)) :: acc, by omega, by omega, rfl, by rw [cat_str], by simp; omega, HN, hnx.alloc hsz _, HR⟩
        case measure => exact HB.out
      · have HZ : Hid (y.tmod 10 = 0) := by show _ = _; omega
        have hcv := conv_one wr _ _ (fig_int (y.tmod 10) (by omega) (by omega))
        have HR2 : Hid (D (y.tdiv 10).natAbs (fig (y.tmod 10) :: acc) = Lib.decDigits x.natAbs) := by
          have h := HR.out; rw [HZ.out] at h ⊢; exact h
        go_wp2_with (go_at_call 17; refine (figC _ _ ?_ ?_).mono ?_; omega; omega; rintro e w' ⟨rfl, rfl⟩)
        go_roundw
        case rel => exact ⟨y.tdiv 10, g, fig (y.tmod 10) :: acc, by omega, by omega, rfl, by rw [cat_str], by simp; omega, HN, hnx.alloc hsz _, HR2⟩
        case measure => exact HB.out

set_option maxHeartbeats 400000 in
theorem specZero (w : World) : Calls Tryd.prog 7 #[.int .i64 0] w fun e w' => e = .returned (.string ⟨#[48]⟩) ∧ Below w.heap.size w w' := by
  go_enter Tryd.func7, Tryd.ntmps7
  go_wp2
  go_ret
  exact ⟨rfl, Below.refl _ _⟩

theorem specDec (x : Int) (w : World) (h0 : -9223372036854775808 ≤ x) (h1 : x ≤ 9223372036854775807) :
    Calls Tryd.prog 7 #[.int .i64 x] w fun e w' => e = .returned (.string ⟨(Lib.itoa x).toArray⟩) ∧ Below w.heap.size w w' := by
  rcases Int.lt_trichotomy x 0 with h | h | h
  · have e : Lib.itoa x = 45 :: Lib.decDigits x.natAbs := by unfold Lib.itoa; rw [if_pos h]
    rw [e]; exact specNeg x w h h0
  · subst h
    have e : Lib.itoa 0 = [48] := by unfold Lib.itoa; rw [if_neg (by omega)]; exact Lib.decDigits_one (by decide)
    rw [e]; exact specZero w
  · have e : Lib.itoa x = Lib.decDigits x.toNat := by unfold Lib.itoa; rw [if_neg (by omega)]
    rw [e]; exact specPos x w h h1
end Dec
end Go.Proofs.YtmjmopdajlnkjaaDoor
