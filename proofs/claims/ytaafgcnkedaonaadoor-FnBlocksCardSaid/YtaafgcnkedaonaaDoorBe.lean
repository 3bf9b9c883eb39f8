/- What is proved: where a block of lines ends, as a plain function of a text's bytes, and that the model's and the program's BlockEnd answer it at every text of at most two million bytes and every int, and write into no memory. -/
import Derived.Test.YtaafgcnkedaonaaDoorChecked
import Derived.Test.YtaafgcnkedaonaaDoorBk
import Derived.WalkKit
import Derived.WalkSpells
import Derived.WalkLawsBesides
import Derived.Lib.Hide
import Derived.Lib.Strings
import Derived.Lib.IndexBytes
import Derived.Below
import Derived.KernelRfl
namespace Go.Proofs.YtaafgcnkedaonaaDoor
open Go.RowKit

def q3 : Bs := [34, 34, 34]
/-- Three quotes stand at this place. -/
def th (s : ByteArray) (i : Nat) : Bool := q3.isPrefixOf (s.data.toList.drop i)
/-- Where a block ends: how many bytes are passed over yet, the place, what stands there. -/
def be : Nat → Nat → Bs → Int
  | _, _, [] => -1
  | k + 1, i, _ :: l => be k (i + 1) l
  | 0, i, b :: l => if q3.isPrefixOf (b :: l) = true then (i : Int) + 3 else if b = 92 ∧ q3.isPrefixOf l = true then be 3 (i + 1) l else be 0 (i + 1) l
def bE (s : ByteArray) (i : Nat) : Int := be 0 i (s.data.toList.drop i)
/-- What BlockEnd answers. -/
def bend (s : ByteArray) (x : Int) : Int := if 0 ≤ x ∧ th s x.toNat = true then bE s (x.toNat + 3) else -1

theorem len_list (s : ByteArray) : s.data.toList.length = s.size := (Lib.size_eq s).symm
theorem drop_at {s : ByteArray} {i : Nat} (h : i < s.size) : s.data.toList.drop i = s[i] :: s.data.toList.drop (i + 1) := by
  rw [List.drop_eq_getElem_cons (by rw [len_list]; exact h)]; rfl
theorem drop_end {s : ByteArray} {i : Nat} (h : s.size ≤ i) : s.data.toList.drop i = [] := List.drop_eq_nil_of_le (by rw [len_list]; exact h)
theorem be_skip : ∀ (k i : Nat) (l : Bs), be k i l = be 0 (i + k) (l.drop k)
  | 0, i, l => by simp
  | k + 1, i, [] => by simp [be]
  | k + 1, i, b :: l => by rw [be, be_skip k (i + 1) l, List.drop_succ_cons, show i + 1 + k = i + (k + 1) by omega]
theorem bE_end {s : ByteArray} {i : Nat} (h : s.size ≤ i) : bE s i = -1 := by rw [bE, drop_end h]; rfl
theorem th_end {s : ByteArray} {i : Nat} (h : s.size < i + 3) : th s i = false := by
  rw [th]
  have : (s.data.toList.drop i).length < 3 := by rw [List.length_drop, len_list]; omega
  match s.data.toList.drop i, this with
  | [], _ => rfl
  | [_], _ => simp [q3, List.isPrefixOf]
  | [_, _], _ => simp [q3, List.isPrefixOf]
theorem bE_q {s : ByteArray} {i : Nat} (h : i < s.size) (hq : th s i = true) : bE s i = (i : Int) + 3 := by
  rw [th, drop_at h] at hq
  rw [bE, drop_at h, be, if_pos hq]
theorem bE_b {s : ByteArray} {i : Nat} (h : i < s.size) (hb : s[i] = 92) (hq : th s (i + 1) = true) : bE s i = bE s (i + 4) := by
  rw [th] at hq
  have hn : ¬ q3.isPrefixOf (s[i] :: s.data.toList.drop (i + 1)) = true := by rw [hb]; simp [q3, List.isPrefixOf]
  rw [bE, drop_at h, be, if_neg hn, if_pos ⟨hb, hq⟩, be_skip, List.drop_drop, bE]
theorem bE_o {s : ByteArray} {i : Nat} (h : i < s.size) (hq : ¬ th s i = true) (hb : ¬ (s[i] = 92 ∧ th s (i + 1) = true)) : bE s i = bE s (i + 1) := by
  rw [th, drop_at h] at hq
  rw [bE, drop_at h, be, if_neg hq, if_neg (by rw [th] at hb; exact hb), bE]
theorem th_not {s : ByteArray} {i : Nat} (h : i < s.size) (hb : s[i] = 92) : th s i = false := by
  rw [th, drop_at h, hb]; simp [q3, List.isPrefixOf]
theorem th_lt {s : ByteArray} {i : Nat} (hq : th s i = true) : i + 3 ≤ s.size := by
  by_cases h : s.size < i + 3
  · rw [th_end h] at hq; cases hq
  · omega
/-- A piece of a text is another text. -/
theorem piece_is {s p : ByteArray} {i : Nat} (h : i + p.size ≤ s.size) : ((s.extract i (i + p.size)).toList == p.toList) = p.data.toList.isPrefixOf (s.data.toList.drop i) := by
  rw [Lib.toList_data, Lib.toList_data, Lib.extract_data, Nat.add_sub_cancel_left]
  have := Lib.occAt_iff_take s.data.toList p.data.toList i (by rw [← Lib.size_eq, ← Lib.size_eq]; exact h)
  rw [Lib.occAt] at this
  rw [this, ← Lib.size_eq p]
theorem prefix_short {p l : Bs} (h : l.length < p.length) : p.isPrefixOf l = false := by
  cases hp : p.isPrefixOf l with
  | false => rfl
  | true => have := (List.isPrefixOf_iff_prefix.1 hp).length_le; omega

set_option maxHeartbeats 400000 in
theorem thS (s : ByteArray) (k : Nat) (w : World) (hz : s.size ≤ 2097152) (hk : k ≤ s.size + 1) :
    Calls Tryd.prog 41 #[.string s, .int .i64 (k : Int)] w fun e w' => e = .returned (.bool (th s k)) ∧ w = w' := by
  by_cases h3 : k + 3 ≤ s.size
  · have h1 : (k : Int) + 3 ≤ (s.size : Int) := by omega
    have h0 : (0 : Int) ≤ (k : Int) := by omega
    have h2 : (k : Int) ≤ (k : Int) + 3 := by omega
    go_enter Tryd.func41, Tryd.ntmps41
    go_wp2
    go_ret
    have hx := piece_is (s := s) (p := ⟨#[34, 34, 34]⟩) (i := k) h3
    rw [Lib.toList_data (ByteArray.mk #[34, 34, 34])] at hx
    exact ⟨congrArg (fun b => Ending.returned (.bool b)) hx, rfl⟩
  · have h1 : ¬ (k : Int) + 3 ≤ (s.size : Int) := by omega
    rw [th_end (by omega)]
    go_enter Tryd.func41, Tryd.ntmps41
    go_wp2
    go_ret
    exact ⟨rfl, rfl⟩

set_option maxHeartbeats 400000 in
theorem hpX (s p : ByteArray) (w : World) :
    Calls Tryd.prog 38 #[.string s, .string p] w fun e w' => e = .returned (.bool (p.data.toList.isPrefixOf s.data.toList)) ∧ w = w' := by
  by_cases h : p.size ≤ s.size
  · have h1 : (s.size : Int) ≥ (p.size : Int) := by omega
    have hx := piece_is (s := s) (p := p) (i := 0) (by omega)
    rw [Nat.zero_add, List.drop_zero] at hx
    rw [← hx]
    clear hx
    go_enter Tryd.func38, Tryd.ntmps38
    go_wp2
    go_ret
    exact ⟨rfl, rfl⟩
  · have h1 : ¬ (s.size : Int) ≥ (p.size : Int) := by omega
    rw [prefix_short (by rw [← Lib.size_eq, ← Lib.size_eq]; omega)]
    go_enter Tryd.func38, Tryd.ntmps38
    go_wp2
    go_ret
    exact ⟨rfl, rfl⟩
/-- From a place on. -/
theorem hpQ (s : ByteArray) (i : Nat) (w : World) :
    Calls Tryd.prog 38 #[.string (s.extract i s.size), .string ⟨#[34, 34, 34]⟩] w fun e w' => e = .returned (.bool (th s i)) ∧ w = w' := by
  have := hpX (s.extract i s.size) ⟨#[34, 34, 34]⟩ w
  rw [Lib.extract_to_end] at this
  exact this
theorem hpB (s : ByteArray) (i : Nat) (w : World) (h : i < s.size) :
    Calls Tryd.prog 38 #[.string (s.extract i s.size), .string ⟨#[92, 34, 34, 34]⟩] w fun e w' => e = .returned (.bool (decide (s[i] = 92 ∧ th s (i + 1) = true))) ∧ w = w' := by
  have := hpX (s.extract i s.size) ⟨#[92, 34, 34, 34]⟩ w
  rw [Lib.extract_to_end, drop_at h] at this
  have e : List.isPrefixOf (ByteArray.mk #[92, 34, 34, 34]).data.toList (s[i] :: s.data.toList.drop (i + 1)) = decide (s[i] = 92 ∧ th s (i + 1) = true) := by
    rw [show (ByteArray.mk #[92, 34, 34, 34]).data.toList = 92 :: q3 from rfl, List.isPrefixOf, ← th]
    rw [Bool.eq_iff_iff]
    simp only [Bool.and_eq_true, beq_iff_eq, decide_eq_true_eq]
    exact ⟨fun h => ⟨h.1.symm, h.2⟩, fun h => ⟨h.1.symm, h.2⟩⟩
  rw [e] at this
  exact this
theorem byte_t {b : UInt8} {c : Nat} (h : b.toNat = c) : ((b.toNat : Int) == (c : Int)) = true := by simp [h]
theorem byte_f {b : UInt8} {c : Nat} (h : ¬ b.toNat = c) : ((b.toNat : Int) == (c : Int)) = false := by
  rw [beq_eq_false_iff_ne]; omega

set_option maxHeartbeats 800000 in
set_option maxRecDepth 100000 in
theorem beS (s : ByteArray) (x : Int) (w : World) (hz : s.size ≤ 2097152) :
    Calls Tryd.prog 40 #[.string s, .int .i64 x] w fun e w' => e = .returned (.int .i64 (bend s x)) ∧ w = w' := by
  by_cases h0 : x < 0
  · rw [bend, if_neg (by omega)]
    go_enter Tryd.func40, Tryd.ntmps40
    go_wp2_with fail
    go_ret
    exact ⟨rfl, rfl⟩
  by_cases h1 : x < (s.size : Int)
  · obtain ⟨k, rfl⟩ : ∃ k : Nat, x = k := ⟨x.toNat, by omega⟩
    have hk0 : (0 : Int) ≤ (k : Int) := by omega
    have h1' : ¬ (s.size : Int) ≤ (k : Int) := by omega
    have c0 := thS s k w hz (by omega)
    rw [bend, Int.toNat_natCast]
    cases ht : th s k with
    | false =>
      rw [ht] at c0
      rw [if_neg (by rintro ⟨-, h⟩; cases h)]
      clear ht
      go_enter Tryd.func40, Tryd.ntmps40
      go_wp2_with fail
      refine c0.mono ?_
      rintro e w1 ⟨rfl, rfl⟩
      go_wp2_with fail
      go_ret
      exact ⟨rfl, rfl⟩
    | true =>
      rw [ht] at c0
      rw [if_pos ⟨hk0, rfl⟩]
      have hk3 := th_lt ht
      clear ht
      obtain ⟨R, hR⟩ : ∃ R, bE s (k + 3) = R := ⟨_, rfl⟩
      rw [hR]
      have HR0 := Lib.hid hR
      clear hR
      go_enter Tryd.func40, Tryd.ntmps40
      go_wp2_with fail
      refine c0.mono ?_
      rintro e w1 ⟨rfl, rfl⟩
      go_wp2_with fail
      go_loopw [5] (fun iv wr => ∃ (i : Nat), iv = .int .i64 (i : Int) ∧ i ≤ s.size ∧ Hid (bE s i = R) ∧ w = wr) (fun iv _ => s.size - (intOf iv).toNat)
      case atStart => exact ⟨k + 3, by go_num, by omega, HR0, rfl⟩
      case round =>
        obtain ⟨i, rfl, hi, HR, rfl⟩ := hrel
        clear HR0 c0
        by_cases hlt : i < s.size
        · have hlt' : (i : Int) < (s.size : Int) := by omega
          have hi0 : (0 : Int) ≤ (i : Int) := by omega
          have c2 := thS s i w hz (by omega)
          have c1 := thS s (i + 1) w hz (by omega)
          rw [show ((i + 1 : Nat) : Int) = (i : Int) + 1 by omega] at c1
          by_cases c92 : s[i] = 92
          · have t92 : (((s[i]).toNat : Int) == 92) = true := byte_t (c := 92) (by rw [c92]; rfl)
            cases hq : th s (i + 1) with
            | true =>
              rw [hq] at c1
              have hl := th_lt hq
              have E := Lib.hid ((bE_b hlt c92 hq).symm.trans HR.out)
              clear HR hq c92 c2
              go_wp2_with fail
              refine c1.mono ?_
              rintro e w1 ⟨rfl, rfl⟩
              go_wp2_with fail
              go_roundw
              case rel => exact ⟨i + 4, by go_num, by omega, E, by trivial⟩
              case measure => simp [intOf]; omega
            | false =>
              rw [hq] at c1
              rw [th_not hlt c92] at c2
              have E := Lib.hid ((bE_o hlt (by rw [th_not hlt c92]; simp) (by rw [hq]; simp)).symm.trans HR.out)
              clear HR hq c92
              go_wp2_with fail
              refine c1.mono ?_
              rintro e w1 ⟨rfl, rfl⟩
              go_wp2_with fail
              refine c2.mono ?_
              rintro e w1 ⟨rfl, rfl⟩
              go_wp2_with fail
              go_roundw
              case rel => exact ⟨i + 1, by go_num, by omega, E, by trivial⟩
              case measure => simp [intOf]; omega
          have t92 : (((s[i]).toNat : Int) == 92) = false := byte_f (c := 92) (fun h => c92 (UInt8.toNat_inj.1 h))
          cases hq : th s i with
          | true =>
            rw [hq] at c2
            have E := Lib.hid ((bE_q hlt hq).symm.trans HR.out)
            clear HR hq c92 c1
            go_wp2_with fail
            refine c2.mono ?_
            rintro e w1 ⟨rfl, rfl⟩
            go_wp2_with fail
            go_ret
            exact ⟨by rw [← E.out]; rfl, rfl⟩
          | false =>
            rw [hq] at c2
            have E := Lib.hid ((bE_o hlt (by rw [hq]; simp) (fun h => c92 h.1)).symm.trans HR.out)
            clear HR hq c92 c1
            go_wp2_with fail
            refine c2.mono ?_
            rintro e w1 ⟨rfl, rfl⟩
            go_wp2_with fail
            go_roundw
            case rel => exact ⟨i + 1, by go_num, by omega, E, by trivial⟩
            case measure => simp [intOf]; omega
        · have hlt' : ¬ (i : Int) < (s.size : Int) := by omega
          have E := Lib.hid ((bE_end (by omega)).symm.trans HR.out)
          clear HR
          go_wp2_with fail
          go_ret
          exact ⟨by rw [← E.out]; rfl, rfl⟩
  · have h1' : (s.size : Int) ≤ x := by omega
    rw [bend, if_neg (by rintro ⟨-, h⟩; have := th_lt h; omega)]
    go_enter Tryd.func40, Tryd.ntmps40
    go_wp2_with fail
    go_ret
    exact ⟨rfl, rfl⟩

set_option maxHeartbeats 800000 in
set_option maxRecDepth 100000 in
theorem beI (s : ByteArray) (x : Int) (w : World) (hz : s.size ≤ 2097152) :
    Calls Tryd.prog 19 #[.string s, .int .i64 x] w fun e w' => e = .returned (.int .i64 (bend s x)) ∧ w = w' := by
  by_cases h0 : x < 0
  · rw [bend, if_neg (by omega)]
    go_enter Tryd.func19, Tryd.ntmps19
    go_wp2_with fail
    go_ret
    exact ⟨rfl, rfl⟩
  by_cases h1 : x ≤ (s.size : Int)
  · obtain ⟨k, rfl⟩ : ∃ k : Nat, x = k := ⟨x.toNat, by omega⟩
    have hk0 : (0 : Int) ≤ (k : Int) := by omega
    have h1' : ¬ (s.size : Int) < (k : Int) := by omega
    have c0 := hpQ s k w
    rw [bend, Int.toNat_natCast]
    cases ht : th s k with
    | false =>
      rw [ht] at c0
      rw [if_neg (by rintro ⟨-, h⟩; cases h)]
      clear ht
      go_enter Tryd.func19, Tryd.ntmps19
      go_wp2_with fail
      refine c0.mono ?_
      rintro e w1 ⟨rfl, rfl⟩
      go_wp2_with fail
      go_ret
      exact ⟨rfl, rfl⟩
    | true =>
      rw [ht] at c0
      rw [if_pos ⟨hk0, rfl⟩]
      have hk3 := th_lt ht
      clear ht
      obtain ⟨R, hR⟩ : ∃ R, bE s (k + 3) = R := ⟨_, rfl⟩
      rw [hR]
      have HR0 := Lib.hid hR
      clear hR
      go_enter Tryd.func19, Tryd.ntmps19
      go_wp2_with fail
      refine c0.mono ?_
      rintro e w1 ⟨rfl, rfl⟩
      go_wp2_with fail
      go_loopw [5] (fun iv wr => ∃ (i : Nat), iv = .int .i64 (i : Int) ∧ i ≤ s.size ∧ Hid (bE s i = R) ∧ w = wr) (fun iv _ => s.size - (intOf iv).toNat)
      case atStart => exact ⟨k + 3, by go_num, by omega, HR0, rfl⟩
      case round =>
        obtain ⟨i, rfl, hi, HR, rfl⟩ := hrel
        clear HR0 c0
        by_cases hlt : i < s.size
        · have hlt' : (i : Int) < (s.size : Int) := by omega
          have hi0 : (0 : Int) ≤ (i : Int) := by omega
          have hi1 : (i : Int) ≤ (s.size : Int) := by omega
          have c2 := hpQ s i w
          have c1 := hpB s i w hlt
          cases hq : th s i with
          | true =>
            rw [hq] at c2
            have E := Lib.hid ((bE_q hlt hq).symm.trans HR.out)
            clear HR hq c1
            go_wp2_with fail
            refine c2.mono ?_
            rintro e w1 ⟨rfl, rfl⟩
            go_wp2_with fail
            go_ret
            exact ⟨by rw [← E.out]; rfl, rfl⟩
          | false =>
            rw [hq] at c2
            by_cases c92 : s[i] = 92 ∧ th s (i + 1) = true
            · rw [decide_eq_true c92] at c1
              have hl := th_lt c92.2
              have E := Lib.hid ((bE_b hlt c92.1 c92.2).symm.trans HR.out)
              clear HR hq c92
              go_wp2_with fail
              refine c2.mono ?_
              rintro e w1 ⟨rfl, rfl⟩
              go_wp2_with fail
              refine c1.mono ?_
              rintro e w1 ⟨rfl, rfl⟩
              go_wp2_with fail
              go_roundw
              case rel => exact ⟨i + 4, by go_num, by omega, E, by trivial⟩
              case measure => simp [intOf]; omega
            · rw [decide_eq_false c92] at c1
              have E := Lib.hid ((bE_o hlt (by rw [hq]; simp) c92).symm.trans HR.out)
              clear HR hq c92
              go_wp2_with fail
              refine c2.mono ?_
              rintro e w1 ⟨rfl, rfl⟩
              go_wp2_with fail
              refine c1.mono ?_
              rintro e w1 ⟨rfl, rfl⟩
              go_wp2_with fail
              go_roundw
              case rel => exact ⟨i + 1, by go_num, by omega, E, by trivial⟩
              case measure => simp [intOf]; omega
        · have hlt' : ¬ (i : Int) < (s.size : Int) := by omega
          have E := Lib.hid ((bE_end (by omega)).symm.trans HR.out)
          clear HR
          go_wp2_with fail
          go_ret
          exact ⟨by rw [← E.out]; rfl, rfl⟩
  · have h1' : (s.size : Int) < x := by omega
    rw [bend, if_neg (by rintro ⟨-, h⟩; have := th_lt h; omega)]
    go_enter Tryd.func19, Tryd.ntmps19
    go_wp2_with fail
    go_ret
    exact ⟨rfl, rfl⟩
end Go.Proofs.YtaafgcnkedaonaaDoor
