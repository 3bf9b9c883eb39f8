/- What is proved: where a text in quotes ends, as a plain function of a text's bytes, and that the model's and the program's StringEnd answer it at every text of at most two million bytes and every int, and write into no memory. Used by the proofs of FnExactStringEnd and FnStrings. -/
import Derived.Test.YtnbommhcojcjbaaChecked
import Derived.Test.YtnbommhcojcjbaaU
import Derived.WalkKit
import Derived.WalkSpells
import Derived.WalkLawsBesides
import Derived.Lib.Hide
import Derived.Below
import Derived.KernelRfl
namespace Go.Proofs.Ytnbommhcojcjbaa
open Go.RowKit

/-- Where a text in quotes ends, from a place within it on; whether the sign at this place is taken away. -/
def seF (s : ByteArray) : Nat → Nat → Bool → Int
  | 0, _, _ => -1
  | f + 1, i, tk => if bt s i = 10 ∨ bt s i = 13 then -1 else if bt s i = 34 ∧ tk = false then (i : Int) + 1 else seF s f (i + 1) (decide (bt s i = 92) && !tk)
def sE (s : ByteArray) (i : Nat) (tk : Bool) : Int := seF s (s.size - i) i tk
theorem sE_end {s : ByteArray} {i : Nat} {tk : Bool} (h : s.size ≤ i) : sE s i tk = -1 := by
  unfold sE; rw [Nat.sub_eq_zero_of_le h]; rfl
theorem sE_step {s : ByteArray} {i : Nat} {tk : Bool} (h : i < s.size) :
    sE s i tk = if bt s i = 10 ∨ bt s i = 13 then -1 else if bt s i = 34 ∧ tk = false then (i : Int) + 1 else sE s (i + 1) (decide (bt s i = 92) && !tk) := by
  unfold sE
  obtain ⟨f, hf⟩ : ∃ f, s.size - i = f + 1 := ⟨s.size - i - 1, by omega⟩
  rw [hf, show s.size - (i + 1) = f from by omega]
  rfl
theorem sE_nl {s : ByteArray} {i : Nat} {tk : Bool} (h : i < s.size) (hb : bt s i = 10 ∨ bt s i = 13) : sE s i tk = -1 := by rw [sE_step h, if_pos hb]
theorem sE_q {s : ByteArray} {i : Nat} (h : i < s.size) (hb : bt s i = 34) : sE s i false = (i : Int) + 1 := by
  rw [sE_step h, if_neg (by omega), if_pos ⟨hb, rfl⟩]
theorem sE_qt {s : ByteArray} {i : Nat} (h : i < s.size) (hb : ¬ (bt s i = 10 ∨ bt s i = 13)) : sE s i true = sE s (i + 1) false := by
  rw [sE_step h, if_neg hb, if_neg (by simp)]; simp
theorem sE_b {s : ByteArray} {i : Nat} (h : i < s.size) (hb : bt s i = 92) : sE s i false = sE s (i + 1) true := by
  rw [sE_step h, if_neg (by omega), if_neg (by omega)]; simp [hb]
theorem sE_o {s : ByteArray} {i : Nat} (h : i < s.size) (hb : ¬ (bt s i = 10 ∨ bt s i = 13)) (h1 : ¬ bt s i = 34) (h2 : ¬ bt s i = 92) : sE s i false = sE s (i + 1) false := by
  rw [sE_step h, if_neg hb, if_neg (by omega)]; simp [h2]
/-- What StringEnd answers. -/
def se (s : ByteArray) (x : Int) : Int := if 0 ≤ x ∧ x < (s.size : Int) ∧ bt s x.toNat = 34 then sE s (x.toNat + 1) false else -1

theorem beqt {b : Nat} {c : Int} (h : (b : Int) = c) : ((b : Int) == c) = true := by simp [h]
theorem beqf {b : Nat} {c : Int} (h : ¬ (b : Int) = c) : ((b : Int) == c) = false := by simp [h]
theorem bnet {b : Nat} {c : Int} (h : ¬ (b : Int) = c) : ((b : Int) != c) = true := by simp [h]
theorem bnef {b : Nat} {c : Int} (h : (b : Int) = c) : ((b : Int) != c) = false := by simp [h]

set_option maxHeartbeats 800000 in
set_option maxRecDepth 100000 in
theorem seI (s : ByteArray) (x : Int) (w : World) (hz : s.size ≤ 2097152) :
    Calls Try.prog 5 #[.string s, .int .i64 x] w fun e w' => e = .returned (.int .i64 (se s x)) ∧ w = w' := by
  by_cases h0 : x < 0
  · rw [se, if_neg (by omega)]
    go_enter Try.func5, Try.ntmps5
    go_wp2
    go_ret
    exact ⟨rfl, rfl⟩
  by_cases h1 : x < (s.size : Int)
  · obtain ⟨k, rfl⟩ : ∃ k : Nat, x = k := ⟨x.toNat, by omega⟩
    have hk : k < s.size := by omega
    have hk0 : (0 : Int) ≤ (k : Int) := by omega
    have eb := bt_eq s k hk
    by_cases hq : bt s k = 34
    · have hse : se s (k : Int) = sE s (k + 1) false := by rw [se, if_pos ⟨by omega, h1, by rw [Int.toNat_natCast]; exact hq⟩, Int.toNat_natCast]
      rw [hse]
      clear hse
      have hq' : (((s[k]).toNat : Int) != 34) = false := bnef (by omega)
      obtain ⟨R, hR⟩ : ∃ R, sE s (k + 1) false = R := ⟨_, rfl⟩
      rw [hR]
      have HR0 := Lib.hid hR
      clear hR eb hq
      go_enter Try.func5, Try.ntmps5
      go_wp2
      go_loopw [5, 6] (fun tv iv wr => ∃ (tk : Bool) (i : Nat), tv = .bool tk ∧ iv = .int .i64 (i : Int) ∧ i ≤ s.size ∧ Hid (sE s i tk = R) ∧ w = wr) (fun _ iv _ => s.size - (intOf iv).toNat)
      case atStart => exact ⟨false, k + 1, rfl, by go_num, by omega, HR0, rfl⟩
      case round =>
        obtain ⟨tk, i, rfl, rfl, hi, HR, rfl⟩ := hrel
        clear hq' HR0
        by_cases hlt : i < s.size
        · have hlt' : (i : Int) < (s.size : Int) := by omega
          have hi0 : (0 : Int) ≤ (i : Int) := by omega
          have eb := bt_eq s i hlt
          by_cases c10 : bt s i = 10
          · have t10 : (((s[i]).toNat : Int) == 10) = true := beqt (by omega)
            have E := Lib.hid ((sE_nl hlt (Or.inl c10)).symm.trans HR.out)
            clear HR eb c10
            go_wp2
            go_ret
            exact ⟨by rw [← E.out]; rfl, rfl⟩
          have t10 : (((s[i]).toNat : Int) == 10) = false := beqf (by omega)
          by_cases c13 : bt s i = 13
          · have t13 : (((s[i]).toNat : Int) == 13) = true := beqt (by omega)
            have E := Lib.hid ((sE_nl hlt (Or.inr c13)).symm.trans HR.out)
            clear HR eb c10 c13
            go_wp2
            go_ret
            exact ⟨by rw [← E.out]; rfl, rfl⟩
          have t13 : (((s[i]).toNat : Int) == 13) = false := beqf (by omega)
          by_cases c34 : bt s i = 34
          · have t34 : (((s[i]).toNat : Int) == 34) = true := beqt (by omega)
            have t92 : (((s[i]).toNat : Int) == 92) = false := beqf (by omega)
            cases tk with
            | false =>
              have E := Lib.hid ((sE_q hlt c34).symm.trans HR.out)
              clear HR eb c10 c13 c34
              go_wp2
              go_ret
              exact ⟨by rw [← E.out]; rfl, rfl⟩
            | true =>
              have E := Lib.hid ((sE_qt hlt (by omega)).symm.trans HR.out)
              clear HR eb c10 c13 c34
              go_wp2
              go_roundw
              case rel => exact ⟨false, i + 1, rfl, by go_num, by omega, E, by trivial⟩
              case measure => simp [intOf]; omega
          have t34 : (((s[i]).toNat : Int) == 34) = false := beqf (by omega)
          by_cases c92 : bt s i = 92
          · have t92 : (((s[i]).toNat : Int) == 92) = true := beqt (by omega)
            cases tk with
            | false =>
              have E := Lib.hid ((sE_b hlt c92).symm.trans HR.out)
              clear HR eb c10 c13 c34 c92
              go_wp2
              go_roundw
              case rel => exact ⟨true, i + 1, rfl, by go_num, by omega, E, by trivial⟩
              case measure => simp [intOf]; omega
            | true =>
              have E := Lib.hid ((sE_qt hlt (by omega)).symm.trans HR.out)
              clear HR eb c10 c13 c34 c92
              go_wp2
              go_roundw
              case rel => exact ⟨false, i + 1, rfl, by go_num, by omega, E, by trivial⟩
              case measure => simp [intOf]; omega
          have t92 : (((s[i]).toNat : Int) == 92) = false := beqf (by omega)
          cases tk with
          | false =>
            have E := Lib.hid ((sE_o hlt (by omega) c34 c92).symm.trans HR.out)
            clear HR eb c10 c13 c34 c92
            go_wp2
            go_roundw
            case rel => exact ⟨false, i + 1, rfl, by go_num, by omega, E, by trivial⟩
            case measure => simp [intOf]; omega
          | true =>
            have E := Lib.hid ((sE_qt hlt (by omega)).symm.trans HR.out)
            clear HR eb c10 c13 c34 c92
            go_wp2
            go_roundw
            case rel => exact ⟨false, i + 1, rfl, by go_num, by omega, E, by trivial⟩
            case measure => simp [intOf]; omega
        · have hlt' : ¬ (i : Int) < (s.size : Int) := by omega
          have E := Lib.hid ((sE_end (by omega)).symm.trans HR.out)
          clear HR
          go_wp2
          go_ret
          exact ⟨by rw [← E.out]; rfl, rfl⟩
    · have hse : se s (k : Int) = -1 := by rw [se, if_neg (by rw [Int.toNat_natCast]; exact fun h => hq h.2.2)]
      rw [hse]
      have hq' : (((s[k]).toNat : Int) != 34) = true := bnet (by omega)
      clear hse eb hq
      go_enter Try.func5, Try.ntmps5
      go_wp2
      go_ret
      exact ⟨rfl, rfl⟩
  · rw [se, if_neg (by omega)]
    go_enter Try.func5, Try.ntmps5
    go_wp2
    go_ret
    exact ⟨rfl, rfl⟩

set_option maxHeartbeats 800000 in
set_option maxRecDepth 100000 in
theorem seS (s : ByteArray) (x : Int) (w : World) (hz : s.size ≤ 2097152) :
    Calls Try.prog 4 #[.string s, .int .i64 x] w fun e w' => e = .returned (.int .i64 (se s x)) ∧ w = w' := by
  by_cases h0 : x < 0
  · rw [se, if_neg (by omega)]
    go_enter Try.func4, Try.ntmps4
    go_wp2
    go_ret
    exact ⟨rfl, rfl⟩
  by_cases h1 : x < (s.size : Int)
  · obtain ⟨k, rfl⟩ : ∃ k : Nat, x = k := ⟨x.toNat, by omega⟩
    have hk : k < s.size := by omega
    have hk0 : (0 : Int) ≤ (k : Int) := by omega
    have eb := bt_eq s k hk
    by_cases hq : bt s k = 34
    · have hse : se s (k : Int) = sE s (k + 1) false := by rw [se, if_pos ⟨by omega, h1, by rw [Int.toNat_natCast]; exact hq⟩, Int.toNat_natCast]
      rw [hse]
      clear hse
      have hq' : (((s[k]).toNat : Int) != 34) = false := bnef (by omega)
      obtain ⟨R, hR⟩ : ∃ R, sE s (k + 1) false = R := ⟨_, rfl⟩
      rw [hR]
      have HR0 := Lib.hid hR
      clear hR eb hq
      go_enter Try.func4, Try.ntmps4
      go_wp2
      go_loopw [5] (fun iv wr => ∃ (i : Nat), iv = .int .i64 (i : Int) ∧ i ≤ s.size + 1 ∧ Hid (sE s i false = R) ∧ w = wr) (fun iv _ => s.size + 1 - (intOf iv).toNat)
      case atStart => exact ⟨k + 1, by go_num, by omega, HR0, rfl⟩
      case round =>
        obtain ⟨i, rfl, hi, HR, rfl⟩ := hrel
        clear hq' HR0
        by_cases hlt : i < s.size
        · have hlt' : (i : Int) < (s.size : Int) := by omega
          have hi0 : (0 : Int) ≤ (i : Int) := by omega
          have eb := bt_eq s i hlt
          by_cases c34 : bt s i = 34
          · have t34 : (((s[i]).toNat : Int) == 34) = true := beqt (by omega)
            have E := Lib.hid ((sE_q hlt c34).symm.trans HR.out)
            clear HR eb c34
            go_wp2
            go_ret
            exact ⟨by rw [← E.out]; rfl, rfl⟩
          have t34 : (((s[i]).toNat : Int) == 34) = false := beqf (by omega)
          by_cases c10 : bt s i = 10
          · have t10 : (((s[i]).toNat : Int) == 10) = true := beqt (by omega)
            have E := Lib.hid ((sE_nl hlt (Or.inl c10)).symm.trans HR.out)
            clear HR eb c10 c34
            go_wp2
            go_ret
            exact ⟨by rw [← E.out]; rfl, rfl⟩
          have t10 : (((s[i]).toNat : Int) == 10) = false := beqf (by omega)
          by_cases c13 : bt s i = 13
          · have t13 : (((s[i]).toNat : Int) == 13) = true := beqt (by omega)
            have E := Lib.hid ((sE_nl hlt (Or.inr c13)).symm.trans HR.out)
            clear HR eb c10 c13 c34
            go_wp2
            go_ret
            exact ⟨by rw [← E.out]; rfl, rfl⟩
          have t13 : (((s[i]).toNat : Int) == 13) = false := beqf (by omega)
          by_cases c92 : bt s i = 92
          · have t92 : (((s[i]).toNat : Int) == 92) = true := beqt (by omega)
            have E := Lib.hid ((sE_b hlt c92).symm.trans HR.out)
            clear HR eb c10 c13 c34 c92
            by_cases hl2 : i + 1 < s.size
            · have hl2' : (i : Int) + 1 < (s.size : Int) := by omega
              have hi2 : (0 : Int) ≤ (i : Int) + 1 := by omega
              have eb2 := bt_eq s (i + 1) hl2
              by_cases d10 : bt s (i + 1) = 10
              · have u10 : (((s[i + 1]).toNat : Int) == 10) = true := beqt (by omega)
                have E2 := Lib.hid ((sE_nl hl2 (Or.inl d10)).symm.trans E.out)
                clear E eb2 d10
                go_wp2
                go_ret
                exact ⟨by rw [← E2.out]; rfl, rfl⟩
              have u10 : (((s[i + 1]).toNat : Int) == 10) = false := beqf (by omega)
              by_cases d13 : bt s (i + 1) = 13
              · have u13 : (((s[i + 1]).toNat : Int) == 13) = true := beqt (by omega)
                have E2 := Lib.hid ((sE_nl hl2 (Or.inr d13)).symm.trans E.out)
                clear E eb2 d10 d13
                go_wp2
                go_ret
                exact ⟨by rw [← E2.out]; rfl, rfl⟩
              have u13 : (((s[i + 1]).toNat : Int) == 13) = false := beqf (by omega)
              have E2 := Lib.hid ((sE_qt hl2 (by omega)).symm.trans E.out)
              clear E eb2 d10 d13
              go_wp2
              go_roundw
              case rel => exact ⟨i + 1 + 1, by go_num, by omega, E2, by trivial⟩
              case measure => simp [intOf]; omega
            · have hl2' : ¬ (i : Int) + 1 < (s.size : Int) := by omega
              have E2 : Hid (sE s (i + 1 + 1) false = R) := Lib.hid ((sE_end (by omega)).trans ((sE_end (by omega)).symm.trans E.out))
              clear E
              go_wp2
              go_roundw
              case rel => exact ⟨i + 1 + 1, by go_num, by omega, E2, by trivial⟩
              case measure => simp [intOf]; omega
          have t92 : (((s[i]).toNat : Int) == 92) = false := beqf (by omega)
          have E := Lib.hid ((sE_o hlt (by omega) c34 c92).symm.trans HR.out)
          clear HR eb c10 c13 c34 c92
          go_wp2
          go_roundw
          case rel => exact ⟨i + 1, by go_num, by omega, E, by trivial⟩
          case measure => simp [intOf]; omega
        · have hlt' : ¬ (i : Int) < (s.size : Int) := by omega
          have E := Lib.hid ((sE_end (by omega)).symm.trans HR.out)
          clear HR
          go_wp2
          go_ret
          exact ⟨by rw [← E.out]; rfl, rfl⟩
    · have hse : se s (k : Int) = -1 := by rw [se, if_neg (by rw [Int.toNat_natCast]; exact fun h => hq h.2.2)]
      rw [hse]
      have hq' : (((s[k]).toNat : Int) != 34) = true := bnet (by omega)
      clear hse eb hq
      go_enter Try.func4, Try.ntmps4
      go_wp2
      go_ret
      exact ⟨rfl, rfl⟩
  · rw [se, if_neg (by omega)]
    go_enter Try.func4, Try.ntmps4
    go_wp2
    go_ret
    exact ⟨rfl, rfl⟩
end Go.Proofs.Ytnbommhcojcjbaa
