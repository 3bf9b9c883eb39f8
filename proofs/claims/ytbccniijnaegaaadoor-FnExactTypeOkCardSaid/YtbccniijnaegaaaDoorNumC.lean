/- What is proved: what NameOk of the model and of the program answers at every text: the same plain function; nothing is written. Used by the proofs of FnExactNameOkSaid and FnNumbersCardSaid. -/
import Derived.Test.YtbccniijnaegaaaDoorNumB
namespace Go.Proofs.YtbccniijnaegaaaDoor
open Go.RowKit

def lt (x : Int) : Bool := (decide (97 ≤ x) && decide (x ≤ 122)) || (decide (65 ≤ x) && decide (x ≤ 90)) || decide (x = 95)
theorem nS_lt (x : Int) : nS x = (lt x || isF x) := rfl
theorem nOk_no {s : ByteArray} (h : ¬ (0 < s.size ∧ s.size ≤ 30 ∧ isF (bt s 0) = false)) : nOk s = false := by
  unfold nOk; exact decide_eq_false (fun x => h ⟨x.1, x.2.1, x.2.2.1⟩)
theorem nOk_sign {s : ByteArray} (k : Nat) (hk : k < s.size) (h : nS (bt s k) = false) : nOk s = false := by
  unfold nOk; exact decide_eq_false (fun x => by rw [x.2.2.2 k hk] at h; cases h)
theorem nOk_yes {s : ByteArray} (h0 : 0 < s.size) (h1 : s.size ≤ 30) (h2 : isF (bt s 0) = false) (h : ∀ k, k < s.size → nS (bt s k) = true) : nOk s = true := by
  unfold nOk; exact decide_eq_true ⟨h0, h1, h2, h⟩

theorem letS (x : Int) (w : World) : Calls Tryd.prog 17 #[.int .u8 x] w fun e w' => e = .returned (.bool (lt x)) ∧ w = w' := by
  by_cases a1 : 97 ≤ x
  · by_cases a2 : x ≤ 122
    · have HR : Hid (lt x = true) := by show _ = _; simp [lt, a1, a2]
      go_enter Tryd.func17, Tryd.ntmps17
      go_wp2
      go_ret
      exact ⟨ret_b HR.out.symm, rfl⟩
    · have a3 : 65 ≤ x := by omega
      have a4 : ¬ x ≤ 90 := by omega
      have a6 : ¬ x = 95 := by omega
      have a5 : (x == 95) = false := by simpa using a6
      have HR : Hid (lt x = false) := by show _ = _; simp [lt, a2, a4, a6]
      go_enter Tryd.func17, Tryd.ntmps17
      go_wp2
      go_ret
      exact ⟨ret_b HR.out.symm, rfl⟩
  · by_cases a3 : 65 ≤ x
    · by_cases a4 : x ≤ 90
      · have HR : Hid (lt x = true) := by show _ = _; simp [lt, a3, a4]
        go_enter Tryd.func17, Tryd.ntmps17
        go_wp2
        go_ret
        exact ⟨ret_b HR.out.symm, rfl⟩
      · by_cases a6 : x = 95
        · subst a6
          go_enter Tryd.func17, Tryd.ntmps17
          go_wp2
          go_ret
          exact ⟨rfl, rfl⟩
        · have a5 : (x == 95) = false := by simpa using a6
          have HR : Hid (lt x = false) := by show _ = _; simp [lt, a1, a4, a6]
          go_enter Tryd.func17, Tryd.ntmps17
          go_wp2
          go_ret
          exact ⟨ret_b HR.out.symm, rfl⟩
    · have a6 : ¬ x = 95 := by omega
      have a5 : (x == 95) = false := by simpa using a6
      have HR : Hid (lt x = false) := by show _ = _; simp [lt, a1, a3, a6]
      go_enter Tryd.func17, Tryd.ntmps17
      go_wp2
      go_ret
      exact ⟨ret_b HR.out.symm, rfl⟩

set_option maxHeartbeats 800000 in
theorem nsI (x : Int) (w : World) : Calls Tryd.prog 19 #[.int .u8 x] w fun e w' => e = .returned (.bool (nS x)) ∧ w = w' := by
  by_cases a1 : 97 ≤ x
  · by_cases a2 : x ≤ 122
    · have HR : Hid (nS x = true) := by show _ = _; simp [nS, a1, a2]
      go_enter Tryd.func19, Tryd.ntmps19
      go_wp2
      go_ret
      exact ⟨ret_b HR.out.symm, rfl⟩
    · have a3 : 65 ≤ x := by omega
      have a4 : ¬ x ≤ 90 := by omega
      have a6 : ¬ x = 95 := by omega
      have a5 : (x == 95) = false := by simpa using a6
      have HR : Hid (nS x = isF x) := by show _ = _; simp [nS, a2, a4, a6]
      go_enter Tryd.func19, Tryd.ntmps19
      go_wp2_with (go_at_call 18; refine (figI _ _).mono ?_; rintro e w1 ⟨rfl, rfl⟩)
      go_ret
      exact ⟨ret_b HR.out.symm, rfl⟩
  · by_cases a3 : 65 ≤ x
    · by_cases a4 : x ≤ 90
      · have HR : Hid (nS x = true) := by show _ = _; simp [nS, a3, a4]
        go_enter Tryd.func19, Tryd.ntmps19
        go_wp2
        go_ret
        exact ⟨ret_b HR.out.symm, rfl⟩
      · by_cases a6 : x = 95
        · subst a6
          go_enter Tryd.func19, Tryd.ntmps19
          go_wp2
          go_ret
          exact ⟨rfl, rfl⟩
        · have a5 : (x == 95) = false := by simpa using a6
          have HR : Hid (nS x = isF x) := by show _ = _; simp [nS, a1, a4, a6]
          go_enter Tryd.func19, Tryd.ntmps19
          go_wp2_with (go_at_call 18; refine (figI _ _).mono ?_; rintro e w1 ⟨rfl, rfl⟩)
          go_ret
          exact ⟨ret_b HR.out.symm, rfl⟩
    · have a6 : ¬ x = 95 := by omega
      have a5 : (x == 95) = false := by simpa using a6
      have HR : Hid (nS x = isF x) := by show _ = _; simp [nS, a1, a3, a6]
      go_enter Tryd.func19, Tryd.ntmps19
      go_wp2_with (go_at_call 18; refine (figI _ _).mono ?_; rintro e w1 ⟨rfl, rfl⟩)
      go_ret
      exact ⟨ret_b HR.out.symm, rfl⟩

theorem empty_no {s : ByteArray} (h : 0 < s.size) : s.toList.isEmpty = false := by
  rw [ByteArray.toList_eq]
  cases hl : s.data.toList with
  | nil =>
    have h2 : s.data.toList.length = s.size := by rw [Array.length_toList]; rfl
    rw [hl] at h2
    simp at h2
    omega
  | cons _ _ => rfl

set_option maxHeartbeats 1600000 in
theorem nameI (s : ByteArray) (w : World) (hs : s.size ≤ 1048576) :
    Calls Tryd.prog 12 #[.string s] w fun e w' => e = .returned (.bool (nOk s)) ∧ w = w' := by
  by_cases h0 : s.size = 0
  · have HR := Lib.hid (nOk_no (s := s) (fun x => by omega))
    obtain rfl : s = ⟨#[]⟩ := by
      apply ByteArray.ext
      exact Array.eq_empty_of_size_eq_zero h0
    clear h0
    go_enter Tryd.func12, Tryd.ntmps12
    go_wp2
    go_ret
    exact ⟨ret_b HR.out.symm, rfl⟩
  · have hpos : 0 < s.size := by omega
    have he := empty_no hpos
    by_cases h1 : 30 < (s.size : Int)
    · have HR := Lib.hid (nOk_no (s := s) (fun x => by omega))
      go_enter Tryd.func12, Tryd.ntmps12
      go_wp2
      go_ret
      exact ⟨ret_b HR.out.symm, rfl⟩
    · have hp : (0 : Int) < (s.size : Int) := by omega
      have hb := bt_at s 0 hpos
      cases hf : isF (s[0].toNat : Int) with
      | true =>
        have HR := Lib.hid (nOk_no (s := s) (fun x => by rw [hb, hf] at x; cases x.2.2))
        clear hb
        go_enter Tryd.func12, Tryd.ntmps12
        go_wp2_with (go_at_call 18; refine (figI _ _).mono ?_; rintro e w1 ⟨rfl, rfl⟩; rw [hf])
        go_ret
        exact ⟨ret_b HR.out.symm, rfl⟩
      | false =>
        have HF : Hid (isF (bt s 0) = false) := by show _ = _; rw [hb]; exact hf
        clear hb
        go_enter Tryd.func12, Tryd.ntmps12
        go_wp2_with (go_at_call 18; refine (figI _ _).mono ?_; rintro e w1 ⟨rfl, rfl⟩; rw [hf])
        clear hf
        go_loop [18] (fun i => ∃ k : Nat, k ≤ s.size ∧ i = .int .i64 (k : Int) ∧ Hid (∀ j, j < k → nS (bt s j) = true)) (fun i => s.size - (intOf i).toNat)
        case atStart => exact ⟨0, Nat.zero_le _, rfl, fun j hj => by omega⟩
        case round =>
          obtain ⟨k, hk, rfl, HR⟩ := hrel
          by_cases hlt : k < s.size
          · have hi0 : (0 : Int) ≤ (k : Int) := by omega
            have hi1 : (k : Int) < (s.size : Int) := by omega
            have hb := bt_at s k hlt
            cases hn : nS (s[k].toNat : Int) with
            | true =>
              have HN : Hid (∀ j, j < k + 1 → nS (bt s j) = true) := fun j hj => by
                by_cases hjk : j = k
                · rw [hjk, hb]; exact hn
                · exact HR.out j (by omega)
              clear hb
              go_wp2_with (go_at_call 19; refine (nsI _ _).mono ?_; rintro e w1 ⟨rfl, rfl⟩; rw [hn])
              go_round
              case rel => exact ⟨k + 1, by omega, by go_num, HN⟩
              case measure => simp [intOf]; omega
            | false =>
              have HN := Lib.hid (nOk_sign (s := s) k hlt (by rw [hb]; exact hn))
              clear hb
              go_wp2_with (go_at_call 19; refine (nsI _ _).mono ?_; rintro e w1 ⟨rfl, rfl⟩; rw [hn])
              go_ret
              exact ⟨ret_b HN.out.symm, rfl⟩
          · have hi1 : ¬ (k : Int) < (s.size : Int) := by omega
            have HN := Lib.hid (nOk_yes hpos (by omega) HF.out (fun j hj => HR.out j (by omega)))
            go_wp2
            go_ret
            exact ⟨ret_b HN.out.symm, rfl⟩

set_option maxHeartbeats 1600000 in
theorem nameS (s : ByteArray) (w : World) (hs : s.size ≤ 1048576) :
    Calls Tryd.prog 11 #[.string s] w fun e w' => e = .returned (.bool (nOk s)) ∧ w = w' := by
  by_cases h0 : (s.size : Int) = 0
  · have HR := Lib.hid (nOk_no (s := s) (fun x => by omega))
    have h2 : ((s.size : Int) == 0) = true := by simpa using h0
    clear h0
    go_enter Tryd.func11, Tryd.ntmps11
    go_wp2
    go_ret
    exact ⟨ret_b HR.out.symm, rfl⟩
  · have hpos : 0 < s.size := by omega
    have h2 : ((s.size : Int) == 0) = false := by
      cases hc : ((s.size : Int) == 0) with
      | false => rfl
      | true => exact absurd (by simpa using hc) h0
    clear h0
    by_cases h1 : 30 < (s.size : Int)
    · have HR := Lib.hid (nOk_no (s := s) (fun x => by omega))
      go_enter Tryd.func11, Tryd.ntmps11
      go_wp2
      go_ret
      exact ⟨ret_b HR.out.symm, rfl⟩
    · have hp : (0 : Int) < (s.size : Int) := by omega
      have hb := bt_at s 0 hpos
      cases hf : isF (s[0].toNat : Int) with
      | true =>
        have HR := Lib.hid (nOk_no (s := s) (fun x => by rw [hb, hf] at x; cases x.2.2))
        clear hb
        go_enter Tryd.func11, Tryd.ntmps11
        go_wp2_with (go_at_call 16; refine (figS _ _).mono ?_; rintro e w1 ⟨rfl, rfl⟩; rw [hf])
        go_ret
        exact ⟨ret_b HR.out.symm, rfl⟩
      | false =>
        have HF : Hid (isF (bt s 0) = false) := by show _ = _; rw [hb]; exact hf
        clear hb
        go_enter Tryd.func11, Tryd.ntmps11
        go_wp2_with (go_at_call 16; refine (figS _ _).mono ?_; rintro e w1 ⟨rfl, rfl⟩; rw [hf])
        clear hf
        go_loop [3] (fun i => ∃ k : Nat, k ≤ s.size ∧ i = .int .i64 (k : Int) ∧ Hid (∀ j, j < k → nS (bt s j) = true)) (fun i => s.size - (intOf i).toNat)
        case atStart => exact ⟨0, Nat.zero_le _, rfl, fun j hj => by omega⟩
        case round =>
          obtain ⟨k, hk, rfl, HR⟩ := hrel
          by_cases hlt : k < s.size
          · have hi0 : (0 : Int) ≤ (k : Int) := by omega
            have hi1 : (k : Int) < (s.size : Int) := by omega
            have hb := bt_at s k hlt
            cases hn : nS (s[k].toNat : Int) with
            | true =>
              have HN : Hid (∀ j, j < k + 1 → nS (bt s j) = true) := fun j hj => by
                by_cases hjk : j = k
                · rw [hjk, hb]; exact hn
                · exact HR.out j (by omega)
              clear hb
              cases hl : lt (s[k].toNat : Int) with
              | true =>
                go_wp2_with (go_at_call 17; refine (letS _ _).mono ?_; rintro e w1 ⟨rfl, rfl⟩; rw [hl])
                go_round
                case rel => exact ⟨k + 1, by omega, by go_num, HN⟩
                case measure => simp [intOf]; omega
              | false =>
                have hg : isF (s[k].toNat : Int) = true := by rw [nS_lt, hl] at hn; simpa using hn
                go_wp2_with fail
                refine (letS _ _).mono ?_
                rintro e w1 ⟨rfl, rfl⟩
                rw [hl]
                go_wp2_with (go_at_call 16; refine (figS _ _).mono ?_; rintro e w1 ⟨rfl, rfl⟩; rw [hg])
                go_round
                case rel => exact ⟨k + 1, by omega, by go_num, HN⟩
                case measure => simp [intOf]; omega
            | false =>
              have HN := Lib.hid (nOk_sign (s := s) k hlt (by rw [hb]; exact hn))
              clear hb
              rw [nS_lt, Bool.or_eq_false_iff] at hn
              obtain ⟨hl, hg⟩ := hn
              go_wp2_with fail
              refine (letS _ _).mono ?_
              rintro e w1 ⟨rfl, rfl⟩
              rw [hl]
              go_wp2_with (go_at_call 16; refine (figS _ _).mono ?_; rintro e w1 ⟨rfl, rfl⟩; rw [hg])
              go_ret
              exact ⟨ret_b HN.out.symm, rfl⟩
          · have hi1 : ¬ (k : Int) < (s.size : Int) := by omega
            have HN := Lib.hid (nOk_yes hpos (by omega) HF.out (fun j hj => HR.out j (by omega)))
            go_wp2
            go_ret
            exact ⟨ret_b HN.out.symm, rfl⟩
end Go.Proofs.YtbccniijnaegaaaDoor
