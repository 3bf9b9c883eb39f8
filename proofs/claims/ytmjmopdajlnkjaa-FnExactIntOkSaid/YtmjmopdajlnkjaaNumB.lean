/- What is proved: what the model's and the program's tests of one sign and their reading of figures answer at every text and place: both the same plain function; nothing is written. Used by the proofs of FnExactNameOk, FnExactIntOk, FnExactFloatOk, FnExactFits32 and FnNumbers. -/
import Derived.Test.YtmjmopdajlnkjaaChecked
import Derived.Test.YtmjmopdajlnkjaaNumA
import Derived.WalkKit
import Derived.WalkSpells
import Derived.WalkLawsBesides
import Derived.Lib.Hide
import Derived.Below
import Derived.KernelRfl
namespace Go.Proofs.Ytmjmopdajlnkjaa
open Go.RowKit

theorem ret_b {a b : Bool} (h : a = b) : Ending.returned (.bool a) = .returned (.bool b) := by rw [h]
theorem ret_i {a b : Int} (h : a = b) : Ending.returned (.int .i64 a) = .returned (.int .i64 b) := by rw [h]

theorem figS (x : Int) (w : World) : Calls Try.prog 15 #[.int .u8 x] w fun e w' => e = .returned (.bool (isF x)) ∧ w = w' := by
  by_cases h0 : 48 ≤ x
  · by_cases h1 : x ≤ 57
    · have HR := Lib.hid (isF_yes h0 h1)
      go_enter Try.func15, Try.ntmps15
      go_wp2
      go_ret
      exact ⟨ret_b HR.out.symm, rfl⟩
    · have HR := Lib.hid (isF_no (x := x) (by omega))
      go_enter Try.func15, Try.ntmps15
      go_wp2
      go_ret
      exact ⟨ret_b HR.out.symm, rfl⟩
  · have HR := Lib.hid (isF_no (x := x) (by omega))
    go_enter Try.func15, Try.ntmps15
    go_wp2
    go_ret
    exact ⟨ret_b HR.out.symm, rfl⟩

theorem figI (x : Int) (w : World) : Calls Try.prog 17 #[.int .u8 x] w fun e w' => e = .returned (.bool (isF x)) ∧ w = w' := by
  by_cases h0 : 48 ≤ x
  · by_cases h1 : x ≤ 57
    · have HR := Lib.hid (isF_yes h0 h1)
      go_enter Try.func17, Try.ntmps17
      go_wp2
      go_ret
      exact ⟨ret_b HR.out.symm, rfl⟩
    · have HR := Lib.hid (isF_no (x := x) (by omega))
      go_enter Try.func17, Try.ntmps17
      go_wp2
      go_ret
      exact ⟨ret_b HR.out.symm, rfl⟩
  · have HR := Lib.hid (isF_no (x := x) (by omega))
    go_enter Try.func17, Try.ntmps17
    go_wp2
    go_ret
    exact ⟨ret_b HR.out.symm, rfl⟩

set_option maxHeartbeats 800000 in
theorem runI (s : ByteArray) (k0 : Nat) (w : World) (hs : s.size ≤ 1048576) (hk0 : k0 ≤ s.size) :
    Calls Try.prog 25 #[.string s, .int .i64 (k0 : Int)] w fun e w' => e = .returned (.int .i64 (run s k0 : Int)) ∧ w = w' := by
  go_enter Try.func25, Try.ntmps25
  go_wp2
  go_loop [1] (fun i => ∃ k : Nat, k ≤ s.size ∧ i = .int .i64 (k : Int) ∧ Hid (run s k = run s k0)) (fun i => s.size - (intOf i).toNat)
  case atStart => exact ⟨k0, hk0, rfl, rfl⟩
  case round =>
    obtain ⟨k, hk, rfl, HR⟩ := hrel
    by_cases hlt : k < s.size
    · have hi0 : (0 : Int) ≤ (k : Int) := by omega
      have hi1 : (k : Int) < (s.size : Int) := by omega
      have hb := bt_at s k hlt
      cases hf : isF (s[k].toNat : Int) with
      | true =>
        have HN := Lib.hid (run_yes (s := s) (k := k) (by rw [hb]; exact hf))
        clear hb
        go_wp2_with (go_at_call 17; refine (figI _ _).mono ?_; rintro e w1 ⟨rfl, rfl⟩; rw [hf])
        go_round
        case rel => exact ⟨k + 1, by omega, by go_num, by show _ = _; rw [← HN.out]; exact HR.out⟩
        case measure => simp [intOf]; omega
      | false =>
        have HN := Lib.hid (run_no (s := s) (k := k) (by rw [hb]; exact hf))
        clear hb
        go_wp2_with (go_at_call 17; refine (figI _ _).mono ?_; rintro e w1 ⟨rfl, rfl⟩; rw [hf])
        go_ret
        exact ⟨ret_i (by rw [← HR.out, HN.out]), rfl⟩
    · have hi1 : ¬ (k : Int) < (s.size : Int) := by omega
      have HN := Lib.hid (run_out (s := s) (k := k) (by omega))
      go_wp2
      go_ret
      exact ⟨ret_i (by rw [← HR.out, HN.out]), rfl⟩

set_option maxHeartbeats 800000 in
theorem runS (s : ByteArray) (k0 : Nat) (w : World) (hs : s.size ≤ 1048576) (hk0 : k0 ≤ s.size) :
    Calls Try.prog 21 #[.string s, .int .i64 (k0 : Int)] w fun e w' => e = .returned (.int .i64 (run s k0 : Int)) ∧ w = w' := by
  go_enter Try.func21, Try.ntmps21
  go_wp2
  go_loop [1] (fun i => ∃ k : Nat, k ≤ s.size ∧ i = .int .i64 (k : Int) ∧ Hid (run s k = run s k0)) (fun i => s.size - (intOf i).toNat)
  case atStart => exact ⟨k0, hk0, rfl, rfl⟩
  case round =>
    obtain ⟨k, hk, rfl, HR⟩ := hrel
    by_cases hlt : k < s.size
    · have hi0 : (0 : Int) ≤ (k : Int) := by omega
      have hi1 : (k : Int) < (s.size : Int) := by omega
      have hb := bt_at s k hlt
      cases hf : isF (s[k].toNat : Int) with
      | true =>
        have HN := Lib.hid (run_yes (s := s) (k := k) (by rw [hb]; exact hf))
        clear hb
        go_wp2_with (go_at_call 15; refine (figS _ _).mono ?_; rintro e w1 ⟨rfl, rfl⟩; rw [hf])
        go_round
        case rel => exact ⟨k + 1, by omega, by go_num, by show _ = _; rw [← HN.out]; exact HR.out⟩
        case measure => simp [intOf]; omega
      | false =>
        have HN := Lib.hid (run_no (s := s) (k := k) (by rw [hb]; exact hf))
        clear hb
        go_wp2_with (go_at_call 15; refine (figS _ _).mono ?_; rintro e w1 ⟨rfl, rfl⟩; rw [hf])
        go_ret
        exact ⟨ret_i (by rw [← HR.out, HN.out]), rfl⟩
    · have hi1 : ¬ (k : Int) < (s.size : Int) := by omega
      have HN := Lib.hid (run_out (s := s) (k := k) (by omega))
      go_wp2
      go_ret
      exact ⟨ret_i (by rw [← HR.out, HN.out]), rfl⟩
end Go.Proofs.Ytmjmopdajlnkjaa
