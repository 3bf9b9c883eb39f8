/- What is proved: what IntOk and FloatOk of the model answer at every text: the same two plain functions as the program's; nothing is written. Used by the proofs of FnExactIntOk, FnExactFloatOk and FnExactFits32. -/
import Derived.Test.YtmjmopdajlnkjaaNumD
namespace Go.Proofs.Ytmjmopdajlnkjaa
open Go.RowKit

theorem iOk_no {s : ByteArray} (h : ¬ (s.size ≤ 40 ∧ 0 < s.size ∧ lI s = s.size)) : iOk s = false := decide_eq_false h
theorem iOk_yes {s : ByteArray} (h : s.size ≤ 40 ∧ 0 < s.size ∧ lI s = s.size) : iOk s = true := decide_eq_true h

set_option maxHeartbeats 800000 in
theorem intS (s : ByteArray) (w : World) (hs : s.size ≤ 1048576) :
    Calls Try.prog 9 #[.string s] w fun e w' => e = .returned (.bool (iOk s)) ∧ w = w' := by
  by_cases h40 : (s.size : Int) ≤ 40
  · by_cases h0 : (0 : Int) < (s.size : Int)
    · have C := l03I s w hs
      by_cases h : lI s = s.size
      · have HR := Lib.hid (iOk_yes ⟨by omega, by omega, h⟩)
        rw [h] at C
        clear h
        go_enter Try.func9, Try.ntmps9
        go_wp2_with (go_at_call 19; refine C.mono ?_; rintro e w1 ⟨rfl, rfl⟩)
        go_ret
        exact ⟨ret_b (by rw [HR.out]), rfl⟩
      · have HR := Lib.hid (iOk_no (fun x => h x.2.2))
        have e1 : ((lI s : Int) == (s.size : Int)) = false := eqf (by omega)
        clear h
        go_enter Try.func9, Try.ntmps9
        go_wp2_with (go_at_call 19; refine C.mono ?_; rintro e w1 ⟨rfl, rfl⟩)
        go_ret
        exact ⟨ret_b (by rw [HR.out]), rfl⟩
    · have HR := Lib.hid (iOk_no (s := s) (fun x => by omega))
      go_enter Try.func9, Try.ntmps9
      go_wp2
      go_ret
      exact ⟨ret_b (by rw [HR.out]), rfl⟩
  · have HR := Lib.hid (iOk_no (s := s) (fun x => by omega))
    go_enter Try.func9, Try.ntmps9
    go_wp2
    go_ret
    exact ⟨ret_b (by rw [HR.out]), rfl⟩
end Go.Proofs.Ytmjmopdajlnkjaa
