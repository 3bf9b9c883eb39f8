/- What is proved: at every text, PlaceOk of the program answers as the model's PlaceOk does (the given statement Rows.FnExactPlaceOkSaid), with no condition. -/
import Derived.Test.YtegboboogbpcmaaRows
import Derived.WalkKit
import Derived.ProofKit
import Derived.OpenShut
import Derived.ShutString
import Derived.ChangeOld
import Derived.Below
namespace Go.Proofs.Ytegboboogbpcmaa.fnExactPlaceOk
open Go.ChangeShapes Go.WideShapes Go.ChangeAt Go.RowKit
open Go.ChangeMaps (open_string shut_string)
set_option linter.unusedVariables false      -- a walk need not use every 'w<i>' (that an integer argument fits its kind)

theorem own : ownKnob Try.prog.godebug = none := by kernel_rfl

def wd (s : ByteArray) : Bool := s.toList == [81, 85, 69, 82, 89] || s.toList == [77, 85, 84, 65, 84, 73, 79, 78] || s.toList == [83, 85, 66, 83, 67, 82, 73, 80, 84, 73, 79, 78] || s.toList == [70, 73, 69, 76, 68] || s.toList == [70, 82, 65, 71, 77, 69, 78, 84, 95, 68, 69, 70, 73, 78, 73, 84, 73, 79, 78] || s.toList == [70, 82, 65, 71, 77, 69, 78, 84, 95, 83, 80, 82, 69, 65, 68] || s.toList == [73, 78, 76, 73, 78, 69, 95, 70, 82, 65, 71, 77, 69, 78, 84] || s.toList == [86, 65, 82, 73, 65, 66, 76, 69, 95, 68, 69, 70, 73, 78, 73, 84, 73, 79, 78] || s.toList == [83, 67, 72, 69, 77, 65] || s.toList == [83, 67, 65, 76, 65, 82] || s.toList == [79, 66, 74, 69, 67, 84] || s.toList == [70, 73, 69, 76, 68, 95, 68, 69, 70, 73, 78, 73, 84, 73, 79, 78] || s.toList == [65, 82, 71, 85, 77, 69, 78, 84, 95, 68, 69, 70, 73, 78, 73, 84, 73, 79, 78] || s.toList == [73, 78, 84, 69, 82, 70, 65, 67, 69] || s.toList == [85, 78, 73, 79, 78] || s.toList == [69, 78, 85, 77] || s.toList == [69, 78, 85, 77, 95, 86, 65, 76, 85, 69] || s.toList == [73, 78, 80, 85, 84, 95, 79, 66, 74, 69, 67, 84] || s.toList == [73, 78, 80, 85, 84, 95, 70, 73, 69, 76, 68, 95, 68, 69, 70, 73, 78, 73, 84, 73, 79, 78]
theorem wordS (s : ByteArray) (w : World) (hs : s.size ≤ 1048576) : Calls Try.prog 4 #[.string s] w fun e w' => e = .returned (.bool (wd s)) ∧ w = w' := by
  unfold wd
  by_cases h0 : (s.toList == [81, 85, 69, 82, 89]) = true
  · simp only [h0, Bool.true_or]
    go_enter Try.func4, Try.ntmps4
    go_wp2
    go_ret
    exact ⟨rfl, rfl⟩
  replace h0 : (s.toList == [81, 85, 69, 82, 89]) = false := by simpa using h0
  by_cases h1 : (s.toList == [77, 85, 84, 65, 84, 73, 79, 78]) = true
  · simp only [h1, Bool.true_or, Bool.or_true]
    go_enter Try.func4, Try.ntmps4
    go_wp2
    go_ret
    exact ⟨rfl, rfl⟩
  replace h1 : (s.toList == [77, 85, 84, 65, 84, 73, 79, 78]) = false := by simpa using h1
  by_cases h2 : (s.toList == [83, 85, 66, 83, 67, 82, 73, 80, 84, 73, 79, 78]) = true
  · simp only [h2, Bool.true_or, Bool.or_true]
    go_enter Try.func4, Try.ntmps4
    go_wp2
    go_ret
    exact ⟨rfl, rfl⟩
  replace h2 : (s.toList == [83, 85, 66, 83, 67, 82, 73, 80, 84, 73, 79, 78]) = false := by simpa using h2
  by_cases h3 : (s.toList == [70, 73, 69, 76, 68]) = true
  · simp only [h3, Bool.true_or, Bool.or_true]
    go_enter Try.func4, Try.ntmps4
    go_wp2
    go_ret
    exact ⟨rfl, rfl⟩
  replace h3 : (s.toList == [70, 73, 69, 76, 68]) = false := by simpa using h3
  by_cases h4 : (s.toList == [70, 82, 65, 71, 77, 69, 78, 84, 95, 68, 69, 70, 73, 78, 73, 84, 73, 79, 78]) = true
  · simp only [h4, Bool.true_or, Bool.or_true]
    go_enter Try.func4, Try.ntmps4
    go_wp2
    go_ret
    exact ⟨rfl, rfl⟩
  replace h4 : (s.toList == [70, 82, 65, 71, 77, 69, 78, 84, 95, 68, 69, 70, 73, 78, 73, 84, 73, 79, 78]) = false := by simpa using h4
  by_cases h5 : (s.toList == [70, 82, 65, 71, 77, 69, 78, 84, 95, 83, 80, 82, 69, 65, 68]) = true
  · simp only [h5, Bool.true_or, Bool.or_true]
    go_enter Try.func4, Try.ntmps4
    go_wp2
    go_ret
    exact ⟨rfl, rfl⟩
  replace h5 : (s.toList == [70, 82, 65, 71, 77, 69, 78, 84, 95, 83, 80, 82, 69, 65, 68]) = false := by simpa using h5
  by_cases h6 : (s.toList == [73, 78, 76, 73, 78, 69, 95, 70, 82, 65, 71, 77, 69, 78, 84]) = true
  · simp only [h6, Bool.true_or, Bool.or_true]
    go_enter Try.func4, Try.ntmps4
    go_wp2
    go_ret
    exact ⟨rfl, rfl⟩
  replace h6 : (s.toList == [73, 78, 76, 73, 78, 69, 95, 70, 82, 65, 71, 77, 69, 78, 84]) = false := by simpa using h6
  by_cases h7 : (s.toList == [86, 65, 82, 73, 65, 66, 76, 69, 95, 68, 69, 70, 73, 78, 73, 84, 73, 79, 78]) = true
  · simp only [h7, Bool.true_or, Bool.or_true]
    go_enter Try.func4, Try.ntmps4
    go_wp2
    go_ret
    exact ⟨rfl, rfl⟩
  replace h7 : (s.toList == [86, 65, 82, 73, 65, 66, 76, 69, 95, 68, 69, 70, 73, 78, 73, 84, 73, 79, 78]) = false := by simpa using h7
  by_cases h8 : (s.toList == [83, 67, 72, 69, 77, 65]) = true
  · simp only [h8, Bool.true_or, Bool.or_true]
    go_enter Try.func4, Try.ntmps4
    go_wp2
    go_ret
    exact ⟨rfl, rfl⟩
  replace h8 : (s.toList == [83, 67, 72, 69, 77, 65]) = false := by simpa using h8
  by_cases h9 : (s.toList == [83, 67, 65, 76, 65, 82]) = true
  · simp only [h9, Bool.true_or, Bool.or_true]
    go_enter Try.func4, Try.ntmps4
    go_wp2
    go_ret
    exact ⟨rfl, rfl⟩
  replace h9 : (s.toList == [83, 67, 65, 76, 65, 82]) = false := by simpa using h9
  by_cases h10 : (s.toList == [79, 66, 74, 69, 67, 84]) = true
  · simp only [h10, Bool.true_or, Bool.or_true]
    go_enter Try.func4, Try.ntmps4
    go_wp2
    go_ret
    exact ⟨rfl, rfl⟩
  replace h10 : (s.toList == [79, 66, 74, 69, 67, 84]) = false := by simpa using h10
  by_cases h11 : (s.toList == [70, 73, 69, 76, 68, 95, 68, 69, 70, 73, 78, 73, 84, 73, 79, 78]) = true
  · simp only [h11, Bool.true_or, Bool.or_true]
    go_enter Try.func4, Try.ntmps4
    go_wp2
    go_ret
    exact ⟨rfl, rfl⟩
  replace h11 : (s.toList == [70, 73, 69, 76, 68, 95, 68, 69, 70, 73, 78, 73, 84, 73, 79, 78]) = false := by simpa using h11
  by_cases h12 : (s.toList == [65, 82, 71, 85, 77, 69, 78, 84, 95, 68, 69, 70, 73, 78, 73, 84, 73, 79, 78]) = true
  · simp only [h12, Bool.true_or, Bool.or_true]
    go_enter Try.func4, Try.ntmps4
    go_wp2
    go_ret
    exact ⟨rfl, rfl⟩
  replace h12 : (s.toList == [65, 82, 71, 85, 77, 69, 78, 84, 95, 68, 69, 70, 73, 78, 73, 84, 73, 79, 78]) = false := by simpa using h12
  by_cases h13 : (s.toList == [73, 78, 84, 69, 82, 70, 65, 67, 69]) = true
  · simp only [h13, Bool.true_or, Bool.or_true]
    go_enter Try.func4, Try.ntmps4
    go_wp2
    go_ret
    exact ⟨rfl, rfl⟩
  replace h13 : (s.toList == [73, 78, 84, 69, 82, 70, 65, 67, 69]) = false := by simpa using h13
  by_cases h14 : (s.toList == [85, 78, 73, 79, 78]) = true
  · simp only [h14, Bool.true_or, Bool.or_true]
    go_enter Try.func4, Try.ntmps4
    go_wp2
    go_ret
    exact ⟨rfl, rfl⟩
  replace h14 : (s.toList == [85, 78, 73, 79, 78]) = false := by simpa using h14
  by_cases h15 : (s.toList == [69, 78, 85, 77]) = true
  · simp only [h15, Bool.true_or, Bool.or_true]
    go_enter Try.func4, Try.ntmps4
    go_wp2
    go_ret
    exact ⟨rfl, rfl⟩
  replace h15 : (s.toList == [69, 78, 85, 77]) = false := by simpa using h15
  by_cases h16 : (s.toList == [69, 78, 85, 77, 95, 86, 65, 76, 85, 69]) = true
  · simp only [h16, Bool.true_or, Bool.or_true]
    go_enter Try.func4, Try.ntmps4
    go_wp2
    go_ret
    exact ⟨rfl, rfl⟩
  replace h16 : (s.toList == [69, 78, 85, 77, 95, 86, 65, 76, 85, 69]) = false := by simpa using h16
  by_cases h17 : (s.toList == [73, 78, 80, 85, 84, 95, 79, 66, 74, 69, 67, 84]) = true
  · simp only [h17, Bool.true_or, Bool.or_true]
    go_enter Try.func4, Try.ntmps4
    go_wp2
    go_ret
    exact ⟨rfl, rfl⟩
  replace h17 : (s.toList == [73, 78, 80, 85, 84, 95, 79, 66, 74, 69, 67, 84]) = false := by simpa using h17
  by_cases h18 : (s.toList == [73, 78, 80, 85, 84, 95, 70, 73, 69, 76, 68, 95, 68, 69, 70, 73, 78, 73, 84, 73, 79, 78]) = true
  · simp only [h18, Bool.or_true]
    go_enter Try.func4, Try.ntmps4
    go_wp2
    go_ret
    exact ⟨rfl, rfl⟩
  replace h18 : (s.toList == [73, 78, 80, 85, 84, 95, 70, 73, 69, 76, 68, 95, 68, 69, 70, 73, 78, 73, 84, 73, 79, 78]) = false := by simpa using h18
  simp only [h0, h1, h2, h3, h4, h5, h6, h7, h8, h9, h10, h11, h12, h13, h14, h15, h16, h17, h18, Bool.or_false]
  go_enter Try.func4, Try.ntmps4
  go_wp2
  go_ret
  exact ⟨rfl, rfl⟩
theorem wordI (s : ByteArray) (w : World) (hs : s.size ≤ 1048576) : Calls Try.prog 5 #[.string s] w fun e w' => e = .returned (.bool (wd s)) ∧ w = w' := by
  unfold wd
  by_cases h0 : (s.toList == [81, 85, 69, 82, 89]) = true
  · simp only [h0, Bool.true_or]
    go_enter Try.func5, Try.ntmps5
    go_wp2
    go_ret
    exact ⟨rfl, rfl⟩
  replace h0 : (s.toList == [81, 85, 69, 82, 89]) = false := by simpa using h0
  by_cases h1 : (s.toList == [77, 85, 84, 65, 84, 73, 79, 78]) = true
  · simp only [h1, Bool.true_or, Bool.or_true]
    go_enter Try.func5, Try.ntmps5
    go_wp2
    go_ret
    exact ⟨rfl, rfl⟩
  replace h1 : (s.toList == [77, 85, 84, 65, 84, 73, 79, 78]) = false := by simpa using h1
  by_cases h2 : (s.toList == [83, 85, 66, 83, 67, 82, 73, 80, 84, 73, 79, 78]) = true
  · simp only [h2, Bool.true_or, Bool.or_true]
    go_enter Try.func5, Try.ntmps5
    go_wp2
    go_ret
    exact ⟨rfl, rfl⟩
  replace h2 : (s.toList == [83, 85, 66, 83, 67, 82, 73, 80, 84, 73, 79, 78]) = false := by simpa using h2
  by_cases h3 : (s.toList == [70, 73, 69, 76, 68]) = true
  · simp only [h3, Bool.true_or, Bool.or_true]
    go_enter Try.func5, Try.ntmps5
    go_wp2
    go_ret
    exact ⟨rfl, rfl⟩
  replace h3 : (s.toList == [70, 73, 69, 76, 68]) = false := by simpa using h3
  by_cases h4 : (s.toList == [70, 82, 65, 71, 77, 69, 78, 84, 95, 68, 69, 70, 73, 78, 73, 84, 73, 79, 78]) = true
  · simp only [h4, Bool.true_or, Bool.or_true]
    go_enter Try.func5, Try.ntmps5
    go_wp2
    go_ret
    exact ⟨rfl, rfl⟩
  replace h4 : (s.toList == [70, 82, 65, 71, 77, 69, 78, 84, 95, 68, 69, 70, 73, 78, 73, 84, 73, 79, 78]) = false := by simpa using h4
  by_cases h5 : (s.toList == [70, 82, 65, 71, 77, 69, 78, 84, 95, 83, 80, 82, 69, 65, 68]) = true
  · simp only [h5, Bool.true_or, Bool.or_true]
    go_enter Try.func5, Try.ntmps5
    go_wp2
    go_ret
    exact ⟨rfl, rfl⟩
  replace h5 : (s.toList == [70, 82, 65, 71, 77, 69, 78, 84, 95, 83, 80, 82, 69, 65, 68]) = false := by simpa using h5
  by_cases h6 : (s.toList == [73, 78, 76, 73, 78, 69, 95, 70, 82, 65, 71, 77, 69, 78, 84]) = true
  · simp only [h6, Bool.true_or, Bool.or_true]
    go_enter Try.func5, Try.ntmps5
    go_wp2
    go_ret
    exact ⟨rfl, rfl⟩
  replace h6 : (s.toList == [73, 78, 76, 73, 78, 69, 95, 70, 82, 65, 71, 77, 69, 78, 84]) = false := by simpa using h6
  by_cases h7 : (s.toList == [86, 65, 82, 73, 65, 66, 76, 69, 95, 68, 69, 70, 73, 78, 73, 84, 73, 79, 78]) = true
  · simp only [h7, Bool.true_or, Bool.or_true]
    go_enter Try.func5, Try.ntmps5
    go_wp2
    go_ret
    exact ⟨rfl, rfl⟩
  replace h7 : (s.toList == [86, 65, 82, 73, 65, 66, 76, 69, 95, 68, 69, 70, 73, 78, 73, 84, 73, 79, 78]) = false := by simpa using h7
  by_cases h8 : (s.toList == [83, 67, 72, 69, 77, 65]) = true
  · simp only [h8, Bool.true_or, Bool.or_true]
    go_enter Try.func5, Try.ntmps5
    go_wp2
    go_ret
    exact ⟨rfl, rfl⟩
  replace h8 : (s.toList == [83, 67, 72, 69, 77, 65]) = false := by simpa using h8
  by_cases h9 : (s.toList == [83, 67, 65, 76, 65, 82]) = true
  · simp only [h9, Bool.true_or, Bool.or_true]
    go_enter Try.func5, Try.ntmps5
    go_wp2
    go_ret
    exact ⟨rfl, rfl⟩
  replace h9 : (s.toList == [83, 67, 65, 76, 65, 82]) = false := by simpa using h9
  by_cases h10 : (s.toList == [79, 66, 74, 69, 67, 84]) = true
  · simp only [h10, Bool.true_or, Bool.or_true]
    go_enter Try.func5, Try.ntmps5
    go_wp2
    go_ret
    exact ⟨rfl, rfl⟩
  replace h10 : (s.toList == [79, 66, 74, 69, 67, 84]) = false := by simpa using h10
  by_cases h11 : (s.toList == [70, 73, 69, 76, 68, 95, 68, 69, 70, 73, 78, 73, 84, 73, 79, 78]) = true
  · simp only [h11, Bool.true_or, Bool.or_true]
    go_enter Try.func5, Try.ntmps5
    go_wp2
    go_ret
    exact ⟨rfl, rfl⟩
  replace h11 : (s.toList == [70, 73, 69, 76, 68, 95, 68, 69, 70, 73, 78, 73, 84, 73, 79, 78]) = false := by simpa using h11
  by_cases h12 : (s.toList == [65, 82, 71, 85, 77, 69, 78, 84, 95, 68, 69, 70, 73, 78, 73, 84, 73, 79, 78]) = true
  · simp only [h12, Bool.true_or, Bool.or_true]
    go_enter Try.func5, Try.ntmps5
    go_wp2
    go_ret
    exact ⟨rfl, rfl⟩
  replace h12 : (s.toList == [65, 82, 71, 85, 77, 69, 78, 84, 95, 68, 69, 70, 73, 78, 73, 84, 73, 79, 78]) = false := by simpa using h12
  by_cases h13 : (s.toList == [73, 78, 84, 69, 82, 70, 65, 67, 69]) = true
  · simp only [h13, Bool.true_or, Bool.or_true]
    go_enter Try.func5, Try.ntmps5
    go_wp2
    go_ret
    exact ⟨rfl, rfl⟩
  replace h13 : (s.toList == [73, 78, 84, 69, 82, 70, 65, 67, 69]) = false := by simpa using h13
  by_cases h14 : (s.toList == [85, 78, 73, 79, 78]) = true
  · simp only [h14, Bool.true_or, Bool.or_true]
    go_enter Try.func5, Try.ntmps5
    go_wp2
    go_ret
    exact ⟨rfl, rfl⟩
  replace h14 : (s.toList == [85, 78, 73, 79, 78]) = false := by simpa using h14
  by_cases h15 : (s.toList == [69, 78, 85, 77]) = true
  · simp only [h15, Bool.true_or, Bool.or_true]
    go_enter Try.func5, Try.ntmps5
    go_wp2
    go_ret
    exact ⟨rfl, rfl⟩
  replace h15 : (s.toList == [69, 78, 85, 77]) = false := by simpa using h15
  by_cases h16 : (s.toList == [69, 78, 85, 77, 95, 86, 65, 76, 85, 69]) = true
  · simp only [h16, Bool.true_or, Bool.or_true]
    go_enter Try.func5, Try.ntmps5
    go_wp2
    go_ret
    exact ⟨rfl, rfl⟩
  replace h16 : (s.toList == [69, 78, 85, 77, 95, 86, 65, 76, 85, 69]) = false := by simpa using h16
  by_cases h17 : (s.toList == [73, 78, 80, 85, 84, 95, 79, 66, 74, 69, 67, 84]) = true
  · simp only [h17, Bool.true_or, Bool.or_true]
    go_enter Try.func5, Try.ntmps5
    go_wp2
    go_ret
    exact ⟨rfl, rfl⟩
  replace h17 : (s.toList == [73, 78, 80, 85, 84, 95, 79, 66, 74, 69, 67, 84]) = false := by simpa using h17
  by_cases h18 : (s.toList == [73, 78, 80, 85, 84, 95, 70, 73, 69, 76, 68, 95, 68, 69, 70, 73, 78, 73, 84, 73, 79, 78]) = true
  · simp only [h18, Bool.or_true]
    go_enter Try.func5, Try.ntmps5
    go_wp2
    go_ret
    exact ⟨rfl, rfl⟩
  replace h18 : (s.toList == [73, 78, 80, 85, 84, 95, 70, 73, 69, 76, 68, 95, 68, 69, 70, 73, 78, 73, 84, 73, 79, 78]) = false := by simpa using h18
  simp only [h0, h1, h2, h3, h4, h5, h6, h7, h8, h9, h10, h11, h12, h13, h14, h15, h16, h17, h18, Bool.or_false]
  go_enter Try.func5, Try.ntmps5
  go_wp2
  go_ret
  exact ⟨rfl, rfl⟩
/-! ### STEP 1: THE WALK: the Go text returns true. 'Grown w w'': the world has at most new blocks (Derived/RowKit3.lean). Part the cases AHEAD of 'go_enter' where a test parts the walk; take each callee by a contract of your own. -/
theorem walk (a0 : ByteArray) (w0 : a0.size ≤ maxLen) (w : World) :
    Calls Try.prog 3 #[.string a0] w fun e w' => e = .returned (.bool true) ∧ Below w.heap.size w w' := by
  by_cases hbig : 1048576 < a0.size
  · have h1 : (1048576 : Int) < (a0.size : Int) := by omega
    unfold maxLen at w0
    go_enter Try.func3, Try.ntmps3
    go_wp2
    go_ret
    exact ⟨rfl, Below.refl _ _⟩
  · have h1 : ¬ (1048576 : Int) < (a0.size : Int) := by omega
    go_enter Try.func3, Try.ntmps3
    go_wp2_with fail
    refine (wordS a0 w (by omega)).mono ?_
    rintro e w1 ⟨rfl, rfl⟩
    go_wp2_with fail
    refine (wordI a0 w (by omega)).mono ?_
    rintro e w1 ⟨rfl, rfl⟩
    go_wp2
    go_ret
    exact ⟨rfl, Below.refl _ _⟩

/-! ### THE ROW's STEP: WRITTEN OUT: LEAVE IT -/
set_option maxRecDepth 100000 in
theorem lifted (os : Os) (started : os.Started) (H : Type) (enc : TypeId × Value → H) :
    ReturnsInHanded {} Try.checked os 3 .any (Rows.fnExactPlaceOkSpec.pre6 enc Try.prog Try.f3 Rows.fnExactPlaceOkRow.domain false) (Rows.fnExactPlaceOkSpec.post enc Try.prog Try.f3 false true false false) := by
  refine returnsInHanded_of_change (C := Try.checked) own started (by kernel_rfl) Try.func3
    (ChangeSpec.witness6 (enc := enc) (C := Try.checked) false ⟨#[], #[.string ByteArray.empty], []⟩ 8 (by kernel_rfl) (by kernel_rfl) (by kernel_rfl) (by kernel_rfl)) ?_
  intro W base args ds gs before hval0 hW hcnd _
  have hval : ∀ (j : Nat) t v, Try.f3.params[j]? = some t → args[j]? = some v → Value.okWide Try.prog W .any base t v := hval0
  have hW' := hW
  obtain ⟨p, q, hA0, hV, rfl, hfz, hnd⟩ := hW
  have hA : DataW.TrodAll enc Try.prog W 0 (fun _ => true) true Try.f3.params.toList args.toList ds p := hA0
  rw [Try.params3] at hA hval
  obtain ⟨v0, vs0, d0, ds0, p0, q0, hargs, rfl, rfl, h0, r0⟩ := trodAll_cons hA
  obtain ⟨rfl, rfl, rfl⟩ := trodAll_nil r0
  obtain rfl : args = #[v0] := by cases args; simp_all
  obtain ⟨rfl, rfl⟩ := trodVars_none hV
  obtain ⟨a0, rfl, rfl, rfl, w0⟩ := open_string Try.underlying9 (hval 0 9 v0 rfl rfl) h0
  clear hA0 hval0
  simp only [List.append_nil] at hW'
  refine (walk a0 w0 W).mono fun e W' ⟨he, hg⟩ => ?_
  subst he
  exact ⟨_, rfl, _, _, _, [], _, [], hW', trodAll_mk1 (shut_bool Try.underlying4 _), (trodAll_cons_mk (shut_string Try.underlying9 w0) trodAll_mk0), rfl, hg.frame _, fun h => by cases h⟩

theorem over : Rows.fnExactPlaceOkRow.holds Try.pinned (OpenSpec.ofChange Rows.fnExactPlaceOkSpec) :=
  OpenClaim.holds_of_wide 3 Try.f3 rfl rfl rfl rfl rfl rfl rfl ⟨rfl, rfl, rfl, rfl, rfl⟩ rfl rfl rfl rfl rfl (by kernel_rfl) Try.func3 (by kernel_rfl)
    (of_decide_eq_true (by kernel_rfl)) (by unfold Func.isWrapper; first | (rw [if_pos (by decide +kernel)]; kernel_rfl) | (rw [if_neg (by decide +kernel)]; exact ⟨rfl, rfl⟩))
    (fun os started H enc _ => lifted os started H enc)

end Go.Proofs.Ytegboboogbpcmaa.fnExactPlaceOk

namespace Go.Proofs.Ytegboboogbpcmaa
/-- The statement. -/
theorem fnExactPlaceOk_holds : Rows.FnExactPlaceOkSaid :=
  fnExactPlaceOk.over
#print axioms fnExactPlaceOk_holds
end Go.Proofs.Ytegboboogbpcmaa
