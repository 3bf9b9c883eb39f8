/- What is proved: what the model's and the program's tests of a figure answer: both the same plain function; nothing is written. Used by the proofs on names. -/
import Derived.Test.YtbccniijnaegaaaDoorChecked
import Derived.Test.YtbccniijnaegaaaDoorNumA
import Derived.WalkKit
import Derived.WalkSpells
import Derived.WalkLawsBesides
import Derived.Lib.Hide
import Derived.Below
import Derived.KernelRfl
namespace Go.Proofs.YtbccniijnaegaaaDoor
open Go.RowKit

theorem ret_b {a b : Bool} (h : a = b) : Ending.returned (.bool a) = .returned (.bool b) := by rw [h]
theorem ret_i {a b : Int} (h : a = b) : Ending.returned (.int .i64 a) = .returned (.int .i64 b) := by rw [h]

theorem figS (x : Int) (w : World) : Calls Tryd.prog 16 #[.int .u8 x] w fun e w' => e = .returned (.bool (isF x)) ∧ w = w' := by
  by_cases h0 : 48 ≤ x
  · by_cases h1 : x ≤ 57
    · have HR := Lib.hid (isF_yes h0 h1)
      go_enter Tryd.func16, Tryd.ntmps16
      go_wp2
      go_ret
      exact ⟨ret_b HR.out.symm, rfl⟩
    · have HR := Lib.hid (isF_no (x := x) (by omega))
      go_enter Tryd.func16, Tryd.ntmps16
      go_wp2
      go_ret
      exact ⟨ret_b HR.out.symm, rfl⟩
  · have HR := Lib.hid (isF_no (x := x) (by omega))
    go_enter Tryd.func16, Tryd.ntmps16
    go_wp2
    go_ret
    exact ⟨ret_b HR.out.symm, rfl⟩

theorem figI (x : Int) (w : World) : Calls Tryd.prog 18 #[.int .u8 x] w fun e w' => e = .returned (.bool (isF x)) ∧ w = w' := by
  by_cases h0 : 48 ≤ x
  · by_cases h1 : x ≤ 57
    · have HR := Lib.hid (isF_yes h0 h1)
      go_enter Tryd.func18, Tryd.ntmps18
      go_wp2
      go_ret
      exact ⟨ret_b HR.out.symm, rfl⟩
    · have HR := Lib.hid (isF_no (x := x) (by omega))
      go_enter Tryd.func18, Tryd.ntmps18
      go_wp2
      go_ret
      exact ⟨ret_b HR.out.symm, rfl⟩
  · have HR := Lib.hid (isF_no (x := x) (by omega))
    go_enter Tryd.func18, Tryd.ntmps18
    go_wp2
    go_ret
    exact ⟨ret_b HR.out.symm, rfl⟩
end Go.Proofs.YtbccniijnaegaaaDoor
