/- What is proved: what RuneAt of the program answers at every text and every int: the scalar whose text begins at this byte and its length, or -1 and 0; where the library's two tables hold what the program's text lays. Used by the proofs of FnExactRuneAtCardSaid, FnExactTextOkCardSaid, FnExactRunesOfCardSaid and FnRunesCardSaid. -/
import Derived.Test.YtcmcddhhokgbnaaDoorRt
import Derived.Test.YtcmcddhhokgbnaaDoorShelf
import Derived.WalkKit
import Derived.WalkSpells
import Derived.WalkLawsBesides
import Derived.Lib.Hide
import Derived.Below
import Derived.KernelRfl
namespace Go.Proofs.YtcmcddhhokgbnaaDoor
open Go.RowKit

theorem raI_out (s : ByteArray) (x : Int) (w : World) (hx : ¬ (0 ≤ x ∧ x < s.size)) :
    Calls Tryd.prog 15 #[.string s, .int .i64 x] w fun e w' => e = .returned (.tuple #[.int .i64 (-1), .int .i64 0]) ∧ w = w' := by
  by_cases h0 : x < 0
  · go_enter Tryd.func15, Tryd.ntmps15
    go_wp2
    go_ret2
    exact ⟨rfl, rfl⟩
  · have h1 : ¬ x < (s.size : Int) := by omega
    go_enter Tryd.func15, Tryd.ntmps15
    go_wp2
    go_ret2
    exact ⟨rfl, rfl⟩

set_option maxHeartbeats 800000 in
theorem raI (s : ByteArray) (k : Nat) (w : World) (hk : k < s.size) (hT : Lib.Utf8Tabs 0 1 w) :
    Calls Tryd.prog 15 #[.string s, .int .i64 k] w fun e w' => e = .returned (.tuple #[.int .i64 (ra s k).1, .int .i64 (ra s k).2]) ∧ Below w.heap.size w w' := by
  have h0 : ¬ (k : Int) < 0 := by omega
  have h1 : (k : Int) < (s.size : Int) := by omega
  obtain ⟨b1, b2, b3, b4⟩ := dec_bound s k hk
  have cD := Tryd.utf8_DecodeRuneInString (s.extract k s.size) w hT
  rw [dec_tail s k hk] at cD
  by_cases hb : Utf8.decode s k = (65533, 1)
  · rw [ra_bad hb]
    rw [hb] at cD
    clear b1 b2 b3 b4 hb
    go_enter Tryd.func15, Tryd.ntmps15
    go_wp2_with fail
    refine cD.mono ?_
    rintro e w1 ⟨rfl, hw⟩
    clear cD
    go_wp2
    go_ret2
    exact ⟨rfl, hw⟩
  · rw [ra_good hb]
    obtain ⟨a, ha⟩ : ∃ a, (Utf8.decode s k).1 = a := ⟨_, rfl⟩
    obtain ⟨b, hb'⟩ : ∃ b, (Utf8.decode s k).2 = b := ⟨_, rfl⟩
    rw [ha, hb'] at cD
    rw [ha, hb']
    rw [ha] at b1
    rw [hb'] at b2 b3
    have e1 : IntKind.i64.wrap (a : Int) = a := by rw [IntKind.wrap_i64]; omega
    have hb2 : ¬ ((a : Int) = 65533 ∧ (b : Int) = 1) := fun h => hb (Prod.ext (by rw [ha]; show a = 65533; omega) (by rw [hb']; show b = 1; omega))
    clear b4 hb ha hb'
    by_cases hA : (a : Int) = 65533
    · have hB : ¬ (b : Int) = 1 := fun h => hb2 ⟨hA, h⟩
      rw [hA] at cD ⊢
      clear e1 hb2 hA b1
      go_enter Tryd.func15, Tryd.ntmps15
      go_wp2_with fail
      refine cD.mono ?_
      rintro e w1 ⟨rfl, hw⟩
      clear cD
      go_wp2
      go_ret2
      exact ⟨rfl, hw⟩
    · go_enter Tryd.func15, Tryd.ntmps15
      go_wp2_with fail
      refine cD.mono ?_
      rintro e w1 ⟨rfl, hw⟩
      clear cD
      go_wp2
      go_ret2
      exact ⟨rfl, hw⟩
end Go.Proofs.YtcmcddhhokgbnaaDoor
