/- What is proved: the laws of TypeOk and TypeText, walked: the program's answer is the model's, and nothing that was handed in has turned. -/
import Derived.Test.YtbccniijnaegaaaDoorTyX
namespace Go.Proofs.YtbccniijnaegaaaDoor
namespace Ty
open Go.RowKit
attribute [local go_sem ↓] Go.wp_at_zero Go.wp_at_succ

set_option maxHeartbeats 4000000 in
theorem walkFnExactTypeOk (n s : ByteArray) (w : World) (hn : n.size ≤ 9223372036854775807) (hs : s.size ≤ 9223372036854775807) (hM : Ml w) :
    Calls Tryd.prog 3 #[.agg #[.string n, .string s]] w fun e w' => e = .returned (.bool true) ∧ Below w.heap.size w w' := by
  have ba := below_alloc w (Obj.cells #[Value.string n, Value.string s] 23)
  have G := Lib.hid (heap_alloc_new w (Obj.cells #[Value.string n, Value.string s] 23))
  have HM := Lib.hid hM
  clear hM
  go_enter Tryd.func3, Tryd.ntmps3
  go_wp2_with fail
  refine (szT n s _ hn hs).mono ?_
  rintro e w1 ⟨rfl, hb1⟩
  by_cases hv : n.size + s.size ≤ 1048576
  case neg =>
    rw [show lft n s = -1 from by rw [lft, if_neg hv]]
    go_wp2
    go_ret
    exact ⟨rfl, below_trans ba hb1⟩
  obtain ⟨L, hL⟩ : ∃ L : Nat, (1048576 : Int) - n.size - s.size = (L : Int) := ⟨1048576 - n.size - s.size, by omega⟩
  rw [show lft n s = (L : Int) from by rw [lft, if_pos hv, hL]]
  have hL0 : ¬ (L : Int) < 0 := by omega
  replace hn : n.size ≤ 1048576 := by omega
  replace hs : s.size ≤ 1048576 := by omega
  clear hL hv
  obtain ⟨p0, p1⟩ := keep2 hb1 G.out
  go_wp2_with fail
  refine (toT n s _).mono ?_
  rintro e w2 ⟨rfl, hb2⟩
  go_wp2_with fail
  refine (okS n s _ hn hs).mono ?_
  rintro e w3 ⟨rfl, hb3⟩
  have hb13 := below_trans hb1 (below_trans hb2 hb3)
  clear p0 p1
  obtain ⟨p0, p1⟩ := keep2 hb13 G.out
  go_wp2_with fail
  refine (toT n s _).mono ?_
  rintro e w4 ⟨rfl, hb4⟩
  have hb14 := below_trans ba (below_trans hb13 hb4)
  go_wp2_with fail
  refine (okI n s _ hn hs (ml_below HM.out hb14)).mono ?_
  rintro e w5 ⟨rfl, hb5⟩
  have hr : (tOk n s != tOk n s) = false := by simp
  go_wp2
  go_ret
  exact ⟨rfl, below_trans hb14 hb5⟩

set_option maxHeartbeats 4000000 in
theorem walkFnExactTypeText (n s : ByteArray) (w : World) (hn : n.size ≤ 9223372036854775807) (hs : s.size ≤ 9223372036854775807) (hM : Ml w) :
    Calls Tryd.prog 4 #[.agg #[.string n, .string s]] w fun e w' => e = .returned (.bool true) ∧ Below w.heap.size w w' := by
  have ba := below_alloc w (Obj.cells #[Value.string n, Value.string s] 23)
  have G := Lib.hid (heap_alloc_new w (Obj.cells #[Value.string n, Value.string s] 23))
  have HM := Lib.hid hM
  clear hM
  go_enter Tryd.func4, Tryd.ntmps4
  go_wp2_with fail
  refine (szT n s _ hn hs).mono ?_
  rintro e w1 ⟨rfl, hb1⟩
  by_cases hv : n.size + s.size ≤ 1048576
  case neg =>
    rw [show lft n s = -1 from by rw [lft, if_neg hv]]
    go_wp2
    go_ret
    exact ⟨rfl, below_trans ba hb1⟩
  obtain ⟨L, hL⟩ : ∃ L : Nat, (1048576 : Int) - n.size - s.size = (L : Int) := ⟨1048576 - n.size - s.size, by omega⟩
  rw [show lft n s = (L : Int) from by rw [lft, if_pos hv, hL]]
  have hL0 : ¬ (L : Int) < 0 := by omega
  replace hn : n.size ≤ 1048576 := by omega
  replace hs : s.size ≤ 1048576 := by omega
  clear hL hv
  obtain ⟨p0, p1⟩ := keep2 hb1 G.out
  go_wp2_with fail
  refine (toT n s _).mono ?_
  rintro e w2 ⟨rfl, hb2⟩
  go_wp2_with fail
  refine (txS n s _ hn hs).mono ?_
  rintro e w3 ⟨rfl, hb3⟩
  have hb13 := below_trans hb1 (below_trans hb2 hb3)
  clear p0 p1
  obtain ⟨p0, p1⟩ := keep2 hb13 G.out
  go_wp2_with fail
  refine (toT n s _).mono ?_
  rintro e w4 ⟨rfl, hb4⟩
  have hb14 := below_trans ba (below_trans hb13 hb4)
  go_wp2_with fail
  refine (txI n s _ hn hs (ml_below HM.out hb14)).mono ?_
  rintro e w5 ⟨rfl, hb5⟩
  obtain ⟨x, hx⟩ : ∃ x, tTx n s = x := ⟨_, rfl⟩
  rw [hx]
  clear hx
  go_wp2
  go_ret
  exact ⟨rfl, below_trans hb14 hb5⟩
end Ty
end Go.Proofs.YtbccniijnaegaaaDoor
