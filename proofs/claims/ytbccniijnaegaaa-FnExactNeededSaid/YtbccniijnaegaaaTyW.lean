/- What is proved: the laws of Needed and Fewer, walked: the program's answer is the model's, and nothing that was handed in has turned. -/
import Derived.Test.YtbccniijnaegaaaTyB
namespace Go.Proofs.Ytbccniijnaegaaa
namespace Ty
open Go.RowKit
attribute [local go_sem ↓] Go.wp_at_zero Go.wp_at_succ

set_option maxHeartbeats 4000000 in
theorem walkFnExactNeeded (n s : ByteArray) (w : World) (hn : n.size ≤ 9223372036854775807) (hs : s.size ≤ 9223372036854775807) :
    Calls Try.prog 3 #[.agg #[.string n, .string s]] w fun e w' => e = .returned (.bool true) ∧ Below w.heap.size w w' := by
  have ba := below_alloc w (Obj.cells #[Value.string n, Value.string s] 23)
  have G := Lib.hid (heap_alloc_new w (Obj.cells #[Value.string n, Value.string s] 23))
  go_enter Try.func3, Try.ntmps3
  go_wp2_with fail
  refine (szT n s _ hn hs).mono ?_
  rintro e w1 ⟨rfl, hb1⟩
  by_cases hv : n.size + s.size ≤ 1048576
  case neg =>
    rw [show lft n s = -1 from by rw [lft, if_neg hv]]
    go_wp2
    go_ret
    exact ⟨rfl, below_trans ba hb1⟩
  obtain ⟨L, hL⟩ : ∃ L : Nat, (1048576 : Int) - n.size - s.size = (L : Int) := ⟨1048576 - n.size - s.size, by omega⟩
  rw [show lft n s = (L : Int) from by rw [lft, if_pos hv, hL]]
  have hL0 : ¬ (L : Int) < 0 := by omega
  replace hs : s.size ≤ 140737488355328 := by omega
  clear hL
  obtain ⟨p0, p1⟩ := keep2 hb1 G.out
  go_wp2_with fail
  refine (toT n s _).mono ?_
  rintro e w2 ⟨rfl, hb2⟩
  go_wp2_with fail
  refine (needS n s _ hs).mono ?_
  rintro e w3 ⟨rfl, hb3⟩
  have hb13 := below_trans hb1 (below_trans hb2 hb3)
  clear p0 p1
  obtain ⟨p0, p1⟩ := keep2 hb13 G.out
  go_wp2_with fail
  refine (toT n s _).mono ?_
  rintro e w4 ⟨rfl, hb4⟩
  go_wp2_with fail
  refine (needI n s _ hs).mono ?_
  rintro e w5 ⟨rfl, hb5⟩
  have hb15 := below_trans hb13 (below_trans hb4 hb5)
  have hr : (nd s != nd s) = false := by simp
  go_wp2
  go_ret
  exact ⟨rfl, below_trans ba hb15⟩

set_option maxHeartbeats 4000000 in
theorem walkFnExactFewer (n s : ByteArray) (w : World) (hn : n.size ≤ 9223372036854775807) (hs : s.size ≤ 9223372036854775807) :
    Calls Try.prog 4 #[.agg #[.string n, .string s]] w fun e w' => e = .returned (.bool true) ∧ Below w.heap.size w w' := by
  have ba := below_alloc w (Obj.cells #[Value.string n, Value.string s] 23)
  have G := Lib.hid (heap_alloc_new w (Obj.cells #[Value.string n, Value.string s] 23))
  go_enter Try.func4, Try.ntmps4
  go_wp2_with fail
  refine (szT n s _ hn hs).mono ?_
  rintro e w1 ⟨rfl, hb1⟩
  by_cases hv : n.size + s.size ≤ 1048576
  case neg =>
    rw [show lft n s = -1 from by rw [lft, if_neg hv]]
    go_wp2
    go_ret
    exact ⟨rfl, below_trans ba hb1⟩
  obtain ⟨L, hL⟩ : ∃ L : Nat, (1048576 : Int) - n.size - s.size = (L : Int) := ⟨1048576 - n.size - s.size, by omega⟩
  rw [show lft n s = (L : Int) from by rw [lft, if_pos hv, hL]]
  have hL0 : ¬ (L : Int) < 0 := by omega
  replace hs : s.size ≤ 140737488355328 := by omega
  clear hL
  obtain ⟨p0, p1⟩ := keep2 hb1 G.out
  go_wp2_with fail
  refine (toT n s _).mono ?_
  rintro e w2 ⟨rfl, hb2⟩
  go_wp2_with fail
  refine (fewS n s _ hs).mono ?_
  rintro e w3 ⟨rfl, hb3⟩
  obtain ⟨x, hx⟩ : ∃ x, fw s = x := ⟨_, rfl⟩
  rw [hx]
  have b3 := below_alloc w3 (Obj.cells #[Value.string n, Value.string x] 26)
  have X3 := Lib.hid (heap_alloc_new w3 (Obj.cells #[Value.string n, Value.string x] 26))
  have hb14 := below_trans (below_trans hb1 (below_trans hb2 hb3)) b3
  clear p0 p1
  obtain ⟨p0, p1⟩ := keep2 hb14 G.out
  go_wp2_with fail
  refine (toT n s _).mono ?_
  rintro e w4 ⟨rfl, hb4⟩
  go_wp2_with fail
  refine (fewI n s _ hs).mono ?_
  rintro e w5 ⟨rfl, hb5⟩
  rw [hx]
  have b5 := below_alloc w5 (Obj.cells #[Value.string n, Value.string x] 26)
  have hb46 := below_trans hb4 (below_trans hb5 b5)
  have hb16 := below_trans hb14 hb46
  obtain ⟨q0, q1⟩ := keep2 hb46 X3.out
  clear hx
  go_wp2_with fail
  refine (eqT n x _).mono ?_
  rintro e w6 ⟨rfl, hb6⟩
  go_wp2
  go_ret
  exact ⟨rfl, below_trans ba (below_trans hb16 hb6)⟩
end Ty
end Go.Proofs.Ytbccniijnaegaaa
