/- What is proved: the laws' test whether two lists of names with values are the same says yes of one list in two places. -/
import Derived.Test.YtngfhncdmlpjiaaArA
import Derived.Test.YtngfhncdmlpjiaaVe
import Derived.Laws.StructEq
namespace Go.Proofs.Ytngfhncdmlpjiaa
namespace Va
open Go.RowKit
attribute [local go_sem ↓] Go.wp_at_zero Go.wp_at_succ

/-- Two boxes of five, behind what writes nothing old. -/
theorem boxes5 (w : World) (t : TypeId) (c c0 c1 c2 c3 d d0 d1 d2 d3 : Value) : ∃ W1, ((w.alloc (Obj.cells #[c, c0, c1, c2, c3] t)).alloc (Obj.cells #[d, d0, d1, d2, d3] t)) = W1 ∧ Below w.heap.size w W1 ∧ W1.heap.size = w.heap.size + 2 ∧
    W1.heap[w.heap.size]? = some (Obj.cells #[c, c0, c1, c2, c3] t) ∧ W1.heap[w.heap.size + 1]? = some (Obj.cells #[d, d0, d1, d2, d3] t) := by
  refine ⟨_, rfl, (below_alloc _ _).alloc (by simp) _, by simp, ?_, heap_alloc2_new w _ _⟩
  rw [Below.heap_alloc _ _ _ (by simp)]; exact heap_alloc_new w _

theorem eqOneArg (t : ByteArray) (v : V) (w : World) (c0 c1 c2 c3 d0 d1 d2 d3 : Value) (h : At w v c0 c1 c2 c3) (h' : At w v d0 d1 d2 d3) :
    Calls Try.prog 28 #[.agg #[.string t, c0, c1, c2, c3], .agg #[.string t, d0, d1, d2, d3]] w fun e w' => e = .returned (.bool true) ∧ Below w.heap.size w w' := by
  have HA := Lib.hid h
  have HA' := Lib.hid h'
  clear h h'
  go_enter Try.func28, Try.ntmps28
  go_wp2_with fail
  have ba : Below w.heap.size w ((w.alloc (Obj.cells #[.string t, c0, c1, c2, c3] 51)).alloc (Obj.cells #[.string t, d0, d1, d2, d3] 51)) := (below_alloc _ _).alloc (by simp) _
  refine (eqV v _ _ _ _ _ _ _ _ _ (At.below ba v HA.out) (At.below ba v HA'.out)).mono ?_
  rintro e w1 ⟨rfl, hb1⟩
  go_wp2
  go_ret
  exact ⟨rfl, below_trans ba hb1⟩

theorem eqA {n : Nat} {nm : Nat → ByteArray} {it : Nat → V} {c d : Value} (w : World) (h : Ars w n nm it c) (h' : Ars w n nm it d) :
    Calls Try.prog 14 #[c, d] w fun e w' => e = .returned (.bool true) ∧ Below w.heap.size w w' := by
  have HI := h
  have HI' := h'
  obtain ⟨A, cap, rfl, hm, -⟩ := h
  obtain ⟨A', cap', rfl, -, -⟩ := h'
  unfold maxLen at hm
  go_enter Try.func14, Try.ntmps14
  go_wp2
  go_loopw [5] (fun i wr => ∃ k : Nat, k ≤ n ∧ i = .int .i64 k ∧ Below w.heap.size w wr) (fun i _ => n - (intOf i).toNat)
  case atStart => exact ⟨0, Nat.zero_le _, rfl, Below.refl _ _⟩
  case round =>
    obtain ⟨k, hk, rfl, hbel⟩ := hrel
    by_cases hlt : k < n
    · have hk0 : (0 : Int) ≤ (k : Int) := by omega
      have hk1 : (k : Int) < (n : Int) := by omega
      obtain ⟨b, o, c0, c1, c2, c3, e2, hf, -, hat⟩ := (HI.below hbel).nth hlt
      subst e2
      obtain ⟨b', o', d0, d1, d2, d3, e2, hf', -, hat'⟩ := (HI'.below hbel).nth hlt
      subst e2
      obtain ⟨fn, f0, f1, f2, f3⟩ := hf
      obtain ⟨gn, g0, g1, g2, g3⟩ := hf'
      have cd : Calls Try.prog 28 #[.agg #[.string (nm k), c0, c1, c2, c3], .agg #[.string (nm k), d0, d1, d2, d3]] wr.drew fun e w' => e = .returned (.bool true) ∧ Below wr.heap.size wr w' :=
        (eqOneArg (nm k) (it k) wr.drew c0 c1 c2 c3 d0 d1 d2 d3 (At.below (below_drew _) _ hat) (At.below (below_drew _) _ hat')).mono fun e w' ⟨he, hb⟩ => ⟨he, below_trans (below_drew wr) hb⟩
      go_wp2
      go_region_with (go_at_call 28; refine cd.mono ?_; rintro e w1 ⟨rfl, hb1⟩)
      all_goals go_wp2
      all_goals go_roundw
      case' rel => exact ⟨k + 1, by omega, by go_num, below_trans hbel hb1⟩
      case' measure => simp [intOf]; omega
      case' rel => exact ⟨k + 1, by omega, by go_num, below_trans hbel hb1⟩
      case' measure => simp [intOf]; omega
    · go_wp2
      go_ret
      exact ⟨rfl, hbel⟩
end Va
end Go.Proofs.Ytngfhncdmlpjiaa
