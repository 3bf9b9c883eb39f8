/- What is proved: types (a name and its wraps, two texts): what the laws' helpers answer that count one, copy one and hold two against each other. -/
import Derived.Test.YtbccniijnaegaaaChecked
import Derived.WalkKit
import Derived.Below
import Derived.WalkSpells
import Derived.WalkLawsBesides
import Derived.OwnWalk
import Derived.Deep.AppendLies
import Derived.Deep.QuietTactic
import Derived.BigQuiet
import Derived.Laws.IdiomStrings
import Derived.Lib.Slices
import Derived.Lib.Hide
import Derived.Deep.RegionHeld3
import Derived.Deep.DrawnRows
import Derived.Deep.OwnRows
import Derived.Handy
import Derived.Lib.SmallJoins
import Derived.KernelRfl
namespace Go.Proofs.Ytbccniijnaegaaa
namespace Ty
open Go.RowKit
attribute [local go_sem ↓] Go.wp_at_zero Go.wp_at_succ

theorem below_alloc (w : World) (o : Obj) : Below w.heap.size w (w.alloc o) := (Below.refl _ w).alloc (Nat.le_refl _) o
theorem below_trans {a b c : World} (h : Below a.heap.size a b) (k : Below b.heap.size b c) : Below a.heap.size a c := h.trans (k.mono h.size)
theorem keep2 {W x : World} {B : Nat} {t : TypeId} {c0 c1 : Value} (hb : Below W.heap.size W x) (h : W.heap[B]? = some (Obj.cells #[c0, c1] t)) :
    x.cell? ⟨B, 0, none⟩ = some c0 ∧ x.cell? ⟨B, 1, none⟩ = some c1 := by
  have hl : B < W.heap.size := by
    rcases Nat.lt_or_ge B W.heap.size with h1 | h1
    · exact h1
    · rw [Array.getElem?_eq_none h1] at h; cases h
  have h2 := (hb.block B hl).trans h
  constructor <;> simp [World.cell?, h2]
theorem cell_of {w : World} {g : Nat} {cur : Array Value} {t : TypeId} {fr : Nat × Nat} (h : w.heap[g]? = some (.cells cur t fr)) (j : Nat) : w.cell? ⟨g, j, none⟩ = cur[j]? := by simp [World.cell?, h]
theorem frozen_no {w : World} {g : Nat} {cur : Array Value} {t : TypeId} (h : w.heap[g]? = some (.cells cur t (0, 0))) (j : Nat) : w.frozen? ⟨g, j, none⟩ = false := by simp [World.frozen?, h]
/-- Two blocks that are made one behind the other. -/
theorem two (w : World) (o1 o2 : Obj) : ((w.alloc o1).alloc o2).heap[w.heap.size]? = some o1 ∧ ((w.alloc o1).alloc o2).heap[w.heap.size + 1]? = some o2 ∧ Below w.heap.size w ((w.alloc o1).alloc o2) ∧ ((w.alloc o1).alloc o2).heap.size = w.heap.size + 2 := by
  refine ⟨?_, ?_, (below_alloc _ _).alloc (by simp) _, by simp⟩
  · rw [Below.heap_alloc _ _ _ (by simp)]; exact heap_alloc_new w _
  · have := heap_alloc_new (w.alloc o1) o2
    simpa using this
/-- What is left of 2^20 when a type is taken, or -1. -/
def lft (n s : ByteArray) : Int := if n.size + s.size ≤ 1048576 then 1048576 - (n.size : Int) - (s.size : Int) else -1

set_option maxHeartbeats 1000000 in
theorem szT (n s : ByteArray) (w : World) (hn : n.size ≤ 9223372036854775807) (hs : s.size ≤ 9223372036854775807) :
    Calls Try.prog 5 #[.agg #[.string n, .string s], .int .i64 1048576] w fun e w' => e = .returned (.int .i64 (lft n s)) ∧ Below w.heap.size w w' := by
  obtain ⟨R, hR⟩ : ∃ R, lft n s = R := ⟨_, rfl⟩
  rw [hR]
  have HR := Lib.hid hR
  clear hR
  by_cases h0 : (1048576 : Int) - n.size < 0
  · go_enter Try.func5, Try.ntmps5
    go_wp2
    go_ret
    have := HR.out
    rw [lft, if_neg (by omega)] at this
    subst this; exact ⟨rfl, below_alloc _ _⟩
  · by_cases h1 : (1048576 : Int) - n.size - s.size < 0
    · go_enter Try.func5, Try.ntmps5
      go_wp2
      go_ret
      have := HR.out
      rw [lft, if_neg (by omega)] at this
      subst this; exact ⟨rfl, below_alloc _ _⟩
    · go_enter Try.func5, Try.ntmps5
      go_wp2
      go_ret
      have := HR.out
      rw [lft, if_pos (by omega)] at this
      subst this; exact ⟨rfl, below_alloc _ _⟩

set_option maxHeartbeats 1000000 in
theorem toT (n s : ByteArray) (w : World) :
    Calls Try.prog 7 #[.agg #[.string n, .string s]] w fun e w' => e = .returned (.agg #[.string n, .string s]) ∧ Below w.heap.size w w' := by
  go_enter Try.func7, Try.ntmps7
  go_wp2
  have hg : (((w.alloc (Obj.cells #[Value.string n, Value.string s] 23)).alloc (Obj.cells #[Value.string n, Value.string s] 26)).alloc (Obj.cells #[Value.string n, Value.string s] 26)).heap[w.heap.size + 1]? = some (Obj.cells #[Value.string n, Value.string s] 26) := by
    rw [Below.heap_alloc _ _ _ (by simp)]
    have := heap_alloc_new (w.alloc (Obj.cells #[Value.string n, Value.string s] 23)) (Obj.cells #[Value.string n, Value.string s] 26)
    simpa using this
  refine bodyPost_ret (results_cell_row rfl _ _ (w.heap.size + 1) _ _ _ _ rfl hg Try.underlying26 rfl (by kernel_rfl)) rfl ?_
  exact ⟨rfl, ((below_alloc _ _).alloc (by simp) _).alloc (by simp; omega) _⟩
end Ty
end Go.Proofs.Ytbccniijnaegaaa
