/- What is proved: what the laws' helpers that count data answer: what is left, or -1. (Made by tools/mkdaz.py.) -/
import Derived.Test.YtfljibjlfjgajaaDaA
import Derived.WalkSpells
import Derived.WalkLawsBesides
import Derived.OwnWalk
import Derived.Deep.AppendLies
import Derived.Deep.QuietTactic
import Derived.BigQuiet
import Derived.Laws.IdiomStrings
import Derived.Lib.Slices
import Derived.Lib.Hide
import Derived.Deep.RegionHeld3
import Derived.Deep.DrawnRows
namespace Go.Proofs.Ytfljibjlfjgajaa
namespace Da
set_option linter.unusedVariables false
set_option linter.unusedSimpArgs false
open Go.RowKit
attribute [local go_sem ↓] Go.wp_at_zero Go.wp_at_succ

/-- The contract of a list. -/
def SzL (fid : Nat) (d : D) : Prop := ∀ (w : World) (l : Nat) (c : Value), l ≤ 1048576 → At w d c →
  Calls Try.prog fid #[c, .int .i64 l] w fun e w' => e = .returned (.int .i64 (left l (sz d))) ∧ Below w.heap.size w w'
theorem left_pos {l s : Nat} (h : s ≤ l) : left l s = ((l - s : Nat) : Int) := by unfold left; rw [if_pos h]; omega
theorem left_neg {l s : Nat} (h : ¬ s ≤ l) : left l s = -1 := by unfold left; rw [if_neg h]

theorem cell_of {w : World} {g : Nat} {cur : Array Value} {t : TypeId} {fr : Nat × Nat} (h : w.heap[g]? = some (.cells cur t fr)) (j : Nat) : w.cell? ⟨g, j, none⟩ = cur[j]? := by simp [World.cell?, h]
end Da
end Go.Proofs.Ytfljibjlfjgajaa
