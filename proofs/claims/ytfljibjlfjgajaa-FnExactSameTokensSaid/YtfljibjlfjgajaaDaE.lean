/- What is proved: the laws' tests whether data are the same say yes of one datum in two places. (Made by tools/mkdae.py.) -/
import Derived.Test.YtfljibjlfjgajaaDaW
import Derived.Deep.RegionWith
import Derived.Laws.StructEq
namespace Go.Proofs.Ytfljibjlfjgajaa
namespace Da
set_option linter.unusedVariables false
set_option linter.unusedSimpArgs false
open Go.RowKit
attribute [local go_sem ↓] Go.wp_at_zero Go.wp_at_succ

/-- The contract of a list. -/
def EqL (fid : Nat) (d : D) : Prop := ∀ (w : World) (c c' : Value), At w d c → At w d c' →
  Calls Try.prog fid #[c, c'] w fun e w' => e = .returned (.bool true) ∧ Below w.heap.size w w'
end Da
end Go.Proofs.Ytfljibjlfjgajaa
