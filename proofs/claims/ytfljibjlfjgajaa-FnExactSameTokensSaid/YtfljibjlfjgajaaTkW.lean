/- What is proved: the law of SameTokens, walked: the program's answer is the model's, whatever the two lists of tokens. -/
import Derived.Test.YtfljibjlfjgajaaTkS
import Derived.Test.YtfljibjlfjgajaaDwSameTokens
namespace Go.Proofs.Ytfljibjlfjgajaa
namespace Da
set_option linter.unusedVariables false
open Go.RowKit

theorem walkFnExactSameTokens (d0 : D) (hsh0 : Sh d0 (.lst .token)) (d1 : D) (hsh1 : Sh d1 (.lst .token)) (w : World) (c0 c1 : Value) (a0 : At w d0 c0) (a1 : At w d1 c1) :
    Calls Try.prog 4 #[c0, c1] w fun e w' => e = .returned (.bool true) ∧ Below w.heap.size w w' :=
  walkSameTokens d0 hsh0 d1 hsh1 (Dc.tkL d0 d1) (fun x c c' h h' => Dc.tokenS hsh0 hsh1 x c c' h h') (fun x c c' h h' => Dc.tokensI hsh0 hsh1 x c c' h h') w c0 c1 a0 a1
end Da
end Go.Proofs.Ytfljibjlfjgajaa
