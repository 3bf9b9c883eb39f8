/- What is proved: the law of AllSels, walked. -/
import Derived.Test.YtfnieelghfkbdaaDaGo
namespace Go.Proofs.Ytfnieelghfkbdaa
namespace Da
theorem walkFnExactAllSels (d : D) (hsh : Sh d (.lst .sel)) (w : World) (c : Value) (h : At w d c) :
    Calls Try.prog 3 #[c] w fun e w' => e = .returned (.bool true) ∧ Go.RowKit.Below w.heap.size w w' :=
  walkAllSels (fun d hsh w c hs h => allSelsI d hsh hs w c h) d hsh w c h
end Da
end Go.Proofs.Ytfnieelghfkbdaa
