/- What is proved: how a type (a struct of two texts) is read off an argument. Used by the proofs on types. -/
import Derived.Test.YtbccniijnaegaaaDoorChecked
import Derived.WalkKit
import Derived.ProofKit
import Derived.OpenShut
import Derived.Deep.Strs
import Derived.Deep.OwnRows
import Derived.Lib.SmallJoins
import Derived.Below
import Derived.Carry
import Derived.KernelRfl
namespace Go.Proofs.YtbccniijnaegaaaDoor
namespace Ty
open Go.RowKit Go.Deep Go.WideShapes
section
variable {H : Type} {enc : TypeId × Value → H} {W : World} {spare : Nat → Bool} {held : Bool}
theorem und9 : Tryd.prog.underlying 9 = some .string := by kernel_rfl
theorem undT : ∃ f0 f1, Tryd.prog.underlying 23 = some (.struct #[f0, f1]) ∧ oneCellFields Tryd.prog #[f0, f1] = true ∧ f0.type = 9 ∧ f1.type = 9 :=
  ⟨_, _, Tryd.underlying23, (by kernel_rfl), rfl, rfl⟩
theorem cellsT : Tryd.prog.cellsOf 23 = 2 := by kernel_rfl

theorem at_of {fuel : Nat} {cs : List Value} {x : DataW H × List MemPlace} (h : DataW.trod enc Tryd.prog W 0 spare held fuel 23 cs = some x) :
    ∃ n s : ByteArray, cs = [.string n, .string s] ∧ n.size ≤ 9223372036854775807 ∧ s.size ≤ 9223372036854775807 := by
  obtain ⟨f0, f1, hs, hone, t0, t1⟩ := undT
  obtain ⟨xs, n, rfl, -, hlen, hxs, hf⟩ := DataW.trod_struct hs h
  rw [cellsT] at hlen
  match cs, hlen, xs, hxs with
  | [c0, c1], _, [y0, y1], _ =>
    obtain ⟨o0, k0⟩ := hone_of hone 0 f0 rfl
    obtain ⟨o1, k1⟩ := hone_of hone 1 f1 rfl
    have g0 := hf 0 f0 rfl
    have g1 := hf 1 f1 rfl
    rw [o0, k0, t0] at g0
    rw [o1, k1, t1] at g1
    simp at g0 g1
    obtain ⟨a, e0, -, ha⟩ := DataW.trod_string und9 g0
    obtain ⟨b, e1, -, hb⟩ := DataW.trod_string und9 g1
    unfold maxLen at ha hb
    refine ⟨a, b, ?_, by omega, by omega⟩
    simp only [List.cons.injEq, and_true] at e0 e1
    rw [e0, e1]

/-- A type that came in, opened. -/
theorem opened {base : Nat} {v : Value} {d : DataW H} {p : List MemPlace} (hv : Value.okWide Tryd.prog W .any base 23 v) (h : DataW.Trod enc Tryd.prog W 0 spare held 23 v d p) :
    ∃ n s : ByteArray, v = .agg #[.string n, .string s] ∧ n.size ≤ 9223372036854775807 ∧ s.size ≤ 9223372036854775807 := by
  obtain ⟨f0, f1, hs, hone, -⟩ := undT
  obtain ⟨cs, rfl, -⟩ := okWide_struct hs hv
  obtain ⟨fuel, hf⟩ := h
  obtain ⟨n, s, e, hn, hs⟩ := at_of hf
  refine ⟨n, s, ?_, hn, hs⟩
  simp only [Value.cells] at e
  obtain ⟨l⟩ := cs
  subst e; rfl
end
end Ty
end Go.Proofs.YtbccniijnaegaaaDoor
