/- What is proved: how tokens lie in memory, read off an argument. (Made by tools/mkdba.py.) -/
import Derived.Test.YtfljibjlfjgajaaDaA1
namespace Go.Proofs.Ytfljibjlfjgajaa
namespace Da
set_option linter.unusedVariables false
set_option linter.unusedSimpArgs false
open Go.RowKit Go.Deep Go.WideShapes

section
variable {H : Type} {enc : TypeId × Value → H} {w : World} {spare : Nat → Bool} {held : Bool}
theorem cellsToken : Try.prog.cellsOf 23 = 3 := by kernel_rfl
theorem undToken_ : ∃ f0 f1 f2, Try.prog.underlying 23 = some (.struct #[f0, f1, f2]) ∧ f0.type = 3 ∧ f0.offset = 0 ∧ f1.type = 9 ∧ f1.offset = 1 ∧ f2.type = 3 ∧ f2.offset = 2 :=
  ⟨_, _, _, Try.underlying23, rfl, rfl, rfl, rfl, rfl, rfl⟩
set_option maxHeartbeats 1000000 in
theorem token_of {fuel : Nat} {cs : List Value} {x : DataW H × List MemPlace} (h : DataW.trod enc Try.prog w 0 spare held fuel 23 cs = some x) : RowAt w .token cs := by
  obtain ⟨f0, f1, f2, hs, t0, o0, t1, o1, t2, o2⟩ := undToken_
  obtain ⟨xs, n, rfl, -, hlen, hxs, hf⟩ := DataW.trod_struct hs h
  have hxs : xs.length = 3 := hxs
  rw [cellsToken] at hlen
  obtain ⟨c0, c1, c2, rfl⟩ := lenB3 hlen
  have g0 := hf 0 f0 rfl
  rw [t0, o0, show Try.prog.cellsOf 3 = 1 from by kernel_rfl, List.getElem?_eq_getElem (show 0 < xs.length by omega)] at g0
  simp only [List.drop_zero, List.drop_succ_cons, List.take_succ_cons, List.take_zero] at g0
  obtain ⟨k0, e0, -, -⟩ := DataW.trod_int und3 g0
  obtain rfl : c0 = .int .i64 k0 := by simpa using e0
  have g1 := hf 1 f1 rfl
  rw [t1, o1, show Try.prog.cellsOf 9 = 1 from by kernel_rfl, List.getElem?_eq_getElem (show 1 < xs.length by omega)] at g1
  simp only [List.drop_zero, List.drop_succ_cons, List.take_succ_cons, List.take_zero] at g1
  obtain ⟨k1, e1, -, q1⟩ := DataW.trod_string und9 g1
  obtain rfl : c1 = .string k1 := by simpa using e1
  have g2 := hf 2 f2 rfl
  rw [t2, o2, show Try.prog.cellsOf 3 = 1 from by kernel_rfl, List.getElem?_eq_getElem (show 2 < xs.length by omega)] at g2
  simp only [List.drop_zero, List.drop_succ_cons, List.take_succ_cons, List.take_zero] at g2
  obtain ⟨k2, e2, -, -⟩ := DataW.trod_int und3 g2
  obtain rfl : c2 = .int .i64 k2 := by simpa using e2
  exact ⟨nthD [.int k0, .str k1, .int k2], rfl, (sh_cons rfl (sh_cons rfl (sh_cons rfl sh_nil))), (at_cons rfl (at_cons ⟨rfl, q1⟩ (at_cons rfl at_nil)))⟩
theorem undTokenL : Try.prog.underlying 29 = some (.slice 23) := by kernel_rfl
theorem tokens_of {fuel : Nat} {c : Value} {x : DataW H × List MemPlace} (h : DataW.trod enc Try.prog w 0 spare held fuel 29 [c] = some x) : ∃ d, Sh d (.lst .token) ∧ At w d c :=
  lst_of (k := .token) undTokenL cellsToken (by simp [row]) (fun _ _ => token_of) h
end
end Da
end Go.Proofs.Ytfljibjlfjgajaa
