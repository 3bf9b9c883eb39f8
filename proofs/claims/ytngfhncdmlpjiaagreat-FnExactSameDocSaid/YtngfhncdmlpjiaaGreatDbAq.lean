/- What is proved: how documents and what they are made of lie in memory, read off an argument. (Made by tools/mkdba.py.) -/
import Derived.Test.YtngfhncdmlpjiaaGreatDaA
namespace Go.Proofs.YtngfhncdmlpjiaaGreat
namespace Da
set_option linter.unusedVariables false
set_option linter.unusedSimpArgs false
open Go.RowKit Go.Deep Go.WideShapes

theorem und4 : Tryz.prog.underlying 4 = some .bool := by kernel_rfl
theorem lenB2 {α : Type} : ∀ {L : List α}, L.length = 2 → ∃ a0 a1, L = [a0, a1]
  | [a0, a1], _ => ⟨_, _, rfl⟩
theorem lenB3 {α : Type} : ∀ {L : List α}, L.length = 3 → ∃ a0 a1 a2, L = [a0, a1, a2]
  | [a0, a1, a2], _ => ⟨_, _, _, rfl⟩
theorem lenB4 {α : Type} : ∀ {L : List α}, L.length = 4 → ∃ a0 a1 a2 a3, L = [a0, a1, a2, a3]
  | [a0, a1, a2, a3], _ => ⟨_, _, _, _, rfl⟩
theorem lenB5 {α : Type} : ∀ {L : List α}, L.length = 5 → ∃ a0 a1 a2 a3 a4, L = [a0, a1, a2, a3, a4]
  | [a0, a1, a2, a3, a4], _ => ⟨_, _, _, _, _, rfl⟩
theorem lenB6 {α : Type} : ∀ {L : List α}, L.length = 6 → ∃ a0 a1 a2 a3 a4 a5, L = [a0, a1, a2, a3, a4, a5]
  | [a0, a1, a2, a3, a4, a5], _ => ⟨_, _, _, _, _, _, rfl⟩
theorem lenB9 {α : Type} : ∀ {L : List α}, L.length = 9 → ∃ a0 a1 a2 a3 a4 a5 a6 a7 a8, L = [a0, a1, a2, a3, a4, a5, a6, a7, a8]
  | [a0, a1, a2, a3, a4, a5, a6, a7, a8], _ => ⟨_, _, _, _, _, _, _, _, _, rfl⟩
theorem lenB10 {α : Type} : ∀ {L : List α}, L.length = 10 → ∃ a0 a1 a2 a3 a4 a5 a6 a7 a8 a9, L = [a0, a1, a2, a3, a4, a5, a6, a7, a8, a9]
  | [a0, a1, a2, a3, a4, a5, a6, a7, a8, a9], _ => ⟨_, _, _, _, _, _, _, _, _, _, rfl⟩
theorem lenB11 {α : Type} : ∀ {L : List α}, L.length = 11 → ∃ a0 a1 a2 a3 a4 a5 a6 a7 a8 a9 a10, L = [a0, a1, a2, a3, a4, a5, a6, a7, a8, a9, a10]
  | [a0, a1, a2, a3, a4, a5, a6, a7, a8, a9, a10], _ => ⟨_, _, _, _, _, _, _, _, _, _, _, rfl⟩
theorem lenB21 {α : Type} : ∀ {L : List α}, L.length = 21 → ∃ a0 a1 a2 a3 a4 a5 a6 a7 a8 a9 a10 a11 a12 a13 a14 a15 a16 a17 a18 a19 a20, L = [a0, a1, a2, a3, a4, a5, a6, a7, a8, a9, a10, a11, a12, a13, a14, a15, a16, a17, a18, a19, a20]
  | [a0, a1, a2, a3, a4, a5, a6, a7, a8, a9, a10, a11, a12, a13, a14, a15, a16, a17, a18, a19, a20], _ => ⟨_, _, _, _, _, _, _, _, _, _, _, _, _, _, _, _, _, _, _, _, _, rfl⟩
section
variable {H : Type} {enc : TypeId × Value → H} {w : World} {spare : Nat → Bool} {held : Bool}
theorem cellsType : Tryz.prog.cellsOf 141 = 2 := by kernel_rfl
theorem undType_ : ∃ f0 f1, Tryz.prog.underlying 141 = some (.struct #[f0, f1]) ∧ f0.type = 9 ∧ f0.offset = 0 ∧ f1.type = 9 ∧ f1.offset = 1 :=
  ⟨_, _, Tryz.underlying141, rfl, rfl, rfl, rfl⟩
set_option maxHeartbeats 1000000 in
theorem type_of {fuel : Nat} {cs : List Value} {x : DataW H × List MemPlace} (h : DataW.trod enc Tryz.prog w 0 spare held fuel 141 cs = some x) : RowAt w .typ cs := by
  obtain ⟨f0, f1, hs, t0, o0, t1, o1⟩ := undType_
  obtain ⟨xs, n, rfl, -, hlen, hxs, hf⟩ := DataW.trod_struct hs h
  have hxs : xs.length = 2 := hxs
  rw [cellsType] at hlen
  obtain ⟨c0, c1, rfl⟩ := lenB2 hlen
  have g0 := hf 0 f0 rfl
  rw [t0, o0, show Tryz.prog.cellsOf 9 = 1 from by kernel_rfl, List.getElem?_eq_getElem (show 0 < xs.length by omega)] at g0
  simp only [List.drop_zero, List.drop_succ_cons, List.take_succ_cons, List.take_zero] at g0
  obtain ⟨k0, e0, -, q0⟩ := DataW.trod_string und9 g0
  obtain rfl : c0 = .string k0 := by simpa using e0
  have g1 := hf 1 f1 rfl
  rw [t1, o1, show Tryz.prog.cellsOf 9 = 1 from by kernel_rfl, List.getElem?_eq_getElem (show 1 < xs.length by omega)] at g1
  simp only [List.drop_zero, List.drop_succ_cons, List.take_succ_cons, List.take_zero] at g1
  obtain ⟨k1, e1, -, q1⟩ := DataW.trod_string und9 g1
  obtain rfl : c1 = .string k1 := by simpa using e1
  exact ⟨nthD [.str k0, .str k1], rfl, (sh_cons rfl (sh_cons rfl sh_nil)), (at_cons ⟨rfl, q0⟩ (at_cons ⟨rfl, q1⟩ at_nil))⟩
end
end Da
end Go.Proofs.YtngfhncdmlpjiaaGreat
namespace Go.Proofs.YtngfhncdmlpjiaaGreat
namespace Da
set_option linter.unusedVariables false
set_option linter.unusedSimpArgs false
open Go.RowKit Go.Deep Go.WideShapes

section
variable {H : Type} {enc : TypeId × Value → H} {w : World} {spare : Nat → Bool} {held : Bool}
theorem cellsVarDef : Tryz.prog.cellsOf 146 = 9 := by kernel_rfl
theorem undVarDef_ : ∃ f0 f1 f2 f3 f4, Tryz.prog.underlying 146 = some (.struct #[f0, f1, f2, f3, f4]) ∧ f0.type = 9 ∧ f0.offset = 0 ∧ f1.type = 141 ∧ f1.offset = 1 ∧ f2.type = 4 ∧ f2.offset = 3 ∧ f3.type = 144 ∧ f3.offset = 4 ∧ f4.type = 59 ∧ f4.offset = 8 :=
  ⟨_, _, _, _, _, Tryz.underlying146, rfl, rfl, rfl, rfl, rfl, rfl, rfl, rfl, rfl, rfl⟩
set_option maxHeartbeats 1000000 in
theorem varDef_of {fuel : Nat} {cs : List Value} {x : DataW H × List MemPlace} (h : DataW.trod enc Tryz.prog w 0 spare held fuel 146 cs = some x) : RowAt w .vardef cs := by
  obtain ⟨f0, f1, f2, f3, f4, hs, t0, o0, t1, o1, t2, o2, t3, o3, t4, o4⟩ := undVarDef_
  obtain ⟨xs, n, rfl, -, hlen, hxs, hf⟩ := DataW.trod_struct hs h
  have hxs : xs.length = 5 := hxs
  rw [cellsVarDef] at hlen
  obtain ⟨c0, c1, c2, c3, c4, c5, c6, c7, c8, rfl⟩ := lenB9 hlen
  have g0 := hf 0 f0 rfl
  rw [t0, o0, show Tryz.prog.cellsOf 9 = 1 from by kernel_rfl, List.getElem?_eq_getElem (show 0 < xs.length by omega)] at g0
  simp only [List.drop_zero, List.drop_succ_cons, List.take_succ_cons, List.take_zero] at g0
  obtain ⟨k0, e0, -, q0⟩ := DataW.trod_string und9 g0
  obtain rfl : c0 = .string k0 := by simpa using e0
  have g1 := hf 1 f1 rfl
  rw [t1, o1, cellsType, List.getElem?_eq_getElem (show 1 < xs.length by omega)] at g1
  simp only [List.drop_zero, List.drop_succ_cons, List.take_succ_cons, List.take_zero] at g1
  obtain ⟨r1, -, s1, a1⟩ := type_of g1
  have g2 := hf 2 f2 rfl
  rw [t2, o2, show Tryz.prog.cellsOf 4 = 1 from by kernel_rfl, List.getElem?_eq_getElem (show 2 < xs.length by omega)] at g2
  simp only [List.drop_zero, List.drop_succ_cons, List.take_succ_cons, List.take_zero] at g2
  obtain ⟨k2, e2, -⟩ := DataW.trod_bool und4 g2
  obtain rfl : c3 = .bool k2 := by simpa using e2
  have g3 := hf 3 f3 rfl
  rw [t3, o3, cellsV, List.getElem?_eq_getElem (show 3 < xs.length by omega)] at g3
  simp only [List.drop_zero, List.drop_succ_cons, List.take_succ_cons, List.take_zero] at g3
  obtain ⟨r3, -, s3, a3⟩ := value_of n g3
  have g4 := hf 4 f4 rfl
  rw [t4, o4, show Tryz.prog.cellsOf 59 = 1 from by kernel_rfl, List.getElem?_eq_getElem (show 4 < xs.length by omega)] at g4
  simp only [List.drop_zero, List.drop_succ_cons, List.take_succ_cons, List.take_zero] at g4
  obtain ⟨d4, s4, a4⟩ := dirs_of g4
  exact ⟨nthD [.str k0, r1 0, r1 1, .bool k2, r3 0, r3 1, r3 2, r3 3, d4], rfl, (sh_cons rfl (sh_cons (s1 0 _ rfl) (sh_cons (s1 1 _ rfl) (sh_cons rfl (sh_cons (s3 0 _ rfl) (sh_cons (s3 1 _ rfl) (sh_cons (s3 2 _ rfl) (sh_cons (s3 3 _ rfl) (sh_cons s4 sh_nil))))))))), (at_cons ⟨rfl, q0⟩ (at_cons (a1 0 _ rfl) (at_cons (a1 1 _ rfl) (at_cons rfl (at_cons (a3 0 _ rfl) (at_cons (a3 1 _ rfl) (at_cons (a3 2 _ rfl) (at_cons (a3 3 _ rfl) (at_cons a4 at_nil)))))))))⟩
theorem undVarDefL : Tryz.prog.underlying 58 = some (.slice 146) := by kernel_rfl
theorem varDefs_of {fuel : Nat} {c : Value} {x : DataW H × List MemPlace} (h : DataW.trod enc Tryz.prog w 0 spare held fuel 58 [c] = some x) : ∃ d, Sh d (.lst .vardef) ∧ At w d c :=
  lst_of (k := .vardef) undVarDefL cellsVarDef (by simp [row]) (fun _ _ => varDef_of) h
theorem cellsOp : Tryz.prog.cellsOf 62 = 5 := by kernel_rfl
theorem undOp_ : ∃ f0 f1 f2 f3 f4, Tryz.prog.underlying 62 = some (.struct #[f0, f1, f2, f3, f4]) ∧ f0.type = 3 ∧ f0.offset = 0 ∧ f1.type = 9 ∧ f1.offset = 1 ∧ f2.type = 58 ∧ f2.offset = 2 ∧ f3.type = 59 ∧ f3.offset = 3 ∧ f4.type = 60 ∧ f4.offset = 4 :=
  ⟨_, _, _, _, _, Tryz.underlying62, rfl, rfl, rfl, rfl, rfl, rfl, rfl, rfl, rfl, rfl⟩
set_option maxHeartbeats 1000000 in
theorem op_of {fuel : Nat} {cs : List Value} {x : DataW H × List MemPlace} (h : DataW.trod enc Tryz.prog w 0 spare held fuel 62 cs = some x) : RowAt w .op cs := by
  obtain ⟨f0, f1, f2, f3, f4, hs, t0, o0, t1, o1, t2, o2, t3, o3, t4, o4⟩ := undOp_
  obtain ⟨xs, n, rfl, -, hlen, hxs, hf⟩ := DataW.trod_struct hs h
  have hxs : xs.length = 5 := hxs
  rw [cellsOp] at hlen
  obtain ⟨c0, c1, c2, c3, c4, rfl⟩ := lenB5 hlen
  have g0 := hf 0 f0 rfl
  rw [t0, o0, show Tryz.prog.cellsOf 3 = 1 from by kernel_rfl, List.getElem?_eq_getElem (show 0 < xs.length by omega)] at g0
  simp only [List.drop_zero, List.drop_succ_cons, List.take_succ_cons, List.take_zero] at g0
  obtain ⟨k0, e0, -, -⟩ := DataW.trod_int und3 g0
  obtain rfl : c0 = .int .i64 k0 := by simpa using e0
  have g1 := hf 1 f1 rfl
  rw [t1, o1, show Tryz.prog.cellsOf 9 = 1 from by kernel_rfl, List.getElem?_eq_getElem (show 1 < xs.length by omega)] at g1
  simp only [List.drop_zero, List.drop_succ_cons, List.take_succ_cons, List.take_zero] at g1
  obtain ⟨k1, e1, -, q1⟩ := DataW.trod_string und9 g1
  obtain rfl : c1 = .string k1 := by simpa using e1
  have g2 := hf 2 f2 rfl
  rw [t2, o2, show Tryz.prog.cellsOf 58 = 1 from by kernel_rfl, List.getElem?_eq_getElem (show 2 < xs.length by omega)] at g2
  simp only [List.drop_zero, List.drop_succ_cons, List.take_succ_cons, List.take_zero] at g2
  obtain ⟨d2, s2, a2⟩ := varDefs_of g2
  have g3 := hf 3 f3 rfl
  rw [t3, o3, show Tryz.prog.cellsOf 59 = 1 from by kernel_rfl, List.getElem?_eq_getElem (show 3 < xs.length by omega)] at g3
  simp only [List.drop_zero, List.drop_succ_cons, List.take_succ_cons, List.take_zero] at g3
  obtain ⟨d3, s3, a3⟩ := dirs_of g3
  have g4 := hf 4 f4 rfl
  rw [t4, o4, show Tryz.prog.cellsOf 60 = 1 from by kernel_rfl, List.getElem?_eq_getElem (show 4 < xs.length by omega)] at g4
  simp only [List.drop_zero, List.drop_succ_cons, List.take_succ_cons, List.take_zero] at g4
  obtain ⟨d4, s4, a4⟩ := sels_of g4
  exact ⟨nthD [.int k0, .str k1, d2, d3, d4], rfl, (sh_cons rfl (sh_cons rfl (sh_cons s2 (sh_cons s3 (sh_cons s4 sh_nil))))), (at_cons rfl (at_cons ⟨rfl, q1⟩ (at_cons a2 (at_cons a3 (at_cons a4 at_nil)))))⟩
theorem cellsFrag : Tryz.prog.cellsOf 64 = 4 := by kernel_rfl
theorem undFrag_ : ∃ f0 f1 f2 f3, Tryz.prog.underlying 64 = some (.struct #[f0, f1, f2, f3]) ∧ f0.type = 9 ∧ f0.offset = 0 ∧ f1.type = 9 ∧ f1.offset = 1 ∧ f2.type = 59 ∧ f2.offset = 2 ∧ f3.type = 60 ∧ f3.offset = 3 :=
  ⟨_, _, _, _, Tryz.underlying64, rfl, rfl, rfl, rfl, rfl, rfl, rfl, rfl⟩
set_option maxHeartbeats 1000000 in
theorem frag_of {fuel : Nat} {cs : List Value} {x : DataW H × List MemPlace} (h : DataW.trod enc Tryz.prog w 0 spare held fuel 64 cs = some x) : RowAt w .frag cs := by
  obtain ⟨f0, f1, f2, f3, hs, t0, o0, t1, o1, t2, o2, t3, o3⟩ := undFrag_
  obtain ⟨xs, n, rfl, -, hlen, hxs, hf⟩ := DataW.trod_struct hs h
  have hxs : xs.length = 4 := hxs
  rw [cellsFrag] at hlen
  obtain ⟨c0, c1, c2, c3, rfl⟩ := lenB4 hlen
  have g0 := hf 0 f0 rfl
  rw [t0, o0, show Tryz.prog.cellsOf 9 = 1 from by kernel_rfl, List.getElem?_eq_getElem (show 0 < xs.length by omega)] at g0
  simp only [List.drop_zero, List.drop_succ_cons, List.take_succ_cons, List.take_zero] at g0
  obtain ⟨k0, e0, -, q0⟩ := DataW.trod_string und9 g0
  obtain rfl : c0 = .string k0 := by simpa using e0
  have g1 := hf 1 f1 rfl
  rw [t1, o1, show Tryz.prog.cellsOf 9 = 1 from by kernel_rfl, List.getElem?_eq_getElem (show 1 < xs.length by omega)] at g1
  simp only [List.drop_zero, List.drop_succ_cons, List.take_succ_cons, List.take_zero] at g1
  obtain ⟨k1, e1, -, q1⟩ := DataW.trod_string und9 g1
  obtain rfl : c1 = .string k1 := by simpa using e1
  have g2 := hf 2 f2 rfl
  rw [t2, o2, show Tryz.prog.cellsOf 59 = 1 from by kernel_rfl, List.getElem?_eq_getElem (show 2 < xs.length by omega)] at g2
  simp only [List.drop_zero, List.drop_succ_cons, List.take_succ_cons, List.take_zero] at g2
  obtain ⟨d2, s2, a2⟩ := dirs_of g2
  have g3 := hf 3 f3 rfl
  rw [t3, o3, show Tryz.prog.cellsOf 60 = 1 from by kernel_rfl, List.getElem?_eq_getElem (show 3 < xs.length by omega)] at g3
  simp only [List.drop_zero, List.drop_succ_cons, List.take_succ_cons, List.take_zero] at g3
  obtain ⟨d3, s3, a3⟩ := sels_of g3
  exact ⟨nthD [.str k0, .str k1, d2, d3], rfl, (sh_cons rfl (sh_cons rfl (sh_cons s2 (sh_cons s3 sh_nil)))), (at_cons ⟨rfl, q0⟩ (at_cons ⟨rfl, q1⟩ (at_cons a2 (at_cons a3 at_nil))))⟩
end
end Da
end Go.Proofs.YtngfhncdmlpjiaaGreat
namespace Go.Proofs.YtngfhncdmlpjiaaGreat
namespace Da
set_option linter.unusedVariables false
set_option linter.unusedSimpArgs false
open Go.RowKit Go.Deep Go.WideShapes

section
variable {H : Type} {enc : TypeId × Value → H} {w : World} {spare : Nat → Bool} {held : Bool}
theorem cellsInDef : Tryz.prog.cellsOf 159 = 10 := by kernel_rfl
theorem undInDef_ : ∃ f0 f1 f2 f3 f4 f5, Tryz.prog.underlying 159 = some (.struct #[f0, f1, f2, f3, f4, f5]) ∧ f0.type = 9 ∧ f0.offset = 0 ∧ f1.type = 9 ∧ f1.offset = 1 ∧ f2.type = 141 ∧ f2.offset = 2 ∧ f3.type = 4 ∧ f3.offset = 4 ∧ f4.type = 144 ∧ f4.offset = 5 ∧ f5.type = 59 ∧ f5.offset = 9 :=
  ⟨_, _, _, _, _, _, Tryz.underlying159, rfl, rfl, rfl, rfl, rfl, rfl, rfl, rfl, rfl, rfl, rfl, rfl⟩
set_option maxHeartbeats 1000000 in
theorem inDef_of {fuel : Nat} {cs : List Value} {x : DataW H × List MemPlace} (h : DataW.trod enc Tryz.prog w 0 spare held fuel 159 cs = some x) : RowAt w .indef cs := by
  obtain ⟨f0, f1, f2, f3, f4, f5, hs, t0, o0, t1, o1, t2, o2, t3, o3, t4, o4, t5, o5⟩ := undInDef_
  obtain ⟨xs, n, rfl, -, hlen, hxs, hf⟩ := DataW.trod_struct hs h
  have hxs : xs.length = 6 := hxs
  rw [cellsInDef] at hlen
  obtain ⟨c0, c1, c2, c3, c4, c5, c6, c7, c8, c9, rfl⟩ := lenB10 hlen
  have g0 := hf 0 f0 rfl
  rw [t0, o0, show Tryz.prog.cellsOf 9 = 1 from by kernel_rfl, List.getElem?_eq_getElem (show 0 < xs.length by omega)] at g0
  simp only [List.drop_zero, List.drop_succ_cons, List.take_succ_cons, List.take_zero] at g0
  obtain ⟨k0, e0, -, q0⟩ := DataW.trod_string und9 g0
  obtain rfl : c0 = .string k0 := by simpa using e0
  have g1 := hf 1 f1 rfl
  rw [t1, o1, show Tryz.prog.cellsOf 9 = 1 from by kernel_rfl, List.getElem?_eq_getElem (show 1 < xs.length by omega)] at g1
  simp only [List.drop_zero, List.drop_succ_cons, List.take_succ_cons, List.take_zero] at g1
  obtain ⟨k1, e1, -, q1⟩ := DataW.trod_string und9 g1
  obtain rfl : c1 = .string k1 := by simpa using e1
  have g2 := hf 2 f2 rfl
  rw [t2, o2, cellsType, List.getElem?_eq_getElem (show 2 < xs.length by omega)] at g2
  simp only [List.drop_zero, List.drop_succ_cons, List.take_succ_cons, List.take_zero] at g2
  obtain ⟨r2, -, s2, a2⟩ := type_of g2
  have g3 := hf 3 f3 rfl
  rw [t3, o3, show Tryz.prog.cellsOf 4 = 1 from by kernel_rfl, List.getElem?_eq_getElem (show 3 < xs.length by omega)] at g3
  simp only [List.drop_zero, List.drop_succ_cons, List.take_succ_cons, List.take_zero] at g3
  obtain ⟨k3, e3, -⟩ := DataW.trod_bool und4 g3
  obtain rfl : c4 = .bool k3 := by simpa using e3
  have g4 := hf 4 f4 rfl
  rw [t4, o4, cellsV, List.getElem?_eq_getElem (show 4 < xs.length by omega)] at g4
  simp only [List.drop_zero, List.drop_succ_cons, List.take_succ_cons, List.take_zero] at g4
  obtain ⟨r4, -, s4, a4⟩ := value_of n g4
  have g5 := hf 5 f5 rfl
  rw [t5, o5, show Tryz.prog.cellsOf 59 = 1 from by kernel_rfl, List.getElem?_eq_getElem (show 5 < xs.length by omega)] at g5
  simp only [List.drop_zero, List.drop_succ_cons, List.take_succ_cons, List.take_zero] at g5
  obtain ⟨d5, s5, a5⟩ := dirs_of g5
  exact ⟨nthD [.str k0, .str k1, r2 0, r2 1, .bool k3, r4 0, r4 1, r4 2, r4 3, d5], rfl, (sh_cons rfl (sh_cons rfl (sh_cons (s2 0 _ rfl) (sh_cons (s2 1 _ rfl) (sh_cons rfl (sh_cons (s4 0 _ rfl) (sh_cons (s4 1 _ rfl) (sh_cons (s4 2 _ rfl) (sh_cons (s4 3 _ rfl) (sh_cons s5 sh_nil)))))))))), (at_cons ⟨rfl, q0⟩ (at_cons ⟨rfl, q1⟩ (at_cons (a2 0 _ rfl) (at_cons (a2 1 _ rfl) (at_cons rfl (at_cons (a4 0 _ rfl) (at_cons (a4 1 _ rfl) (at_cons (a4 2 _ rfl) (at_cons (a4 3 _ rfl) (at_cons a5 at_nil))))))))))⟩
theorem undInDefL : Tryz.prog.underlying 66 = some (.slice 159) := by kernel_rfl
theorem inDefs_of {fuel : Nat} {c : Value} {x : DataW H × List MemPlace} (h : DataW.trod enc Tryz.prog w 0 spare held fuel 66 [c] = some x) : ∃ d, Sh d (.lst .indef) ∧ At w d c :=
  lst_of (k := .indef) undInDefL cellsInDef (by simp [row]) (fun _ _ => inDef_of) h
theorem cellsFieldDef : Tryz.prog.cellsOf 156 = 6 := by kernel_rfl
theorem undFieldDef_ : ∃ f0 f1 f2 f3 f4, Tryz.prog.underlying 156 = some (.struct #[f0, f1, f2, f3, f4]) ∧ f0.type = 9 ∧ f0.offset = 0 ∧ f1.type = 9 ∧ f1.offset = 1 ∧ f2.type = 66 ∧ f2.offset = 2 ∧ f3.type = 141 ∧ f3.offset = 3 ∧ f4.type = 59 ∧ f4.offset = 5 :=
  ⟨_, _, _, _, _, Tryz.underlying156, rfl, rfl, rfl, rfl, rfl, rfl, rfl, rfl, rfl, rfl⟩
set_option maxHeartbeats 1000000 in
theorem fieldDef_of {fuel : Nat} {cs : List Value} {x : DataW H × List MemPlace} (h : DataW.trod enc Tryz.prog w 0 spare held fuel 156 cs = some x) : RowAt w .fielddef cs := by
  obtain ⟨f0, f1, f2, f3, f4, hs, t0, o0, t1, o1, t2, o2, t3, o3, t4, o4⟩ := undFieldDef_
  obtain ⟨xs, n, rfl, -, hlen, hxs, hf⟩ := DataW.trod_struct hs h
  have hxs : xs.length = 5 := hxs
  rw [cellsFieldDef] at hlen
  obtain ⟨c0, c1, c2, c3, c4, c5, rfl⟩ := lenB6 hlen
  have g0 := hf 0 f0 rfl
  rw [t0, o0, show Tryz.prog.cellsOf 9 = 1 from by kernel_rfl, List.getElem?_eq_getElem (show 0 < xs.length by omega)] at g0
  simp only [List.drop_zero, List.drop_succ_cons, List.take_succ_cons, List.take_zero] at g0
  obtain ⟨k0, e0, -, q0⟩ := DataW.trod_string und9 g0
  obtain rfl : c0 = .string k0 := by simpa using e0
  have g1 := hf 1 f1 rfl
  rw [t1, o1, show Tryz.prog.cellsOf 9 = 1 from by kernel_rfl, List.getElem?_eq_getElem (show 1 < xs.length by omega)] at g1
  simp only [List.drop_zero, List.drop_succ_cons, List.take_succ_cons, List.take_zero] at g1
  obtain ⟨k1, e1, -, q1⟩ := DataW.trod_string und9 g1
  obtain rfl : c1 = .string k1 := by simpa using e1
  have g2 := hf 2 f2 rfl
  rw [t2, o2, show Tryz.prog.cellsOf 66 = 1 from by kernel_rfl, List.getElem?_eq_getElem (show 2 < xs.length by omega)] at g2
  simp only [List.drop_zero, List.drop_succ_cons, List.take_succ_cons, List.take_zero] at g2
  obtain ⟨d2, s2, a2⟩ := inDefs_of g2
  have g3 := hf 3 f3 rfl
  rw [t3, o3, cellsType, List.getElem?_eq_getElem (show 3 < xs.length by omega)] at g3
  simp only [List.drop_zero, List.drop_succ_cons, List.take_succ_cons, List.take_zero] at g3
  obtain ⟨r3, -, s3, a3⟩ := type_of g3
  have g4 := hf 4 f4 rfl
  rw [t4, o4, show Tryz.prog.cellsOf 59 = 1 from by kernel_rfl, List.getElem?_eq_getElem (show 4 < xs.length by omega)] at g4
  simp only [List.drop_zero, List.drop_succ_cons, List.take_succ_cons, List.take_zero] at g4
  obtain ⟨d4, s4, a4⟩ := dirs_of g4
  exact ⟨nthD [.str k0, .str k1, d2, r3 0, r3 1, d4], rfl, (sh_cons rfl (sh_cons rfl (sh_cons s2 (sh_cons (s3 0 _ rfl) (sh_cons (s3 1 _ rfl) (sh_cons s4 sh_nil)))))), (at_cons ⟨rfl, q0⟩ (at_cons ⟨rfl, q1⟩ (at_cons a2 (at_cons (a3 0 _ rfl) (at_cons (a3 1 _ rfl) (at_cons a4 at_nil))))))⟩
theorem undFieldDefL : Tryz.prog.underlying 65 = some (.slice 156) := by kernel_rfl
theorem fieldDefs_of {fuel : Nat} {c : Value} {x : DataW H × List MemPlace} (h : DataW.trod enc Tryz.prog w 0 spare held fuel 65 [c] = some x) : ∃ d, Sh d (.lst .fielddef) ∧ At w d c :=
  lst_of (k := .fielddef) undFieldDefL cellsFieldDef (by simp [row]) (fun _ _ => fieldDef_of) h
theorem cellsEnumDef : Tryz.prog.cellsOf 162 = 3 := by kernel_rfl
theorem undEnumDef_ : ∃ f0 f1 f2, Tryz.prog.underlying 162 = some (.struct #[f0, f1, f2]) ∧ f0.type = 9 ∧ f0.offset = 0 ∧ f1.type = 9 ∧ f1.offset = 1 ∧ f2.type = 59 ∧ f2.offset = 2 :=
  ⟨_, _, _, Tryz.underlying162, rfl, rfl, rfl, rfl, rfl, rfl⟩
set_option maxHeartbeats 1000000 in
theorem enumDef_of {fuel : Nat} {cs : List Value} {x : DataW H × List MemPlace} (h : DataW.trod enc Tryz.prog w 0 spare held fuel 162 cs = some x) : RowAt w .enumdef cs := by
  obtain ⟨f0, f1, f2, hs, t0, o0, t1, o1, t2, o2⟩ := undEnumDef_
  obtain ⟨xs, n, rfl, -, hlen, hxs, hf⟩ := DataW.trod_struct hs h
  have hxs : xs.length = 3 := hxs
  rw [cellsEnumDef] at hlen
  obtain ⟨c0, c1, c2, rfl⟩ := lenB3 hlen
  have g0 := hf 0 f0 rfl
  rw [t0, o0, show Tryz.prog.cellsOf 9 = 1 from by kernel_rfl, List.getElem?_eq_getElem (show 0 < xs.length by omega)] at g0
  simp only [List.drop_zero, List.drop_succ_cons, List.take_succ_cons, List.take_zero] at g0
  obtain ⟨k0, e0, -, q0⟩ := DataW.trod_string und9 g0
  obtain rfl : c0 = .string k0 := by simpa using e0
  have g1 := hf 1 f1 rfl
  rw [t1, o1, show Tryz.prog.cellsOf 9 = 1 from by kernel_rfl, List.getElem?_eq_getElem (show 1 < xs.length by omega)] at g1
  simp only [List.drop_zero, List.drop_succ_cons, List.take_succ_cons, List.take_zero] at g1
  obtain ⟨k1, e1, -, q1⟩ := DataW.trod_string und9 g1
  obtain rfl : c1 = .string k1 := by simpa using e1
  have g2 := hf 2 f2 rfl
  rw [t2, o2, show Tryz.prog.cellsOf 59 = 1 from by kernel_rfl, List.getElem?_eq_getElem (show 2 < xs.length by omega)] at g2
  simp only [List.drop_zero, List.drop_succ_cons, List.take_succ_cons, List.take_zero] at g2
  obtain ⟨d2, s2, a2⟩ := dirs_of g2
  exact ⟨nthD [.str k0, .str k1, d2], rfl, (sh_cons rfl (sh_cons rfl (sh_cons s2 sh_nil))), (at_cons ⟨rfl, q0⟩ (at_cons ⟨rfl, q1⟩ (at_cons a2 at_nil)))⟩
theorem undEnumDefL : Tryz.prog.underlying 67 = some (.slice 162) := by kernel_rfl
theorem enumDefs_of {fuel : Nat} {c : Value} {x : DataW H × List MemPlace} (h : DataW.trod enc Tryz.prog w 0 spare held fuel 67 [c] = some x) : ∃ d, Sh d (.lst .enumdef) ∧ At w d c :=
  lst_of (k := .enumdef) undEnumDefL cellsEnumDef (by simp [row]) (fun _ _ => enumDef_of) h
theorem cellsRoot : Tryz.prog.cellsOf 164 = 2 := by kernel_rfl
theorem undRoot_ : ∃ f0 f1, Tryz.prog.underlying 164 = some (.struct #[f0, f1]) ∧ f0.type = 3 ∧ f0.offset = 0 ∧ f1.type = 9 ∧ f1.offset = 1 :=
  ⟨_, _, Tryz.underlying164, rfl, rfl, rfl, rfl⟩
set_option maxHeartbeats 1000000 in
theorem root_of {fuel : Nat} {cs : List Value} {x : DataW H × List MemPlace} (h : DataW.trod enc Tryz.prog w 0 spare held fuel 164 cs = some x) : RowAt w .root cs := by
  obtain ⟨f0, f1, hs, t0, o0, t1, o1⟩ := undRoot_
  obtain ⟨xs, n, rfl, -, hlen, hxs, hf⟩ := DataW.trod_struct hs h
  have hxs : xs.length = 2 := hxs
  rw [cellsRoot] at hlen
  obtain ⟨c0, c1, rfl⟩ := lenB2 hlen
  have g0 := hf 0 f0 rfl
  rw [t0, o0, show Tryz.prog.cellsOf 3 = 1 from by kernel_rfl, List.getElem?_eq_getElem (show 0 < xs.length by omega)] at g0
  simp only [List.drop_zero, List.drop_succ_cons, List.take_succ_cons, List.take_zero] at g0
  obtain ⟨k0, e0, -, -⟩ := DataW.trod_int und3 g0
  obtain rfl : c0 = .int .i64 k0 := by simpa using e0
  have g1 := hf 1 f1 rfl
  rw [t1, o1, show Tryz.prog.cellsOf 9 = 1 from by kernel_rfl, List.getElem?_eq_getElem (show 1 < xs.length by omega)] at g1
  simp only [List.drop_zero, List.drop_succ_cons, List.take_succ_cons, List.take_zero] at g1
  obtain ⟨k1, e1, -, q1⟩ := DataW.trod_string und9 g1
  obtain rfl : c1 = .string k1 := by simpa using e1
  exact ⟨nthD [.int k0, .str k1], rfl, (sh_cons rfl (sh_cons rfl sh_nil)), (at_cons rfl (at_cons ⟨rfl, q1⟩ at_nil))⟩
theorem undRootL : Tryz.prog.underlying 68 = some (.slice 164) := by kernel_rfl
theorem roots_of {fuel : Nat} {c : Value} {x : DataW H × List MemPlace} (h : DataW.trod enc Tryz.prog w 0 spare held fuel 68 [c] = some x) : ∃ d, Sh d (.lst .root) ∧ At w d c :=
  lst_of (k := .root) undRootL cellsRoot (by simp [row]) (fun _ _ => root_of) h
end
end Da
end Go.Proofs.YtngfhncdmlpjiaaGreat
namespace Go.Proofs.YtngfhncdmlpjiaaGreat
namespace Da
set_option linter.unusedVariables false
set_option linter.unusedSimpArgs false
open Go.RowKit Go.Deep Go.WideShapes

section
variable {H : Type} {enc : TypeId × Value → H} {w : World} {spare : Nat → Bool} {held : Bool}
theorem cellsDef : Tryz.prog.cellsOf 70 = 11 := by kernel_rfl
theorem undDef_ : ∃ f0 f1 f2 f3 f4 f5 f6 f7 f8 f9 f10, Tryz.prog.underlying 70 = some (.struct #[f0, f1, f2, f3, f4, f5, f6, f7, f8, f9, f10]) ∧ f0.type = 3 ∧ f0.offset = 0 ∧ f1.type = 4 ∧ f1.offset = 1 ∧ f2.type = 9 ∧ f2.offset = 2 ∧ f3.type = 9 ∧ f3.offset = 3 ∧ f4.type = 40 ∧ f4.offset = 4 ∧ f5.type = 65 ∧ f5.offset = 5 ∧ f6.type = 66 ∧ f6.offset = 6 ∧ f7.type = 67 ∧ f7.offset = 7 ∧ f8.type = 68 ∧ f8.offset = 8 ∧ f9.type = 4 ∧ f9.offset = 9 ∧ f10.type = 59 ∧ f10.offset = 10 :=
  ⟨_, _, _, _, _, _, _, _, _, _, _, Tryz.underlying70, rfl, rfl, rfl, rfl, rfl, rfl, rfl, rfl, rfl, rfl, rfl, rfl, rfl, rfl, rfl, rfl, rfl, rfl, rfl, rfl, rfl, rfl⟩
set_option maxHeartbeats 1000000 in
theorem def_of {fuel : Nat} {cs : List Value} {x : DataW H × List MemPlace} (h : DataW.trod enc Tryz.prog w 0 spare held fuel 70 cs = some x) : RowAt w .defn cs := by
  obtain ⟨f0, f1, f2, f3, f4, f5, f6, f7, f8, f9, f10, hs, t0, o0, t1, o1, t2, o2, t3, o3, t4, o4, t5, o5, t6, o6, t7, o7, t8, o8, t9, o9, t10, o10⟩ := undDef_
  obtain ⟨xs, n, rfl, -, hlen, hxs, hf⟩ := DataW.trod_struct hs h
  have hxs : xs.length = 11 := hxs
  rw [cellsDef] at hlen
  obtain ⟨c0, c1, c2, c3, c4, c5, c6, c7, c8, c9, c10, rfl⟩ := lenB11 hlen
  have g0 := hf 0 f0 rfl
  rw [t0, o0, show Tryz.prog.cellsOf 3 = 1 from by kernel_rfl, List.getElem?_eq_getElem (show 0 < xs.length by omega)] at g0
  simp only [List.drop_zero, List.drop_succ_cons, List.take_succ_cons, List.take_zero] at g0
  obtain ⟨k0, e0, -, -⟩ := DataW.trod_int und3 g0
  obtain rfl : c0 = .int .i64 k0 := by simpa using e0
  have g1 := hf 1 f1 rfl
  rw [t1, o1, show Tryz.prog.cellsOf 4 = 1 from by kernel_rfl, List.getElem?_eq_getElem (show 1 < xs.length by omega)] at g1
  simp only [List.drop_zero, List.drop_succ_cons, List.take_succ_cons, List.take_zero] at g1
  obtain ⟨k1, e1, -⟩ := DataW.trod_bool und4 g1
  obtain rfl : c1 = .bool k1 := by simpa using e1
  have g2 := hf 2 f2 rfl
  rw [t2, o2, show Tryz.prog.cellsOf 9 = 1 from by kernel_rfl, List.getElem?_eq_getElem (show 2 < xs.length by omega)] at g2
  simp only [List.drop_zero, List.drop_succ_cons, List.take_succ_cons, List.take_zero] at g2
  obtain ⟨k2, e2, -, q2⟩ := DataW.trod_string und9 g2
  obtain rfl : c2 = .string k2 := by simpa using e2
  have g3 := hf 3 f3 rfl
  rw [t3, o3, show Tryz.prog.cellsOf 9 = 1 from by kernel_rfl, List.getElem?_eq_getElem (show 3 < xs.length by omega)] at g3
  simp only [List.drop_zero, List.drop_succ_cons, List.take_succ_cons, List.take_zero] at g3
  obtain ⟨k3, e3, -, q3⟩ := DataW.trod_string und9 g3
  obtain rfl : c3 = .string k3 := by simpa using e3
  have g4 := hf 4 f4 rfl
  rw [t4, o4, show Tryz.prog.cellsOf 40 = 1 from by kernel_rfl, List.getElem?_eq_getElem (show 4 < xs.length by omega)] at g4
  simp only [List.drop_zero, List.drop_succ_cons, List.take_succ_cons, List.take_zero] at g4
  obtain ⟨d4, s4, a4⟩ := texts_of g4
  have g5 := hf 5 f5 rfl
  rw [t5, o5, show Tryz.prog.cellsOf 65 = 1 from by kernel_rfl, List.getElem?_eq_getElem (show 5 < xs.length by omega)] at g5
  simp only [List.drop_zero, List.drop_succ_cons, List.take_succ_cons, List.take_zero] at g5
  obtain ⟨d5, s5, a5⟩ := fieldDefs_of g5
  have g6 := hf 6 f6 rfl
  rw [t6, o6, show Tryz.prog.cellsOf 66 = 1 from by kernel_rfl, List.getElem?_eq_getElem (show 6 < xs.length by omega)] at g6
  simp only [List.drop_zero, List.drop_succ_cons, List.take_succ_cons, List.take_zero] at g6
  obtain ⟨d6, s6, a6⟩ := inDefs_of g6
  have g7 := hf 7 f7 rfl
  rw [t7, o7, show Tryz.prog.cellsOf 67 = 1 from by kernel_rfl, List.getElem?_eq_getElem (show 7 < xs.length by omega)] at g7
  simp only [List.drop_zero, List.drop_succ_cons, List.take_succ_cons, List.take_zero] at g7
  obtain ⟨d7, s7, a7⟩ := enumDefs_of g7
  have g8 := hf 8 f8 rfl
  rw [t8, o8, show Tryz.prog.cellsOf 68 = 1 from by kernel_rfl, List.getElem?_eq_getElem (show 8 < xs.length by omega)] at g8
  simp only [List.drop_zero, List.drop_succ_cons, List.take_succ_cons, List.take_zero] at g8
  obtain ⟨d8, s8, a8⟩ := roots_of g8
  have g9 := hf 9 f9 rfl
  rw [t9, o9, show Tryz.prog.cellsOf 4 = 1 from by kernel_rfl, List.getElem?_eq_getElem (show 9 < xs.length by omega)] at g9
  simp only [List.drop_zero, List.drop_succ_cons, List.take_succ_cons, List.take_zero] at g9
  obtain ⟨k9, e9, -⟩ := DataW.trod_bool und4 g9
  obtain rfl : c9 = .bool k9 := by simpa using e9
  have g10 := hf 10 f10 rfl
  rw [t10, o10, show Tryz.prog.cellsOf 59 = 1 from by kernel_rfl, List.getElem?_eq_getElem (show 10 < xs.length by omega)] at g10
  simp only [List.drop_zero, List.drop_succ_cons, List.take_succ_cons, List.take_zero] at g10
  obtain ⟨d10, s10, a10⟩ := dirs_of g10
  exact ⟨nthD [.int k0, .bool k1, .str k2, .str k3, d4, d5, d6, d7, d8, .bool k9, d10], rfl, (sh_cons rfl (sh_cons rfl (sh_cons rfl (sh_cons rfl (sh_cons s4 (sh_cons s5 (sh_cons s6 (sh_cons s7 (sh_cons s8 (sh_cons rfl (sh_cons s10 sh_nil))))))))))), (at_cons rfl (at_cons rfl (at_cons ⟨rfl, q2⟩ (at_cons ⟨rfl, q3⟩ (at_cons a4 (at_cons a5 (at_cons a6 (at_cons a7 (at_cons a8 (at_cons rfl (at_cons a10 at_nil)))))))))))⟩
end
end Da
end Go.Proofs.YtngfhncdmlpjiaaGreat
namespace Go.Proofs.YtngfhncdmlpjiaaGreat
namespace Da
set_option linter.unusedVariables false
set_option linter.unusedSimpArgs false
open Go.RowKit Go.Deep Go.WideShapes

section
variable {H : Type} {enc : TypeId × Value → H} {w : World} {spare : Nat → Bool} {held : Bool}
theorem cellsItem : Tryz.prog.cellsOf 72 = 21 := by kernel_rfl
theorem undItem_ : ∃ f0 f1 f2 f3, Tryz.prog.underlying 72 = some (.struct #[f0, f1, f2, f3]) ∧ f0.type = 3 ∧ f0.offset = 0 ∧ f1.type = 62 ∧ f1.offset = 1 ∧ f2.type = 64 ∧ f2.offset = 6 ∧ f3.type = 70 ∧ f3.offset = 10 :=
  ⟨_, _, _, _, Tryz.underlying72, rfl, rfl, rfl, rfl, rfl, rfl, rfl, rfl⟩
set_option maxHeartbeats 1000000 in
theorem item_of {fuel : Nat} {cs : List Value} {x : DataW H × List MemPlace} (h : DataW.trod enc Tryz.prog w 0 spare held fuel 72 cs = some x) : RowAt w .item cs := by
  obtain ⟨f0, f1, f2, f3, hs, t0, o0, t1, o1, t2, o2, t3, o3⟩ := undItem_
  obtain ⟨xs, n, rfl, -, hlen, hxs, hf⟩ := DataW.trod_struct hs h
  have hxs : xs.length = 4 := hxs
  rw [cellsItem] at hlen
  obtain ⟨c0, c1, c2, c3, c4, c5, c6, c7, c8, c9, c10, c11, c12, c13, c14, c15, c16, c17, c18, c19, c20, rfl⟩ := lenB21 hlen
  have g0 := hf 0 f0 rfl
  rw [t0, o0, show Tryz.prog.cellsOf 3 = 1 from by kernel_rfl, List.getElem?_eq_getElem (show 0 < xs.length by omega)] at g0
  simp only [List.drop_zero, List.drop_succ_cons, List.take_succ_cons, List.take_zero] at g0
  obtain ⟨k0, e0, -, -⟩ := DataW.trod_int und3 g0
  obtain rfl : c0 = .int .i64 k0 := by simpa using e0
  have g1 := hf 1 f1 rfl
  rw [t1, o1, cellsOp, List.getElem?_eq_getElem (show 1 < xs.length by omega)] at g1
  simp only [List.drop_zero, List.drop_succ_cons, List.take_succ_cons, List.take_zero] at g1
  obtain ⟨r1, -, s1, a1⟩ := op_of g1
  have g2 := hf 2 f2 rfl
  rw [t2, o2, cellsFrag, List.getElem?_eq_getElem (show 2 < xs.length by omega)] at g2
  simp only [List.drop_zero, List.drop_succ_cons, List.take_succ_cons, List.take_zero] at g2
  obtain ⟨r2, -, s2, a2⟩ := frag_of g2
  have g3 := hf 3 f3 rfl
  rw [t3, o3, cellsDef, List.getElem?_eq_getElem (show 3 < xs.length by omega)] at g3
  simp only [List.drop_zero, List.drop_succ_cons, List.take_succ_cons, List.take_zero] at g3
  obtain ⟨r3, -, s3, a3⟩ := def_of g3
  exact ⟨nthD [.int k0, r1 0, r1 1, r1 2, r1 3, r1 4, r2 0, r2 1, r2 2, r2 3, r3 0, r3 1, r3 2, r3 3, r3 4, r3 5, r3 6, r3 7, r3 8, r3 9, r3 10], rfl, (sh_cons rfl (sh_cons (s1 0 _ rfl) (sh_cons (s1 1 _ rfl) (sh_cons (s1 2 _ rfl) (sh_cons (s1 3 _ rfl) (sh_cons (s1 4 _ rfl) (sh_cons (s2 0 _ rfl) (sh_cons (s2 1 _ rfl) (sh_cons (s2 2 _ rfl) (sh_cons (s2 3 _ rfl) (sh_cons (s3 0 _ rfl) (sh_cons (s3 1 _ rfl) (sh_cons (s3 2 _ rfl) (sh_cons (s3 3 _ rfl) (sh_cons (s3 4 _ rfl) (sh_cons (s3 5 _ rfl) (sh_cons (s3 6 _ rfl) (sh_cons (s3 7 _ rfl) (sh_cons (s3 8 _ rfl) (sh_cons (s3 9 _ rfl) (sh_cons (s3 10 _ rfl) sh_nil))))))))))))))))))))), (at_cons rfl (at_cons (a1 0 _ rfl) (at_cons (a1 1 _ rfl) (at_cons (a1 2 _ rfl) (at_cons (a1 3 _ rfl) (at_cons (a1 4 _ rfl) (at_cons (a2 0 _ rfl) (at_cons (a2 1 _ rfl) (at_cons (a2 2 _ rfl) (at_cons (a2 3 _ rfl) (at_cons (a3 0 _ rfl) (at_cons (a3 1 _ rfl) (at_cons (a3 2 _ rfl) (at_cons (a3 3 _ rfl) (at_cons (a3 4 _ rfl) (at_cons (a3 5 _ rfl) (at_cons (a3 6 _ rfl) (at_cons (a3 7 _ rfl) (at_cons (a3 8 _ rfl) (at_cons (a3 9 _ rfl) (at_cons (a3 10 _ rfl) at_nil)))))))))))))))))))))⟩
theorem undItemL : Tryz.prog.underlying 22 = some (.slice 72) := by kernel_rfl
theorem items_of {fuel : Nat} {c : Value} {x : DataW H × List MemPlace} (h : DataW.trod enc Tryz.prog w 0 spare held fuel 22 [c] = some x) : ∃ d, Sh d (.lst .item) ∧ At w d c :=
  lst_of (k := .item) undItemL cellsItem (by simp [row]) (fun _ _ => item_of) h
end
end Da
end Go.Proofs.YtngfhncdmlpjiaaGreat
