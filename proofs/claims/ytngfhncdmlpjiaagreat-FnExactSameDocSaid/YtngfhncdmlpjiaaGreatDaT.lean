/- What is proved: what the laws' copies of data are: the same, in new memory of its own. (Made by tools/mkdat.py.) -/
import Derived.Test.YtngfhncdmlpjiaaGreatDaW
import Derived.Deep.OwnRows
import Derived.Handy
namespace Go.Proofs.YtngfhncdmlpjiaaGreat
namespace Da
set_option linter.unusedVariables false
open Go.RowKit
attribute [local go_sem ↓] Go.wp_at_zero Go.wp_at_succ

/-- The contract of a list. -/
def ToL (fid : Nat) (d : D) : Prop := ∀ (w : World) (c : Value), sz d ≤ 1048576 → At w d c →
  Calls Tryz.prog fid #[c] w fun e w' => ∃ v, e = .returned v ∧ Own w' d (rng w.heap.size w'.heap.size) v ∧ Below w.heap.size w w'

theorem ownR_nil {w : World} {r : Nat → D} {F : Nat → Prop} : OwnR w r F [] := ⟨fun _ _ => False, fun j hj => absurd hj (by simp), fun j v h => by simp at h⟩
theorem ownR_cons {w : World} {r : Nat → D} {F1 F2 F : Nat → Prop} {v : Value} {vs : List Value} (h : Own w (r 0) F1 v) (hs : OwnR w (fun j => r (j + 1)) F2 vs) (hd : ∀ b, F1 b → ¬ F2 b) (h1 : ∀ b, F1 b → F b) (h2 : ∀ b, F2 b → F b) : OwnR w r F (v :: vs) := by
  obtain ⟨G, g1, g2⟩ := hs
  refine ⟨fun j b => match j with | 0 => F1 b | j + 1 => G j b, fun j hj => ?_, fun j u hu => ?_⟩
  · match j with
    | 0 =>
      refine ⟨fun b hb => h1 b hb, fun j' hj' hne b hb => ?_⟩
      match j' with
      | 0 => exact absurd rfl hne
      | j' + 1 => exact fun hc => hd b hb ((g1 j' (by simpa using hj')).1 b hc)
    | j + 1 =>
      refine ⟨fun b hb => h2 b ((g1 j (by simpa using hj)).1 b hb), fun j' hj' hne b hb => ?_⟩
      match j' with
      | 0 => exact fun hc => hd b hc ((g1 j (by simpa using hj)).1 b hb)
      | j' + 1 => exact (g1 j (by simpa using hj)).2 j' (by simpa using hj') (by omega) b hb
  · match j with
    | 0 =>
      obtain rfl : v = u := by simpa using hu
      exact h
    | j + 1 => exact g2 j u (by simpa using hu)
/-- A cell that leads nowhere, ahead of a row. -/
theorem ownR_plain {w : World} {r : Nat → D} {F : Nat → Prop} {v : Value} {vs : List Value} (h : Own w (r 0) (fun _ => False) v) (hs : OwnR w (fun j => r (j + 1)) F vs) : OwnR w r F (v :: vs) :=
  ownR_cons h hs (fun _ h => h.elim) (fun _ h => h.elim) (fun _ h => h)
theorem below_set2 {w : World} {B : Nat} {w1 : World} {g p : Nat} {v : Value} (h : Below B w w1) (hg : B ≤ g) : Below B w (w1.setCell ⟨g, p, none⟩ v) := h.setCell hg v

theorem info9 : (Tryz.prog.info? 9).map (fun i => (i.zero, i.size, i.bytes)) = some (some (.string ⟨#[]⟩), 1, 16) := by kernel_rfl
theorem makeString (n : Nat) (hm : n ≤ 1048576) : ∃ cur : Array Value, cur.size = n * 1 ∧ ∀ w : World, (Instr.makeSlice 40 (.int .i64 (n : Int)) (.int .i64 (n : Int))).run Tryz.prog w = .ok (.slice (some ⟨w.heap.size, 0, none⟩) n n) (w.alloc (.cells cur 9)) := by
  refine ⟨madeCells #[.string ⟨#[]⟩] n, by rw [size_madeCells, Nat.mul_one], fun w => ?_⟩
  exact run_make_row' (P := Tryz.prog) 40 9 (.string ⟨#[]⟩) 16 undN info9 rfl .i64 .i64 n (by omega) (by omega) w
def zeroValue : Value := .agg #[Value.int .i64 0, Value.string ⟨#[]⟩, Value.slice none 0 0, Value.slice none 0 0]
theorem infoValue : (Tryz.prog.info? 77).map (fun i => (i.zero, i.size, i.bytes)) = some (some zeroValue, 4, 72) := by kernel_rfl
theorem undsValue : Tryz.prog.underlying 75 = some (.slice 77) := by kernel_rfl
theorem makeValue (n : Nat) (hn : n ≤ 1048576) : ∃ cur : Array Value, cur.size = n * 4 ∧ ∀ w : World, (Instr.makeSlice 75 (.int .i64 (n : Int)) (.int .i64 (n : Int))).run Tryz.prog w = .ok (.slice (some ⟨w.heap.size, 0, none⟩) n n) (w.alloc (.cells cur 77)) := by
  obtain ⟨i, hi, hzz⟩ := Option.map_eq_some_iff.1 infoValue
  simp only [Prod.mk.injEq] at hzz
  obtain ⟨hz, hs, hb⟩ := hzz
  refine ⟨madeCells zeroValue.cells (n * 4), size_madeCells _ _, fun w => ?_⟩
  have := run_make (P := Tryz.prog) w 75 77 i zeroValue undsValue hi hz .i64 .i64 n n (by omega) (by omega) (by rw [hb]; omega) (by omega)
  rw [hs] at this
  simpa using this
def zeroArg : Value := .agg #[Value.string ⟨#[]⟩, Value.int .i64 0, Value.string ⟨#[]⟩, Value.slice none 0 0, Value.slice none 0 0]
theorem infoArg : (Tryz.prog.info? 100).map (fun i => (i.zero, i.size, i.bytes)) = some (some zeroArg, 5, 88) := by kernel_rfl
theorem undsArg : Tryz.prog.underlying 81 = some (.slice 100) := by kernel_rfl
theorem makeArg (n : Nat) (hn : n ≤ 1048576) : ∃ cur : Array Value, cur.size = n * 5 ∧ ∀ w : World, (Instr.makeSlice 81 (.int .i64 (n : Int)) (.int .i64 (n : Int))).run Tryz.prog w = .ok (.slice (some ⟨w.heap.size, 0, none⟩) n n) (w.alloc (.cells cur 100)) := by
  obtain ⟨i, hi, hzz⟩ := Option.map_eq_some_iff.1 infoArg
  simp only [Prod.mk.injEq] at hzz
  obtain ⟨hz, hs, hb⟩ := hzz
  refine ⟨madeCells zeroArg.cells (n * 5), size_madeCells _ _, fun w => ?_⟩
  have := run_make (P := Tryz.prog) w 81 100 i zeroArg undsArg hi hz .i64 .i64 n n (by omega) (by omega) (by rw [hb]; omega) (by omega)
  rw [hs] at this
  simpa using this
def zeroDir : Value := .agg #[Value.string ⟨#[]⟩, Value.slice none 0 0]
theorem infoDir : (Tryz.prog.info? 83).map (fun i => (i.zero, i.size, i.bytes)) = some (some zeroDir, 2, 40) := by kernel_rfl
theorem undsDir : Tryz.prog.underlying 34 = some (.slice 83) := by kernel_rfl
theorem makeDir (n : Nat) (hn : n ≤ 1048576) : ∃ cur : Array Value, cur.size = n * 2 ∧ ∀ w : World, (Instr.makeSlice 34 (.int .i64 (n : Int)) (.int .i64 (n : Int))).run Tryz.prog w = .ok (.slice (some ⟨w.heap.size, 0, none⟩) n n) (w.alloc (.cells cur 83)) := by
  obtain ⟨i, hi, hzz⟩ := Option.map_eq_some_iff.1 infoDir
  simp only [Prod.mk.injEq] at hzz
  obtain ⟨hz, hs, hb⟩ := hzz
  refine ⟨madeCells zeroDir.cells (n * 2), size_madeCells _ _, fun w => ?_⟩
  have := run_make (P := Tryz.prog) w 34 83 i zeroDir undsDir hi hz .i64 .i64 n n (by omega) (by omega) (by rw [hb]; omega) (by omega)
  rw [hs] at this
  simpa using this
def zeroSel : Value := .agg #[Value.int .i64 0, Value.string ⟨#[]⟩, Value.string ⟨#[]⟩, Value.string ⟨#[]⟩, Value.slice none 0 0, Value.slice none 0 0, Value.slice none 0 0]
theorem infoSel : (Tryz.prog.info? 86).map (fun i => (i.zero, i.size, i.bytes)) = some (some zeroSel, 7, 128) := by kernel_rfl
theorem undsSel : Tryz.prog.underlying 35 = some (.slice 86) := by kernel_rfl
theorem makeSel (n : Nat) (hn : n ≤ 1048576) : ∃ cur : Array Value, cur.size = n * 7 ∧ ∀ w : World, (Instr.makeSlice 35 (.int .i64 (n : Int)) (.int .i64 (n : Int))).run Tryz.prog w = .ok (.slice (some ⟨w.heap.size, 0, none⟩) n n) (w.alloc (.cells cur 86)) := by
  obtain ⟨i, hi, hzz⟩ := Option.map_eq_some_iff.1 infoSel
  simp only [Prod.mk.injEq] at hzz
  obtain ⟨hz, hs, hb⟩ := hzz
  refine ⟨madeCells zeroSel.cells (n * 7), size_madeCells _ _, fun w => ?_⟩
  have := run_make (P := Tryz.prog) w 35 86 i zeroSel undsSel hi hz .i64 .i64 n n (by omega) (by omega) (by rw [hb]; omega) (by omega)
  rw [hs] at this
  simpa using this
def plainF : Da.F → Bool
  | .lst _ => false
  | _ => true
theorem Own.plain {w w' : World} {d : D} {c : Value} {F : Nat → Prop} {f : Da.F} (h : At w d c) (hs : Sh d f) (hf : plainF f = true := by rfl) : Own w' d F c := by
  match d, h with
  | .int _, h => exact h
  | .str _, h => exact h
  | .bool _, h => exact h
  | .list _ _ _, _ =>
    obtain ⟨k, rfl, -⟩ := hs
    cases hf
set_option maxHeartbeats 4000000 in
theorem toLsString (n : Nat) (it : Nat → Nat → D) (hsh : ∀ i, i < n → ∀ j g, (row .text)[j]? = some g → Sh (it i j) g) : ToL 52 (.list 1 n it) := by
  intro w c hs h
  have HI := Lib.hid h
  obtain ⟨A, cap, rfl, hm⟩ := h.slice
  clear h
  unfold maxLen at hm
  have hn : n ≤ 1048576 := by simp only [sz] at hs; omega
  have HSZ := Lib.hid hs
  clear hs
  obtain ⟨cur0, hcur0, hmk⟩ := makeString n hn
  have HCu := Lib.hid hcur0
  clear hcur0
  go_enter Tryz.func52, Tryz.ntmps52
  go_wp2
  clear hmk
  go_loopw [4] (fun i wr => ∃ k : Nat, k ≤ n ∧ i = .int .i64 k ∧ Laid wr (w.heap.size + 1) w.heap.size 1 n k 9 it ∧ w.heap.size < wr.heap.size ∧ Below w.heap.size w wr) (fun i _ => n - (intOf i).toNat)
  case atStart => exact ⟨0, Nat.zero_le _, rfl, Laid.zero (heap_alloc_new w _) (by have := HCu.out; omega), by simp, below_alloc _ _⟩
  case round =>
    obtain ⟨k, hk, rfl, hlaid, hgl, hbel⟩ := hrel
    have HLD := Lib.hid hlaid
    obtain ⟨cur, hg, hcs⟩ := hlaid.heap
    have HG := Lib.hid hg
    have HCS := Lib.hid hcs
    clear hlaid hg hcs
    by_cases hlt : k < n
    · have hk0 : (0 : Int) ≤ (k : Int) := by omega
      have hk1 : (k : Int) < (n : Int) := by omega
      obtain ⟨b, o, e2, hf⟩ := (At.below hbel _ HI.out).nth hlt
      subst e2
      obtain ⟨c0, ⟨f0, a0⟩⟩ := one hf
      clear hf
      rw [Nat.add_zero, Nat.mul_one] at f0
      obtain ⟨u, hu⟩ := (hsh k hlt 0 _ rfl).str
      rw [hu] at a0
      obtain ⟨rfl, hus⟩ := a0
      have HO : Hid (OwnR wr (it k) (rng wr.heap.size wr.heap.size) [Value.string u]) := ownR_plain (by rw [hu]; exact ⟨rfl, hus⟩) ownR_nil
      clear hus hu
      have HG1 := HG
      have hcs := HCS.out
      obtain ⟨o0, p0⟩ : ∃ old, wr.cell? ⟨w.heap.size, k, none⟩ = some old := by rw [cell_of HG1.out]; exact ⟨_, Array.getElem?_eq_getElem (by omega)⟩
      have z0 : wr.frozen? ⟨w.heap.size, k, none⟩ = false := frozen_no HG1.out _
      clear hcs
      go_wp2
      go_roundw
      case rel =>
        have hst := Laid.step (vs := [Value.string u]) HLD.out hlt hgl (by omega) (Below.refl _ _) rfl HO.out
        have hsz := stores_size (g := w.heap.size) [Value.string u] wr (k * 1)
        have hbb := stores_below (Nat.le_refl _) [Value.string u] wr (k * 1) (hbel)
        have hb0 := Below.refl wr.heap.size wr
        rw [Nat.mul_one] at hst hsz hbb
        have hlt9 := Nat.lt_of_lt_of_eq (Nat.lt_of_lt_of_le hgl hb0.size) hsz.symm
        exact ⟨k + 1, by omega, by go_num, hst, hlt9, hbb⟩
      case measure => simp [intOf]; omega
    · go_wp2
      go_ret
      obtain rfl : k = n := by omega
      exact ⟨_, rfl, HLD.out.own (Nat.le_refl _) (Nat.le_refl _) (by unfold maxLen; omega) hgl, hbel⟩

theorem toStrings {d : D} (h : Sh d (.lst .text)) : ToL 52 d := by
  obtain ⟨n, it, rfl, hs⟩ := h.lst
  exact toLsString n it hs

/-- The contract of one row. -/
def ToRValue (r : Nat → D) : Prop := ∀ (w : World) (c0 c1 c2 c3 : Value), sumTo (fun j => sz (r j)) 4 ≤ 1048576 → At w (r 0) c0 → At w (r 1) c1 → At w (r 2) c2 → At w (r 3) c3 →
  Calls Tryz.prog 110 #[.agg #[c0, c1, c2, c3]] w fun e w' => ∃ d0 d1 d2 d3, e = .returned (.agg #[d0, d1, d2, d3]) ∧ OwnR w' r (rng w.heap.size w'.heap.size) [d0, d1, d2, d3] ∧ Below w.heap.size w w'
set_option maxHeartbeats 4000000 in
theorem toLsValue (n : Nat) (it : Nat → Nat → D) (hsh : ∀ i, i < n → ∀ j g, (row .value)[j]? = some g → Sh (it i j) g) (hit : ∀ i, i < n → ToRValue (it i)) : ToL 120 (.list 4 n it) := by
  intro w c hs h
  have HI := Lib.hid h
  obtain ⟨A, cap, rfl, hm⟩ := h.slice
  clear h
  unfold maxLen at hm
  have hn : n ≤ 1048576 := by simp only [sz] at hs; omega
  have HSZ := Lib.hid hs
  clear hs
  obtain ⟨cur0, hcur0, hmk⟩ := makeValue n hn
  have HCu := Lib.hid hcur0
  clear hcur0
  go_enter Tryz.func120, Tryz.ntmps120
  go_wp2
  clear hmk
  go_loopw [4] (fun i wr => ∃ k : Nat, k ≤ n ∧ i = .int .i64 k ∧ Laid wr (w.heap.size + 1) w.heap.size 4 n k 77 it ∧ w.heap.size < wr.heap.size ∧ Below w.heap.size w wr) (fun i _ => n - (intOf i).toNat)
  case atStart => exact ⟨0, Nat.zero_le _, rfl, Laid.zero (heap_alloc_new w _) (by have := HCu.out; omega), by simp, below_alloc _ _⟩
  case round =>
    obtain ⟨k, hk, rfl, hlaid, hgl, hbel⟩ := hrel
    have HLD := Lib.hid hlaid
    obtain ⟨cur, hg, hcs⟩ := hlaid.heap
    have HG := Lib.hid hg
    have HCS := Lib.hid hcs
    clear hlaid hg hcs
    by_cases hlt : k < n
    · have hk0 : (0 : Int) ≤ (k : Int) := by omega
      have hk1 : (k : Int) < (n : Int) := by omega
      obtain ⟨b, o, e2, hf⟩ := (At.below hbel _ HI.out).nth hlt
      subst e2
      obtain ⟨c0, c1, c2, c3, ⟨f0, a0⟩, ⟨f1, a1⟩, ⟨f2, a2⟩, ⟨f3, a3⟩⟩ := four hf
      clear hf
      rw [Nat.add_zero] at f0
      have cc := hit k hlt wr c0 c1 c2 c3 (by have := sz_row (W := 4) (it := it) hlt; have := HSZ.out; omega) a0 a1 a2 a3
      clear a0 a1 a2 a3
      go_wp2_with fail
      refine cc.mono ?_
      rintro e w1 ⟨d0, d1, d2, d3, rfl, hown, hb1⟩
      clear cc
      have HG1 := Lib.hid ((hb1.block _ hgl).trans HG.out)
      have HO := Lib.hid hown
      have t0 := hown.at 0 _ rfl
      have t1 := hown.at 1 _ rfl
      have t2 := hown.at 2 _ rfl
      have t3 := hown.at 3 _ rfl
      clear hown
      obtain ⟨yk0, rfl⟩ := At.int t0 (hsh k hlt 0 _ rfl)
      obtain ⟨yk1, rfl⟩ := At.str t1 (hsh k hlt 1 _ rfl)
      obtain ⟨yA2, yn2, yp2, rfl⟩ := At.lst t2 (hsh k hlt 2 _ rfl)
      obtain ⟨yA3, yn3, yp3, rfl⟩ := At.lst t3 (hsh k hlt 3 _ rfl)
      clear t0 t1 t2 t3
      have hcs := HCS.out
      obtain ⟨o0, p0⟩ : ∃ old, w1.cell? ⟨w.heap.size, k * 4, none⟩ = some old := by rw [cell_of HG1.out]; exact ⟨_, Array.getElem?_eq_getElem (by omega)⟩
      have z0 : w1.frozen? ⟨w.heap.size, k * 4, none⟩ = false := frozen_no HG1.out _
      obtain ⟨o1, p1⟩ : ∃ old, w1.cell? ⟨w.heap.size, k * 4 + 1, none⟩ = some old := by rw [cell_of HG1.out]; exact ⟨_, Array.getElem?_eq_getElem (by omega)⟩
      have z1 : w1.frozen? ⟨w.heap.size, k * 4 + 1, none⟩ = false := frozen_no HG1.out _
      obtain ⟨o2, p2⟩ : ∃ old, w1.cell? ⟨w.heap.size, k * 4 + 2, none⟩ = some old := by rw [cell_of HG1.out]; exact ⟨_, Array.getElem?_eq_getElem (by omega)⟩
      have z2 : w1.frozen? ⟨w.heap.size, k * 4 + 2, none⟩ = false := frozen_no HG1.out _
      obtain ⟨o3, p3⟩ : ∃ old, w1.cell? ⟨w.heap.size, k * 4 + 3, none⟩ = some old := by rw [cell_of HG1.out]; exact ⟨_, Array.getElem?_eq_getElem (by omega)⟩
      have z3 : w1.frozen? ⟨w.heap.size, k * 4 + 3, none⟩ = false := frozen_no HG1.out _
      clear hcs
      go_wp2
      go_roundw
      case rel =>
        have hst := Laid.step (vs := [Value.int .i64 yk0, Value.string yk1, Value.slice yA2 yn2 yp2, Value.slice yA3 yn3 yp3]) HLD.out hlt hgl (by omega) hb1 rfl HO.out
        have hsz := stores_size (g := w.heap.size) [Value.int .i64 yk0, Value.string yk1, Value.slice yA2 yn2 yp2, Value.slice yA3 yn3 yp3] w1 (k * 4)
        have hbb := stores_below (Nat.le_refl _) [Value.int .i64 yk0, Value.string yk1, Value.slice yA2 yn2 yp2, Value.slice yA3 yn3 yp3] w1 (k * 4) (below_trans hbel hb1)
        have hb0 := hb1
        have hlt9 := Nat.lt_of_lt_of_eq (Nat.lt_of_lt_of_le hgl hb0.size) hsz.symm
        exact ⟨k + 1, by omega, by go_num, hst, hlt9, hbb⟩
      case measure => simp [intOf]; omega
    · go_wp2
      go_ret
      obtain rfl : k = n := by omega
      exact ⟨_, rfl, HLD.out.own (Nat.le_refl _) (Nat.le_refl _) (by unfold maxLen; omega) hgl, hbel⟩

set_option maxHeartbeats 4000000 in
theorem toRValue_of (r : Nat → D) (hsh : ∀ j g, (row .value)[j]? = some g → Sh (r j) g) (h2 : ToL 120 (r 2)) (h3 : ToL 52 (r 3)) : ToRValue r := by
  intro w c0 c1 c2 c3 hs a0 a1 a2 a3
  simp only [sumTo] at hs
  have HA0 := Lib.hid a0
  have HA1 := Lib.hid a1
  have HA2 := Lib.hid a2
  have HA3 := Lib.hid a3
  obtain ⟨xk0, rfl⟩ := At.int a0 (hsh 0 _ rfl)
  obtain ⟨xk1, rfl⟩ := At.str a1 (hsh 1 _ rfl)
  obtain ⟨xA2, xn2, xp2, rfl⟩ := At.lst a2 (hsh 2 _ rfl)
  obtain ⟨xA3, xn3, xp3, rfl⟩ := At.lst a3 (hsh 3 _ rfl)
  clear a0 a1 a2 a3
  go_enter Tryz.func110, Tryz.ntmps110
  go_wp2_with fail
  obtain ⟨W0, hW0⟩ : ∃ W0, (((w.alloc (Obj.cells #[Value.int .i64 xk0, Value.string xk1, Value.slice xA2 xn2 xp2, Value.slice xA3 xn3 xp3] 144)).alloc (Obj.cells #[Value.int .i64 0, Value.string ⟨#[]⟩, Value.slice none 0 0, Value.slice none 0 0] 77)).alloc (Obj.cells #[Value.int .i64 xk0, Value.string xk1, Value.slice none 0 0, Value.slice none 0 0] 77)) = W0 := ⟨_, rfl⟩
  have ba : Below w.heap.size w W0 := by rw [← hW0]; exact ((below_alloc _ _).alloc (by simp) _).alloc (by simp; omega) _
  have hz : W0.heap.size = w.heap.size + 3 := by rw [← hW0]; simp
  have hB0 : W0.heap[w.heap.size]? = some (Obj.cells #[Value.int .i64 xk0, Value.string xk1, Value.slice xA2 xn2 xp2, Value.slice xA3 xn3 xp3] 144) := by
    rw [← hW0, Below.heap_alloc _ _ _ (by simp; omega), Below.heap_alloc _ _ _ (by simp)]; exact heap_alloc_new w _
  have hB1 : W0.heap[w.heap.size + 1]? = some (Obj.cells #[Value.int .i64 0, Value.string ⟨#[]⟩, Value.slice none 0 0, Value.slice none 0 0] 77) := by
    rw [← hW0, Below.heap_alloc _ _ _ (by simp)]
    have := heap_alloc_new (w.alloc (Obj.cells #[Value.int .i64 xk0, Value.string xk1, Value.slice xA2 xn2 xp2, Value.slice xA3 xn3 xp3] 144)) (Obj.cells #[Value.int .i64 0, Value.string ⟨#[]⟩, Value.slice none 0 0, Value.slice none 0 0] 77)
    simpa using this
  have hB2 : W0.heap[w.heap.size + 1 + 1]? = some (Obj.cells #[Value.int .i64 xk0, Value.string xk1, Value.slice none 0 0, Value.slice none 0 0] 77) := by
    rw [← hW0]
    have := heap_alloc_new ((w.alloc (Obj.cells #[Value.int .i64 xk0, Value.string xk1, Value.slice xA2 xn2 xp2, Value.slice xA3 xn3 xp3] 144)).alloc (Obj.cells #[Value.int .i64 0, Value.string ⟨#[]⟩, Value.slice none 0 0, Value.slice none 0 0] 77)) (Obj.cells #[Value.int .i64 xk0, Value.string xk1, Value.slice none 0 0, Value.slice none 0 0] 77)
    simpa using this
  rw [hW0]
  clear hW0
  refine (h2 W0 _ (by omega) (At.below ba _ HA2.out)).mono ?_
  rintro e w2 ⟨v, rfl, own2, hb2⟩
  obtain ⟨yA2, yn2, yp2, rfl⟩ := At.lst (Own.at _ own2) (hsh 2 _ rfl)
  have hB0 := (hb2.block _ (lt_of hB0)).trans hB0
  have hB1 := (hb2.block _ (lt_of hB1)).trans hB1
  have hB2 := (hb2.block _ (lt_of hB2)).trans hB2
  have bb2 := below_trans ba hb2
  have s2 := hb2.size
  rw [hz] at own2 s2
  clear hb2
  have q2 : w2.cell? ⟨w.heap.size + 1 + 1, 2, none⟩ = some (Value.slice none 0 0) := by rw [cell_of hB2]; rfl
  have r2 : w2.frozen? ⟨w.heap.size + 1 + 1, 2, none⟩ = false := frozen_no hB2 _
  have qn : w2.cell? ⟨w.heap.size, 3, none⟩ = some (Value.slice xA3 xn3 xp3) := by rw [cell_of hB0]; rfl
  have HB0 := Lib.hid hB0
  have HB1 := Lib.hid hB1
  have HB2 := Lib.hid hB2
  clear hB0 hB1 hB2
  go_wp2_with fail
  clear qn q2 r2
  obtain ⟨W2, hW2⟩ : ∃ W', w2.setCell ⟨w.heap.size + 1 + 1, 2, none⟩ (Value.slice yA2 yn2 yp2) = W' := ⟨_, rfl⟩
  have bc2 : Below w.heap.size w W2 := by rw [← hW2]; exact bb2.setCell (by simp only; omega) _
  have sz2 : W2.heap.size = w2.heap.size := by rw [← hW2]; simp [World.setCell]
  have hB0 : W2.heap[w.heap.size]? = some (Obj.cells #[Value.int .i64 xk0, Value.string xk1, Value.slice xA2 xn2 xp2, Value.slice xA3 xn3 xp3] 144) := by rw [← hW2, Below.heap_setCell _ _ _ _ (by simp only; omega)]; exact HB0.out
  have hB1 : W2.heap[w.heap.size + 1]? = some (Obj.cells #[Value.int .i64 0, Value.string ⟨#[]⟩, Value.slice none 0 0, Value.slice none 0 0] 77) := by rw [← hW2, Below.heap_setCell _ _ _ _ (by simp only; omega)]; exact HB1.out
  have hB2 : W2.heap[w.heap.size + 1 + 1]? = some (Obj.cells #[Value.int .i64 xk0, Value.string xk1, Value.slice yA2 yn2 yp2, Value.slice none 0 0] 77) := by rw [← hW2]; exact heap_setCell_same w2 _ 2 _ _ _ HB2.out
  have own2 := Own.same (w' := W2) _ own2 fun b hb => by rw [← hW2, Below.heap_setCell _ _ _ _ (by have := hb.1; simp only; omega)]
  rw [hW2]
  clear hW2 HB0 HB1 HB2
  refine (h3 W2 _ (by omega) (At.below bc2 _ HA3.out)).mono ?_
  rintro e w3 ⟨v, rfl, own3, hb3⟩
  obtain ⟨yA3, yn3, yp3, rfl⟩ := At.lst (Own.at _ own3) (hsh 3 _ rfl)
  have hB0 := (hb3.block _ (lt_of hB0)).trans hB0
  have hB1 := (hb3.block _ (lt_of hB1)).trans hB1
  have hB2 := (hb3.block _ (lt_of hB2)).trans hB2
  have bb3 := below_trans bc2 hb3
  have s3 := hb3.size
  have own2 := Own.below own2 hb3 (fun b hb => by have := hb.2; omega)
  rw [sz2] at own3 s3
  clear hb3
  have q3 : w3.cell? ⟨w.heap.size + 1 + 1, 3, none⟩ = some (Value.slice none 0 0) := by rw [cell_of hB2]; rfl
  have r3 : w3.frozen? ⟨w.heap.size + 1 + 1, 3, none⟩ = false := frozen_no hB2 _
  have q0 : w3.cell? ⟨w.heap.size + 1 + 1, 0, none⟩ = some (Value.int .i64 xk0) := by rw [cell_of hB2]; rfl
  have u0 : w3.cell? ⟨w.heap.size + 1, 0, none⟩ = some (Value.int .i64 0) := by rw [cell_of hB1]; rfl
  have z0 : w3.frozen? ⟨w.heap.size + 1, 0, none⟩ = false := frozen_no hB1 _
  have q1 : w3.cell? ⟨w.heap.size + 1 + 1, 1, none⟩ = some (Value.string xk1) := by rw [cell_of hB2]; rfl
  have u1 : w3.cell? ⟨w.heap.size + 1, 1, none⟩ = some (Value.string ⟨#[]⟩) := by rw [cell_of hB1]; rfl
  have z1 : w3.frozen? ⟨w.heap.size + 1, 1, none⟩ = false := frozen_no hB1 _
  have q2 : w3.cell? ⟨w.heap.size + 1 + 1, 2, none⟩ = some (Value.slice yA2 yn2 yp2) := by rw [cell_of hB2]; rfl
  have u2 : w3.cell? ⟨w.heap.size + 1, 2, none⟩ = some (Value.slice none 0 0) := by rw [cell_of hB1]; rfl
  have z2 : w3.frozen? ⟨w.heap.size + 1, 2, none⟩ = false := frozen_no hB1 _
  have u3 : w3.cell? ⟨w.heap.size + 1, 3, none⟩ = some (Value.slice none 0 0) := by rw [cell_of hB1]; rfl
  have z3 : w3.frozen? ⟨w.heap.size + 1, 3, none⟩ = false := frozen_no hB1 _
  have HB1 := Lib.hid hB1
  clear hB0 hB1 hB2
  go_wp2
  obtain ⟨W9, hW9⟩ : ∃ W9, (((((w3.setCell ⟨w.heap.size + 1 + 1, 3, none⟩ (Value.slice yA3 yn3 yp3)).setCell ⟨w.heap.size + 1, 0, none⟩ (Value.int .i64 xk0)).setCell ⟨w.heap.size + 1, 1, none⟩ (Value.string xk1)).setCell ⟨w.heap.size + 1, 2, none⟩ (Value.slice yA2 yn2 yp2)).setCell ⟨w.heap.size + 1, 3, none⟩ (Value.slice yA3 yn3 yp3)) = W9 := ⟨_, rfl⟩
  have hW9' : stores (stores w3 (w.heap.size + 1 + 1) 3 [Value.slice yA3 yn3 yp3]) (w.heap.size + 1) 0 [Value.int .i64 xk0, Value.string xk1, Value.slice yA2 yn2 yp2, Value.slice yA3 yn3 yp3] = W9 := hW9
  rw [hW9]
  clear hW9
  have hg9 : W9.heap[w.heap.size + 1]? = some (Obj.cells #[Value.int .i64 xk0, Value.string xk1, Value.slice yA2 yn2 yp2, Value.slice yA3 yn3 yp3] 77) := by
    rw [← hW9']
    exact stores_heap _ _ 0 #[Value.int .i64 0, Value.string ⟨#[]⟩, Value.slice none 0 0, Value.slice none 0 0] ((stores_other (by omega) _ _ _).trans HB1.out)
  have hk9 : ∀ b, w.heap.size + 2 < b → W9.heap[b]? = w3.heap[b]? := fun b hb => by rw [← hW9', stores_other (by omega), stores_other (by omega)]
  have hz9 : W9.heap.size = w3.heap.size := by rw [← hW9', stores_size, stores_size]
  have bb9 : Below w.heap.size w W9 := by rw [← hW9']; exact stores_below (by omega) _ _ _ (stores_below (by omega) _ _ _ bb3)
  clear hW9'
  (try simp only [Exit.inBlock, Exit.then])
  refine bodyPost_ret (results_cell_row rfl _ W9 (w.heap.size + 1) _ _ _ _ rfl hg9 Tryz.underlying77 rfl (by kernel_rfl)) rfl ?_
  refine ⟨_, _, _, _, rfl, ?_, bb9⟩
  rw [hz9]
  have own2 := Own.same (w' := W9) _ own2 fun b hb => hk9 b (by have := hb.1; omega)
  have own3 := Own.same (w' := W9) _ own3 fun b hb => hk9 b (by have := hb.1; omega)
  refine OwnR.wide ?_ (F := rng (w.heap.size + 3) w3.heap.size) (fun b h => ⟨by have := h.1; omega, h.2⟩)
  exact (ownR_plain (Own.plain HA0.out (hsh 0 _ rfl)) (ownR_plain (Own.plain HA1.out (hsh 1 _ rfl)) (ownR_cons (F1 := rng (w.heap.size + 3) (w2.heap.size)) (F2 := rng (w2.heap.size) w3.heap.size) (F := rng (w.heap.size + 3) w3.heap.size) own2 (ownR_cons (F1 := rng (w2.heap.size) (w3.heap.size)) (F2 := rng (w3.heap.size) w3.heap.size) (F := rng (w2.heap.size) w3.heap.size) own3 ownR_nil (fun b h1 h2 => by have := h1.2; have := h2.1; omega) (fun b h => ⟨by have := h.1; omega, by have := h.2; omega⟩) (fun b h => ⟨by have := h.1; omega, h.2⟩)) (fun b h1 h2 => by have := h1.2; have := h2.1; omega) (fun b h => ⟨by have := h.1; omega, by have := h.2; omega⟩) (fun b h => ⟨by have := h.1; omega, h.2⟩))))

/-- The contract of one row. -/
def ToRArg (r : Nat → D) : Prop := ∀ (w : World) (c0 c1 c2 c3 c4 : Value), sumTo (fun j => sz (r j)) 5 ≤ 1048576 → At w (r 0) c0 → At w (r 1) c1 → At w (r 2) c2 → At w (r 3) c3 → At w (r 4) c4 →
  Calls Tryz.prog 121 #[.agg #[c0, c1, c2, c3, c4]] w fun e w' => ∃ d0 d1 d2 d3 d4, e = .returned (.agg #[d0, d1, d2, d3, d4]) ∧ OwnR w' r (rng w.heap.size w'.heap.size) [d0, d1, d2, d3, d4] ∧ Below w.heap.size w w'
set_option maxHeartbeats 4000000 in
theorem toLsArg (n : Nat) (it : Nat → Nat → D) (hsh : ∀ i, i < n → ∀ j g, (row .arg)[j]? = some g → Sh (it i j) g) (hit : ∀ i, i < n → ToRArg (it i)) : ToL 111 (.list 5 n it) := by
  intro w c hs h
  have HI := Lib.hid h
  obtain ⟨A, cap, rfl, hm⟩ := h.slice
  clear h
  unfold maxLen at hm
  have hn : n ≤ 1048576 := by simp only [sz] at hs; omega
  have HSZ := Lib.hid hs
  clear hs
  obtain ⟨cur0, hcur0, hmk⟩ := makeArg n hn
  have HCu := Lib.hid hcur0
  clear hcur0
  go_enter Tryz.func111, Tryz.ntmps111
  go_wp2
  clear hmk
  go_loopw [4] (fun i wr => ∃ k : Nat, k ≤ n ∧ i = .int .i64 k ∧ Laid wr (w.heap.size + 1) w.heap.size 5 n k 100 it ∧ w.heap.size < wr.heap.size ∧ Below w.heap.size w wr) (fun i _ => n - (intOf i).toNat)
  case atStart => exact ⟨0, Nat.zero_le _, rfl, Laid.zero (heap_alloc_new w _) (by have := HCu.out; omega), by simp, below_alloc _ _⟩
  case round =>
    obtain ⟨k, hk, rfl, hlaid, hgl, hbel⟩ := hrel
    have HLD := Lib.hid hlaid
    obtain ⟨cur, hg, hcs⟩ := hlaid.heap
    have HG := Lib.hid hg
    have HCS := Lib.hid hcs
    clear hlaid hg hcs
    by_cases hlt : k < n
    · have hk0 : (0 : Int) ≤ (k : Int) := by omega
      have hk1 : (k : Int) < (n : Int) := by omega
      obtain ⟨b, o, e2, hf⟩ := (At.below hbel _ HI.out).nth hlt
      subst e2
      obtain ⟨c0, c1, c2, c3, c4, ⟨f0, a0⟩, ⟨f1, a1⟩, ⟨f2, a2⟩, ⟨f3, a3⟩, ⟨f4, a4⟩⟩ := five hf
      clear hf
      rw [Nat.add_zero] at f0
      have cc := hit k hlt wr c0 c1 c2 c3 c4 (by have := sz_row (W := 5) (it := it) hlt; have := HSZ.out; omega) a0 a1 a2 a3 a4
      clear a0 a1 a2 a3 a4
      go_wp2_with fail
      refine cc.mono ?_
      rintro e w1 ⟨d0, d1, d2, d3, d4, rfl, hown, hb1⟩
      clear cc
      have HG1 := Lib.hid ((hb1.block _ hgl).trans HG.out)
      have HO := Lib.hid hown
      have t0 := hown.at 0 _ rfl
      have t1 := hown.at 1 _ rfl
      have t2 := hown.at 2 _ rfl
      have t3 := hown.at 3 _ rfl
      have t4 := hown.at 4 _ rfl
      clear hown
      obtain ⟨yk0, rfl⟩ := At.str t0 (hsh k hlt 0 _ rfl)
      obtain ⟨yk1, rfl⟩ := At.int t1 (hsh k hlt 1 _ rfl)
      obtain ⟨yk2, rfl⟩ := At.str t2 (hsh k hlt 2 _ rfl)
      obtain ⟨yA3, yn3, yp3, rfl⟩ := At.lst t3 (hsh k hlt 3 _ rfl)
      obtain ⟨yA4, yn4, yp4, rfl⟩ := At.lst t4 (hsh k hlt 4 _ rfl)
      clear t0 t1 t2 t3 t4
      have hcs := HCS.out
      obtain ⟨o0, p0⟩ : ∃ old, w1.cell? ⟨w.heap.size, k * 5, none⟩ = some old := by rw [cell_of HG1.out]; exact ⟨_, Array.getElem?_eq_getElem (by omega)⟩
      have z0 : w1.frozen? ⟨w.heap.size, k * 5, none⟩ = false := frozen_no HG1.out _
      obtain ⟨o1, p1⟩ : ∃ old, w1.cell? ⟨w.heap.size, k * 5 + 1, none⟩ = some old := by rw [cell_of HG1.out]; exact ⟨_, Array.getElem?_eq_getElem (by omega)⟩
      have z1 : w1.frozen? ⟨w.heap.size, k * 5 + 1, none⟩ = false := frozen_no HG1.out _
      obtain ⟨o2, p2⟩ : ∃ old, w1.cell? ⟨w.heap.size, k * 5 + 2, none⟩ = some old := by rw [cell_of HG1.out]; exact ⟨_, Array.getElem?_eq_getElem (by omega)⟩
      have z2 : w1.frozen? ⟨w.heap.size, k * 5 + 2, none⟩ = false := frozen_no HG1.out _
      obtain ⟨o3, p3⟩ : ∃ old, w1.cell? ⟨w.heap.size, k * 5 + 3, none⟩ = some old := by rw [cell_of HG1.out]; exact ⟨_, Array.getElem?_eq_getElem (by omega)⟩
      have z3 : w1.frozen? ⟨w.heap.size, k * 5 + 3, none⟩ = false := frozen_no HG1.out _
      obtain ⟨o4, p4⟩ : ∃ old, w1.cell? ⟨w.heap.size, k * 5 + 4, none⟩ = some old := by rw [cell_of HG1.out]; exact ⟨_, Array.getElem?_eq_getElem (by omega)⟩
      have z4 : w1.frozen? ⟨w.heap.size, k * 5 + 4, none⟩ = false := frozen_no HG1.out _
      clear hcs
      go_wp2
      go_roundw
      case rel =>
        have hst := Laid.step (vs := [Value.string yk0, Value.int .i64 yk1, Value.string yk2, Value.slice yA3 yn3 yp3, Value.slice yA4 yn4 yp4]) HLD.out hlt hgl (by omega) hb1 rfl HO.out
        have hsz := stores_size (g := w.heap.size) [Value.string yk0, Value.int .i64 yk1, Value.string yk2, Value.slice yA3 yn3 yp3, Value.slice yA4 yn4 yp4] w1 (k * 5)
        have hbb := stores_below (Nat.le_refl _) [Value.string yk0, Value.int .i64 yk1, Value.string yk2, Value.slice yA3 yn3 yp3, Value.slice yA4 yn4 yp4] w1 (k * 5) (below_trans hbel hb1)
        have hb0 := hb1
        have hlt9 := Nat.lt_of_lt_of_eq (Nat.lt_of_lt_of_le hgl hb0.size) hsz.symm
        exact ⟨k + 1, by omega, by go_num, hst, hlt9, hbb⟩
      case measure => simp [intOf]; omega
    · go_wp2
      go_ret
      obtain rfl : k = n := by omega
      exact ⟨_, rfl, HLD.out.own (Nat.le_refl _) (Nat.le_refl _) (by unfold maxLen; omega) hgl, hbel⟩

set_option maxHeartbeats 4000000 in
theorem toRArg_of (r : Nat → D) (hsh : ∀ j g, (row .arg)[j]? = some g → Sh (r j) g) (h1 : ToRValue fun j => r (j + 1)) : ToRArg r := by
  intro w c0 c1 c2 c3 c4 hs a0 a1 a2 a3 a4
  simp only [sumTo] at hs
  have HA0 := Lib.hid a0
  have HA1 := Lib.hid a1
  have HA2 := Lib.hid a2
  have HA3 := Lib.hid a3
  have HA4 := Lib.hid a4
  obtain ⟨xk0, rfl⟩ := At.str a0 (hsh 0 _ rfl)
  obtain ⟨xk1, rfl⟩ := At.int a1 (hsh 1 _ rfl)
  obtain ⟨xk2, rfl⟩ := At.str a2 (hsh 2 _ rfl)
  obtain ⟨xA3, xn3, xp3, rfl⟩ := At.lst a3 (hsh 3 _ rfl)
  obtain ⟨xA4, xn4, xp4, rfl⟩ := At.lst a4 (hsh 4 _ rfl)
  clear a0 a1 a2 a3 a4
  go_enter Tryz.func121, Tryz.ntmps121
  go_wp2_with fail
  obtain ⟨W0, hW0⟩ : ∃ W0, (((w.alloc (Obj.cells #[Value.string xk0, Value.int .i64 xk1, Value.string xk2, Value.slice xA3 xn3 xp3, Value.slice xA4 xn4 xp4] 194)).alloc (Obj.cells #[Value.string ⟨#[]⟩, Value.int .i64 0, Value.string ⟨#[]⟩, Value.slice none 0 0, Value.slice none 0 0] 100)).alloc (Obj.cells #[Value.string xk0, Value.int .i64 0, Value.string ⟨#[]⟩, Value.slice none 0 0, Value.slice none 0 0] 100)) = W0 := ⟨_, rfl⟩
  have ba : Below w.heap.size w W0 := by rw [← hW0]; exact ((below_alloc _ _).alloc (by simp) _).alloc (by simp; omega) _
  have hz : W0.heap.size = w.heap.size + 3 := by rw [← hW0]; simp
  have hB0 : W0.heap[w.heap.size]? = some (Obj.cells #[Value.string xk0, Value.int .i64 xk1, Value.string xk2, Value.slice xA3 xn3 xp3, Value.slice xA4 xn4 xp4] 194) := by
    rw [← hW0, Below.heap_alloc _ _ _ (by simp; omega), Below.heap_alloc _ _ _ (by simp)]; exact heap_alloc_new w _
  have hB1 : W0.heap[w.heap.size + 1]? = some (Obj.cells #[Value.string ⟨#[]⟩, Value.int .i64 0, Value.string ⟨#[]⟩, Value.slice none 0 0, Value.slice none 0 0] 100) := by
    rw [← hW0, Below.heap_alloc _ _ _ (by simp)]
    have := heap_alloc_new (w.alloc (Obj.cells #[Value.string xk0, Value.int .i64 xk1, Value.string xk2, Value.slice xA3 xn3 xp3, Value.slice xA4 xn4 xp4] 194)) (Obj.cells #[Value.string ⟨#[]⟩, Value.int .i64 0, Value.string ⟨#[]⟩, Value.slice none 0 0, Value.slice none 0 0] 100)
    simpa using this
  have hB2 : W0.heap[w.heap.size + 1 + 1]? = some (Obj.cells #[Value.string xk0, Value.int .i64 0, Value.string ⟨#[]⟩, Value.slice none 0 0, Value.slice none 0 0] 100) := by
    rw [← hW0]
    have := heap_alloc_new ((w.alloc (Obj.cells #[Value.string xk0, Value.int .i64 xk1, Value.string xk2, Value.slice xA3 xn3 xp3, Value.slice xA4 xn4 xp4] 194)).alloc (Obj.cells #[Value.string ⟨#[]⟩, Value.int .i64 0, Value.string ⟨#[]⟩, Value.slice none 0 0, Value.slice none 0 0] 100)) (Obj.cells #[Value.string xk0, Value.int .i64 0, Value.string ⟨#[]⟩, Value.slice none 0 0, Value.slice none 0 0] 100)
    simpa using this
  rw [hW0]
  clear hW0
  refine (h1 W0 _ _ _ _ (by simp only [sumTo, Nat.zero_add, Nat.reduceAdd]; omega) (At.below ba _ HA1.out) (At.below ba _ HA2.out) (At.below ba _ HA3.out) (At.below ba _ HA4.out)).mono ?_
  rintro e w1 ⟨v1, v2, v3, v4, rfl, own1, hb1⟩
  have t1 := own1.at 0 _ rfl
  have t2 := own1.at 1 _ rfl
  have t3 := own1.at 2 _ rfl
  have t4 := own1.at 3 _ rfl
  obtain ⟨yk1, rfl⟩ := At.int t1 (hsh 1 _ rfl)
  obtain ⟨yk2, rfl⟩ := At.str t2 (hsh 2 _ rfl)
  obtain ⟨yA3, yn3, yp3, rfl⟩ := At.lst t3 (hsh 3 _ rfl)
  obtain ⟨yA4, yn4, yp4, rfl⟩ := At.lst t4 (hsh 4 _ rfl)
  clear t1 t2 t3 t4
  have hB0 := (hb1.block _ (lt_of hB0)).trans hB0
  have hB1 := (hb1.block _ (lt_of hB1)).trans hB1
  have hB2 := (hb1.block _ (lt_of hB2)).trans hB2
  have bb1 := below_trans ba hb1
  have s1 := hb1.size
  rw [hz] at own1 s1
  clear hb1
  have q1 : w1.cell? ⟨w.heap.size + 1 + 1, 1, none⟩ = some (Value.int .i64 0) := by rw [cell_of hB2]; rfl
  have r1 : w1.frozen? ⟨w.heap.size + 1 + 1, 1, none⟩ = false := frozen_no hB2 _
  have q2 : w1.cell? ⟨w.heap.size + 1 + 1, 2, none⟩ = some (Value.string ⟨#[]⟩) := by rw [cell_of hB2]; rfl
  have r2 : w1.frozen? ⟨w.heap.size + 1 + 1, 2, none⟩ = false := frozen_no hB2 _
  have q3 : w1.cell? ⟨w.heap.size + 1 + 1, 3, none⟩ = some (Value.slice none 0 0) := by rw [cell_of hB2]; rfl
  have r3 : w1.frozen? ⟨w.heap.size + 1 + 1, 3, none⟩ = false := frozen_no hB2 _
  have q4 : w1.cell? ⟨w.heap.size + 1 + 1, 4, none⟩ = some (Value.slice none 0 0) := by rw [cell_of hB2]; rfl
  have r4 : w1.frozen? ⟨w.heap.size + 1 + 1, 4, none⟩ = false := frozen_no hB2 _
  have q0 : w1.cell? ⟨w.heap.size + 1 + 1, 0, none⟩ = some (Value.string xk0) := by rw [cell_of hB2]; rfl
  have u0 : w1.cell? ⟨w.heap.size + 1, 0, none⟩ = some (Value.string ⟨#[]⟩) := by rw [cell_of hB1]; rfl
  have z0 : w1.frozen? ⟨w.heap.size + 1, 0, none⟩ = false := frozen_no hB1 _
  have u1 : w1.cell? ⟨w.heap.size + 1, 1, none⟩ = some (Value.int .i64 0) := by rw [cell_of hB1]; rfl
  have z1 : w1.frozen? ⟨w.heap.size + 1, 1, none⟩ = false := frozen_no hB1 _
  have u2 : w1.cell? ⟨w.heap.size + 1, 2, none⟩ = some (Value.string ⟨#[]⟩) := by rw [cell_of hB1]; rfl
  have z2 : w1.frozen? ⟨w.heap.size + 1, 2, none⟩ = false := frozen_no hB1 _
  have u3 : w1.cell? ⟨w.heap.size + 1, 3, none⟩ = some (Value.slice none 0 0) := by rw [cell_of hB1]; rfl
  have z3 : w1.frozen? ⟨w.heap.size + 1, 3, none⟩ = false := frozen_no hB1 _
  have u4 : w1.cell? ⟨w.heap.size + 1, 4, none⟩ = some (Value.slice none 0 0) := by rw [cell_of hB1]; rfl
  have z4 : w1.frozen? ⟨w.heap.size + 1, 4, none⟩ = false := frozen_no hB1 _
  have HB1 := Lib.hid hB1
  clear hB0 hB1 hB2
  go_wp2
  obtain ⟨W9, hW9⟩ : ∃ W9, (((((((((w1.setCell ⟨w.heap.size + 1 + 1, 1, none⟩ (Value.int .i64 yk1)).setCell ⟨w.heap.size + 1 + 1, 2, none⟩ (Value.string yk2)).setCell ⟨w.heap.size + 1 + 1, 3, none⟩ (Value.slice yA3 yn3 yp3)).setCell ⟨w.heap.size + 1 + 1, 4, none⟩ (Value.slice yA4 yn4 yp4)).setCell ⟨w.heap.size + 1, 0, none⟩ (Value.string xk0)).setCell ⟨w.heap.size + 1, 1, none⟩ (Value.int .i64 yk1)).setCell ⟨w.heap.size + 1, 2, none⟩ (Value.string yk2)).setCell ⟨w.heap.size + 1, 3, none⟩ (Value.slice yA3 yn3 yp3)).setCell ⟨w.heap.size + 1, 4, none⟩ (Value.slice yA4 yn4 yp4)) = W9 := ⟨_, rfl⟩
  have hW9' : stores (stores w1 (w.heap.size + 1 + 1) 1 [Value.int .i64 yk1, Value.string yk2, Value.slice yA3 yn3 yp3, Value.slice yA4 yn4 yp4]) (w.heap.size + 1) 0 [Value.string xk0, Value.int .i64 yk1, Value.string yk2, Value.slice yA3 yn3 yp3, Value.slice yA4 yn4 yp4] = W9 := hW9
  rw [hW9]
  clear hW9
  have hg9 : W9.heap[w.heap.size + 1]? = some (Obj.cells #[Value.string xk0, Value.int .i64 yk1, Value.string yk2, Value.slice yA3 yn3 yp3, Value.slice yA4 yn4 yp4] 100) := by
    rw [← hW9']
    exact stores_heap _ _ 0 #[Value.string ⟨#[]⟩, Value.int .i64 0, Value.string ⟨#[]⟩, Value.slice none 0 0, Value.slice none 0 0] ((stores_other (by omega) _ _ _).trans HB1.out)
  have hk9 : ∀ b, w.heap.size + 2 < b → W9.heap[b]? = w1.heap[b]? := fun b hb => by rw [← hW9', stores_other (by omega), stores_other (by omega)]
  have hz9 : W9.heap.size = w1.heap.size := by rw [← hW9', stores_size, stores_size]
  have bb9 : Below w.heap.size w W9 := by rw [← hW9']; exact stores_below (by omega) _ _ _ (stores_below (by omega) _ _ _ bb1)
  clear hW9'
  (try simp only [Exit.inBlock, Exit.then])
  refine bodyPost_ret (results_cell_row rfl _ W9 (w.heap.size + 1) _ _ _ _ rfl hg9 Tryz.underlying100 rfl (by kernel_rfl)) rfl ?_
  refine ⟨_, _, _, _, _, rfl, ?_, bb9⟩
  rw [hz9]
  have own1 := own1.same (w' := W9) fun b hb => hk9 b (by have := hb.1; omega)
  refine OwnR.wide ?_ (F := rng (w.heap.size + 3) w1.heap.size) (fun b h => ⟨by have := h.1; omega, h.2⟩)
  exact (ownR_plain (Own.plain HA0.out (hsh 0 _ rfl)) own1)

/-- The contract of one row. -/
def ToRDir (r : Nat → D) : Prop := ∀ (w : World) (c0 c1 : Value), sumTo (fun j => sz (r j)) 2 ≤ 1048576 → At w (r 0) c0 → At w (r 1) c1 →
  Calls Tryz.prog 87 #[.agg #[c0, c1]] w fun e w' => ∃ d0 d1, e = .returned (.agg #[d0, d1]) ∧ OwnR w' r (rng w.heap.size w'.heap.size) [d0, d1] ∧ Below w.heap.size w w'
set_option maxHeartbeats 4000000 in
theorem toLsDir (n : Nat) (it : Nat → Nat → D) (hsh : ∀ i, i < n → ∀ j g, (row .dir)[j]? = some g → Sh (it i j) g) (hit : ∀ i, i < n → ToRDir (it i)) : ToL 50 (.list 2 n it) := by
  intro w c hs h
  have HI := Lib.hid h
  obtain ⟨A, cap, rfl, hm⟩ := h.slice
  clear h
  unfold maxLen at hm
  have hn : n ≤ 1048576 := by simp only [sz] at hs; omega
  have HSZ := Lib.hid hs
  clear hs
  obtain ⟨cur0, hcur0, hmk⟩ := makeDir n hn
  have HCu := Lib.hid hcur0
  clear hcur0
  go_enter Tryz.func50, Tryz.ntmps50
  go_wp2
  clear hmk
  go_loopw [4] (fun i wr => ∃ k : Nat, k ≤ n ∧ i = .int .i64 k ∧ Laid wr (w.heap.size + 1) w.heap.size 2 n k 83 it ∧ w.heap.size < wr.heap.size ∧ Below w.heap.size w wr) (fun i _ => n - (intOf i).toNat)
  case atStart => exact ⟨0, Nat.zero_le _, rfl, Laid.zero (heap_alloc_new w _) (by have := HCu.out; omega), by simp, below_alloc _ _⟩
  case round =>
    obtain ⟨k, hk, rfl, hlaid, hgl, hbel⟩ := hrel
    have HLD := Lib.hid hlaid
    obtain ⟨cur, hg, hcs⟩ := hlaid.heap
    have HG := Lib.hid hg
    have HCS := Lib.hid hcs
    clear hlaid hg hcs
    by_cases hlt : k < n
    · have hk0 : (0 : Int) ≤ (k : Int) := by omega
      have hk1 : (k : Int) < (n : Int) := by omega
      obtain ⟨b, o, e2, hf⟩ := (At.below hbel _ HI.out).nth hlt
      subst e2
      obtain ⟨c0, c1, ⟨f0, a0⟩, ⟨f1, a1⟩⟩ := two hf
      clear hf
      rw [Nat.add_zero] at f0
      have cc := hit k hlt wr c0 c1 (by have := sz_row (W := 2) (it := it) hlt; have := HSZ.out; omega) a0 a1
      clear a0 a1
      go_wp2_with fail
      refine cc.mono ?_
      rintro e w1 ⟨d0, d1, rfl, hown, hb1⟩
      clear cc
      have HG1 := Lib.hid ((hb1.block _ hgl).trans HG.out)
      have HO := Lib.hid hown
      have t0 := hown.at 0 _ rfl
      have t1 := hown.at 1 _ rfl
      clear hown
      obtain ⟨yk0, rfl⟩ := At.str t0 (hsh k hlt 0 _ rfl)
      obtain ⟨yA1, yn1, yp1, rfl⟩ := At.lst t1 (hsh k hlt 1 _ rfl)
      clear t0 t1
      have hcs := HCS.out
      obtain ⟨o0, p0⟩ : ∃ old, w1.cell? ⟨w.heap.size, k * 2, none⟩ = some old := by rw [cell_of HG1.out]; exact ⟨_, Array.getElem?_eq_getElem (by omega)⟩
      have z0 : w1.frozen? ⟨w.heap.size, k * 2, none⟩ = false := frozen_no HG1.out _
      obtain ⟨o1, p1⟩ : ∃ old, w1.cell? ⟨w.heap.size, k * 2 + 1, none⟩ = some old := by rw [cell_of HG1.out]; exact ⟨_, Array.getElem?_eq_getElem (by omega)⟩
      have z1 : w1.frozen? ⟨w.heap.size, k * 2 + 1, none⟩ = false := frozen_no HG1.out _
      clear hcs
      go_wp2
      go_roundw
      case rel =>
        have hst := Laid.step (vs := [Value.string yk0, Value.slice yA1 yn1 yp1]) HLD.out hlt hgl (by omega) hb1 rfl HO.out
        have hsz := stores_size (g := w.heap.size) [Value.string yk0, Value.slice yA1 yn1 yp1] w1 (k * 2)
        have hbb := stores_below (Nat.le_refl _) [Value.string yk0, Value.slice yA1 yn1 yp1] w1 (k * 2) (below_trans hbel hb1)
        have hb0 := hb1
        have hlt9 := Nat.lt_of_lt_of_eq (Nat.lt_of_lt_of_le hgl hb0.size) hsz.symm
        exact ⟨k + 1, by omega, by go_num, hst, hlt9, hbb⟩
      case measure => simp [intOf]; omega
    · go_wp2
      go_ret
      obtain rfl : k = n := by omega
      exact ⟨_, rfl, HLD.out.own (Nat.le_refl _) (Nat.le_refl _) (by unfold maxLen; omega) hgl, hbel⟩

set_option maxHeartbeats 4000000 in
theorem toRDir_of (r : Nat → D) (hsh : ∀ j g, (row .dir)[j]? = some g → Sh (r j) g) (h1 : ToL 111 (r 1)) : ToRDir r := by
  intro w c0 c1 hs a0 a1
  simp only [sumTo] at hs
  have HA0 := Lib.hid a0
  have HA1 := Lib.hid a1
  obtain ⟨xk0, rfl⟩ := At.str a0 (hsh 0 _ rfl)
  obtain ⟨xA1, xn1, xp1, rfl⟩ := At.lst a1 (hsh 1 _ rfl)
  clear a0 a1
  go_enter Tryz.func87, Tryz.ntmps87
  go_wp2_with fail
  obtain ⟨W0, hW0⟩ : ∃ W0, (((w.alloc (Obj.cells #[Value.string xk0, Value.slice xA1 xn1 xp1] 150)).alloc (Obj.cells #[Value.string ⟨#[]⟩, Value.slice none 0 0] 83)).alloc (Obj.cells #[Value.string xk0, Value.slice none 0 0] 83)) = W0 := ⟨_, rfl⟩
  have ba : Below w.heap.size w W0 := by rw [← hW0]; exact ((below_alloc _ _).alloc (by simp) _).alloc (by simp; omega) _
  have hz : W0.heap.size = w.heap.size + 3 := by rw [← hW0]; simp
  have hB0 : W0.heap[w.heap.size]? = some (Obj.cells #[Value.string xk0, Value.slice xA1 xn1 xp1] 150) := by
    rw [← hW0, Below.heap_alloc _ _ _ (by simp; omega), Below.heap_alloc _ _ _ (by simp)]; exact heap_alloc_new w _
  have hB1 : W0.heap[w.heap.size + 1]? = some (Obj.cells #[Value.string ⟨#[]⟩, Value.slice none 0 0] 83) := by
    rw [← hW0, Below.heap_alloc _ _ _ (by simp)]
    have := heap_alloc_new (w.alloc (Obj.cells #[Value.string xk0, Value.slice xA1 xn1 xp1] 150)) (Obj.cells #[Value.string ⟨#[]⟩, Value.slice none 0 0] 83)
    simpa using this
  have hB2 : W0.heap[w.heap.size + 1 + 1]? = some (Obj.cells #[Value.string xk0, Value.slice none 0 0] 83) := by
    rw [← hW0]
    have := heap_alloc_new ((w.alloc (Obj.cells #[Value.string xk0, Value.slice xA1 xn1 xp1] 150)).alloc (Obj.cells #[Value.string ⟨#[]⟩, Value.slice none 0 0] 83)) (Obj.cells #[Value.string xk0, Value.slice none 0 0] 83)
    simpa using this
  rw [hW0]
  clear hW0
  refine (h1 W0 _ (by omega) (At.below ba _ HA1.out)).mono ?_
  rintro e w1 ⟨v, rfl, own1, hb1⟩
  obtain ⟨yA1, yn1, yp1, rfl⟩ := At.lst (Own.at _ own1) (hsh 1 _ rfl)
  have hB0 := (hb1.block _ (lt_of hB0)).trans hB0
  have hB1 := (hb1.block _ (lt_of hB1)).trans hB1
  have hB2 := (hb1.block _ (lt_of hB2)).trans hB2
  have bb1 := below_trans ba hb1
  have s1 := hb1.size
  rw [hz] at own1 s1
  clear hb1
  have q1 : w1.cell? ⟨w.heap.size + 1 + 1, 1, none⟩ = some (Value.slice none 0 0) := by rw [cell_of hB2]; rfl
  have r1 : w1.frozen? ⟨w.heap.size + 1 + 1, 1, none⟩ = false := frozen_no hB2 _
  have q0 : w1.cell? ⟨w.heap.size + 1 + 1, 0, none⟩ = some (Value.string xk0) := by rw [cell_of hB2]; rfl
  have u0 : w1.cell? ⟨w.heap.size + 1, 0, none⟩ = some (Value.string ⟨#[]⟩) := by rw [cell_of hB1]; rfl
  have z0 : w1.frozen? ⟨w.heap.size + 1, 0, none⟩ = false := frozen_no hB1 _
  have u1 : w1.cell? ⟨w.heap.size + 1, 1, none⟩ = some (Value.slice none 0 0) := by rw [cell_of hB1]; rfl
  have z1 : w1.frozen? ⟨w.heap.size + 1, 1, none⟩ = false := frozen_no hB1 _
  have HB1 := Lib.hid hB1
  clear hB0 hB1 hB2
  go_wp2
  obtain ⟨W9, hW9⟩ : ∃ W9, (((w1.setCell ⟨w.heap.size + 1 + 1, 1, none⟩ (Value.slice yA1 yn1 yp1)).setCell ⟨w.heap.size + 1, 0, none⟩ (Value.string xk0)).setCell ⟨w.heap.size + 1, 1, none⟩ (Value.slice yA1 yn1 yp1)) = W9 := ⟨_, rfl⟩
  have hW9' : stores (stores w1 (w.heap.size + 1 + 1) 1 [Value.slice yA1 yn1 yp1]) (w.heap.size + 1) 0 [Value.string xk0, Value.slice yA1 yn1 yp1] = W9 := hW9
  rw [hW9]
  clear hW9
  have hg9 : W9.heap[w.heap.size + 1]? = some (Obj.cells #[Value.string xk0, Value.slice yA1 yn1 yp1] 83) := by
    rw [← hW9']
    exact stores_heap _ _ 0 #[Value.string ⟨#[]⟩, Value.slice none 0 0] ((stores_other (by omega) _ _ _).trans HB1.out)
  have hk9 : ∀ b, w.heap.size + 2 < b → W9.heap[b]? = w1.heap[b]? := fun b hb => by rw [← hW9', stores_other (by omega), stores_other (by omega)]
  have hz9 : W9.heap.size = w1.heap.size := by rw [← hW9', stores_size, stores_size]
  have bb9 : Below w.heap.size w W9 := by rw [← hW9']; exact stores_below (by omega) _ _ _ (stores_below (by omega) _ _ _ bb1)
  clear hW9'
  (try simp only [Exit.inBlock, Exit.then])
  refine bodyPost_ret (results_cell_row rfl _ W9 (w.heap.size + 1) _ _ _ _ rfl hg9 Tryz.underlying83 rfl (by kernel_rfl)) rfl ?_
  refine ⟨_, _, rfl, ?_, bb9⟩
  rw [hz9]
  have own1 := Own.same (w' := W9) _ own1 fun b hb => hk9 b (by have := hb.1; omega)
  refine OwnR.wide ?_ (F := rng (w.heap.size + 3) w1.heap.size) (fun b h => ⟨by have := h.1; omega, h.2⟩)
  exact (ownR_plain (Own.plain HA0.out (hsh 0 _ rfl)) (ownR_cons (F1 := rng (w.heap.size + 3) (w1.heap.size)) (F2 := rng (w1.heap.size) w1.heap.size) (F := rng (w.heap.size + 3) w1.heap.size) own1 ownR_nil (fun b h1 h2 => by have := h1.2; have := h2.1; omega) (fun b h => ⟨by have := h.1; omega, by have := h.2; omega⟩) (fun b h => ⟨by have := h.1; omega, h.2⟩)))

/-- The contract of one row. -/
def ToRSel (r : Nat → D) : Prop := ∀ (w : World) (c0 c1 c2 c3 c4 c5 c6 : Value), sumTo (fun j => sz (r j)) 7 ≤ 1048576 → At w (r 0) c0 → At w (r 1) c1 → At w (r 2) c2 → At w (r 3) c3 → At w (r 4) c4 → At w (r 5) c5 → At w (r 6) c6 →
  Calls Tryz.prog 88 #[.agg #[c0, c1, c2, c3, c4, c5, c6]] w fun e w' => ∃ d0 d1 d2 d3 d4 d5 d6, e = .returned (.agg #[d0, d1, d2, d3, d4, d5, d6]) ∧ OwnR w' r (rng w.heap.size w'.heap.size) [d0, d1, d2, d3, d4, d5, d6] ∧ Below w.heap.size w w'
set_option maxHeartbeats 4000000 in
theorem toLsSel (n : Nat) (it : Nat → Nat → D) (hsh : ∀ i, i < n → ∀ j g, (row .sel)[j]? = some g → Sh (it i j) g) (hit : ∀ i, i < n → ToRSel (it i)) : ToL 51 (.list 7 n it) := by
  intro w c hs h
  have HI := Lib.hid h
  obtain ⟨A, cap, rfl, hm⟩ := h.slice
  clear h
  unfold maxLen at hm
  have hn : n ≤ 1048576 := by simp only [sz] at hs; omega
  have HSZ := Lib.hid hs
  clear hs
  obtain ⟨cur0, hcur0, hmk⟩ := makeSel n hn
  have HCu := Lib.hid hcur0
  clear hcur0
  go_enter Tryz.func51, Tryz.ntmps51
  go_wp2
  clear hmk
  go_loopw [4] (fun i wr => ∃ k : Nat, k ≤ n ∧ i = .int .i64 k ∧ Laid wr (w.heap.size + 1) w.heap.size 7 n k 86 it ∧ w.heap.size < wr.heap.size ∧ Below w.heap.size w wr) (fun i _ => n - (intOf i).toNat)
  case atStart => exact ⟨0, Nat.zero_le _, rfl, Laid.zero (heap_alloc_new w _) (by have := HCu.out; omega), by simp, below_alloc _ _⟩
  case round =>
    obtain ⟨k, hk, rfl, hlaid, hgl, hbel⟩ := hrel
    have HLD := Lib.hid hlaid
    obtain ⟨cur, hg, hcs⟩ := hlaid.heap
    have HG := Lib.hid hg
    have HCS := Lib.hid hcs
    clear hlaid hg hcs
    by_cases hlt : k < n
    · have hk0 : (0 : Int) ≤ (k : Int) := by omega
      have hk1 : (k : Int) < (n : Int) := by omega
      obtain ⟨b, o, e2, hf⟩ := (At.below hbel _ HI.out).nth hlt
      subst e2
      obtain ⟨c0, c1, c2, c3, c4, c5, c6, ⟨f0, a0⟩, ⟨f1, a1⟩, ⟨f2, a2⟩, ⟨f3, a3⟩, ⟨f4, a4⟩, ⟨f5, a5⟩, ⟨f6, a6⟩⟩ := seven hf
      clear hf
      rw [Nat.add_zero] at f0
      have cc := hit k hlt wr c0 c1 c2 c3 c4 c5 c6 (by have := sz_row (W := 7) (it := it) hlt; have := HSZ.out; omega) a0 a1 a2 a3 a4 a5 a6
      clear a0 a1 a2 a3 a4 a5 a6
      go_wp2_with fail
      refine cc.mono ?_
      rintro e w1 ⟨d0, d1, d2, d3, d4, d5, d6, rfl, hown, hb1⟩
      clear cc
      have HG1 := Lib.hid ((hb1.block _ hgl).trans HG.out)
      have HO := Lib.hid hown
      have t0 := hown.at 0 _ rfl
      have t1 := hown.at 1 _ rfl
      have t2 := hown.at 2 _ rfl
      have t3 := hown.at 3 _ rfl
      have t4 := hown.at 4 _ rfl
      have t5 := hown.at 5 _ rfl
      have t6 := hown.at 6 _ rfl
      clear hown
      obtain ⟨yk0, rfl⟩ := At.int t0 (hsh k hlt 0 _ rfl)
      obtain ⟨yk1, rfl⟩ := At.str t1 (hsh k hlt 1 _ rfl)
      obtain ⟨yk2, rfl⟩ := At.str t2 (hsh k hlt 2 _ rfl)
      obtain ⟨yk3, rfl⟩ := At.str t3 (hsh k hlt 3 _ rfl)
      obtain ⟨yA4, yn4, yp4, rfl⟩ := At.lst t4 (hsh k hlt 4 _ rfl)
      obtain ⟨yA5, yn5, yp5, rfl⟩ := At.lst t5 (hsh k hlt 5 _ rfl)
      obtain ⟨yA6, yn6, yp6, rfl⟩ := At.lst t6 (hsh k hlt 6 _ rfl)
      clear t0 t1 t2 t3 t4 t5 t6
      have hcs := HCS.out
      obtain ⟨o0, p0⟩ : ∃ old, w1.cell? ⟨w.heap.size, k * 7, none⟩ = some old := by rw [cell_of HG1.out]; exact ⟨_, Array.getElem?_eq_getElem (by omega)⟩
      have z0 : w1.frozen? ⟨w.heap.size, k * 7, none⟩ = false := frozen_no HG1.out _
      obtain ⟨o1, p1⟩ : ∃ old, w1.cell? ⟨w.heap.size, k * 7 + 1, none⟩ = some old := by rw [cell_of HG1.out]; exact ⟨_, Array.getElem?_eq_getElem (by omega)⟩
      have z1 : w1.frozen? ⟨w.heap.size, k * 7 + 1, none⟩ = false := frozen_no HG1.out _
      obtain ⟨o2, p2⟩ : ∃ old, w1.cell? ⟨w.heap.size, k * 7 + 2, none⟩ = some old := by rw [cell_of HG1.out]; exact ⟨_, Array.getElem?_eq_getElem (by omega)⟩
      have z2 : w1.frozen? ⟨w.heap.size, k * 7 + 2, none⟩ = false := frozen_no HG1.out _
      obtain ⟨o3, p3⟩ : ∃ old, w1.cell? ⟨w.heap.size, k * 7 + 3, none⟩ = some old := by rw [cell_of HG1.out]; exact ⟨_, Array.getElem?_eq_getElem (by omega)⟩
      have z3 : w1.frozen? ⟨w.heap.size, k * 7 + 3, none⟩ = false := frozen_no HG1.out _
      obtain ⟨o4, p4⟩ : ∃ old, w1.cell? ⟨w.heap.size, k * 7 + 4, none⟩ = some old := by rw [cell_of HG1.out]; exact ⟨_, Array.getElem?_eq_getElem (by omega)⟩
      have z4 : w1.frozen? ⟨w.heap.size, k * 7 + 4, none⟩ = false := frozen_no HG1.out _
      obtain ⟨o5, p5⟩ : ∃ old, w1.cell? ⟨w.heap.size, k * 7 + 5, none⟩ = some old := by rw [cell_of HG1.out]; exact ⟨_, Array.getElem?_eq_getElem (by omega)⟩
      have z5 : w1.frozen? ⟨w.heap.size, k * 7 + 5, none⟩ = false := frozen_no HG1.out _
      obtain ⟨o6, p6⟩ : ∃ old, w1.cell? ⟨w.heap.size, k * 7 + 6, none⟩ = some old := by rw [cell_of HG1.out]; exact ⟨_, Array.getElem?_eq_getElem (by omega)⟩
      have z6 : w1.frozen? ⟨w.heap.size, k * 7 + 6, none⟩ = false := frozen_no HG1.out _
      clear hcs
      go_wp2
      go_roundw
      case rel =>
        have hst := Laid.step (vs := [Value.int .i64 yk0, Value.string yk1, Value.string yk2, Value.string yk3, Value.slice yA4 yn4 yp4, Value.slice yA5 yn5 yp5, Value.slice yA6 yn6 yp6]) HLD.out hlt hgl (by omega) hb1 rfl HO.out
        have hsz := stores_size (g := w.heap.size) [Value.int .i64 yk0, Value.string yk1, Value.string yk2, Value.string yk3, Value.slice yA4 yn4 yp4, Value.slice yA5 yn5 yp5, Value.slice yA6 yn6 yp6] w1 (k * 7)
        have hbb := stores_below (Nat.le_refl _) [Value.int .i64 yk0, Value.string yk1, Value.string yk2, Value.string yk3, Value.slice yA4 yn4 yp4, Value.slice yA5 yn5 yp5, Value.slice yA6 yn6 yp6] w1 (k * 7) (below_trans hbel hb1)
        have hb0 := hb1
        have hlt9 := Nat.lt_of_lt_of_eq (Nat.lt_of_lt_of_le hgl hb0.size) hsz.symm
        exact ⟨k + 1, by omega, by go_num, hst, hlt9, hbb⟩
      case measure => simp [intOf]; omega
    · go_wp2
      go_ret
      obtain rfl : k = n := by omega
      exact ⟨_, rfl, HLD.out.own (Nat.le_refl _) (Nat.le_refl _) (by unfold maxLen; omega) hgl, hbel⟩

set_option maxHeartbeats 4000000 in
theorem toRSel_of (r : Nat → D) (hsh : ∀ j g, (row .sel)[j]? = some g → Sh (r j) g) (h4 : ToL 111 (r 4)) (h5 : ToL 50 (r 5)) (h6 : ToL 51 (r 6)) : ToRSel r := by
  intro w c0 c1 c2 c3 c4 c5 c6 hs a0 a1 a2 a3 a4 a5 a6
  simp only [sumTo] at hs
  have HA0 := Lib.hid a0
  have HA1 := Lib.hid a1
  have HA2 := Lib.hid a2
  have HA3 := Lib.hid a3
  have HA4 := Lib.hid a4
  have HA5 := Lib.hid a5
  have HA6 := Lib.hid a6
  obtain ⟨xk0, rfl⟩ := At.int a0 (hsh 0 _ rfl)
  obtain ⟨xk1, rfl⟩ := At.str a1 (hsh 1 _ rfl)
  obtain ⟨xk2, rfl⟩ := At.str a2 (hsh 2 _ rfl)
  obtain ⟨xk3, rfl⟩ := At.str a3 (hsh 3 _ rfl)
  obtain ⟨xA4, xn4, xp4, rfl⟩ := At.lst a4 (hsh 4 _ rfl)
  obtain ⟨xA5, xn5, xp5, rfl⟩ := At.lst a5 (hsh 5 _ rfl)
  obtain ⟨xA6, xn6, xp6, rfl⟩ := At.lst a6 (hsh 6 _ rfl)
  clear a0 a1 a2 a3 a4 a5 a6
  go_enter Tryz.func88, Tryz.ntmps88
  go_wp2_with fail
  obtain ⟨W0, hW0⟩ : ∃ W0, (((w.alloc (Obj.cells #[Value.int .i64 xk0, Value.string xk1, Value.string xk2, Value.string xk3, Value.slice xA4 xn4 xp4, Value.slice xA5 xn5 xp5, Value.slice xA6 xn6 xp6] 153)).alloc (Obj.cells #[Value.int .i64 0, Value.string ⟨#[]⟩, Value.string ⟨#[]⟩, Value.string ⟨#[]⟩, Value.slice none 0 0, Value.slice none 0 0, Value.slice none 0 0] 86)).alloc (Obj.cells #[Value.int .i64 xk0, Value.string xk1, Value.string xk2, Value.string xk3, Value.slice none 0 0, Value.slice none 0 0, Value.slice none 0 0] 86)) = W0 := ⟨_, rfl⟩
  have ba : Below w.heap.size w W0 := by rw [← hW0]; exact ((below_alloc _ _).alloc (by simp) _).alloc (by simp; omega) _
  have hz : W0.heap.size = w.heap.size + 3 := by rw [← hW0]; simp
  have hB0 : W0.heap[w.heap.size]? = some (Obj.cells #[Value.int .i64 xk0, Value.string xk1, Value.string xk2, Value.string xk3, Value.slice xA4 xn4 xp4, Value.slice xA5 xn5 xp5, Value.slice xA6 xn6 xp6] 153) := by
    rw [← hW0, Below.heap_alloc _ _ _ (by simp; omega), Below.heap_alloc _ _ _ (by simp)]; exact heap_alloc_new w _
  have hB1 : W0.heap[w.heap.size + 1]? = some (Obj.cells #[Value.int .i64 0, Value.string ⟨#[]⟩, Value.string ⟨#[]⟩, Value.string ⟨#[]⟩, Value.slice none 0 0, Value.slice none 0 0, Value.slice none 0 0] 86) := by
    rw [← hW0, Below.heap_alloc _ _ _ (by simp)]
    have := heap_alloc_new (w.alloc (Obj.cells #[Value.int .i64 xk0, Value.string xk1, Value.string xk2, Value.string xk3, Value.slice xA4 xn4 xp4, Value.slice xA5 xn5 xp5, Value.slice xA6 xn6 xp6] 153)) (Obj.cells #[Value.int .i64 0, Value.string ⟨#[]⟩, Value.string ⟨#[]⟩, Value.string ⟨#[]⟩, Value.slice none 0 0, Value.slice none 0 0, Value.slice none 0 0] 86)
    simpa using this
  have hB2 : W0.heap[w.heap.size + 1 + 1]? = some (Obj.cells #[Value.int .i64 xk0, Value.string xk1, Value.string xk2, Value.string xk3, Value.slice none 0 0, Value.slice none 0 0, Value.slice none 0 0] 86) := by
    rw [← hW0]
    have := heap_alloc_new ((w.alloc (Obj.cells #[Value.int .i64 xk0, Value.string xk1, Value.string xk2, Value.string xk3, Value.slice xA4 xn4 xp4, Value.slice xA5 xn5 xp5, Value.slice xA6 xn6 xp6] 153)).alloc (Obj.cells #[Value.int .i64 0, Value.string ⟨#[]⟩, Value.string ⟨#[]⟩, Value.string ⟨#[]⟩, Value.slice none 0 0, Value.slice none 0 0, Value.slice none 0 0] 86)) (Obj.cells #[Value.int .i64 xk0, Value.string xk1, Value.string xk2, Value.string xk3, Value.slice none 0 0, Value.slice none 0 0, Value.slice none 0 0] 86)
    simpa using this
  rw [hW0]
  clear hW0
  refine (h4 W0 _ (by omega) (At.below ba _ HA4.out)).mono ?_
  rintro e w4 ⟨v, rfl, own4, hb4⟩
  obtain ⟨yA4, yn4, yp4, rfl⟩ := At.lst (Own.at _ own4) (hsh 4 _ rfl)
  have hB0 := (hb4.block _ (lt_of hB0)).trans hB0
  have hB1 := (hb4.block _ (lt_of hB1)).trans hB1
  have hB2 := (hb4.block _ (lt_of hB2)).trans hB2
  have bb4 := below_trans ba hb4
  have s4 := hb4.size
  rw [hz] at own4 s4
  clear hb4
  have q4 : w4.cell? ⟨w.heap.size + 1 + 1, 4, none⟩ = some (Value.slice none 0 0) := by rw [cell_of hB2]; rfl
  have r4 : w4.frozen? ⟨w.heap.size + 1 + 1, 4, none⟩ = false := frozen_no hB2 _
  have qn : w4.cell? ⟨w.heap.size, 5, none⟩ = some (Value.slice xA5 xn5 xp5) := by rw [cell_of hB0]; rfl
  have HB0 := Lib.hid hB0
  have HB1 := Lib.hid hB1
  have HB2 := Lib.hid hB2
  clear hB0 hB1 hB2
  go_wp2_with fail
  clear qn q4 r4
  obtain ⟨W4, hW4⟩ : ∃ W', w4.setCell ⟨w.heap.size + 1 + 1, 4, none⟩ (Value.slice yA4 yn4 yp4) = W' := ⟨_, rfl⟩
  have bc4 : Below w.heap.size w W4 := by rw [← hW4]; exact bb4.setCell (by simp only; omega) _
  have sz4 : W4.heap.size = w4.heap.size := by rw [← hW4]; simp [World.setCell]
  have hB0 : W4.heap[w.heap.size]? = some (Obj.cells #[Value.int .i64 xk0, Value.string xk1, Value.string xk2, Value.string xk3, Value.slice xA4 xn4 xp4, Value.slice xA5 xn5 xp5, Value.slice xA6 xn6 xp6] 153) := by rw [← hW4, Below.heap_setCell _ _ _ _ (by simp only; omega)]; exact HB0.out
  have hB1 : W4.heap[w.heap.size + 1]? = some (Obj.cells #[Value.int .i64 0, Value.string ⟨#[]⟩, Value.string ⟨#[]⟩, Value.string ⟨#[]⟩, Value.slice none 0 0, Value.slice none 0 0, Value.slice none 0 0] 86) := by rw [← hW4, Below.heap_setCell _ _ _ _ (by simp only; omega)]; exact HB1.out
  have hB2 : W4.heap[w.heap.size + 1 + 1]? = some (Obj.cells #[Value.int .i64 xk0, Value.string xk1, Value.string xk2, Value.string xk3, Value.slice yA4 yn4 yp4, Value.slice none 0 0, Value.slice none 0 0] 86) := by rw [← hW4]; exact heap_setCell_same w4 _ 4 _ _ _ HB2.out
  have own4 := Own.same (w' := W4) _ own4 fun b hb => by rw [← hW4, Below.heap_setCell _ _ _ _ (by have := hb.1; simp only; omega)]
  rw [hW4]
  clear hW4 HB0 HB1 HB2
  refine (h5 W4 _ (by omega) (At.below bc4 _ HA5.out)).mono ?_
  rintro e w5 ⟨v, rfl, own5, hb5⟩
  obtain ⟨yA5, yn5, yp5, rfl⟩ := At.lst (Own.at _ own5) (hsh 5 _ rfl)
  have hB0 := (hb5.block _ (lt_of hB0)).trans hB0
  have hB1 := (hb5.block _ (lt_of hB1)).trans hB1
  have hB2 := (hb5.block _ (lt_of hB2)).trans hB2
  have bb5 := below_trans bc4 hb5
  have s5 := hb5.size
  have own4 := Own.below own4 hb5 (fun b hb => by have := hb.2; omega)
  rw [sz4] at own5 s5
  clear hb5
  have q5 : w5.cell? ⟨w.heap.size + 1 + 1, 5, none⟩ = some (Value.slice none 0 0) := by rw [cell_of hB2]; rfl
  have r5 : w5.frozen? ⟨w.heap.size + 1 + 1, 5, none⟩ = false := frozen_no hB2 _
  have qn : w5.cell? ⟨w.heap.size, 6, none⟩ = some (Value.slice xA6 xn6 xp6) := by rw [cell_of hB0]; rfl
  have HB0 := Lib.hid hB0
  have HB1 := Lib.hid hB1
  have HB2 := Lib.hid hB2
  clear hB0 hB1 hB2
  go_wp2_with fail
  clear qn q5 r5
  obtain ⟨W5, hW5⟩ : ∃ W', w5.setCell ⟨w.heap.size + 1 + 1, 5, none⟩ (Value.slice yA5 yn5 yp5) = W' := ⟨_, rfl⟩
  have bc5 : Below w.heap.size w W5 := by rw [← hW5]; exact bb5.setCell (by simp only; omega) _
  have sz5 : W5.heap.size = w5.heap.size := by rw [← hW5]; simp [World.setCell]
  have hB0 : W5.heap[w.heap.size]? = some (Obj.cells #[Value.int .i64 xk0, Value.string xk1, Value.string xk2, Value.string xk3, Value.slice xA4 xn4 xp4, Value.slice xA5 xn5 xp5, Value.slice xA6 xn6 xp6] 153) := by rw [← hW5, Below.heap_setCell _ _ _ _ (by simp only; omega)]; exact HB0.out
  have hB1 : W5.heap[w.heap.size + 1]? = some (Obj.cells #[Value.int .i64 0, Value.string ⟨#[]⟩, Value.string ⟨#[]⟩, Value.string ⟨#[]⟩, Value.slice none 0 0, Value.slice none 0 0, Value.slice none 0 0] 86) := by rw [← hW5, Below.heap_setCell _ _ _ _ (by simp only; omega)]; exact HB1.out
  have hB2 : W5.heap[w.heap.size + 1 + 1]? = some (Obj.cells #[Value.int .i64 xk0, Value.string xk1, Value.string xk2, Value.string xk3, Value.slice yA4 yn4 yp4, Value.slice yA5 yn5 yp5, Value.slice none 0 0] 86) := by rw [← hW5]; exact heap_setCell_same w5 _ 5 _ _ _ HB2.out
  have own4 := Own.same (w' := W5) _ own4 fun b hb => by rw [← hW5, Below.heap_setCell _ _ _ _ (by have := hb.1; simp only; omega)]
  have own5 := Own.same (w' := W5) _ own5 fun b hb => by rw [← hW5, Below.heap_setCell _ _ _ _ (by have := hb.1; simp only; omega)]
  rw [hW5]
  clear hW5 HB0 HB1 HB2
  refine (h6 W5 _ (by omega) (At.below bc5 _ HA6.out)).mono ?_
  rintro e w6 ⟨v, rfl, own6, hb6⟩
  obtain ⟨yA6, yn6, yp6, rfl⟩ := At.lst (Own.at _ own6) (hsh 6 _ rfl)
  have hB0 := (hb6.block _ (lt_of hB0)).trans hB0
  have hB1 := (hb6.block _ (lt_of hB1)).trans hB1
  have hB2 := (hb6.block _ (lt_of hB2)).trans hB2
  have bb6 := below_trans bc5 hb6
  have s6 := hb6.size
  have own4 := Own.below own4 hb6 (fun b hb => by have := hb.2; omega)
  have own5 := Own.below own5 hb6 (fun b hb => by have := hb.2; omega)
  rw [sz5] at own6 s6
  clear hb6
  have q6 : w6.cell? ⟨w.heap.size + 1 + 1, 6, none⟩ = some (Value.slice none 0 0) := by rw [cell_of hB2]; rfl
  have r6 : w6.frozen? ⟨w.heap.size + 1 + 1, 6, none⟩ = false := frozen_no hB2 _
  have q0 : w6.cell? ⟨w.heap.size + 1 + 1, 0, none⟩ = some (Value.int .i64 xk0) := by rw [cell_of hB2]; rfl
  have u0 : w6.cell? ⟨w.heap.size + 1, 0, none⟩ = some (Value.int .i64 0) := by rw [cell_of hB1]; rfl
  have z0 : w6.frozen? ⟨w.heap.size + 1, 0, none⟩ = false := frozen_no hB1 _
  have q1 : w6.cell? ⟨w.heap.size + 1 + 1, 1, none⟩ = some (Value.string xk1) := by rw [cell_of hB2]; rfl
  have u1 : w6.cell? ⟨w.heap.size + 1, 1, none⟩ = some (Value.string ⟨#[]⟩) := by rw [cell_of hB1]; rfl
  have z1 : w6.frozen? ⟨w.heap.size + 1, 1, none⟩ = false := frozen_no hB1 _
  have q2 : w6.cell? ⟨w.heap.size + 1 + 1, 2, none⟩ = some (Value.string xk2) := by rw [cell_of hB2]; rfl
  have u2 : w6.cell? ⟨w.heap.size + 1, 2, none⟩ = some (Value.string ⟨#[]⟩) := by rw [cell_of hB1]; rfl
  have z2 : w6.frozen? ⟨w.heap.size + 1, 2, none⟩ = false := frozen_no hB1 _
  have q3 : w6.cell? ⟨w.heap.size + 1 + 1, 3, none⟩ = some (Value.string xk3) := by rw [cell_of hB2]; rfl
  have u3 : w6.cell? ⟨w.heap.size + 1, 3, none⟩ = some (Value.string ⟨#[]⟩) := by rw [cell_of hB1]; rfl
  have z3 : w6.frozen? ⟨w.heap.size + 1, 3, none⟩ = false := frozen_no hB1 _
  have q4 : w6.cell? ⟨w.heap.size + 1 + 1, 4, none⟩ = some (Value.slice yA4 yn4 yp4) := by rw [cell_of hB2]; rfl
  have u4 : w6.cell? ⟨w.heap.size + 1, 4, none⟩ = some (Value.slice none 0 0) := by rw [cell_of hB1]; rfl
  have z4 : w6.frozen? ⟨w.heap.size + 1, 4, none⟩ = false := frozen_no hB1 _
  have q5 : w6.cell? ⟨w.heap.size + 1 + 1, 5, none⟩ = some (Value.slice yA5 yn5 yp5) := by rw [cell_of hB2]; rfl
  have u5 : w6.cell? ⟨w.heap.size + 1, 5, none⟩ = some (Value.slice none 0 0) := by rw [cell_of hB1]; rfl
  have z5 : w6.frozen? ⟨w.heap.size + 1, 5, none⟩ = false := frozen_no hB1 _
  have u6 : w6.cell? ⟨w.heap.size + 1, 6, none⟩ = some (Value.slice none 0 0) := by rw [cell_of hB1]; rfl
  have z6 : w6.frozen? ⟨w.heap.size + 1, 6, none⟩ = false := frozen_no hB1 _
  have HB1 := Lib.hid hB1
  clear hB0 hB1 hB2
  go_wp2
  obtain ⟨W9, hW9⟩ : ∃ W9, ((((((((w6.setCell ⟨w.heap.size + 1 + 1, 6, none⟩ (Value.slice yA6 yn6 yp6)).setCell ⟨w.heap.size + 1, 0, none⟩ (Value.int .i64 xk0)).setCell ⟨w.heap.size + 1, 1, none⟩ (Value.string xk1)).setCell ⟨w.heap.size + 1, 2, none⟩ (Value.string xk2)).setCell ⟨w.heap.size + 1, 3, none⟩ (Value.string xk3)).setCell ⟨w.heap.size + 1, 4, none⟩ (Value.slice yA4 yn4 yp4)).setCell ⟨w.heap.size + 1, 5, none⟩ (Value.slice yA5 yn5 yp5)).setCell ⟨w.heap.size + 1, 6, none⟩ (Value.slice yA6 yn6 yp6)) = W9 := ⟨_, rfl⟩
  have hW9' : stores (stores w6 (w.heap.size + 1 + 1) 6 [Value.slice yA6 yn6 yp6]) (w.heap.size + 1) 0 [Value.int .i64 xk0, Value.string xk1, Value.string xk2, Value.string xk3, Value.slice yA4 yn4 yp4, Value.slice yA5 yn5 yp5, Value.slice yA6 yn6 yp6] = W9 := hW9
  rw [hW9]
  clear hW9
  have hg9 : W9.heap[w.heap.size + 1]? = some (Obj.cells #[Value.int .i64 xk0, Value.string xk1, Value.string xk2, Value.string xk3, Value.slice yA4 yn4 yp4, Value.slice yA5 yn5 yp5, Value.slice yA6 yn6 yp6] 86) := by
    rw [← hW9']
    exact stores_heap _ _ 0 #[Value.int .i64 0, Value.string ⟨#[]⟩, Value.string ⟨#[]⟩, Value.string ⟨#[]⟩, Value.slice none 0 0, Value.slice none 0 0, Value.slice none 0 0] ((stores_other (by omega) _ _ _).trans HB1.out)
  have hk9 : ∀ b, w.heap.size + 2 < b → W9.heap[b]? = w6.heap[b]? := fun b hb => by rw [← hW9', stores_other (by omega), stores_other (by omega)]
  have hz9 : W9.heap.size = w6.heap.size := by rw [← hW9', stores_size, stores_size]
  have bb9 : Below w.heap.size w W9 := by rw [← hW9']; exact stores_below (by omega) _ _ _ (stores_below (by omega) _ _ _ bb6)
  clear hW9'
  (try simp only [Exit.inBlock, Exit.then])
  refine bodyPost_ret (results_cell_row rfl _ W9 (w.heap.size + 1) _ _ _ _ rfl hg9 Tryz.underlying86 rfl (by kernel_rfl)) rfl ?_
  refine ⟨_, _, _, _, _, _, _, rfl, ?_, bb9⟩
  rw [hz9]
  have own4 := Own.same (w' := W9) _ own4 fun b hb => hk9 b (by have := hb.1; omega)
  have own5 := Own.same (w' := W9) _ own5 fun b hb => hk9 b (by have := hb.1; omega)
  have own6 := Own.same (w' := W9) _ own6 fun b hb => hk9 b (by have := hb.1; omega)
  refine OwnR.wide ?_ (F := rng (w.heap.size + 3) w6.heap.size) (fun b h => ⟨by have := h.1; omega, h.2⟩)
  exact (ownR_plain (Own.plain HA0.out (hsh 0 _ rfl)) (ownR_plain (Own.plain HA1.out (hsh 1 _ rfl)) (ownR_plain (Own.plain HA2.out (hsh 2 _ rfl)) (ownR_plain (Own.plain HA3.out (hsh 3 _ rfl)) (ownR_cons (F1 := rng (w.heap.size + 3) (w4.heap.size)) (F2 := rng (w4.heap.size) w6.heap.size) (F := rng (w.heap.size + 3) w6.heap.size) own4 (ownR_cons (F1 := rng (w4.heap.size) (w5.heap.size)) (F2 := rng (w5.heap.size) w6.heap.size) (F := rng (w4.heap.size) w6.heap.size) own5 (ownR_cons (F1 := rng (w5.heap.size) (w6.heap.size)) (F2 := rng (w6.heap.size) w6.heap.size) (F := rng (w5.heap.size) w6.heap.size) own6 ownR_nil (fun b h1 h2 => by have := h1.2; have := h2.1; omega) (fun b h => ⟨by have := h.1; omega, by have := h.2; omega⟩) (fun b h => ⟨by have := h.1; omega, h.2⟩)) (fun b h1 h2 => by have := h1.2; have := h2.1; omega) (fun b h => ⟨by have := h.1; omega, by have := h.2; omega⟩) (fun b h => ⟨by have := h.1; omega, h.2⟩)) (fun b h1 h2 => by have := h1.2; have := h2.1; omega) (fun b h => ⟨by have := h.1; omega, by have := h.2; omega⟩) (fun b h => ⟨by have := h.1; omega, h.2⟩))))))

theorem toValues : ∀ (d : D), Sh d (.lst .value) → ToL 120 d
  | .list W n it, h => by
    obtain ⟨n', it', e, hs⟩ := h.lst
    cases e
    exact toLsValue n it hs fun i hi => toRValue_of (it i) (hs i hi) (toValues (it i 2) (hs i hi 2 _ rfl)) (toStrings (hs i hi 3 _ rfl))
  | .no, h => h.elim
  | .int _, h => by cases h
  | .str _, h => by cases h
  | .bool _, h => by cases h
theorem sh_value {r : Nat → D} (hs : ∀ j g, (row .arg)[j]? = some g → Sh (r j) g) : ∀ j g, (row .value)[j]? = some g → Sh (r (j + 1)) g := fun j g h => hs (j + 1) g h
theorem toArgs {d : D} (h : Sh d (.lst .arg)) : ToL 111 d := by
  obtain ⟨n, it, rfl, hs⟩ := h.lst
  exact toLsArg n it hs fun i hi => toRArg_of (it i) (hs i hi) (toRValue_of (fun j => it i (j + 1)) (sh_value (hs i hi)) (toValues _ (hs i hi 3 _ rfl)) (toStrings (hs i hi 4 _ rfl)))
theorem toDirs {d : D} (h : Sh d (.lst .dir)) : ToL 50 d := by
  obtain ⟨n, it, rfl, hs⟩ := h.lst
  exact toLsDir n it hs fun i hi => toRDir_of (it i) (hs i hi) (toArgs (hs i hi 1 _ rfl))
theorem toSels : ∀ (d : D), Sh d (.lst .sel) → ToL 51 d
  | .list W n it, h => by
    obtain ⟨n', it', e, hs⟩ := h.lst
    cases e
    exact toLsSel n it hs fun i hi => toRSel_of (it i) (hs i hi) (toArgs (hs i hi 4 _ rfl)) (toDirs (hs i hi 5 _ rfl)) (toSels (it i 6) (hs i hi 6 _ rfl))
  | .no, h => h.elim
  | .int _, h => by cases h
  | .str _, h => by cases h
  | .bool _, h => by cases h
theorem toSel {r : Nat → D} (hs : ∀ j g, (row .sel)[j]? = some g → Sh (r j) g) : ToRSel r :=
  toRSel_of r hs (toArgs (hs 4 _ rfl)) (toDirs (hs 5 _ rfl)) (toSels (r 6) (hs 6 _ rfl))
end Da
end Go.Proofs.YtngfhncdmlpjiaaGreat
