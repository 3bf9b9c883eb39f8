/- What is proved: the laws' copies of tokens are the same, in new memory of their own. (Made by tools/mkdbt.py.) -/
import Derived.Test.YtfljibjlfjgajaaDaT
namespace Go.Proofs.Ytfljibjlfjgajaa
namespace Da
set_option linter.unusedVariables false
set_option linter.unusedSimpArgs false
open Go.RowKit
attribute [local go_sem ↓] Go.wp_at_zero Go.wp_at_succ

/-- The contract of one. -/
def ToRToken (r : Nat → D) : Prop := ∀ (w : World) (c0 c1 c2 : Value), sumTo (fun j => sz (r j)) 3 ≤ 1048576 → At w (r 0) c0 → At w (r 1) c1 → At w (r 2) c2 →
  Calls Try.prog 7 #[.agg #[c0, c1, c2]] w fun e w' => ∃ d0 d1 d2, e = .returned (.agg #[d0, d1, d2]) ∧ OwnR w' r (rng w.heap.size w'.heap.size) [d0, d1, d2] ∧ Below w.heap.size w w'
theorem sizeToken : (Try.prog.info? 26).map (·.size) = some 3 := by kernel_rfl
set_option maxHeartbeats 8000000 in
theorem toRToken_of (r : Nat → D) (hsh : ∀ j g, (row .token)[j]? = some g → Sh (r j) g) : ToRToken r := by
  intro w c0 c1 c2 hs a0 a1 a2
  simp only [sumTo] at hs
  have HA0 := Lib.hid a0
  have HA1 := Lib.hid a1
  have HA2 := Lib.hid a2
  obtain ⟨xk0, rfl⟩ := At.int a0 (hsh 0 _ rfl)
  obtain ⟨xk1, rfl⟩ := At.str a1 (hsh 1 _ rfl)
  obtain ⟨xk2, rfl⟩ := At.int a2 (hsh 2 _ rfl)
  clear a0 a1 a2
  go_enter Try.func7, Try.ntmps7
  go_wp2
  obtain ⟨W9, hW9⟩ : ∃ W9, (((w.alloc (Obj.cells #[Value.int .i64 xk0, Value.string xk1, Value.int .i64 xk2] 23)).alloc (Obj.cells #[Value.int .i64 xk0, Value.string xk1, Value.int .i64 xk2] 26)).alloc (Obj.cells #[Value.int .i64 xk0, Value.string xk1, Value.int .i64 xk2] 26)) = W9 := ⟨_, rfl⟩
  rw [hW9]
  have hg9 : W9.heap[w.heap.size + 1]? = some (Obj.cells #[Value.int .i64 xk0, Value.string xk1, Value.int .i64 xk2] 26) := by
    rw [← hW9, Below.heap_alloc _ _ _ (by simp)]
    exact heap_alloc2_new w _ _
  have bb9 : Below w.heap.size w W9 := by rw [← hW9]; exact ((below_alloc _ _).alloc (by simp) _).alloc (by simp; omega) _
  clear hW9
  (try simp only [Exit.inBlock, Exit.then])
  refine bodyPost_ret (results_cell_row rfl _ W9 (w.heap.size + 1) _ _ _ _ rfl hg9 Try.underlying26 rfl (by kernel_rfl)) rfl ?_
  refine ⟨_, _, _, rfl, ?_, bb9⟩
  exact (ownR_plain (Own.plain HA0.out (hsh 0 _ rfl)) (ownR_plain (Own.plain HA1.out (hsh 1 _ rfl)) (ownR_plain (Own.plain HA2.out (hsh 2 _ rfl)) ownR_nil)))

theorem toToken {r : Nat → D} (hs : ∀ j g, (row .token)[j]? = some g → Sh (r j) g) : ToRToken r := (toRToken_of r hs )

def zeroToken : Value := .agg #[Value.int .i64 0, Value.string ⟨#[]⟩, Value.int .i64 0]
theorem infoToken : (Try.prog.info? 26).map (fun i => (i.zero, i.size, i.bytes)) = some (some zeroToken, 3, 32) := by kernel_rfl
theorem undsToken : Try.prog.underlying 32 = some (.slice 26) := by kernel_rfl
theorem makeToken (n : Nat) (hn : n ≤ 1048576) : ∃ cur : Array Value, cur.size = n * 3 ∧ ∀ w : World, (Instr.makeSlice 32 (.int .i64 (n : Int)) (.int .i64 (n : Int))).run Try.prog w = .ok (.slice (some ⟨w.heap.size, 0, none⟩) n n) (w.alloc (.cells cur 26)) := by
  obtain ⟨i, hi, hzz⟩ := Option.map_eq_some_iff.1 infoToken
  simp only [Prod.mk.injEq] at hzz
  obtain ⟨hz, hs, hb⟩ := hzz
  refine ⟨madeCells zeroToken.cells (n * 3), size_madeCells _ _, fun w => ?_⟩
  have := run_make (P := Try.prog) w 32 26 i zeroToken undsToken hi hz .i64 .i64 n n (by omega) (by omega) (by rw [hb]; omega) (by omega)
  rw [hs] at this
  simpa using this
set_option maxHeartbeats 4000000 in
theorem toLsToken (n : Nat) (it : Nat → Nat → D) (hsh : ∀ i, i < n → ∀ j g, (row .token)[j]? = some g → Sh (it i j) g) (hit : ∀ i, i < n → ToRToken (it i)) : ToL 11 (.list 3 n it) := by
  intro w c hs h
  have HI := Lib.hid h
  obtain ⟨A, cap, rfl, hm⟩ := h.slice
  clear h
  unfold maxLen at hm
  have hn : n ≤ 1048576 := by simp only [sz] at hs; omega
  have HSZ := Lib.hid hs
  clear hs
  obtain ⟨cur0, hcur0, hmk⟩ := makeToken n hn
  have HCu := Lib.hid hcur0
  clear hcur0
  go_enter Try.func11, Try.ntmps11
  go_wp2
  clear hmk
  go_loopw [4] (fun i wr => ∃ k : Nat, k ≤ n ∧ i = .int .i64 k ∧ Laid wr (w.heap.size + 1) w.heap.size 3 n k 26 it ∧ w.heap.size < wr.heap.size ∧ Below w.heap.size w wr) (fun i _ => n - (intOf i).toNat)
  case atStart => exact ⟨0, Nat.zero_le _, rfl, Laid.zero (heap_alloc_new w _) (by have := HCu.out; omega), by simp, below_alloc _ _⟩
  case round =>
    obtain ⟨k, hk, rfl, hlaid, hgl, hbel⟩ := hrel
    have HLD := Lib.hid hlaid
    obtain ⟨cur, hg, hcs⟩ := hlaid.heap
    have HG := Lib.hid hg
    have HCS := Lib.hid hcs
    clear hlaid hg hcs
    by_cases hlt : k < n
    · have hk0 : (0 : Int) ≤ (k : Int) := by omega
      have hk1 : (k : Int) < (n : Int) := by omega
      obtain ⟨b, o, e2, hf⟩ := (At.below hbel _ HI.out).nth hlt
      subst e2
      obtain ⟨c0, f0, a0⟩ := hf 0 (by omega)
      obtain ⟨c1, f1, a1⟩ := hf 1 (by omega)
      obtain ⟨c2, f2, a2⟩ := hf 2 (by omega)
      clear hf
      rw [Nat.add_zero] at f0
      have cc := hit k hlt wr c0 c1 c2 (by have := sz_row (W := 3) (it := it) hlt; have := HSZ.out; omega) a0 a1 a2
      clear a0 a1 a2
      go_wp2_with fail
      refine cc.mono ?_
      rintro e w1 ⟨d0, d1, d2, rfl, hown, hb1⟩
      clear cc
      have HG1 := Lib.hid ((hb1.block _ hgl).trans HG.out)
      have HO := Lib.hid hown
      have t0 := hown.at 0 _ rfl
      have t1 := hown.at 1 _ rfl
      have t2 := hown.at 2 _ rfl
      clear hown
      obtain ⟨yk0, rfl⟩ := At.int t0 (hsh k hlt 0 _ rfl)
      obtain ⟨yk1, rfl⟩ := At.str t1 (hsh k hlt 1 _ rfl)
      obtain ⟨yk2, rfl⟩ := At.int t2 (hsh k hlt 2 _ rfl)
      clear t0 t1 t2
      have hcs := HCS.out
      obtain ⟨o0, p0⟩ : ∃ old, w1.cell? ⟨w.heap.size, k * 3, none⟩ = some old := by rw [cell_of HG1.out]; exact ⟨_, Array.getElem?_eq_getElem (by omega)⟩
      have z0 : w1.frozen? ⟨w.heap.size, k * 3, none⟩ = false := frozen_no HG1.out _
      obtain ⟨o1, p1⟩ : ∃ old, w1.cell? ⟨w.heap.size, k * 3 + 1, none⟩ = some old := by rw [cell_of HG1.out]; exact ⟨_, Array.getElem?_eq_getElem (by omega)⟩
      have z1 : w1.frozen? ⟨w.heap.size, k * 3 + 1, none⟩ = false := frozen_no HG1.out _
      obtain ⟨o2, p2⟩ : ∃ old, w1.cell? ⟨w.heap.size, k * 3 + 2, none⟩ = some old := by rw [cell_of HG1.out]; exact ⟨_, Array.getElem?_eq_getElem (by omega)⟩
      have z2 : w1.frozen? ⟨w.heap.size, k * 3 + 2, none⟩ = false := frozen_no HG1.out _
      clear hcs
      go_wp2
      go_roundw
      case rel =>
        have hst := Laid.step (vs := [Value.int .i64 yk0, Value.string yk1, Value.int .i64 yk2]) HLD.out hlt hgl (by omega) hb1 rfl HO.out
        have hsz := stores_size (g := w.heap.size) [Value.int .i64 yk0, Value.string yk1, Value.int .i64 yk2] w1 (k * 3)
        have hbb := stores_below (Nat.le_refl _) [Value.int .i64 yk0, Value.string yk1, Value.int .i64 yk2] w1 (k * 3) (below_trans hbel hb1)
        have hlt9 := Nat.lt_of_lt_of_eq (Nat.lt_of_lt_of_le hgl hb1.size) hsz.symm
        exact ⟨k + 1, by omega, by go_num, hst, hlt9, hbb⟩
      case measure => simp [intOf]; omega
    · go_wp2
      go_ret
      obtain rfl : k = n := by omega
      exact ⟨_, rfl, HLD.out.own (Nat.le_refl _) (Nat.le_refl _) (by unfold maxLen; omega) hgl, hbel⟩

theorem toTokens {d : D} (h : Sh d (.lst .token)) : ToL 11 d := by
  obtain ⟨n, it, rfl, hs⟩ := h.lst
  exact toLsToken n it hs fun i hi => (toRToken_of (it i) (hs i hi) )

end Da
end Go.Proofs.Ytfljibjlfjgajaa
