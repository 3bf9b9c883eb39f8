/- What is proved: the laws' test of two lists of items says yes of one list in two places. -/
import Derived.Test.YtngfhncdmlpjiaaGreatDbEm
import Derived.Test.YtngfhncdmlpjiaaGreatDcA
namespace Go.Proofs.YtngfhncdmlpjiaaGreat
namespace Dc
set_option linter.unusedVariables false
set_option linter.unusedSimpArgs false
open Go.RowKit Da
attribute [local go_sem ↓] Go.wp_at_zero Go.wp_at_succ

/-- A load of a row of cells that lies in every world of the class. -/
theorem quiet_load_cells {P : Program} {C : World → Prop} {o : Oper} {a : Act} {K : Act → Prop} (ty : TypeId) (x : Operand) (ho : o.op = .load ty x) (b p : Nat) (hx : a.eval x = .pointer (some ⟨b, p, none⟩)) (cs : List Value) (d : TypeDesc)
    (hc : ∀ w, C w → ∀ j v, cs[j]? = some v → w.cell? ⟨b, p + j, none⟩ = some v) (hu : P.underlying ty = some d) (hd : (match d with | .struct _ | .array _ _ => true | _ => false) = true) (hi : (P.info? ty).map (·.size) = some cs.length)
    (h : K (a.put o.dst (.agg cs.toArray))) : o.quiet P a C K := by
  refine ⟨.agg cs.toArray, fun w hw => ?_, h⟩
  have hl : (loadCells ⟨b, p, none⟩ cs.length).run P w = .ok cs.toArray w :=
    run_loadCells_list (P := P) w ⟨b, p, none⟩ cs (fun j v hv => by
      have hadd : (⟨b, p, none⟩ : Addr).add j = ⟨b, p + j, none⟩ := by unfold Addr.add; split <;> simp_all
      rw [hadd]; exact hc w hw j v hv)
  have hr : (loadVar ty ⟨b, p, none⟩).run P w = .ok (.agg cs.toArray) w := by
    cases hq : P.info? ty with
    | none => simp [hq] at hi
    | some i =>
      have hs : i.size = cs.length := by simpa [hq] using hi
      have hagg : (isAgg ty).run P w = .ok true w := by
        unfold isAgg
        rw [Sem.run_bind, run_underlying hu w]
        cases d <;> simp_all
      simp [loadVar, Sem.run_bind, hagg, sizeOf, typeInfo, hq, hs, hl]
  unfold Oper.quietAt execOp
  simp only [ho, hx, Instr.loadAt, Instr.sureAddr, Sem.run_bind, Sem.run_pure, Result.andThen_ok, hr]
  exact ⟨rfl, rfl⟩
theorem eqRItem_row {r : Nat → D} (h : EqRItem r) (w : World) (cs ds : List Value) (hc : cs.length = 21) (hd : ds.length = 21) (ha : ∀ j v, cs[j]? = some v → At w (r j) v) (hb : ∀ j v, ds[j]? = some v → At w (r j) v) :
    Calls Tryz.prog 26 #[.agg cs.toArray, .agg ds.toArray] w fun e w' => e = .returned (.bool true) ∧ Below w.heap.size w w' := by
  obtain ⟨c0, c1, c2, c3, c4, c5, c6, c7, c8, c9, c10, c11, c12, c13, c14, c15, c16, c17, c18, c19, c20, rfl⟩ := lnB21 hc
  obtain ⟨d0, d1, d2, d3, d4, d5, d6, d7, d8, d9, d10, d11, d12, d13, d14, d15, d16, d17, d18, d19, d20, rfl⟩ := lnB21 hd
  exact h w c0 c1 c2 c3 c4 c5 c6 c7 c8 c9 c10 c11 c12 c13 c14 c15 c16 c17 c18 c19 c20 d0 d1 d2 d3 d4 d5 d6 d7 d8 d9 d10 d11 d12 d13 d14 d15 d16 d17 d18 d19 d20 (ha 0 _ rfl) (ha 1 _ rfl) (ha 2 _ rfl) (ha 3 _ rfl) (ha 4 _ rfl) (ha 5 _ rfl) (ha 6 _ rfl) (ha 7 _ rfl) (ha 8 _ rfl) (ha 9 _ rfl) (ha 10 _ rfl) (ha 11 _ rfl) (ha 12 _ rfl) (ha 13 _ rfl) (ha 14 _ rfl) (ha 15 _ rfl) (ha 16 _ rfl) (ha 17 _ rfl) (ha 18 _ rfl) (ha 19 _ rfl) (ha 20 _ rfl) (hb 0 _ rfl) (hb 1 _ rfl) (hb 2 _ rfl) (hb 3 _ rfl) (hb 4 _ rfl) (hb 5 _ rfl) (hb 6 _ rfl) (hb 7 _ rfl) (hb 8 _ rfl) (hb 9 _ rfl) (hb 10 _ rfl) (hb 11 _ rfl) (hb 12 _ rfl) (hb 13 _ rfl) (hb 14 _ rfl) (hb 15 _ rfl) (hb 16 _ rfl) (hb 17 _ rfl) (hb 18 _ rfl) (hb 19 _ rfl) (hb 20 _ rfl)
set_option maxRecDepth 100000 in
set_option maxHeartbeats 4000000 in
theorem eqLsItem (n : Nat) (it : Nat → Nat → D) (hit : ∀ i, i < n → EqRItem (it i)) : EqL 17 (.list 21 n it) := by
  intro w c c' h h'
  have HI := Lib.hid h
  have HI' := Lib.hid h'
  obtain ⟨A, cap, rfl, hm⟩ := h.slice
  obtain ⟨A', cap', rfl, -⟩ := h'.slice
  clear h h'
  unfold maxLen at hm
  go_enter Tryz.func17, Tryz.ntmps17
  go_wp2
  go_loopw [5] (fun i wr => ∃ k : Nat, k ≤ n ∧ i = .int .i64 k ∧ Below w.heap.size w wr) (fun i _ => n - (intOf i).toNat)
  case atStart => exact ⟨0, Nat.zero_le _, rfl, Below.refl _ _⟩
  case round =>
    obtain ⟨k, hk, rfl, hbel⟩ := hrel
    by_cases hlt : k < n
    · have hk0 : (0 : Int) ≤ (k : Int) := by omega
      have hk1 : (k : Int) < (n : Int) := by omega
      obtain ⟨b, o, e2, hf⟩ := (At.below hbel _ HI.out).nth hlt
      subst e2
      obtain ⟨b', o', e2, hf'⟩ := (At.below hbel _ HI'.out).nth hlt
      subst e2
      obtain ⟨cs, hcl, hcs⟩ := row_of hf
      obtain ⟨ds, hdl, hds⟩ := row_of hf'
      clear hf hf'
      have HC := Lib.hid (fun (W : World) (hW : ∃ X : Gr wr, W = X.W) j v (hv : cs[j]? = some v) => (show W.cell? ⟨b, o + k * 21 + j, none⟩ = some v by obtain ⟨X, rfl⟩ := hW; exact X.cell (hcs j v hv).1))
      have HD := Lib.hid (fun (W : World) (hW : ∃ X : Gr wr, W = X.W) j v (hv : ds[j]? = some v) => (show W.cell? ⟨b', o' + k * 21 + j, none⟩ = some v by obtain ⟨X, rfl⟩ := hW; exact X.cell (hds j v hv).1))
      have HZ1 := Lib.hid (show (Tryz.prog.info? 48).map (·.size) = some cs.length by rw [hcl]; kernel_rfl)
      have HZ2 := Lib.hid (show (Tryz.prog.info? 48).map (·.size) = some ds.length by rw [hdl]; kernel_rfl)
      have HK := Lib.hid (fun X : Gr wr => gr_call (X := X) (eqRItem_row (hit k hlt) X.W cs ds hcl hdl (atl_below X.below fun j v hv => (hcs j v hv).2) (atl_below X.below fun j v hv => (hds j v hv).2)))
      clear hcs hds hcl hdl
      go_wp2
      refine wp_region_gr (by kernel_rfl) (by kernel_rfl) ?_
      repeat (first | (go_big_quiet_want; (first | (refine quiet_load_cells 48 _ rfl b (o + k * 21) rfl cs _ HC.out Tryz.underlying48 rfl HZ1.out ?_) | (refine quiet_load_cells 48 _ rfl b' (o' + k * 21) rfl ds _ HD.out Tryz.underlying48 rfl HZ2.out ?_)); go_simp; go_big_quiet_on) | go_big_quiet_step (exact HK.out _))
      refine wpQuiet_nil ?_
      intro X
      go_wp2
      go_roundw
      case rel => exact ⟨k + 1, by omega, by go_num, below_trans hbel X.below⟩
      case measure => simp [intOf]; omega
    · go_wp2
      go_ret
      exact ⟨rfl, hbel⟩
theorem eqItems {d : D} (h : Sh d (.lst .item)) : EqL 17 d := by
  obtain ⟨n, it, rfl, hs⟩ := h.lst
  exact eqLsItem n it fun i hi => eqItem (hs i hi)
end Dc
end Go.Proofs.YtngfhncdmlpjiaaGreat
