/- What is proved: the laws' copies of lists of items are the same, in new memory of their own. (Made by tools/mkdbm.py.) -/
import Derived.Test.YtngfhncdmlpjiaaGreatDbTm
import Derived.Test.YtngfhncdmlpjiaaGreatDbZq
namespace Go.Proofs.YtngfhncdmlpjiaaGreat
namespace Da
set_option linter.unusedVariables false
set_option linter.unusedSimpArgs false
open Go.RowKit
attribute [local go_sem ↓] Go.wp_at_zero Go.wp_at_succ

theorem at_one {w : World} : ∀ {d : D} {c : Value}, At w d c → c.oneCell' = true
  | .int _, _, h => by rw [show _ = _ from h]; rfl
  | .str _, _, h => by rw [h.1]; rfl
  | .bool _, _, h => by rw [show _ = _ from h]; rfl
  | .list _ _ _, _, h => by obtain ⟨A, cap, rfl, -⟩ := h; rfl
  | .no, _, h => h.elim
theorem stores_setRow {g : Nat} {t : TypeId} : ∀ (vs : List Value) (p : Nat) (cur : Array Value) (w : World), w.heap[g]? = some (.cells cur t (0, 0)) → p + vs.length ≤ cur.size →
    stores w g p vs = w.setRow g (cur.toList.take p ++ vs ++ cur.toList.drop (p + vs.length)).toArray
  | [], p, cur, w, hg, _ => by
    simp only [stores, List.append_nil, List.length_nil, Nat.add_zero, List.take_append_drop, Array.toArray_toList]
    exact (setRow_self w g cur t (0, 0) hg).symm
  | v :: rest, p, cur, w, hg, hl => by
    have hi : p < cur.size := by simp at hl; omega
    rw [stores, setCell_eq_setRow w g p cur t (0, 0) v hg]
    have ih := stores_setRow rest (p + 1) (cur.setIfInBounds p v) (w.setRow g (cur.setIfInBounds p v)) (setRow_heap w g cur _ t _ hg) (by simp at hl ⊢; omega)
    rw [ih, setRow_setRow]
    congr 2
    have e := list_seg_step cur.toList p v rest (by simp at hl ⊢; omega)
    simpa [Array.toList_setIfInBounds, Nat.add_assoc] using e
def zeroItem : Value := .agg #[Value.int .i64 0, Value.int .i64 0, Value.string ⟨#[]⟩, Value.slice none 0 0, Value.slice none 0 0, Value.slice none 0 0, Value.string ⟨#[]⟩, Value.string ⟨#[]⟩, Value.slice none 0 0, Value.slice none 0 0, Value.int .i64 0, Value.bool false, Value.string ⟨#[]⟩, Value.string ⟨#[]⟩, Value.slice none 0 0, Value.slice none 0 0, Value.slice none 0 0, Value.slice none 0 0, Value.slice none 0 0, Value.bool false, Value.slice none 0 0]
theorem infoItem : (Tryz.prog.info? 48).map (fun i => (i.zero, i.size, i.bytes)) = some (some zeroItem, 21, 384) := by kernel_rfl
theorem sizeLItem' : (Tryz.prog.info? 72).map (·.size) = some 21 := by kernel_rfl
theorem undsItem : Tryz.prog.underlying 27 = some (.slice 48) := by kernel_rfl
theorem makeItem (n : Nat) (hn : n ≤ 1048576) : ∃ cur : Array Value, cur.size = n * 21 ∧ ∀ w : World, (Instr.makeSlice 27 (.int .i64 (n : Int)) (.int .i64 (n : Int))).run Tryz.prog w = .ok (.slice (some ⟨w.heap.size, 0, none⟩) n n) (w.alloc (.cells cur 48)) := by
  obtain ⟨i, hi, hzz⟩ := Option.map_eq_some_iff.1 infoItem
  simp only [Prod.mk.injEq] at hzz
  obtain ⟨hz, hs, hb⟩ := hzz
  refine ⟨madeCells zeroItem.cells (n * 21), size_madeCells _ _, fun w => ?_⟩
  have := run_make (P := Tryz.prog) w 27 48 i zeroItem undsItem hi hz .i64 .i64 n n (by omega) (by omega) (by rw [hb]; omega) (by omega)
  rw [hs] at this
  simpa using this
theorem toRItem_row {r : Nat → D} (h : ToRItem r) (w : World) (cs : List Value) (hc : cs.length = 21) (hs : sumTo (fun j => sz (r j)) 21 ≤ 1048576) (hat : ∀ j v, cs[j]? = some v → At w (r j) v) :
    Calls Tryz.prog 22 #[.agg cs.toArray] w fun e w' => ∃ ds : List Value, ds.length = 21 ∧ e = .returned (.agg ds.toArray) ∧ OwnR w' r (rng w.heap.size w'.heap.size) ds ∧ Below w.heap.size w w' := by
  obtain ⟨c0, c1, c2, c3, c4, c5, c6, c7, c8, c9, c10, c11, c12, c13, c14, c15, c16, c17, c18, c19, c20, rfl⟩ := lenB21 hc
  refine (h w c0 c1 c2 c3 c4 c5 c6 c7 c8 c9 c10 c11 c12 c13 c14 c15 c16 c17 c18 c19 c20 hs (hat 0 _ rfl) (hat 1 _ rfl) (hat 2 _ rfl) (hat 3 _ rfl) (hat 4 _ rfl) (hat 5 _ rfl) (hat 6 _ rfl) (hat 7 _ rfl) (hat 8 _ rfl) (hat 9 _ rfl) (hat 10 _ rfl) (hat 11 _ rfl) (hat 12 _ rfl) (hat 13 _ rfl) (hat 14 _ rfl) (hat 15 _ rfl) (hat 16 _ rfl) (hat 17 _ rfl) (hat 18 _ rfl) (hat 19 _ rfl) (hat 20 _ rfl)).mono ?_
  rintro e w' ⟨d0, d1, d2, d3, d4, d5, d6, d7, d8, d9, d10, d11, d12, d13, d14, d15, d16, d17, d18, d19, d20, rfl, ho, hb⟩
  exact ⟨[d0, d1, d2, d3, d4, d5, d6, d7, d8, d9, d10, d11, d12, d13, d14, d15, d16, d17, d18, d19, d20], rfl, rfl, ho, hb⟩
set_option maxRecDepth 100000 in
set_option maxHeartbeats 4000000 in
theorem toLsItem (n : Nat) (it : Nat → Nat → D) (hit : ∀ i, i < n → ToRItem (it i)) : ToL 14 (.list 21 n it) := by
  intro w c hs h
  have HI := Lib.hid h
  obtain ⟨A, cap, rfl, hm⟩ := h.slice
  clear h
  unfold maxLen at hm
  have hn : n ≤ 1048576 := by simp only [sz] at hs; omega
  have HSZ := Lib.hid hs
  clear hs
  obtain ⟨cur0, hcur0, hmk⟩ := makeItem n hn
  have HCu := Lib.hid hcur0
  clear hcur0
  go_enter Tryz.func14, Tryz.ntmps14
  go_wp2
  clear hmk
  go_loopw [4] (fun i wr => ∃ k : Nat, k ≤ n ∧ i = .int .i64 k ∧ Laid wr (w.heap.size + 1) w.heap.size 21 n k 48 it ∧ w.heap.size < wr.heap.size ∧ Below w.heap.size w wr) (fun i _ => n - (intOf i).toNat)
  case atStart => exact ⟨0, Nat.zero_le _, rfl, Laid.zero (heap_alloc_new w _) (by have := HCu.out; omega), by simp, below_alloc _ _⟩
  case round =>
    obtain ⟨k, hk, rfl, hlaid, hgl, hbel⟩ := hrel
    have HLD := Lib.hid hlaid
    obtain ⟨cur, hg, hcs⟩ := hlaid.heap
    have HG := Lib.hid hg
    have HCS := Lib.hid hcs
    clear hlaid hg hcs
    by_cases hlt : k < n
    · have hk0 : (0 : Int) ≤ (k : Int) := by omega
      have hk1 : (k : Int) < (n : Int) := by omega
      obtain ⟨b, o, e2, hf⟩ := (At.below hbel _ HI.out).nth hlt
      subst e2
      obtain ⟨cs, hcl, hcs⟩ := cells_of hf
      clear hf
      have HC := Lib.hid (fun j v hv => (hcs j v hv).1)
      have HIF : Hid ((Tryz.prog.info? 72).map (·.size) = some cs.length) := by rw [hcl]; exact sizeLItem'
      have cc := toRItem_row (hit k hlt) wr cs hcl (by have := sz_row (W := 21) (it := it) hlt; have := HSZ.out; omega) (fun j v hv => (hcs j v hv).2)
      clear hcs hcl
      go_wp2_with (refine wpList_load_cells rfl 72 _ rfl b (o + k * 21) rfl cs _ HC.out Tryz.underlying72 rfl HIF.out ?_)
      refine cc.mono ?_
      rintro e w1 ⟨ds, hdl, rfl, hown, hb1⟩
      clear cc
      have HG1 := Lib.hid ((hb1.block _ hgl).trans HG.out)
      have HO := Lib.hid hown
      have HON : Hid (∀ v ∈ ds, v.oneCell' = true) := fun v hv => by
        obtain ⟨j, hj, rfl⟩ := List.getElem_of_mem hv
        exact at_one (hown.at j _ (List.getElem?_eq_getElem hj))
      clear hown
      have HID : Hid ((Tryz.prog.info? 48).map (·.size) = some ds.length) := by rw [hdl]; exact sizeItem
      have hle : k * 21 + ds.length ≤ cur.size := by
        have := HCS.out
        rw [hdl]; omega
      have HLE := Lib.hid hle
      have HDL := Lib.hid hdl
      clear hle hdl
      obtain ⟨fin, hfin⟩ : ∃ fin, (cur.toList.take (k * 21) ++ ds ++ cur.toList.drop (k * 21 + ds.length)).toArray = fin := ⟨_, rfl⟩
      have HWS : Hid (stores w1 w.heap.size (k * 21) ds = w1.setRow w.heap.size fin) := by
        rw [← hfin]; exact stores_setRow ds (k * 21) cur w1 HG1.out HLE.out
      have HFE := Lib.hid hfin
      clear hfin
      go_wp2_with (refine wpList_store_part rfl 48 _ _ rfl w.heap.size (k * 21) ds rfl rfl 48 cur HG1.out HID.out HLE.out HON.out fin HFE.out ?_)
      go_roundw
      case rel =>
        have hst := Laid.step (vs := ds) HLD.out hlt hgl (by omega) hb1 HDL.out HO.out
        have hsz := stores_size (g := w.heap.size) ds w1 (k * 21)
        have hbb := stores_below (Nat.le_refl _) ds w1 (k * 21) (below_trans hbel hb1)
        have hlt9 := Nat.lt_of_lt_of_eq (Nat.lt_of_lt_of_le hgl hb1.size) hsz.symm
        refine ⟨k + 1, by omega, by go_num, ?_⟩
        rw [← HWS.out]
        exact ⟨hst, hlt9, hbb⟩
      case measure => simp [intOf]; omega
    · go_wp2
      go_ret
      obtain rfl : k = n := by omega
      exact ⟨_, rfl, HLD.out.own (Nat.le_refl _) (Nat.le_refl _) (by unfold maxLen; omega) hgl, hbel⟩
theorem toItems {d : D} (h : Sh d (.lst .item)) : ToL 14 d := by
  obtain ⟨n, it, rfl, hs⟩ := h.lst
  exact toLsItem n it fun i hi => toItem (hs i hi)
end Da
end Go.Proofs.YtngfhncdmlpjiaaGreat
