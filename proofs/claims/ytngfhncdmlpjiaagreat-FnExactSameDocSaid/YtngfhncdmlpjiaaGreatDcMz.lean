/- What is proved: the model's SameDoc says whether two documents are the same. (Made by tools/mkdc.py.) -/
import Derived.Test.YtngfhncdmlpjiaaGreatDcMo
import Derived.Test.YtngfhncdmlpjiaaGreatDcMf
namespace Go.Proofs.YtngfhncdmlpjiaaGreat
namespace Dc
set_option linter.unusedVariables false
set_option linter.unusedSimpArgs false
open Go.RowKit Da
attribute [local go_sem ↓] Go.wp_at_zero Go.wp_at_succ

set_option maxRecDepth 100000 in
set_option maxHeartbeats 8000000 in
theorem docS {r r' : Nat → D} (hs : ∀ j g, [F.lst K.item][j]? = some g → Sh (r j) g) (hs' : ∀ j g, [F.lst K.item][j]? = some g → Sh (r' j) g) : CmpR 5 1 (smR 1 r r') r r' := by
  intro w cs ds hcl hdl ha hb
  obtain ⟨c0, rfl⟩ := lnB1 hcl
  obtain ⟨d0, rfl⟩ := lnB1 hdl
  have a0 := ha 0 _ rfl
  have b0 := hb 0 _ rfl
  clear ha hb hcl hdl
  obtain ⟨n0, it0, e0, ss0⟩ := (hs 0 _ rfl).lst
  have e0 : r 0 = .list 21 n0 it0 := e0
  rw [e0] at a0
  have Ha0 := Lib.hid a0
  obtain ⟨A0, f0, rfl, m0⟩ := a0.slice
  clear a0
  unfold maxLen at m0
  obtain ⟨n0', it0', e0', ss0'⟩ := (hs' 0 _ rfl).lst
  have e0' : r' 0 = .list 21 n0' it0' := e0'
  rw [e0'] at b0
  have Hb0 := Lib.hid b0
  obtain ⟨A0', f0', rfl, m0'⟩ := b0.slice
  clear b0
  unfold maxLen at m0'
  have hrow : smR 1 r r' = sm (r 0) (r' 0) := by simp only [smR, allB, Bool.true_and]
  have HR := Lib.hid hrow
  clear hrow
  obtain ⟨y0, hy0⟩ : ∃ y, sm (r 0) (r' 0) = y := ⟨_, rfl⟩
  rw [hy0] at HR
  rw [e0, e0', sm_list] at hy0
  have Hy0 := Lib.hid hy0
  clear hy0
  obtain ⟨S, hS⟩ : ∃ S, smR 1 r r' = S := ⟨_, rfl⟩
  rw [hS]
  have HS := Lib.hid hS
  clear hS
  go_enter Tryz.func5, Tryz.ntmps5
  go_upto_region 1 with fail
  obtain ⟨W1, hW1⟩ : ∃ W1, ((w.alloc (Obj.cells #[Value.slice A0 n0 f0] 29)).alloc (Obj.cells #[Value.slice A0' n0' f0'] 29)) = W1 := ⟨_, rfl⟩
  have ba : Below w.heap.size w W1 := by rw [← hW1]; exact (twoNew w _ _).2.2
  have B0 : W1.heap[w.heap.size]? = some (Obj.cells #[Value.slice A0 n0 f0] 29) := by rw [← hW1]; exact (twoNew w _ _).1
  have B1 : W1.heap[w.heap.size + 1]? = some (Obj.cells #[Value.slice A0' n0' f0'] 29) := by rw [← hW1]; exact (twoNew w _ _).2.1
  rw [hW1]
  clear hW1
  have P0 := fun X : Gr W1 => X.cell (show W1.cell? ⟨w.heap.size, 0, none⟩ = some (Value.slice A0 n0 f0) by rw [cellOf B0]; rfl)
  have Q0 := fun X : Gr W1 => X.cell (show W1.cell? ⟨w.heap.size + 1, 0, none⟩ = some (Value.slice A0' n0' f0') by rw [cellOf B1]; rfl)
  have PW0 : W1.cell? ⟨w.heap.size, 0, none⟩ = some (Value.slice A0 n0 f0) := P0 ⟨W1, Below.refl _ _⟩
  have QW0 : W1.cell? ⟨w.heap.size + 1, 0, none⟩ = some (Value.slice A0' n0' f0') := Q0 ⟨W1, Below.refl _ _⟩
  have HB0 := Lib.hid B0
  have HB1 := Lib.hid B1
  clear B0 B1
  by_cases h0 : n0 = n0'
  case neg =>
    have hx := int_ne h0
    have hn : smR 1 r r' = false := by rw [HR.out, show y0 = false from by rw [← Hy0.out, nat_ne h0]; simp]
    obtain rfl : S = false := HS.out.symm.trans hn
    clear hn
    go_wp2
    go_ret
    exact ⟨rfl, ba⟩
  subst h0
  go_wp2
  have HRo := HR
  clear HR
  go_loopw [5] (fun i wr => ∃ k : Nat, k ≤ n0 ∧ i = .int .i64 k ∧ Below W1.heap.size W1 wr ∧ ∀ j, j < k → smR 21 (it0 j) (it0' j) = true) (fun i _ => n0 - (intOf i).toNat)
  case atStart => exact ⟨0, Nat.zero_le _, rfl, (Below.refl W1.heap.size W1), fun j hj => absurd hj (Nat.not_lt_zero _)⟩
  case round =>
    obtain ⟨p, hp, rfl, hbel, hsame⟩ := hrel
    have HSi := Lib.hid hsame
    clear hsame
    have q0 : wr.cell? ⟨w.heap.size, 0, none⟩ = some (Value.slice A0 n0 f0) := P0 ⟨wr, hbel⟩
    have q1 : wr.cell? ⟨w.heap.size + 1, 0, none⟩ = some (Value.slice A0' n0 f0') := Q0 ⟨wr, hbel⟩
    have bb := below_trans ba hbel
    by_cases hlt : p < n0
    case neg =>
      obtain rfl : p = n0 := by omega
      obtain rfl : y0 = true := by rw [← Hy0.out, allB_yes (f := fun i => smR 21 (it0 i) (it0' i)) HSi.out]; simp
      have hz : smR 1 r r' = true := by rw [HRo.out]
      obtain rfl : S = true := HS.out.symm.trans hz
      clear hz
      go_wp2
      go_ret
      exact ⟨rfl, bb⟩
    have hk0 : (0 : Int) ≤ (p : Int) := by omega
    have hk1 : (p : Int) < (n0 : Int) := by omega
    obtain ⟨b, o, e9, hfc⟩ := (At.below bb _ Ha0.out).nth hlt
    subst e9
    obtain ⟨b', o', e9, hfd⟩ := (At.below bb _ Hb0.out).nth hlt
    subst e9
    obtain ⟨cs, hlc, hrc⟩ := row_of hfc
    obtain ⟨c0, c1, c2, c3, c4, c5, c6, c7, c8, c9, c10, c11, c12, c13, c14, c15, c16, c17, c18, c19, c20, hec⟩ := lnB21 hlc
    have a0 := (hrc 0 _ (by rw [hec]; rfl)).2
    have a1 := (hrc 1 _ (by rw [hec]; rfl)).2
    have a2 := (hrc 2 _ (by rw [hec]; rfl)).2
    have a3 := (hrc 3 _ (by rw [hec]; rfl)).2
    have a4 := (hrc 4 _ (by rw [hec]; rfl)).2
    have a5 := (hrc 5 _ (by rw [hec]; rfl)).2
    have a6 := (hrc 6 _ (by rw [hec]; rfl)).2
    have a7 := (hrc 7 _ (by rw [hec]; rfl)).2
    have a8 := (hrc 8 _ (by rw [hec]; rfl)).2
    have a9 := (hrc 9 _ (by rw [hec]; rfl)).2
    have a10 := (hrc 10 _ (by rw [hec]; rfl)).2
    have a11 := (hrc 11 _ (by rw [hec]; rfl)).2
    have a12 := (hrc 12 _ (by rw [hec]; rfl)).2
    have a13 := (hrc 13 _ (by rw [hec]; rfl)).2
    have a14 := (hrc 14 _ (by rw [hec]; rfl)).2
    have a15 := (hrc 15 _ (by rw [hec]; rfl)).2
    have a16 := (hrc 16 _ (by rw [hec]; rfl)).2
    have a17 := (hrc 17 _ (by rw [hec]; rfl)).2
    have a18 := (hrc 18 _ (by rw [hec]; rfl)).2
    have a19 := (hrc 19 _ (by rw [hec]; rfl)).2
    have a20 := (hrc 20 _ (by rw [hec]; rfl)).2
    have HOc := Lib.hid (all_one (fun j v hv => (hrc j v hv).2))
    have HZc := Lib.hid (show (Tryz.prog.info? 48).map (·.size) = some cs.length by rw [hlc]; kernel_rfl)
    have HLc := Lib.hid (show 21 = cs.toArray.size by simp [hlc])
    obtain ⟨ds, hld, hrd⟩ := row_of hfd
    obtain ⟨d0, d1, d2, d3, d4, d5, d6, d7, d8, d9, d10, d11, d12, d13, d14, d15, d16, d17, d18, d19, d20, hed⟩ := lnB21 hld
    have b0 := (hrd 0 _ (by rw [hed]; rfl)).2
    have b1 := (hrd 1 _ (by rw [hed]; rfl)).2
    have b2 := (hrd 2 _ (by rw [hed]; rfl)).2
    have b3 := (hrd 3 _ (by rw [hed]; rfl)).2
    have b4 := (hrd 4 _ (by rw [hed]; rfl)).2
    have b5 := (hrd 5 _ (by rw [hed]; rfl)).2
    have b6 := (hrd 6 _ (by rw [hed]; rfl)).2
    have b7 := (hrd 7 _ (by rw [hed]; rfl)).2
    have b8 := (hrd 8 _ (by rw [hed]; rfl)).2
    have b9 := (hrd 9 _ (by rw [hed]; rfl)).2
    have b10 := (hrd 10 _ (by rw [hed]; rfl)).2
    have b11 := (hrd 11 _ (by rw [hed]; rfl)).2
    have b12 := (hrd 12 _ (by rw [hed]; rfl)).2
    have b13 := (hrd 13 _ (by rw [hed]; rfl)).2
    have b14 := (hrd 14 _ (by rw [hed]; rfl)).2
    have b15 := (hrd 15 _ (by rw [hed]; rfl)).2
    have b16 := (hrd 16 _ (by rw [hed]; rfl)).2
    have b17 := (hrd 17 _ (by rw [hed]; rfl)).2
    have b18 := (hrd 18 _ (by rw [hed]; rfl)).2
    have b19 := (hrd 19 _ (by rw [hed]; rfl)).2
    have b20 := (hrd 20 _ (by rw [hed]; rfl)).2
    have HOd := Lib.hid (all_one (fun j v hv => (hrd j v hv).2))
    have HZd := Lib.hid (show (Tryz.prog.info? 48).map (·.size) = some ds.length by rw [hld]; kernel_rfl)
    have HLd := Lib.hid (show 21 = ds.toArray.size by simp [hld])
    have HCS : Hid (cs[0]? = some c0 ∧ cs[1]? = some c1 ∧ cs[2]? = some c2 ∧ cs[3]? = some c3 ∧ cs[4]? = some c4 ∧ cs[5]? = some c5 ∧ cs[6]? = some c6 ∧ cs[7]? = some c7 ∧ cs[8]? = some c8 ∧ cs[9]? = some c9 ∧ cs[10]? = some c10 ∧ cs[11]? = some c11 ∧ cs[12]? = some c12 ∧ cs[13]? = some c13 ∧ cs[14]? = some c14 ∧ cs[15]? = some c15 ∧ cs[16]? = some c16 ∧ cs[17]? = some c17 ∧ cs[18]? = some c18 ∧ cs[19]? = some c19 ∧ cs[20]? = some c20) := by rw [hec]; exact ⟨rfl, rfl, rfl, rfl, rfl, rfl, rfl, rfl, rfl, rfl, rfl, rfl, rfl, rfl, rfl, rfl, rfl, rfl, rfl, rfl, rfl⟩
    have HDS : Hid (ds[0]? = some d0 ∧ ds[1]? = some d1 ∧ ds[2]? = some d2 ∧ ds[3]? = some d3 ∧ ds[4]? = some d4 ∧ ds[5]? = some d5 ∧ ds[6]? = some d6 ∧ ds[7]? = some d7 ∧ ds[8]? = some d8 ∧ ds[9]? = some d9 ∧ ds[10]? = some d10 ∧ ds[11]? = some d11 ∧ ds[12]? = some d12 ∧ ds[13]? = some d13 ∧ ds[14]? = some d14 ∧ ds[15]? = some d15 ∧ ds[16]? = some d16 ∧ ds[17]? = some d17 ∧ ds[18]? = some d18 ∧ ds[19]? = some d19 ∧ ds[20]? = some d20) := by rw [hed]; exact ⟨rfl, rfl, rfl, rfl, rfl, rfl, rfl, rfl, rfl, rfl, rfl, rfl, rfl, rfl, rfl, rfl, rfl, rfl, rfl, rfl, rfl⟩
    have HCc := Lib.hid (fun j v (hv : cs[j]? = some v) => (hrc j v hv).1)
    have HCd := Lib.hid (fun (ob : Obj) j v (hv : ds[j]? = some v) => ((below_alloc wr ob).cell (World.block_lt_of_cell? wr _ (hrd j v hv).1)).trans (hrd j v hv).1)
    clear hfc hfd hrc hrd hlc hld hec hed
    have q1a := fun ob : Obj => ((below_alloc wr ob).cell (World.block_lt_of_cell? wr _ q1)).trans q1
    have hsp := ss0 p hlt
    have hsp' := ss0' p hlt
    obtain ⟨k0, e0⟩ := (hsp 0 _ rfl).int
    rw [e0] at a0
    obtain rfl : c0 = Value.int .i64 k0 := a0
    obtain ⟨k0', e0'⟩ := (hsp' 0 _ rfl).int
    rw [e0'] at b0
    obtain rfl : d0 = Value.int .i64 k0' := b0
    obtain ⟨t6, e6⟩ := (hsp 6 _ rfl).str
    rw [e6] at a6
    obtain ⟨rfl, -⟩ := a6
    obtain ⟨t6', e6'⟩ := (hsp' 6 _ rfl).str
    rw [e6'] at b6
    obtain ⟨rfl, -⟩ := b6
    obtain ⟨t7, e7⟩ := (hsp 7 _ rfl).str
    rw [e7] at a7
    obtain ⟨rfl, -⟩ := a7
    obtain ⟨t7', e7'⟩ := (hsp' 7 _ rfl).str
    rw [e7'] at b7
    obtain ⟨rfl, -⟩ := b7
    have hrow : smR 21 (it0 p) (it0' p) = ((k0 == k0') && (smR 5 (fun i => it0 p (i + 1)) (fun i => it0' p (i + 1)) && ((t6.toList == t6'.toList) && ((t7.toList == t7'.toList) && (sm (it0 p 8) (it0' p 8) && (sm (it0 p 9) (it0' p 9) && smR 11 (fun i => it0 p (i + 10)) (fun i => it0' p (i + 10)))))))) := by simp only [smR, allB, Bool.true_and, Bool.and_assoc, e0, e0', e6, e6', e7, e7', sm_int, sm_str]
    have HR := Lib.hid hrow
    clear hrow
    have HC1 := opS (r := fun i => it0 p (i + 1)) (r' := fun i => it0' p (i + 1)) (shl_cons (hsp 1 _ rfl) (shl_cons (hsp 2 _ rfl) (shl_cons (hsp 3 _ rfl) (shl_cons (hsp 4 _ rfl) (shl_cons (hsp 5 _ rfl) shl_nil))))) (shl_cons (hsp' 1 _ rfl) (shl_cons (hsp' 2 _ rfl) (shl_cons (hsp' 3 _ rfl) (shl_cons (hsp' 4 _ rfl) (shl_cons (hsp' 5 _ rfl) shl_nil)))))
    obtain ⟨x1, hx1⟩ : ∃ x, smR 5 (fun i => it0 p (i + 1)) (fun i => it0' p (i + 1)) = x := ⟨_, rfl⟩
    unfold CmpR at HC1
    rw [hx1] at HR HC1
    replace HC1 := Lib.hid HC1
    have HC8 := dirsS (hsp 8 _ rfl) (hsp' 8 _ rfl)
    obtain ⟨x8, hx8⟩ : ∃ x, sm (it0 p 8) (it0' p 8) = x := ⟨_, rfl⟩
    unfold CmpL at HC8
    rw [hx8] at HR HC8
    replace HC8 := Lib.hid HC8
    have HC9 := selsS _ (hsp 9 _ rfl) _ (hsp' 9 _ rfl)
    obtain ⟨x9, hx9⟩ : ∃ x, sm (it0 p 9) (it0' p 9) = x := ⟨_, rfl⟩
    unfold CmpL at HC9
    rw [hx9] at HR HC9
    replace HC9 := Lib.hid HC9
    have HC10 := defS (r := fun i => it0 p (i + 10)) (r' := fun i => it0' p (i + 10)) (shl_cons (hsp 10 _ rfl) (shl_cons (hsp 11 _ rfl) (shl_cons (hsp 12 _ rfl) (shl_cons (hsp 13 _ rfl) (shl_cons (hsp 14 _ rfl) (shl_cons (hsp 15 _ rfl) (shl_cons (hsp 16 _ rfl) (shl_cons (hsp 17 _ rfl) (shl_cons (hsp 18 _ rfl) (shl_cons (hsp 19 _ rfl) (shl_cons (hsp 20 _ rfl) shl_nil))))))))))) (shl_cons (hsp' 10 _ rfl) (shl_cons (hsp' 11 _ rfl) (shl_cons (hsp' 12 _ rfl) (shl_cons (hsp' 13 _ rfl) (shl_cons (hsp' 14 _ rfl) (shl_cons (hsp' 15 _ rfl) (shl_cons (hsp' 16 _ rfl) (shl_cons (hsp' 17 _ rfl) (shl_cons (hsp' 18 _ rfl) (shl_cons (hsp' 19 _ rfl) (shl_cons (hsp' 20 _ rfl) shl_nil)))))))))))
    obtain ⟨x10, hx10⟩ : ∃ x, smR 11 (fun i => it0 p (i + 10)) (fun i => it0' p (i + 10)) = x := ⟨_, rfl⟩
    unfold CmpR at HC10
    rw [hx10] at HR HC10
    replace HC10 := Lib.hid HC10
    clear e0 e0' e6 e6' e7 e7'
    go_upto_region 8 with (first | refine wpList_load_cells rfl 48 _ rfl b (o + p * 21) rfl cs _ HCc.out Tryz.underlying48 rfl HZc.out ?_ | refine wpList_load_cells rfl 48 _ rfl b' (o' + p * 21) rfl ds _ (HCd.out _) Tryz.underlying48 rfl HZd.out ?_ | refine wpList_store_new rfl 48 _ _ rfl _ rfl cs.toArray _ rfl rfl HZc.out HLc.out HOc.out ?_ | refine wpList_store_new rfl 48 _ _ rfl _ (sizeNew wr _) ds.toArray _ rfl rfl HZd.out HLd.out HOd.out ?_)
    obtain ⟨W2, hW2⟩ : ∃ W2, ((wr.alloc (Obj.cells cs.toArray 48)).alloc (Obj.cells ds.toArray 48)) = W2 := ⟨_, rfl⟩
    have bw : Below wr.heap.size wr W2 := by rw [← hW2]; exact (twoNew wr _ _).2.2
    have B0 : W2.heap[wr.heap.size]? = some (Obj.cells cs.toArray 48) := by rw [← hW2]; exact (twoNew wr _ _).1
    have B1 : W2.heap[wr.heap.size + 1]? = some (Obj.cells ds.toArray 48) := by rw [← hW2]; exact (twoNew wr _ _).2.1
    rw [hW2]
    clear hW2
    have L0 : W2.cell? ⟨wr.heap.size, 0, none⟩ = some (Value.int .i64 k0) := by rw [cellOf B0, List.getElem?_toArray]; exact HCS.out.1
    have M0 : W2.cell? ⟨wr.heap.size + 1, 0, none⟩ = some (Value.int .i64 k0') := by rw [cellOf B1, List.getElem?_toArray]; exact HDS.out.1
    have LX0 := fun X : Gr W2 => X.cell L0
    have MX0 := fun X : Gr W2 => X.cell M0
    have L1 : W2.cell? ⟨wr.heap.size, 1, none⟩ = some (c1) := by rw [cellOf B0, List.getElem?_toArray]; exact HCS.out.2.1
    have M1 : W2.cell? ⟨wr.heap.size + 1, 1, none⟩ = some (d1) := by rw [cellOf B1, List.getElem?_toArray]; exact HDS.out.2.1
    have LX1 := fun X : Gr W2 => X.cell L1
    have MX1 := fun X : Gr W2 => X.cell M1
    have L2 : W2.cell? ⟨wr.heap.size, 2, none⟩ = some (c2) := by rw [cellOf B0, List.getElem?_toArray]; exact HCS.out.2.2.1
    have M2 : W2.cell? ⟨wr.heap.size + 1, 2, none⟩ = some (d2) := by rw [cellOf B1, List.getElem?_toArray]; exact HDS.out.2.2.1
    have LX2 := fun X : Gr W2 => X.cell L2
    have MX2 := fun X : Gr W2 => X.cell M2
    have L3 : W2.cell? ⟨wr.heap.size, 3, none⟩ = some (c3) := by rw [cellOf B0, List.getElem?_toArray]; exact HCS.out.2.2.2.1
    have M3 : W2.cell? ⟨wr.heap.size + 1, 3, none⟩ = some (d3) := by rw [cellOf B1, List.getElem?_toArray]; exact HDS.out.2.2.2.1
    have LX3 := fun X : Gr W2 => X.cell L3
    have MX3 := fun X : Gr W2 => X.cell M3
    have L4 : W2.cell? ⟨wr.heap.size, 4, none⟩ = some (c4) := by rw [cellOf B0, List.getElem?_toArray]; exact HCS.out.2.2.2.2.1
    have M4 : W2.cell? ⟨wr.heap.size + 1, 4, none⟩ = some (d4) := by rw [cellOf B1, List.getElem?_toArray]; exact HDS.out.2.2.2.2.1
    have LX4 := fun X : Gr W2 => X.cell L4
    have MX4 := fun X : Gr W2 => X.cell M4
    have L5 : W2.cell? ⟨wr.heap.size, 5, none⟩ = some (c5) := by rw [cellOf B0, List.getElem?_toArray]; exact HCS.out.2.2.2.2.2.1
    have M5 : W2.cell? ⟨wr.heap.size + 1, 5, none⟩ = some (d5) := by rw [cellOf B1, List.getElem?_toArray]; exact HDS.out.2.2.2.2.2.1
    have LX5 := fun X : Gr W2 => X.cell L5
    have MX5 := fun X : Gr W2 => X.cell M5
    have L6 : W2.cell? ⟨wr.heap.size, 6, none⟩ = some (Value.string t6) := by rw [cellOf B0, List.getElem?_toArray]; exact HCS.out.2.2.2.2.2.2.1
    have M6 : W2.cell? ⟨wr.heap.size + 1, 6, none⟩ = some (Value.string t6') := by rw [cellOf B1, List.getElem?_toArray]; exact HDS.out.2.2.2.2.2.2.1
    have LX6 := fun X : Gr W2 => X.cell L6
    have MX6 := fun X : Gr W2 => X.cell M6
    have L7 : W2.cell? ⟨wr.heap.size, 7, none⟩ = some (Value.string t7) := by rw [cellOf B0, List.getElem?_toArray]; exact HCS.out.2.2.2.2.2.2.2.1
    have M7 : W2.cell? ⟨wr.heap.size + 1, 7, none⟩ = some (Value.string t7') := by rw [cellOf B1, List.getElem?_toArray]; exact HDS.out.2.2.2.2.2.2.2.1
    have LX7 := fun X : Gr W2 => X.cell L7
    have MX7 := fun X : Gr W2 => X.cell M7
    have L8 : W2.cell? ⟨wr.heap.size, 8, none⟩ = some (c8) := by rw [cellOf B0, List.getElem?_toArray]; exact HCS.out.2.2.2.2.2.2.2.2.1
    have M8 : W2.cell? ⟨wr.heap.size + 1, 8, none⟩ = some (d8) := by rw [cellOf B1, List.getElem?_toArray]; exact HDS.out.2.2.2.2.2.2.2.2.1
    have LX8 := fun X : Gr W2 => X.cell L8
    have MX8 := fun X : Gr W2 => X.cell M8
    have L9 : W2.cell? ⟨wr.heap.size, 9, none⟩ = some (c9) := by rw [cellOf B0, List.getElem?_toArray]; exact HCS.out.2.2.2.2.2.2.2.2.2.1
    have M9 : W2.cell? ⟨wr.heap.size + 1, 9, none⟩ = some (d9) := by rw [cellOf B1, List.getElem?_toArray]; exact HDS.out.2.2.2.2.2.2.2.2.2.1
    have LX9 := fun X : Gr W2 => X.cell L9
    have MX9 := fun X : Gr W2 => X.cell M9
    have L10 : W2.cell? ⟨wr.heap.size, 10, none⟩ = some (c10) := by rw [cellOf B0, List.getElem?_toArray]; exact HCS.out.2.2.2.2.2.2.2.2.2.2.1
    have M10 : W2.cell? ⟨wr.heap.size + 1, 10, none⟩ = some (d10) := by rw [cellOf B1, List.getElem?_toArray]; exact HDS.out.2.2.2.2.2.2.2.2.2.2.1
    have LX10 := fun X : Gr W2 => X.cell L10
    have MX10 := fun X : Gr W2 => X.cell M10
    have L11 : W2.cell? ⟨wr.heap.size, 11, none⟩ = some (c11) := by rw [cellOf B0, List.getElem?_toArray]; exact HCS.out.2.2.2.2.2.2.2.2.2.2.2.1
    have M11 : W2.cell? ⟨wr.heap.size + 1, 11, none⟩ = some (d11) := by rw [cellOf B1, List.getElem?_toArray]; exact HDS.out.2.2.2.2.2.2.2.2.2.2.2.1
    have LX11 := fun X : Gr W2 => X.cell L11
    have MX11 := fun X : Gr W2 => X.cell M11
    have L12 : W2.cell? ⟨wr.heap.size, 12, none⟩ = some (c12) := by rw [cellOf B0, List.getElem?_toArray]; exact HCS.out.2.2.2.2.2.2.2.2.2.2.2.2.1
    have M12 : W2.cell? ⟨wr.heap.size + 1, 12, none⟩ = some (d12) := by rw [cellOf B1, List.getElem?_toArray]; exact HDS.out.2.2.2.2.2.2.2.2.2.2.2.2.1
    have LX12 := fun X : Gr W2 => X.cell L12
    have MX12 := fun X : Gr W2 => X.cell M12
    have L13 : W2.cell? ⟨wr.heap.size, 13, none⟩ = some (c13) := by rw [cellOf B0, List.getElem?_toArray]; exact HCS.out.2.2.2.2.2.2.2.2.2.2.2.2.2.1
    have M13 : W2.cell? ⟨wr.heap.size + 1, 13, none⟩ = some (d13) := by rw [cellOf B1, List.getElem?_toArray]; exact HDS.out.2.2.2.2.2.2.2.2.2.2.2.2.2.1
    have LX13 := fun X : Gr W2 => X.cell L13
    have MX13 := fun X : Gr W2 => X.cell M13
    have L14 : W2.cell? ⟨wr.heap.size, 14, none⟩ = some (c14) := by rw [cellOf B0, List.getElem?_toArray]; exact HCS.out.2.2.2.2.2.2.2.2.2.2.2.2.2.2.1
    have M14 : W2.cell? ⟨wr.heap.size + 1, 14, none⟩ = some (d14) := by rw [cellOf B1, List.getElem?_toArray]; exact HDS.out.2.2.2.2.2.2.2.2.2.2.2.2.2.2.1
    have LX14 := fun X : Gr W2 => X.cell L14
    have MX14 := fun X : Gr W2 => X.cell M14
    have L15 : W2.cell? ⟨wr.heap.size, 15, none⟩ = some (c15) := by rw [cellOf B0, List.getElem?_toArray]; exact HCS.out.2.2.2.2.2.2.2.2.2.2.2.2.2.2.2.1
    have M15 : W2.cell? ⟨wr.heap.size + 1, 15, none⟩ = some (d15) := by rw [cellOf B1, List.getElem?_toArray]; exact HDS.out.2.2.2.2.2.2.2.2.2.2.2.2.2.2.2.1
    have LX15 := fun X : Gr W2 => X.cell L15
    have MX15 := fun X : Gr W2 => X.cell M15
    have L16 : W2.cell? ⟨wr.heap.size, 16, none⟩ = some (c16) := by rw [cellOf B0, List.getElem?_toArray]; exact HCS.out.2.2.2.2.2.2.2.2.2.2.2.2.2.2.2.2.1
    have M16 : W2.cell? ⟨wr.heap.size + 1, 16, none⟩ = some (d16) := by rw [cellOf B1, List.getElem?_toArray]; exact HDS.out.2.2.2.2.2.2.2.2.2.2.2.2.2.2.2.2.1
    have LX16 := fun X : Gr W2 => X.cell L16
    have MX16 := fun X : Gr W2 => X.cell M16
    have L17 : W2.cell? ⟨wr.heap.size, 17, none⟩ = some (c17) := by rw [cellOf B0, List.getElem?_toArray]; exact HCS.out.2.2.2.2.2.2.2.2.2.2.2.2.2.2.2.2.2.1
    have M17 : W2.cell? ⟨wr.heap.size + 1, 17, none⟩ = some (d17) := by rw [cellOf B1, List.getElem?_toArray]; exact HDS.out.2.2.2.2.2.2.2.2.2.2.2.2.2.2.2.2.2.1
    have LX17 := fun X : Gr W2 => X.cell L17
    have MX17 := fun X : Gr W2 => X.cell M17
    have L18 : W2.cell? ⟨wr.heap.size, 18, none⟩ = some (c18) := by rw [cellOf B0, List.getElem?_toArray]; exact HCS.out.2.2.2.2.2.2.2.2.2.2.2.2.2.2.2.2.2.2.1
    have M18 : W2.cell? ⟨wr.heap.size + 1, 18, none⟩ = some (d18) := by rw [cellOf B1, List.getElem?_toArray]; exact HDS.out.2.2.2.2.2.2.2.2.2.2.2.2.2.2.2.2.2.2.1
    have LX18 := fun X : Gr W2 => X.cell L18
    have MX18 := fun X : Gr W2 => X.cell M18
    have L19 : W2.cell? ⟨wr.heap.size, 19, none⟩ = some (c19) := by rw [cellOf B0, List.getElem?_toArray]; exact HCS.out.2.2.2.2.2.2.2.2.2.2.2.2.2.2.2.2.2.2.2.1
    have M19 : W2.cell? ⟨wr.heap.size + 1, 19, none⟩ = some (d19) := by rw [cellOf B1, List.getElem?_toArray]; exact HDS.out.2.2.2.2.2.2.2.2.2.2.2.2.2.2.2.2.2.2.2.1
    have LX19 := fun X : Gr W2 => X.cell L19
    have MX19 := fun X : Gr W2 => X.cell M19
    have L20 : W2.cell? ⟨wr.heap.size, 20, none⟩ = some (c20) := by rw [cellOf B0, List.getElem?_toArray]; exact HCS.out.2.2.2.2.2.2.2.2.2.2.2.2.2.2.2.2.2.2.2.2
    have M20 : W2.cell? ⟨wr.heap.size + 1, 20, none⟩ = some (d20) := by rw [cellOf B1, List.getElem?_toArray]; exact HDS.out.2.2.2.2.2.2.2.2.2.2.2.2.2.2.2.2.2.2.2.2
    have LX20 := fun X : Gr W2 => X.cell L20
    have MX20 := fun X : Gr W2 => X.cell M20
    clear B0 B1 HCS HDS
    by_cases h0 : k0 = k0'
    case neg =>
      have hx : (k0 == k0') = false := by simp [h0]
      have hn : smR 21 (it0 p) (it0' p) = false := by rw [HR.out, hx]; simp
      obtain rfl : y0 = false := by rw [← Hy0.out, allB_no (f := fun i => smR 21 (it0 i) (it0' i)) hlt hn]; simp
      have hz : smR 1 r r' = false := by rw [HRo.out]
      obtain rfl : S = false := HS.out.symm.trans hz
      clear hn
      go_wp2
      go_ret
      exact ⟨rfl, below_trans bb bw⟩
    subst h0
    go_wp2_with fail
    refine (gr_call (X := (⟨W2, Below.refl _ _⟩ : Gr W2)) (HC1.out W2 [c1, c2, c3, c4, c5] [d1, d2, d3, d4, d5] rfl rfl (atl_below bw (atl_cons a1 (atl_cons a2 (atl_cons a3 (atl_cons a4 (atl_cons a5 atl_nil)))))) (atl_below bw (atl_cons b1 (atl_cons b2 (atl_cons b3 (atl_cons b4 (atl_cons b5 atl_nil)))))))).mono ?_
    rintro e _ ⟨rfl, X1, rfl⟩
    cases x1
    case false =>
      have hn : smR 21 (it0 p) (it0' p) = false := by rw [HR.out]; simp
      obtain rfl : y0 = false := by rw [← Hy0.out, allB_no (f := fun i => smR 21 (it0 i) (it0' i)) hlt hn]; simp
      have hz : smR 1 r r' = false := by rw [HRo.out]
      obtain rfl : S = false := HS.out.symm.trans hz
      clear hn
      go_wp2
      go_ret
      exact ⟨rfl, below_trans bb (below_trans bw X1.below)⟩
    by_cases h6 : t6 = t6'
    case neg =>
      have hx := str_ne h6
      have hn : smR 21 (it0 p) (it0' p) = false := by rw [HR.out, hx]; simp
      obtain rfl : y0 = false := by rw [← Hy0.out, allB_no (f := fun i => smR 21 (it0 i) (it0' i)) hlt hn]; simp
      have hz : smR 1 r r' = false := by rw [HRo.out]
      obtain rfl : S = false := HS.out.symm.trans hz
      clear hn
      go_wp2
      go_ret
      exact ⟨rfl, below_trans bb (below_trans bw X1.below)⟩
    subst h6
    by_cases h7 : t7 = t7'
    case neg =>
      have hx := str_ne h7
      have hn : smR 21 (it0 p) (it0' p) = false := by rw [HR.out, hx]; simp
      obtain rfl : y0 = false := by rw [← Hy0.out, allB_no (f := fun i => smR 21 (it0 i) (it0' i)) hlt hn]; simp
      have hz : smR 1 r r' = false := by rw [HRo.out]
      obtain rfl : S = false := HS.out.symm.trans hz
      clear hn
      go_wp2
      go_ret
      exact ⟨rfl, below_trans bb (below_trans bw X1.below)⟩
    subst h7
    go_wp2_with fail
    refine (gr_call (X := X1) (HC8.out X1.W _ _ (At.below (below_trans bw X1.below) _ a8) (At.below (below_trans bw X1.below) _ b8))).mono ?_
    rintro e _ ⟨rfl, X8, rfl⟩
    cases x8
    case false =>
      have hn : smR 21 (it0 p) (it0' p) = false := by rw [HR.out]; simp
      obtain rfl : y0 = false := by rw [← Hy0.out, allB_no (f := fun i => smR 21 (it0 i) (it0' i)) hlt hn]; simp
      have hz : smR 1 r r' = false := by rw [HRo.out]
      obtain rfl : S = false := HS.out.symm.trans hz
      clear hn
      go_wp2
      go_ret
      exact ⟨rfl, below_trans bb (below_trans bw X8.below)⟩
    go_wp2_with fail
    refine (gr_call (X := X8) (HC9.out X8.W _ _ (At.below (below_trans bw X8.below) _ a9) (At.below (below_trans bw X8.below) _ b9))).mono ?_
    rintro e _ ⟨rfl, X9, rfl⟩
    cases x9
    case false =>
      have hn : smR 21 (it0 p) (it0' p) = false := by rw [HR.out]; simp
      obtain rfl : y0 = false := by rw [← Hy0.out, allB_no (f := fun i => smR 21 (it0 i) (it0' i)) hlt hn]; simp
      have hz : smR 1 r r' = false := by rw [HRo.out]
      obtain rfl : S = false := HS.out.symm.trans hz
      clear hn
      go_wp2
      go_ret
      exact ⟨rfl, below_trans bb (below_trans bw X9.below)⟩
    go_wp2_with fail
    refine (gr_call (X := X9) (HC10.out X9.W [c10, c11, c12, c13, c14, c15, c16, c17, c18, c19, c20] [d10, d11, d12, d13, d14, d15, d16, d17, d18, d19, d20] rfl rfl (atl_below (below_trans bw X9.below) (atl_cons a10 (atl_cons a11 (atl_cons a12 (atl_cons a13 (atl_cons a14 (atl_cons a15 (atl_cons a16 (atl_cons a17 (atl_cons a18 (atl_cons a19 (atl_cons a20 atl_nil)))))))))))) (atl_below (below_trans bw X9.below) (atl_cons b10 (atl_cons b11 (atl_cons b12 (atl_cons b13 (atl_cons b14 (atl_cons b15 (atl_cons b16 (atl_cons b17 (atl_cons b18 (atl_cons b19 (atl_cons b20 atl_nil)))))))))))))).mono ?_
    rintro e _ ⟨rfl, X10, rfl⟩
    cases x10
    case false =>
      have hn : smR 21 (it0 p) (it0' p) = false := by rw [HR.out]; simp
      obtain rfl : y0 = false := by rw [← Hy0.out, allB_no (f := fun i => smR 21 (it0 i) (it0' i)) hlt hn]; simp
      have hz : smR 1 r r' = false := by rw [HRo.out]
      obtain rfl : S = false := HS.out.symm.trans hz
      clear hn
      go_wp2
      go_ret
      exact ⟨rfl, below_trans bb (below_trans bw X10.below)⟩
    have hy : smR 21 (it0 p) (it0' p) = true := by rw [HR.out]; simp
    have HY := Lib.hid (yes_step HSi.out hy)
    clear hy
    go_wp2
    go_roundw
    case rel => exact ⟨p + 1, by omega, by go_num, below_trans hbel (below_trans bw X10.below), HY.out⟩
    case measure => simp [intOf]; omega

end Dc
end Go.Proofs.YtngfhncdmlpjiaaGreat
