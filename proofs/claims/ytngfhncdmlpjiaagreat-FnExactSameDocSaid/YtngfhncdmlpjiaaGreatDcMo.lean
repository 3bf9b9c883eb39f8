/- What is proved: the model's test whether two questions are the same. (Made by tools/mkdc.py.) -/
import Derived.Test.YtngfhncdmlpjiaaGreatDcMs
namespace Go.Proofs.YtngfhncdmlpjiaaGreat
namespace Dc
set_option linter.unusedVariables false
set_option linter.unusedSimpArgs false
open Go.RowKit Da
attribute [local go_sem ↓] Go.wp_at_zero Go.wp_at_succ

set_option maxRecDepth 100000 in
set_option maxHeartbeats 8000000 in
theorem opS {r r' : Nat → D} (hs : ∀ j g, (row .op)[j]? = some g → Sh (r j) g) (hs' : ∀ j g, (row .op)[j]? = some g → Sh (r' j) g) : CmpR 10 5 (smR 5 r r') r r' := by
  intro w cs ds hcl hdl ha hb
  obtain ⟨c0, c1, c2, c3, c4, rfl⟩ := len5 hcl
  obtain ⟨d0, d1, d2, d3, d4, rfl⟩ := len5 hdl
  have a0 := ha 0 _ rfl
  have b0 := hb 0 _ rfl
  have a1 := ha 1 _ rfl
  have b1 := hb 1 _ rfl
  have a2 := ha 2 _ rfl
  have b2 := hb 2 _ rfl
  have a3 := ha 3 _ rfl
  have b3 := hb 3 _ rfl
  have a4 := ha 4 _ rfl
  have b4 := hb 4 _ rfl
  clear ha hb hcl hdl
  obtain ⟨k0, e0⟩ := (hs 0 _ rfl).int
  rw [e0] at a0
  obtain rfl : c0 = Value.int .i64 k0 := a0
  obtain ⟨k0', e0'⟩ := (hs' 0 _ rfl).int
  rw [e0'] at b0
  obtain rfl : d0 = Value.int .i64 k0' := b0
  obtain ⟨t1, e1⟩ := (hs 1 _ rfl).str
  rw [e1] at a1
  obtain ⟨rfl, -⟩ := a1
  obtain ⟨t1', e1'⟩ := (hs' 1 _ rfl).str
  rw [e1'] at b1
  obtain ⟨rfl, -⟩ := b1
  obtain ⟨n2, it2, e2, ss2⟩ := (hs 2 _ rfl).lst
  have e2 : r 2 = .list 9 n2 it2 := e2
  rw [e2] at a2
  have Ha2 := Lib.hid a2
  obtain ⟨A2, f2, rfl, m2⟩ := a2.slice
  clear a2
  unfold maxLen at m2
  obtain ⟨n2', it2', e2', ss2'⟩ := (hs' 2 _ rfl).lst
  have e2' : r' 2 = .list 9 n2' it2' := e2'
  rw [e2'] at b2
  have Hb2 := Lib.hid b2
  obtain ⟨A2', f2', rfl, m2'⟩ := b2.slice
  clear b2
  unfold maxLen at m2'
  have hrow : smR 5 r r' = ((k0 == k0') && ((t1.toList == t1'.toList) && (sm (r 2) (r' 2) && (sm (r 3) (r' 3) && sm (r 4) (r' 4))))) := by simp only [smR, allB, Bool.true_and, Bool.and_assoc, e0, e0', e1, e1', sm_int, sm_str]
  have HR := Lib.hid hrow
  clear hrow
  have HC3 := dirsS (hs 3 _ rfl) (hs' 3 _ rfl)
  obtain ⟨x3, hx3⟩ : ∃ x, sm (r 3) (r' 3) = x := ⟨_, rfl⟩
  unfold CmpL at HC3
  rw [hx3] at HR HC3
  replace HC3 := Lib.hid HC3
  have HC4 := selsS _ (hs 4 _ rfl) _ (hs' 4 _ rfl)
  obtain ⟨x4, hx4⟩ : ∃ x, sm (r 4) (r' 4) = x := ⟨_, rfl⟩
  unfold CmpL at HC4
  rw [hx4] at HR HC4
  replace HC4 := Lib.hid HC4
  obtain ⟨y2, hy2⟩ : ∃ y, sm (r 2) (r' 2) = y := ⟨_, rfl⟩
  rw [hy2] at HR
  rw [e2, e2', sm_list] at hy2
  have Hy2 := Lib.hid hy2
  clear hy2
  obtain ⟨S, hS⟩ : ∃ S, smR 5 r r' = S := ⟨_, rfl⟩
  rw [hS]
  have HS := Lib.hid hS
  clear hS
  clear e0 e0' e1 e1'
  go_enter Tryz.func10, Tryz.ntmps10
  go_upto_region 1 with fail
  obtain ⟨W1, hW1⟩ : ∃ W1, ((w.alloc (Obj.cells #[Value.int .i64 k0, Value.string t1, Value.slice A2 n2 f2, c3, c4] 37)).alloc (Obj.cells #[Value.int .i64 k0', Value.string t1', Value.slice A2' n2' f2', d3, d4] 37)) = W1 := ⟨_, rfl⟩
  have ba : Below w.heap.size w W1 := by rw [← hW1]; exact (twoNew w _ _).2.2
  have B0 : W1.heap[w.heap.size]? = some (Obj.cells #[Value.int .i64 k0, Value.string t1, Value.slice A2 n2 f2, c3, c4] 37) := by rw [← hW1]; exact (twoNew w _ _).1
  have B1 : W1.heap[w.heap.size + 1]? = some (Obj.cells #[Value.int .i64 k0', Value.string t1', Value.slice A2' n2' f2', d3, d4] 37) := by rw [← hW1]; exact (twoNew w _ _).2.1
  rw [hW1]
  clear hW1
  have P0 := fun X : Gr W1 => X.cell (show W1.cell? ⟨w.heap.size, 0, none⟩ = some (Value.int .i64 k0) by rw [cellOf B0]; rfl)
  have Q0 := fun X : Gr W1 => X.cell (show W1.cell? ⟨w.heap.size + 1, 0, none⟩ = some (Value.int .i64 k0') by rw [cellOf B1]; rfl)
  have P1 := fun X : Gr W1 => X.cell (show W1.cell? ⟨w.heap.size, 1, none⟩ = some (Value.string t1) by rw [cellOf B0]; rfl)
  have Q1 := fun X : Gr W1 => X.cell (show W1.cell? ⟨w.heap.size + 1, 1, none⟩ = some (Value.string t1') by rw [cellOf B1]; rfl)
  have P2 := fun X : Gr W1 => X.cell (show W1.cell? ⟨w.heap.size, 2, none⟩ = some (Value.slice A2 n2 f2) by rw [cellOf B0]; rfl)
  have Q2 := fun X : Gr W1 => X.cell (show W1.cell? ⟨w.heap.size + 1, 2, none⟩ = some (Value.slice A2' n2' f2') by rw [cellOf B1]; rfl)
  have P3 := fun X : Gr W1 => X.cell (show W1.cell? ⟨w.heap.size, 3, none⟩ = some (c3) by rw [cellOf B0]; rfl)
  have Q3 := fun X : Gr W1 => X.cell (show W1.cell? ⟨w.heap.size + 1, 3, none⟩ = some (d3) by rw [cellOf B1]; rfl)
  have P4 := fun X : Gr W1 => X.cell (show W1.cell? ⟨w.heap.size, 4, none⟩ = some (c4) by rw [cellOf B0]; rfl)
  have Q4 := fun X : Gr W1 => X.cell (show W1.cell? ⟨w.heap.size + 1, 4, none⟩ = some (d4) by rw [cellOf B1]; rfl)
  have PW0 : W1.cell? ⟨w.heap.size, 0, none⟩ = some (Value.int .i64 k0) := P0 ⟨W1, Below.refl _ _⟩
  have QW0 : W1.cell? ⟨w.heap.size + 1, 0, none⟩ = some (Value.int .i64 k0') := Q0 ⟨W1, Below.refl _ _⟩
  have PW1 : W1.cell? ⟨w.heap.size, 1, none⟩ = some (Value.string t1) := P1 ⟨W1, Below.refl _ _⟩
  have QW1 : W1.cell? ⟨w.heap.size + 1, 1, none⟩ = some (Value.string t1') := Q1 ⟨W1, Below.refl _ _⟩
  have PW2 : W1.cell? ⟨w.heap.size, 2, none⟩ = some (Value.slice A2 n2 f2) := P2 ⟨W1, Below.refl _ _⟩
  have QW2 : W1.cell? ⟨w.heap.size + 1, 2, none⟩ = some (Value.slice A2' n2' f2') := Q2 ⟨W1, Below.refl _ _⟩
  have PW3 : W1.cell? ⟨w.heap.size, 3, none⟩ = some (c3) := P3 ⟨W1, Below.refl _ _⟩
  have QW3 : W1.cell? ⟨w.heap.size + 1, 3, none⟩ = some (d3) := Q3 ⟨W1, Below.refl _ _⟩
  have PW4 : W1.cell? ⟨w.heap.size, 4, none⟩ = some (c4) := P4 ⟨W1, Below.refl _ _⟩
  have QW4 : W1.cell? ⟨w.heap.size + 1, 4, none⟩ = some (d4) := Q4 ⟨W1, Below.refl _ _⟩
  have HB0 := Lib.hid B0
  have HB1 := Lib.hid B1
  clear B0 B1
  by_cases h0 : k0 = k0'
  case neg =>
    have hx : (k0 == k0') = false := by simp [h0]
    have hn : smR 5 r r' = false := by rw [HR.out, hx]; simp
    obtain rfl : S = false := HS.out.symm.trans hn
    clear hn
    go_wp2
    go_ret
    exact ⟨rfl, ba⟩
  subst h0
  by_cases h1 : t1 = t1'
  case neg =>
    have hx := str_ne h1
    have hn : smR 5 r r' = false := by rw [HR.out, hx]; simp
    obtain rfl : S = false := HS.out.symm.trans hn
    clear hn
    go_wp2
    go_ret
    exact ⟨rfl, ba⟩
  subst h1
  by_cases h2 : n2 = n2'
  case neg =>
    have hx := int_ne h2
    have hn : smR 5 r r' = false := by rw [HR.out, show y2 = false from by rw [← Hy2.out, nat_ne h2]; simp]; simp
    obtain rfl : S = false := HS.out.symm.trans hn
    clear hn
    go_wp2
    go_ret
    exact ⟨rfl, ba⟩
  subst h2
  go_wp2_with fail
  refine (gr_call (X := (⟨W1, Below.refl _ _⟩ : Gr W1)) (HC3.out W1 _ _ (At.below ba _ a3) (At.below ba _ b3))).mono ?_
  rintro e _ ⟨rfl, X3, rfl⟩
  cases x3
  case false =>
    have hn : smR 5 r r' = false := by rw [HR.out]; simp
    obtain rfl : S = false := HS.out.symm.trans hn
    clear hn
    go_wp2
    go_ret
    exact ⟨rfl, (below_trans ba X3.below)⟩
  go_wp2_with fail
  refine (gr_call (X := X3) (HC4.out X3.W _ _ (At.below (below_trans ba X3.below) _ a4) (At.below (below_trans ba X3.below) _ b4))).mono ?_
  rintro e _ ⟨rfl, X4, rfl⟩
  cases x4
  case false =>
    have hn : smR 5 r r' = false := by rw [HR.out]; simp
    obtain rfl : S = false := HS.out.symm.trans hn
    clear hn
    go_wp2
    go_ret
    exact ⟨rfl, (below_trans ba X4.below)⟩
  go_wp2
  have HRo := HR
  clear HR
  go_loopw [5] (fun i wr => ∃ k : Nat, k ≤ n2 ∧ i = .int .i64 k ∧ Below W1.heap.size W1 wr ∧ ∀ j, j < k → smR 9 (it2 j) (it2' j) = true) (fun i _ => n2 - (intOf i).toNat)
  case atStart => exact ⟨0, Nat.zero_le _, rfl, X4.below, fun j hj => absurd hj (Nat.not_lt_zero _)⟩
  case round =>
    obtain ⟨p, hp, rfl, hbel, hsame⟩ := hrel
    have HSi := Lib.hid hsame
    clear hsame
    have q0 : wr.cell? ⟨w.heap.size, 2, none⟩ = some (Value.slice A2 n2 f2) := P2 ⟨wr, hbel⟩
    have q1 : wr.cell? ⟨w.heap.size + 1, 2, none⟩ = some (Value.slice A2' n2 f2') := Q2 ⟨wr, hbel⟩
    have bb := below_trans ba hbel
    by_cases hlt : p < n2
    case neg =>
      obtain rfl : p = n2 := by omega
      obtain rfl : y2 = true := by rw [← Hy2.out, allB_yes (f := fun i => smR 9 (it2 i) (it2' i)) HSi.out]; simp
      have hz : smR 5 r r' = true := by rw [HRo.out]; simp
      obtain rfl : S = true := HS.out.symm.trans hz
      clear hz
      go_wp2
      go_ret
      exact ⟨rfl, bb⟩
    have hk0 : (0 : Int) ≤ (p : Int) := by omega
    have hk1 : (p : Int) < (n2 : Int) := by omega
    obtain ⟨b, o, e9, hfc⟩ := (At.below bb _ Ha2.out).nth hlt
    subst e9
    obtain ⟨b', o', e9, hfd⟩ := (At.below bb _ Hb2.out).nth hlt
    subst e9
    obtain ⟨cs, hlc, hrc⟩ := row_of hfc
    obtain ⟨c0, c1, c2, c3, c4, c5, c6, c7, c8, hec⟩ := lnB9 hlc
    have a0 := (hrc 0 _ (by rw [hec]; rfl)).2
    have a1 := (hrc 1 _ (by rw [hec]; rfl)).2
    have a2 := (hrc 2 _ (by rw [hec]; rfl)).2
    have a3 := (hrc 3 _ (by rw [hec]; rfl)).2
    have a4 := (hrc 4 _ (by rw [hec]; rfl)).2
    have a5 := (hrc 5 _ (by rw [hec]; rfl)).2
    have a6 := (hrc 6 _ (by rw [hec]; rfl)).2
    have a7 := (hrc 7 _ (by rw [hec]; rfl)).2
    have a8 := (hrc 8 _ (by rw [hec]; rfl)).2
    have HOc := Lib.hid (all_one (fun j v hv => (hrc j v hv).2))
    have HZc := Lib.hid (show (Tryz.prog.info? 79).map (·.size) = some cs.length by rw [hlc]; kernel_rfl)
    have HLc := Lib.hid (show 9 = cs.toArray.size by simp [hlc])
    obtain ⟨ds, hld, hrd⟩ := row_of hfd
    obtain ⟨d0, d1, d2, d3, d4, d5, d6, d7, d8, hed⟩ := lnB9 hld
    have b0 := (hrd 0 _ (by rw [hed]; rfl)).2
    have b1 := (hrd 1 _ (by rw [hed]; rfl)).2
    have b2 := (hrd 2 _ (by rw [hed]; rfl)).2
    have b3 := (hrd 3 _ (by rw [hed]; rfl)).2
    have b4 := (hrd 4 _ (by rw [hed]; rfl)).2
    have b5 := (hrd 5 _ (by rw [hed]; rfl)).2
    have b6 := (hrd 6 _ (by rw [hed]; rfl)).2
    have b7 := (hrd 7 _ (by rw [hed]; rfl)).2
    have b8 := (hrd 8 _ (by rw [hed]; rfl)).2
    have HOd := Lib.hid (all_one (fun j v hv => (hrd j v hv).2))
    have HZd := Lib.hid (show (Tryz.prog.info? 79).map (·.size) = some ds.length by rw [hld]; kernel_rfl)
    have HLd := Lib.hid (show 9 = ds.toArray.size by simp [hld])
    have HCS : Hid (cs[0]? = some c0 ∧ cs[1]? = some c1 ∧ cs[2]? = some c2 ∧ cs[3]? = some c3 ∧ cs[4]? = some c4 ∧ cs[5]? = some c5 ∧ cs[6]? = some c6 ∧ cs[7]? = some c7 ∧ cs[8]? = some c8) := by rw [hec]; exact ⟨rfl, rfl, rfl, rfl, rfl, rfl, rfl, rfl, rfl⟩
    have HDS : Hid (ds[0]? = some d0 ∧ ds[1]? = some d1 ∧ ds[2]? = some d2 ∧ ds[3]? = some d3 ∧ ds[4]? = some d4 ∧ ds[5]? = some d5 ∧ ds[6]? = some d6 ∧ ds[7]? = some d7 ∧ ds[8]? = some d8) := by rw [hed]; exact ⟨rfl, rfl, rfl, rfl, rfl, rfl, rfl, rfl, rfl⟩
    have HCc := Lib.hid (fun j v (hv : cs[j]? = some v) => (hrc j v hv).1)
    have HCd := Lib.hid (fun (ob : Obj) j v (hv : ds[j]? = some v) => ((below_alloc wr ob).cell (World.block_lt_of_cell? wr _ (hrd j v hv).1)).trans (hrd j v hv).1)
    clear hfc hfd hrc hrd hlc hld hec hed
    have q1a := fun ob : Obj => ((below_alloc wr ob).cell (World.block_lt_of_cell? wr _ q1)).trans q1
    have hsp := ss2 p hlt
    have hsp' := ss2' p hlt
    obtain ⟨t0, e0⟩ := (hsp 0 _ rfl).str
    rw [e0] at a0
    obtain ⟨rfl, -⟩ := a0
    obtain ⟨t0', e0'⟩ := (hsp' 0 _ rfl).str
    rw [e0'] at b0
    obtain ⟨rfl, -⟩ := b0
    obtain ⟨t1, e1⟩ := (hsp 1 _ rfl).str
    rw [e1] at a1
    obtain ⟨rfl, -⟩ := a1
    obtain ⟨t1', e1'⟩ := (hsp' 1 _ rfl).str
    rw [e1'] at b1
    obtain ⟨rfl, -⟩ := b1
    obtain ⟨t2, e2⟩ := (hsp 2 _ rfl).str
    rw [e2] at a2
    obtain ⟨rfl, -⟩ := a2
    obtain ⟨t2', e2'⟩ := (hsp' 2 _ rfl).str
    rw [e2'] at b2
    obtain ⟨rfl, -⟩ := b2
    obtain ⟨p3, e3⟩ := (hsp 3 _ rfl).bool
    rw [e3] at a3
    obtain rfl : c3 = Value.bool p3 := a3
    obtain ⟨p3', e3'⟩ := (hsp' 3 _ rfl).bool
    rw [e3'] at b3
    obtain rfl : d3 = Value.bool p3' := b3
    have hrow : smR 9 (it2 p) (it2' p) = ((t0.toList == t0'.toList) && ((t1.toList == t1'.toList) && ((t2.toList == t2'.toList) && ((p3 == p3') && (smR 4 (fun i => it2 p (i + 4)) (fun i => it2' p (i + 4)) && sm (it2 p 8) (it2' p 8)))))) := by simp only [smR, allB, Bool.true_and, Bool.and_assoc, e0, e0', e1, e1', e2, e2', e3, e3', sm_str, sm_bool]
    have HR := Lib.hid hrow
    clear hrow
    have HC4 := smValueS (r := fun i => it2 p (i + 4)) (r' := fun i => it2' p (i + 4)) (shl_cons (hsp 4 _ rfl) (shl_cons (hsp 5 _ rfl) (shl_cons (hsp 6 _ rfl) (shl_cons (hsp 7 _ rfl) shl_nil)))) (shl_cons (hsp' 4 _ rfl) (shl_cons (hsp' 5 _ rfl) (shl_cons (hsp' 6 _ rfl) (shl_cons (hsp' 7 _ rfl) shl_nil))))
    obtain ⟨x4, hx4⟩ : ∃ x, smR 4 (fun i => it2 p (i + 4)) (fun i => it2' p (i + 4)) = x := ⟨_, rfl⟩
    unfold CmpR at HC4
    rw [hx4] at HR HC4
    replace HC4 := Lib.hid HC4
    have HC8 := dirsS (hsp 8 _ rfl) (hsp' 8 _ rfl)
    obtain ⟨x8, hx8⟩ : ∃ x, sm (it2 p 8) (it2' p 8) = x := ⟨_, rfl⟩
    unfold CmpL at HC8
    rw [hx8] at HR HC8
    replace HC8 := Lib.hid HC8
    clear e0 e0' e1 e1' e2 e2' e3 e3'
    go_upto_region 8 with (first | refine wpList_load_cells rfl 79 _ rfl b (o + p * 9) rfl cs _ HCc.out Tryz.underlying79 rfl HZc.out ?_ | refine wpList_load_cells rfl 79 _ rfl b' (o' + p * 9) rfl ds _ (HCd.out _) Tryz.underlying79 rfl HZd.out ?_ | refine wpList_store_new rfl 79 _ _ rfl _ rfl cs.toArray _ rfl rfl HZc.out HLc.out HOc.out ?_ | refine wpList_store_new rfl 79 _ _ rfl _ (sizeNew wr _) ds.toArray _ rfl rfl HZd.out HLd.out HOd.out ?_)
    obtain ⟨W2, hW2⟩ : ∃ W2, ((wr.alloc (Obj.cells cs.toArray 79)).alloc (Obj.cells ds.toArray 79)) = W2 := ⟨_, rfl⟩
    have bw : Below wr.heap.size wr W2 := by rw [← hW2]; exact (twoNew wr _ _).2.2
    have B0 : W2.heap[wr.heap.size]? = some (Obj.cells cs.toArray 79) := by rw [← hW2]; exact (twoNew wr _ _).1
    have B1 : W2.heap[wr.heap.size + 1]? = some (Obj.cells ds.toArray 79) := by rw [← hW2]; exact (twoNew wr _ _).2.1
    rw [hW2]
    clear hW2
    have L0 : W2.cell? ⟨wr.heap.size, 0, none⟩ = some (Value.string t0) := by rw [cellOf B0, List.getElem?_toArray]; exact HCS.out.1
    have M0 : W2.cell? ⟨wr.heap.size + 1, 0, none⟩ = some (Value.string t0') := by rw [cellOf B1, List.getElem?_toArray]; exact HDS.out.1
    have LX0 := fun X : Gr W2 => X.cell L0
    have MX0 := fun X : Gr W2 => X.cell M0
    have L1 : W2.cell? ⟨wr.heap.size, 1, none⟩ = some (Value.string t1) := by rw [cellOf B0, List.getElem?_toArray]; exact HCS.out.2.1
    have M1 : W2.cell? ⟨wr.heap.size + 1, 1, none⟩ = some (Value.string t1') := by rw [cellOf B1, List.getElem?_toArray]; exact HDS.out.2.1
    have LX1 := fun X : Gr W2 => X.cell L1
    have MX1 := fun X : Gr W2 => X.cell M1
    have L2 : W2.cell? ⟨wr.heap.size, 2, none⟩ = some (Value.string t2) := by rw [cellOf B0, List.getElem?_toArray]; exact HCS.out.2.2.1
    have M2 : W2.cell? ⟨wr.heap.size + 1, 2, none⟩ = some (Value.string t2') := by rw [cellOf B1, List.getElem?_toArray]; exact HDS.out.2.2.1
    have LX2 := fun X : Gr W2 => X.cell L2
    have MX2 := fun X : Gr W2 => X.cell M2
    have L3 : W2.cell? ⟨wr.heap.size, 3, none⟩ = some (Value.bool p3) := by rw [cellOf B0, List.getElem?_toArray]; exact HCS.out.2.2.2.1
    have M3 : W2.cell? ⟨wr.heap.size + 1, 3, none⟩ = some (Value.bool p3') := by rw [cellOf B1, List.getElem?_toArray]; exact HDS.out.2.2.2.1
    have LX3 := fun X : Gr W2 => X.cell L3
    have MX3 := fun X : Gr W2 => X.cell M3
    have L4 : W2.cell? ⟨wr.heap.size, 4, none⟩ = some (c4) := by rw [cellOf B0, List.getElem?_toArray]; exact HCS.out.2.2.2.2.1
    have M4 : W2.cell? ⟨wr.heap.size + 1, 4, none⟩ = some (d4) := by rw [cellOf B1, List.getElem?_toArray]; exact HDS.out.2.2.2.2.1
    have LX4 := fun X : Gr W2 => X.cell L4
    have MX4 := fun X : Gr W2 => X.cell M4
    have L5 : W2.cell? ⟨wr.heap.size, 5, none⟩ = some (c5) := by rw [cellOf B0, List.getElem?_toArray]; exact HCS.out.2.2.2.2.2.1
    have M5 : W2.cell? ⟨wr.heap.size + 1, 5, none⟩ = some (d5) := by rw [cellOf B1, List.getElem?_toArray]; exact HDS.out.2.2.2.2.2.1
    have LX5 := fun X : Gr W2 => X.cell L5
    have MX5 := fun X : Gr W2 => X.cell M5
    have L6 : W2.cell? ⟨wr.heap.size, 6, none⟩ = some (c6) := by rw [cellOf B0, List.getElem?_toArray]; exact HCS.out.2.2.2.2.2.2.1
    have M6 : W2.cell? ⟨wr.heap.size + 1, 6, none⟩ = some (d6) := by rw [cellOf B1, List.getElem?_toArray]; exact HDS.out.2.2.2.2.2.2.1
    have LX6 := fun X : Gr W2 => X.cell L6
    have MX6 := fun X : Gr W2 => X.cell M6
    have L7 : W2.cell? ⟨wr.heap.size, 7, none⟩ = some (c7) := by rw [cellOf B0, List.getElem?_toArray]; exact HCS.out.2.2.2.2.2.2.2.1
    have M7 : W2.cell? ⟨wr.heap.size + 1, 7, none⟩ = some (d7) := by rw [cellOf B1, List.getElem?_toArray]; exact HDS.out.2.2.2.2.2.2.2.1
    have LX7 := fun X : Gr W2 => X.cell L7
    have MX7 := fun X : Gr W2 => X.cell M7
    have L8 : W2.cell? ⟨wr.heap.size, 8, none⟩ = some (c8) := by rw [cellOf B0, List.getElem?_toArray]; exact HCS.out.2.2.2.2.2.2.2.2
    have M8 : W2.cell? ⟨wr.heap.size + 1, 8, none⟩ = some (d8) := by rw [cellOf B1, List.getElem?_toArray]; exact HDS.out.2.2.2.2.2.2.2.2
    have LX8 := fun X : Gr W2 => X.cell L8
    have MX8 := fun X : Gr W2 => X.cell M8
    clear B0 B1 HCS HDS
    by_cases h0 : t0 = t0'
    case neg =>
      have hx := str_ne h0
      have hn : smR 9 (it2 p) (it2' p) = false := by rw [HR.out, hx]; simp
      obtain rfl : y2 = false := by rw [← Hy2.out, allB_no (f := fun i => smR 9 (it2 i) (it2' i)) hlt hn]; simp
      have hz : smR 5 r r' = false := by rw [HRo.out]; simp
      obtain rfl : S = false := HS.out.symm.trans hz
      clear hn
      go_wp2
      go_ret
      exact ⟨rfl, below_trans bb bw⟩
    subst h0
    by_cases h1 : t1 = t1'
    case neg =>
      have hx := str_ne h1
      have hn : smR 9 (it2 p) (it2' p) = false := by rw [HR.out, hx]; simp
      obtain rfl : y2 = false := by rw [← Hy2.out, allB_no (f := fun i => smR 9 (it2 i) (it2' i)) hlt hn]; simp
      have hz : smR 5 r r' = false := by rw [HRo.out]; simp
      obtain rfl : S = false := HS.out.symm.trans hz
      clear hn
      go_wp2
      go_ret
      exact ⟨rfl, below_trans bb bw⟩
    subst h1
    by_cases h2 : t2 = t2'
    case neg =>
      have hx := str_ne h2
      have hn : smR 9 (it2 p) (it2' p) = false := by rw [HR.out, hx]; simp
      obtain rfl : y2 = false := by rw [← Hy2.out, allB_no (f := fun i => smR 9 (it2 i) (it2' i)) hlt hn]; simp
      have hz : smR 5 r r' = false := by rw [HRo.out]; simp
      obtain rfl : S = false := HS.out.symm.trans hz
      clear hn
      go_wp2
      go_ret
      exact ⟨rfl, below_trans bb bw⟩
    subst h2
    by_cases h3 : p3 = p3'
    case neg =>
      have hx : (p3 == p3') = false := by simp [h3]
      have hn : smR 9 (it2 p) (it2' p) = false := by rw [HR.out, hx]; simp
      obtain rfl : y2 = false := by rw [← Hy2.out, allB_no (f := fun i => smR 9 (it2 i) (it2' i)) hlt hn]; simp
      have hz : smR 5 r r' = false := by rw [HRo.out]; simp
      obtain rfl : S = false := HS.out.symm.trans hz
      clear hn
      go_wp2
      go_ret
      exact ⟨rfl, below_trans bb bw⟩
    subst h3
    go_wp2_with fail
    refine (gr_call (X := (⟨W2, Below.refl _ _⟩ : Gr W2)) (HC4.out W2 [c4, c5, c6, c7] [d4, d5, d6, d7] rfl rfl (atl_below bw (atl_cons a4 (atl_cons a5 (atl_cons a6 (atl_cons a7 atl_nil))))) (atl_below bw (atl_cons b4 (atl_cons b5 (atl_cons b6 (atl_cons b7 atl_nil))))))).mono ?_
    rintro e _ ⟨rfl, X4, rfl⟩
    cases x4
    case false =>
      have hn : smR 9 (it2 p) (it2' p) = false := by rw [HR.out]; simp
      obtain rfl : y2 = false := by rw [← Hy2.out, allB_no (f := fun i => smR 9 (it2 i) (it2' i)) hlt hn]; simp
      have hz : smR 5 r r' = false := by rw [HRo.out]; simp
      obtain rfl : S = false := HS.out.symm.trans hz
      clear hn
      go_wp2
      go_ret
      exact ⟨rfl, below_trans bb (below_trans bw X4.below)⟩
    go_wp2_with fail
    refine (gr_call (X := X4) (HC8.out X4.W _ _ (At.below (below_trans bw X4.below) _ a8) (At.below (below_trans bw X4.below) _ b8))).mono ?_
    rintro e _ ⟨rfl, X8, rfl⟩
    cases x8
    case false =>
      have hn : smR 9 (it2 p) (it2' p) = false := by rw [HR.out]; simp
      obtain rfl : y2 = false := by rw [← Hy2.out, allB_no (f := fun i => smR 9 (it2 i) (it2' i)) hlt hn]; simp
      have hz : smR 5 r r' = false := by rw [HRo.out]; simp
      obtain rfl : S = false := HS.out.symm.trans hz
      clear hn
      go_wp2
      go_ret
      exact ⟨rfl, below_trans bb (below_trans bw X8.below)⟩
    have hy : smR 9 (it2 p) (it2' p) = true := by rw [HR.out]; simp
    have HY := Lib.hid (yes_step HSi.out hy)
    clear hy
    go_wp2
    go_roundw
    case rel => exact ⟨p + 1, by omega, by go_num, below_trans hbel (below_trans bw X8.below), HY.out⟩
    case measure => simp [intOf]; omega

end Dc
end Go.Proofs.YtngfhncdmlpjiaaGreat
