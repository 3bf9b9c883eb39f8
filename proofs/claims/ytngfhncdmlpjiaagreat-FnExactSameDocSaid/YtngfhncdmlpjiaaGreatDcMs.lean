/- What is proved: the model's test of two lists of selections says whether they are the same. (Made by tools/mkdc.py.) -/
import Derived.Test.YtngfhncdmlpjiaaGreatDcMq
import Derived.Test.YtngfhncdmlpjiaaGreatDcB
namespace Go.Proofs.YtngfhncdmlpjiaaGreat
namespace Dc
set_option linter.unusedVariables false
set_option linter.unusedSimpArgs false
open Go.RowKit Da
attribute [local go_sem ↓] Go.wp_at_zero Go.wp_at_succ

set_option maxRecDepth 100000 in
set_option maxHeartbeats 4000000 in
theorem smLsSel (n n' : Nat) (it it' : Nat → Nat → D) (hs : ∀ i, i < n → ∀ j g, (row .sel)[j]? = some g → Sh (it i j) g) (hs' : ∀ i, i < n' → ∀ j g, (row .sel)[j]? = some g → Sh (it' i j) g)
    (h6 : ∀ i, i < n → i < n' → CmpL 12 (it i 6) (it' i 6)) : CmpL 12 (.list 7 n it) (.list 7 n' it') := by
  intro w c d h h'
  have HI := Lib.hid h
  have HI' := Lib.hid h'
  obtain ⟨A, cap, rfl, hm⟩ := h.slice
  obtain ⟨A', cap', rfl, hm'⟩ := h'.slice
  clear h h'
  unfold maxLen at hm hm'
  obtain ⟨S, hS⟩ : ∃ S, sm (.list 7 n it) (.list 7 n' it') = S := ⟨_, rfl⟩
  rw [hS]
  rw [sm_list] at hS
  have HS := Lib.hid hS
  clear hS
  by_cases hnn : n = n'
  case neg =>
    have hq := int_ne hnn
    obtain rfl : S = false := by rw [← HS.out, nat_ne hnn]; simp
    go_enter Tryz.func12, Tryz.ntmps12
    go_wp2
    go_ret
    exact ⟨rfl, Below.refl _ _⟩
  subst hnn
  go_enter Tryz.func12, Tryz.ntmps12
  go_wp2
  go_loopw [5] (fun i wr => ∃ k : Nat, k ≤ n ∧ i = .int .i64 k ∧ Below w.heap.size w wr ∧ ∀ j, j < k → smR 7 (it j) (it' j) = true) (fun i _ => n - (intOf i).toNat)
  case atStart => exact ⟨0, Nat.zero_le _, rfl, Below.refl _ _, fun j hj => absurd hj (Nat.not_lt_zero _)⟩
  case round =>
    obtain ⟨p, hp, rfl, hbel, hsame⟩ := hrel
    have HSi := Lib.hid hsame
    clear hsame
    have bb := hbel
    by_cases hlt : p < n
    case neg =>
      obtain rfl : p = n := by omega
      obtain rfl : S = true := by rw [← HS.out, allB_yes (f := fun i => smR 7 (it i) (it' i)) HSi.out]; simp
      go_wp2
      go_ret
      exact ⟨rfl, bb⟩
    have hk0 : (0 : Int) ≤ (p : Int) := by omega
    have hk1 : (p : Int) < (n : Int) := by omega
    obtain ⟨b, o, e9, hfc⟩ := (At.below bb _ HI.out).nth hlt
    subst e9
    obtain ⟨b', o', e9, hfd⟩ := (At.below bb _ HI'.out).nth hlt
    subst e9
    obtain ⟨cs, hlc, hrc⟩ := row_of hfc
    obtain ⟨c0, c1, c2, c3, c4, c5, c6, hec⟩ := len7 hlc
    have a0 := (hrc 0 _ (by rw [hec]; rfl)).2
    have a1 := (hrc 1 _ (by rw [hec]; rfl)).2
    have a2 := (hrc 2 _ (by rw [hec]; rfl)).2
    have a3 := (hrc 3 _ (by rw [hec]; rfl)).2
    have a4 := (hrc 4 _ (by rw [hec]; rfl)).2
    have a5 := (hrc 5 _ (by rw [hec]; rfl)).2
    have a6 := (hrc 6 _ (by rw [hec]; rfl)).2
    have HOc := Lib.hid (all_one (fun j v hv => (hrc j v hv).2))
    have HZc := Lib.hid (show (Tryz.prog.info? 86).map (·.size) = some cs.length by rw [hlc]; kernel_rfl)
    have HLc := Lib.hid (show 7 = cs.toArray.size by simp [hlc])
    obtain ⟨ds, hld, hrd⟩ := row_of hfd
    obtain ⟨d0, d1, d2, d3, d4, d5, d6, hed⟩ := len7 hld
    have b0 := (hrd 0 _ (by rw [hed]; rfl)).2
    have b1 := (hrd 1 _ (by rw [hed]; rfl)).2
    have b2 := (hrd 2 _ (by rw [hed]; rfl)).2
    have b3 := (hrd 3 _ (by rw [hed]; rfl)).2
    have b4 := (hrd 4 _ (by rw [hed]; rfl)).2
    have b5 := (hrd 5 _ (by rw [hed]; rfl)).2
    have b6 := (hrd 6 _ (by rw [hed]; rfl)).2
    have HOd := Lib.hid (all_one (fun j v hv => (hrd j v hv).2))
    have HZd := Lib.hid (show (Tryz.prog.info? 86).map (·.size) = some ds.length by rw [hld]; kernel_rfl)
    have HLd := Lib.hid (show 7 = ds.toArray.size by simp [hld])
    have HCS : Hid (cs[0]? = some c0 ∧ cs[1]? = some c1 ∧ cs[2]? = some c2 ∧ cs[3]? = some c3 ∧ cs[4]? = some c4 ∧ cs[5]? = some c5 ∧ cs[6]? = some c6) := by rw [hec]; exact ⟨rfl, rfl, rfl, rfl, rfl, rfl, rfl⟩
    have HDS : Hid (ds[0]? = some d0 ∧ ds[1]? = some d1 ∧ ds[2]? = some d2 ∧ ds[3]? = some d3 ∧ ds[4]? = some d4 ∧ ds[5]? = some d5 ∧ ds[6]? = some d6) := by rw [hed]; exact ⟨rfl, rfl, rfl, rfl, rfl, rfl, rfl⟩
    have HCc := Lib.hid (fun j v (hv : cs[j]? = some v) => (hrc j v hv).1)
    have HCd := Lib.hid (fun (ob : Obj) j v (hv : ds[j]? = some v) => ((below_alloc wr ob).cell (World.block_lt_of_cell? wr _ (hrd j v hv).1)).trans (hrd j v hv).1)
    clear hfc hfd hrc hrd hlc hld hec hed
    have hsp := hs p hlt
    have hsp' := hs' p hlt
    obtain ⟨k0, e0⟩ := (hsp 0 _ rfl).int
    rw [e0] at a0
    obtain rfl : c0 = Value.int .i64 k0 := a0
    obtain ⟨k0', e0'⟩ := (hsp' 0 _ rfl).int
    rw [e0'] at b0
    obtain rfl : d0 = Value.int .i64 k0' := b0
    obtain ⟨t1, e1⟩ := (hsp 1 _ rfl).str
    rw [e1] at a1
    obtain ⟨rfl, -⟩ := a1
    obtain ⟨t1', e1'⟩ := (hsp' 1 _ rfl).str
    rw [e1'] at b1
    obtain ⟨rfl, -⟩ := b1
    obtain ⟨t2, e2⟩ := (hsp 2 _ rfl).str
    rw [e2] at a2
    obtain ⟨rfl, -⟩ := a2
    obtain ⟨t2', e2'⟩ := (hsp' 2 _ rfl).str
    rw [e2'] at b2
    obtain ⟨rfl, -⟩ := b2
    obtain ⟨t3, e3⟩ := (hsp 3 _ rfl).str
    rw [e3] at a3
    obtain ⟨rfl, -⟩ := a3
    obtain ⟨t3', e3'⟩ := (hsp' 3 _ rfl).str
    rw [e3'] at b3
    obtain ⟨rfl, -⟩ := b3
    have hrow : smR 7 (it p) (it' p) = ((k0 == k0') && ((t1.toList == t1'.toList) && ((t2.toList == t2'.toList) && ((t3.toList == t3'.toList) && (sm (it p 4) (it' p 4) && (sm (it p 5) (it' p 5) && sm (it p 6) (it' p 6))))))) := by simp only [smR, allB, Bool.true_and, Bool.and_assoc, e0, e0', e1, e1', e2, e2', e3, e3', sm_int, sm_str]
    have HR := Lib.hid hrow
    clear hrow
    have HC4 := argsS (hsp 4 _ rfl) (hsp' 4 _ rfl)
    obtain ⟨x4, hx4⟩ : ∃ x, sm (it p 4) (it' p 4) = x := ⟨_, rfl⟩
    unfold CmpL at HC4
    rw [hx4] at HR HC4
    replace HC4 := Lib.hid HC4
    have HC5 := dirsS (hsp 5 _ rfl) (hsp' 5 _ rfl)
    obtain ⟨x5, hx5⟩ : ∃ x, sm (it p 5) (it' p 5) = x := ⟨_, rfl⟩
    unfold CmpL at HC5
    rw [hx5] at HR HC5
    replace HC5 := Lib.hid HC5
    have HC6 := h6 p hlt hlt
    obtain ⟨x6, hx6⟩ : ∃ x, sm (it p 6) (it' p 6) = x := ⟨_, rfl⟩
    unfold CmpL at HC6
    rw [hx6] at HR HC6
    replace HC6 := Lib.hid HC6
    clear e0 e0' e1 e1' e2 e2' e3 e3'
    go_upto_region 8 with (first | refine wpList_load_cells rfl 86 _ rfl b (o + p * 7) rfl cs _ HCc.out Tryz.underlying86 rfl HZc.out ?_ | refine wpList_load_cells rfl 86 _ rfl b' (o' + p * 7) rfl ds _ (HCd.out _) Tryz.underlying86 rfl HZd.out ?_ | refine wpList_store_new rfl 86 _ _ rfl _ rfl cs.toArray _ rfl rfl HZc.out HLc.out HOc.out ?_ | refine wpList_store_new rfl 86 _ _ rfl _ (sizeNew wr _) ds.toArray _ rfl rfl HZd.out HLd.out HOd.out ?_)
    obtain ⟨W2, hW2⟩ : ∃ W2, ((wr.alloc (Obj.cells cs.toArray 86)).alloc (Obj.cells ds.toArray 86)) = W2 := ⟨_, rfl⟩
    have bw : Below wr.heap.size wr W2 := by rw [← hW2]; exact (twoNew wr _ _).2.2
    have B0 : W2.heap[wr.heap.size]? = some (Obj.cells cs.toArray 86) := by rw [← hW2]; exact (twoNew wr _ _).1
    have B1 : W2.heap[wr.heap.size + 1]? = some (Obj.cells ds.toArray 86) := by rw [← hW2]; exact (twoNew wr _ _).2.1
    rw [hW2]
    clear hW2
    have L0 : W2.cell? ⟨wr.heap.size, 0, none⟩ = some (Value.int .i64 k0) := by rw [cellOf B0, List.getElem?_toArray]; exact HCS.out.1
    have M0 : W2.cell? ⟨wr.heap.size + 1, 0, none⟩ = some (Value.int .i64 k0') := by rw [cellOf B1, List.getElem?_toArray]; exact HDS.out.1
    have LX0 := fun X : Gr W2 => X.cell L0
    have MX0 := fun X : Gr W2 => X.cell M0
    have L1 : W2.cell? ⟨wr.heap.size, 1, none⟩ = some (Value.string t1) := by rw [cellOf B0, List.getElem?_toArray]; exact HCS.out.2.1
    have M1 : W2.cell? ⟨wr.heap.size + 1, 1, none⟩ = some (Value.string t1') := by rw [cellOf B1, List.getElem?_toArray]; exact HDS.out.2.1
    have LX1 := fun X : Gr W2 => X.cell L1
    have MX1 := fun X : Gr W2 => X.cell M1
    have L2 : W2.cell? ⟨wr.heap.size, 2, none⟩ = some (Value.string t2) := by rw [cellOf B0, List.getElem?_toArray]; exact HCS.out.2.2.1
    have M2 : W2.cell? ⟨wr.heap.size + 1, 2, none⟩ = some (Value.string t2') := by rw [cellOf B1, List.getElem?_toArray]; exact HDS.out.2.2.1
    have LX2 := fun X : Gr W2 => X.cell L2
    have MX2 := fun X : Gr W2 => X.cell M2
    have L3 : W2.cell? ⟨wr.heap.size, 3, none⟩ = some (Value.string t3) := by rw [cellOf B0, List.getElem?_toArray]; exact HCS.out.2.2.2.1
    have M3 : W2.cell? ⟨wr.heap.size + 1, 3, none⟩ = some (Value.string t3') := by rw [cellOf B1, List.getElem?_toArray]; exact HDS.out.2.2.2.1
    have LX3 := fun X : Gr W2 => X.cell L3
    have MX3 := fun X : Gr W2 => X.cell M3
    have L4 : W2.cell? ⟨wr.heap.size, 4, none⟩ = some (c4) := by rw [cellOf B0, List.getElem?_toArray]; exact HCS.out.2.2.2.2.1
    have M4 : W2.cell? ⟨wr.heap.size + 1, 4, none⟩ = some (d4) := by rw [cellOf B1, List.getElem?_toArray]; exact HDS.out.2.2.2.2.1
    have LX4 := fun X : Gr W2 => X.cell L4
    have MX4 := fun X : Gr W2 => X.cell M4
    have L5 : W2.cell? ⟨wr.heap.size, 5, none⟩ = some (c5) := by rw [cellOf B0, List.getElem?_toArray]; exact HCS.out.2.2.2.2.2.1
    have M5 : W2.cell? ⟨wr.heap.size + 1, 5, none⟩ = some (d5) := by rw [cellOf B1, List.getElem?_toArray]; exact HDS.out.2.2.2.2.2.1
    have LX5 := fun X : Gr W2 => X.cell L5
    have MX5 := fun X : Gr W2 => X.cell M5
    have L6 : W2.cell? ⟨wr.heap.size, 6, none⟩ = some (c6) := by rw [cellOf B0, List.getElem?_toArray]; exact HCS.out.2.2.2.2.2.2
    have M6 : W2.cell? ⟨wr.heap.size + 1, 6, none⟩ = some (d6) := by rw [cellOf B1, List.getElem?_toArray]; exact HDS.out.2.2.2.2.2.2
    have LX6 := fun X : Gr W2 => X.cell L6
    have MX6 := fun X : Gr W2 => X.cell M6
    clear B0 B1 HCS HDS
    by_cases h0 : k0 = k0'
    case neg =>
      have hx : (k0 == k0') = false := by simp [h0]
      have hn : smR 7 (it p) (it' p) = false := by rw [HR.out, hx]; simp
      obtain rfl : S = false := by rw [← HS.out, allB_no (f := fun i => smR 7 (it i) (it' i)) hlt hn]; simp
      clear hn
      go_wp2
      go_ret
      exact ⟨rfl, below_trans bb bw⟩
    subst h0
    by_cases h1 : t1 = t1'
    case neg =>
      have hx := str_ne h1
      have hn : smR 7 (it p) (it' p) = false := by rw [HR.out, hx]; simp
      obtain rfl : S = false := by rw [← HS.out, allB_no (f := fun i => smR 7 (it i) (it' i)) hlt hn]; simp
      clear hn
      go_wp2
      go_ret
      exact ⟨rfl, below_trans bb bw⟩
    subst h1
    by_cases h2 : t2 = t2'
    case neg =>
      have hx := str_ne h2
      have hn : smR 7 (it p) (it' p) = false := by rw [HR.out, hx]; simp
      obtain rfl : S = false := by rw [← HS.out, allB_no (f := fun i => smR 7 (it i) (it' i)) hlt hn]; simp
      clear hn
      go_wp2
      go_ret
      exact ⟨rfl, below_trans bb bw⟩
    subst h2
    by_cases h3 : t3 = t3'
    case neg =>
      have hx := str_ne h3
      have hn : smR 7 (it p) (it' p) = false := by rw [HR.out, hx]; simp
      obtain rfl : S = false := by rw [← HS.out, allB_no (f := fun i => smR 7 (it i) (it' i)) hlt hn]; simp
      clear hn
      go_wp2
      go_ret
      exact ⟨rfl, below_trans bb bw⟩
    subst h3
    go_wp2_with fail
    refine (gr_call (X := (⟨W2, Below.refl _ _⟩ : Gr W2)) (HC4.out W2 _ _ (At.below bw _ a4) (At.below bw _ b4))).mono ?_
    rintro e _ ⟨rfl, X4, rfl⟩
    cases x4
    case false =>
      have hn : smR 7 (it p) (it' p) = false := by rw [HR.out]; simp
      obtain rfl : S = false := by rw [← HS.out, allB_no (f := fun i => smR 7 (it i) (it' i)) hlt hn]; simp
      clear hn
      go_wp2
      go_ret
      exact ⟨rfl, below_trans bb (below_trans bw X4.below)⟩
    go_wp2_with fail
    refine (gr_call (X := X4) (HC5.out X4.W _ _ (At.below (below_trans bw X4.below) _ a5) (At.below (below_trans bw X4.below) _ b5))).mono ?_
    rintro e _ ⟨rfl, X5, rfl⟩
    cases x5
    case false =>
      have hn : smR 7 (it p) (it' p) = false := by rw [HR.out]; simp
      obtain rfl : S = false := by rw [← HS.out, allB_no (f := fun i => smR 7 (it i) (it' i)) hlt hn]; simp
      clear hn
      go_wp2
      go_ret
      exact ⟨rfl, below_trans bb (below_trans bw X5.below)⟩
    go_wp2_with fail
    refine (gr_call (X := X5) (HC6.out X5.W _ _ (At.below (below_trans bw X5.below) _ a6) (At.below (below_trans bw X5.below) _ b6))).mono ?_
    rintro e _ ⟨rfl, X6, rfl⟩
    cases x6
    case false =>
      have hn : smR 7 (it p) (it' p) = false := by rw [HR.out]; simp
      obtain rfl : S = false := by rw [← HS.out, allB_no (f := fun i => smR 7 (it i) (it' i)) hlt hn]; simp
      clear hn
      go_wp2
      go_ret
      exact ⟨rfl, below_trans bb (below_trans bw X6.below)⟩
    have hy : smR 7 (it p) (it' p) = true := by rw [HR.out]; simp
    have HY := Lib.hid (yes_step HSi.out hy)
    clear hy
    go_wp2
    go_roundw
    case rel => exact ⟨p + 1, by omega, by go_num, below_trans hbel (below_trans bw X6.below), HY.out⟩
    case measure => simp [intOf]; omega

theorem selsS : ∀ (d : D), Sh d (.lst .sel) → ∀ (d' : D), Sh d' (.lst .sel) → CmpL 12 d d'
  | .list W m f, h, d', h' => by
    obtain ⟨n1, it1, e1, hs⟩ := h.lst
    obtain ⟨n2, it2, rfl, hs'⟩ := h'.lst
    cases e1
    exact smLsSel m n2 f it2 hs hs' fun i hi hi' => selsS (f i 6) (hs i hi 6 _ rfl) (it2 i 6) (hs' i hi' 6 _ rfl)
  | .no, h, _, _ => h.elim
  | .int _, h, _, _ => by cases h
  | .str _, h, _, _ => by cases h
  | .bool _, h, _, _ => by cases h
end Dc
end Go.Proofs.YtngfhncdmlpjiaaGreat
