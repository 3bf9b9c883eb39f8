/- What is proved: the program's test of two lists of variables says whether they are the same. (Made by tools/mkdc.py.) -/
import Derived.Test.YtngfhncdmlpjiaaGreatDcPd
namespace Go.Proofs.YtngfhncdmlpjiaaGreat
namespace Dc
set_option linter.unusedVariables false
set_option linter.unusedSimpArgs false
open Go.RowKit Da
attribute [local go_sem ↓] Go.wp_at_zero Go.wp_at_succ

set_option maxHeartbeats 4000000 in
theorem varI {r r' : Nat → D} (hs : ∀ j g, (row .vardef)[j]? = some g → Sh (r j) g) (hs' : ∀ j g, (row .vardef)[j]? = some g → Sh (r' j) g)
    (hz : sumTo (fun j => sz (r j)) 9 ≤ 1048576) : CmpR 34 9 (smR 9 r r') r r' := by
  intro w cs ds hcl hdl ha hb
  obtain ⟨c0, c1, c2, c3, c4, c5, c6, c7, c8, rfl⟩ := lnB9 hcl
  obtain ⟨d0, d1, d2, d3, d4, d5, d6, d7, d8, rfl⟩ := lnB9 hdl
  have a0 := ha 0 _ rfl
  have b0 := hb 0 _ rfl
  have a1 := ha 1 _ rfl
  have b1 := hb 1 _ rfl
  have a2 := ha 2 _ rfl
  have b2 := hb 2 _ rfl
  have a3 := ha 3 _ rfl
  have b3 := hb 3 _ rfl
  have a4 := ha 4 _ rfl
  have b4 := hb 4 _ rfl
  have a5 := ha 5 _ rfl
  have b5 := hb 5 _ rfl
  have a6 := ha 6 _ rfl
  have b6 := hb 6 _ rfl
  have a7 := ha 7 _ rfl
  have b7 := hb 7 _ rfl
  have a8 := ha 8 _ rfl
  have b8 := hb 8 _ rfl
  clear ha hb hcl hdl
  obtain ⟨t0, e0⟩ := (hs 0 _ rfl).str
  rw [e0] at a0
  obtain ⟨rfl, -⟩ := a0
  obtain ⟨t0', e0'⟩ := (hs' 0 _ rfl).str
  rw [e0'] at b0
  obtain ⟨rfl, -⟩ := b0
  obtain ⟨t1, e1⟩ := (hs 1 _ rfl).str
  rw [e1] at a1
  obtain ⟨rfl, -⟩ := a1
  obtain ⟨t1', e1'⟩ := (hs' 1 _ rfl).str
  rw [e1'] at b1
  obtain ⟨rfl, -⟩ := b1
  obtain ⟨t2, e2⟩ := (hs 2 _ rfl).str
  rw [e2] at a2
  obtain ⟨rfl, -⟩ := a2
  obtain ⟨t2', e2'⟩ := (hs' 2 _ rfl).str
  rw [e2'] at b2
  obtain ⟨rfl, -⟩ := b2
  obtain ⟨p3, e3⟩ := (hs 3 _ rfl).bool
  rw [e3] at a3
  obtain rfl : c3 = Value.bool p3 := a3
  obtain ⟨p3', e3'⟩ := (hs' 3 _ rfl).bool
  rw [e3'] at b3
  obtain rfl : d3 = Value.bool p3' := b3
  have hrow : smR 9 r r' = ((t0.toList == t0'.toList) && ((t1.toList == t1'.toList) && ((t2.toList == t2'.toList) && ((p3 == p3') && (smR 4 (fun i => r (i + 4)) (fun i => r' (i + 4)) && sm (r 8) (r' 8)))))) := by simp only [smR, allB, Bool.true_and, Bool.and_assoc, e0, e0', e1, e1', e2, e2', e3, e3', sm_str, sm_bool]
  have HR := Lib.hid hrow
  clear hrow
  have HC4 := valueI (r := fun i => r (i + 4)) (r' := fun i => r' (i + 4)) (shl_cons (hs 4 _ rfl) (shl_cons (hs 5 _ rfl) (shl_cons (hs 6 _ rfl) (shl_cons (hs 7 _ rfl) shl_nil)))) (shl_cons (hs' 4 _ rfl) (shl_cons (hs' 5 _ rfl) (shl_cons (hs' 6 _ rfl) (shl_cons (hs' 7 _ rfl) shl_nil)))) (by simp only [sumTo] at hz; show ((((0 + sz (r 4)) + sz (r 5)) + sz (r 6)) + sz (r 7)) ≤ 1048576; omega)
  obtain ⟨x4, hx4⟩ : ∃ x, smR 4 (fun i => r (i + 4)) (fun i => r' (i + 4)) = x := ⟨_, rfl⟩
  unfold CmpR at HC4
  rw [hx4] at HR HC4
  replace HC4 := Lib.hid HC4
  have HC8 := dirsI (hs 8 _ rfl) (hs' 8 _ rfl) (by simp only [sumTo] at hz; omega)
  obtain ⟨x8, hx8⟩ : ∃ x, sm (r 8) (r' 8) = x := ⟨_, rfl⟩
  unfold CmpL at HC8
  rw [hx8] at HR HC8
  replace HC8 := Lib.hid HC8
  obtain ⟨S, hS⟩ : ∃ S, smR 9 r r' = S := ⟨_, rfl⟩
  rw [hS]
  have HS := Lib.hid hS
  clear hS
  clear e0 e0' e1 e1' e2 e2' e3 e3'
  by_cases h0 : t0 = t0'
  case neg =>
    have hx := str_ne h0
    have hn : smR 9 r r' = false := by rw [HR.out, hx]; simp
    go_enter Tryz.func34, Tryz.ntmps34
    obtain rfl : S = false := HS.out.symm.trans hn
    clear hn
    go_wp2
    go_ret
    exact ⟨rfl, (twoNew w _ _).2.2⟩
  subst h0
  by_cases h1 : t1 = t1'
  case neg =>
    have hx := str_ne h1
    have hn : smR 9 r r' = false := by rw [HR.out, hx]; simp
    go_enter Tryz.func34, Tryz.ntmps34
    obtain rfl : S = false := HS.out.symm.trans hn
    clear hn
    go_wp2
    go_ret
    exact ⟨rfl, (twoNew w _ _).2.2⟩
  subst h1
  by_cases h2 : t2 = t2'
  case neg =>
    have hx := str_ne h2
    have hn : smR 9 r r' = false := by rw [HR.out, hx]; simp
    go_enter Tryz.func34, Tryz.ntmps34
    obtain rfl : S = false := HS.out.symm.trans hn
    clear hn
    go_wp2
    go_ret
    exact ⟨rfl, (twoNew w _ _).2.2⟩
  subst h2
  by_cases h3 : p3 = p3'
  case neg =>
    have hx : (p3 == p3') = false := by simp [h3]
    have hn : smR 9 r r' = false := by rw [HR.out, hx]; simp
    go_enter Tryz.func34, Tryz.ntmps34
    obtain rfl : S = false := HS.out.symm.trans hn
    clear hn
    go_wp2
    go_ret
    exact ⟨rfl, (twoNew w _ _).2.2⟩
  subst h3
  go_enter Tryz.func34, Tryz.ntmps34
  go_wp2_with fail
  obtain ⟨W1, hW1⟩ : ∃ W1, ((w.alloc (Obj.cells #[Value.string t0, Value.string t1, Value.string t2, Value.bool p3, c4, c5, c6, c7, c8] 79)).alloc (Obj.cells #[Value.string t0, Value.string t1, Value.string t2, Value.bool p3, d4, d5, d6, d7, d8] 79)) = W1 := ⟨_, rfl⟩
  have ba : Below w.heap.size w W1 := by rw [← hW1]; exact (twoNew w _ _).2.2
  have B0 : W1.heap[w.heap.size]? = some (Obj.cells #[Value.string t0, Value.string t1, Value.string t2, Value.bool p3, c4, c5, c6, c7, c8] 79) := by rw [← hW1]; exact (twoNew w _ _).1
  have B1 : W1.heap[w.heap.size + 1]? = some (Obj.cells #[Value.string t0, Value.string t1, Value.string t2, Value.bool p3, d4, d5, d6, d7, d8] 79) := by rw [← hW1]; exact (twoNew w _ _).2.1
  rw [hW1]
  clear hW1
  have P8 := fun X : Gr W1 => X.cell (show W1.cell? ⟨w.heap.size, 8, none⟩ = some (c8) by rw [cellOf B0]; rfl)
  have Q8 := fun X : Gr W1 => X.cell (show W1.cell? ⟨w.heap.size + 1, 8, none⟩ = some (d8) by rw [cellOf B1]; rfl)
  have HB0 := Lib.hid B0
  have HB1 := Lib.hid B1
  clear B0 B1
  refine (gr_call (X := (⟨W1, Below.refl _ _⟩ : Gr W1)) (HC4.out W1 [c4, c5, c6, c7] [d4, d5, d6, d7] rfl rfl (atl_below ba (atl_cons a4 (atl_cons a5 (atl_cons a6 (atl_cons a7 atl_nil))))) (atl_below ba (atl_cons b4 (atl_cons b5 (atl_cons b6 (atl_cons b7 atl_nil))))))).mono ?_
  rintro e _ ⟨rfl, X4, rfl⟩
  cases x4
  case false =>
    have hn : smR 9 r r' = false := by rw [HR.out]; simp
    obtain rfl : S = false := HS.out.symm.trans hn
    clear hn
    go_wp2
    go_ret
    exact ⟨rfl, (below_trans ba X4.below)⟩
  go_wp2_with fail
  refine (gr_call (X := X4) (HC8.out X4.W _ _ (At.below (below_trans ba X4.below) _ a8) (At.below (below_trans ba X4.below) _ b8))).mono ?_
  rintro e _ ⟨rfl, X8, rfl⟩
  cases x8
  case false =>
    have hn : smR 9 r r' = false := by rw [HR.out]; simp
    obtain rfl : S = false := HS.out.symm.trans hn
    clear hn
    go_wp2
    go_ret
    exact ⟨rfl, (below_trans ba X8.below)⟩
  have hy : smR 9 r r' = true := by rw [HR.out]; simp
  obtain rfl : S = true := HS.out.symm.trans hy
  clear hy
  go_wp2
  go_ret
  exact ⟨rfl, (below_trans ba X8.below)⟩

theorem enterQ : ∀ args w, (callFunc 34 args).run Tryz.prog w = .ok (.enter 34 args) w := enters_of Tryz.func34 (by kernel_rfl) rfl
theorem sizeQ : (Tryz.prog.info? 79).map (·.size) = some 9 := by kernel_rfl
set_option maxRecDepth 100000 in
set_option maxHeartbeats 4000000 in
theorem eqfQ (n n' : Nat) (it it' : Nat → Nat → D) (R : Nat → Bool) (hit : ∀ i, i < n → i < n' → CmpR 34 9 (R i) (it i) (it' i)) (w : World) (c d : Value) (h : At w (.list 9 n it) c) (h' : At w (.list 9 n' it') d) :
    Calls Tryz.prog 33 #[c, d, .func (.func 34) #[] #[]] w fun e w' => e = .returned (.bool (n == n' && allB R n)) ∧ Below w.heap.size w w' := by
  have HI := Lib.hid h
  have HI' := Lib.hid h'
  obtain ⟨A, cap, rfl, hm⟩ := h.slice
  obtain ⟨A', cap', rfl, hm'⟩ := h'.slice
  clear h h'
  unfold maxLen at hm hm'
  obtain ⟨S, hS⟩ : ∃ S, (n == n' && allB R n) = S := ⟨_, rfl⟩
  rw [hS]
  have HS := Lib.hid hS
  clear hS
  have HIT := Lib.hid hit
  clear hit
  have eg := enterQ
  by_cases hnn : n = n'
  case neg =>
    have hq := int_ne hnn
    obtain rfl : S = false := by rw [← HS.out, nat_ne hnn]; simp
    go_enter Tryz.func33, Tryz.ntmps33
    go_wp2
    go_ret
    exact ⟨rfl, Below.refl _ _⟩
  subst hnn
  go_enter Tryz.func33, Tryz.ntmps33
  go_wp2
  go_loopw [17] (fun i wr => ∃ k : Nat, k ≤ n ∧ i = .int .i64 k ∧ Below w.heap.size w wr ∧ ∀ j, j < k → R j = true) (fun i _ => n - (intOf i).toNat)
  case atStart => exact ⟨0, Nat.zero_le _, rfl, Below.refl _ _, fun j hj => absurd hj (Nat.not_lt_zero _)⟩
  case round =>
    obtain ⟨p, hp, rfl, hbel, hsame⟩ := hrel
    have HSi := Lib.hid hsame
    clear hsame
    by_cases hlt : p < n
    case neg =>
      obtain rfl : p = n := by omega
      obtain rfl : S = true := by rw [← HS.out, allB_yes HSi.out]; simp
      go_wp2
      go_ret
      exact ⟨rfl, hbel⟩
    have hk0 : (0 : Int) ≤ (p : Int) := by omega
    have hk1 : (p : Int) < (n : Int) := by omega
    obtain ⟨b, o, e2, hf⟩ := (At.below hbel _ HI.out).nth hlt
    subst e2
    obtain ⟨b', o', e2, hf'⟩ := (At.below hbel _ HI'.out).nth hlt
    subst e2
    obtain ⟨cs, hcl, hcs⟩ := row_of hf
    obtain ⟨ds, hdl, hds⟩ := row_of hf'
    clear hf hf'
    have HC := Lib.hid (fun j v (hv : cs[j]? = some v) => (hcs j v hv).1)
    have HD := Lib.hid (fun (ob : Obj) j v (hv : ds[j]? = some v) => ((below_alloc wr ob).cell (World.block_lt_of_cell? wr _ (hds j v hv).1)).trans (hds j v hv).1)
    have HO1 := Lib.hid (all_one (fun j v hv => (hcs j v hv).2))
    have HO2 := Lib.hid (all_one (fun j v hv => (hds j v hv).2))
    have HZ1 := Lib.hid (show (Tryz.prog.info? 79).map (·.size) = some cs.length by rw [hcl]; exact sizeQ)
    have HZ2 := Lib.hid (show (Tryz.prog.info? 79).map (·.size) = some ds.length by rw [hdl]; exact sizeQ)
    have HL1 := Lib.hid (show 9 = cs.toArray.size by simp [hcl])
    have HL2 := Lib.hid (show 9 = ds.toArray.size by simp [hdl])
    obtain ⟨x, hx⟩ : ∃ x, R p = x := ⟨_, rfl⟩
    have hcl2 := fun (X : World) (hX : Below wr.heap.size wr X) => HIT.out p hlt hlt X cs ds hcl hdl (atl_below hX fun j v hv => (hcs j v hv).2) (atl_below hX fun j v hv => (hds j v hv).2)
    rw [hx] at hcl2
    have HCL := Lib.hid hcl2
    clear hcl2 hcs hds hcl hdl
    have HX := Lib.hid hx
    clear hx
    go_wp2_with (first | refine wpList_load_cells rfl 79 _ rfl b (o + p * 9) rfl cs _ HC.out Tryz.underlying79 rfl HZ1.out ?_ | refine wpList_load_cells rfl 79 _ rfl b' (o' + p * 9) rfl ds _ (HD.out _) Tryz.underlying79 rfl HZ2.out ?_ | refine wpList_store_new rfl 79 _ _ rfl _ rfl cs.toArray _ rfl rfl HZ1.out HL1.out HO1.out ?_ | refine wpList_store_new rfl 79 _ _ rfl _ (sizeNew wr _) ds.toArray _ rfl rfl HZ2.out HL2.out HO2.out ?_ | refine wpList_load_row rfl 79 _ rfl wr.heap.size rfl 79 cs.toArray _ _ (twoNew wr _ _).1 Tryz.underlying79 rfl HZ1.out ?_ | refine wpList_load_row rfl 79 _ rfl (wr.heap.size + 1) rfl 79 ds.toArray _ _ (twoNew wr _ _).2.1 Tryz.underlying79 rfl HZ2.out ?_)
    refine (HCL.out _ (twoNew wr _ _).2.2).mono ?_
    rintro e w1 ⟨rfl, hb1⟩
    have hb2 := below_trans (twoNew wr _ _).2.2 hb1
    cases x with
    | false =>
      obtain rfl : S = false := by rw [← HS.out, allB_no hlt HX.out]; simp
      go_wp2
      go_ret
      exact ⟨rfl, below_trans hbel hb2⟩
    | true =>
      have HY := Lib.hid (yes_step HSi.out HX.out)
      go_wp2
      go_roundw
      case rel => exact ⟨p + 1, by omega, by go_num, below_trans hbel hb2, HY.out⟩
      case measure => simp [intOf]; omega

theorem eqFQ {d d' : D} (h : Sh d (.lst .vardef)) (h' : Sh d' (.lst .vardef)) (hz : sz d ≤ 1048576) : CmpF 33 34 d d' := by
  obtain ⟨n, it, rfl, hs⟩ := h.lst
  obtain ⟨n', it', rfl, hs'⟩ := h'.lst
  intro w c c' hc hc'
  have e := eqfQ n n' it it' (fun i => smR 9 (it i) (it' i)) (fun i hi hi' => varI (hs i hi) (hs' i hi') (by have := sz_row (W := 9) (it := it) hi; have hz : sz (.list 9 n it) ≤ 1048576 := hz; omega)) w c c' hc hc'
  rw [← sm_list 9 9 n n' it it'] at e
  exact e

end Dc
end Go.Proofs.YtngfhncdmlpjiaaGreat
