/- What is proved: the program's tests of two lists of fields, of values of enums and of roots say whether they are the same. (Made by tools/mkdc.py.) -/
import Derived.Test.YtngfhncdmlpjiaaGreatDcPi
namespace Go.Proofs.YtngfhncdmlpjiaaGreat
namespace Dc
set_option linter.unusedVariables false
set_option linter.unusedSimpArgs false
open Go.RowKit Da
attribute [local go_sem ↓] Go.wp_at_zero Go.wp_at_succ

set_option maxHeartbeats 4000000 in
theorem fieldI {r r' : Nat → D} (hs : ∀ j g, (row .fielddef)[j]? = some g → Sh (r j) g) (hs' : ∀ j g, (row .fielddef)[j]? = some g → Sh (r' j) g)
    (hz : sumTo (fun j => sz (r j)) 6 ≤ 1048576) : CmpR 65 6 (smR 6 r r') r r' := by
  intro w cs ds hcl hdl ha hb
  obtain ⟨c0, c1, c2, c3, c4, c5, rfl⟩ := lnB6 hcl
  obtain ⟨d0, d1, d2, d3, d4, d5, rfl⟩ := lnB6 hdl
  have a0 := ha 0 _ rfl
  have b0 := hb 0 _ rfl
  have a1 := ha 1 _ rfl
  have b1 := hb 1 _ rfl
  have a2 := ha 2 _ rfl
  have b2 := hb 2 _ rfl
  have a3 := ha 3 _ rfl
  have b3 := hb 3 _ rfl
  have a4 := ha 4 _ rfl
  have b4 := hb 4 _ rfl
  have a5 := ha 5 _ rfl
  have b5 := hb 5 _ rfl
  clear ha hb hcl hdl
  obtain ⟨t0, e0⟩ := (hs 0 _ rfl).str
  rw [e0] at a0
  obtain ⟨rfl, -⟩ := a0
  obtain ⟨t0', e0'⟩ := (hs' 0 _ rfl).str
  rw [e0'] at b0
  obtain ⟨rfl, -⟩ := b0
  obtain ⟨t1, e1⟩ := (hs 1 _ rfl).str
  rw [e1] at a1
  obtain ⟨rfl, -⟩ := a1
  obtain ⟨t1', e1'⟩ := (hs' 1 _ rfl).str
  rw [e1'] at b1
  obtain ⟨rfl, -⟩ := b1
  obtain ⟨t3, e3⟩ := (hs 3 _ rfl).str
  rw [e3] at a3
  obtain ⟨rfl, -⟩ := a3
  obtain ⟨t3', e3'⟩ := (hs' 3 _ rfl).str
  rw [e3'] at b3
  obtain ⟨rfl, -⟩ := b3
  obtain ⟨t4, e4⟩ := (hs 4 _ rfl).str
  rw [e4] at a4
  obtain ⟨rfl, -⟩ := a4
  obtain ⟨t4', e4'⟩ := (hs' 4 _ rfl).str
  rw [e4'] at b4
  obtain ⟨rfl, -⟩ := b4
  have hrow : smR 6 r r' = ((t0.toList == t0'.toList) && ((t1.toList == t1'.toList) && (sm (r 2) (r' 2) && ((t3.toList == t3'.toList) && ((t4.toList == t4'.toList) && sm (r 5) (r' 5)))))) := by simp only [smR, allB, Bool.true_and, Bool.and_assoc, e0, e0', e1, e1', e3, e3', e4, e4', sm_str]
  have HR := Lib.hid hrow
  clear hrow
  have HC2 := eqFI (hs 2 _ rfl) (hs' 2 _ rfl) (by simp only [sumTo] at hz; omega)
  obtain ⟨x2, hx2⟩ : ∃ x, sm (r 2) (r' 2) = x := ⟨_, rfl⟩
  unfold CmpF at HC2
  rw [hx2] at HR HC2
  replace HC2 := Lib.hid HC2
  have HC5 := dirsI (hs 5 _ rfl) (hs' 5 _ rfl) (by simp only [sumTo] at hz; omega)
  obtain ⟨x5, hx5⟩ : ∃ x, sm (r 5) (r' 5) = x := ⟨_, rfl⟩
  unfold CmpL at HC5
  rw [hx5] at HR HC5
  replace HC5 := Lib.hid HC5
  obtain ⟨S, hS⟩ : ∃ S, smR 6 r r' = S := ⟨_, rfl⟩
  rw [hS]
  have HS := Lib.hid hS
  clear hS
  clear e0 e0' e1 e1' e3 e3' e4 e4'
  by_cases h0 : t0 = t0'
  case neg =>
    have hx := str_ne h0
    have hn : smR 6 r r' = false := by rw [HR.out, hx]; simp
    go_enter Tryz.func65, Tryz.ntmps65
    obtain rfl : S = false := HS.out.symm.trans hn
    clear hn
    go_wp2
    go_ret
    exact ⟨rfl, (twoNew w _ _).2.2⟩
  subst h0
  by_cases h1 : t1 = t1'
  case neg =>
    have hx := str_ne h1
    have hn : smR 6 r r' = false := by rw [HR.out, hx]; simp
    go_enter Tryz.func65, Tryz.ntmps65
    obtain rfl : S = false := HS.out.symm.trans hn
    clear hn
    go_wp2
    go_ret
    exact ⟨rfl, (twoNew w _ _).2.2⟩
  subst h1
  go_enter Tryz.func65, Tryz.ntmps65
  go_wp2_with fail
  obtain ⟨W1, hW1⟩ : ∃ W1, ((w.alloc (Obj.cells #[Value.string t0, Value.string t1, c2, Value.string t3, Value.string t4, c5] 89)).alloc (Obj.cells #[Value.string t0, Value.string t1, d2, Value.string t3', Value.string t4', d5] 89)) = W1 := ⟨_, rfl⟩
  have ba : Below w.heap.size w W1 := by rw [← hW1]; exact (twoNew w _ _).2.2
  have B0 : W1.heap[w.heap.size]? = some (Obj.cells #[Value.string t0, Value.string t1, c2, Value.string t3, Value.string t4, c5] 89) := by rw [← hW1]; exact (twoNew w _ _).1
  have B1 : W1.heap[w.heap.size + 1]? = some (Obj.cells #[Value.string t0, Value.string t1, d2, Value.string t3', Value.string t4', d5] 89) := by rw [← hW1]; exact (twoNew w _ _).2.1
  rw [hW1]
  clear hW1
  have P3 := fun X : Gr W1 => X.cell (show W1.cell? ⟨w.heap.size, 3, none⟩ = some (Value.string t3) by rw [cellOf B0]; rfl)
  have Q3 := fun X : Gr W1 => X.cell (show W1.cell? ⟨w.heap.size + 1, 3, none⟩ = some (Value.string t3') by rw [cellOf B1]; rfl)
  have P4 := fun X : Gr W1 => X.cell (show W1.cell? ⟨w.heap.size, 4, none⟩ = some (Value.string t4) by rw [cellOf B0]; rfl)
  have Q4 := fun X : Gr W1 => X.cell (show W1.cell? ⟨w.heap.size + 1, 4, none⟩ = some (Value.string t4') by rw [cellOf B1]; rfl)
  have P5 := fun X : Gr W1 => X.cell (show W1.cell? ⟨w.heap.size, 5, none⟩ = some (c5) by rw [cellOf B0]; rfl)
  have Q5 := fun X : Gr W1 => X.cell (show W1.cell? ⟨w.heap.size + 1, 5, none⟩ = some (d5) by rw [cellOf B1]; rfl)
  have HB0 := Lib.hid B0
  have HB1 := Lib.hid B1
  clear B0 B1
  refine (gr_call (X := (⟨W1, Below.refl _ _⟩ : Gr W1)) (HC2.out W1 _ _ (At.below ba _ a2) (At.below ba _ b2))).mono ?_
  rintro e _ ⟨rfl, X2, rfl⟩
  cases x2
  case false =>
    have hn : smR 6 r r' = false := by rw [HR.out]; simp
    obtain rfl : S = false := HS.out.symm.trans hn
    clear hn
    go_wp2
    go_ret
    exact ⟨rfl, (below_trans ba X2.below)⟩
  by_cases h3 : t3 = t3'
  case neg =>
    have hx := str_ne h3
    have hn : smR 6 r r' = false := by rw [HR.out, hx]; simp
    obtain rfl : S = false := HS.out.symm.trans hn
    clear hn
    go_wp2
    go_ret
    exact ⟨rfl, (below_trans ba X2.below)⟩
  subst h3
  by_cases h4 : t4 = t4'
  case neg =>
    have hx := str_ne h4
    have hn : smR 6 r r' = false := by rw [HR.out, hx]; simp
    obtain rfl : S = false := HS.out.symm.trans hn
    clear hn
    go_wp2
    go_ret
    exact ⟨rfl, (below_trans ba X2.below)⟩
  subst h4
  go_wp2_with fail
  refine (gr_call (X := X2) (HC5.out X2.W _ _ (At.below (below_trans ba X2.below) _ a5) (At.below (below_trans ba X2.below) _ b5))).mono ?_
  rintro e _ ⟨rfl, X5, rfl⟩
  cases x5
  case false =>
    have hn : smR 6 r r' = false := by rw [HR.out]; simp
    obtain rfl : S = false := HS.out.symm.trans hn
    clear hn
    go_wp2
    go_ret
    exact ⟨rfl, (below_trans ba X5.below)⟩
  have hy : smR 6 r r' = true := by rw [HR.out]; simp
  obtain rfl : S = true := HS.out.symm.trans hy
  clear hy
  go_wp2
  go_ret
  exact ⟨rfl, (below_trans ba X5.below)⟩

theorem enterF : ∀ args w, (callFunc 65 args).run Tryz.prog w = .ok (.enter 65 args) w := enters_of Tryz.func65 (by kernel_rfl) rfl
theorem sizeF : (Tryz.prog.info? 89).map (·.size) = some 6 := by kernel_rfl
set_option maxRecDepth 100000 in
set_option maxHeartbeats 4000000 in
theorem eqfF (n n' : Nat) (it it' : Nat → Nat → D) (R : Nat → Bool) (hit : ∀ i, i < n → i < n' → CmpR 65 6 (R i) (it i) (it' i)) (w : World) (c d : Value) (h : At w (.list 6 n it) c) (h' : At w (.list 6 n' it') d) :
    Calls Tryz.prog 64 #[c, d, .func (.func 65) #[] #[]] w fun e w' => e = .returned (.bool (n == n' && allB R n)) ∧ Below w.heap.size w w' := by
  have HI := Lib.hid h
  have HI' := Lib.hid h'
  obtain ⟨A, cap, rfl, hm⟩ := h.slice
  obtain ⟨A', cap', rfl, hm'⟩ := h'.slice
  clear h h'
  unfold maxLen at hm hm'
  obtain ⟨S, hS⟩ : ∃ S, (n == n' && allB R n) = S := ⟨_, rfl⟩
  rw [hS]
  have HS := Lib.hid hS
  clear hS
  have HIT := Lib.hid hit
  clear hit
  have eg := enterF
  by_cases hnn : n = n'
  case neg =>
    have hq := int_ne hnn
    obtain rfl : S = false := by rw [← HS.out, nat_ne hnn]; simp
    go_enter Tryz.func64, Tryz.ntmps64
    go_wp2
    go_ret
    exact ⟨rfl, Below.refl _ _⟩
  subst hnn
  go_enter Tryz.func64, Tryz.ntmps64
  go_wp2
  go_loopw [17] (fun i wr => ∃ k : Nat, k ≤ n ∧ i = .int .i64 k ∧ Below w.heap.size w wr ∧ ∀ j, j < k → R j = true) (fun i _ => n - (intOf i).toNat)
  case atStart => exact ⟨0, Nat.zero_le _, rfl, Below.refl _ _, fun j hj => absurd hj (Nat.not_lt_zero _)⟩
  case round =>
    obtain ⟨p, hp, rfl, hbel, hsame⟩ := hrel
    have HSi := Lib.hid hsame
    clear hsame
    by_cases hlt : p < n
    case neg =>
      obtain rfl : p = n := by omega
      obtain rfl : S = true := by rw [← HS.out, allB_yes HSi.out]; simp
      go_wp2
      go_ret
      exact ⟨rfl, hbel⟩
    have hk0 : (0 : Int) ≤ (p : Int) := by omega
    have hk1 : (p : Int) < (n : Int) := by omega
    obtain ⟨b, o, e2, hf⟩ := (At.below hbel _ HI.out).nth hlt
    subst e2
    obtain ⟨b', o', e2, hf'⟩ := (At.below hbel _ HI'.out).nth hlt
    subst e2
    obtain ⟨cs, hcl, hcs⟩ := row_of hf
    obtain ⟨ds, hdl, hds⟩ := row_of hf'
    clear hf hf'
    have HC := Lib.hid (fun j v (hv : cs[j]? = some v) => (hcs j v hv).1)
    have HD := Lib.hid (fun (ob : Obj) j v (hv : ds[j]? = some v) => ((below_alloc wr ob).cell (World.block_lt_of_cell? wr _ (hds j v hv).1)).trans (hds j v hv).1)
    have HO1 := Lib.hid (all_one (fun j v hv => (hcs j v hv).2))
    have HO2 := Lib.hid (all_one (fun j v hv => (hds j v hv).2))
    have HZ1 := Lib.hid (show (Tryz.prog.info? 89).map (·.size) = some cs.length by rw [hcl]; exact sizeF)
    have HZ2 := Lib.hid (show (Tryz.prog.info? 89).map (·.size) = some ds.length by rw [hdl]; exact sizeF)
    have HL1 := Lib.hid (show 6 = cs.toArray.size by simp [hcl])
    have HL2 := Lib.hid (show 6 = ds.toArray.size by simp [hdl])
    obtain ⟨x, hx⟩ : ∃ x, R p = x := ⟨_, rfl⟩
    have hcl2 := fun (X : World) (hX : Below wr.heap.size wr X) => HIT.out p hlt hlt X cs ds hcl hdl (atl_below hX fun j v hv => (hcs j v hv).2) (atl_below hX fun j v hv => (hds j v hv).2)
    rw [hx] at hcl2
    have HCL := Lib.hid hcl2
    clear hcl2 hcs hds hcl hdl
    have HX := Lib.hid hx
    clear hx
    go_wp2_with (first | refine wpList_load_cells rfl 89 _ rfl b (o + p * 6) rfl cs _ HC.out Tryz.underlying89 rfl HZ1.out ?_ | refine wpList_load_cells rfl 89 _ rfl b' (o' + p * 6) rfl ds _ (HD.out _) Tryz.underlying89 rfl HZ2.out ?_ | refine wpList_store_new rfl 89 _ _ rfl _ rfl cs.toArray _ rfl rfl HZ1.out HL1.out HO1.out ?_ | refine wpList_store_new rfl 89 _ _ rfl _ (sizeNew wr _) ds.toArray _ rfl rfl HZ2.out HL2.out HO2.out ?_ | refine wpList_load_row rfl 89 _ rfl wr.heap.size rfl 89 cs.toArray _ _ (twoNew wr _ _).1 Tryz.underlying89 rfl HZ1.out ?_ | refine wpList_load_row rfl 89 _ rfl (wr.heap.size + 1) rfl 89 ds.toArray _ _ (twoNew wr _ _).2.1 Tryz.underlying89 rfl HZ2.out ?_)
    refine (HCL.out _ (twoNew wr _ _).2.2).mono ?_
    rintro e w1 ⟨rfl, hb1⟩
    have hb2 := below_trans (twoNew wr _ _).2.2 hb1
    cases x with
    | false =>
      obtain rfl : S = false := by rw [← HS.out, allB_no hlt HX.out]; simp
      go_wp2
      go_ret
      exact ⟨rfl, below_trans hbel hb2⟩
    | true =>
      have HY := Lib.hid (yes_step HSi.out HX.out)
      go_wp2
      go_roundw
      case rel => exact ⟨p + 1, by omega, by go_num, below_trans hbel hb2, HY.out⟩
      case measure => simp [intOf]; omega

theorem eqFF {d d' : D} (h : Sh d (.lst .fielddef)) (h' : Sh d' (.lst .fielddef)) (hz : sz d ≤ 1048576) : CmpF 64 65 d d' := by
  obtain ⟨n, it, rfl, hs⟩ := h.lst
  obtain ⟨n', it', rfl, hs'⟩ := h'.lst
  intro w c c' hc hc'
  have e := eqfF n n' it it' (fun i => smR 6 (it i) (it' i)) (fun i hi hi' => fieldI (hs i hi) (hs' i hi') (by have := sz_row (W := 6) (it := it) hi; have hz : sz (.list 6 n it) ≤ 1048576 := hz; omega)) w c c' hc hc'
  rw [← sm_list 6 6 n n' it it'] at e
  exact e

set_option maxHeartbeats 4000000 in
theorem choiceI {r r' : Nat → D} (hs : ∀ j g, (row .enumdef)[j]? = some g → Sh (r j) g) (hs' : ∀ j g, (row .enumdef)[j]? = some g → Sh (r' j) g)
    (hz : sumTo (fun j => sz (r j)) 3 ≤ 1048576) : CmpR 69 3 (smR 3 r r') r r' := by
  intro w cs ds hcl hdl ha hb
  obtain ⟨c0, c1, c2, rfl⟩ := lnB3 hcl
  obtain ⟨d0, d1, d2, rfl⟩ := lnB3 hdl
  have a0 := ha 0 _ rfl
  have b0 := hb 0 _ rfl
  have a1 := ha 1 _ rfl
  have b1 := hb 1 _ rfl
  have a2 := ha 2 _ rfl
  have b2 := hb 2 _ rfl
  clear ha hb hcl hdl
  obtain ⟨t0, e0⟩ := (hs 0 _ rfl).str
  rw [e0] at a0
  obtain ⟨rfl, -⟩ := a0
  obtain ⟨t0', e0'⟩ := (hs' 0 _ rfl).str
  rw [e0'] at b0
  obtain ⟨rfl, -⟩ := b0
  obtain ⟨t1, e1⟩ := (hs 1 _ rfl).str
  rw [e1] at a1
  obtain ⟨rfl, -⟩ := a1
  obtain ⟨t1', e1'⟩ := (hs' 1 _ rfl).str
  rw [e1'] at b1
  obtain ⟨rfl, -⟩ := b1
  have hrow : smR 3 r r' = ((t0.toList == t0'.toList) && ((t1.toList == t1'.toList) && sm (r 2) (r' 2))) := by simp only [smR, allB, Bool.true_and, Bool.and_assoc, e0, e0', e1, e1', sm_str]
  have HR := Lib.hid hrow
  clear hrow
  have HC2 := dirsI (hs 2 _ rfl) (hs' 2 _ rfl) (by simp only [sumTo] at hz; omega)
  obtain ⟨x2, hx2⟩ : ∃ x, sm (r 2) (r' 2) = x := ⟨_, rfl⟩
  unfold CmpL at HC2
  rw [hx2] at HR HC2
  replace HC2 := Lib.hid HC2
  obtain ⟨S, hS⟩ : ∃ S, smR 3 r r' = S := ⟨_, rfl⟩
  rw [hS]
  have HS := Lib.hid hS
  clear hS
  clear e0 e0' e1 e1'
  by_cases h0 : t0 = t0'
  case neg =>
    have hx := str_ne h0
    have hn : smR 3 r r' = false := by rw [HR.out, hx]; simp
    go_enter Tryz.func69, Tryz.ntmps69
    obtain rfl : S = false := HS.out.symm.trans hn
    clear hn
    go_wp2
    go_ret
    exact ⟨rfl, (twoNew w _ _).2.2⟩
  subst h0
  by_cases h1 : t1 = t1'
  case neg =>
    have hx := str_ne h1
    have hn : smR 3 r r' = false := by rw [HR.out, hx]; simp
    go_enter Tryz.func69, Tryz.ntmps69
    obtain rfl : S = false := HS.out.symm.trans hn
    clear hn
    go_wp2
    go_ret
    exact ⟨rfl, (twoNew w _ _).2.2⟩
  subst h1
  go_enter Tryz.func69, Tryz.ntmps69
  go_wp2_with fail
  obtain ⟨W1, hW1⟩ : ∃ W1, ((w.alloc (Obj.cells #[Value.string t0, Value.string t1, c2] 91)).alloc (Obj.cells #[Value.string t0, Value.string t1, d2] 91)) = W1 := ⟨_, rfl⟩
  have ba : Below w.heap.size w W1 := by rw [← hW1]; exact (twoNew w _ _).2.2
  have B0 : W1.heap[w.heap.size]? = some (Obj.cells #[Value.string t0, Value.string t1, c2] 91) := by rw [← hW1]; exact (twoNew w _ _).1
  have B1 : W1.heap[w.heap.size + 1]? = some (Obj.cells #[Value.string t0, Value.string t1, d2] 91) := by rw [← hW1]; exact (twoNew w _ _).2.1
  rw [hW1]
  clear hW1
  have HB0 := Lib.hid B0
  have HB1 := Lib.hid B1
  clear B0 B1
  refine (gr_call (X := (⟨W1, Below.refl _ _⟩ : Gr W1)) (HC2.out W1 _ _ (At.below ba _ a2) (At.below ba _ b2))).mono ?_
  rintro e _ ⟨rfl, X2, rfl⟩
  cases x2
  case false =>
    have hn : smR 3 r r' = false := by rw [HR.out]; simp
    obtain rfl : S = false := HS.out.symm.trans hn
    clear hn
    go_wp2
    go_ret
    exact ⟨rfl, (below_trans ba X2.below)⟩
  have hy : smR 3 r r' = true := by rw [HR.out]; simp
  obtain rfl : S = true := HS.out.symm.trans hy
  clear hy
  go_wp2
  go_ret
  exact ⟨rfl, (below_trans ba X2.below)⟩

theorem enterE : ∀ args w, (callFunc 69 args).run Tryz.prog w = .ok (.enter 69 args) w := enters_of Tryz.func69 (by kernel_rfl) rfl
theorem sizeE : (Tryz.prog.info? 91).map (·.size) = some 3 := by kernel_rfl
set_option maxRecDepth 100000 in
set_option maxHeartbeats 4000000 in
theorem eqfE (n n' : Nat) (it it' : Nat → Nat → D) (R : Nat → Bool) (hit : ∀ i, i < n → i < n' → CmpR 69 3 (R i) (it i) (it' i)) (w : World) (c d : Value) (h : At w (.list 3 n it) c) (h' : At w (.list 3 n' it') d) :
    Calls Tryz.prog 68 #[c, d, .func (.func 69) #[] #[]] w fun e w' => e = .returned (.bool (n == n' && allB R n)) ∧ Below w.heap.size w w' := by
  have HI := Lib.hid h
  have HI' := Lib.hid h'
  obtain ⟨A, cap, rfl, hm⟩ := h.slice
  obtain ⟨A', cap', rfl, hm'⟩ := h'.slice
  clear h h'
  unfold maxLen at hm hm'
  obtain ⟨S, hS⟩ : ∃ S, (n == n' && allB R n) = S := ⟨_, rfl⟩
  rw [hS]
  have HS := Lib.hid hS
  clear hS
  have HIT := Lib.hid hit
  clear hit
  have eg := enterE
  by_cases hnn : n = n'
  case neg =>
    have hq := int_ne hnn
    obtain rfl : S = false := by rw [← HS.out, nat_ne hnn]; simp
    go_enter Tryz.func68, Tryz.ntmps68
    go_wp2
    go_ret
    exact ⟨rfl, Below.refl _ _⟩
  subst hnn
  go_enter Tryz.func68, Tryz.ntmps68
  go_wp2
  go_loopw [17] (fun i wr => ∃ k : Nat, k ≤ n ∧ i = .int .i64 k ∧ Below w.heap.size w wr ∧ ∀ j, j < k → R j = true) (fun i _ => n - (intOf i).toNat)
  case atStart => exact ⟨0, Nat.zero_le _, rfl, Below.refl _ _, fun j hj => absurd hj (Nat.not_lt_zero _)⟩
  case round =>
    obtain ⟨p, hp, rfl, hbel, hsame⟩ := hrel
    have HSi := Lib.hid hsame
    clear hsame
    by_cases hlt : p < n
    case neg =>
      obtain rfl : p = n := by omega
      obtain rfl : S = true := by rw [← HS.out, allB_yes HSi.out]; simp
      go_wp2
      go_ret
      exact ⟨rfl, hbel⟩
    have hk0 : (0 : Int) ≤ (p : Int) := by omega
    have hk1 : (p : Int) < (n : Int) := by omega
    obtain ⟨b, o, e2, hf⟩ := (At.below hbel _ HI.out).nth hlt
    subst e2
    obtain ⟨b', o', e2, hf'⟩ := (At.below hbel _ HI'.out).nth hlt
    subst e2
    obtain ⟨cs, hcl, hcs⟩ := row_of hf
    obtain ⟨ds, hdl, hds⟩ := row_of hf'
    clear hf hf'
    have HC := Lib.hid (fun j v (hv : cs[j]? = some v) => (hcs j v hv).1)
    have HD := Lib.hid (fun (ob : Obj) j v (hv : ds[j]? = some v) => ((below_alloc wr ob).cell (World.block_lt_of_cell? wr _ (hds j v hv).1)).trans (hds j v hv).1)
    have HO1 := Lib.hid (all_one (fun j v hv => (hcs j v hv).2))
    have HO2 := Lib.hid (all_one (fun j v hv => (hds j v hv).2))
    have HZ1 := Lib.hid (show (Tryz.prog.info? 91).map (·.size) = some cs.length by rw [hcl]; exact sizeE)
    have HZ2 := Lib.hid (show (Tryz.prog.info? 91).map (·.size) = some ds.length by rw [hdl]; exact sizeE)
    have HL1 := Lib.hid (show 3 = cs.toArray.size by simp [hcl])
    have HL2 := Lib.hid (show 3 = ds.toArray.size by simp [hdl])
    obtain ⟨x, hx⟩ : ∃ x, R p = x := ⟨_, rfl⟩
    have hcl2 := fun (X : World) (hX : Below wr.heap.size wr X) => HIT.out p hlt hlt X cs ds hcl hdl (atl_below hX fun j v hv => (hcs j v hv).2) (atl_below hX fun j v hv => (hds j v hv).2)
    rw [hx] at hcl2
    have HCL := Lib.hid hcl2
    clear hcl2 hcs hds hcl hdl
    have HX := Lib.hid hx
    clear hx
    go_wp2_with (first | refine wpList_load_cells rfl 91 _ rfl b (o + p * 3) rfl cs _ HC.out Tryz.underlying91 rfl HZ1.out ?_ | refine wpList_load_cells rfl 91 _ rfl b' (o' + p * 3) rfl ds _ (HD.out _) Tryz.underlying91 rfl HZ2.out ?_ | refine wpList_store_new rfl 91 _ _ rfl _ rfl cs.toArray _ rfl rfl HZ1.out HL1.out HO1.out ?_ | refine wpList_store_new rfl 91 _ _ rfl _ (sizeNew wr _) ds.toArray _ rfl rfl HZ2.out HL2.out HO2.out ?_ | refine wpList_load_row rfl 91 _ rfl wr.heap.size rfl 91 cs.toArray _ _ (twoNew wr _ _).1 Tryz.underlying91 rfl HZ1.out ?_ | refine wpList_load_row rfl 91 _ rfl (wr.heap.size + 1) rfl 91 ds.toArray _ _ (twoNew wr _ _).2.1 Tryz.underlying91 rfl HZ2.out ?_)
    refine (HCL.out _ (twoNew wr _ _).2.2).mono ?_
    rintro e w1 ⟨rfl, hb1⟩
    have hb2 := below_trans (twoNew wr _ _).2.2 hb1
    cases x with
    | false =>
      obtain rfl : S = false := by rw [← HS.out, allB_no hlt HX.out]; simp
      go_wp2
      go_ret
      exact ⟨rfl, below_trans hbel hb2⟩
    | true =>
      have HY := Lib.hid (yes_step HSi.out HX.out)
      go_wp2
      go_roundw
      case rel => exact ⟨p + 1, by omega, by go_num, below_trans hbel hb2, HY.out⟩
      case measure => simp [intOf]; omega

theorem eqFE {d d' : D} (h : Sh d (.lst .enumdef)) (h' : Sh d' (.lst .enumdef)) (hz : sz d ≤ 1048576) : CmpF 68 69 d d' := by
  obtain ⟨n, it, rfl, hs⟩ := h.lst
  obtain ⟨n', it', rfl, hs'⟩ := h'.lst
  intro w c c' hc hc'
  have e := eqfE n n' it it' (fun i => smR 3 (it i) (it' i)) (fun i hi hi' => choiceI (hs i hi) (hs' i hi') (by have := sz_row (W := 3) (it := it) hi; have hz : sz (.list 3 n it) ≤ 1048576 := hz; omega)) w c c' hc hc'
  rw [← sm_list 3 3 n n' it it'] at e
  exact e

set_option maxHeartbeats 4000000 in
theorem rootsI {d d' : D} (h : Sh d (.lst .root)) (h' : Sh d' (.lst .root)) : CmpL 70 d d' := by
  obtain ⟨n, it, rfl, hs⟩ := h.lst
  obtain ⟨n', it', rfl, hs'⟩ := h'.lst
  intro w c d h h'
  have h : At w (.list 2 n it) c := h
  have h' : At w (.list 2 n' it') d := h'
  have HI := Lib.hid h
  have HI' := Lib.hid h'
  obtain ⟨A, cap, rfl, hm⟩ := h.slice
  obtain ⟨A', cap', rfl, hm'⟩ := h'.slice
  clear h h'
  unfold maxLen at hm hm'
  obtain ⟨S, hS⟩ : ∃ S, sm (.list 2 n it) (.list 2 n' it') = S := ⟨_, rfl⟩
  show Calls Tryz.prog 70 _ w fun e w' => e = .returned (.bool (sm (.list 2 n it) (.list 2 n' it'))) ∧ _
  rw [hS]
  rw [sm_list] at hS
  have HS := Lib.hid hS
  clear hS
  by_cases hnn : n = n'
  case neg =>
    have hq := int_ne hnn
    obtain rfl : S = false := by rw [← HS.out, nat_ne hnn]; simp
    go_enter Tryz.func70, Tryz.ntmps70
    go_wp2
    go_ret
    exact ⟨rfl, Below.refl _ _⟩
  subst hnn
  go_enter Tryz.func70, Tryz.ntmps70
  go_wp2
  go_loopw [13] (fun i wr => ∃ k : Nat, k ≤ n ∧ i = .int .i64 k ∧ Below w.heap.size w wr ∧ ∀ j, j < k → smR 2 (it j) (it' j) = true) (fun i _ => n - (intOf i).toNat)
  case atStart => exact ⟨0, Nat.zero_le _, rfl, Below.refl _ _, fun j hj => absurd hj (Nat.not_lt_zero _)⟩
  case round =>
    obtain ⟨p, hp, rfl, hbel, hsame⟩ := hrel
    have HSi := Lib.hid hsame
    clear hsame
    by_cases hlt : p < n
    case neg =>
      obtain rfl : p = n := by omega
      obtain rfl : S = true := by rw [← HS.out, allB_yes HSi.out]; simp
      go_wp2
      go_ret
      exact ⟨rfl, hbel⟩
    have hk0 : (0 : Int) ≤ (p : Int) := by omega
    have hk1 : (p : Int) < (n : Int) := by omega
    obtain ⟨b, o, e2, hf⟩ := (At.below hbel _ HI.out).nth hlt
    subst e2
    obtain ⟨b', o', e2, hf'⟩ := (At.below hbel _ HI'.out).nth hlt
    subst e2
    obtain ⟨c0, c1, ⟨f0, a0⟩, ⟨f1, a1⟩⟩ := two hf
    obtain ⟨d0, d1, ⟨g0, b0⟩, ⟨g1, b1⟩⟩ := two hf'
    clear hf hf'
    rw [Nat.add_zero] at f0 g0
    obtain ⟨k0, e0⟩ := (hs p hlt 0 _ rfl).int
    rw [e0] at a0
    obtain rfl : c0 = Value.int .i64 k0 := a0
    obtain ⟨k0', e0'⟩ := (hs' p hlt 0 _ rfl).int
    rw [e0'] at b0
    obtain rfl : d0 = Value.int .i64 k0' := b0
    obtain ⟨t1, e1⟩ := (hs p hlt 1 _ rfl).str
    rw [e1] at a1
    obtain ⟨rfl, -⟩ := a1
    obtain ⟨t1', e1'⟩ := (hs' p hlt 1 _ rfl).str
    rw [e1'] at b1
    obtain ⟨rfl, -⟩ := b1
    have hrow : smR 2 (it p) (it' p) = ((k0 == k0') && (t1.toList == t1'.toList)) := by simp only [smR, allB, Bool.true_and, e0, e0', e1, e1', sm_int, sm_str]
    have HR := Lib.hid hrow
    clear hrow
    have F0 := fun X : Gr wr => X.cell f0
    have G0 := fun X : Gr wr => X.cell g0
    have F1 := fun X : Gr wr => X.cell f1
    have G1 := fun X : Gr wr => X.cell g1
    clear e0 e0' e1 e1' f0 g0 f1 g1
    by_cases h0 : k0 = k0'
    case neg =>
      have hx : (k0 == k0') = false := by simp [h0]
      have hn : smR 2 (it p) (it' p) = false := by rw [HR.out, hx]; simp
      obtain rfl : S = false := by rw [← HS.out, allB_no (f := fun i => smR 2 (it i) (it' i)) hlt hn]; simp
      clear hn
      go_wp2
      refine wp_region_gr (by kernel_rfl) (by kernel_rfl) ?_
      repeat (go_big_quiet_step (fail))
      refine wpQuiet_nil ?_
      intro X
      go_wp2
      go_ret
      exact ⟨rfl, below_trans hbel X.below⟩
    subst h0
    by_cases h1 : t1 = t1'
    case neg =>
      have hx := str_ne h1
      have hn : smR 2 (it p) (it' p) = false := by rw [HR.out, hx]; simp
      obtain rfl : S = false := by rw [← HS.out, allB_no (f := fun i => smR 2 (it i) (it' i)) hlt hn]; simp
      clear hn
      go_wp2
      refine wp_region_gr (by kernel_rfl) (by kernel_rfl) ?_
      repeat (go_big_quiet_step (fail))
      refine wpQuiet_nil ?_
      intro X
      go_wp2
      go_ret
      exact ⟨rfl, below_trans hbel X.below⟩
    subst h1
    have HY := Lib.hid (yes_step HSi.out (show smR 2 (it p) (it' p) = true by rw [HR.out]; simp))
    go_wp2
    refine wp_region_gr (by kernel_rfl) (by kernel_rfl) ?_
    repeat (go_big_quiet_step (fail))
    refine wpQuiet_nil ?_
    intro X
    go_wp2
    go_roundw
    case rel => exact ⟨p + 1, by omega, by go_num, below_trans hbel X.below, HY.out⟩
    case measure => simp [intOf]; omega

end Dc
end Go.Proofs.YtngfhncdmlpjiaaGreat
