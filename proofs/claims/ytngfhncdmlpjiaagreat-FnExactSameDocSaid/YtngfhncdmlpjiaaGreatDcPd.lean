/- What is proved: the program's test of two lists of directives says whether they are the same. (Made by tools/mkdc.py.) -/
import Derived.Test.YtngfhncdmlpjiaaGreatDcPa
namespace Go.Proofs.YtngfhncdmlpjiaaGreat
namespace Dc
set_option linter.unusedVariables false
set_option linter.unusedSimpArgs false
open Go.RowKit Da
attribute [local go_sem ↓] Go.wp_at_zero Go.wp_at_succ

set_option maxHeartbeats 4000000 in
theorem dirI {r r' : Nat → D} (hs : ∀ j g, (row .dir)[j]? = some g → Sh (r j) g) (hs' : ∀ j g, (row .dir)[j]? = some g → Sh (r' j) g)
    (hz : sumTo (fun j => sz (r j)) 2 ≤ 1048576) : CmpR 59 2 (smR 2 r r') r r' := by
  intro w cs ds hcl hdl ha hb
  obtain ⟨c0, c1, rfl⟩ := len2 hcl
  obtain ⟨d0, d1, rfl⟩ := len2 hdl
  have a0 := ha 0 _ rfl
  have b0 := hb 0 _ rfl
  have a1 := ha 1 _ rfl
  have b1 := hb 1 _ rfl
  clear ha hb hcl hdl
  obtain ⟨t0, e0⟩ := (hs 0 _ rfl).str
  rw [e0] at a0
  obtain ⟨rfl, -⟩ := a0
  obtain ⟨t0', e0'⟩ := (hs' 0 _ rfl).str
  rw [e0'] at b0
  obtain ⟨rfl, -⟩ := b0
  have hrow : smR 2 r r' = ((t0.toList == t0'.toList) && sm (r 1) (r' 1)) := by simp only [smR, allB, Bool.true_and, e0, e0', sm_str]
  have HR := Lib.hid hrow
  clear hrow
  have HC1 := argsI (hs 1 _ rfl) (hs' 1 _ rfl) (by simp only [sumTo] at hz; omega)
  obtain ⟨x1, hx1⟩ : ∃ x, sm (r 1) (r' 1) = x := ⟨_, rfl⟩
  unfold CmpL at HC1
  rw [hx1] at HR HC1
  replace HC1 := Lib.hid HC1
  obtain ⟨S, hS⟩ : ∃ S, smR 2 r r' = S := ⟨_, rfl⟩
  rw [hS]
  have HS := Lib.hid hS
  clear hS
  clear e0 e0'
  by_cases h0 : t0 = t0'
  case neg =>
    have hx := str_ne h0
    have hn : smR 2 r r' = false := by rw [HR.out, hx]; simp
    go_enter Tryz.func59, Tryz.ntmps59
    obtain rfl : S = false := HS.out.symm.trans hn
    clear hn
    go_wp2
    go_ret
    exact ⟨rfl, (twoNew w _ _).2.2⟩
  subst h0
  go_enter Tryz.func59, Tryz.ntmps59
  go_wp2_with fail
  obtain ⟨W1, hW1⟩ : ∃ W1, ((w.alloc (Obj.cells #[Value.string t0, c1] 83)).alloc (Obj.cells #[Value.string t0, d1] 83)) = W1 := ⟨_, rfl⟩
  have ba : Below w.heap.size w W1 := by rw [← hW1]; exact (twoNew w _ _).2.2
  have B0 : W1.heap[w.heap.size]? = some (Obj.cells #[Value.string t0, c1] 83) := by rw [← hW1]; exact (twoNew w _ _).1
  have B1 : W1.heap[w.heap.size + 1]? = some (Obj.cells #[Value.string t0, d1] 83) := by rw [← hW1]; exact (twoNew w _ _).2.1
  rw [hW1]
  clear hW1
  have HB0 := Lib.hid B0
  have HB1 := Lib.hid B1
  clear B0 B1
  refine (gr_call (X := (⟨W1, Below.refl _ _⟩ : Gr W1)) (HC1.out W1 _ _ (At.below ba _ a1) (At.below ba _ b1))).mono ?_
  rintro e _ ⟨rfl, X1, rfl⟩
  cases x1
  case false =>
    have hn : smR 2 r r' = false := by rw [HR.out]; simp
    obtain rfl : S = false := HS.out.symm.trans hn
    clear hn
    go_wp2
    go_ret
    exact ⟨rfl, (below_trans ba X1.below)⟩
  have hy : smR 2 r r' = true := by rw [HR.out]; simp
  obtain rfl : S = true := HS.out.symm.trans hy
  clear hy
  go_wp2
  go_ret
  exact ⟨rfl, (below_trans ba X1.below)⟩

theorem enterD : ∀ args w, (callFunc 59 args).run Tryz.prog w = .ok (.enter 59 args) w := enters_of Tryz.func59 (by kernel_rfl) rfl
theorem sizeD : (Tryz.prog.info? 83).map (·.size) = some 2 := by kernel_rfl
set_option maxRecDepth 100000 in
set_option maxHeartbeats 4000000 in
theorem eqfD (n n' : Nat) (it it' : Nat → Nat → D) (R : Nat → Bool) (hit : ∀ i, i < n → i < n' → CmpR 59 2 (R i) (it i) (it' i)) (w : World) (c d : Value) (h : At w (.list 2 n it) c) (h' : At w (.list 2 n' it') d) :
    Calls Tryz.prog 58 #[c, d, .func (.func 59) #[] #[]] w fun e w' => e = .returned (.bool (n == n' && allB R n)) ∧ Below w.heap.size w w' := by
  have HI := Lib.hid h
  have HI' := Lib.hid h'
  obtain ⟨A, cap, rfl, hm⟩ := h.slice
  obtain ⟨A', cap', rfl, hm'⟩ := h'.slice
  clear h h'
  unfold maxLen at hm hm'
  obtain ⟨S, hS⟩ : ∃ S, (n == n' && allB R n) = S := ⟨_, rfl⟩
  rw [hS]
  have HS := Lib.hid hS
  clear hS
  have HIT := Lib.hid hit
  clear hit
  have eg := enterD
  by_cases hnn : n = n'
  case neg =>
    have hq := int_ne hnn
    obtain rfl : S = false := by rw [← HS.out, nat_ne hnn]; simp
    go_enter Tryz.func58, Tryz.ntmps58
    go_wp2
    go_ret
    exact ⟨rfl, Below.refl _ _⟩
  subst hnn
  go_enter Tryz.func58, Tryz.ntmps58
  go_wp2
  go_loopw [17] (fun i wr => ∃ k : Nat, k ≤ n ∧ i = .int .i64 k ∧ Below w.heap.size w wr ∧ ∀ j, j < k → R j = true) (fun i _ => n - (intOf i).toNat)
  case atStart => exact ⟨0, Nat.zero_le _, rfl, Below.refl _ _, fun j hj => absurd hj (Nat.not_lt_zero _)⟩
  case round =>
    obtain ⟨p, hp, rfl, hbel, hsame⟩ := hrel
    have HSi := Lib.hid hsame
    clear hsame
    by_cases hlt : p < n
    case neg =>
      obtain rfl : p = n := by omega
      obtain rfl : S = true := by rw [← HS.out, allB_yes HSi.out]; simp
      go_wp2
      go_ret
      exact ⟨rfl, hbel⟩
    have hk0 : (0 : Int) ≤ (p : Int) := by omega
    have hk1 : (p : Int) < (n : Int) := by omega
    obtain ⟨b, o, e2, hf⟩ := (At.below hbel _ HI.out).nth hlt
    subst e2
    obtain ⟨b', o', e2, hf'⟩ := (At.below hbel _ HI'.out).nth hlt
    subst e2
    obtain ⟨cs, hcl, hcs⟩ := row_of hf
    obtain ⟨ds, hdl, hds⟩ := row_of hf'
    clear hf hf'
    have HC := Lib.hid (fun j v (hv : cs[j]? = some v) => (hcs j v hv).1)
    have HD := Lib.hid (fun (ob : Obj) j v (hv : ds[j]? = some v) => ((below_alloc wr ob).cell (World.block_lt_of_cell? wr _ (hds j v hv).1)).trans (hds j v hv).1)
    have HO1 := Lib.hid (all_one (fun j v hv => (hcs j v hv).2))
    have HO2 := Lib.hid (all_one (fun j v hv => (hds j v hv).2))
    have HZ1 := Lib.hid (show (Tryz.prog.info? 83).map (·.size) = some cs.length by rw [hcl]; exact sizeD)
    have HZ2 := Lib.hid (show (Tryz.prog.info? 83).map (·.size) = some ds.length by rw [hdl]; exact sizeD)
    have HL1 := Lib.hid (show 2 = cs.toArray.size by simp [hcl])
    have HL2 := Lib.hid (show 2 = ds.toArray.size by simp [hdl])
    obtain ⟨x, hx⟩ : ∃ x, R p = x := ⟨_, rfl⟩
    have hcl2 := fun (X : World) (hX : Below wr.heap.size wr X) => HIT.out p hlt hlt X cs ds hcl hdl (atl_below hX fun j v hv => (hcs j v hv).2) (atl_below hX fun j v hv => (hds j v hv).2)
    rw [hx] at hcl2
    have HCL := Lib.hid hcl2
    clear hcl2 hcs hds hcl hdl
    have HX := Lib.hid hx
    clear hx
    go_wp2_with (first | refine wpList_load_cells rfl 83 _ rfl b (o + p * 2) rfl cs _ HC.out Tryz.underlying83 rfl HZ1.out ?_ | refine wpList_load_cells rfl 83 _ rfl b' (o' + p * 2) rfl ds _ (HD.out _) Tryz.underlying83 rfl HZ2.out ?_ | refine wpList_store_new rfl 83 _ _ rfl _ rfl cs.toArray _ rfl rfl HZ1.out HL1.out HO1.out ?_ | refine wpList_store_new rfl 83 _ _ rfl _ (sizeNew wr _) ds.toArray _ rfl rfl HZ2.out HL2.out HO2.out ?_ | refine wpList_load_row rfl 83 _ rfl wr.heap.size rfl 83 cs.toArray _ _ (twoNew wr _ _).1 Tryz.underlying83 rfl HZ1.out ?_ | refine wpList_load_row rfl 83 _ rfl (wr.heap.size + 1) rfl 83 ds.toArray _ _ (twoNew wr _ _).2.1 Tryz.underlying83 rfl HZ2.out ?_)
    refine (HCL.out _ (twoNew wr _ _).2.2).mono ?_
    rintro e w1 ⟨rfl, hb1⟩
    have hb2 := below_trans (twoNew wr _ _).2.2 hb1
    cases x with
    | false =>
      obtain rfl : S = false := by rw [← HS.out, allB_no hlt HX.out]; simp
      go_wp2
      go_ret
      exact ⟨rfl, below_trans hbel hb2⟩
    | true =>
      have HY := Lib.hid (yes_step HSi.out HX.out)
      go_wp2
      go_roundw
      case rel => exact ⟨p + 1, by omega, by go_num, below_trans hbel hb2, HY.out⟩
      case measure => simp [intOf]; omega

theorem eqFD {d d' : D} (h : Sh d (.lst .dir)) (h' : Sh d' (.lst .dir)) (hz : sz d ≤ 1048576) : CmpF 58 59 d d' := by
  obtain ⟨n, it, rfl, hs⟩ := h.lst
  obtain ⟨n', it', rfl, hs'⟩ := h'.lst
  intro w c c' hc hc'
  have e := eqfD n n' it it' (fun i => smR 2 (it i) (it' i)) (fun i hi hi' => dirI (hs i hi) (hs' i hi') (by have := sz_row (W := 2) (it := it) hi; have hz : sz (.list 2 n it) ≤ 1048576 := hz; omega)) w c c' hc hc'
  rw [← sm_list 2 2 n n' it it'] at e
  exact e

set_option maxHeartbeats 4000000 in
theorem dirsI {d d' : D} (h : Sh d (.lst .dir)) (h' : Sh d' (.lst .dir)) (hz : sz d ≤ 1048576) : CmpL 35 d d' := by
  intro w c c' hc hc'
  have cE := eqFD h h' hz w c c' hc hc'
  obtain ⟨A, n, cap, rfl⟩ := atLst hc h
  obtain ⟨A', n', cap', rfl⟩ := atLst hc' h'
  obtain ⟨S, hS⟩ : ∃ S, sm d d' = S := ⟨_, rfl⟩
  rw [hS] at cE ⊢
  clear hS
  go_enter Tryz.func35, Tryz.ntmps35
  go_wp2_with fail
  refine cE.mono ?_
  rintro e w1 ⟨rfl, hb1⟩
  go_wp2
  go_ret
  exact ⟨rfl, hb1⟩

end Dc
end Go.Proofs.YtngfhncdmlpjiaaGreat
