/- What is proved: the program's SameArgs says whether two lists of names with values are the same. (Made by tools/mkdc.py.) -/
import Derived.Test.YtngfhncdmlpjiaaGreatDcPe4
namespace Go.Proofs.YtngfhncdmlpjiaaGreat
namespace Dc
set_option linter.unusedVariables false
set_option linter.unusedSimpArgs false
open Go.RowKit Da
attribute [local go_sem ↓] Go.wp_at_zero Go.wp_at_succ

set_option maxHeartbeats 4000000 in
theorem argI {r r' : Nat → D} (hs : ∀ j g, (row .arg)[j]? = some g → Sh (r j) g) (hs' : ∀ j g, (row .arg)[j]? = some g → Sh (r' j) g)
    (hz : sumTo (fun j => sz (r j)) 5 ≤ 1048576) : CmpR 114 5 (smR 5 r r') r r' := by
  intro w cs ds hcl hdl ha hb
  obtain ⟨c0, c1, c2, c3, c4, rfl⟩ := len5 hcl
  obtain ⟨d0, d1, d2, d3, d4, rfl⟩ := len5 hdl
  have a0 := ha 0 _ rfl
  have b0 := hb 0 _ rfl
  have a1 := ha 1 _ rfl
  have b1 := hb 1 _ rfl
  have a2 := ha 2 _ rfl
  have b2 := hb 2 _ rfl
  have a3 := ha 3 _ rfl
  have b3 := hb 3 _ rfl
  have a4 := ha 4 _ rfl
  have b4 := hb 4 _ rfl
  clear ha hb hcl hdl
  obtain ⟨t0, e0⟩ := (hs 0 _ rfl).str
  rw [e0] at a0
  obtain ⟨rfl, -⟩ := a0
  obtain ⟨t0', e0'⟩ := (hs' 0 _ rfl).str
  rw [e0'] at b0
  obtain ⟨rfl, -⟩ := b0
  have hrow : smR 5 r r' = ((t0.toList == t0'.toList) && smR 4 (fun i => r (i + 1)) (fun i => r' (i + 1))) := by simp only [smR, allB, Bool.true_and, Bool.and_assoc, e0, e0', sm_str]
  have HR := Lib.hid hrow
  clear hrow
  have HC1 := valueI (r := fun i => r (i + 1)) (r' := fun i => r' (i + 1)) (shl_cons (hs 1 _ rfl) (shl_cons (hs 2 _ rfl) (shl_cons (hs 3 _ rfl) (shl_cons (hs 4 _ rfl) shl_nil)))) (shl_cons (hs' 1 _ rfl) (shl_cons (hs' 2 _ rfl) (shl_cons (hs' 3 _ rfl) (shl_cons (hs' 4 _ rfl) shl_nil)))) (by simp only [sumTo] at hz; show ((((0 + sz (r 1)) + sz (r 2)) + sz (r 3)) + sz (r 4)) ≤ 1048576; omega)
  obtain ⟨x1, hx1⟩ : ∃ x, smR 4 (fun i => r (i + 1)) (fun i => r' (i + 1)) = x := ⟨_, rfl⟩
  unfold CmpR at HC1
  rw [hx1] at HR HC1
  replace HC1 := Lib.hid HC1
  obtain ⟨S, hS⟩ : ∃ S, smR 5 r r' = S := ⟨_, rfl⟩
  rw [hS]
  have HS := Lib.hid hS
  clear hS
  clear e0 e0'
  by_cases h0 : t0 = t0'
  case neg =>
    have hx := str_ne h0
    have hn : smR 5 r r' = false := by rw [HR.out, hx]; simp
    go_enter Tryz.func114, Tryz.ntmps114
    obtain rfl : S = false := HS.out.symm.trans hn
    clear hn
    go_wp2
    go_ret
    exact ⟨rfl, (twoNew w _ _).2.2⟩
  subst h0
  go_enter Tryz.func114, Tryz.ntmps114
  go_wp2_with fail
  obtain ⟨W1, hW1⟩ : ∃ W1, ((w.alloc (Obj.cells #[Value.string t0, c1, c2, c3, c4] 100)).alloc (Obj.cells #[Value.string t0, d1, d2, d3, d4] 100)) = W1 := ⟨_, rfl⟩
  have ba : Below w.heap.size w W1 := by rw [← hW1]; exact (twoNew w _ _).2.2
  have B0 : W1.heap[w.heap.size]? = some (Obj.cells #[Value.string t0, c1, c2, c3, c4] 100) := by rw [← hW1]; exact (twoNew w _ _).1
  have B1 : W1.heap[w.heap.size + 1]? = some (Obj.cells #[Value.string t0, d1, d2, d3, d4] 100) := by rw [← hW1]; exact (twoNew w _ _).2.1
  rw [hW1]
  clear hW1
  have HB0 := Lib.hid B0
  have HB1 := Lib.hid B1
  clear B0 B1
  refine (gr_call (X := (⟨W1, Below.refl _ _⟩ : Gr W1)) (HC1.out W1 [c1, c2, c3, c4] [d1, d2, d3, d4] rfl rfl (atl_below ba (atl_cons a1 (atl_cons a2 (atl_cons a3 (atl_cons a4 atl_nil))))) (atl_below ba (atl_cons b1 (atl_cons b2 (atl_cons b3 (atl_cons b4 atl_nil))))))).mono ?_
  rintro e _ ⟨rfl, X1, rfl⟩
  cases x1
  case false =>
    have hn : smR 5 r r' = false := by rw [HR.out]; simp
    obtain rfl : S = false := HS.out.symm.trans hn
    clear hn
    go_wp2
    go_ret
    exact ⟨rfl, (below_trans ba X1.below)⟩
  have hy : smR 5 r r' = true := by rw [HR.out]; simp
  obtain rfl : S = true := HS.out.symm.trans hy
  clear hy
  go_wp2
  go_ret
  exact ⟨rfl, (below_trans ba X1.below)⟩

theorem enterA : ∀ args w, (callFunc 114 args).run Tryz.prog w = .ok (.enter 114 args) w := enters_of Tryz.func114 (by kernel_rfl) rfl
theorem sizeA : (Tryz.prog.info? 100).map (·.size) = some 5 := by kernel_rfl
set_option maxRecDepth 100000 in
set_option maxHeartbeats 4000000 in
theorem eqfA (n n' : Nat) (it it' : Nat → Nat → D) (R : Nat → Bool) (hit : ∀ i, i < n → i < n' → CmpR 114 5 (R i) (it i) (it' i)) (w : World) (c d : Value) (h : At w (.list 5 n it) c) (h' : At w (.list 5 n' it') d) :
    Calls Tryz.prog 113 #[c, d, .func (.func 114) #[] #[]] w fun e w' => e = .returned (.bool (n == n' && allB R n)) ∧ Below w.heap.size w w' := by
  have HI := Lib.hid h
  have HI' := Lib.hid h'
  obtain ⟨A, cap, rfl, hm⟩ := h.slice
  obtain ⟨A', cap', rfl, hm'⟩ := h'.slice
  clear h h'
  unfold maxLen at hm hm'
  obtain ⟨S, hS⟩ : ∃ S, (n == n' && allB R n) = S := ⟨_, rfl⟩
  rw [hS]
  have HS := Lib.hid hS
  clear hS
  have HIT := Lib.hid hit
  clear hit
  have eg := enterA
  by_cases hnn : n = n'
  case neg =>
    have hq := int_ne hnn
    obtain rfl : S = false := by rw [← HS.out, nat_ne hnn]; simp
    go_enter Tryz.func113, Tryz.ntmps113
    go_wp2
    go_ret
    exact ⟨rfl, Below.refl _ _⟩
  subst hnn
  go_enter Tryz.func113, Tryz.ntmps113
  go_wp2
  go_loopw [17] (fun i wr => ∃ k : Nat, k ≤ n ∧ i = .int .i64 k ∧ Below w.heap.size w wr ∧ ∀ j, j < k → R j = true) (fun i _ => n - (intOf i).toNat)
  case atStart => exact ⟨0, Nat.zero_le _, rfl, Below.refl _ _, fun j hj => absurd hj (Nat.not_lt_zero _)⟩
  case round =>
    obtain ⟨p, hp, rfl, hbel, hsame⟩ := hrel
    have HSi := Lib.hid hsame
    clear hsame
    by_cases hlt : p < n
    case neg =>
      obtain rfl : p = n := by omega
      obtain rfl : S = true := by rw [← HS.out, allB_yes HSi.out]; simp
      go_wp2
      go_ret
      exact ⟨rfl, hbel⟩
    have hk0 : (0 : Int) ≤ (p : Int) := by omega
    have hk1 : (p : Int) < (n : Int) := by omega
    obtain ⟨b, o, e2, hf⟩ := (At.below hbel _ HI.out).nth hlt
    subst e2
    obtain ⟨b', o', e2, hf'⟩ := (At.below hbel _ HI'.out).nth hlt
    subst e2
    obtain ⟨cs, hcl, hcs⟩ := row_of hf
    obtain ⟨ds, hdl, hds⟩ := row_of hf'
    clear hf hf'
    have HC := Lib.hid (fun j v (hv : cs[j]? = some v) => (hcs j v hv).1)
    have HD := Lib.hid (fun (ob : Obj) j v (hv : ds[j]? = some v) => ((below_alloc wr ob).cell (World.block_lt_of_cell? wr _ (hds j v hv).1)).trans (hds j v hv).1)
    have HO1 := Lib.hid (all_one (fun j v hv => (hcs j v hv).2))
    have HO2 := Lib.hid (all_one (fun j v hv => (hds j v hv).2))
    have HZ1 := Lib.hid (show (Tryz.prog.info? 100).map (·.size) = some cs.length by rw [hcl]; exact sizeA)
    have HZ2 := Lib.hid (show (Tryz.prog.info? 100).map (·.size) = some ds.length by rw [hdl]; exact sizeA)
    have HL1 := Lib.hid (show 5 = cs.toArray.size by simp [hcl])
    have HL2 := Lib.hid (show 5 = ds.toArray.size by simp [hdl])
    obtain ⟨x, hx⟩ : ∃ x, R p = x := ⟨_, rfl⟩
    have hcl2 := fun (X : World) (hX : Below wr.heap.size wr X) => HIT.out p hlt hlt X cs ds hcl hdl (atl_below hX fun j v hv => (hcs j v hv).2) (atl_below hX fun j v hv => (hds j v hv).2)
    rw [hx] at hcl2
    have HCL := Lib.hid hcl2
    clear hcl2 hcs hds hcl hdl
    have HX := Lib.hid hx
    clear hx
    go_wp2_with (first | refine wpList_load_cells rfl 100 _ rfl b (o + p * 5) rfl cs _ HC.out Tryz.underlying100 rfl HZ1.out ?_ | refine wpList_load_cells rfl 100 _ rfl b' (o' + p * 5) rfl ds _ (HD.out _) Tryz.underlying100 rfl HZ2.out ?_ | refine wpList_store_new rfl 100 _ _ rfl _ rfl cs.toArray _ rfl rfl HZ1.out HL1.out HO1.out ?_ | refine wpList_store_new rfl 100 _ _ rfl _ (sizeNew wr _) ds.toArray _ rfl rfl HZ2.out HL2.out HO2.out ?_ | refine wpList_load_row rfl 100 _ rfl wr.heap.size rfl 100 cs.toArray _ _ (twoNew wr _ _).1 Tryz.underlying100 rfl HZ1.out ?_ | refine wpList_load_row rfl 100 _ rfl (wr.heap.size + 1) rfl 100 ds.toArray _ _ (twoNew wr _ _).2.1 Tryz.underlying100 rfl HZ2.out ?_)
    refine (HCL.out _ (twoNew wr _ _).2.2).mono ?_
    rintro e w1 ⟨rfl, hb1⟩
    have hb2 := below_trans (twoNew wr _ _).2.2 hb1
    cases x with
    | false =>
      obtain rfl : S = false := by rw [← HS.out, allB_no hlt HX.out]; simp
      go_wp2
      go_ret
      exact ⟨rfl, below_trans hbel hb2⟩
    | true =>
      have HY := Lib.hid (yes_step HSi.out HX.out)
      go_wp2
      go_roundw
      case rel => exact ⟨p + 1, by omega, by go_num, below_trans hbel hb2, HY.out⟩
      case measure => simp [intOf]; omega

theorem eqFA {d d' : D} (h : Sh d (.lst .arg)) (h' : Sh d' (.lst .arg)) (hz : sz d ≤ 1048576) : CmpF 113 114 d d' := by
  obtain ⟨n, it, rfl, hs⟩ := h.lst
  obtain ⟨n', it', rfl, hs'⟩ := h'.lst
  intro w c c' hc hc'
  have e := eqfA n n' it it' (fun i => smR 5 (it i) (it' i)) (fun i hi hi' => argI (hs i hi) (hs' i hi') (by have := sz_row (W := 5) (it := it) hi; have hz : sz (.list 5 n it) ≤ 1048576 := hz; omega)) w c c' hc hc'
  rw [← sm_list 5 5 n n' it it'] at e
  exact e

set_option maxHeartbeats 4000000 in
theorem argsI {d d' : D} (h : Sh d (.lst .arg)) (h' : Sh d' (.lst .arg)) (hz : sz d ≤ 1048576) : CmpL 96 d d' := by
  intro w c c' hc hc'
  have cE := eqFA h h' hz w c c' hc hc'
  obtain ⟨A, n, cap, rfl⟩ := atLst hc h
  obtain ⟨A', n', cap', rfl⟩ := atLst hc' h'
  obtain ⟨S, hS⟩ : ∃ S, sm d d' = S := ⟨_, rfl⟩
  rw [hS] at cE ⊢
  clear hS
  go_enter Tryz.func96, Tryz.ntmps96
  go_wp2_with fail
  refine cE.mono ?_
  rintro e w1 ⟨rfl, hb1⟩
  go_wp2
  go_ret
  exact ⟨rfl, hb1⟩

end Dc
end Go.Proofs.YtngfhncdmlpjiaaGreat
