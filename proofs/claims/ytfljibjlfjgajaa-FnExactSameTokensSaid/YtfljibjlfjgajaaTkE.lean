/- What is proved: slices.EqualFunc over tokens. (Made of tpl/DcPe1.) -/
import Derived.Test.YtfljibjlfjgajaaDcA
namespace Go.Proofs.Ytfljibjlfjgajaa
namespace Dc
set_option linter.unusedVariables false
set_option linter.unusedSimpArgs false
open Go.RowKit Da
attribute [local go_sem ↓] Go.wp_at_zero Go.wp_at_succ

theorem enterT : ∀ args w, (callFunc 20 args).run Try.prog w = .ok (.enter 20 args) w := enters_of Try.func20 (by kernel_rfl) rfl
theorem sizeT : (Try.prog.info? 26).map (·.size) = some 3 := by kernel_rfl
set_option maxRecDepth 100000 in
set_option maxHeartbeats 4000000 in
theorem eqfT (n n' : Nat) (it it' : Nat → Nat → D) (R : Nat → Bool) (hit : ∀ i, i < n → i < n' → CmpR 20 3 (R i) (it i) (it' i)) (w : World) (c d : Value) (h : At w (.list 3 n it) c) (h' : At w (.list 3 n' it') d) :
    Calls Try.prog 19 #[c, d, .func (.func 20) #[] #[]] w fun e w' => e = .returned (.bool (n == n' && allB R n)) ∧ Below w.heap.size w w' := by
  have HI := Lib.hid h
  have HI' := Lib.hid h'
  obtain ⟨A, cap, rfl, hm⟩ := h.slice
  obtain ⟨A', cap', rfl, hm'⟩ := h'.slice
  clear h h'
  unfold maxLen at hm hm'
  obtain ⟨S, hS⟩ : ∃ S, (n == n' && allB R n) = S := ⟨_, rfl⟩
  rw [hS]
  have HS := Lib.hid hS
  clear hS
  have HIT := Lib.hid hit
  clear hit
  have eg := enterT
  by_cases hnn : n = n'
  case neg =>
    have hq := int_ne hnn
    obtain rfl : S = false := by rw [← HS.out, nat_ne hnn]; simp
    go_enter Try.func19, Try.ntmps19
    go_wp2
    go_ret
    exact ⟨rfl, Below.refl _ _⟩
  subst hnn
  go_enter Try.func19, Try.ntmps19
  go_wp2
  go_loopw [17] (fun i wr => ∃ k : Nat, k ≤ n ∧ i = .int .i64 k ∧ Below w.heap.size w wr ∧ ∀ j, j < k → R j = true) (fun i _ => n - (intOf i).toNat)
  case atStart => exact ⟨0, Nat.zero_le _, rfl, Below.refl _ _, fun j hj => absurd hj (Nat.not_lt_zero _)⟩
  case round =>
    obtain ⟨p, hp, rfl, hbel, hsame⟩ := hrel
    have HSi := Lib.hid hsame
    clear hsame
    by_cases hlt : p < n
    case neg =>
      obtain rfl : p = n := by omega
      obtain rfl : S = true := by rw [← HS.out, allB_yes HSi.out]; simp
      go_wp2
      go_ret
      exact ⟨rfl, hbel⟩
    have hk0 : (0 : Int) ≤ (p : Int) := by omega
    have hk1 : (p : Int) < (n : Int) := by omega
    obtain ⟨b, o, e2, hf⟩ := (At.below hbel _ HI.out).nth hlt
    subst e2
    obtain ⟨b', o', e2, hf'⟩ := (At.below hbel _ HI'.out).nth hlt
    subst e2
    obtain ⟨cs, hcl, hcs⟩ := row_of hf
    obtain ⟨ds, hdl, hds⟩ := row_of hf'
    clear hf hf'
    have HC := Lib.hid (fun j v (hv : cs[j]? = some v) => (hcs j v hv).1)
    have HD := Lib.hid (fun (ob : Obj) j v (hv : ds[j]? = some v) => ((below_alloc wr ob).cell (World.block_lt_of_cell? wr _ (hds j v hv).1)).trans (hds j v hv).1)
    have HO1 := Lib.hid (all_one (fun j v hv => (hcs j v hv).2))
    have HO2 := Lib.hid (all_one (fun j v hv => (hds j v hv).2))
    have HZ1 := Lib.hid (show (Try.prog.info? 26).map (·.size) = some cs.length by rw [hcl]; exact sizeT)
    have HZ2 := Lib.hid (show (Try.prog.info? 26).map (·.size) = some ds.length by rw [hdl]; exact sizeT)
    have HL1 := Lib.hid (show 3 = cs.toArray.size by simp [hcl])
    have HL2 := Lib.hid (show 3 = ds.toArray.size by simp [hdl])
    obtain ⟨x, hx⟩ : ∃ x, R p = x := ⟨_, rfl⟩
    have hcl2 := fun (X : World) (hX : Below wr.heap.size wr X) => HIT.out p hlt hlt X cs ds hcl hdl (atl_below hX fun j v hv => (hcs j v hv).2) (atl_below hX fun j v hv => (hds j v hv).2)
    rw [hx] at hcl2
    have HCL := Lib.hid hcl2
    clear hcl2 hcs hds hcl hdl
    have HX := Lib.hid hx
    clear hx
    go_wp2_with (first | refine wpList_load_cells rfl 26 _ rfl b (o + p * 3) rfl cs _ HC.out Try.underlying26 rfl HZ1.out ?_ | refine wpList_load_cells rfl 26 _ rfl b' (o' + p * 3) rfl ds _ (HD.out _) Try.underlying26 rfl HZ2.out ?_ | refine wpList_store_new rfl 26 _ _ rfl _ rfl cs.toArray _ rfl rfl HZ1.out HL1.out HO1.out ?_ | refine wpList_store_new rfl 26 _ _ rfl _ (sizeNew wr _) ds.toArray _ rfl rfl HZ2.out HL2.out HO2.out ?_ | refine wpList_load_row rfl 26 _ rfl wr.heap.size rfl 26 cs.toArray _ _ (twoNew wr _ _).1 Try.underlying26 rfl HZ1.out ?_ | refine wpList_load_row rfl 26 _ rfl (wr.heap.size + 1) rfl 26 ds.toArray _ _ (twoNew wr _ _).2.1 Try.underlying26 rfl HZ2.out ?_)
    refine (HCL.out _ (twoNew wr _ _).2.2).mono ?_
    rintro e w1 ⟨rfl, hb1⟩
    have hb2 := below_trans (twoNew wr _ _).2.2 hb1
    cases x with
    | false =>
      obtain rfl : S = false := by rw [← HS.out, allB_no hlt HX.out]; simp
      go_wp2
      go_ret
      exact ⟨rfl, below_trans hbel hb2⟩
    | true =>
      have HY := Lib.hid (yes_step HSi.out HX.out)
      go_wp2
      go_roundw
      case rel => exact ⟨p + 1, by omega, by go_num, below_trans hbel hb2, HY.out⟩
      case measure => simp [intOf]; omega

end Dc
end Go.Proofs.Ytfljibjlfjgajaa
