/- What is proved: slices.Equal over lists of texts; the program's test whether two values are the same but for their items. (Made by tools/mkdc.py.) -/
import Derived.Test.YtngfhncdmlpjiaaDcA
namespace Go.Proofs.Ytngfhncdmlpjiaa
namespace Dc
set_option linter.unusedVariables false
open Go.RowKit Da
attribute [local go_sem ↓] Go.wp_at_zero Go.wp_at_succ

set_option maxHeartbeats 4000000 in
theorem stringsI {d d' : D} (h : Sh d (.lst .text)) (h' : Sh d' (.lst .text)) : CmpL 30 d d' := by
  obtain ⟨n, it, rfl, hs⟩ := h.lst
  obtain ⟨n', it', rfl, hs'⟩ := h'.lst
  intro w c d h h'
  have h : At w (.list 1 n it) c := h
  have h' : At w (.list 1 n' it') d := h'
  have HI := Lib.hid h
  have HI' := Lib.hid h'
  obtain ⟨A, cap, rfl, hm⟩ := h.slice
  obtain ⟨A', cap', rfl, hm'⟩ := h'.slice
  clear h h'
  unfold maxLen at hm hm'
  obtain ⟨S, hS⟩ : ∃ S, sm (.list 1 n it) (.list 1 n' it') = S := ⟨_, rfl⟩
  show Calls Try.prog 30 _ w fun e w' => e = .returned (.bool (sm (.list 1 n it) (.list 1 n' it'))) ∧ _
  rw [hS]
  rw [sm_list] at hS
  have HS := Lib.hid hS
  clear hS
  by_cases hnn : n = n'
  case neg =>
    have hq := int_ne hnn
    obtain rfl : S = false := by rw [← HS.out, nat_ne hnn]; simp
    go_enter Try.func30, Try.ntmps30
    go_wp2
    go_ret
    exact ⟨rfl, Below.refl _ _⟩
  subst hnn
  go_enter Try.func30, Try.ntmps30
  go_wp2
  go_loopw [13] (fun i wr => ∃ k : Nat, k ≤ n ∧ i = .int .i64 k ∧ Below w.heap.size w wr ∧ ∀ j, j < k → smR 1 (it j) (it' j) = true) (fun i _ => n - (intOf i).toNat)
  case atStart => exact ⟨0, Nat.zero_le _, rfl, Below.refl _ _, fun j hj => absurd hj (Nat.not_lt_zero _)⟩
  case round =>
    obtain ⟨p, hp, rfl, hbel, hsame⟩ := hrel
    have HSi := Lib.hid hsame
    clear hsame
    by_cases hlt : p < n
    case neg =>
      obtain rfl : p = n := by omega
      obtain rfl : S = true := by rw [← HS.out, allB_yes HSi.out]; simp
      go_wp2
      go_ret
      exact ⟨rfl, hbel⟩
    have hk0 : (0 : Int) ≤ (p : Int) := by omega
    have hk1 : (p : Int) < (n : Int) := by omega
    obtain ⟨b, o, e2, hf⟩ := (At.below hbel _ HI.out).nth hlt
    subst e2
    obtain ⟨b', o', e2, hf'⟩ := (At.below hbel _ HI'.out).nth hlt
    subst e2
    obtain ⟨c0, f0, a0⟩ := one hf
    obtain ⟨d0, g0, b0⟩ := one hf'
    clear hf hf'
    rw [Nat.add_zero, Nat.mul_one] at f0 g0
    obtain ⟨t0, e0⟩ := (hs p hlt 0 _ rfl).str
    rw [e0] at a0
    obtain ⟨rfl, -⟩ := a0
    obtain ⟨t0', e0'⟩ := (hs' p hlt 0 _ rfl).str
    rw [e0'] at b0
    obtain ⟨rfl, -⟩ := b0
    have hrow : smR 1 (it p) (it' p) = (t0.toList == t0'.toList) := by simp only [smR, allB, Bool.true_and, e0, e0', sm_str]
    have HR := Lib.hid hrow
    clear hrow
    have F0 := fun X : Gr wr => X.cell f0
    have G0 := fun X : Gr wr => X.cell g0
    clear e0 e0' f0 g0
    by_cases h0 : t0 = t0'
    case neg =>
      have hx := str_ne h0
      have hn : smR 1 (it p) (it' p) = false := by rw [HR.out, hx]
      obtain rfl : S = false := by rw [← HS.out, allB_no (f := fun i => smR 1 (it i) (it' i)) hlt hn]; simp
      clear hn
      go_wp2
      refine wp_region_gr (by kernel_rfl) (by kernel_rfl) ?_
      repeat (go_big_quiet_step (fail))
      refine wpQuiet_nil ?_
      intro X
      go_wp2
      go_ret
      exact ⟨rfl, below_trans hbel X.below⟩
    subst h0
    have HY := Lib.hid (yes_step HSi.out (show smR 1 (it p) (it' p) = true by rw [HR.out]; simp))
    go_wp2
    refine wp_region_gr (by kernel_rfl) (by kernel_rfl) ?_
    repeat (go_big_quiet_step (fail))
    refine wpQuiet_nil ?_
    intro X
    go_wp2
    go_roundw
    case rel => exact ⟨p + 1, by omega, by go_num, below_trans hbel X.below, HY.out⟩
    case measure => simp [intOf]; omega

set_option maxHeartbeats 4000000 in
theorem besideV {r r' : Nat → D} (hs : ∀ j g, (row .value)[j]? = some g → Sh (r j) g) (hs' : ∀ j g, (row .value)[j]? = some g → Sh (r' j) g)
     : CmpR 20 4 (smX 4 2 r r') r r' := by
  intro w cs ds hcl hdl ha hb
  obtain ⟨c0, c1, c2, c3, rfl⟩ := len4 hcl
  obtain ⟨d0, d1, d2, d3, rfl⟩ := len4 hdl
  have a0 := ha 0 _ rfl
  have b0 := hb 0 _ rfl
  have a1 := ha 1 _ rfl
  have b1 := hb 1 _ rfl
  have a2 := ha 2 _ rfl
  have b2 := hb 2 _ rfl
  have a3 := ha 3 _ rfl
  have b3 := hb 3 _ rfl
  clear ha hb hcl hdl
  obtain ⟨k0, e0⟩ := (hs 0 _ rfl).int
  rw [e0] at a0
  obtain rfl : c0 = Value.int .i64 k0 := a0
  obtain ⟨k0', e0'⟩ := (hs' 0 _ rfl).int
  rw [e0'] at b0
  obtain rfl : d0 = Value.int .i64 k0' := b0
  obtain ⟨t1, e1⟩ := (hs 1 _ rfl).str
  rw [e1] at a1
  obtain ⟨rfl, -⟩ := a1
  obtain ⟨t1', e1'⟩ := (hs' 1 _ rfl).str
  rw [e1'] at b1
  obtain ⟨rfl, -⟩ := b1
  have hrow : smX 4 2 r r' = ((k0 == k0') && ((t1.toList == t1'.toList) && (sm (r 3) (r' 3)))) := by simp only [smX, allB, Bool.true_and, Bool.and_true, Bool.false_or, Bool.true_or, Bool.and_assoc, e0, e0', e1, e1', sm_int, sm_str, Nat.reduceBEq]
  have HR := Lib.hid hrow
  clear hrow
  have HC3 := stringsI (hs 3 _ rfl) (hs' 3 _ rfl)
  obtain ⟨x3, hx3⟩ : ∃ x, sm (r 3) (r' 3) = x := ⟨_, rfl⟩
  unfold CmpL at HC3
  rw [hx3] at HR HC3
  replace HC3 := Lib.hid HC3
  obtain ⟨S, hS⟩ : ∃ S, smX 4 2 r r' = S := ⟨_, rfl⟩
  rw [hS]
  have HS := Lib.hid hS
  clear hS
  clear e0 e0' e1 e1'
  by_cases h0 : k0 = k0'
  case neg =>
    have hx : (k0 == k0') = false := by simp [h0]
    have hn : smX 4 2 r r' = false := by rw [HR.out, hx]; simp
    go_enter Try.func20, Try.ntmps20
    obtain rfl : S = false := HS.out.symm.trans hn
    clear hn
    go_wp2
    go_ret
    exact ⟨rfl, (twoNew w _ _).2.2⟩
  subst h0
  by_cases h1 : t1 = t1'
  case neg =>
    have hx := str_ne h1
    have hn : smX 4 2 r r' = false := by rw [HR.out, hx]; simp
    go_enter Try.func20, Try.ntmps20
    obtain rfl : S = false := HS.out.symm.trans hn
    clear hn
    go_wp2
    go_ret
    exact ⟨rfl, (twoNew w _ _).2.2⟩
  subst h1
  go_enter Try.func20, Try.ntmps20
  go_wp2_with fail
  obtain ⟨W1, hW1⟩ : ∃ W1, ((w.alloc (Obj.cells #[Value.int .i64 k0, Value.string t1, c2, c3] 30)).alloc (Obj.cells #[Value.int .i64 k0, Value.string t1, d2, d3] 30)) = W1 := ⟨_, rfl⟩
  have ba : Below w.heap.size w W1 := by rw [← hW1]; exact (twoNew w _ _).2.2
  have B0 : W1.heap[w.heap.size]? = some (Obj.cells #[Value.int .i64 k0, Value.string t1, c2, c3] 30) := by rw [← hW1]; exact (twoNew w _ _).1
  have B1 : W1.heap[w.heap.size + 1]? = some (Obj.cells #[Value.int .i64 k0, Value.string t1, d2, d3] 30) := by rw [← hW1]; exact (twoNew w _ _).2.1
  rw [hW1]
  clear hW1
  have HB0 := Lib.hid B0
  have HB1 := Lib.hid B1
  clear B0 B1
  refine (gr_call (X := (⟨W1, Below.refl _ _⟩ : Gr W1)) (HC3.out W1 _ _ (At.below ba _ a3) (At.below ba _ b3))).mono ?_
  rintro e _ ⟨rfl, X3, rfl⟩
  cases x3
  case false =>
    have hn : smX 4 2 r r' = false := by rw [HR.out]; simp
    obtain rfl : S = false := HS.out.symm.trans hn
    clear hn
    go_wp2
    go_ret
    exact ⟨rfl, (below_trans ba X3.below)⟩
  have hy : smX 4 2 r r' = true := by rw [HR.out]; simp
  obtain rfl : S = true := HS.out.symm.trans hy
  clear hy
  go_wp2
  go_ret
  exact ⟨rfl, (below_trans ba X3.below)⟩

end Dc
end Go.Proofs.Ytngfhncdmlpjiaa
