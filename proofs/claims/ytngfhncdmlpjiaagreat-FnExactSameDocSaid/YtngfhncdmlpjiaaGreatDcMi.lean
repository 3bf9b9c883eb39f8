/- What is proved: the model's test of two lists of what is handed in says whether they are the same. (Made by tools/mkdc.py.) -/
import Derived.Test.YtngfhncdmlpjiaaGreatDcMq
namespace Go.Proofs.YtngfhncdmlpjiaaGreat
namespace Dc
set_option linter.unusedVariables false
set_option linter.unusedSimpArgs false
open Go.RowKit Da
attribute [local go_sem ↓] Go.wp_at_zero Go.wp_at_succ

set_option maxRecDepth 100000 in
set_option maxHeartbeats 4000000 in
theorem smLsIn (n n' : Nat) (it it' : Nat → Nat → D) (hs : ∀ i, i < n → ∀ j g, (row .indef)[j]? = some g → Sh (it i j) g) (hs' : ∀ i, i < n' → ∀ j g, (row .indef)[j]? = some g → Sh (it' i j) g)
     : CmpL 21 (.list 10 n it) (.list 10 n' it') := by
  intro w c d h h'
  have HI := Lib.hid h
  have HI' := Lib.hid h'
  obtain ⟨A, cap, rfl, hm⟩ := h.slice
  obtain ⟨A', cap', rfl, hm'⟩ := h'.slice
  clear h h'
  unfold maxLen at hm hm'
  obtain ⟨S, hS⟩ : ∃ S, sm (.list 10 n it) (.list 10 n' it') = S := ⟨_, rfl⟩
  rw [hS]
  rw [sm_list] at hS
  have HS := Lib.hid hS
  clear hS
  by_cases hnn : n = n'
  case neg =>
    have hq := int_ne hnn
    obtain rfl : S = false := by rw [← HS.out, nat_ne hnn]; simp
    go_enter Tryz.func21, Tryz.ntmps21
    go_wp2
    go_ret
    exact ⟨rfl, Below.refl _ _⟩
  subst hnn
  go_enter Tryz.func21, Tryz.ntmps21
  go_wp2
  go_loopw [5] (fun i wr => ∃ k : Nat, k ≤ n ∧ i = .int .i64 k ∧ Below w.heap.size w wr ∧ ∀ j, j < k → smR 10 (it j) (it' j) = true) (fun i _ => n - (intOf i).toNat)
  case atStart => exact ⟨0, Nat.zero_le _, rfl, Below.refl _ _, fun j hj => absurd hj (Nat.not_lt_zero _)⟩
  case round =>
    obtain ⟨p, hp, rfl, hbel, hsame⟩ := hrel
    have HSi := Lib.hid hsame
    clear hsame
    have bb := hbel
    by_cases hlt : p < n
    case neg =>
      obtain rfl : p = n := by omega
      obtain rfl : S = true := by rw [← HS.out, allB_yes (f := fun i => smR 10 (it i) (it' i)) HSi.out]; simp
      go_wp2
      go_ret
      exact ⟨rfl, bb⟩
    have hk0 : (0 : Int) ≤ (p : Int) := by omega
    have hk1 : (p : Int) < (n : Int) := by omega
    obtain ⟨b, o, e9, hfc⟩ := (At.below bb _ HI.out).nth hlt
    subst e9
    obtain ⟨b', o', e9, hfd⟩ := (At.below bb _ HI'.out).nth hlt
    subst e9
    obtain ⟨c0, f0, a0⟩ := hfc 0 (by omega)
    obtain ⟨c1, f1, a1⟩ := hfc 1 (by omega)
    obtain ⟨c2, f2, a2⟩ := hfc 2 (by omega)
    obtain ⟨c3, f3, a3⟩ := hfc 3 (by omega)
    obtain ⟨c4, f4, a4⟩ := hfc 4 (by omega)
    obtain ⟨c5, f5, a5⟩ := hfc 5 (by omega)
    obtain ⟨c6, f6, a6⟩ := hfc 6 (by omega)
    obtain ⟨c7, f7, a7⟩ := hfc 7 (by omega)
    obtain ⟨c8, f8, a8⟩ := hfc 8 (by omega)
    obtain ⟨c9, f9, a9⟩ := hfc 9 (by omega)
    obtain ⟨d0, g0, b0⟩ := hfd 0 (by omega)
    obtain ⟨d1, g1, b1⟩ := hfd 1 (by omega)
    obtain ⟨d2, g2, b2⟩ := hfd 2 (by omega)
    obtain ⟨d3, g3, b3⟩ := hfd 3 (by omega)
    obtain ⟨d4, g4, b4⟩ := hfd 4 (by omega)
    obtain ⟨d5, g5, b5⟩ := hfd 5 (by omega)
    obtain ⟨d6, g6, b6⟩ := hfd 6 (by omega)
    obtain ⟨d7, g7, b7⟩ := hfd 7 (by omega)
    obtain ⟨d8, g8, b8⟩ := hfd 8 (by omega)
    obtain ⟨d9, g9, b9⟩ := hfd 9 (by omega)
    clear hfc hfd
    rw [Nat.add_zero] at f0 g0
    have hsp := hs p hlt
    have hsp' := hs' p hlt
    obtain ⟨t0, e0⟩ := (hsp 0 _ rfl).str
    rw [e0] at a0
    obtain ⟨rfl, -⟩ := a0
    obtain ⟨t0', e0'⟩ := (hsp' 0 _ rfl).str
    rw [e0'] at b0
    obtain ⟨rfl, -⟩ := b0
    obtain ⟨t1, e1⟩ := (hsp 1 _ rfl).str
    rw [e1] at a1
    obtain ⟨rfl, -⟩ := a1
    obtain ⟨t1', e1'⟩ := (hsp' 1 _ rfl).str
    rw [e1'] at b1
    obtain ⟨rfl, -⟩ := b1
    obtain ⟨t2, e2⟩ := (hsp 2 _ rfl).str
    rw [e2] at a2
    obtain ⟨rfl, -⟩ := a2
    obtain ⟨t2', e2'⟩ := (hsp' 2 _ rfl).str
    rw [e2'] at b2
    obtain ⟨rfl, -⟩ := b2
    obtain ⟨t3, e3⟩ := (hsp 3 _ rfl).str
    rw [e3] at a3
    obtain ⟨rfl, -⟩ := a3
    obtain ⟨t3', e3'⟩ := (hsp' 3 _ rfl).str
    rw [e3'] at b3
    obtain ⟨rfl, -⟩ := b3
    obtain ⟨p4, e4⟩ := (hsp 4 _ rfl).bool
    rw [e4] at a4
    obtain rfl : c4 = Value.bool p4 := a4
    obtain ⟨p4', e4'⟩ := (hsp' 4 _ rfl).bool
    rw [e4'] at b4
    obtain rfl : d4 = Value.bool p4' := b4
    have hrow : smR 10 (it p) (it' p) = ((t0.toList == t0'.toList) && ((t1.toList == t1'.toList) && ((t2.toList == t2'.toList) && ((t3.toList == t3'.toList) && ((p4 == p4') && (smR 4 (fun i => it p (i + 5)) (fun i => it' p (i + 5)) && sm (it p 9) (it' p 9))))))) := by simp only [smR, allB, Bool.true_and, Bool.and_assoc, e0, e0', e1, e1', e2, e2', e3, e3', e4, e4', sm_str, sm_bool]
    have HR := Lib.hid hrow
    clear hrow
    have HC5 := smValueS (r := fun i => it p (i + 5)) (r' := fun i => it' p (i + 5)) (shl_cons (hsp 5 _ rfl) (shl_cons (hsp 6 _ rfl) (shl_cons (hsp 7 _ rfl) (shl_cons (hsp 8 _ rfl) shl_nil)))) (shl_cons (hsp' 5 _ rfl) (shl_cons (hsp' 6 _ rfl) (shl_cons (hsp' 7 _ rfl) (shl_cons (hsp' 8 _ rfl) shl_nil))))
    obtain ⟨x5, hx5⟩ : ∃ x, smR 4 (fun i => it p (i + 5)) (fun i => it' p (i + 5)) = x := ⟨_, rfl⟩
    unfold CmpR at HC5
    rw [hx5] at HR HC5
    replace HC5 := Lib.hid HC5
    have HC9 := dirsS (hsp 9 _ rfl) (hsp' 9 _ rfl)
    obtain ⟨x9, hx9⟩ : ∃ x, sm (it p 9) (it' p 9) = x := ⟨_, rfl⟩
    unfold CmpL at HC9
    rw [hx9] at HR HC9
    replace HC9 := Lib.hid HC9
    have F0 := fun X : Gr wr => X.cell f0
    have G0 := fun X : Gr wr => X.cell g0
    have F1 := fun X : Gr wr => X.cell f1
    have G1 := fun X : Gr wr => X.cell g1
    have F2 := fun X : Gr wr => X.cell f2
    have G2 := fun X : Gr wr => X.cell g2
    have F3 := fun X : Gr wr => X.cell f3
    have G3 := fun X : Gr wr => X.cell g3
    have F4 := fun X : Gr wr => X.cell f4
    have G4 := fun X : Gr wr => X.cell g4
    have F5 := fun X : Gr wr => X.cell f5
    have G5 := fun X : Gr wr => X.cell g5
    have F6 := fun X : Gr wr => X.cell f6
    have G6 := fun X : Gr wr => X.cell g6
    have F7 := fun X : Gr wr => X.cell f7
    have G7 := fun X : Gr wr => X.cell g7
    have F8 := fun X : Gr wr => X.cell f8
    have G8 := fun X : Gr wr => X.cell g8
    have F9 := fun X : Gr wr => X.cell f9
    have G9 := fun X : Gr wr => X.cell g9
    clear e0 e0' e1 e1' e2 e2' e3 e3' e4 e4' f0 g0 f1 g1 f2 g2 f3 g3 f4 g4 f5 g5 f6 g6 f7 g7 f8 g8 f9 g9
    have HK5 := Lib.hid (fun X : Gr wr => gr_call (X := X) (HC5.out X.W [c5, c6, c7, c8] [d5, d6, d7, d8] rfl rfl (atl_below X.below (atl_cons a5 (atl_cons a6 (atl_cons a7 (atl_cons a8 atl_nil))))) (atl_below X.below (atl_cons b5 (atl_cons b6 (atl_cons b7 (atl_cons b8 atl_nil)))))))
    have HK9 := Lib.hid (fun X : Gr wr => gr_call (X := X) (HC9.out X.W _ _ (At.below X.below _ a9) (At.below X.below _ b9)))
    by_cases h0 : t0 = t0'
    case neg =>
      have hx := str_ne h0
      have hn : smR 10 (it p) (it' p) = false := by rw [HR.out, hx]; simp
      obtain rfl : S = false := by rw [← HS.out, allB_no (f := fun i => smR 10 (it i) (it' i)) hlt hn]; simp
      clear hn
      go_wp2
      refine wp_region_gr (by kernel_rfl) (by kernel_rfl) ?_
      repeat (go_big_quiet_step (first | (go_at_call 19; exact HK5.out _) | (go_at_call 11; exact HK9.out _)))
      refine wpQuiet_nil ?_
      intro X
      go_wp2
      go_ret
      exact ⟨rfl, below_trans bb X.below⟩
    subst h0
    by_cases h1 : t1 = t1'
    case neg =>
      have hx := str_ne h1
      have hn : smR 10 (it p) (it' p) = false := by rw [HR.out, hx]; simp
      obtain rfl : S = false := by rw [← HS.out, allB_no (f := fun i => smR 10 (it i) (it' i)) hlt hn]; simp
      clear hn
      go_wp2
      refine wp_region_gr (by kernel_rfl) (by kernel_rfl) ?_
      repeat (go_big_quiet_step (first | (go_at_call 19; exact HK5.out _) | (go_at_call 11; exact HK9.out _)))
      refine wpQuiet_nil ?_
      intro X
      go_wp2
      go_ret
      exact ⟨rfl, below_trans bb X.below⟩
    subst h1
    by_cases h2 : t2 = t2'
    case neg =>
      have hx := str_ne h2
      have hn : smR 10 (it p) (it' p) = false := by rw [HR.out, hx]; simp
      obtain rfl : S = false := by rw [← HS.out, allB_no (f := fun i => smR 10 (it i) (it' i)) hlt hn]; simp
      clear hn
      go_wp2
      refine wp_region_gr (by kernel_rfl) (by kernel_rfl) ?_
      repeat (go_big_quiet_step (first | (go_at_call 19; exact HK5.out _) | (go_at_call 11; exact HK9.out _)))
      refine wpQuiet_nil ?_
      intro X
      go_wp2
      go_ret
      exact ⟨rfl, below_trans bb X.below⟩
    subst h2
    by_cases h3 : t3 = t3'
    case neg =>
      have hx := str_ne h3
      have hn : smR 10 (it p) (it' p) = false := by rw [HR.out, hx]; simp
      obtain rfl : S = false := by rw [← HS.out, allB_no (f := fun i => smR 10 (it i) (it' i)) hlt hn]; simp
      clear hn
      go_wp2
      refine wp_region_gr (by kernel_rfl) (by kernel_rfl) ?_
      repeat (go_big_quiet_step (first | (go_at_call 19; exact HK5.out _) | (go_at_call 11; exact HK9.out _)))
      refine wpQuiet_nil ?_
      intro X
      go_wp2
      go_ret
      exact ⟨rfl, below_trans bb X.below⟩
    subst h3
    by_cases h4 : p4 = p4'
    case neg =>
      have hx : (p4 == p4') = false := by simp [h4]
      have hn : smR 10 (it p) (it' p) = false := by rw [HR.out, hx]; simp
      obtain rfl : S = false := by rw [← HS.out, allB_no (f := fun i => smR 10 (it i) (it' i)) hlt hn]; simp
      clear hn
      go_wp2
      refine wp_region_gr (by kernel_rfl) (by kernel_rfl) ?_
      repeat (go_big_quiet_step (first | (go_at_call 19; exact HK5.out _) | (go_at_call 11; exact HK9.out _)))
      refine wpQuiet_nil ?_
      intro X
      go_wp2
      go_ret
      exact ⟨rfl, below_trans bb X.below⟩
    subst h4
    cases x5
    case false =>
      have hn : smR 10 (it p) (it' p) = false := by rw [HR.out]; simp
      obtain rfl : S = false := by rw [← HS.out, allB_no (f := fun i => smR 10 (it i) (it' i)) hlt hn]; simp
      clear hn
      go_wp2
      refine wp_region_gr (by kernel_rfl) (by kernel_rfl) ?_
      repeat (go_big_quiet_step (first | (go_at_call 19; exact HK5.out _) | (go_at_call 11; exact HK9.out _)))
      refine wpQuiet_nil ?_
      intro X
      go_wp2
      go_ret
      exact ⟨rfl, below_trans bb X.below⟩
    cases x9
    case false =>
      have hn : smR 10 (it p) (it' p) = false := by rw [HR.out]; simp
      obtain rfl : S = false := by rw [← HS.out, allB_no (f := fun i => smR 10 (it i) (it' i)) hlt hn]; simp
      clear hn
      go_wp2
      refine wp_region_gr (by kernel_rfl) (by kernel_rfl) ?_
      repeat (go_big_quiet_step (first | (go_at_call 19; exact HK5.out _) | (go_at_call 11; exact HK9.out _)))
      refine wpQuiet_nil ?_
      intro X
      go_wp2
      go_ret
      exact ⟨rfl, below_trans bb X.below⟩
    have HY := Lib.hid (yes_step HSi.out (show smR 10 (it p) (it' p) = true by rw [HR.out]; simp))
    go_wp2
    refine wp_region_gr (by kernel_rfl) (by kernel_rfl) ?_
    repeat (go_big_quiet_step (first | (go_at_call 19; exact HK5.out _) | (go_at_call 11; exact HK9.out _)))
    refine wpQuiet_nil ?_
    intro X
    go_wp2
    go_roundw
    case rel => exact ⟨p + 1, by omega, by go_num, below_trans hbel X.below, HY.out⟩
    case measure => simp [intOf]; omega

theorem insS {d d' : D} (h : Sh d (.lst .indef)) (h' : Sh d' (.lst .indef)) : CmpL 21 d d' := by
  obtain ⟨n, it, rfl, hs⟩ := h.lst
  obtain ⟨n', it', rfl, hs'⟩ := h'.lst
  exact smLsIn n n' it it' hs hs'
end Dc
end Go.Proofs.YtngfhncdmlpjiaaGreat
