/- What is proved: the model's tests of values, of lists of names with values and of directives say whether they are the same. -/
import Derived.Test.YtngfhncdmlpjiaaGreatDcA
namespace Go.Proofs.YtngfhncdmlpjiaaGreat
namespace Dc
set_option linter.unusedVariables false
set_option linter.unusedSimpArgs false
open Go.RowKit Da
attribute [local go_sem ↓] Go.wp_at_zero Go.wp_at_succ

set_option maxHeartbeats 4000000 in
theorem smLsArg (n n' : Nat) (it it' : Nat → Nat → D) (hs : ∀ i, i < n → ∀ j g, (row .arg)[j]? = some g → Sh (it i j) g) (hs' : ∀ i, i < n' → ∀ j g, (row .arg)[j]? = some g → Sh (it' i j) g)
    (hv : ∀ i, i < n → i < n' → CmpR 19 4 (smR 4 (fun j => it i (j + 1)) fun j => it' i (j + 1)) (fun j => it i (j + 1)) fun j => it' i (j + 1)) :
    CmpL 20 (.list 5 n it) (.list 5 n' it') := by
  intro w c d h h'
  have HI := Lib.hid h
  have HI' := Lib.hid h'
  obtain ⟨A, cap, rfl, hm⟩ := h.slice
  obtain ⟨A', cap', rfl, hm'⟩ := h'.slice
  clear h h'
  unfold maxLen at hm hm'
  obtain ⟨S, hS⟩ : ∃ S, sm (.list 5 n it) (.list 5 n' it') = S := ⟨_, rfl⟩
  rw [hS]
  rw [sm_list] at hS
  have HS := Lib.hid hS
  clear hS
  go_enter Tryz.func20, Tryz.ntmps20
  go_wp2
  go_loopw [5] (fun i wr => ∃ k : Nat, k ≤ n ∧ k ≤ n' ∧ i = .int .i64 k ∧ Below w.heap.size w wr ∧ ∀ j, j < k → smR 5 (it j) (it' j) = true) (fun i _ => n - (intOf i).toNat)
  case atStart => exact ⟨0, Nat.zero_le _, Nat.zero_le _, rfl, Below.refl _ _, fun j hj => absurd hj (Nat.not_lt_zero _)⟩
  case round =>
    obtain ⟨p, hp, hp', rfl, hbel, hsame⟩ := hrel
    have HSi := Lib.hid hsame
    clear hsame
    by_cases hlt : p < n
    case neg =>
      obtain rfl : p = n := by omega
      by_cases hnn : p = n'
      · subst hnn
        obtain rfl : S = true := by rw [← HS.out, allB_yes HSi.out]; simp
        go_wp2
        go_ret
        exact ⟨rfl, hbel⟩
      · have hq : ((p : Int) == (n' : Int)) = false := by simp; omega
        obtain rfl : S = false := by rw [← HS.out]; simp [hnn]
        go_wp2
        go_ret
        exact ⟨rfl, hbel⟩
    by_cases hlt' : p < n'
    case neg =>
      obtain rfl : p = n' := by omega
      have hnn : ¬ n = p := by omega
      have hq : ((n : Int) == (p : Int)) = false := by simp; omega
      have hk1 : (p : Int) < (n : Int) := by omega
      obtain rfl : S = false := by rw [← HS.out]; simp [hnn]
      go_wp2
      go_ret
      exact ⟨rfl, hbel⟩
    have hk0 : (0 : Int) ≤ (p : Int) := by omega
    have hk1 : (p : Int) < (n : Int) := by omega
    have hk2 : (p : Int) < (n' : Int) := by omega
    obtain ⟨b, o, e2, hf⟩ := (At.below hbel _ HI.out).nth hlt
    subst e2
    obtain ⟨c0, c1, c2, c3, c4, ⟨f0, a0⟩, ⟨f1, a1⟩, ⟨f2, a2⟩, ⟨f3, a3⟩, ⟨f4, a4⟩⟩ := five hf
    obtain ⟨b', o', e2, hf'⟩ := (At.below hbel _ HI'.out).nth hlt'
    subst e2
    obtain ⟨d0, d1, d2, d3, d4, ⟨g0, b0⟩, ⟨g1, b1⟩, ⟨g2, b2⟩, ⟨g3, b3⟩, ⟨g4, b4⟩⟩ := five hf'
    clear hf hf'
    rw [Nat.add_zero] at f0 g0
    obtain ⟨u, hu⟩ := (hs p hlt 0 _ rfl).str
    obtain ⟨u', hu'⟩ := (hs' p hlt' 0 _ rfl).str
    rw [hu] at a0
    rw [hu'] at b0
    obtain ⟨rfl, -⟩ := a0
    obtain ⟨rfl, -⟩ := b0
    have hrow : smR 5 (it p) (it' p) = ((u.toList == u'.toList) && smR 4 (fun j => it p (j + 1)) fun j => it' p (j + 1)) := by
      simp only [smR, allB, hu, hu', sm_str, Bool.true_and, Bool.and_assoc]
    have HR := Lib.hid hrow
    clear hrow hu hu'
    have F0 := fun X : Gr wr => X.cell f0
    have F1 := fun X : Gr wr => X.cell f1
    have F2 := fun X : Gr wr => X.cell f2
    have F3 := fun X : Gr wr => X.cell f3
    have F4 := fun X : Gr wr => X.cell f4
    have G0 := fun X : Gr wr => X.cell g0
    have G1 := fun X : Gr wr => X.cell g1
    have G2 := fun X : Gr wr => X.cell g2
    have G3 := fun X : Gr wr => X.cell g3
    have G4 := fun X : Gr wr => X.cell g4
    clear f0 f1 f2 f3 f4 g0 g1 g2 g3 g4
    have HC : Hid (∀ X : Gr wr, Calls Tryz.prog 19 #[.agg #[c1, c2, c3, c4], .agg #[d1, d2, d3, d4]] X.W fun e w'' => e = .returned (.bool (smR 4 (fun j => it p (j + 1)) fun j => it' p (j + 1))) ∧ ∃ m : Gr wr, w'' = m.W) := fun X =>
      gr_call (hv p hlt hlt' X.W [c1, c2, c3, c4] [d1, d2, d3, d4] rfl rfl
        (atl_below X.below (atl_cons a1 (atl_cons a2 (atl_cons a3 (atl_cons a4 atl_nil))))) (atl_below X.below (atl_cons b1 (atl_cons b2 (atl_cons b3 (atl_cons b4 atl_nil))))))
    clear a1 a2 a3 a4 b1 b2 b3 b4
    obtain ⟨x0, hx0⟩ : ∃ x, (u.toList == u'.toList) = x := ⟨_, rfl⟩
    obtain ⟨x1, hx1⟩ : ∃ x, smR 4 (fun j => it p (j + 1)) (fun j => it' p (j + 1)) = x := ⟨_, rfl⟩
    rw [hx1] at HC
    cases x0 with
    | false =>
      have hno : smR 5 (it p) (it' p) = false := by rw [HR.out, hx0]; rfl
      obtain rfl : S = false := by rw [← HS.out, allB_no hlt hno]; simp
      clear hno hx1
      go_wp2
      refine wp_region_gr (by kernel_rfl) (by kernel_rfl) ?_
      repeat (go_big_quiet_step (fail))
      refine wpQuiet_nil ?_
      intro X
      go_wp2
      go_ret
      exact ⟨rfl, below_trans hbel X.below⟩
    | true =>
      cases x1 with
      | false =>
        have hno : smR 5 (it p) (it' p) = false := by rw [HR.out, hx1]; simp
        obtain rfl : S = false := by rw [← HS.out, allB_no hlt hno]; simp
        clear hno hx1
        go_wp2
        refine wp_region_gr (by kernel_rfl) (by kernel_rfl) ?_
        repeat (go_big_quiet_step (exact HC.out _))
        refine wpQuiet_nil ?_
        intro X
        go_wp2
        go_ret
        exact ⟨rfl, below_trans hbel X.below⟩
      | true =>
        have hyes := yes_step HSi.out (show smR 5 (it p) (it' p) = true by rw [HR.out, hx0, hx1]; rfl)
        have HY := Lib.hid hyes
        clear hyes hx1
        go_wp2
        refine wp_region_gr (by kernel_rfl) (by kernel_rfl) ?_
        repeat (go_big_quiet_step (exact HC.out _))
        refine wpQuiet_nil ?_
        intro X
        go_wp2
        go_roundw
        case rel => exact ⟨p + 1, by omega, by omega, by go_num, below_trans hbel X.below, HY.out⟩
        case measure => simp [intOf]; omega
end Dc
end Go.Proofs.YtngfhncdmlpjiaaGreat
namespace Go.Proofs.YtngfhncdmlpjiaaGreat
namespace Dc
set_option linter.unusedVariables false
set_option linter.unusedSimpArgs false
open Go.RowKit Da
attribute [local go_sem ↓] Go.wp_at_zero Go.wp_at_succ

set_option maxHeartbeats 4000000 in
theorem smStepV (r r' : Nat → D) (hs : ∀ j g, (row .value)[j]? = some g → Sh (r j) g) (hs' : ∀ j g, (row .value)[j]? = some g → Sh (r' j) g)
    (hit : ∀ n it n' it', r 2 = .list 4 n it → r' 2 = .list 4 n' it' → ∀ i, i < n → i < n' → CmpR 19 4 (smR 4 (it i) (it' i)) (it i) (it' i)) : CmpR 19 4 (smR 4 r r') r r' := by
  intro w cs ds hcl hdl ha hb
  obtain ⟨c0, c1, c2, c3, rfl⟩ := len4 hcl
  obtain ⟨d0, d1, d2, d3, rfl⟩ := len4 hdl
  have a0 := ha 0 _ rfl
  have a1 := ha 1 _ rfl
  have a2 := ha 2 _ rfl
  have a3 := ha 3 _ rfl
  have b0 := hb 0 _ rfl
  have b1 := hb 1 _ rfl
  have b2 := hb 2 _ rfl
  have b3 := hb 3 _ rfl
  clear ha hb hcl hdl
  obtain ⟨k, e0⟩ := (hs 0 _ rfl).int
  obtain ⟨k', e0'⟩ := (hs' 0 _ rfl).int
  rw [e0] at a0
  rw [e0'] at b0
  obtain rfl : c0 = .int .i64 k := a0
  obtain rfl : d0 = .int .i64 k' := b0
  obtain ⟨t, e1⟩ := (hs 1 _ rfl).str
  obtain ⟨t', e1'⟩ := (hs' 1 _ rfl).str
  rw [e1] at a1
  rw [e1'] at b1
  obtain ⟨rfl, -⟩ := a1
  obtain ⟨rfl, -⟩ := b1
  obtain ⟨n, it, e2, -⟩ := (hs 2 _ rfl).lst
  obtain ⟨n', it', e2', -⟩ := (hs' 2 _ rfl).lst
  obtain ⟨m, nm, e3, hm3⟩ := (hs 3 _ rfl).lst
  obtain ⟨m', nm', e3', hm3'⟩ := (hs' 3 _ rfl).lst
  have e2 : r 2 = .list 4 n it := e2
  have e2' : r' 2 = .list 4 n' it' := e2'
  have e3 : r 3 = .list 1 m nm := e3
  have e3' : r' 3 = .list 1 m' nm' := e3'
  have HIT := Lib.hid (hit n it n' it' e2 e2')
  clear hit
  rw [e2] at a2
  rw [e2'] at b2
  rw [e3] at a3
  rw [e3'] at b3
  obtain ⟨S, hS⟩ : ∃ S, smR 4 r r' = S := ⟨_, rfl⟩
  rw [hS]
  simp only [smR, allB, e0, e0', e1, e1', e2, e2', e3, e3', Bool.true_and] at hS
  rw [sm_int, sm_str, sm_list, sm_list] at hS
  have HS := Lib.hid hS
  clear hS e0 e0' e1 e1' e2 e2' e3 e3' hs hs'
  have HI := Lib.hid a2
  have HI' := Lib.hid b2
  have HN := Lib.hid a3
  have HN' := Lib.hid b3
  obtain ⟨A, cap, rfl, hn⟩ := a2.slice
  obtain ⟨A', cap', rfl, hn'⟩ := b2.slice
  obtain ⟨Q, qc, rfl, hm⟩ := a3.slice
  obtain ⟨Q', qc', rfl, hm'⟩ := b3.slice
  clear a2 b2 a3 b3
  unfold maxLen at hn hn' hm hm'
  have ba := (twoNew w (Obj.cells #[Value.int .i64 k, .string t, .slice A n cap, .slice Q m qc] 77) (Obj.cells #[Value.int .i64 k', .string t', .slice A' n' cap', .slice Q' m' qc'] 77))
  obtain ⟨hB0, hB1, ba⟩ := ba
  have HBA := Lib.hid ba
  have HB0 := Lib.hid hB0
  have HB1 := Lib.hid hB1
  clear ba hB0 hB1
  by_cases hk : k = k'
  case neg =>
    obtain rfl : S = false := by rw [← HS.out]; simp [hk]
    go_enter Tryz.func19, Tryz.ntmps19
    go_wp2
    go_ret
    exact ⟨rfl, (twoNew w _ _).2.2⟩
  by_cases htt : t = t'
  case neg =>
    have htt2 := str_ne htt
    obtain rfl : S = false := by rw [← HS.out, htt2]; simp
    go_enter Tryz.func19, Tryz.ntmps19
    go_wp2
    go_ret
    exact ⟨rfl, (twoNew w _ _).2.2⟩
  by_cases hnn : n = n'
  case neg =>
    have hnn2 := int_ne hnn
    obtain rfl : S = false := by rw [← HS.out, nat_ne hnn]; simp
    go_enter Tryz.func19, Tryz.ntmps19
    go_wp2
    go_ret
    exact ⟨rfl, (twoNew w _ _).2.2⟩
  by_cases hmm : m = m'
  case neg =>
    have hmm2 := int_ne hmm
    obtain rfl : S = false := by rw [← HS.out, nat_ne hmm]; simp
    go_enter Tryz.func19, Tryz.ntmps19
    go_wp2
    go_ret
    exact ⟨rfl, (twoNew w _ _).2.2⟩
  subst hk htt hnn hmm
  have hS2 : (allB (fun i => smR 4 (it i) (it' i)) n && allB (fun i => smR 1 (nm i) (nm' i)) m) = S := by
    have := HS.out
    simpa using this
  have HS2 := Lib.hid hS2
  clear HS hS2
  go_enter Tryz.func19, Tryz.ntmps19
  go_wp2
  obtain ⟨W1, hW1⟩ : ∃ W1, ((w.alloc (Obj.cells #[Value.int .i64 k, .string t, .slice A n cap, .slice Q m qc] 77)).alloc (Obj.cells #[Value.int .i64 k, .string t, .slice A' n cap', .slice Q' m qc'] 77)) = W1 := ⟨_, rfl⟩
  rw [hW1] at HB0 HB1 HBA
  rw [hW1]
  clear hW1
  have hz := ltOf HB1.out
  go_loopw [5] (fun i wr => ∃ k : Nat, k ≤ m ∧ i = .int .i64 k ∧ Below W1.heap.size W1 wr ∧ ∀ j, j < k → smR 1 (nm j) (nm' j) = true) (fun i _ => m - (intOf i).toNat)
  case atStart => exact ⟨0, Nat.zero_le _, rfl, Below.refl _ _, fun j hj => absurd hj (Nat.not_lt_zero _)⟩
  case round =>
    obtain ⟨p, hp, rfl, hbel, hsame⟩ := hrel
    have HSa := Lib.hid hsame
    clear hsame
    have q0 : wr.cell? ⟨w.heap.size, 3, none⟩ = some (.slice Q m qc) := by rw [hbel.cell (by simp only; omega), cellOf HB0.out]; rfl
    have q1 : wr.cell? ⟨w.heap.size + 1, 3, none⟩ = some (.slice Q' m qc') := by rw [hbel.cell (by simp only; omega), cellOf HB1.out]; rfl
    have bb := below_trans HBA.out hbel
    by_cases hlt : p < m
    · have hk0 : (0 : Int) ≤ (p : Int) := by omega
      have hk1 : (p : Int) < (m : Int) := by omega
      obtain ⟨b, o, e2, hf⟩ := (At.below bb _ HN.out).nth hlt
      subst e2
      obtain ⟨x0, f0, z0⟩ := one hf
      obtain ⟨b', o', e2, hf'⟩ := (At.below bb _ HN'.out).nth hlt
      subst e2
      obtain ⟨y0, g0, z0'⟩ := one hf'
      clear hf hf'
      rw [Nat.add_zero, Nat.mul_one] at f0 g0
      obtain ⟨u, hu⟩ := (hm3 p hlt 0 _ rfl).str
      obtain ⟨u', hu'⟩ := (hm3' p hlt 0 _ rfl).str
      rw [hu] at z0
      rw [hu'] at z0'
      obtain ⟨rfl, -⟩ := z0
      obtain ⟨rfl, -⟩ := z0'
      have hrow : smR 1 (nm p) (nm' p) = (u.toList == u'.toList) := by simp only [smR, allB, hu, hu', sm_str, Bool.true_and]
      clear hu hu'
      have HR := Lib.hid hrow
      clear hrow
      have F0 := fun X : Gr wr => X.cell f0
      have G0 := fun X : Gr wr => X.cell g0
      have Q0 := fun X : Gr wr => X.cell q0
      have Q1 := fun X : Gr wr => X.cell q1
      obtain ⟨x0, hx0⟩ : ∃ x, (u.toList == u'.toList) = x := ⟨_, rfl⟩
      cases x0 with
      | false =>
        obtain rfl : S = false := by rw [← HS2.out, allB_no (f := fun i => smR 1 (nm i) (nm' i)) hlt (by rw [HR.out, hx0])]; simp
        go_wp2
        refine wp_region_gr (by kernel_rfl) (by kernel_rfl) ?_
        repeat (go_big_quiet_step (fail))
        refine wpQuiet_nil ?_
        intro X
        go_wp2
        go_ret
        exact ⟨rfl, below_trans bb X.below⟩
      | true =>
        have HY := Lib.hid (yes_step HSa.out (show smR 1 (nm p) (nm' p) = true by rw [HR.out, hx0]))
        go_wp2
        refine wp_region_gr (by kernel_rfl) (by kernel_rfl) ?_
        repeat (go_big_quiet_step (fail))
        refine wpQuiet_nil ?_
        intro X
        go_wp2
        go_roundw
        case rel => exact ⟨p + 1, by omega, by go_num, below_trans hbel X.below, HY.out⟩
        case measure => simp [intOf]; omega
    · obtain rfl : p = m := by omega
      have hS3 : allB (fun i => smR 4 (it i) (it' i)) n = S := by
        have := HS2.out
        rw [allB_yes (f := fun i => smR 1 (nm i) (nm' i)) HSa.out] at this
        simpa using this
      have HS3 := Lib.hid hS3
      clear HS2 hS3
      go_wp2
      clear q0 q1
      go_loopw [6] (fun i wr => ∃ p : Nat, p ≤ n ∧ i = .int .i64 p ∧ Below W1.heap.size W1 wr ∧ ∀ j, j < p → smR 4 (it j) (it' j) = true) (fun i _ => n - (intOf i).toNat)
      case atStart => exact ⟨0, Nat.zero_le _, rfl, hbel, fun j hj => absurd hj (Nat.not_lt_zero _)⟩
      case round =>
        clear hbel bb
        obtain ⟨p, hp, rfl, hbel, hsame⟩ := hrel
        have HSi := Lib.hid hsame
        clear hsame
        have q0 : wr.cell? ⟨w.heap.size, 2, none⟩ = some (.slice A n cap) := by rw [hbel.cell (by simp only; omega), cellOf HB0.out]; rfl
        have q1 : wr.cell? ⟨w.heap.size + 1, 2, none⟩ = some (.slice A' n cap') := by rw [hbel.cell (by simp only; omega), cellOf HB1.out]; rfl
        have bb := below_trans HBA.out hbel
        by_cases hlt : p < n
        · have hk0 : (0 : Int) ≤ (p : Int) := by omega
          have hk1 : (p : Int) < (n : Int) := by omega
          obtain ⟨b, o, e2, hf⟩ := (At.below bb _ HI.out).nth hlt
          subst e2
          obtain ⟨c0, c1, c2, c3, ⟨f0, a0⟩, ⟨f1, a1⟩, ⟨f2, a2⟩, ⟨f3, a3⟩⟩ := four hf
          obtain ⟨b', o', e2, hf'⟩ := (At.below bb _ HI'.out).nth hlt
          subst e2
          obtain ⟨d0, d1, d2, d3, ⟨g0, b0⟩, ⟨g1, b1⟩, ⟨g2, b2⟩, ⟨g3, b3⟩⟩ := four hf'
          clear hf hf'
          rw [Nat.add_zero] at f0 g0
          have F0 := fun X : Gr wr => X.cell f0
          have F1 := fun X : Gr wr => X.cell f1
          have F2 := fun X : Gr wr => X.cell f2
          have F3 := fun X : Gr wr => X.cell f3
          have G0 := fun X : Gr wr => X.cell g0
          have G1 := fun X : Gr wr => X.cell g1
          have G2 := fun X : Gr wr => X.cell g2
          have G3 := fun X : Gr wr => X.cell g3
          have Q0 := fun X : Gr wr => X.cell q0
          have Q1 := fun X : Gr wr => X.cell q1
          clear f0 f1 f2 f3 g0 g1 g2 g3
          obtain ⟨x0, hx0⟩ : ∃ x, smR 4 (it p) (it' p) = x := ⟨_, rfl⟩
          have HC : Hid (∀ X : Gr wr, Calls Tryz.prog 19 #[.agg #[c0, c1, c2, c3], .agg #[d0, d1, d2, d3]] X.W fun e w'' => e = .returned (.bool x0) ∧ ∃ m : Gr wr, w'' = m.W) := fun X => by
            rw [← hx0]
            exact gr_call (HIT.out p hlt hlt X.W [c0, c1, c2, c3] [d0, d1, d2, d3] rfl rfl
              (atl_below X.below (atl_cons a0 (atl_cons a1 (atl_cons a2 (atl_cons a3 atl_nil))))) (atl_below X.below (atl_cons b0 (atl_cons b1 (atl_cons b2 (atl_cons b3 atl_nil))))))
          clear a0 a1 a2 a3 b0 b1 b2 b3
          cases x0 with
          | false =>
            obtain rfl : S = false := by rw [← HS3.out, allB_no (f := fun i => smR 4 (it i) (it' i)) hlt hx0]
            clear hx0
            go_wp2
            refine wp_region_gr (by kernel_rfl) (by kernel_rfl) ?_
            repeat (go_big_quiet_step (exact HC.out _))
            refine wpQuiet_nil ?_
            intro X
            go_wp2
            go_ret
            exact ⟨rfl, below_trans bb X.below⟩
          | true =>
            have HY := Lib.hid (yes_step HSi.out hx0)
            clear hx0
            go_wp2
            refine wp_region_gr (by kernel_rfl) (by kernel_rfl) ?_
            repeat (go_big_quiet_step (exact HC.out _))
            refine wpQuiet_nil ?_
            intro X
            go_wp2
            go_roundw
            case rel => exact ⟨p + 1, by omega, by go_num, below_trans hbel X.below, HY.out⟩
            case measure => simp [intOf]; omega
        · obtain rfl : p = n := by omega
          obtain rfl : S = true := by rw [← HS3.out, allB_yes (f := fun i => smR 4 (it i) (it' i)) HSi.out]
          go_wp2
          go_ret
          exact ⟨rfl, bb⟩

theorem smItemsV : ∀ (d : D), Sh d (.lst .value) → ∀ (d' : D), Sh d' (.lst .value) → ∀ n it n' it', d = .list 4 n it → d' = .list 4 n' it' → ∀ i, i < n → i < n' → CmpR 19 4 (smR 4 (it i) (it' i)) (it i) (it' i)
  | .list W m f, h, d', h', n, it, n', it', e, e', i, hi, hi' => by
    obtain ⟨n1, it1, e1, hs⟩ := h.lst
    obtain ⟨n2, it2, e2, hs'⟩ := h'.lst
    cases e1
    subst e'
    cases e
    cases e2
    exact smStepV (f i) _ (hs i hi) (hs' i hi') (smItemsV (f i 2) (hs i hi 2 _ rfl) _ (hs' i hi' 2 _ rfl))
  | .no, h, _, _, _, _, _, _, _, _, _, _, _ => h.elim
  | .int _, h, _, _, _, _, _, _, _, _, _, _, _ => by cases h
  | .str _, h, _, _, _, _, _, _, _, _, _, _, _ => by cases h
  | .bool _, h, _, _, _, _, _, _, _, _, _, _, _ => by cases h
theorem smValueS {r r' : Nat → D} (hs : ∀ j g, (row .value)[j]? = some g → Sh (r j) g) (hs' : ∀ j g, (row .value)[j]? = some g → Sh (r' j) g) : CmpR 19 4 (smR 4 r r') r r' :=
  smStepV r r' hs hs' (smItemsV (r 2) (hs 2 _ rfl) (r' 2) (hs' 2 _ rfl))
end Dc
end Go.Proofs.YtngfhncdmlpjiaaGreat
namespace Go.Proofs.YtngfhncdmlpjiaaGreat
namespace Dc
set_option linter.unusedVariables false
set_option linter.unusedSimpArgs false
open Go.RowKit Da
attribute [local go_sem ↓] Go.wp_at_zero Go.wp_at_succ

set_option maxHeartbeats 4000000 in
theorem smLsDir (n n' : Nat) (it it' : Nat → Nat → D) (hs : ∀ i, i < n → ∀ j g, (row .dir)[j]? = some g → Sh (it i j) g) (hs' : ∀ i, i < n' → ∀ j g, (row .dir)[j]? = some g → Sh (it' i j) g)
    (hv : ∀ i, i < n → i < n' → CmpL 20 (it i 1) (it' i 1)) :
    CmpL 11 (.list 2 n it) (.list 2 n' it') := by
  intro w c d h h'
  have HI := Lib.hid h
  have HI' := Lib.hid h'
  obtain ⟨A, cap, rfl, hm⟩ := h.slice
  obtain ⟨A', cap', rfl, hm'⟩ := h'.slice
  clear h h'
  unfold maxLen at hm hm'
  obtain ⟨S, hS⟩ : ∃ S, sm (.list 2 n it) (.list 2 n' it') = S := ⟨_, rfl⟩
  rw [hS]
  rw [sm_list] at hS
  have HS := Lib.hid hS
  clear hS
  go_enter Tryz.func11, Tryz.ntmps11
  go_wp2
  go_loopw [5] (fun i wr => ∃ k : Nat, k ≤ n ∧ k ≤ n' ∧ i = .int .i64 k ∧ Below w.heap.size w wr ∧ ∀ j, j < k → smR 2 (it j) (it' j) = true) (fun i _ => n - (intOf i).toNat)
  case atStart => exact ⟨0, Nat.zero_le _, Nat.zero_le _, rfl, Below.refl _ _, fun j hj => absurd hj (Nat.not_lt_zero _)⟩
  case round =>
    obtain ⟨p, hp, hp', rfl, hbel, hsame⟩ := hrel
    have HSi := Lib.hid hsame
    clear hsame
    by_cases hlt : p < n
    case neg =>
      obtain rfl : p = n := by omega
      by_cases hnn : p = n'
      · subst hnn
        obtain rfl : S = true := by rw [← HS.out, allB_yes HSi.out]; simp
        go_wp2
        go_ret
        exact ⟨rfl, hbel⟩
      · have hq : ((p : Int) == (n' : Int)) = false := by simp; omega
        obtain rfl : S = false := by rw [← HS.out]; simp [hnn]
        go_wp2
        go_ret
        exact ⟨rfl, hbel⟩
    by_cases hlt' : p < n'
    case neg =>
      obtain rfl : p = n' := by omega
      have hnn : ¬ n = p := by omega
      have hq : ((n : Int) == (p : Int)) = false := by simp; omega
      have hk1 : (p : Int) < (n : Int) := by omega
      obtain rfl : S = false := by rw [← HS.out]; simp [hnn]
      go_wp2
      go_ret
      exact ⟨rfl, hbel⟩
    have hk0 : (0 : Int) ≤ (p : Int) := by omega
    have hk1 : (p : Int) < (n : Int) := by omega
    have hk2 : (p : Int) < (n' : Int) := by omega
    obtain ⟨b, o, e2, hf⟩ := (At.below hbel _ HI.out).nth hlt
    subst e2
    obtain ⟨c0, c1, ⟨f0, a0⟩, ⟨f1, a1⟩⟩ := two hf
    obtain ⟨b', o', e2, hf'⟩ := (At.below hbel _ HI'.out).nth hlt'
    subst e2
    obtain ⟨d0, d1, ⟨g0, b0⟩, ⟨g1, b1⟩⟩ := two hf'
    clear hf hf'
    rw [Nat.add_zero] at f0 g0
    obtain ⟨u, hu⟩ := (hs p hlt 0 _ rfl).str
    obtain ⟨u', hu'⟩ := (hs' p hlt' 0 _ rfl).str
    rw [hu] at a0
    rw [hu'] at b0
    obtain ⟨rfl, -⟩ := a0
    obtain ⟨rfl, -⟩ := b0
    have hrow : smR 2 (it p) (it' p) = ((u.toList == u'.toList) && sm (it p 1) (it' p 1)) := by
      simp only [smR, allB, hu, hu', sm_str, Bool.true_and]
    have HR := Lib.hid hrow
    clear hrow hu hu'
    have F0 := fun X : Gr wr => X.cell f0
    have F1 := fun X : Gr wr => X.cell f1
    have G0 := fun X : Gr wr => X.cell g0
    have G1 := fun X : Gr wr => X.cell g1
    clear f0 f1 g0 g1
    have HC : Hid (∀ X : Gr wr, Calls Tryz.prog 20 #[c1, d1] X.W fun e w'' => e = .returned (.bool (sm (it p 1) (it' p 1))) ∧ ∃ m : Gr wr, w'' = m.W) := fun X =>
      gr_call (hv p hlt hlt' X.W c1 d1 (At.below X.below _ a1) (At.below X.below _ b1))
    clear a1 b1
    obtain ⟨x0, hx0⟩ : ∃ x, (u.toList == u'.toList) = x := ⟨_, rfl⟩
    obtain ⟨x1, hx1⟩ : ∃ x, sm (it p 1) (it' p 1) = x := ⟨_, rfl⟩
    rw [hx1] at HC
    cases x0 with
    | false =>
      have hno : smR 2 (it p) (it' p) = false := by rw [HR.out, hx0]; rfl
      obtain rfl : S = false := by rw [← HS.out, allB_no hlt hno]; simp
      clear hno hx1
      go_wp2
      refine wp_region_gr (by kernel_rfl) (by kernel_rfl) ?_
      repeat (go_big_quiet_step (fail))
      refine wpQuiet_nil ?_
      intro X
      go_wp2
      go_ret
      exact ⟨rfl, below_trans hbel X.below⟩
    | true =>
      cases x1 with
      | false =>
        have hno : smR 2 (it p) (it' p) = false := by rw [HR.out, hx1]; simp
        obtain rfl : S = false := by rw [← HS.out, allB_no hlt hno]; simp
        clear hno hx1
        go_wp2
        refine wp_region_gr (by kernel_rfl) (by kernel_rfl) ?_
        repeat (go_big_quiet_step (exact HC.out _))
        refine wpQuiet_nil ?_
        intro X
        go_wp2
        go_ret
        exact ⟨rfl, below_trans hbel X.below⟩
      | true =>
        have hyes := yes_step HSi.out (show smR 2 (it p) (it' p) = true by rw [HR.out, hx0, hx1]; rfl)
        have HY := Lib.hid hyes
        clear hyes hx1
        go_wp2
        refine wp_region_gr (by kernel_rfl) (by kernel_rfl) ?_
        repeat (go_big_quiet_step (exact HC.out _))
        refine wpQuiet_nil ?_
        intro X
        go_wp2
        go_roundw
        case rel => exact ⟨p + 1, by omega, by omega, by go_num, below_trans hbel X.below, HY.out⟩
        case measure => simp [intOf]; omega
end Dc
end Go.Proofs.YtngfhncdmlpjiaaGreat
namespace Go.Proofs.YtngfhncdmlpjiaaGreat
namespace Dc
set_option linter.unusedVariables false
set_option linter.unusedSimpArgs false
open Go.RowKit Da
attribute [local go_sem ↓] Go.wp_at_zero Go.wp_at_succ

theorem argsS {d d' : D} (h : Sh d (.lst .arg)) (h' : Sh d' (.lst .arg)) : CmpL 20 d d' := by
  obtain ⟨n, it, rfl, hs⟩ := h.lst
  obtain ⟨n', it', rfl, hs'⟩ := h'.lst
  exact smLsArg n n' it it' hs hs' fun i hi hi' => smValueS (shl_cons (hs i hi 1 _ rfl) (shl_cons (hs i hi 2 _ rfl) (shl_cons (hs i hi 3 _ rfl) (shl_cons (hs i hi 4 _ rfl) shl_nil)))) (shl_cons (hs' i hi' 1 _ rfl) (shl_cons (hs' i hi' 2 _ rfl) (shl_cons (hs' i hi' 3 _ rfl) (shl_cons (hs' i hi' 4 _ rfl) shl_nil))))
end Dc
end Go.Proofs.YtngfhncdmlpjiaaGreat
namespace Go.Proofs.YtngfhncdmlpjiaaGreat
namespace Dc
set_option linter.unusedVariables false
set_option linter.unusedSimpArgs false
open Go.RowKit Da
attribute [local go_sem ↓] Go.wp_at_zero Go.wp_at_succ

theorem dirsS {d d' : D} (h : Sh d (.lst .dir)) (h' : Sh d' (.lst .dir)) : CmpL 11 d d' := by
  obtain ⟨n, it, rfl, hs⟩ := h.lst
  obtain ⟨n', it', rfl, hs'⟩ := h'.lst
  exact smLsDir n n' it it' hs hs' fun i hi hi' => argsS (hs i hi 1 _ rfl) (hs' i hi' 1 _ rfl)
end Dc
end Go.Proofs.YtngfhncdmlpjiaaGreat
