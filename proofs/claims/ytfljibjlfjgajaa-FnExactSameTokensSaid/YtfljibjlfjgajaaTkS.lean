/- What is proved: the model's SameTokens and the program's say of two lists of tokens whether their kinds and texts are the same, in order. -/
import Derived.Test.YtfljibjlfjgajaaTkB
import Derived.Test.YtfljibjlfjgajaaTkE
namespace Go.Proofs.Ytfljibjlfjgajaa
namespace Dc
set_option linter.unusedVariables false
set_option linter.unusedSimpArgs false
open Go.RowKit Da
attribute [local go_sem ↓] Go.wp_at_zero Go.wp_at_succ

/-- Of two tokens, kind and text are the same. -/
def tk (r r' : Nat → D) : Bool := sm (r 0) (r' 0) && sm (r 1) (r' 1)
def tkL : D → D → Bool
  | .list _ n it, .list _ n' it' => n == n' && allB (fun i => tk (it i) (it' i)) n
  | _, _ => false

set_option maxRecDepth 100000 in
set_option maxHeartbeats 4000000 in
theorem sameTokensS (n n' : Nat) (it it' : Nat → Nat → D) (hs : ∀ i, i < n → ∀ j g, (row .token)[j]? = some g → Sh (it i j) g) (hs' : ∀ i, i < n' → ∀ j g, (row .token)[j]? = some g → Sh (it' i j) g)
    (w : World) (c d : Value) (h : At w (.list 3 n it) c) (h' : At w (.list 3 n' it') d) :
    Calls Try.prog 10 #[c, d] w fun e w' => e = .returned (.bool (n == n' && allB (fun i => tk (it i) (it' i)) n)) ∧ Below w.heap.size w w' := by
  have HI := Lib.hid h
  have HI' := Lib.hid h'
  obtain ⟨A, cap, rfl, hm⟩ := h.slice
  obtain ⟨A', cap', rfl, hm'⟩ := h'.slice
  clear h h'
  unfold maxLen at hm hm'
  obtain ⟨S, hS⟩ : ∃ S, (n == n' && allB (fun i => tk (it i) (it' i)) n) = S := ⟨_, rfl⟩
  rw [hS]
  have HS := Lib.hid hS
  clear hS
  by_cases hnn : n = n'
  case neg =>
    have hq := int_ne hnn
    obtain rfl : S = false := by rw [← HS.out, nat_ne hnn]; simp
    go_enter Try.func10, Try.ntmps10
    go_wp2
    go_ret
    exact ⟨rfl, Below.refl _ _⟩
  subst hnn
  go_enter Try.func10, Try.ntmps10
  go_wp2
  go_loopw [5] (fun i wr => ∃ k : Nat, k ≤ n ∧ i = .int .i64 k ∧ Below w.heap.size w wr ∧ ∀ j, j < k → tk (it j) (it' j) = true) (fun i _ => n - (intOf i).toNat)
  case atStart => exact ⟨0, Nat.zero_le _, rfl, Below.refl _ _, fun j hj => absurd hj (Nat.not_lt_zero _)⟩
  case round =>
    obtain ⟨p, hp, rfl, bb, hsame⟩ := hrel
    have HSi := Lib.hid hsame
    clear hsame
    by_cases hlt : p < n
    case neg =>
      obtain rfl : p = n := by omega
      obtain rfl : S = true := by rw [← HS.out, allB_yes (f := fun i => tk (it i) (it' i)) HSi.out]; simp
      go_wp2
      go_ret
      exact ⟨rfl, bb⟩
    have hk0 : (0 : Int) ≤ (p : Int) := by omega
    have hk1 : (p : Int) < (n : Int) := by omega
    obtain ⟨b, o, e9, hfc⟩ := (At.below bb _ HI.out).nth hlt
    subst e9
    obtain ⟨b', o', e9, hfd⟩ := (At.below bb _ HI'.out).nth hlt
    subst e9
    obtain ⟨c0, f0, a0⟩ := hfc 0 (by omega)
    obtain ⟨c1, f1, a1⟩ := hfc 1 (by omega)
    obtain ⟨d0, g0, b0⟩ := hfd 0 (by omega)
    obtain ⟨d1, g1, b1⟩ := hfd 1 (by omega)
    clear hfc hfd
    rw [Nat.add_zero] at f0 g0
    have hsp := hs p hlt
    have hsp' := hs' p hlt
    obtain ⟨k0, e0⟩ := (hsp 0 _ rfl).int
    rw [e0] at a0
    obtain rfl : c0 = Value.int .i64 k0 := a0
    obtain ⟨k0', e0'⟩ := (hsp' 0 _ rfl).int
    rw [e0'] at b0
    obtain rfl : d0 = Value.int .i64 k0' := b0
    obtain ⟨t1, e1⟩ := (hsp 1 _ rfl).str
    rw [e1] at a1
    obtain ⟨rfl, -⟩ := a1
    obtain ⟨t1', e1'⟩ := (hsp' 1 _ rfl).str
    rw [e1'] at b1
    obtain ⟨rfl, -⟩ := b1
    have HR := Lib.hid (show tk (it p) (it' p) = ((k0 == k0') && (t1.toList == t1'.toList)) by simp only [tk, e0, e0', e1, e1', sm_int, sm_str])
    have F0 := fun X : Gr wr => X.cell f0
    have G0 := fun X : Gr wr => X.cell g0
    have F1 := fun X : Gr wr => X.cell f1
    have G1 := fun X : Gr wr => X.cell g1
    clear e0 e0' e1 e1' f0 g0 f1 g1 hsp hsp'
    by_cases h0 : k0 = k0'
    case neg =>
      have hx : (k0 == k0') = false := by simp [h0]
      have hxn : (k0 != k0') = true := by simp [h0]
      have hn : tk (it p) (it' p) = false := by rw [HR.out, hx]; simp
      obtain rfl : S = false := by rw [← HS.out, allB_no (f := fun i => tk (it i) (it' i)) hlt hn]; simp
      clear hn
      go_wp2
      refine wp_region_gr (by kernel_rfl) (by kernel_rfl) ?_
      repeat (go_big_quiet_step (fail))
      refine wpQuiet_nil ?_
      intro X
      go_wp2
      go_ret
      exact ⟨rfl, below_trans bb X.below⟩
    subst h0
    by_cases h1 : t1 = t1'
    case neg =>
      have hx := str_ne h1
      have hxn : (t1.toList != t1'.toList) = true := by simp only [bne, hx, Bool.not_false]
      have hxk : (k0 != k0) = false := by simp
      have hn : tk (it p) (it' p) = false := by rw [HR.out, hx]; simp
      obtain rfl : S = false := by rw [← HS.out, allB_no (f := fun i => tk (it i) (it' i)) hlt hn]; simp
      clear hn
      go_wp2
      refine wp_region_gr (by kernel_rfl) (by kernel_rfl) ?_
      repeat (go_big_quiet_step (fail))
      refine wpQuiet_nil ?_
      intro X
      go_wp2
      go_ret
      exact ⟨rfl, below_trans bb X.below⟩
    subst h1
    have hxk : (k0 != k0) = false := by simp
    have hxt : (t1.toList != t1.toList) = false := by simp
    have HY := Lib.hid (yes_step (f := fun i => tk (it i) (it' i)) HSi.out (by show tk (it p) (it' p) = true; rw [HR.out]; simp))
    go_wp2
    refine wp_region_gr (by kernel_rfl) (by kernel_rfl) ?_
    repeat (go_big_quiet_step (fail))
    refine wpQuiet_nil ?_
    intro X
    go_wp2
    go_roundw
    case rel => exact ⟨p + 1, by omega, by go_num, below_trans bb X.below, HY.out⟩
    case measure => simp [intOf]; omega

set_option maxHeartbeats 4000000 in
theorem tokenI {r r' : Nat → D} (hs : ∀ j g, (row .token)[j]? = some g → Sh (r j) g) (hs' : ∀ j g, (row .token)[j]? = some g → Sh (r' j) g) : CmpR 20 3 (tk r r') r r' := by
  intro w cs ds hcl hdl ha hb
  obtain ⟨c0, c1, c2, rfl⟩ := lnB3 hcl
  obtain ⟨d0, d1, d2, rfl⟩ := lnB3 hdl
  have a0 := ha 0 _ rfl
  have a1 := ha 1 _ rfl
  have a2 := ha 2 _ rfl
  have b0 := hb 0 _ rfl
  have b1 := hb 1 _ rfl
  have b2 := hb 2 _ rfl
  clear ha hb
  obtain ⟨k0, e0⟩ := (hs 0 _ rfl).int
  obtain ⟨t1, e1⟩ := (hs 1 _ rfl).str
  obtain ⟨k2, e2⟩ := (hs 2 _ rfl).int
  obtain ⟨k0', e0'⟩ := (hs' 0 _ rfl).int
  obtain ⟨t1', e1'⟩ := (hs' 1 _ rfl).str
  obtain ⟨k2', e2'⟩ := (hs' 2 _ rfl).int
  rw [e0] at a0
  rw [e1] at a1
  rw [e2] at a2
  rw [e0'] at b0
  rw [e1'] at b1
  rw [e2'] at b2
  obtain rfl : c0 = Value.int .i64 k0 := a0
  obtain ⟨rfl, -⟩ := a1
  obtain rfl : c2 = Value.int .i64 k2 := a2
  obtain rfl : d0 = Value.int .i64 k0' := b0
  obtain ⟨rfl, -⟩ := b1
  obtain rfl : d2 = Value.int .i64 k2' := b2
  obtain ⟨R, hR⟩ : ∃ R, tk r r' = R := ⟨_, rfl⟩
  rw [hR]
  have hR' : (k0 == k0' && t1.toList == t1'.toList) = R := by rw [← hR]; simp only [tk, e0, e0', e1, e1', sm_int, sm_str]
  have HR := Lib.hid hR'
  clear hR hR' e0 e1 e2 e0' e1' e2'
  go_enter Try.func20, Try.ntmps20
  go_wp2_with fail
  refine (isI k0 t1 k2 k0' t1' _ R HR.out).mono ?_
  rintro e w1 ⟨rfl, hb1⟩
  have hb2 := below_trans (twoNew w _ _).2.2 hb1
  go_wp2
  go_ret
  exact ⟨rfl, hb2⟩

theorem tokenS {d d' : D} (h : Sh d (.lst .token)) (h' : Sh d' (.lst .token)) (w : World) (c c' : Value) (hc : At w d c) (hc' : At w d' c') :
    Calls Try.prog 10 #[c, c'] w fun e w' => e = .returned (.bool (tkL d d')) ∧ Below w.heap.size w w' := by
  obtain ⟨n, it, rfl, hs⟩ := h.lst
  obtain ⟨n', it', rfl, hs'⟩ := h'.lst
  exact sameTokensS n n' it it' hs hs' w c c' hc hc'

set_option maxHeartbeats 4000000 in
theorem tokensI {d d' : D} (h : Sh d (.lst .token)) (h' : Sh d' (.lst .token)) (w : World) (c c' : Value) (hc : At w d c) (hc' : At w d' c') :
    Calls Try.prog 12 #[c, c'] w fun e w' => e = .returned (.bool (tkL d d')) ∧ Below w.heap.size w w' := by
  obtain ⟨n, it, rfl, hs⟩ := h.lst
  obtain ⟨n', it', rfl, hs'⟩ := h'.lst
  have cE := eqfT n n' it it' (fun i => tk (it i) (it' i)) (fun i hi hi' => tokenI (hs i hi) (hs' i hi')) w c c' hc hc'
  obtain ⟨A, cap, rfl, hm⟩ := hc.slice
  obtain ⟨A', cap', rfl, hm'⟩ := hc'.slice
  obtain ⟨S, hS⟩ : ∃ S, (n == n' && allB (fun i => tk (it i) (it' i)) n) = S := ⟨_, rfl⟩
  rw [hS] at cE
  show Calls Try.prog 12 _ w fun e w' => e = .returned (.bool (n == n' && allB (fun i => tk (it i) (it' i)) n)) ∧ _
  rw [hS]
  clear hS
  go_enter Try.func12, Try.ntmps12
  go_wp2_with fail
  refine cE.mono ?_
  rintro e w1 ⟨rfl, hb1⟩
  go_wp2
  go_ret
  exact ⟨rfl, hb1⟩
end Dc
end Go.Proofs.Ytfljibjlfjgajaa
