/- What is proved: the laws' tests whether they are the same say yes of one datum in two places: tokens. (Made by tools/mkdbe.py.) -/
import Derived.Test.YtfljibjlfjgajaaDaE
namespace Go.Proofs.Ytfljibjlfjgajaa
namespace Da
set_option linter.unusedVariables false
set_option linter.unusedSimpArgs false
open Go.RowKit
attribute [local go_sem ↓] Go.wp_at_zero Go.wp_at_succ

/-- The contract of one. -/
def EqRToken (r : Nat → D) : Prop := ∀ (w : World) (c0 c1 c2 d0 d1 d2 : Value), At w (r 0) c0 → At w (r 1) c1 → At w (r 2) c2 → At w (r 0) d0 → At w (r 1) d1 → At w (r 2) d2 →
  Calls Try.prog 21 #[.agg #[c0, c1, c2], .agg #[d0, d1, d2]] w fun e w' => e = .returned (.bool true) ∧ Below w.heap.size w w'
set_option maxHeartbeats 4000000 in
theorem eqRToken_of (r : Nat → D) (h0 : Sh (r 0) .int) (h1 : Sh (r 1) .str) (h2 : Sh (r 2) .int) : EqRToken r := by
  intro w c0 c1 c2 d0 d1 d2 a0 a1 a2 b0 b1 b2
  obtain ⟨k0, e0⟩ := h0.int
  rw [e0] at a0 b0
  obtain rfl : c0 = Value.int .i64 k0 := a0
  obtain rfl : d0 = Value.int .i64 k0 := b0
  clear e0
  obtain ⟨u1, e1⟩ := h1.str
  rw [e1] at a1 b1
  obtain ⟨rfl, -⟩ := a1
  obtain ⟨rfl, -⟩ := b1
  clear e1
  obtain ⟨k2, e2⟩ := h2.int
  rw [e2] at a2 b2
  obtain rfl : c2 = Value.int .i64 k2 := a2
  obtain rfl : d2 = Value.int .i64 k2 := b2
  clear e2
  go_enter Try.func21, Try.ntmps21
  go_wp2
  go_ret
  exact ⟨rfl, (below_alloc _ _).alloc (by simp) _⟩

theorem eqToken {r : Nat → D} (hs : ∀ j g, (row .token)[j]? = some g → Sh (r j) g) : EqRToken r := (eqRToken_of r (hs 0 _ rfl) (hs 1 _ rfl) (hs 2 _ rfl))

set_option maxHeartbeats 4000000 in
theorem eqLsToken (n : Nat) (it : Nat → Nat → D) (hit : ∀ i, i < n → EqRToken (it i)) : EqL 13 (.list 3 n it) := by
  intro w c c' h h'
  have HI := Lib.hid h
  have HI' := Lib.hid h'
  obtain ⟨A, cap, rfl, hm⟩ := h.slice
  obtain ⟨A', cap', rfl, -⟩ := h'.slice
  clear h h'
  unfold maxLen at hm
  go_enter Try.func13, Try.ntmps13
  go_wp2
  go_loopw [5] (fun i wr => ∃ k : Nat, k ≤ n ∧ i = .int .i64 k ∧ Below w.heap.size w wr) (fun i _ => n - (intOf i).toNat)
  case atStart => exact ⟨0, Nat.zero_le _, rfl, Below.refl _ _⟩
  case round =>
    obtain ⟨k, hk, rfl, hbel⟩ := hrel
    by_cases hlt : k < n
    · have hk0 : (0 : Int) ≤ (k : Int) := by omega
      have hk1 : (k : Int) < (n : Int) := by omega
      obtain ⟨b, o, e2, hf⟩ := (At.below hbel _ HI.out).nth hlt
      subst e2
      obtain ⟨b', o', e2, hf'⟩ := (At.below hbel _ HI'.out).nth hlt
      subst e2
      obtain ⟨c0, f0, a0⟩ := hf 0 (by omega)
      obtain ⟨d0, g0, b0'⟩ := hf' 0 (by omega)
      obtain ⟨c1, f1, a1⟩ := hf 1 (by omega)
      obtain ⟨d1, g1, b1'⟩ := hf' 1 (by omega)
      obtain ⟨c2, f2, a2⟩ := hf 2 (by omega)
      obtain ⟨d2, g2, b2'⟩ := hf' 2 (by omega)
      clear hf hf'
      rw [Nat.add_zero] at f0 g0
      have cd : Calls Try.prog 21 #[.agg #[c0, c1, c2], .agg #[d0, d1, d2]] wr.drew fun e w' => e = .returned (.bool true) ∧ Below wr.heap.size wr w' :=
        (hit k hlt wr.drew c0 c1 c2 d0 d1 d2 (At.below (below_drew _) _ a0) (At.below (below_drew _) _ a1) (At.below (below_drew _) _ a2) (At.below (below_drew _) _ b0') (At.below (below_drew _) _ b1') (At.below (below_drew _) _ b2')).mono fun e w' ⟨he, hb⟩ => ⟨he, below_trans (below_drew wr) hb⟩
      clear a0 b0' a1 b1' a2 b2'
      go_wp2
      go_region_with (go_at_call 21; refine cd.mono ?_; rintro e w1 ⟨rfl, hb1⟩)
      all_goals go_wp2
      all_goals go_roundw
      case' rel => exact ⟨k + 1, by omega, by go_num, below_trans hbel hb1⟩
      case' measure => simp [intOf]; omega
      case' rel => exact ⟨k + 1, by omega, by go_num, below_trans hbel hb1⟩
      case' measure => simp [intOf]; omega
    · go_wp2
      go_ret
      exact ⟨rfl, hbel⟩

theorem eqTokens {d : D} (h : Sh d (.lst .token)) : EqL 13 d := by
  obtain ⟨n, it, rfl, hs⟩ := h.lst
  exact eqLsToken n it fun i hi => (eqRToken_of (it i) (hs i hi 0 _ rfl) (hs i hi 1 _ rfl) (hs i hi 2 _ rfl))

end Da
end Go.Proofs.Ytfljibjlfjgajaa
