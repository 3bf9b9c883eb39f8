/- What is proved: the laws' tests whether they are the same say yes of one datum in two places: types. (Made by tools/mkdbe.py.) -/
import Derived.Test.YtngfhncdmlpjiaaGreatDaE
namespace Go.Proofs.YtngfhncdmlpjiaaGreat
namespace Da
set_option linter.unusedVariables false
set_option linter.unusedSimpArgs false
open Go.RowKit
attribute [local go_sem ↓] Go.wp_at_zero Go.wp_at_succ

/-- The contract of one. -/
def EqRType (r : Nat → D) : Prop := ∀ (w : World) (c0 c1 d0 d1 : Value), At w (r 0) c0 → At w (r 1) c1 → At w (r 0) d0 → At w (r 1) d1 →
  Calls Tryz.prog 115 #[.agg #[c0, c1], .agg #[d0, d1]] w fun e w' => e = .returned (.bool true) ∧ Below w.heap.size w w'
set_option maxHeartbeats 4000000 in
theorem eqRType_of (r : Nat → D) (h0 : Sh (r 0) .str) (h1 : Sh (r 1) .str) : EqRType r := by
  intro w c0 c1 d0 d1 a0 a1 b0 b1
  obtain ⟨u0, e0⟩ := h0.str
  rw [e0] at a0 b0
  obtain ⟨rfl, -⟩ := a0
  obtain ⟨rfl, -⟩ := b0
  clear e0
  obtain ⟨u1, e1⟩ := h1.str
  rw [e1] at a1 b1
  obtain ⟨rfl, -⟩ := a1
  obtain ⟨rfl, -⟩ := b1
  clear e1
  go_enter Tryz.func115, Tryz.ntmps115
  go_wp2
  go_ret
  exact ⟨rfl, (below_alloc _ _).alloc (by simp) _⟩

theorem eqType {r : Nat → D} (hs : ∀ j g, (row .typ)[j]? = some g → Sh (r j) g) : EqRType r := (eqRType_of r (hs 0 _ rfl) (hs 1 _ rfl))

end Da
end Go.Proofs.YtngfhncdmlpjiaaGreat
