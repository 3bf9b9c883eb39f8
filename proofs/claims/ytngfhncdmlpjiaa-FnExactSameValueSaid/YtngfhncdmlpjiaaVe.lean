/- What is proved: the laws' test whether two values are the same says yes of one value in two places. -/
import Derived.Test.YtngfhncdmlpjiaaVo
import Derived.Deep.RegionWith
namespace Go.Proofs.Ytngfhncdmlpjiaa
namespace Va
open Go.RowKit
attribute [local go_sem ↓] Go.wp_at_zero Go.wp_at_succ

theorem below_drewN (w : World) (k : Nat) : Below w.heap.size w (w.drewN k) := ⟨rfl, rfl, rfl, Nat.le_refl _, fun _ _ => rfl⟩
theorem below_drew (w : World) : Below w.heap.size w w.drew := ⟨rfl, rfl, rfl, Nat.le_refl _, fun _ _ => rfl⟩

theorem eqN {m : Nat} {nm : Nat → ByteArray} {c d : Value} (w : World) (h : Nam w m nm c) (h' : Nam w m nm d) :
    Calls Try.prog 23 #[c, d] w fun e w' => e = .returned (.bool true) ∧ Below w.heap.size w w' := by
  obtain ⟨A, cap, rfl, hm, hc⟩ := h
  obtain ⟨A', cap', rfl, -, hc'⟩ := h'
  unfold maxLen at hm
  have HC : Hid (∀ j, j < m → ∃ b o, A = some ⟨b, o, none⟩ ∧ w.cell? ⟨b, o + j, none⟩ = some (.string (nm j)) ∧ (nm j).size ≤ maxLen) := hc
  have HC' : Hid (∀ j, j < m → ∃ b o, A' = some ⟨b, o, none⟩ ∧ w.cell? ⟨b, o + j, none⟩ = some (.string (nm j)) ∧ (nm j).size ≤ maxLen) := hc'
  clear hc hc'
  go_enter Try.func23, Try.ntmps23
  go_wp2
  go_loopw [5] (fun i wr => ∃ k d : Nat, k ≤ m ∧ i = .int .i64 k ∧ wr = w.drewN d) (fun i _ => m - (intOf i).toNat)
  case atStart => exact ⟨0, 0, Nat.zero_le _, rfl, rfl⟩
  case round =>
    obtain ⟨k, d, hk, rfl, rfl⟩ := hrel
    by_cases hlt : k < m
    · have hk0 : (0 : Int) ≤ (k : Int) := by omega
      have hk1 : (k : Int) < (m : Int) := by omega
      obtain ⟨b, o, rfl, hs1, -⟩ := HC.out k hlt
      obtain ⟨b', o', rfl, hs2, -⟩ := HC'.out k hlt
      go_wp2
      go_quiet (fail)
      go_wp2
      go_roundw
      case rel => exact ⟨k + 1, _, by omega, by go_num, rfl⟩
      case measure => simp [intOf]; omega
    · go_wp2
      go_ret
      exact ⟨rfl, below_drewN _ _⟩

/-- The contract of one value. -/
def EqOne (v : V) : Prop := ∀ (w : World) (c0 c1 c2 c3 d0 d1 d2 d3 : Value), At w v c0 c1 c2 c3 → At w v d0 d1 d2 d3 →
  Calls Try.prog 9 #[.agg #[c0, c1, c2, c3], .agg #[d0, d1, d2, d3]] w fun e w' => e = .returned (.bool true) ∧ Below w.heap.size w w'

theorem eqI {n : Nat} {it : Nat → V} (hit : ∀ i, i < n → EqOne (it i)) {c d : Value} (w : World) (h : Its w n it c) (h' : Its w n it d) :
    Calls Try.prog 22 #[c, d] w fun e w' => e = .returned (.bool true) ∧ Below w.heap.size w w' := by
  have HI := h
  have HI' := h'
  obtain ⟨A, cap, rfl, hm, -⟩ := h
  obtain ⟨A', cap', rfl, -, -⟩ := h'
  unfold maxLen at hm
  go_enter Try.func22, Try.ntmps22
  go_wp2
  go_loopw [5] (fun i wr => ∃ k : Nat, k ≤ n ∧ i = .int .i64 k ∧ Below w.heap.size w wr) (fun i _ => n - (intOf i).toNat)
  case atStart => exact ⟨0, Nat.zero_le _, rfl, Below.refl _ _⟩
  case round =>
    obtain ⟨k, hk, rfl, hbel⟩ := hrel
    by_cases hlt : k < n
    · have hk0 : (0 : Int) ≤ (k : Int) := by omega
      have hk1 : (k : Int) < (n : Int) := by omega
      obtain ⟨A1, cap1, e1, -, hc⟩ := HI.below hbel
      obtain ⟨b, o, c0, c1, c2, c3, e2, hf, hat⟩ := hc k hlt
      simp only [Value.slice.injEq] at e1
      obtain ⟨e3, -, e4⟩ := e1
      subst e3 e4
      subst e2
      clear hc
      obtain ⟨A1, cap1, e1, -, hc⟩ := HI'.below hbel
      obtain ⟨b', o', d0, d1, d2, d3, e2, hf', hat'⟩ := hc k hlt
      simp only [Value.slice.injEq] at e1
      obtain ⟨e3, -, e4⟩ := e1
      subst e3 e4
      subst e2
      clear hc
      obtain ⟨f0, f1, f2, f3⟩ := hf
      obtain ⟨g0, g1, g2, g3⟩ := hf'
      have cc : ∀ j, Calls Try.prog 9 #[.agg #[c0, c1, c2, c3], .agg #[d0, d1, d2, d3]] (wr.drewN j) fun e w' => e = .returned (.bool true) ∧ Below wr.heap.size wr w' := fun j =>
        (hit k hlt (wr.drewN j) c0 c1 c2 c3 d0 d1 d2 d3 (At.below (below_drewN _ _) _ hat) (At.below (below_drewN _ _) _ hat')).mono fun e w' ⟨he, hb⟩ => ⟨he, below_trans (below_drewN wr j) hb⟩
      have cd : Calls Try.prog 9 #[.agg #[c0, c1, c2, c3], .agg #[d0, d1, d2, d3]] wr.drew fun e w' => e = .returned (.bool true) ∧ Below wr.heap.size wr w' := cc 1
      go_wp2
      go_region_with (go_at_call 9; refine cd.mono ?_; rintro e w1 ⟨rfl, hb1⟩)
      all_goals go_wp2
      all_goals go_roundw
      case' rel => exact ⟨k + 1, by omega, by go_num, below_trans hbel hb1⟩
      case' measure => simp [intOf]; omega
      case' rel => exact ⟨k + 1, by omega, by go_num, below_trans hbel hb1⟩
      case' measure => simp [intOf]; omega
    · go_wp2
      go_ret
      exact ⟨rfl, hbel⟩

theorem eqV : ∀ v : V, EqOne v
  | .no => fun _ _ _ _ _ _ _ _ _ h => h.elim
  | .mk k t n it m nm => by
    intro w c0 c1 c2 c3 d0 d1 d2 d3 h h'
    obtain ⟨rfl, rfl, ht, hI, hN⟩ := At_mk.1 h
    obtain ⟨rfl, rfl, -, hI', hN'⟩ := At_mk.1 h'
    have hit : ∀ i, i < n → EqOne (it i) := fun i _ => eqV (it i)
    clear h h'
    go_enter Try.func9, Try.ntmps9
    go_wp2_with fail
    obtain ⟨W1, hW1⟩ : ∃ W1, ((w.alloc (Obj.cells #[Value.int IntKind.i64 k, Value.string t, c2, c3] 30)).alloc (Obj.cells #[Value.int IntKind.i64 k, Value.string t, d2, d3] 30)) = W1 := ⟨_, rfl⟩
    have ba : Below w.heap.size w W1 := by rw [← hW1]; exact (below_alloc _ _).alloc (by simp) _
    have hB0 : W1.heap[w.heap.size]? = some (Obj.cells #[Value.int IntKind.i64 k, Value.string t, c2, c3] 30) := by
      rw [← hW1, Below.heap_alloc _ _ _ (by simp)]; exact heap_alloc_new w _
    have hB1 : W1.heap[w.heap.size + 1]? = some (Obj.cells #[Value.int IntKind.i64 k, Value.string t, d2, d3] 30) := by
      rw [← hW1]; exact heap_alloc2_new w _ _
    have hz : W1.heap.size = w.heap.size + 2 := by rw [← hW1]; simp
    rw [hW1]
    clear hW1
    refine (eqI hit W1 (hI.below ba) (hI'.below ba)).mono ?_
    rintro e w1 ⟨rfl, hb1⟩
    have g0 := (hb1.block _ (by omega)).trans hB0
    have g1 := (hb1.block _ (by omega)).trans hB1
    have q0 : w1.cell? ⟨w.heap.size, 3, none⟩ = some c3 := by rw [cell_of g0]; rfl
    have q1 : w1.cell? ⟨w.heap.size + 1, 3, none⟩ = some d3 := by rw [cell_of g1]; rfl
    have ba1 := below_trans ba hb1
    clear g0 g1 hB0 hB1 hz
    go_wp2_with fail
    refine (eqN w1 (hN.below ba1) (hN'.below ba1)).mono ?_
    rintro e w2 ⟨rfl, hb2⟩
    go_wp2
    go_ret
    exact ⟨rfl, below_trans ba1 hb2⟩
end Va
end Go.Proofs.Ytngfhncdmlpjiaa
