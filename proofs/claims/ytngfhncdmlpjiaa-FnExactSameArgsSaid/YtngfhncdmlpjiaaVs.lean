/- What is proved: the model's SameValue says whether two values are the same, part by part. -/
import Derived.Test.YtngfhncdmlpjiaaVe
import Derived.Laws.StructEq
namespace Go.Proofs.Ytngfhncdmlpjiaa
namespace Va
open Go.RowKit
attribute [local go_sem ↓] Go.wp_at_zero Go.wp_at_succ

theorem str_ne {a b : ByteArray} (h : ¬ a = b) : (a.toList == b.toList) = false := by
  cases hb : (a.toList == b.toList) with
  | false => rfl
  | true =>
    have hc := eq_of_beq hb
    rw [ByteArray.toList_eq, ByteArray.toList_eq] at hc
    exact absurd (ByteArray.ext (Array.toList_inj.1 hc)) h
theorem str_eq {a b : ByteArray} (h : a = b) : (a.toList == b.toList) = true := by subst h; simp
/-- The same, part by part. -/
def Same : V → V → Prop
  | .mk k t n it m nm, .mk k' t' n' it' m' nm' => k = k' ∧ t = t' ∧ n = n' ∧ m = m' ∧ (∀ j, j < m → nm j = nm' j) ∧ ∀ i, i < n → Same (it i) (it' i)
  | _, _ => False

def SmOne (v : V) : Prop := ∀ (u : V) (w : World) (c0 c1 c2 c3 d0 d1 d2 d3 : Value), At w v c0 c1 c2 c3 → At w u d0 d1 d2 d3 →
  Calls Try.prog 6 #[.agg #[c0, c1, c2, c3], .agg #[d0, d1, d2, d3]] w fun e w' => ∃ r : Bool, e = .returned (.bool r) ∧ (r = true ↔ Same v u) ∧ Below w.heap.size w w'

/-- Two boxes, behind what writes nothing old. -/
theorem boxes (w : World) (t : TypeId) (c0 c1 c2 c3 d0 d1 d2 d3 : Value) : ∃ W1, ((w.alloc (Obj.cells #[c0, c1, c2, c3] t)).alloc (Obj.cells #[d0, d1, d2, d3] t)) = W1 ∧ Below w.heap.size w W1 ∧ W1.heap.size = w.heap.size + 2 ∧
    W1.heap[w.heap.size]? = some (Obj.cells #[c0, c1, c2, c3] t) ∧ W1.heap[w.heap.size + 1]? = some (Obj.cells #[d0, d1, d2, d3] t) := by
  refine ⟨_, rfl, (below_alloc _ _).alloc (by simp) _, by simp, ?_, heap_alloc2_new w _ _⟩
  rw [Below.heap_alloc _ _ _ (by simp)]; exact heap_alloc_new w _

set_option maxHeartbeats 4000000 in
theorem smStep (k : Int) (t : ByteArray) (n : Nat) (it : Nat → V) (m : Nat) (nm : Nat → ByteArray) (hit : ∀ i, i < n → SmOne (it i)) : SmOne (.mk k t n it m nm) := by
    intro u w c0 c1 c2 c3 d0 d1 d2 d3 h h'
    match u, h' with
    | .mk k' t' n' it' m' nm', h' =>
    obtain ⟨rfl, rfl, ht, hI, hN⟩ := At_mk.1 h
    obtain ⟨rfl, rfl, ht', hI', hN'⟩ := At_mk.1 h'
    clear h h'
    obtain ⟨S, hS⟩ : ∃ S : Prop, Same (.mk k t n it m nm) (.mk k' t' n' it' m' nm') = S := ⟨_, rfl⟩
    rw [hS]
    have HS : Hid (S = (k = k' ∧ t = t' ∧ n = n' ∧ m = m' ∧ (∀ j, j < m → nm j = nm' j) ∧ ∀ i, i < n → Same (it i) (it' i))) := by rw [← hS]; rfl
    clear hS
    have HI := hI
    have HI' := hI'
    have HN := hN
    have HN' := hN'
    obtain ⟨A, cap, rfl, hn, -⟩ := hI
    obtain ⟨A', cap', rfl, hn', -⟩ := hI'
    obtain ⟨Q, qc, rfl, hm, -⟩ := hN
    obtain ⟨Q', qc', rfl, hm', -⟩ := hN'
    unfold maxLen at hn hn' hm hm'
    by_cases hk : k = k'
    case neg =>
      go_enter Try.func6, Try.ntmps6
      go_wp2
      go_ret
      exact ⟨false, rfl, by rw [HS.out]; simp [hk], (below_alloc _ _).alloc (by simp) _⟩
    by_cases htt : t = t'
    case neg =>
      have htt2 := str_ne htt
      go_enter Try.func6, Try.ntmps6
      go_wp2
      go_ret
      exact ⟨false, rfl, by rw [HS.out]; simp [htt], (below_alloc _ _).alloc (by simp) _⟩
    by_cases hnn : n = n'
    case neg =>
      have hnn2 : ((n : Int) != (n' : Int)) = true := by simp; omega
      go_enter Try.func6, Try.ntmps6
      go_wp2
      go_ret
      exact ⟨false, rfl, by rw [HS.out]; simp [hnn], (below_alloc _ _).alloc (by simp) _⟩
    by_cases hmm : m = m'
    case neg =>
      have hmm2 : ((m : Int) != (m' : Int)) = true := by simp; omega
      go_enter Try.func6, Try.ntmps6
      go_wp2
      go_ret
      exact ⟨false, rfl, by rw [HS.out]; simp [hmm], (below_alloc _ _).alloc (by simp) _⟩
    subst hk htt hnn hmm
    go_enter Try.func6, Try.ntmps6
    go_wp2
    obtain ⟨W1, hW1, ba, hz, hB0, hB1⟩ := boxes w 30 (.int .i64 k) (.string t) (.slice A n cap) (.slice Q m qc) (.int .i64 k) (.string t) (.slice A' n cap') (.slice Q' m qc')
    rw [hW1]
    clear hW1
    have HB0 : Hid (W1.heap[w.heap.size]? = some (Obj.cells #[Value.int .i64 k, .string t, .slice A n cap, .slice Q m qc] 30)) := hB0
    have HB1 : Hid (W1.heap[w.heap.size + 1]? = some (Obj.cells #[Value.int .i64 k, .string t, .slice A' n cap', .slice Q' m qc'] 30)) := hB1
    clear hB0 hB1
    go_loopw [5] (fun i wr => ∃ k d : Nat, k ≤ m ∧ i = .int .i64 k ∧ wr = W1.drewN d ∧ ∀ j, j < k → nm j = nm' j) (fun i _ => m - (intOf i).toNat)
    case atStart => exact ⟨0, 0, Nat.zero_le _, rfl, rfl, fun j hj => absurd hj (Nat.not_lt_zero _)⟩
    case round =>
      obtain ⟨p, d, hp, rfl, rfl, hsame⟩ := hrel
      have HSa : Hid (∀ j, j < p → nm j = nm' j) := hsame
      clear hsame
      have q0 : W1.cell? ⟨w.heap.size, 3, none⟩ = some (.slice Q m qc) := by rw [cell_of HB0.out]; rfl
      have q1 : W1.cell? ⟨w.heap.size + 1, 3, none⟩ = some (.slice Q' m qc') := by rw [cell_of HB1.out]; rfl
      by_cases hlt : p < m
      · have hk0 : (0 : Int) ≤ (p : Int) := by omega
        have hk1 : (p : Int) < (m : Int) := by omega
        obtain ⟨Q1, c1, e1, -, hc⟩ := HN.below ba
        obtain ⟨b, o, e2, hs1, -⟩ := hc p hlt
        simp only [Value.slice.injEq] at e1
        obtain ⟨e3, -, e4⟩ := e1
        subst e3 e4
        subst e2
        clear hc
        obtain ⟨Q1, c1, e1, -, hc⟩ := HN'.below ba
        obtain ⟨b', o', e2, hs2, -⟩ := hc p hlt
        simp only [Value.slice.injEq] at e1
        obtain ⟨e3, -, e4⟩ := e1
        subst e3 e4
        subst e2
        clear hc
        by_cases hx : nm p = nm' p
        · have hx2 := str_eq hx
          have HX : Hid (nm p = nm' p) := hx
          clear hx
          go_wp2
          go_quiet (fail)
          go_wp2
          go_roundw
          case rel =>
            refine ⟨p + 1, _, by omega, by go_num, rfl, fun j hj => ?_⟩
            by_cases hjp : j = p
            · subst hjp; exact HX.out
            · exact HSa.out j (by omega)
          case measure => simp [intOf]; omega
        · have hx2 := str_ne hx
          go_wp2
          go_quiet (fail)
          go_wp2
          go_ret
          exact ⟨false, rfl, by rw [HS.out]; simp only [Bool.false_eq_true, false_iff]; exact fun hh => hx (hh.2.2.2.2.1 p hlt), below_trans ba (below_trans (below_drewN _ _) (below_drewN _ _))⟩
      · obtain rfl : p = m := by omega
        go_wp2
        clear q0 q1
        have HBel : Hid (Below W1.heap.size W1 (W1.drewN d)) := below_drewN _ _
        go_loopw [6] (fun i wr => ∃ p : Nat, p ≤ n ∧ i = .int .i64 p ∧ Below W1.heap.size W1 wr ∧ ∀ j, j < p → Same (it j) (it' j)) (fun i _ => n - (intOf i).toNat)
        case atStart => exact ⟨0, Nat.zero_le _, rfl, HBel.out, fun j hj => absurd hj (Nat.not_lt_zero _)⟩
        case round =>
          obtain ⟨p, hp, rfl, hbel, hsame⟩ := hrel
          have HSi : Hid (∀ j, j < p → Same (it j) (it' j)) := hsame
          clear hsame
          have q0 : wr.cell? ⟨w.heap.size, 2, none⟩ = some (.slice A n cap) := by rw [hbel.cell (by simp only; omega), cell_of HB0.out]; rfl
          have q1 : wr.cell? ⟨w.heap.size + 1, 2, none⟩ = some (.slice A' n cap') := by rw [hbel.cell (by simp only; omega), cell_of HB1.out]; rfl
          by_cases hlt : p < n
          · have hk0 : (0 : Int) ≤ (p : Int) := by omega
            have hk1 : (p : Int) < (n : Int) := by omega
            have bb := below_trans ba hbel
            obtain ⟨A1, cap1, e1, -, hc⟩ := HI.below bb
            obtain ⟨b, o, c0, c1, c2, c3, e2, hf, hat⟩ := hc p hlt
            simp only [Value.slice.injEq] at e1
            obtain ⟨e3, -, e4⟩ := e1
            subst e3 e4
            subst e2
            clear hc
            obtain ⟨A1, cap1, e1, -, hc⟩ := HI'.below bb
            obtain ⟨b', o', d0, d1, d2, d3, e2, hf', hat'⟩ := hc p hlt
            simp only [Value.slice.injEq] at e1
            obtain ⟨e3, -, e4⟩ := e1
            subst e3 e4
            subst e2
            clear hc
            obtain ⟨f0, f1, f2, f3⟩ := hf
            obtain ⟨g0, g1, g2, g3⟩ := hf'
            have cd : Calls Try.prog 6 #[.agg #[c0, c1, c2, c3], .agg #[d0, d1, d2, d3]] wr.drew fun e w' => ∃ r : Bool, e = .returned (.bool r) ∧ (r = true ↔ Same (it p) (it' p)) ∧ Below wr.heap.size wr w' :=
              (hit p hlt (it' p) wr.drew c0 c1 c2 c3 d0 d1 d2 d3 (At.below (below_drew _) _ hat) (At.below (below_drew _) _ hat')).mono fun e w' ⟨r, he, hr, hb⟩ => ⟨r, he, hr, below_trans (below_drew wr) hb⟩
            go_wp2
            go_region_with (go_at_call 6; refine cd.mono ?_; rintro e w1 ⟨r, rfl, hr, hb1⟩)
            all_goals
              cases r with
              | false =>
                have hno : ¬ Same (it p) (it' p) := fun hh => by have := hr.2 hh; cases this
                clear hr
                go_wp2
                go_ret
                exact ⟨false, rfl, by rw [HS.out]; simp only [Bool.false_eq_true, false_iff]; exact fun hh => hno (hh.2.2.2.2.2 p hlt), below_trans bb hb1⟩
              | true =>
                have hyes : Hid (Same (it p) (it' p)) := hr.1 rfl
                clear hr
                go_wp2
                go_roundw
                case rel =>
                  refine ⟨p + 1, by omega, by go_num, below_trans hbel hb1, fun j hj => ?_⟩
                  by_cases hjp : j = p
                  · subst hjp; exact hyes.out
                  · exact HSi.out j (by omega)
                case measure => simp [intOf]; omega
          · obtain rfl : p = n := by omega
            go_wp2
            go_ret
            exact ⟨true, rfl, by rw [HS.out]; simp only [true_iff]; exact ⟨trivial, trivial, trivial, trivial, HSa.out, HSi.out⟩, below_trans ba hbel⟩

theorem smV : ∀ v : V, SmOne v
  | .no => fun _ _ _ _ _ _ _ _ _ _ h => h.elim
  | .mk k t n it m nm => smStep k t n it m nm fun i _ => smV (it i)
end Va
end Go.Proofs.Ytngfhncdmlpjiaa
