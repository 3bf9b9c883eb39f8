/- What is proved: values in memory of their own: where their blocks lie, that they lie there still, and that they are values. -/
import Derived.Test.YtngfhncdmlpjiaaVz
namespace Go.Proofs.Ytngfhncdmlpjiaa
namespace Va
open Go.RowKit

def OwnN (w : World) (lo hi m : Nat) (nm : Nat → ByteArray) (c : Value) : Prop :=
  ∃ g cur, c = .slice (some ⟨g, 0, none⟩) m m ∧ m ≤ maxLen ∧ lo ≤ g ∧ g < hi ∧ w.heap[g]? = some (.cells cur 9 (0, 0)) ∧ cur.size = m ∧ ∀ j, j < m → cur[j]? = some (.string (nm j)) ∧ (nm j).size ≤ maxLen

/-- The value v in blocks of its own, from lo up to hi. -/
def Own (w : World) : V → Nat → Nat → Value → Value → Value → Value → Prop
  | .no, _, _, _, _, _, _ => False
  | .mk k t n it m nm, lo, hi, c0, c1, c2, c3 => c0 = .int .i64 k ∧ c1 = .string t ∧ t.size ≤ maxLen ∧ ∃ mid,
    (∃ (g : Nat) (r : Nat → Nat) (cur : Array Value), c2 = .slice (some ⟨g, 0, none⟩) n n ∧ n ≤ maxLen ∧ lo ≤ g ∧ g < r 0 ∧ r n ≤ mid ∧ (∀ i, i < n → r i ≤ r (i + 1)) ∧ w.heap[g]? = some (.cells cur 30 (0, 0)) ∧ cur.size = n * 4 ∧
      ∀ i, i < n → ∃ d0 d1 d2 d3, cur[i * 4]? = some d0 ∧ cur[i * 4 + 1]? = some d1 ∧ cur[i * 4 + 2]? = some d2 ∧ cur[i * 4 + 3]? = some d3 ∧ Own w (it i) (r i) (r (i + 1)) d0 d1 d2 d3) ∧
    OwnN w mid hi m nm c3

def OwnI (w : World) (lo hi n : Nat) (it : Nat → V) (c : Value) : Prop :=
  ∃ (g : Nat) (r : Nat → Nat) (cur : Array Value), c = .slice (some ⟨g, 0, none⟩) n n ∧ n ≤ maxLen ∧ lo ≤ g ∧ g < r 0 ∧ r n ≤ hi ∧ (∀ i, i < n → r i ≤ r (i + 1)) ∧ w.heap[g]? = some (.cells cur 30 (0, 0)) ∧ cur.size = n * 4 ∧
    ∀ i, i < n → ∃ d0 d1 d2 d3, cur[i * 4]? = some d0 ∧ cur[i * 4 + 1]? = some d1 ∧ cur[i * 4 + 2]? = some d2 ∧ cur[i * 4 + 3]? = some d3 ∧ Own w (it i) (r i) (r (i + 1)) d0 d1 d2 d3

theorem Own_mk {w : World} {k : Int} {t : ByteArray} {n m lo hi : Nat} {it : Nat → V} {nm : Nat → ByteArray} {c0 c1 c2 c3 : Value} :
    Own w (.mk k t n it m nm) lo hi c0 c1 c2 c3 ↔ c0 = .int .i64 k ∧ c1 = .string t ∧ t.size ≤ maxLen ∧ ∃ mid, OwnI w lo mid n it c2 ∧ OwnN w mid hi m nm c3 := Iff.rfl

theorem r_le {r : Nat → Nat} {n : Nat} (h : ∀ i, i < n → r i ≤ r (i + 1)) {i j : Nat} (hij : i ≤ j) (hj : j ≤ n) : r i ≤ r j := by
  induction j with
  | zero => obtain rfl : i = 0 := by omega
            exact Nat.le_refl _
  | succ j ih =>
    rcases Nat.lt_or_ge j i with h1 | h1
    · obtain rfl : i = j + 1 := by omega
      exact Nat.le_refl _
    · exact Nat.le_trans (ih h1 (by omega)) (h j (by omega))

theorem OwnN.same {w w' : World} {lo hi m : Nat} {nm : Nat → ByteArray} {c : Value} (h : OwnN w lo hi m nm c) (hs : ∀ b, lo ≤ b → b < hi → w'.heap[b]? = w.heap[b]?) : OwnN w' lo hi m nm c := by
  obtain ⟨g, cur, e, hm, h1, h2, hg, hc⟩ := h
  exact ⟨g, cur, e, hm, h1, h2, (hs g h1 h2).trans hg, hc⟩
theorem Own.same {w w' : World} : ∀ (v : V) {lo hi : Nat} {c0 c1 c2 c3 : Value}, Own w v lo hi c0 c1 c2 c3 → (∀ b, lo ≤ b → b < hi → w'.heap[b]? = w.heap[b]?) → Own w' v lo hi c0 c1 c2 c3
  | .no, _, _, _, _, _, _, h, _ => h.elim
  | .mk k t n it m nm, lo, hi, c0, c1, c2, c3, h, hs => by
    obtain ⟨h0, h1, h2, mid, ⟨g, r, cur, e, hn, hlo, hr0, hrn, hr, hg, hcs, hc⟩, hN⟩ := h
    have hgm : g < mid := by have := r_le hr (Nat.zero_le n) (Nat.le_refl n); omega
    have hmh : mid < hi := by obtain ⟨g', _, _, _, q1, q2, _⟩ := hN; omega
    refine ⟨h0, h1, h2, mid, ⟨g, r, cur, e, hn, hlo, hr0, hrn, hr, (hs g hlo (by omega)).trans hg, hcs, fun i hi => ?_⟩, hN.same fun b q1 q2 => hs b (by omega) q2⟩
    obtain ⟨d0, d1, d2, d3, q0, q1, q2, q3, ho⟩ := hc i hi
    have a1 := r_le hr (Nat.zero_le i) (by omega)
    have a2 := r_le hr (i := i + 1) (j := n) hi (Nat.le_refl n)
    exact ⟨d0, d1, d2, d3, q0, q1, q2, q3, Own.same (it i) ho fun b p1 p2 => hs b (by omega) (by omega)⟩
theorem OwnI.same {w w' : World} {lo hi n : Nat} {it : Nat → V} {c : Value} (h : OwnI w lo hi n it c) (hs : ∀ b, lo ≤ b → b < hi → w'.heap[b]? = w.heap[b]?) : OwnI w' lo hi n it c := by
  obtain ⟨g, r, cur, e, hn, hlo, hr0, hrn, hr, hg, hcs, hc⟩ := h
  have hgm : g < hi := by have := r_le hr (Nat.zero_le n) (Nat.le_refl n); omega
  refine ⟨g, r, cur, e, hn, hlo, hr0, hrn, hr, (hs g hlo (by omega)).trans hg, hcs, fun i hi => ?_⟩
  obtain ⟨d0, d1, d2, d3, q0, q1, q2, q3, ho⟩ := hc i hi
  have a1 := r_le hr (Nat.zero_le i) (by omega)
  have a2 := r_le hr (i := i + 1) (j := n) hi (Nat.le_refl n)
  exact ⟨d0, d1, d2, d3, q0, q1, q2, q3, Own.same (it i) ho fun b p1 p2 => hs b (by omega) (by omega)⟩
theorem OwnN.wide {w : World} {lo hi lo' hi' m : Nat} {nm : Nat → ByteArray} {c : Value} (h : OwnN w lo hi m nm c) (h1 : lo' ≤ lo) (h2 : hi ≤ hi') : OwnN w lo' hi' m nm c := by
  obtain ⟨g, cur, e, hm, q1, q2, hg, hc⟩ := h
  exact ⟨g, cur, e, hm, by omega, by omega, hg, hc⟩
theorem OwnI.wide {w : World} {lo hi lo' hi' n : Nat} {it : Nat → V} {c : Value} (h : OwnI w lo hi n it c) (h1 : lo' ≤ lo) (h2 : hi ≤ hi') : OwnI w lo' hi' n it c := by
  obtain ⟨g, r, cur, e, hn, hlo, hr0, hrn, q⟩ := h
  exact ⟨g, r, cur, e, hn, by omega, hr0, by omega, q⟩
theorem Own.wide {w : World} : ∀ (v : V) {lo hi lo' hi' : Nat} {c0 c1 c2 c3 : Value}, Own w v lo hi c0 c1 c2 c3 → lo' ≤ lo → hi ≤ hi' → Own w v lo' hi' c0 c1 c2 c3
  | .no, _, _, _, _, _, _, _, _, h, _, _ => h.elim
  | .mk k t n it m nm, lo, hi, lo', hi', c0, c1, c2, c3, h, h1, h2 => by
    obtain ⟨q0, q1, q2, mid, hI, hN⟩ := Own_mk.1 h
    exact Own_mk.2 ⟨q0, q1, q2, mid, hI.wide h1 (Nat.le_refl _), hN.wide (Nat.le_refl _) h2⟩

theorem cell_of {w : World} {g : Nat} {cur : Array Value} {t : TypeId} {fr : Nat × Nat} (h : w.heap[g]? = some (.cells cur t fr)) (j : Nat) : w.cell? ⟨g, j, none⟩ = cur[j]? := by simp [World.cell?, h]
theorem frozen_no {w : World} {g : Nat} {cur : Array Value} {t : TypeId} (h : w.heap[g]? = some (.cells cur t (0, 0))) (j : Nat) : w.frozen? ⟨g, j, none⟩ = false := by simp [World.frozen?, h]
theorem lt_of {w : World} {g : Nat} {x : Obj} (h : w.heap[g]? = some x) : g < w.heap.size := by
  rcases Nat.lt_or_ge g w.heap.size with h1 | h1
  · exact h1
  · rw [Array.getElem?_eq_none h1] at h; cases h

theorem OwnN.nam {w : World} {lo hi m : Nat} {nm : Nat → ByteArray} {c : Value} (h : OwnN w lo hi m nm c) : Nam w m nm c := by
  obtain ⟨g, cur, e, hm, h1, h2, hg, hs, hc⟩ := h
  exact ⟨_, _, e, hm, fun j hj => ⟨g, 0, rfl, by rw [cell_of hg, Nat.zero_add]; exact (hc j hj).1, (hc j hj).2⟩⟩
theorem Own.at {w : World} : ∀ (v : V) {lo hi : Nat} {c0 c1 c2 c3 : Value}, Own w v lo hi c0 c1 c2 c3 → At w v c0 c1 c2 c3
  | .no, _, _, _, _, _, _, h => h.elim
  | .mk k t n it m nm, lo, hi, c0, c1, c2, c3, h => by
    obtain ⟨h0, h1, h2, mid, ⟨g, r, cur, e, hn, hlo, hr0, hrn, hr, hg, hcs, hc⟩, hN⟩ := h
    refine ⟨h0, h1, h2, ⟨_, _, e, hn, fun i hi => ?_⟩, hN.nam⟩
    obtain ⟨d0, d1, d2, d3, q0, q1, q2, q3, ho⟩ := hc i hi
    exact ⟨g, 0, d0, d1, d2, d3, rfl, ⟨by rw [cell_of hg, Nat.zero_add]; exact q0, by rw [cell_of hg, Nat.zero_add]; exact q1, by rw [cell_of hg, Nat.zero_add]; exact q2, by rw [cell_of hg, Nat.zero_add]; exact q3⟩, Own.at (it i) ho⟩
theorem OwnI.its {w : World} {lo hi n : Nat} {it : Nat → V} {c : Value} (h : OwnI w lo hi n it c) : Its w n it c := by
  obtain ⟨g, r, cur, e, hn, hlo, hr0, hrn, hr, hg, hcs, hc⟩ := h
  refine ⟨_, _, e, hn, fun i hi => ?_⟩
  obtain ⟨d0, d1, d2, d3, q0, q1, q2, q3, ho⟩ := hc i hi
  exact ⟨g, 0, d0, d1, d2, d3, rfl, ⟨by rw [cell_of hg, Nat.zero_add]; exact q0, by rw [cell_of hg, Nat.zero_add]; exact q1, by rw [cell_of hg, Nat.zero_add]; exact q2, by rw [cell_of hg, Nat.zero_add]; exact q3⟩, Own.at (it i) ho⟩
theorem At.form {w : World} : ∀ {v : V} {d0 d1 d2 d3 : Value}, At w v d0 d1 d2 d3 → ∃ (k : Int) (t : ByteArray) (A B : Option Addr) (n c m e : Nat), d0 = .int .i64 k ∧ d1 = .string t ∧ d2 = .slice A n c ∧ d3 = .slice B m e
  | .no, _, _, _, _, h => h.elim
  | .mk _ _ _ _ _ _, _, _, _, _, h => by
    obtain ⟨h0, h1, -, ⟨A, cap, h2, -⟩, B, cap', h3, -⟩ := h
    exact ⟨_, _, _, _, _, _, _, _, h0, h1, h2, h3⟩
end Va
end Go.Proofs.Ytngfhncdmlpjiaa
