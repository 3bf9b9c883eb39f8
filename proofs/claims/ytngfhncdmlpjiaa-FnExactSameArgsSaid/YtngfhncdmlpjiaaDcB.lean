/- What is proved: pairs of lists that wait to be held against each other: how they lie in memory, what they weigh, what is to be the same. -/
import Derived.Test.YtngfhncdmlpjiaaDcA
import Derived.Deep.RegionLaw
import Derived.Deep.LoopGhost
import Derived.Deep.CutBlock
import Derived.Deep.DeepCutAuto
namespace Go.Proofs.Ytngfhncdmlpjiaa
namespace Dc
set_option linter.unusedVariables false
open Go.RowKit Da
attribute [local go_sem ↓] Go.wp_at_zero Go.wp_at_succ

/-- Pairs that wait, the last one first: two cells each. -/
def Stk (w : World) (k : K) : List (D × D) → List Value → Prop
  | [], xs => xs = []
  | p :: L, xs => ∃ ys c d, xs = ys ++ [c, d] ∧ At w p.1 c ∧ At w p.2 d ∧ Sh p.1 (.lst k) ∧ Sh p.2 (.lst k) ∧ Stk w k L ys
theorem Stk.length {w : World} {k : K} : ∀ {L : List (D × D)} {xs : List Value}, Stk w k L xs → xs.length = L.length * 2
  | [], _, h => by simp [Stk] at h; simp [h]
  | p :: L, _, h => by
    obtain ⟨ys, c, d, rfl, -, -, -, -, h⟩ := h
    have := h.length
    simp [this]; omega
/-- The first p pairs of lists in the cell col, on top. -/
def kids (col : Nat) (it it' : Nat → Nat → D) (L : List (D × D)) : Nat → List (D × D)
  | 0 => L
  | p + 1 => (it p col, it' p col) :: kids col it it' L p
def weight : List (D × D) → Nat
  | [] => 0
  | p :: L => (1 + sz p.1) + weight L
theorem kids_length (col : Nat) (it it' : Nat → Nat → D) (L : List (D × D)) (p : Nat) : (kids col it it' L p).length = L.length + p := by
  induction p with
  | zero => rfl
  | succ p ih => simp [kids, ih]; omega
theorem kids_weight (col : Nat) (it it' : Nat → Nat → D) (L : List (D × D)) (p : Nat) : weight (kids col it it' L p) = weight L + sumTo (fun i => 1 + sz (it i col)) p := by
  induction p with
  | zero => rfl
  | succ p ih => simp only [kids, weight, sumTo, ih]; omega
theorem weight_length (L : List (D × D)) : L.length ≤ weight L := by
  induction L with
  | nil => simp [weight]
  | cons p L ih => simp only [List.length_cons, weight]; omega
theorem weight_mem {L : List (D × D)} {p : D × D} (h : p ∈ L) : sz p.1 ≤ weight L := by
  induction L with
  | nil => cases h
  | cons q L ih =>
    rcases List.mem_cons.1 h with rfl | h
    · simp only [weight]; omega
    · have := ih h; simp only [weight]; omega
theorem sum_kids {W n col : Nat} {it : Nat → Nat → D} (hc : col < W) (p : Nat) (hp : p ≤ n) : sumTo (fun i => 1 + sz (it i col)) p ≤ sz (.list W n it) := by
  have : ∀ q, sumTo (fun i => 1 + sz (it i col)) q ≤ q + sumTo (fun i => sumTo (fun j => sz (it i j)) W) q := fun q => by
    induction q with
    | zero => simp [sumTo]
    | succ q ih =>
      have := sumTo_lt (fun j => sz (it q j)) hc
      simp only [sumTo]; omega
  have h1 := this p
  have h2 := sumTo_le (fun i => sumTo (fun j => sz (it i j)) W) hp
  simp only [sz]; omega
def AllSm (L : List (D × D)) : Prop := ∀ p ∈ L, sm p.1 p.2 = true
theorem kids_same (col : Nat) (it it' : Nat → Nat → D) (L : List (D × D)) (p : Nat) : AllSm (kids col it it' L p) ↔ AllSm L ∧ ∀ i, i < p → sm (it i col) (it' i col) = true := by
  induction p with
  | zero => simp [kids]
  | succ p ih =>
    simp only [kids, AllSm, List.mem_cons, forall_eq_or_imp] at ih ⊢
    rw [ih]
    constructor
    · rintro ⟨h1, h2, h3⟩
      refine ⟨h2, fun i hi => ?_⟩
      by_cases hip : i = p
      · subst hip; exact h1
      · exact h3 i (by omega)
    · rintro ⟨h1, h2⟩
      exact ⟨h2 p (by omega), h1, fun i hi => h2 i (by omega)⟩
theorem row_split {W col : Nat} (hc : col < W) (r r' : Nat → D) : smR W r r' = true ↔ smX W col r r' = true ∧ sm (r col) (r' col) = true := by
  simp only [smR, smX, allB_iff, Bool.or_eq_true, beq_iff_eq]
  constructor
  · exact fun h => ⟨fun j hj => .inr (h j hj), h col hc⟩
  · rintro ⟨h1, h2⟩ j hj
    rcases h1 j hj with rfl | h
    · exact h2
    · exact h
theorem list_split {W W' col n n' : Nat} (hc : col < W) (it it' : Nat → Nat → D) :
    sm (.list W n it) (.list W' n' it') = true ↔ (n == n' && allB (fun i => smX W col (it i) (it' i)) n) = true ∧ ∀ i, i < n → sm (it i col) (it' i col) = true := by
  rw [sm_list, Bool.and_eq_true, Bool.and_eq_true, allB_iff, allB_iff]
  constructor
  · rintro ⟨h1, h2⟩
    exact ⟨⟨h1, fun i hi => ((row_split hc _ _).1 (h2 i hi)).1⟩, fun i hi => ((row_split hc _ _).1 (h2 i hi)).2⟩
  · rintro ⟨⟨h1, h2⟩, h3⟩
    exact ⟨h1, fun i hi => (row_split hc _ _).2 ⟨h2 i hi, h3 i hi⟩⟩

/-- A row that is cut at its end. -/
theorem own_cut {w : World} {B e size g n cap : Nat} {xs ys : List Value} (h : w.ownsRow B e size (.slice (some ⟨g, 0, none⟩) (n + 1) cap) (n + 1) (xs ++ ys)) (hx : xs.length = n * size) :
    w.ownsRow B e size (.slice (some ⟨g, 0, none⟩) n cap) n xs := by
  obtain ⟨hl, h⟩ := h
  refine ⟨hx, ?_⟩
  rcases h with ⟨h, -⟩ | ⟨g', cap', cur, hv, hB, hg, h1, h2, h3, h4⟩
  · cases h
  · simp only [Value.slice.injEq, Option.some.injEq, Addr.mk.injEq, true_and, and_true] at hv
    obtain ⟨rfl, rfl⟩ := hv
    refine .inr ⟨g, cap, cur, rfl, hB, hg, by omega, h2, h3, ?_⟩
    have h5 := congrArg (List.take (n * size)) h4
    rw [List.take_take, Nat.min_eq_left (Nat.mul_le_mul_right _ (by omega)), ← hx, List.take_left] at h5
    rw [← hx]; exact h5
theorem own_block {w : World} {B e size g n cap : Nat} {xs : List Value} (h : w.ownsRow B e size (.slice (some ⟨g, 0, none⟩) n cap) n xs) : B ≤ g ∧ n ≤ cap ∧ cap ≤ maxLen ∧ ∃ cur, w.heap[g]? = some (.cells cur e (0, 0)) := by
  rcases h.2 with ⟨h, -⟩ | ⟨g', cap', cur, hv, hB, hg, h1, h2, h3, h4⟩
  · cases h
  · simp only [Value.slice.injEq, Option.some.injEq, Addr.mk.injEq, true_and, and_true] at hv
    obtain ⟨rfl, rfl⟩ := hv
    exact ⟨hB, h1, h2, cur, hg⟩
theorem own_below {w w' : World} {B e size n : Nat} {v : Value} {xs : List Value} (h : w.ownsRow B e size v n xs) (hb : Below w.heap.size w w') : w'.ownsRow B e size v n xs := by
  refine ⟨h.1, ?_⟩
  rcases h.2 with h0 | ⟨g, cap, cur, hv, hB, hg, h1, h2, h3, h4⟩
  · exact .inl h0
  · exact .inr ⟨g, cap, cur, hv, hB, (hb.block g (ltOf hg)).trans hg, h1, h2, h3, h4⟩
/-- Three new blocks, behind a draw. -/
theorem threeNew (w : World) (A B C : Obj) : (((w.alloc A).alloc B).alloc C).drew.heap[w.heap.size + 1 + 1]? = some C := by
  show (((w.alloc A).alloc B).alloc C).heap[w.heap.size + 1 + 1]? = some C
  have := heap_alloc_new ((w.alloc A).alloc B) C
  simpa using this
theorem threeBelow (w : World) (A B C : Obj) : Below w.heap.size w (((w.alloc A).alloc B).alloc C).drew := (((below_alloc w A).alloc (by simp) B).alloc (by simp; omega) C).drew
/-- Four new blocks. -/
theorem fourNew (w : World) (A B C E : Obj) : ((((w.alloc A).alloc B).alloc C).alloc E).heap[w.heap.size + 1 + 1]? = some C ∧ ((((w.alloc A).alloc B).alloc C).alloc E).heap[w.heap.size + 1 + 1 + 1]? = some E ∧ Below w.heap.size w ((((w.alloc A).alloc B).alloc C).alloc E) := by
  refine ⟨?_, ?_, (((below_alloc w A).alloc (by simp) B).alloc (by simp; omega) C).alloc (by simp; omega) E⟩
  · rw [Below.heap_alloc _ _ _ (by simp)]
    have := heap_alloc_new ((w.alloc A).alloc B) C
    simpa using this
  · have := heap_alloc_new (((w.alloc A).alloc B).alloc C) E
    simpa using this
/-- What is appended to an own row writes nothing old. -/
theorem push_below {w wr X w2 : World} {g n cap : Nat} {xs : List Value} {e : TypeId} {size : Nat} (hown : X.ownsRow w.heap.size e size (.slice (some ⟨g, 0, none⟩) n cap) n xs) (hX : Below wr.heap.size wr X)
    (hgrow : X.grownBy w2 (Value.slice (some ⟨g, 0, none⟩) n cap).ownBlock) (hbel : Below w.heap.size w wr) : Below w.heap.size w w2 := by
  obtain ⟨hB, -, -, cur, hg⟩ := own_block hown
  have hs1 := hbel.size
  have hs2 := hX.size
  refine (hbel.trans (hX.mono hs1)).grown hgrow (by omega) (fun k hk => ?_)
  simp only [Value.ownBlock, Option.some.injEq] at hk; omega
end Dc
end Go.Proofs.Ytngfhncdmlpjiaa
