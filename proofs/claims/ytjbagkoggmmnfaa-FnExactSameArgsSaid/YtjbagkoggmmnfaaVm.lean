/- What is proved: the program's SameValue says whether two values are the same, part by part. -/
import Derived.Test.YtjbagkoggmmnfaaVb
import Derived.Deep.RegionLaw
import Derived.Deep.AppendLies
namespace Go.Proofs.Ytjbagkoggmmnfaa
namespace Va
open Go.RowKit
attribute [local go_sem ↓] Go.wp_at_zero Go.wp_at_succ

/-- How many values there are in one. -/
def nodes : V → Nat
  | .no => 1
  | .mk _ _ n it _ _ => 1 + sumTo (fun i => nodes (it i)) n
theorem nodes_mk (k : Int) (t : ByteArray) (n : Nat) (it : Nat → V) (m : Nat) (nm : Nat → ByteArray) : nodes (.mk k t n it m nm) = 1 + sumTo (fun i => nodes (it i)) n := rfl
theorem sumTo_add (f g : Nat → Nat) (h : ∀ i, f i ≤ g i + 1) (n : Nat) : sumTo f n ≤ n + sumTo g n := by
  induction n with
  | zero => simp [sumTo]
  | succ n ih => have := h n; simp only [sumTo]; omega
theorem nodes_sz : ∀ v : V, nodes v ≤ sz v + 1
  | .no => by simp [nodes]
  | .mk k t n it m nm => by
    have := sumTo_add (fun i => nodes (it i)) (fun i => sz (it i)) (fun i => nodes_sz (it i)) n
    rw [nodes_mk, sz_mk]; unfold szs; omega

/-- Pairs that wait, the last one first: eight cells each. -/
def Stack (w : World) : List (V × V) → List Value → Prop
  | [], xs => xs = []
  | p :: L, xs => ∃ ys c0 c1 c2 c3 d0 d1 d2 d3, xs = ys ++ [c0, c1, c2, c3, d0, d1, d2, d3] ∧ At w p.1 c0 c1 c2 c3 ∧ At w p.2 d0 d1 d2 d3 ∧ Stack w L ys
theorem Stack.length {w : World} : ∀ {L : List (V × V)} {xs : List Value}, Stack w L xs → xs.length = L.length * 8
  | [], _, h => by simp [Stack] at h; simp [h]
  | p :: L, _, h => by
    obtain ⟨ys, c0, c1, c2, c3, d0, d1, d2, d3, rfl, -, -, h⟩ := h
    have := h.length
    simp [this]; omega
/-- The first p pairs of items, on top. -/
def kids (it it' : Nat → V) (L : List (V × V)) : Nat → List (V × V)
  | 0 => L
  | p + 1 => (it p, it' p) :: kids it it' L p
def weight : List (V × V) → Nat
  | [] => 0
  | p :: L => nodes p.1 + weight L
theorem kids_length (it it' : Nat → V) (L : List (V × V)) (p : Nat) : (kids it it' L p).length = L.length + p := by
  induction p with
  | zero => rfl
  | succ p ih => simp [kids, ih]; omega
theorem kids_weight (it it' : Nat → V) (L : List (V × V)) (p : Nat) : weight (kids it it' L p) = weight L + sumTo (fun i => nodes (it i)) p := by
  induction p with
  | zero => rfl
  | succ p ih => simp only [kids, weight, sumTo, ih]; omega
theorem nodes_pos (v : V) : 1 ≤ nodes v := by cases v <;> simp [nodes]
theorem weight_length (L : List (V × V)) : L.length ≤ weight L := by
  induction L with
  | nil => simp [weight]
  | cons p L ih => have := nodes_pos p.1; simp only [List.length_cons, weight]; omega
def AllSame (L : List (V × V)) : Prop := ∀ p ∈ L, Same p.1 p.2
theorem kids_same (it it' : Nat → V) (L : List (V × V)) (p : Nat) : AllSame (kids it it' L p) ↔ AllSame L ∧ ∀ i, i < p → Same (it i) (it' i) := by
  induction p with
  | zero => simp [kids]
  | succ p ih =>
    simp only [kids, AllSame, List.mem_cons, forall_eq_or_imp] at ih ⊢
    rw [ih]
    constructor
    · rintro ⟨h1, h2, h3⟩
      refine ⟨h2, fun i hi => ?_⟩
      by_cases hip : i = p
      · subst hip; exact h1
      · exact h3 i (by omega)
    · rintro ⟨h1, h2⟩
      exact ⟨h2 p (by omega), h1, fun i hi => h2 i (by omega)⟩
theorem same_iff (v u : V) : Same v u ↔ Beside v u ∧ (match v, u with | .mk _ _ n it _ _, .mk _ _ n' it' _ _ => n = n' ∧ ∀ i, i < n → Same (it i) (it' i) | _, _ => False) := by
  cases v <;> cases u <;> simp [Same, Beside]
  constructor
  · rintro ⟨h1, h2, h3, h4, h5, h6⟩; exact ⟨⟨h1, h2, h4, h5⟩, h3, h6⟩
  · rintro ⟨⟨h1, h2, h4, h5⟩, h3, h6⟩; exact ⟨h1, h2, h3, h4, h5, h6⟩

def zeroP : Value := .agg #[.int .i64 0, .string ⟨#[]⟩, .slice none 0 0, .slice none 0 0, .int .i64 0, .string ⟨#[]⟩, .slice none 0 0, .slice none 0 0]
theorem infoP : (Try.prog.info? 50).map (fun i => (i.zero, i.size, i.bytes)) = some (some zeroP, 8, 144) := by kernel_rfl

/-- A row that is cut at its end. -/
theorem own_cut {w : World} {B e size g n cap : Nat} {xs ys : List Value} (h : w.ownsRow B e size (.slice (some ⟨g, 0, none⟩) (n + 1) cap) (n + 1) (xs ++ ys)) (hx : xs.length = n * size) :
    w.ownsRow B e size (.slice (some ⟨g, 0, none⟩) n cap) n xs := by
  obtain ⟨hl, h⟩ := h
  refine ⟨hx, ?_⟩
  rcases h with ⟨h, -⟩ | ⟨g', cap', cur, hv, hB, hg, h1, h2, h3, h4⟩
  · cases h
  · simp only [Value.slice.injEq, Option.some.injEq, Addr.mk.injEq, true_and, and_true] at hv
    obtain ⟨rfl, rfl⟩ := hv
    refine .inr ⟨g, cap, cur, rfl, hB, hg, by omega, h2, h3, ?_⟩
    have h5 := congrArg (List.take (n * size)) h4
    rw [List.take_take, Nat.min_eq_left (Nat.mul_le_mul_right _ (by omega)), ← hx, List.take_left] at h5
    rw [← hx]; exact h5
theorem own_block {w : World} {B e size g n cap : Nat} {xs : List Value} (h : w.ownsRow B e size (.slice (some ⟨g, 0, none⟩) n cap) n xs) : B ≤ g ∧ ∃ cur, w.heap[g]? = some (.cells cur e (0, 0)) := by
  rcases h.2 with ⟨h, -⟩ | ⟨g', cap', cur, hv, hB, hg, -⟩
  · cases h
  · simp only [Value.slice.injEq, Option.some.injEq, Addr.mk.injEq, true_and, and_true] at hv
    obtain ⟨rfl, rfl⟩ := hv
    exact ⟨hB, cur, hg⟩
theorem own_below {w w' : World} {B e size n : Nat} {v : Value} {xs : List Value} (h : w.ownsRow B e size v n xs) (hb : Below w.heap.size w w') : w'.ownsRow B e size v n xs := by
  refine ⟨h.1, ?_⟩
  rcases h.2 with h0 | ⟨g, cap, cur, hv, hB, hg, h1, h2, h3, h4⟩
  · exact .inl h0
  · exact .inr ⟨g, cap, cur, hv, hB, (hb.block g (lt_of hg)).trans hg, h1, h2, h3, h4⟩
theorem its_len {w : World} {n n' c : Nat} {it : Nat → V} {A : Option Addr} (h : Its w n it (.slice A n' c)) : n' = n := by
  obtain ⟨A', c', e, -⟩ := h; simp only [Value.slice.injEq] at e; exact e.2.1
theorem push_step {w wr X w2 : World} {g n cap : Nat} {xs : List Value} {e : TypeId} {size : Nat} (he : e ≠ 37) (hown : wr.ownsRow w.heap.size e size (.slice (some ⟨g, 0, none⟩) n cap) n xs) (hX : Below wr.heap.size wr X)
    (hgrow : X.grownBy w2 (Value.slice (some ⟨g, 0, none⟩) n cap).ownBlock) (hbel : Below w.heap.size w wr) :
    Below w.heap.size w w2 ∧ ∀ (P : Nat) (cs : Array Value), wr.heap[P]? = some (.cells cs 37 (0, 0)) → w2.heap[P]? = some (.cells cs 37 (0, 0)) := by
  obtain ⟨hB, cur, hg⟩ := own_block hown
  have hs1 := hbel.size
  have hs2 := hX.size
  refine ⟨(hbel.trans (hX.mono hs1)).grown hgrow (by omega) (fun k hk => ?_), fun P cs hP => ?_⟩
  · simp only [Value.ownBlock, Option.some.injEq] at hk; omega
  · have hPg : P ≠ g := fun h => by
      subst h; rw [hP] at hg
      simp only [Option.some.injEq, Obj.cells.injEq] at hg
      exact he hg.2.1.symm
    have hPl := lt_of hP
    rw [hgrow.block P (by omega) (by simp only [Value.ownBlock]; intro h; exact hPg (Option.some.inj h)), hX.block P hPl]
    exact hP
end Va
end Go.Proofs.Ytjbagkoggmmnfaa
