/- What is proved: data in memory of its own: which blocks are its own, that it lies there still where these are not written, and that it is what it is. -/
import Derived.Test.YtfljibjlfjgajaaDaZ
namespace Go.Proofs.Ytfljibjlfjgajaa
namespace Da
set_option linter.unusedVariables false
open Go.RowKit

/-- Blocks from lo up to hi. -/
def rng (lo hi : Nat) (b : Nat) : Prop := lo ≤ b ∧ b < hi
/-- What each cell of n rows of W cells has for itself: within F, without g, no two with a block in common. -/
def Apart (n W g : Nat) (F : Nat → Prop) (H : Nat → Nat → Nat → Prop) : Prop :=
  ∀ i j, i < n → j < W → (∀ b, H i j b → F b ∧ b ≠ g) ∧ ∀ i' j', i' < n → j' < W → (i ≠ i' ∨ j ≠ j') → ∀ b, H i j b → ¬ H i' j' b

/-- The cell c holds it, and all that it leads to lies in blocks of its own, which are in F. -/
def Own (w : World) : D → (Nat → Prop) → Value → Prop
  | .no, _, _ => False
  | .int k, _, c => c = .int .i64 k
  | .str t, _, c => c = .string t ∧ t.size ≤ maxLen
  | .bool b, _, c => c = .bool b
  | .list W n it, F, c => ∃ A cap, c = .slice A n cap ∧ n ≤ cap ∧ cap ≤ maxLen ∧ (0 < n → ∃ (g : Nat) (cur : Array Value) (ty : TypeId) (H : Nat → Nat → Nat → Prop),
      A = some ⟨g, 0, none⟩ ∧ F g ∧ w.heap[g]? = some (.cells cur ty (0, 0)) ∧ n * W ≤ cur.size ∧ Apart n W g F H ∧ ∀ i, i < n → ∀ j, j < W → ∃ d, cur[i * W + j]? = some d ∧ Own w (it i j) (H i j) d)

theorem Own.wide {w : World} {F F' : Nat → Prop} (hF : ∀ b, F b → F' b) : ∀ (d : D) {c : Value}, Own w d F c → Own w d F' c
  | .no, _, h => h
  | .int _, _, h => h
  | .str _, _, h => h
  | .bool _, _, h => h
  | .list W n it, c, h => by
    obtain ⟨A, cap, e, h1, h2, h3⟩ := h
    refine ⟨A, cap, e, h1, h2, fun h0 => ?_⟩
    obtain ⟨g, cur, ty, H, e2, q1, q2, q3, q4, q5⟩ := h3 h0
    exact ⟨g, cur, ty, H, e2, hF g q1, q2, q3, fun i j hi hj => ⟨fun b hb => ⟨hF b ((q4 i j hi hj).1 b hb).1, ((q4 i j hi hj).1 b hb).2⟩, (q4 i j hi hj).2⟩, q5⟩
theorem Own.same {w w' : World} : ∀ (d : D) {F : Nat → Prop} {c : Value}, Own w d F c → (∀ b, F b → w'.heap[b]? = w.heap[b]?) → Own w' d F c
  | .no, _, _, h, _ => h
  | .int _, _, _, h, _ => h
  | .str _, _, _, h, _ => h
  | .bool _, _, _, h, _ => h
  | .list W n it, F, c, h, hs => by
    obtain ⟨A, cap, e, h1, h2, h3⟩ := h
    refine ⟨A, cap, e, h1, h2, fun h0 => ?_⟩
    obtain ⟨g, cur, ty, H, e2, q1, q2, q3, q4, q5⟩ := h3 h0
    refine ⟨g, cur, ty, H, e2, q1, (hs g q1).trans q2, q3, q4, fun i hi j hj => ?_⟩
    obtain ⟨d, hd, ho⟩ := q5 i hi j hj
    exact ⟨d, hd, Own.same (it i j) ho fun b hb => hs b ((q4 i j hi hj).1 b hb).1⟩
theorem Own.at {w : World} : ∀ (d : D) {F : Nat → Prop} {c : Value}, Own w d F c → At w d c
  | .no, _, _, h => h
  | .int _, _, _, h => h
  | .str _, _, _, h => h
  | .bool _, _, _, h => h
  | .list W n it, F, c, h => by
    obtain ⟨A, cap, e, h1, h2, h3⟩ := h
    refine ⟨A, cap, e, by omega, fun i hi => ?_⟩
    obtain ⟨g, cur, ty, H, e2, q1, q2, q3, q4, q5⟩ := h3 (by omega)
    refine ⟨g, 0, e2, fun j hj => ?_⟩
    obtain ⟨d, hd, ho⟩ := q5 i hi j hj
    exact ⟨d, by rw [cell_of q2, Nat.zero_add]; exact hd, Own.at (it i j) ho⟩
theorem Own.below {w w' : World} {F : Nat → Prop} {d : D} {c : Value} (h : Own w d F c) (hb : Below w.heap.size w w') (hF : ∀ b, F b → b < w.heap.size) : Own w' d F c :=
  Own.same d h fun b h => hb.block b (hF b h)
theorem Own.slice {w : World} {W n : Nat} {it : Nat → Nat → D} {F : Nat → Prop} {c : Value} (h : Own w (.list W n it) F c) : ∃ A cap, c = .slice A n cap ∧ n ≤ cap ∧ cap ≤ maxLen := by
  obtain ⟨A, cap, e, h1, h2, -⟩ := h
  exact ⟨A, cap, e, h1, h2⟩
/-- The form of what a cell holds. -/
theorem At.int {w : World} {d : D} {c : Value} (h : At w d c) (hs : Sh d .int) : ∃ k, c = .int .i64 k := by
  obtain ⟨k, rfl⟩ := hs.int
  exact ⟨k, h⟩
theorem At.str {w : World} {d : D} {c : Value} (h : At w d c) (hs : Sh d .str) : ∃ t, c = .string t := by
  obtain ⟨k, rfl⟩ := hs.str
  exact ⟨k, h.1⟩
theorem At.lst {w : World} {d : D} {c : Value} {k : K} (h : At w d c) (hs : Sh d (.lst k)) : ∃ A n cap, c = .slice A n cap := by
  obtain ⟨n, it, rfl, -⟩ := hs.lst
  obtain ⟨A, cap, e, -⟩ := h
  exact ⟨A, n, cap, e⟩

/-- A row of cells that is its own. -/
def OwnR (w : World) (r : Nat → D) (F : Nat → Prop) (cs : List Value) : Prop :=
  ∃ G : Nat → Nat → Prop, (∀ j, j < cs.length → (∀ b, G j b → F b) ∧ ∀ j', j' < cs.length → j ≠ j' → ∀ b, G j b → ¬ G j' b) ∧ ∀ j v, cs[j]? = some v → Own w (r j) (G j) v
theorem OwnR.same {w w' : World} {r : Nat → D} {F : Nat → Prop} {cs : List Value} (h : OwnR w r F cs) (hs : ∀ b, F b → w'.heap[b]? = w.heap[b]?) : OwnR w' r F cs := by
  obtain ⟨G, h1, h2⟩ := h
  refine ⟨G, h1, fun j v hv => Own.same _ (h2 j v hv) fun b hb => hs b ((h1 j ?_).1 b hb)⟩
  rcases Nat.lt_or_ge j cs.length with h | h
  · exact h
  · rw [List.getElem?_eq_none h] at hv; cases hv
theorem OwnR.wide {w : World} {r : Nat → D} {F F' : Nat → Prop} {cs : List Value} (h : OwnR w r F cs) (hF : ∀ b, F b → F' b) : OwnR w r F' cs := by
  obtain ⟨G, h1, h2⟩ := h
  exact ⟨G, fun j hj => ⟨fun b hb => hF b ((h1 j hj).1 b hb), (h1 j hj).2⟩, h2⟩
theorem OwnR.at {w : World} {r : Nat → D} {F : Nat → Prop} {cs : List Value} (h : OwnR w r F cs) : ∀ j v, cs[j]? = some v → At w (r j) v := by
  obtain ⟨G, h1, h2⟩ := h
  exact fun j v hv => Own.at _ (h2 j v hv)

/-! ### Cells that are stored one behind the other -/
def stores (w : World) (g p : Nat) : List Value → World
  | [] => w
  | v :: vs => stores (w.setCell ⟨g, p, none⟩ v) g (p + 1) vs
def setRow (cur : Array Value) (p : Nat) : List Value → Array Value
  | [] => cur
  | v :: vs => setRow (cur.setIfInBounds p v) (p + 1) vs
theorem stores_heap {ty : TypeId} {g : Nat} : ∀ (vs : List Value) (w : World) (p : Nat) (cur : Array Value), w.heap[g]? = some (.cells cur ty (0, 0)) → (stores w g p vs).heap[g]? = some (.cells (setRow cur p vs) ty (0, 0))
  | [], _, _, _, h => h
  | v :: vs, w, p, cur, h => stores_heap vs _ (p + 1) _ (heap_setCell_same w g p cur ty v h)
theorem stores_other {g b : Nat} (hb : b ≠ g) : ∀ (vs : List Value) (w : World) (p : Nat), (stores w g p vs).heap[b]? = w.heap[b]?
  | [], _, _ => rfl
  | v :: vs, w, p => by rw [stores, stores_other hb vs]; exact Below.heap_setCell _ _ _ _ (by simpa using hb)
theorem stores_size {g : Nat} : ∀ (vs : List Value) (w : World) (p : Nat), (stores w g p vs).heap.size = w.heap.size
  | [], _, _ => rfl
  | v :: vs, w, p => by rw [stores, stores_size vs]; simp [World.setCell]
theorem stores_below {g B : Nat} {w0 : World} (hg : B ≤ g) : ∀ (vs : List Value) (w : World) (p : Nat), Below B w0 w → Below B w0 (stores w g p vs)
  | [], _, _, h => h
  | v :: vs, w, p, h => stores_below hg vs _ (p + 1) (h.setCell hg v)
theorem setRow_size : ∀ (vs : List Value) (cur : Array Value) (p : Nat), (setRow cur p vs).size = cur.size
  | [], _, _ => rfl
  | v :: vs, cur, p => by rw [setRow, setRow_size vs]; simp
theorem setRow_out {q : Nat} : ∀ (vs : List Value) (cur : Array Value) (p : Nat), q < p ∨ p + vs.length ≤ q → (setRow cur p vs)[q]? = cur[q]?
  | [], _, _, _ => rfl
  | v :: vs, cur, p, h => by
    simp only [List.length_cons] at h
    rw [setRow, setRow_out vs _ _ (by omega), Array.getElem?_setIfInBounds_ne (by omega)]
theorem setRow_in : ∀ (vs : List Value) (cur : Array Value) (p j : Nat), j < vs.length → p + vs.length ≤ cur.size → (setRow cur p vs)[p + j]? = vs[j]?
  | [], _, _, _, h, _ => absurd h (Nat.not_lt_zero _)
  | v :: vs, cur, p, 0, _, hs => by
    simp only [List.length_cons] at hs
    rw [setRow, setRow_out vs _ _ (by omega), Nat.add_zero, Array.getElem?_setIfInBounds_self_of_lt (by omega)]; rfl
  | v :: vs, cur, p, j + 1, h, hs => by
    simp only [List.length_cons] at h hs
    have := setRow_in vs (cur.setIfInBounds p v) (p + 1) j (by omega) (by simp; omega)
    rw [setRow, show p + (j + 1) = p + 1 + j from by omega, this]; rfl

/-- k rows are laid, each its own. -/
def Laid (w : World) (B g W n k : Nat) (ty : TypeId) (it : Nat → Nat → D) : Prop :=
  ∃ (cur : Array Value) (H : Nat → Nat → Nat → Prop), w.heap[g]? = some (.cells cur ty (0, 0)) ∧ n * W ≤ cur.size ∧ Apart k W g (rng B w.heap.size) H ∧ ∀ i, i < k → ∀ j, j < W → ∃ d, cur[i * W + j]? = some d ∧ Own w (it i j) (H i j) d
theorem Laid.zero {w : World} {B g W n : Nat} {ty : TypeId} {it : Nat → Nat → D} {cur : Array Value} (h : w.heap[g]? = some (.cells cur ty (0, 0))) (hs : n * W ≤ cur.size) : Laid w B g W n 0 ty it :=
  ⟨cur, fun _ _ _ => False, h, hs, fun i j hi => absurd hi (Nat.not_lt_zero _), fun i hi => absurd hi (Nat.not_lt_zero _)⟩
theorem Laid.heap {w : World} {B g W n k : Nat} {ty : TypeId} {it : Nat → Nat → D} (h : Laid w B g W n k ty it) : ∃ cur, w.heap[g]? = some (.cells cur ty (0, 0)) ∧ n * W ≤ cur.size := by
  obtain ⟨cur, H, h1, h2, -⟩ := h
  exact ⟨cur, h1, h2⟩
/-- One row more. -/
theorem Laid.step {w w1 : World} {B g W n k : Nat} {ty : TypeId} {it : Nat → Nat → D} {vs : List Value} (h : Laid w B g W n k ty it) (hk : k < n) (hgB : g < w.heap.size) (hB : B ≤ w.heap.size) (hb : Below w.heap.size w w1)
    (hvs : vs.length = W) (ho : OwnR w1 (it k) (rng w.heap.size w1.heap.size) vs) : Laid (stores w1 g (k * W) vs) B g W n (k + 1) ty it := by
  obtain ⟨cur, H, h1, h2, h3, h4⟩ := h
  obtain ⟨G, g1, g2⟩ := ho
  have hs1 := hb.size
  have hkw : k * W + W ≤ n * W := by
    have := Nat.mul_le_mul_right W (show k + 1 ≤ n from hk)
    rwa [Nat.add_mul, Nat.one_mul] at this
  refine ⟨setRow cur (k * W) vs, fun i j b => (i < k ∧ H i j b) ∨ (i = k ∧ G j b), stores_heap vs w1 _ cur ((hb.block g hgB).trans h1), by rw [setRow_size]; exact h2, ?_, ?_⟩
  · intro i j hi hj
    refine ⟨fun b hbb => ?_, fun i' j' hi' hj' hne b hbb => ?_⟩
    · unfold rng
      rw [stores_size]
      rcases hbb with ⟨hi2, hbb⟩ | ⟨hi2, hbb⟩
      · have q := (h3 i j hi2 hj).1 b hbb
        exact ⟨⟨q.1.1, by have := q.1.2; omega⟩, q.2⟩
      · have q := (g1 j (by omega)).1 b hbb
        exact ⟨⟨by have := q.1; omega, q.2⟩, by have := q.1; omega⟩
    · rcases hbb with ⟨hi2, hbb⟩ | ⟨hi2, hbb⟩
      · have q := (h3 i j hi2 hj).1 b hbb
        rintro (⟨hi3, hcc⟩ | ⟨hi3, hcc⟩)
        · exact (h3 i j hi2 hj).2 i' j' hi3 hj' hne b hbb hcc
        · have := ((g1 j' (by omega)).1 b hcc).1
          have := q.1.2
          omega
      · have q := (g1 j (by omega)).1 b hbb
        rintro (⟨hi3, hcc⟩ | ⟨hi3, hcc⟩)
        · have := ((h3 i' j' hi3 hj').1 b hcc).1.2
          have := q.1
          omega
        · exact (g1 j (by omega)).2 j' (by omega) (by omega) b hbb hcc
  · intro i hi j hj
    have hsame : ∀ b, b ≠ g → (stores w1 g (k * W) vs).heap[b]? = w1.heap[b]? := fun b hbb => stores_other hbb vs w1 _
    by_cases hik : i < k
    · obtain ⟨d, hd, ho⟩ := h4 i hik j hj
      have hle : i * W + W ≤ k * W := by
        have := Nat.mul_le_mul_right W (show i + 1 ≤ k from hik)
        rwa [Nat.add_mul, Nat.one_mul] at this
      refine ⟨d, by rw [setRow_out _ _ _ (.inl (by omega))]; exact hd, Own.wide (fun b hbb => .inl ⟨hik, hbb⟩) _ (Own.same _ ho fun b hbb => ?_)⟩
      have q := (h3 i j hik hj).1 b hbb
      exact (hsame b q.2).trans (hb.block b q.1.2)
    · obtain rfl : i = k := by omega
      refine ⟨vs[j]'(by omega), by rw [setRow_in _ _ _ _ (by omega) (by omega)]; exact List.getElem?_eq_getElem _, Own.wide (fun b hbb => .inr ⟨rfl, hbb⟩) _ (Own.same _ (g2 j _ (List.getElem?_eq_getElem (by omega))) fun b hbb => ?_)⟩
      have q := (g1 j (by omega)).1 b hbb
      exact hsame b (by have := q.1; omega)
/-- All are laid: the list is its own. -/
theorem Laid.own {w : World} {B g W n cap : Nat} {ty : TypeId} {it : Nat → Nat → D} (h : Laid w (g + 1) g W n n ty it) (hB : B ≤ g) (h1 : n ≤ cap) (h2 : cap ≤ maxLen) (hg : g < w.heap.size) : Own w (.list W n it) (rng B w.heap.size) (.slice (some ⟨g, 0, none⟩) n cap) := by
  obtain ⟨cur, H, q1, q2, q3, q4⟩ := h
  refine ⟨_, _, rfl, h1, h2, fun h0 => ⟨g, cur, ty, H, rfl, ⟨hB, hg⟩, q1, q2, fun i j hi hj => ⟨fun b hb => ⟨⟨?_, ((q3 i j hi hj).1 b hb).1.2⟩, ((q3 i j hi hj).1 b hb).2⟩, (q3 i j hi hj).2⟩, q4⟩⟩
  have := ((q3 i j hi hj).1 b hb).1.1
  omega
theorem lt_of {w : World} {g : Nat} {x : Obj} (h : w.heap[g]? = some x) : g < w.heap.size := by
  rcases Nat.lt_or_ge g w.heap.size with h1 | h1
  · exact h1
  · rw [Array.getElem?_eq_none h1] at h; cases h
theorem frozen_no {w : World} {g : Nat} {cur : Array Value} {t : TypeId} (h : w.heap[g]? = some (.cells cur t (0, 0))) (j : Nat) : w.frozen? ⟨g, j, none⟩ = false := by simp [World.frozen?, h]
end Da
end Go.Proofs.Ytfljibjlfjgajaa
