/- What is proved: data as trees of cells: how they lie in memory, that they lie there still where nothing old is written, and their shapes. -/
import Derived.Test.YtfljibjlfjgajaaChecked
import Derived.WalkKit
import Derived.Below
import Derived.Deep.Strs
import Derived.Lib.SmallJoins
import Derived.KernelRfl
import Derived.ChangeSame
namespace Go.Proofs.Ytfljibjlfjgajaa
namespace Da
set_option linter.unusedVariables false
set_option linter.unusedSimpArgs false
open Go.RowKit Go.Deep Go.WideShapes

/-- What a cell holds: a number, a text, a flag, or a list of n rows of W cells each. -/
inductive D where
  | no
  | int (k : Int)
  | str (t : ByteArray)
  | bool (b : Bool)
  | list (W n : Nat) (it : Nat → Nat → D)
instance : Inhabited D := ⟨.no⟩

/-- The cell c holds it. -/
def At (w : World) : D → Value → Prop
  | .no, _ => False
  | .int k, c => c = .int .i64 k
  | .str t, c => c = .string t ∧ t.size ≤ maxLen
  | .bool b, c => c = .bool b
  | .list W n it, c => ∃ A cap, c = .slice A n cap ∧ n ≤ maxLen ∧ ∀ i, i < n → ∃ b o, A = some ⟨b, o, none⟩ ∧ ∀ j, j < W → ∃ d, w.cell? ⟨b, o + i * W + j, none⟩ = some d ∧ At w (it i j) d

theorem At.nth {w : World} {W n cap : Nat} {it : Nat → Nat → D} {A : Option Addr} (h : At w (.list W n it) (.slice A n cap)) {i : Nat} (hi : i < n) :
    ∃ b o, A = some ⟨b, o, none⟩ ∧ ∀ j, j < W → ∃ d, w.cell? ⟨b, o + i * W + j, none⟩ = some d ∧ At w (it i j) d := by
  obtain ⟨A', cap', e1, -, hc⟩ := h
  simp only [Value.slice.injEq] at e1
  obtain ⟨e3, -, e4⟩ := e1
  subst e3 e4
  exact hc i hi
theorem At.slice {w : World} {W n : Nat} {it : Nat → Nat → D} {c : Value} (h : At w (.list W n it) c) : ∃ A cap, c = .slice A n cap ∧ n ≤ maxLen := by
  obtain ⟨A, cap, e, hm, -⟩ := h
  exact ⟨A, cap, e, hm⟩

theorem At.below {w w' : World} (hb : Below w.heap.size w w') : ∀ (d : D) {c : Value}, At w d c → At w' d c
  | .no, _, h => h
  | .int _, _, h => h
  | .str _, _, h => h
  | .bool _, _, h => h
  | .list W n it, c, h => by
    obtain ⟨A, cap, h3, h4, h5⟩ := h
    refine ⟨A, cap, h3, h4, fun i hi => ?_⟩
    obtain ⟨b, o, e, hf⟩ := h5 i hi
    refine ⟨b, o, e, fun j hj => ?_⟩
    obtain ⟨d, hd, ha⟩ := hf j hj
    exact ⟨d, (hb.cell (World.block_lt_of_cell? w _ hd)).trans hd, At.below hb (it i j) ha⟩
theorem below_alloc (w : World) (o : Obj) : Below w.heap.size w (w.alloc o) := (Below.refl _ w).alloc (Nat.le_refl _) o
theorem below_trans {a b c : World} (h : Below a.heap.size a b) (k : Below b.heap.size b c) : Below a.heap.size a c := h.trans (k.mono h.size)
theorem below_drewN (w : World) (k : Nat) : Below w.heap.size w (w.drewN k) := ⟨rfl, rfl, rfl, Nat.le_refl _, fun _ _ => rfl⟩
theorem below_drew (w : World) : Below w.heap.size w w.drew := ⟨rfl, rfl, rfl, Nat.le_refl _, fun _ _ => rfl⟩

/-! ### Shapes -/
inductive K where
  | text | value | arg | dir | sel | typ | vardef | op | frag | indef | fielddef | enumdef | root | defn | item | schema | token
inductive F where
  | int | str | bool
  | lst (k : K)
def row : K → List F
  | .text => [.str]
  | .value => [.int, .str, .lst .value, .lst .text]
  | .arg => [.str, .int, .str, .lst .value, .lst .text]
  | .dir => [.str, .lst .arg]
  | .sel => [.int, .str, .str, .str, .lst .arg, .lst .dir, .lst .sel]
  | .typ => [.str, .str]
  | .vardef => [.str, .str, .str, .bool, .int, .str, .lst .value, .lst .text, .lst .dir]
  | .op => [.int, .str, .lst .vardef, .lst .dir, .lst .sel]
  | .frag => [.str, .str, .lst .dir, .lst .sel]
  | .indef => [.str, .str, .str, .str, .bool, .int, .str, .lst .value, .lst .text, .lst .dir]
  | .fielddef => [.str, .str, .lst .indef, .str, .str, .lst .dir]
  | .enumdef => [.str, .str, .lst .dir]
  | .root => [.int, .str]
  | .defn => [.int, .bool, .str, .str, .lst .text, .lst .fielddef, .lst .indef, .lst .enumdef, .lst .root, .bool, .lst .dir]
  | .schema => [.lst .defn, .lst .defn, .lst .root]
  | .token => [.int, .str, .int]
  | .item => [.int, .int, .str, .lst .vardef, .lst .dir, .lst .sel, .str, .str, .lst .dir, .lst .sel, .int, .bool, .str, .str, .lst .text, .lst .fielddef, .lst .indef, .lst .enumdef, .lst .root, .bool, .lst .dir]
def Sh : D → F → Prop
  | .no, _ => False
  | .int _, f => f = .int
  | .str _, f => f = .str
  | .bool _, f => f = .bool
  | .list W n it, f => ∃ k, f = .lst k ∧ W = (row k).length ∧ ∀ i, i < n → ∀ j g, (row k)[j]? = some g → Sh (it i j) g
theorem Sh.int : ∀ {d : D}, Sh d .int → ∃ k, d = .int k
  | .int k, _ => ⟨k, rfl⟩
  | .str _, h => by cases h
  | .bool _, h => by cases h
  | .list _ _ _, h => by obtain ⟨k, h, -⟩ := h; cases h
theorem Sh.str : ∀ {d : D}, Sh d .str → ∃ t, d = .str t
  | .str t, _ => ⟨t, rfl⟩
  | .int _, h => by cases h
  | .bool _, h => by cases h
  | .list _ _ _, h => by obtain ⟨k, h, -⟩ := h; cases h
theorem Sh.bool : ∀ {d : D}, Sh d .bool → ∃ b, d = .bool b
  | .bool b, _ => ⟨b, rfl⟩
  | .int _, h => by cases h
  | .str _, h => by cases h
  | .list _ _ _, h => by obtain ⟨k, h, -⟩ := h; cases h
theorem Sh.lst {k : K} : ∀ {d : D}, Sh d (.lst k) → ∃ n it, d = .list (row k).length n it ∧ ∀ i, i < n → ∀ j g, (row k)[j]? = some g → Sh (it i j) g
  | .int _, h => by cases h
  | .str _, h => by cases h
  | .bool _, h => by cases h
  | .list W n it, h => by
    obtain ⟨k', e, rfl, h2⟩ := h
    cases e
    exact ⟨n, it, rfl, h2⟩

def nthD (L : List D) (j : Nat) : D := L.getD j .no
theorem sh_nil : ∀ j g, ([] : List F)[j]? = some g → Sh (nthD [] j) g := fun j g h => by simp at h
theorem sh_cons {d : D} {L : List D} {f : F} {Fs : List F} (h : Sh d f) (hs : ∀ j g, Fs[j]? = some g → Sh (nthD L j) g) : ∀ j g, (f :: Fs)[j]? = some g → Sh (nthD (d :: L) j) g
  | 0, g, e => by
    simp at e
    subst e
    exact h
  | j + 1, g, e => by
    simp at e
    exact hs j g e
theorem at_nil {w : World} : ∀ j v, ([] : List Value)[j]? = some v → At w (nthD [] j) v := fun j g h => by simp at h
theorem at_cons {w : World} {d : D} {L : List D} {v : Value} {vs : List Value} (h : At w d v) (hs : ∀ j v, vs[j]? = some v → At w (nthD L j) v) : ∀ j u, (v :: vs)[j]? = some u → At w (nthD (d :: L) j) u
  | 0, g, e => by
    simp at e
    subst e
    exact h
  | j + 1, g, e => by
    simp at e
    exact hs j g e

/-! ### What the laws count -/
def sumTo (f : Nat → Nat) : Nat → Nat
  | 0 => 0
  | n + 1 => sumTo f n + f n
theorem sumTo_le (f : Nat → Nat) {i n : Nat} (h : i ≤ n) : sumTo f i ≤ sumTo f n := by
  induction n with
  | zero => obtain rfl : i = 0 := by omega
            exact Nat.le_refl _
  | succ n ih =>
    rcases Nat.lt_or_ge n i with h1 | h1
    · obtain rfl : i = n + 1 := by omega
      exact Nat.le_refl _
    · have := ih h1; simp only [sumTo]; omega
theorem sumTo_lt (f : Nat → Nat) {i n : Nat} (h : i < n) : sumTo f i + f i ≤ sumTo f n := sumTo_le f (i := i + 1) h
def sz : D → Nat
  | .str t => t.size
  | .list W n it => n + sumTo (fun i => sumTo (fun j => sz (it i j)) W) n
  | _ => 0
theorem sz_row {W n : Nat} {it : Nat → Nat → D} {i : Nat} (h : i < n) : sumTo (fun j => sz (it i j)) W + 1 ≤ sz (.list W n it) := by
  have := sumTo_lt (fun i => sumTo (fun j => sz (it i j)) W) h; simp only [sz]; omega
theorem sz_cell {W n : Nat} {it : Nat → Nat → D} {i j : Nat} (h : i < n) (hj : j < W) : sz (it i j) + 1 ≤ sz (.list W n it) := by
  have := sz_row (W := W) (it := it) h
  have := sumTo_lt (fun j => sz (it i j)) hj
  omega
def left (l s : Nat) : Int := if s ≤ l then (l : Int) - s else -1

/-! ### Rows of so many cells -/
theorem one {P : Nat → Value → Prop} (h : ∀ j, j < 1 → ∃ d, P j d) : ∃ d0, P 0 d0 := h 0 (by omega)
theorem two {P : Nat → Value → Prop} (h : ∀ j, j < 2 → ∃ d, P j d) : ∃ d0 d1, P 0 d0 ∧ P 1 d1 := by
  obtain ⟨d0, h0⟩ := h 0 (by omega)
  obtain ⟨d1, h1⟩ := h 1 (by omega)
  exact ⟨d0, d1, h0, h1⟩
theorem four {P : Nat → Value → Prop} (h : ∀ j, j < 4 → ∃ d, P j d) : ∃ d0 d1 d2 d3, P 0 d0 ∧ P 1 d1 ∧ P 2 d2 ∧ P 3 d3 := by
  obtain ⟨d0, h0⟩ := h 0 (by omega)
  obtain ⟨d1, h1⟩ := h 1 (by omega)
  obtain ⟨d2, h2⟩ := h 2 (by omega)
  obtain ⟨d3, h3⟩ := h 3 (by omega)
  exact ⟨d0, d1, d2, d3, h0, h1, h2, h3⟩
theorem five {P : Nat → Value → Prop} (h : ∀ j, j < 5 → ∃ d, P j d) : ∃ d0 d1 d2 d3 d4, P 0 d0 ∧ P 1 d1 ∧ P 2 d2 ∧ P 3 d3 ∧ P 4 d4 := by
  obtain ⟨d0, d1, d2, d3, h0, h1, h2, h3⟩ := four (P := P) fun j hj => h j (by omega)
  obtain ⟨d4, h4⟩ := h 4 (by omega)
  exact ⟨d0, d1, d2, d3, d4, h0, h1, h2, h3, h4⟩
theorem seven {P : Nat → Value → Prop} (h : ∀ j, j < 7 → ∃ d, P j d) : ∃ d0 d1 d2 d3 d4 d5 d6, P 0 d0 ∧ P 1 d1 ∧ P 2 d2 ∧ P 3 d3 ∧ P 4 d4 ∧ P 5 d5 ∧ P 6 d6 := by
  obtain ⟨d0, d1, d2, d3, d4, h0, h1, h2, h3, h4⟩ := five (P := P) fun j hj => h j (by omega)
  obtain ⟨d5, h5⟩ := h 5 (by omega)
  obtain ⟨d6, h6⟩ := h 6 (by omega)
  exact ⟨d0, d1, d2, d3, d4, d5, d6, h0, h1, h2, h3, h4, h5, h6⟩

theorem len2 {α : Type} : ∀ {L : List α}, L.length = 2 → ∃ a0 a1, L = [a0, a1]
  | [a0, a1], _ => ⟨_, _, rfl⟩
theorem len4 {α : Type} : ∀ {L : List α}, L.length = 4 → ∃ a0 a1 a2 a3, L = [a0, a1, a2, a3]
  | [a0, a1, a2, a3], _ => ⟨_, _, _, _, rfl⟩
theorem len5 {α : Type} : ∀ {L : List α}, L.length = 5 → ∃ a0 a1 a2 a3 a4, L = [a0, a1, a2, a3, a4]
  | [a0, a1, a2, a3, a4], _ => ⟨_, _, _, _, _, rfl⟩
theorem len7 {α : Type} : ∀ {L : List α}, L.length = 7 → ∃ a0 a1 a2 a3 a4 a5 a6, L = [a0, a1, a2, a3, a4, a5, a6]
  | [a0, a1, a2, a3, a4, a5, a6], _ => ⟨_, _, _, _, _, _, _, rfl⟩
end Da
end Go.Proofs.Ytfljibjlfjgajaa
