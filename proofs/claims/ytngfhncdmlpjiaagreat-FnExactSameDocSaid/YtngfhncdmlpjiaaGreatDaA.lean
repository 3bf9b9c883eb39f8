/- What is proved: data as trees of cells: how they lie in memory, that they lie there still where nothing old is written, their shapes, and how they are read off an argument. -/
import Derived.Test.YtngfhncdmlpjiaaGreatChecked
import Derived.WalkKit
import Derived.Below
import Derived.Deep.Strs
import Derived.Lib.SmallJoins
import Derived.KernelRfl
import Derived.ChangeSame
namespace Go.Proofs.YtngfhncdmlpjiaaGreat
namespace Da
set_option linter.unusedVariables false
open Go.RowKit Go.Deep Go.WideShapes

/-- What a cell holds: a number, a text, a flag, or a list of n rows of W cells each. -/
inductive D where
  | no
  | int (k : Int)
  | str (t : ByteArray)
  | bool (b : Bool)
  | list (W n : Nat) (it : Nat → Nat → D)
instance : Inhabited D := ⟨.no⟩

/-- The cell c holds it. -/
def At (w : World) : D → Value → Prop
  | .no, _ => False
  | .int k, c => c = .int .i64 k
  | .str t, c => c = .string t ∧ t.size ≤ maxLen
  | .bool b, c => c = .bool b
  | .list W n it, c => ∃ A cap, c = .slice A n cap ∧ n ≤ maxLen ∧ ∀ i, i < n → ∃ b o, A = some ⟨b, o, none⟩ ∧ ∀ j, j < W → ∃ d, w.cell? ⟨b, o + i * W + j, none⟩ = some d ∧ At w (it i j) d

theorem At.nth {w : World} {W n cap : Nat} {it : Nat → Nat → D} {A : Option Addr} (h : At w (.list W n it) (.slice A n cap)) {i : Nat} (hi : i < n) :
    ∃ b o, A = some ⟨b, o, none⟩ ∧ ∀ j, j < W → ∃ d, w.cell? ⟨b, o + i * W + j, none⟩ = some d ∧ At w (it i j) d := by
  obtain ⟨A', cap', e1, -, hc⟩ := h
  simp only [Value.slice.injEq] at e1
  obtain ⟨e3, -, e4⟩ := e1
  subst e3 e4
  exact hc i hi
theorem At.slice {w : World} {W n : Nat} {it : Nat → Nat → D} {c : Value} (h : At w (.list W n it) c) : ∃ A cap, c = .slice A n cap ∧ n ≤ maxLen := by
  obtain ⟨A, cap, e, hm, -⟩ := h
  exact ⟨A, cap, e, hm⟩

theorem At.below {w w' : World} (hb : Below w.heap.size w w') : ∀ (d : D) {c : Value}, At w d c → At w' d c
  | .no, _, h => h
  | .int _, _, h => h
  | .str _, _, h => h
  | .bool _, _, h => h
  | .list W n it, c, h => by
    obtain ⟨A, cap, h3, h4, h5⟩ := h
    refine ⟨A, cap, h3, h4, fun i hi => ?_⟩
    obtain ⟨b, o, e, hf⟩ := h5 i hi
    refine ⟨b, o, e, fun j hj => ?_⟩
    obtain ⟨d, hd, ha⟩ := hf j hj
    exact ⟨d, (hb.cell (World.block_lt_of_cell? w _ hd)).trans hd, At.below hb (it i j) ha⟩
theorem below_alloc (w : World) (o : Obj) : Below w.heap.size w (w.alloc o) := (Below.refl _ w).alloc (Nat.le_refl _) o
theorem below_trans {a b c : World} (h : Below a.heap.size a b) (k : Below b.heap.size b c) : Below a.heap.size a c := h.trans (k.mono h.size)
theorem below_drewN (w : World) (k : Nat) : Below w.heap.size w (w.drewN k) := ⟨rfl, rfl, rfl, Nat.le_refl _, fun _ _ => rfl⟩
theorem below_drew (w : World) : Below w.heap.size w w.drew := ⟨rfl, rfl, rfl, Nat.le_refl _, fun _ _ => rfl⟩

/-! ### Shapes -/
inductive K where
  | text | value | arg | dir | sel | typ | vardef | op | frag | indef | fielddef | enumdef | root | defn | item | schema
inductive F where
  | int | str | bool
  | lst (k : K)
def row : K → List F
  | .text => [.str]
  | .value => [.int, .str, .lst .value, .lst .text]
  | .arg => [.str, .int, .str, .lst .value, .lst .text]
  | .dir => [.str, .lst .arg]
  | .sel => [.int, .str, .str, .str, .lst .arg, .lst .dir, .lst .sel]
  | .typ => [.str, .str]
  | .vardef => [.str, .str, .str, .bool, .int, .str, .lst .value, .lst .text, .lst .dir]
  | .op => [.int, .str, .lst .vardef, .lst .dir, .lst .sel]
  | .frag => [.str, .str, .lst .dir, .lst .sel]
  | .indef => [.str, .str, .str, .str, .bool, .int, .str, .lst .value, .lst .text, .lst .dir]
  | .fielddef => [.str, .str, .lst .indef, .str, .str, .lst .dir]
  | .enumdef => [.str, .str, .lst .dir]
  | .root => [.int, .str]
  | .defn => [.int, .bool, .str, .str, .lst .text, .lst .fielddef, .lst .indef, .lst .enumdef, .lst .root, .bool, .lst .dir]
  | .schema => [.lst .defn, .lst .defn, .lst .root]
  | .item => [.int, .int, .str, .lst .vardef, .lst .dir, .lst .sel, .str, .str, .lst .dir, .lst .sel, .int, .bool, .str, .str, .lst .text, .lst .fielddef, .lst .indef, .lst .enumdef, .lst .root, .bool, .lst .dir]
def Sh : D → F → Prop
  | .no, _ => False
  | .int _, f => f = .int
  | .str _, f => f = .str
  | .bool _, f => f = .bool
  | .list W n it, f => ∃ k, f = .lst k ∧ W = (row k).length ∧ ∀ i, i < n → ∀ j g, (row k)[j]? = some g → Sh (it i j) g
theorem Sh.int : ∀ {d : D}, Sh d .int → ∃ k, d = .int k
  | .int k, _ => ⟨k, rfl⟩
  | .str _, h => by cases h
  | .bool _, h => by cases h
  | .list _ _ _, h => by obtain ⟨k, h, -⟩ := h; cases h
theorem Sh.str : ∀ {d : D}, Sh d .str → ∃ t, d = .str t
  | .str t, _ => ⟨t, rfl⟩
  | .int _, h => by cases h
  | .bool _, h => by cases h
  | .list _ _ _, h => by obtain ⟨k, h, -⟩ := h; cases h
theorem Sh.bool : ∀ {d : D}, Sh d .bool → ∃ b, d = .bool b
  | .bool b, _ => ⟨b, rfl⟩
  | .int _, h => by cases h
  | .str _, h => by cases h
  | .list _ _ _, h => by obtain ⟨k, h, -⟩ := h; cases h
theorem Sh.lst {k : K} : ∀ {d : D}, Sh d (.lst k) → ∃ n it, d = .list (row k).length n it ∧ ∀ i, i < n → ∀ j g, (row k)[j]? = some g → Sh (it i j) g
  | .int _, h => by cases h
  | .str _, h => by cases h
  | .bool _, h => by cases h
  | .list W n it, h => by
    obtain ⟨k', e, rfl, h2⟩ := h
    cases e
    exact ⟨n, it, rfl, h2⟩

def nthD (L : List D) (j : Nat) : D := L.getD j .no
theorem sh_nil : ∀ j g, ([] : List F)[j]? = some g → Sh (nthD [] j) g := fun j g h => by simp at h
theorem sh_cons {d : D} {L : List D} {f : F} {Fs : List F} (h : Sh d f) (hs : ∀ j g, Fs[j]? = some g → Sh (nthD L j) g) : ∀ j g, (f :: Fs)[j]? = some g → Sh (nthD (d :: L) j) g
  | 0, g, e => by
    simp at e
    subst e
    exact h
  | j + 1, g, e => by
    simp at e
    exact hs j g e
theorem at_nil {w : World} : ∀ j v, ([] : List Value)[j]? = some v → At w (nthD [] j) v := fun j g h => by simp at h
theorem at_cons {w : World} {d : D} {L : List D} {v : Value} {vs : List Value} (h : At w d v) (hs : ∀ j v, vs[j]? = some v → At w (nthD L j) v) : ∀ j u, (v :: vs)[j]? = some u → At w (nthD (d :: L) j) u
  | 0, g, e => by
    simp at e
    subst e
    exact h
  | j + 1, g, e => by
    simp at e
    exact hs j g e

/-! ### What the laws count -/
def sumTo (f : Nat → Nat) : Nat → Nat
  | 0 => 0
  | n + 1 => sumTo f n + f n
theorem sumTo_le (f : Nat → Nat) {i n : Nat} (h : i ≤ n) : sumTo f i ≤ sumTo f n := by
  induction n with
  | zero => obtain rfl : i = 0 := by omega
            exact Nat.le_refl _
  | succ n ih =>
    rcases Nat.lt_or_ge n i with h1 | h1
    · obtain rfl : i = n + 1 := by omega
      exact Nat.le_refl _
    · have := ih h1; simp only [sumTo]; omega
theorem sumTo_lt (f : Nat → Nat) {i n : Nat} (h : i < n) : sumTo f i + f i ≤ sumTo f n := sumTo_le f (i := i + 1) h
def sz : D → Nat
  | .str t => t.size
  | .list W n it => n + sumTo (fun i => sumTo (fun j => sz (it i j)) W) n
  | _ => 0
theorem sz_row {W n : Nat} {it : Nat → Nat → D} {i : Nat} (h : i < n) : sumTo (fun j => sz (it i j)) W + 1 ≤ sz (.list W n it) := by
  have := sumTo_lt (fun i => sumTo (fun j => sz (it i j)) W) h; simp only [sz]; omega
theorem sz_cell {W n : Nat} {it : Nat → Nat → D} {i j : Nat} (h : i < n) (hj : j < W) : sz (it i j) + 1 ≤ sz (.list W n it) := by
  have := sz_row (W := W) (it := it) h
  have := sumTo_lt (fun j => sz (it i j)) hj
  omega
def left (l s : Nat) : Int := if s ≤ l then (l : Int) - s else -1

/-! ### Rows of so many cells -/
theorem one {P : Nat → Value → Prop} (h : ∀ j, j < 1 → ∃ d, P j d) : ∃ d0, P 0 d0 := h 0 (by omega)
theorem two {P : Nat → Value → Prop} (h : ∀ j, j < 2 → ∃ d, P j d) : ∃ d0 d1, P 0 d0 ∧ P 1 d1 := by
  obtain ⟨d0, h0⟩ := h 0 (by omega)
  obtain ⟨d1, h1⟩ := h 1 (by omega)
  exact ⟨d0, d1, h0, h1⟩
theorem four {P : Nat → Value → Prop} (h : ∀ j, j < 4 → ∃ d, P j d) : ∃ d0 d1 d2 d3, P 0 d0 ∧ P 1 d1 ∧ P 2 d2 ∧ P 3 d3 := by
  obtain ⟨d0, h0⟩ := h 0 (by omega)
  obtain ⟨d1, h1⟩ := h 1 (by omega)
  obtain ⟨d2, h2⟩ := h 2 (by omega)
  obtain ⟨d3, h3⟩ := h 3 (by omega)
  exact ⟨d0, d1, d2, d3, h0, h1, h2, h3⟩
theorem five {P : Nat → Value → Prop} (h : ∀ j, j < 5 → ∃ d, P j d) : ∃ d0 d1 d2 d3 d4, P 0 d0 ∧ P 1 d1 ∧ P 2 d2 ∧ P 3 d3 ∧ P 4 d4 := by
  obtain ⟨d0, d1, d2, d3, h0, h1, h2, h3⟩ := four (P := P) fun j hj => h j (by omega)
  obtain ⟨d4, h4⟩ := h 4 (by omega)
  exact ⟨d0, d1, d2, d3, d4, h0, h1, h2, h3, h4⟩
theorem seven {P : Nat → Value → Prop} (h : ∀ j, j < 7 → ∃ d, P j d) : ∃ d0 d1 d2 d3 d4 d5 d6, P 0 d0 ∧ P 1 d1 ∧ P 2 d2 ∧ P 3 d3 ∧ P 4 d4 ∧ P 5 d5 ∧ P 6 d6 := by
  obtain ⟨d0, d1, d2, d3, d4, h0, h1, h2, h3, h4⟩ := five (P := P) fun j hj => h j (by omega)
  obtain ⟨d5, h5⟩ := h 5 (by omega)
  obtain ⟨d6, h6⟩ := h 6 (by omega)
  exact ⟨d0, d1, d2, d3, d4, d5, d6, h0, h1, h2, h3, h4, h5, h6⟩

theorem len2 {α : Type} : ∀ {L : List α}, L.length = 2 → ∃ a0 a1, L = [a0, a1]
  | [a0, a1], _ => ⟨_, _, rfl⟩
theorem len4 {α : Type} : ∀ {L : List α}, L.length = 4 → ∃ a0 a1 a2 a3, L = [a0, a1, a2, a3]
  | [a0, a1, a2, a3], _ => ⟨_, _, _, _, rfl⟩
theorem len5 {α : Type} : ∀ {L : List α}, L.length = 5 → ∃ a0 a1 a2 a3 a4, L = [a0, a1, a2, a3, a4]
  | [a0, a1, a2, a3, a4], _ => ⟨_, _, _, _, _, rfl⟩
theorem len7 {α : Type} : ∀ {L : List α}, L.length = 7 → ∃ a0 a1 a2 a3 a4 a5 a6, L = [a0, a1, a2, a3, a4, a5, a6]
  | [a0, a1, a2, a3, a4, a5, a6], _ => ⟨_, _, _, _, _, _, _, rfl⟩

/-! ### Off an argument -/
section
variable {H : Type} {enc : TypeId × Value → H} {w : World} {spare : Nat → Bool} {held : Bool}
theorem und3 : Tryz.prog.underlying 3 = some (.int .i64) := by kernel_rfl
theorem und9 : Tryz.prog.underlying 9 = some .string := by kernel_rfl
theorem cells9 : Tryz.prog.cellsOf 9 = 1 := by kernel_rfl
theorem undN : Tryz.prog.underlying 40 = some (.slice 9) := by kernel_rfl
theorem undI : Tryz.prog.underlying 142 = some (.slice 144) := by kernel_rfl
theorem cellsV : Tryz.prog.cellsOf 144 = 4 := by kernel_rfl
theorem undAs : Tryz.prog.underlying 148 = some (.slice 194) := by kernel_rfl
theorem cellsA : Tryz.prog.cellsOf 194 = 5 := by kernel_rfl
theorem undDs : Tryz.prog.underlying 59 = some (.slice 150) := by kernel_rfl
theorem cellsD : Tryz.prog.cellsOf 150 = 2 := by kernel_rfl
theorem undSs : Tryz.prog.underlying 60 = some (.slice 153) := by kernel_rfl
theorem cellsS : Tryz.prog.cellsOf 153 = 7 := by kernel_rfl

theorem plain_of {w : World} {a : Addr} {v : Value} (h0 : w.cell? (a.add 0) = some v) : ∃ b o, a = ⟨b, o, none⟩ := by
  rw [show a.add 0 = a from by simp [Addr.add]] at h0
  obtain ⟨b, o, s⟩ := a
  cases s with
  | none => exact ⟨b, o, rfl⟩
  | some s => simp [World.cell?] at h0; split at h0 <;> simp at h0

/-- A row of cells. -/
def RowAt (w : World) (k : K) (cs : List Value) : Prop :=
  ∃ r : Nat → D, cs.length = (row k).length ∧ (∀ j g, (row k)[j]? = some g → Sh (r j) g) ∧ ∀ j v, cs[j]? = some v → At w (r j) v

theorem lst_of {k : K} {tS T : TypeId} {fuel : Nat} (hu : Tryz.prog.underlying tS = some (.slice T)) (hc : Tryz.prog.cellsOf T = (row k).length) (hpos : 0 < (row k).length)
    (each : ∀ f', f' < fuel → ∀ {cs : List Value} {x : DataW H × List MemPlace}, DataW.trod enc Tryz.prog w 0 spare held f' T cs = some x → RowAt w k cs)
    {c : Value} {x : DataW H × List MemPlace} (h : DataW.trod enc Tryz.prog w 0 spare held fuel tS [c] = some x) : ∃ d, Sh d (.lst k) ∧ At w d c := by
  rcases DataW.trod_slice hu h with ⟨hc, -⟩ | ⟨a, len, cap, elems, rest, n', hn', hcc, -, -, hl, hm, hel, hx, -, -⟩
  · obtain rfl : c = .slice none 0 0 := by simpa using hc
    exact ⟨.list (row k).length 0 fun _ _ => .no, ⟨k, rfl, rfl, fun i hi => absurd hi (Nat.not_lt_zero _)⟩, none, 0, rfl, Nat.zero_le _, fun j hj => absurd hj (Nat.not_lt_zero _)⟩
  · obtain rfl : c = .slice (some a) len cap := by simpa using hcc
    rw [hc] at hx
    have one : ∀ i, i < len → ∃ r : Nat → D, (∀ j g, (row k)[j]? = some g → Sh (r j) g) ∧ ∃ b o, some a = some ⟨b, o, none⟩ ∧ ∀ j, j < (row k).length → ∃ d, w.cell? ⟨b, o + i * (row k).length + j, none⟩ = some d ∧ At w (r j) d := by
      intro i hi
      have pl : ∃ b o, a = ⟨b, o, none⟩ := by
        have h0 := hx 0 (by omega)
        rw [List.getElem?_eq_getElem (by omega)] at h0
        obtain ⟨cs', h1, h2⟩ := Option.bind_eq_some_iff.1 h0
        obtain ⟨-, hl', hcell⟩ := World.cells?_some h1
        have h2 := hcell 0 (by omega)
        rw [List.getElem?_eq_getElem (by omega), add_add] at h2
        exact plain_of (by simpa using h2)
      obtain ⟨b, o, rfl⟩ := pl
      have h0 := hx i hi
      rw [List.getElem?_eq_getElem (by omega)] at h0
      obtain ⟨cs', h1, h2⟩ := Option.bind_eq_some_iff.1 h0
      obtain ⟨r, hlen, hsh, hat⟩ := each n' (by omega) h2
      obtain ⟨-, hl', hcell⟩ := World.cells?_some h1
      refine ⟨r, hsh, b, o, rfl, fun j hj => ?_⟩
      have q := hcell j (by omega)
      rw [add_add, add_plain, List.getElem?_eq_getElem (by omega)] at q
      exact ⟨cs'[j]'(by omega), by rw [Nat.add_assoc]; exact q, hat j _ (List.getElem?_eq_getElem (by omega))⟩
    obtain ⟨it, hit⟩ := choose_lt one
    exact ⟨.list (row k).length len it, ⟨k, rfl, rfl, fun i hi => (hit i hi).1⟩, some a, cap, rfl, by omega, fun i hi => (hit i hi).2⟩

theorem text_of {fuel : Nat} {cs : List Value} {x : DataW H × List MemPlace} (h : DataW.trod enc Tryz.prog w 0 spare held fuel 9 cs = some x) : RowAt w .text cs := by
  obtain ⟨t, e, -, ht⟩ := DataW.trod_string und9 h
  subst e
  exact ⟨nthD [.str t], rfl, sh_cons rfl sh_nil, at_cons ⟨rfl, ht⟩ at_nil⟩
theorem texts_of {fuel : Nat} {c : Value} {x : DataW H × List MemPlace} (h : DataW.trod enc Tryz.prog w 0 spare held fuel 40 [c] = some x) : ∃ d, Sh d (.lst .text) ∧ At w d c :=
  lst_of (k := .text) undN cells9 (by simp [row]) (fun _ _ => text_of) h

theorem undV : ∃ f0 f1 f2 f3, Tryz.prog.underlying 144 = some (.struct #[f0, f1, f2, f3]) ∧ oneCellFields Tryz.prog #[f0, f1, f2, f3] = true ∧ f0.type = 3 ∧ f1.type = 9 ∧ f2.type = 142 ∧ f3.type = 40 :=
  ⟨_, _, _, _, Tryz.underlying144, (by kernel_rfl), rfl, rfl, rfl, rfl⟩
theorem value_of : ∀ (fuel : Nat) {cs : List Value} {x : DataW H × List MemPlace}, DataW.trod enc Tryz.prog w 0 spare held fuel 144 cs = some x → RowAt w .value cs := by
  intro fuel
  induction fuel using Nat.strongRecOn with
  | ind fuel ih =>
    intro cs x h
    obtain ⟨f0, f1, f2, f3, hs, hone, t0, t1, t2, t3⟩ := undV
    obtain ⟨xs, n, rfl, -, hlen, hxs, hf⟩ := DataW.trod_struct hs h
    rw [cellsV] at hlen
    obtain ⟨c0, c1, c2, c3, rfl⟩ := len4 hlen
    obtain ⟨y0, y1, y2, y3, rfl⟩ := len4 (L := xs) (by simpa using hxs)
    obtain ⟨o0, k0⟩ := hone_of hone 0 f0 rfl
    obtain ⟨o1, k1⟩ := hone_of hone 1 f1 rfl
    obtain ⟨o2, k2⟩ := hone_of hone 2 f2 rfl
    obtain ⟨o3, k3⟩ := hone_of hone 3 f3 rfl
    have g0 := hf 0 f0 rfl
    have g1 := hf 1 f1 rfl
    have g2 := hf 2 f2 rfl
    have g3 := hf 3 f3 rfl
    rw [o0, k0, t0] at g0
    rw [o1, k1, t1] at g1
    rw [o2, k2, t2] at g2
    rw [o3, k3, t3] at g3
    simp at g0 g1 g2 g3
    obtain ⟨k, e0, -, -⟩ := DataW.trod_int und3 g0
    obtain ⟨t, e1, -, ht⟩ := DataW.trod_string und9 g1
    obtain ⟨d2, s2, a2⟩ := lst_of (k := .value) undI cellsV (by simp [row]) (fun f' hf' {_ _} hh => ih f' (by omega) hh) g2
    obtain ⟨d3, s3, a3⟩ := texts_of g3
    obtain rfl : c0 = .int .i64 k := by simpa using e0
    obtain rfl : c1 = .string t := by simpa using e1
    exact ⟨nthD [.int k, .str t, d2, d3], rfl, sh_cons rfl (sh_cons rfl (sh_cons s2 (sh_cons s3 sh_nil))), at_cons rfl (at_cons ⟨rfl, ht⟩ (at_cons a2 (at_cons a3 at_nil)))⟩

theorem undA : ∃ f0 f1, Tryz.prog.underlying 194 = some (.struct #[f0, f1]) ∧ f0.type = 9 ∧ f0.offset = 0 ∧ f1.type = 144 ∧ f1.offset = 1 :=
  ⟨_, _, Tryz.underlying194, rfl, rfl, rfl, rfl⟩
theorem arg_of {fuel : Nat} {cs : List Value} {x : DataW H × List MemPlace} (h : DataW.trod enc Tryz.prog w 0 spare held fuel 194 cs = some x) : RowAt w .arg cs := by
  obtain ⟨f0, f1, hs, t0, o0, t1, o1⟩ := undA
  obtain ⟨y0, y1, n, -, hl, g0, g1⟩ := Go.ChangeShapes.trod_struct2 hs h
  rw [cellsA] at hl
  rw [t0, o0, cells9] at g0
  rw [t1, o1, cellsV] at g1
  match cs, hl with
  | [c, c0, c1, c2, c3], _ =>
    simp at g0 g1
    obtain ⟨t, e1, -, ht⟩ := DataW.trod_string und9 g0
    obtain ⟨r, -, hsh, hat⟩ := value_of n g1
    obtain rfl : c = .string t := by simpa using e1
    refine ⟨nthD [.str t, r 0, r 1, r 2, r 3], rfl, sh_cons rfl (sh_cons (hsh 0 _ rfl) (sh_cons (hsh 1 _ rfl) (sh_cons (hsh 2 _ rfl) (sh_cons (hsh 3 _ rfl) sh_nil)))), at_cons ⟨rfl, ht⟩ (at_cons (hat 0 _ rfl) (at_cons (hat 1 _ rfl) (at_cons (hat 2 _ rfl) (at_cons (hat 3 _ rfl) at_nil))))⟩
theorem args_of {fuel : Nat} {c : Value} {x : DataW H × List MemPlace} (h : DataW.trod enc Tryz.prog w 0 spare held fuel 148 [c] = some x) : ∃ d, Sh d (.lst .arg) ∧ At w d c :=
  lst_of (k := .arg) undAs cellsA (by simp [row]) (fun _ _ => arg_of) h

theorem undD : ∃ f0 f1, Tryz.prog.underlying 150 = some (.struct #[f0, f1]) ∧ oneCellFields Tryz.prog #[f0, f1] = true ∧ f0.type = 9 ∧ f1.type = 148 :=
  ⟨_, _, Tryz.underlying150, (by kernel_rfl), rfl, rfl⟩
theorem dir_of {fuel : Nat} {cs : List Value} {x : DataW H × List MemPlace} (h : DataW.trod enc Tryz.prog w 0 spare held fuel 150 cs = some x) : RowAt w .dir cs := by
  obtain ⟨f0, f1, hs, hone, t0, t1⟩ := undD
  obtain ⟨xs, n, rfl, -, hlen, hxs, hf⟩ := DataW.trod_struct hs h
  rw [cellsD] at hlen
  obtain ⟨c0, c1, rfl⟩ := len2 hlen
  obtain ⟨y0, y1, rfl⟩ := len2 (L := xs) (by simpa using hxs)
  obtain ⟨o0, k0⟩ := hone_of hone 0 f0 rfl
  obtain ⟨o1, k1⟩ := hone_of hone 1 f1 rfl
  have g0 := hf 0 f0 rfl
  have g1 := hf 1 f1 rfl
  rw [o0, k0, t0] at g0
  rw [o1, k1, t1] at g1
  simp at g0 g1
  obtain ⟨t, e1, -, ht⟩ := DataW.trod_string und9 g0
  obtain ⟨d1, s1, a1⟩ := args_of g1
  obtain rfl : c0 = .string t := by simpa using e1
  exact ⟨nthD [.str t, d1], rfl, sh_cons rfl (sh_cons s1 sh_nil), at_cons ⟨rfl, ht⟩ (at_cons a1 at_nil)⟩
theorem dirs_of {fuel : Nat} {c : Value} {x : DataW H × List MemPlace} (h : DataW.trod enc Tryz.prog w 0 spare held fuel 59 [c] = some x) : ∃ d, Sh d (.lst .dir) ∧ At w d c :=
  lst_of (k := .dir) undDs cellsD (by simp [row]) (fun _ _ => dir_of) h

theorem undSel : ∃ f0 f1 f2 f3 f4 f5 f6, Tryz.prog.underlying 153 = some (.struct #[f0, f1, f2, f3, f4, f5, f6]) ∧ oneCellFields Tryz.prog #[f0, f1, f2, f3, f4, f5, f6] = true ∧ f0.type = 3 ∧ f1.type = 9 ∧ f2.type = 9 ∧ f3.type = 9 ∧ f4.type = 148 ∧ f5.type = 59 ∧ f6.type = 60 :=
  ⟨_, _, _, _, _, _, _, Tryz.underlying153, (by kernel_rfl), rfl, rfl, rfl, rfl, rfl, rfl, rfl⟩
theorem sel_of : ∀ (fuel : Nat) {cs : List Value} {x : DataW H × List MemPlace}, DataW.trod enc Tryz.prog w 0 spare held fuel 153 cs = some x → RowAt w .sel cs := by
  intro fuel
  induction fuel using Nat.strongRecOn with
  | ind fuel ih =>
    intro cs x h
    obtain ⟨f0, f1, f2, f3, f4, f5, f6, hs, hone, t0, t1, t2, t3, t4, t5, t6⟩ := undSel
    obtain ⟨xs, n, rfl, -, hlen, hxs, hf⟩ := DataW.trod_struct hs h
    rw [cellsS] at hlen
    obtain ⟨c0, c1, c2, c3, c4, c5, c6, rfl⟩ := len7 hlen
    obtain ⟨y0, y1, y2, y3, y4, y5, y6, rfl⟩ := len7 (L := xs) (by simpa using hxs)
    obtain ⟨o0, k0⟩ := hone_of hone 0 f0 rfl
    obtain ⟨o1, k1⟩ := hone_of hone 1 f1 rfl
    obtain ⟨o2, k2⟩ := hone_of hone 2 f2 rfl
    obtain ⟨o3, k3⟩ := hone_of hone 3 f3 rfl
    obtain ⟨o4, k4⟩ := hone_of hone 4 f4 rfl
    obtain ⟨o5, k5⟩ := hone_of hone 5 f5 rfl
    obtain ⟨o6, k6⟩ := hone_of hone 6 f6 rfl
    have g0 := hf 0 f0 rfl
    have g1 := hf 1 f1 rfl
    have g2 := hf 2 f2 rfl
    have g3 := hf 3 f3 rfl
    have g4 := hf 4 f4 rfl
    have g5 := hf 5 f5 rfl
    have g6 := hf 6 f6 rfl
    rw [o0, k0, t0] at g0
    rw [o1, k1, t1] at g1
    rw [o2, k2, t2] at g2
    rw [o3, k3, t3] at g3
    rw [o4, k4, t4] at g4
    rw [o5, k5, t5] at g5
    rw [o6, k6, t6] at g6
    simp at g0 g1 g2 g3 g4 g5 g6
    obtain ⟨k, e0, -, -⟩ := DataW.trod_int und3 g0
    obtain ⟨u1, e1, -, q1⟩ := DataW.trod_string und9 g1
    obtain ⟨u2, e2, -, q2⟩ := DataW.trod_string und9 g2
    obtain ⟨u3, e3, -, q3⟩ := DataW.trod_string und9 g3
    obtain ⟨d4, s4, a4⟩ := args_of g4
    obtain ⟨d5, s5, a5⟩ := dirs_of g5
    obtain ⟨d6, s6, a6⟩ := lst_of (k := .sel) undSs cellsS (by simp [row]) (fun f' hf' {_ _} hh => ih f' (by omega) hh) g6
    obtain rfl : c0 = .int .i64 k := by simpa using e0
    obtain rfl : c1 = .string u1 := by simpa using e1
    obtain rfl : c2 = .string u2 := by simpa using e2
    obtain rfl : c3 = .string u3 := by simpa using e3
    exact ⟨nthD [.int k, .str u1, .str u2, .str u3, d4, d5, d6], rfl, sh_cons rfl (sh_cons rfl (sh_cons rfl (sh_cons rfl (sh_cons s4 (sh_cons s5 (sh_cons s6 sh_nil)))))),
      at_cons rfl (at_cons ⟨rfl, q1⟩ (at_cons ⟨rfl, q2⟩ (at_cons ⟨rfl, q3⟩ (at_cons a4 (at_cons a5 (at_cons a6 at_nil))))))⟩
theorem sels_of {fuel : Nat} {c : Value} {x : DataW H × List MemPlace} (h : DataW.trod enc Tryz.prog w 0 spare held fuel 60 [c] = some x) : ∃ d, Sh d (.lst .sel) ∧ At w d c :=
  lst_of (k := .sel) undSs cellsS (by simp [row]) (fun f' _ {_ _} hh => sel_of f' hh) h
end
end Da
end Go.Proofs.YtngfhncdmlpjiaaGreat
