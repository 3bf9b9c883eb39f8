/- What is proved: values as trees: how a value lies in memory, that it lies there still where nothing old is written, and how it is read off an argument. Used by the proofs on values. -/
import Derived.Test.YtngfhncdmlpjiaaChecked
import Derived.WalkKit
import Derived.Below
import Derived.Deep.Strs
import Derived.Lib.SmallJoins
import Derived.KernelRfl
namespace Go.Proofs.Ytngfhncdmlpjiaa
namespace Va
open Go.RowKit Go.Deep Go.WideShapes

/-- A value: kind, text, items by their index, names by theirs. ('no': so that there is one to begin with.) -/
inductive V where
  | no
  | mk (k : Int) (t : ByteArray) (n : Nat) (it : Nat → V) (m : Nat) (nm : Nat → ByteArray)
instance : Inhabited V := ⟨.no⟩

/-- Four cells from o on in block b. -/
structure Four (w : World) (b o : Nat) (d0 d1 d2 d3 : Value) : Prop where
  c0 : w.cell? ⟨b, o, none⟩ = some d0
  c1 : w.cell? ⟨b, o + 1, none⟩ = some d1
  c2 : w.cell? ⟨b, o + 2, none⟩ = some d2
  c3 : w.cell? ⟨b, o + 3, none⟩ = some d3

/-- Names: m texts behind a slice. -/
def Nam (w : World) (m : Nat) (nm : Nat → ByteArray) (c : Value) : Prop :=
  ∃ A cap, c = .slice A m cap ∧ m ≤ maxLen ∧ ∀ j, j < m → ∃ b o, A = some ⟨b, o, none⟩ ∧ w.cell? ⟨b, o + j, none⟩ = some (.string (nm j)) ∧ (nm j).size ≤ maxLen

/-- The four cells are the value v. -/
def At (w : World) : V → Value → Value → Value → Value → Prop
  | .no, _, _, _, _ => False
  | .mk k t n it m nm, c0, c1, c2, c3 => c0 = .int .i64 k ∧ c1 = .string t ∧ t.size ≤ maxLen ∧
    (∃ A cap, c2 = .slice A n cap ∧ n ≤ maxLen ∧ ∀ i, i < n → ∃ b o d0 d1 d2 d3, A = some ⟨b, o, none⟩ ∧ Four w b (o + i * 4) d0 d1 d2 d3 ∧ At w (it i) d0 d1 d2 d3) ∧
    Nam w m nm c3

/-- Items: n values behind a slice. -/
def Its (w : World) (n : Nat) (it : Nat → V) (c : Value) : Prop :=
  ∃ A cap, c = .slice A n cap ∧ n ≤ maxLen ∧ ∀ i, i < n → ∃ b o d0 d1 d2 d3, A = some ⟨b, o, none⟩ ∧ Four w b (o + i * 4) d0 d1 d2 d3 ∧ At w (it i) d0 d1 d2 d3

theorem At_mk {w : World} {k : Int} {t : ByteArray} {n m : Nat} {it : Nat → V} {nm : Nat → ByteArray} {c0 c1 c2 c3 : Value} :
    At w (.mk k t n it m nm) c0 c1 c2 c3 ↔ c0 = .int .i64 k ∧ c1 = .string t ∧ t.size ≤ maxLen ∧ Its w n it c2 ∧ Nam w m nm c3 := Iff.rfl

def sumTo (f : Nat → Nat) : Nat → Nat
  | 0 => 0
  | n + 1 => sumTo f n + f n
theorem sumTo_le (f : Nat → Nat) {i n : Nat} (h : i ≤ n) : sumTo f i ≤ sumTo f n := by
  induction n with
  | zero => obtain rfl : i = 0 := by omega
            exact Nat.le_refl _
  | succ n ih =>
    rcases Nat.lt_or_ge n i with h1 | h1
    · obtain rfl : i = n + 1 := by omega
      exact Nat.le_refl _
    · have := ih h1; simp only [sumTo]; omega
theorem sumTo_lt (f : Nat → Nat) {i n : Nat} (h : i < n) : sumTo f i + f i ≤ sumTo f n := sumTo_le f (i := i + 1) h

/-- What the laws count of a value. -/
def sz : V → Nat
  | .no => 0
  | .mk _ t n it m nm => t.size + (n + sumTo (fun i => sz (it i)) n) + (m + sumTo (fun j => (nm j).size) m)
def szs (n : Nat) (it : Nat → V) : Nat := n + sumTo (fun i => sz (it i)) n
def sznm (m : Nat) (nm : Nat → ByteArray) : Nat := m + sumTo (fun j => (nm j).size) m
theorem sz_mk (k : Int) (t : ByteArray) (n : Nat) (it : Nat → V) (m : Nat) (nm : Nat → ByteArray) : sz (.mk k t n it m nm) = t.size + szs n it + sznm m nm := rfl
theorem sz_item {n : Nat} {it : Nat → V} {i : Nat} (h : i < n) : sz (it i) + 1 ≤ szs n it := by
  have := sumTo_lt (fun i => sz (it i)) h; unfold szs; omega

/-! ### It lies there still -/
theorem Four.lt {w : World} {b o : Nat} {d0 d1 d2 d3 : Value} (h : Four w b o d0 d1 d2 d3) : b < w.heap.size := World.block_lt_of_cell? w ⟨b, o, none⟩ h.c0
theorem Four.same {w w' : World} {b o : Nat} {d0 d1 d2 d3 : Value} (h : Four w b o d0 d1 d2 d3) (hb : w'.heap[b]? = w.heap[b]?) : Four w' b o d0 d1 d2 d3 :=
  ⟨(World.cell?_of_block (a := ⟨b, o, none⟩) hb).trans h.c0, (World.cell?_of_block (a := ⟨b, o + 1, none⟩) hb).trans h.c1, (World.cell?_of_block (a := ⟨b, o + 2, none⟩) hb).trans h.c2, (World.cell?_of_block (a := ⟨b, o + 3, none⟩) hb).trans h.c3⟩
theorem Four.below {w w' : World} {b o : Nat} {d0 d1 d2 d3 : Value} (h : Four w b o d0 d1 d2 d3) (hb : Below w.heap.size w w') : Four w' b o d0 d1 d2 d3 := h.same (hb.block b h.lt)
theorem Nam.below {w w' : World} {m : Nat} {nm : Nat → ByteArray} {c : Value} (h : Nam w m nm c) (hb : Below w.heap.size w w') : Nam w' m nm c := by
  obtain ⟨A, cap, rfl, hm, hc⟩ := h
  refine ⟨A, cap, rfl, hm, fun j hj => ?_⟩
  obtain ⟨b, o, rfl, h1, h2⟩ := hc j hj
  exact ⟨b, o, rfl, (hb.cell (World.block_lt_of_cell? w _ h1)).trans h1, h2⟩
theorem At.below {w w' : World} (hb : Below w.heap.size w w') : ∀ (v : V) {c0 c1 c2 c3 : Value}, At w v c0 c1 c2 c3 → At w' v c0 c1 c2 c3
  | .no, _, _, _, _, h => h.elim
  | .mk k t n it m nm, c0, c1, c2, c3, h => by
    obtain ⟨h0, h1, h2, ⟨A, cap, h3, h4, h5⟩, h6⟩ := h
    refine ⟨h0, h1, h2, ⟨A, cap, h3, h4, fun i hi => ?_⟩, h6.below hb⟩
    obtain ⟨b, o, d0, d1, d2, d3, e, hf, ha⟩ := h5 i hi
    exact ⟨b, o, d0, d1, d2, d3, e, hf.below hb, At.below hb (it i) ha⟩
theorem Its.below {w w' : World} (hb : Below w.heap.size w w') {n : Nat} {it : Nat → V} {c : Value} (h : Its w n it c) : Its w' n it c := by
  obtain ⟨A, cap, h3, h4, h5⟩ := h
  refine ⟨A, cap, h3, h4, fun i hi => ?_⟩
  obtain ⟨b, o, d0, d1, d2, d3, e, hf, ha⟩ := h5 i hi
  exact ⟨b, o, d0, d1, d2, d3, e, hf.below hb, At.below hb (it i) ha⟩
theorem below_alloc (w : World) (o : Obj) : Below w.heap.size w (w.alloc o) := (Below.refl _ w).alloc (Nat.le_refl _) o
theorem below_trans {a b c : World} (h : Below a.heap.size a b) (k : Below b.heap.size b c) : Below a.heap.size a c := h.trans (k.mono h.size)

/-! ### Off an argument -/
section
variable {H : Type} {enc : TypeId × Value → H} {w : World} {spare : Nat → Bool} {held : Bool}
theorem und3 : Try.prog.underlying 3 = some (.int .i64) := by kernel_rfl
theorem und9 : Try.prog.underlying 9 = some .string := by kernel_rfl
theorem cells9 : Try.prog.cellsOf 9 = 1 := by kernel_rfl
theorem undN : Try.prog.underlying 23 = some (.slice 9) := by kernel_rfl
theorem undI : Try.prog.underlying 22 = some (.slice 25) := by kernel_rfl
theorem cellsV : Try.prog.cellsOf 25 = 4 := by kernel_rfl

theorem plain_of {w : World} {a : Addr} {v : Value} (h0 : w.cell? (a.add 0) = some v) : ∃ b o, a = ⟨b, o, none⟩ := by
  rw [show a.add 0 = a from by simp [Addr.add]] at h0
  obtain ⟨b, o, s⟩ := a
  cases s with
  | none => exact ⟨b, o, rfl⟩
  | some s => simp [World.cell?] at h0; split at h0 <;> simp at h0

theorem nam_of {fuel : Nat} {c : Value} {x : DataW H × List MemPlace} (h : DataW.trod enc Try.prog w 0 spare held fuel 23 [c] = some x) : ∃ m nm, Nam w m nm c := by
  rcases open_strs undN und9 cells9 h with ⟨hc, -⟩ | ⟨a, len, cap, m, Sx, hc, -, hl, hm, hmm, -, hx⟩
  · obtain rfl : c = .slice none 0 0 := by simpa using hc
    exact ⟨0, fun _ => ⟨#[]⟩, none, 0, rfl, Nat.zero_le _, fun j hj => absurd hj (Nat.not_lt_zero _)⟩
  · obtain rfl : c = .slice (some a) len cap := by simpa using hc
    have hlm : len ≤ m := by rw [hmm]; split <;> omega
    refine ⟨len, Sx, some a, cap, rfl, by omega, fun j hj => ?_⟩
    obtain ⟨h1, h2⟩ := hx j (by omega)
    obtain ⟨b, o, rfl⟩ := plain_of (hx 0 (by omega)).1
    refine ⟨b, o, rfl, ?_, h2⟩
    rwa [add_plain] at h1
theorem undV : ∃ f0 f1 f2 f3, Try.prog.underlying 25 = some (.struct #[f0, f1, f2, f3]) ∧ oneCellFields Try.prog #[f0, f1, f2, f3] = true ∧ f0.type = 3 ∧ f1.type = 9 ∧ f2.type = 22 ∧ f3.type = 23 :=
  ⟨_, _, _, _, Try.underlying25, (by kernel_rfl), rfl, rfl, rfl, rfl⟩

theorem at_of : ∀ (fuel : Nat) {cs : List Value} {x : DataW H × List MemPlace}, DataW.trod enc Try.prog w 0 spare held fuel 25 cs = some x →
    ∃ v c0 c1 c2 c3, cs = [c0, c1, c2, c3] ∧ At w v c0 c1 c2 c3 := by
  intro fuel
  induction fuel using Nat.strongRecOn with
  | ind fuel ih =>
    intro cs x h
    obtain ⟨f0, f1, f2, f3, hs, hone, t0, t1, t2, t3⟩ := undV
    obtain ⟨xs, n, rfl, -, hlen, hxs, hf⟩ := DataW.trod_struct hs h
    rw [cellsV] at hlen
    match cs, hlen, xs, hxs with
    | [c0, c1, c2, c3], _, [y0, y1, y2, y3], _ =>
      obtain ⟨o0, k0⟩ := hone_of hone 0 f0 rfl
      obtain ⟨o1, k1⟩ := hone_of hone 1 f1 rfl
      obtain ⟨o2, k2⟩ := hone_of hone 2 f2 rfl
      obtain ⟨o3, k3⟩ := hone_of hone 3 f3 rfl
      have g0 := hf 0 f0 rfl
      have g1 := hf 1 f1 rfl
      have g2 := hf 2 f2 rfl
      have g3 := hf 3 f3 rfl
      rw [o0, k0, t0] at g0
      rw [o1, k1, t1] at g1
      rw [o2, k2, t2] at g2
      rw [o3, k3, t3] at g3
      simp at g0 g1 g2 g3
      obtain ⟨k, e0, -, -⟩ := DataW.trod_int und3 g0
      obtain ⟨t, e1, -, ht⟩ := DataW.trod_string und9 g1
      obtain ⟨m, nm, hnm⟩ := nam_of g3
      have key : ∃ (N : Nat) (it : Nat → V), Its w N it c2 := by
        rcases DataW.trod_slice undI g2 with ⟨hc, -⟩ | ⟨a, len, cap, elems, rest, n', hn', hc, -, -, hl, hm, hel, hx, -, -⟩
        · obtain rfl : c2 = .slice none 0 0 := by simpa using hc
          exact ⟨0, fun _ => .no, none, 0, rfl, Nat.zero_le _, fun j hj => absurd hj (Nat.not_lt_zero _)⟩
        · obtain rfl : c2 = .slice (some a) len cap := by simpa using hc
          rw [cellsV] at hx
          have each : ∀ i, i < len → ∃ v : V, ∃ b o d0 d1 d2 d3, some a = some ⟨b, o, none⟩ ∧ Four w b (o + i * 4) d0 d1 d2 d3 ∧ At w v d0 d1 d2 d3 := by
            intro i hi
            have pl : ∃ b o, a = ⟨b, o, none⟩ := by
              have h0 := hx 0 (by omega)
              rw [List.getElem?_eq_getElem (by omega)] at h0
              obtain ⟨cs', h1, -⟩ := Option.bind_eq_some_iff.1 h0
              obtain ⟨-, hl', hcell⟩ := World.cells?_some h1
              have h2 := hcell 0 (by omega)
              rw [List.getElem?_eq_getElem (by omega), add_add] at h2
              exact plain_of (by simpa using h2)
            obtain ⟨b, o, rfl⟩ := pl
            have h0 := hx i hi
            rw [List.getElem?_eq_getElem (by omega)] at h0
            obtain ⟨cs', h1, h2⟩ := Option.bind_eq_some_iff.1 h0
            obtain ⟨v, d0, d1, d2, d3, rfl, hv⟩ := ih n' (by omega) h2
            obtain ⟨-, -, hcell⟩ := World.cells?_some h1
            have q0 := hcell 0 (by omega)
            have q1 := hcell 1 (by omega)
            have q2 := hcell 2 (by omega)
            have q3 := hcell 3 (by omega)
            rw [add_add, add_plain] at q0 q1 q2 q3
            exact ⟨v, b, o, d0, d1, d2, d3, rfl, ⟨by simpa using q0, by simpa [Nat.add_assoc] using q1, by simpa [Nat.add_assoc] using q2, by simpa [Nat.add_assoc] using q3⟩, hv⟩
          obtain ⟨it, hit⟩ := choose_lt each
          exact ⟨len, it, some a, cap, rfl, by omega, fun i hi => hit i hi⟩
      obtain ⟨N, it, hit⟩ := key
      refine ⟨.mk k t N it m nm, c0, c1, c2, c3, rfl, At_mk.2 ⟨by simpa using e0, by simpa using e1, ht, hit, hnm⟩⟩
end
end Va
end Go.Proofs.Ytngfhncdmlpjiaa
