/- What is proved: names with values (Arg): how a list of them lies in memory, that it lies there still where nothing old is written, how it is read off an argument, and lists of them in memory of their own. -/
import Derived.Test.YtngfhncdmlpjiaaVo
import Derived.ChangeSame
namespace Go.Proofs.Ytngfhncdmlpjiaa
namespace Va
open Go.RowKit Go.Deep Go.WideShapes

/-- A name and four cells from o on in block b. -/
structure Five (w : World) (b o : Nat) (t : ByteArray) (d0 d1 d2 d3 : Value) : Prop where
  cn : w.cell? ⟨b, o, none⟩ = some (.string t)
  c0 : w.cell? ⟨b, o + 1, none⟩ = some d0
  c1 : w.cell? ⟨b, o + 2, none⟩ = some d1
  c2 : w.cell? ⟨b, o + 3, none⟩ = some d2
  c3 : w.cell? ⟨b, o + 4, none⟩ = some d3

/-- n names with their values behind a slice. -/
def Ars (w : World) (n : Nat) (nm : Nat → ByteArray) (it : Nat → V) (c : Value) : Prop :=
  ∃ A cap, c = .slice A n cap ∧ n ≤ maxLen ∧ ∀ i, i < n → ∃ b o d0 d1 d2 d3, A = some ⟨b, o, none⟩ ∧ Five w b (o + i * 5) (nm i) d0 d1 d2 d3 ∧ (nm i).size ≤ maxLen ∧ At w (it i) d0 d1 d2 d3

/-- What the laws count of them. -/
def sza (n : Nat) (nm : Nat → ByteArray) (it : Nat → V) : Nat := n + sumTo (fun i => (nm i).size + sz (it i)) n
theorem sza_item {n : Nat} {nm : Nat → ByteArray} {it : Nat → V} {i : Nat} (h : i < n) : (nm i).size + sz (it i) + 1 ≤ sza n nm it := by
  have := sumTo_lt (fun i => (nm i).size + sz (it i)) h; unfold sza; omega

theorem Five.lt {w : World} {b o : Nat} {t : ByteArray} {d0 d1 d2 d3 : Value} (h : Five w b o t d0 d1 d2 d3) : b < w.heap.size := World.block_lt_of_cell? w ⟨b, o, none⟩ h.cn
theorem Five.same {w w' : World} {b o : Nat} {t : ByteArray} {d0 d1 d2 d3 : Value} (h : Five w b o t d0 d1 d2 d3) (hb : w'.heap[b]? = w.heap[b]?) : Five w' b o t d0 d1 d2 d3 :=
  ⟨(World.cell?_of_block (a := ⟨b, o, none⟩) hb).trans h.cn, (World.cell?_of_block (a := ⟨b, o + 1, none⟩) hb).trans h.c0, (World.cell?_of_block (a := ⟨b, o + 2, none⟩) hb).trans h.c1, (World.cell?_of_block (a := ⟨b, o + 3, none⟩) hb).trans h.c2, (World.cell?_of_block (a := ⟨b, o + 4, none⟩) hb).trans h.c3⟩
theorem Five.below {w w' : World} {b o : Nat} {t : ByteArray} {d0 d1 d2 d3 : Value} (h : Five w b o t d0 d1 d2 d3) (hb : Below w.heap.size w w') : Five w' b o t d0 d1 d2 d3 := h.same (hb.block b h.lt)
theorem Ars.below {w w' : World} (hb : Below w.heap.size w w') {n : Nat} {nm : Nat → ByteArray} {it : Nat → V} {c : Value} (h : Ars w n nm it c) : Ars w' n nm it c := by
  obtain ⟨A, cap, h3, h4, h5⟩ := h
  refine ⟨A, cap, h3, h4, fun i hi => ?_⟩
  obtain ⟨b, o, d0, d1, d2, d3, e, hf, hs, ha⟩ := h5 i hi
  exact ⟨b, o, d0, d1, d2, d3, e, hf.below hb, hs, At.below hb (it i) ha⟩
/-- One of them: where it lies. -/
theorem Ars.nth {w : World} {n cap : Nat} {nm : Nat → ByteArray} {it : Nat → V} {A : Option Addr} (h : Ars w n nm it (.slice A n cap)) {i : Nat} (hi : i < n) :
    ∃ b o d0 d1 d2 d3, A = some ⟨b, o, none⟩ ∧ Five w b (o + i * 5) (nm i) d0 d1 d2 d3 ∧ (nm i).size ≤ maxLen ∧ At w (it i) d0 d1 d2 d3 := by
  obtain ⟨A', cap', e1, -, hc⟩ := h
  simp only [Value.slice.injEq] at e1
  obtain ⟨e3, -, e4⟩ := e1
  subst e3 e4
  exact hc i hi

/-! ### Off an argument -/
section
variable {H : Type} {enc : TypeId × Value → H} {w : World} {spare : Nat → Bool} {held : Bool}
theorem undAs : Try.prog.underlying 33 = some (.slice 49) := by kernel_rfl
theorem cellsA : Try.prog.cellsOf 49 = 5 := by kernel_rfl
theorem undA : ∃ f0 f1, Try.prog.underlying 49 = some (.struct #[f0, f1]) ∧ f0.type = 9 ∧ f0.offset = 0 ∧ f1.type = 25 ∧ f1.offset = 1 :=
  ⟨_, _, Try.underlying49, rfl, rfl, rfl, rfl⟩

theorem arg_of {fuel : Nat} {cs : List Value} {x : DataW H × List MemPlace} (h : DataW.trod enc Try.prog w 0 spare held fuel 49 cs = some x) :
    ∃ t v d0 d1 d2 d3, cs = [.string t, d0, d1, d2, d3] ∧ t.size ≤ maxLen ∧ At w v d0 d1 d2 d3 := by
  obtain ⟨f0, f1, hs, t0, o0, t1, o1⟩ := undA
  obtain ⟨y0, y1, n, -, hl, g0, g1⟩ := Go.ChangeShapes.trod_struct2 hs h
  rw [cellsA] at hl
  rw [t0, o0, cells9] at g0
  rw [t1, o1, cellsV] at g1
  match cs, hl with
  | [c, c0, c1, c2, c3], _ =>
    simp at g0 g1
    obtain ⟨t, e1, -, ht⟩ := DataW.trod_string und9 g0
    obtain ⟨v, d0, d1, d2, d3, e2, hv⟩ := at_of n g1
    simp only [List.cons.injEq, and_true] at e1 e2
    obtain ⟨rfl, rfl, rfl, rfl⟩ := e2
    subst e1
    exact ⟨t, v, _, _, _, _, rfl, ht, hv⟩

theorem ars_of {fuel : Nat} {c : Value} {x : DataW H × List MemPlace} (h : DataW.trod enc Try.prog w 0 spare held fuel 33 [c] = some x) : ∃ n nm it, Ars w n nm it c := by
  rcases DataW.trod_slice undAs h with ⟨hc, -⟩ | ⟨a, len, cap, elems, rest, n', hn', hc, -, -, hl, hm, hel, hx, -, -⟩
  · obtain rfl : c = .slice none 0 0 := by simpa using hc
    exact ⟨0, fun _ => ⟨#[]⟩, fun _ => .no, none, 0, rfl, Nat.zero_le _, fun j hj => absurd hj (Nat.not_lt_zero _)⟩
  · obtain rfl : c = .slice (some a) len cap := by simpa using hc
    rw [cellsA] at hx
    have each : ∀ i, i < len → ∃ p : ByteArray × V, ∃ b o d0 d1 d2 d3, some a = some ⟨b, o, none⟩ ∧ Five w b (o + i * 5) p.1 d0 d1 d2 d3 ∧ p.1.size ≤ maxLen ∧ At w p.2 d0 d1 d2 d3 := by
      intro i hi
      have pl : ∃ b o, a = ⟨b, o, none⟩ := by
        have h0 := hx 0 (by omega)
        rw [List.getElem?_eq_getElem (by omega)] at h0
        obtain ⟨cs', h1, -⟩ := Option.bind_eq_some_iff.1 h0
        obtain ⟨-, hl', hcell⟩ := World.cells?_some h1
        have h2 := hcell 0 (by omega)
        rw [List.getElem?_eq_getElem (by omega), add_add] at h2
        exact plain_of (by simpa using h2)
      obtain ⟨b, o, rfl⟩ := pl
      have h0 := hx i hi
      rw [List.getElem?_eq_getElem (by omega)] at h0
      obtain ⟨cs', h1, h2⟩ := Option.bind_eq_some_iff.1 h0
      obtain ⟨t, v, d0, d1, d2, d3, rfl, ht, hv⟩ := arg_of h2
      obtain ⟨-, -, hcell⟩ := World.cells?_some h1
      have q0 := hcell 0 (by omega)
      have q1 := hcell 1 (by omega)
      have q2 := hcell 2 (by omega)
      have q3 := hcell 3 (by omega)
      have q4 := hcell 4 (by omega)
      rw [add_add, add_plain] at q0 q1 q2 q3 q4
      exact ⟨(t, v), b, o, d0, d1, d2, d3, rfl, ⟨by simpa using q0, by simpa [Nat.add_assoc] using q1, by simpa [Nat.add_assoc] using q2, by simpa [Nat.add_assoc] using q3, by simpa [Nat.add_assoc] using q4⟩, ht, hv⟩
    obtain ⟨f, hf⟩ := choose_lt each
    exact ⟨len, fun i => (f i).1, fun i => (f i).2, some a, cap, rfl, by omega, fun i hi => hf i hi⟩
end

/-! ### In memory of their own -/
/-- n names with their values in blocks of their own, from lo up to hi. -/
def OwnA (w : World) (lo hi n : Nat) (nm : Nat → ByteArray) (it : Nat → V) (c : Value) : Prop :=
  ∃ (g : Nat) (r : Nat → Nat) (cur : Array Value), c = .slice (some ⟨g, 0, none⟩) n n ∧ n ≤ maxLen ∧ lo ≤ g ∧ g < r 0 ∧ r n ≤ hi ∧ (∀ i, i < n → r i ≤ r (i + 1)) ∧ w.heap[g]? = some (.cells cur 51 (0, 0)) ∧ cur.size = n * 5 ∧
    ∀ i, i < n → ∃ d0 d1 d2 d3, cur[i * 5]? = some (.string (nm i)) ∧ (nm i).size ≤ maxLen ∧ cur[i * 5 + 1]? = some d0 ∧ cur[i * 5 + 2]? = some d1 ∧ cur[i * 5 + 3]? = some d2 ∧ cur[i * 5 + 4]? = some d3 ∧ Own w (it i) (r i) (r (i + 1)) d0 d1 d2 d3
theorem OwnA.same {w w' : World} {lo hi n : Nat} {nm : Nat → ByteArray} {it : Nat → V} {c : Value} (h : OwnA w lo hi n nm it c) (hs : ∀ b, lo ≤ b → b < hi → w'.heap[b]? = w.heap[b]?) : OwnA w' lo hi n nm it c := by
  obtain ⟨g, r, cur, e, hn, hlo, hr0, hrn, hr, hg, hcs, hc⟩ := h
  have hgm : g < hi := by have := r_le hr (Nat.zero_le n) (Nat.le_refl n); omega
  refine ⟨g, r, cur, e, hn, hlo, hr0, hrn, hr, (hs g hlo (by omega)).trans hg, hcs, fun i hi => ?_⟩
  obtain ⟨d0, d1, d2, d3, qn, qs, q0, q1, q2, q3, ho⟩ := hc i hi
  have a1 := r_le hr (Nat.zero_le i) (by omega)
  have a2 := r_le hr (i := i + 1) (j := n) hi (Nat.le_refl n)
  exact ⟨d0, d1, d2, d3, qn, qs, q0, q1, q2, q3, Own.same (it i) ho fun b p1 p2 => hs b (by omega) (by omega)⟩
theorem OwnA.wide {w : World} {lo hi lo' hi' n : Nat} {nm : Nat → ByteArray} {it : Nat → V} {c : Value} (h : OwnA w lo hi n nm it c) (h1 : lo' ≤ lo) (h2 : hi ≤ hi') : OwnA w lo' hi' n nm it c := by
  obtain ⟨g, r, cur, e, hn, hlo, hr0, hrn, q⟩ := h
  exact ⟨g, r, cur, e, hn, by omega, hr0, by omega, q⟩
theorem OwnA.ars {w : World} {lo hi n : Nat} {nm : Nat → ByteArray} {it : Nat → V} {c : Value} (h : OwnA w lo hi n nm it c) : Ars w n nm it c := by
  obtain ⟨g, r, cur, e, hn, hlo, hr0, hrn, hr, hg, hcs, hc⟩ := h
  refine ⟨_, _, e, hn, fun i hi => ?_⟩
  obtain ⟨d0, d1, d2, d3, qn, qs, q0, q1, q2, q3, ho⟩ := hc i hi
  exact ⟨g, 0, d0, d1, d2, d3, rfl, ⟨by rw [cell_of hg, Nat.zero_add]; exact qn, by rw [cell_of hg, Nat.zero_add]; exact q0, by rw [cell_of hg, Nat.zero_add]; exact q1, by rw [cell_of hg, Nat.zero_add]; exact q2, by rw [cell_of hg, Nat.zero_add]; exact q3⟩, qs, Own.at (it i) ho⟩
end Va
end Go.Proofs.Ytngfhncdmlpjiaa
