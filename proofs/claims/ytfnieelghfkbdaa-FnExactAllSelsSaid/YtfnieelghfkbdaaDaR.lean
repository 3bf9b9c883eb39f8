/- What is proved: the program's renewing of a value: its own lists, whose rows wait. -/
import Derived.Test.YtfnieelghfkbdaaDaX
import Derived.Test.YtfnieelghfkbdaaDaC
namespace Go.Proofs.Ytfnieelghfkbdaa
namespace Da
set_option linter.unusedVariables false
open Go.RowKit
attribute [local go_sem ↓] Go.wp_at_zero Go.wp_at_succ

theorem row_form {w : World} {B n c W : Nat} {ty : TypeId} {A : Option Addr} {xs : List Value} (h : w.ownsRow B ty W (.slice A n c) n xs) :
    n ≤ c ∧ c ≤ maxLen ∧ (0 < n → ∃ g cur, A = some ⟨g, 0, none⟩ ∧ B ≤ g ∧ g < w.heap.size ∧ w.heap[g]? = some (.cells cur ty (0, 0)) ∧ n * W ≤ cur.size ∧ ∀ q, q < n * W → cur[q]? = xs[q]?) := by
  rcases h.2 with ⟨h0, h1⟩ | ⟨g, cap, cur, hv, hB, hg, hc1, hc2, hc3, hc4⟩
  · simp only [Value.slice.injEq] at h0
    obtain ⟨rfl, rfl, rfl⟩ := h0
    exact ⟨Nat.le_refl _, Nat.zero_le _, fun h => absurd h (Nat.lt_irrefl _)⟩
  · simp only [Value.slice.injEq, true_and] at hv
    obtain ⟨rfl, rfl⟩ := hv
    refine ⟨hc1, hc2, fun _ => ⟨g, cur, rfl, hB, lt_of hg, hg, by rw [hc3]; exact Nat.mul_le_mul_right W hc1, fun q hq => ?_⟩⟩
    rw [← hc4, List.getElem?_take_of_lt hq]
    simp
/-- A list of texts in a row of its own, or none. -/
theorem own_texts0 {w : World} {B n c : Nat} {ty : TypeId} {A : Option Addr} {it : Nat → Nat → D} {xs : List Value} (h : w.ownsRow B ty 1 (.slice A n c) n xs) (hx : ∀ i, i < n → ∃ t : ByteArray, it i 0 = .str t ∧ t.size ≤ maxLen ∧ xs[i]? = some (.string t)) : Own w (.list 1 n it) (fun x => (Value.slice A n c).ownBlock = some x) (.slice A n c) := by
  obtain ⟨h1, h2, h3⟩ := row_form h
  refine ⟨A, c, rfl, h1, h2, fun h0 => ?_⟩
  obtain ⟨g, cur, rfl, hB, hgl, hg, hs, hq⟩ := h3 h0
  refine ⟨g, cur, ty, fun _ _ _ => False, rfl, rfl, hg, hs, fun i j hi hj => ⟨fun b hb => hb.elim, fun _ _ _ _ _ b hb => hb.elim⟩, fun i hi j hj => ?_⟩
  obtain rfl : j = 0 := by omega
  obtain ⟨t, e, hs, hxi⟩ := hx i hi
  rw [e]
  exact ⟨.string t, by rw [hq _ (by omega)]; simpa using hxi, rfl, hs⟩

/-- The row p is what it is, as w0 has it. -/
def Shal (w0 w : World) (W : Nat) (p : Pn) : Prop := ∃ (cur : Array Value) (ty : TypeId), w.heap[p.b]? = some (.cells cur ty (0, 0)) ∧ ∀ j, j < W → ∃ v, cur[p.o + j]? = some v ∧ At w0 (p.r j) v
/-- The contract of renewing a row. -/
def RnC (fid W ci : Nat) (k : K) : Prop := ∀ (w0 w : World) (p : Pn), Shal w0 w W p → Below w0.heap.size w0 w → w0.heap.size ≤ p.b → (∀ j g, (row k)[j]? = some g → Sh (p.r j) g) → (∀ j, j < W → sz (p.r j) ≤ 1048576) →
  Calls Try.prog fid #[.pointer (some ⟨p.b, p.o, none⟩)] w fun e w2 => ∃ vs n g it, e = .returned (vs ci) ∧ Renew w w2 W ci p vs n g it ∧ (∀ i, i < n → Shal w0 w2 W ⟨g, i * W, it i⟩) ∧ Below w0.heap.size w0 w2

set_option maxRecDepth 100000 in
set_option maxHeartbeats 4000000 in
theorem renewV : RnC 63 4 2 .value := by
  intro w0 w p hs hbw hpb hsh hn
  obtain ⟨pb, po, r⟩ := p
  simp only at hpb hsh hn
  obtain ⟨cur, ty, hg, hc⟩ := hs
  simp only at hg hc
  obtain ⟨c0, c1, c2, c3, ⟨f0, a0⟩, ⟨f1, a1⟩, ⟨f2, a2⟩, ⟨f3, a3⟩⟩ := four hc
  rw [Nat.add_zero] at f0
  obtain ⟨n, it, e2, hsit⟩ := (hsh 2 _ rfl).lst
  obtain ⟨m, nm, e3, hnm⟩ := (hsh 3 _ rfl).lst
  simp only [row, List.length_cons, List.length_nil, Nat.zero_add, Nat.reduceAdd] at e2 e3
  have hn2 := hn 2 (by omega)
  have hn3 := hn 3 (by omega)
  rw [e2] at a2 hn2
  rw [e3] at a3 hn3
  obtain ⟨A, cap, rfl, -⟩ := a2.slice
  obtain ⟨A', cap', rfl, -⟩ := a3.slice
  obtain ⟨xs, x1, x2, x3, x4⟩ := a2.flat (by omega)
  obtain ⟨ns, y1, y2, y3, y4⟩ := a3.flat (by omega)
  have Y4 : Hid (∀ i, i < m → ∃ t : ByteArray, nm i 0 = .str t ∧ t.size ≤ maxLen ∧ ns[i]? = some (.string t)) := fun i hi => by
    obtain ⟨t, e⟩ := (hnm i hi 0 _ rfl).str
    obtain ⟨d, hd, ha⟩ := y4 i hi 0 (by omega)
    rw [e] at ha
    obtain ⟨rfl, hs⟩ := ha
    exact ⟨t, e, hs, by simpa using hd⟩
  have X4 := Lib.hid x4
  have HG := Lib.hid hg
  have cv := clnValue w A n cap xs (nar_sz _ hn2).1 x1 x2 fun h0 => by
    obtain ⟨b, o, e, h⟩ := x3 h0
    exact ⟨b, o, e, fun j u hu => (hbw.cell (World.block_lt_of_cell? w0 _ (h j u hu))).trans (h j u hu)⟩
  have cs : ∀ W : World, Below w0.heap.size w0 W → Calls Try.prog 67 #[.slice A' m cap'] W fun e w' => ∃ B c, e = .returned (.slice B m c) ∧ w'.ownsRow W.heap.size 9 1 (.slice B m c) m ns ∧ Below W.heap.size W w' := fun W hW => clnString W A' m cap' ns (nar_sz _ hn3).1 y1 y2 fun h0 => by
    obtain ⟨b, o, e, h⟩ := y3 h0
    exact ⟨b, o, e, fun j u hu => (hW.cell (World.block_lt_of_cell? w0 _ (h j u hu))).trans (h j u hu)⟩
  have CS := Lib.hid cs
  have E2 := Lib.hid e2
  have E3 := Lib.hid e3
  have A0 := Lib.hid a0
  have A1 := Lib.hid a1
  have F0 := Lib.hid f0
  have F1 := Lib.hid f1
  have F2 := Lib.hid f2
  have F3 := Lib.hid f3
  have hcs3 : po + 3 < cur.size := by
    rcases Nat.lt_or_ge (po + 3) cur.size with h | h
    · exact h
    · rw [Array.getElem?_eq_none h] at f3; cases f3
  have g2 : w.cell? ⟨pb, po + 2, none⟩ = some (.slice A n cap) := by rw [cell_of hg]; exact f2
  have hpl := lt_of hg
  clear hc hg f0 f1 f2 f3 a0 a1 a2 a3 x1 x2 x3 x4 y1 y2 y3 y4 cs e2 e3 hn2 hn3 hn hnm hsit
  go_enter Try.func63, Try.ntmps63
  go_wp2_with fail
  refine cv.mono ?_
  rintro e w1 ⟨B2, k2, rfl, hrow2, hb1⟩
  clear cv g2
  have hg1 := (hb1.block pb hpl).trans HG.out
  have q2 : w1.cell? ⟨pb, po + 2, none⟩ = some (.slice A n cap) := by rw [cell_of hg1]; exact F2.out
  have q3 : w1.cell? ⟨pb, po + 3, none⟩ = some (.slice A' m cap') := by rw [cell_of hg1]; exact F3.out
  have z2 : w1.frozen? ⟨pb, po + 2, none⟩ = false := frozen_no hg1 _
  have HG1 := Lib.hid hg1
  have HR2 := Lib.hid hrow2
  clear hg1 hrow2
  go_wp2_with fail
  clear q2 q3 z2
  obtain ⟨W1, hW1⟩ : ∃ W1, w1.setCell ⟨pb, po + 2, none⟩ (.slice B2 n k2) = W1 := ⟨_, rfl⟩
  have hgW : W1.heap[pb]? = some (.cells (cur.setIfInBounds (po + 2) (.slice B2 n k2)) ty (0, 0)) := by rw [← hW1]; exact heap_setCell_same w1 pb _ _ _ _ HG1.out
  have hfW : ∀ x, x ≠ pb → W1.heap[x]? = w1.heap[x]? := fun x hx => by rw [← hW1]; exact Below.heap_setCell _ _ _ _ hx
  have hzW : W1.heap.size = w1.heap.size := by rw [← hW1]; simp [World.setCell]
  have bW : Below w0.heap.size w0 W1 := by rw [← hW1]; exact (hbw.trans (hb1.mono hbw.size)).setCell hpb _
  rw [hW1]
  clear hW1
  refine (CS.out W1 bW).mono ?_
  rintro e w3 ⟨B3, k3, rfl, hrow3, hb3⟩
  have hg3 := (hb3.block pb (lt_of hgW)).trans hgW
  have q3 : w3.cell? ⟨pb, po + 3, none⟩ = some (.slice A' m cap') := by rw [cell_of hg3, Array.getElem?_setIfInBounds_ne (by omega)]; exact F3.out
  have z3 : w3.frozen? ⟨pb, po + 3, none⟩ = false := frozen_no hg3 _
  have q2 : w3.cell? ⟨pb, po + 2, none⟩ = some (.slice B2 n k2) := by rw [cell_of hg3, Array.getElem?_setIfInBounds_self_of_lt (by omega)]
  have HG3 := Lib.hid hg3
  have HR3 := Lib.hid hrow3
  have hs1 := hb1.size
  have hs3 := hb3.size
  clear hg3 hrow3 hgW
  go_wp2
  obtain ⟨W3, hW3⟩ : ∃ W3, w3.setCell ⟨pb, po + 3, none⟩ (.slice B3 m k3) = W3 := ⟨_, rfl⟩
  have hgW : W3.heap[pb]? = some (.cells ((cur.setIfInBounds (po + 2) (.slice B2 n k2)).setIfInBounds (po + 3) (.slice B3 m k3)) ty (0, 0)) := by rw [← hW3]; exact heap_setCell_same w3 pb _ _ _ _ HG3.out
  have hf3 : ∀ x, x ≠ pb → W3.heap[x]? = w3.heap[x]? := fun x hx => by rw [← hW3]; exact Below.heap_setCell _ _ _ _ hx
  have hz3 : W3.heap.size = w3.heap.size := by rw [← hW3]; simp [World.setCell]
  have b3 : Below w0.heap.size w0 W3 := by rw [← hW3]; exact (below_trans bW hb3).setCell hpb _
  rw [hW3]
  clear hW3
  go_ret
  obtain ⟨l1, l2, l3⟩ := row_form HR2.out
  obtain ⟨m1, m2, m3⟩ := row_form HR3.out
  have kept : ∀ x, x ≠ pb → x < w1.heap.size → W3.heap[x]? = w1.heap[x]? := fun x hx hl => by rw [hf3 x hx, hb3.block x (by omega), hfW x hx]
  have hnb : ∀ x, (Value.slice B3 m k3).ownBlock = some x → w1.heap.size ≤ x ∧ x < w3.heap.size := fun x hx => by
    have := own_row_lt HR3.out hx
    omega
  obtain ⟨g, hgn⟩ : ∃ g, 0 < n → B2 = some ⟨g, 0, none⟩ ∧ w.heap.size ≤ g ∧ g < w1.heap.size ∧ ∃ curg, w1.heap[g]? = some (.cells curg 68 (0, 0)) ∧ n * 4 ≤ curg.size ∧ ∀ q, q < n * 4 → curg[q]? = xs[q]? := by
    rcases Nat.eq_zero_or_pos n with h0 | h0
    · exact ⟨0, fun h => by omega⟩
    · obtain ⟨g, curg, e, h1, h2, h3, h4, h5⟩ := l3 h0
      exact ⟨g, fun _ => ⟨e, h1, h2, curg, h3, h4, h5⟩⟩
  refine ⟨fun j => match j with | 0 => c0 | 1 => c1 | 2 => .slice B2 n k2 | _ => .slice B3 m k3, n, g, it, rfl, ⟨by omega, fun x hx hne => ?_, ?_, E2.out, ?_, ⟨B2, k2, rfl, l1, l2, fun h0 => ?_⟩⟩, fun i hi => ?_, b3⟩
  · rw [kept x hne (by omega)]; exact hb1.block x hx
  · refine ⟨cur, _, ty, HG.out, hgW, by simp, fun q hq => ?_, fun j hj => ?_⟩
    · simp only at hq
      rw [Array.getElem?_setIfInBounds_ne (by omega), Array.getElem?_setIfInBounds_ne (by omega)]
    · match j, hj with
      | 0, _ => rw [Array.getElem?_setIfInBounds_ne (by simp only; omega), Array.getElem?_setIfInBounds_ne (by simp only; omega)]; exact F0.out
      | 1, _ => rw [Array.getElem?_setIfInBounds_ne (by simp only; omega), Array.getElem?_setIfInBounds_ne (by simp only; omega)]; exact F1.out
      | 2, _ => rw [Array.getElem?_setIfInBounds_ne (by simp only; omega), Array.getElem?_setIfInBounds_self_of_lt (by omega)]; rfl
      | 3, _ => rw [Array.getElem?_setIfInBounds_self_of_lt (by simp; omega)]; rfl
  · refine ⟨fun j x => j = 3 ∧ (Value.slice B3 m k3).ownBlock = some x, fun j hj hne => ?_, fun j j' _ _ _ _ hne x h1 h2 => by omega⟩
    match j, hj with
    | 0, _ => exact ⟨Own.plain A0.out (hsh 0 _ rfl), fun x hx => absurd hx.1 (by omega)⟩
    | 1, _ => exact ⟨Own.plain A1.out (hsh 1 _ rfl), fun x hx => absurd hx.1 (by omega)⟩
    | 2, _ => exact absurd rfl hne
    | 3, _ =>
      refine ⟨?_, fun x hx => ?_⟩
      · show Own W3 (r 3) _ (.slice B3 m k3)
        rw [E3.out]
        refine Own.wide (F := fun x => (Value.slice B3 m k3).ownBlock = some x) (fun x hx => ⟨rfl, hx⟩) _ (Own.same _ (own_texts0 HR3.out Y4.out) fun x hx => hf3 x ?_)
        have := hnb x hx; omega
      · have := hnb x hx.2
        exact ⟨by omega, by omega, fun h0 => by have := (hgn h0).2.2.1; omega⟩
  · obtain ⟨e, h1, h2, curg, h3, h4, h5⟩ := hgn h0
    exact ⟨e, h1, by omega, curg, _, by rw [kept g (by omega) h2]; exact h3, h4⟩
  · obtain ⟨e, h1, h2, curg, h3, h4, h5⟩ := hgn (by omega)
    refine ⟨curg, _, by show W3.heap[g]? = _; rw [kept g (by omega) h2]; exact h3, fun j hj => ?_⟩
    obtain ⟨d, hd, ha⟩ := X4.out i hi j hj
    exact ⟨d, by rw [h5 _ (by simp only; omega)]; exact hd, ha⟩
end Da
end Go.Proofs.Ytfnieelghfkbdaa
