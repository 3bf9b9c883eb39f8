/- What is proved: the program's renewing of a selection: its own lists, those of its selections wait. -/
import Derived.Test.YtfnieelghfkbdaaDaP
namespace Go.Proofs.Ytfnieelghfkbdaa
namespace Da
set_option linter.unusedVariables false
open Go.RowKit
attribute [local go_sem ↓] Go.wp_at_zero Go.wp_at_succ

/-- A block, one of its cells stored. -/
theorem set_facts {w : World} {b q : Nat} {cur : Array Value} {ty : TypeId} {v : Value} (hg : w.heap[b]? = some (.cells cur ty (0, 0))) :
    (w.setCell ⟨b, q, none⟩ v).heap[b]? = some (.cells (cur.setIfInBounds q v) ty (0, 0)) ∧ (∀ x, x ≠ b → (w.setCell ⟨b, q, none⟩ v).heap[x]? = w.heap[x]?) ∧ (w.setCell ⟨b, q, none⟩ v).heap.size = w.heap.size :=
  ⟨heap_setCell_same w b _ _ _ _ hg, fun x hx => Below.heap_setCell _ _ _ _ hx, by simp [World.setCell]⟩

set_option maxRecDepth 100000 in
set_option maxHeartbeats 8000000 in
theorem renewS : RnC 35 7 6 .sel := by
  intro w0 w p hs hbw hpb hsh hn
  obtain ⟨pb, po, r⟩ := p
  simp only at hpb hsh hn
  obtain ⟨cur, ty, hg, hc⟩ := hs
  simp only at hg hc
  obtain ⟨c0, c1, c2, c3, c4, c5, c6, ⟨f0, a0⟩, ⟨f1, a1⟩, ⟨f2, a2⟩, ⟨f3, a3⟩, ⟨f4, a4⟩, ⟨f5, a5⟩, ⟨f6, a6⟩⟩ := seven hc
  rw [Nat.add_zero] at f0
  obtain ⟨n, it, e6, hsit⟩ := (hsh 6 _ rfl).lst
  simp only [row, List.length_cons, List.length_nil, Nat.zero_add, Nat.reduceAdd] at e6
  have hn6 := hn 6 (by omega)
  have B4 := Lib.hid a4
  have B5 := Lib.hid a5
  obtain ⟨A4, n4, k4, rfl⟩ := At.lst a4 (hsh 4 _ rfl)
  obtain ⟨A5, n5, k5, rfl⟩ := At.lst a5 (hsh 5 _ rfl)
  rw [e6] at a6 hn6
  obtain ⟨A, cap, rfl, -⟩ := a6.slice
  obtain ⟨xs, x1, x2, x3, x4⟩ := a6.flat (by omega)
  have X4 := Lib.hid x4
  have HG := Lib.hid hg
  have cs : ∀ W : World, Below w0.heap.size w0 W → Calls Try.prog 49 #[.slice A n cap] W fun e w' => ∃ B c, e = .returned (.slice B n c) ∧ w'.ownsRow W.heap.size 41 7 (.slice B n c) n xs ∧ Below W.heap.size W w' := fun W hW => clnSel W A n cap xs (nar_sz _ hn6).1 x1 x2 fun h0 => by
    obtain ⟨b, o, e, h⟩ := x3 h0
    exact ⟨b, o, e, fun j u hu => (hW.cell (World.block_lt_of_cell? w0 _ (h j u hu))).trans (h j u hu)⟩
  have CS := Lib.hid cs
  have c4' := Lib.hid (copyArgs (hsh 4 _ rfl) w _ (hn 4 (by omega)) (At.below hbw _ B4.out))
  have c5' : Hid (∀ W : World, Below w0.heap.size w0 W → _) := fun W hW => copyDirs (hsh 5 _ rfl) W _ (hn 5 (by omega)) (At.below hW _ B5.out)
  have E6 := Lib.hid e6
  have A0' := Lib.hid a0
  have A1' := Lib.hid a1
  have A2' := Lib.hid a2
  have A3' := Lib.hid a3
  have F0 := Lib.hid f0
  have F1 := Lib.hid f1
  have F2 := Lib.hid f2
  have F3 := Lib.hid f3
  have F4 := Lib.hid f4
  have F5 := Lib.hid f5
  have F6 := Lib.hid f6
  have hcs : po + 6 < cur.size := by
    rcases Nat.lt_or_ge (po + 6) cur.size with h | h
    · exact h
    · rw [Array.getElem?_eq_none h] at f6; cases f6
  have q4 : w.cell? ⟨pb, po + 4, none⟩ = some (.slice A4 n4 k4) := by rw [cell_of hg]; exact f4
  have hpl := lt_of hg
  clear hc hg f0 f1 f2 f3 f4 f5 f6 a0 a1 a2 a3 a4 a5 a6 x1 x2 x3 x4 cs e6 hn6 hn hsit
  go_enter Try.func35, Try.ntmps35
  go_wp2_with fail
  clear q4
  refine c4'.out.mono ?_
  rintro e w1 ⟨v, rfl, own4, hb1⟩
  obtain ⟨B4', m4, p4, rfl⟩ := At.lst (Own.at _ own4) (hsh 4 _ rfl)
  have hg1 := (hb1.block pb hpl).trans HG.out
  have q4 : w1.cell? ⟨pb, po + 4, none⟩ = some (.slice A4 n4 k4) := by rw [cell_of hg1]; exact F4.out
  have z4 : w1.frozen? ⟨pb, po + 4, none⟩ = false := frozen_no hg1 _
  have q5 : w1.cell? ⟨pb, po + 5, none⟩ = some (.slice A5 n5 k5) := by rw [cell_of hg1]; exact F5.out
  have HG1 := Lib.hid hg1
  have O4 := Lib.hid own4
  clear hg1 own4 c4'
  go_wp2_with fail
  clear q4 z4 q5
  obtain ⟨W1, hW1⟩ : ∃ W1, w1.setCell ⟨pb, po + 4, none⟩ (.slice B4' m4 p4) = W1 := ⟨_, rfl⟩
  obtain ⟨hgW1, hfW1, hzW1⟩ := set_facts (q := po + 4) (v := .slice B4' m4 p4) HG1.out
  have bW1 : Below w0.heap.size w0 W1 := by rw [← hW1]; exact (hbw.trans (hb1.mono hbw.size)).setCell hpb _
  rw [hW1] at hgW1 hfW1 hzW1 ⊢
  clear hW1
  refine (c5'.out W1 bW1).mono ?_
  rintro e w3 ⟨v, rfl, own5, hb3⟩
  obtain ⟨B5', m5, p5, rfl⟩ := At.lst (Own.at _ own5) (hsh 5 _ rfl)
  have hg3 := (hb3.block pb (lt_of hgW1)).trans hgW1
  have q5 : w3.cell? ⟨pb, po + 5, none⟩ = some (.slice A5 n5 k5) := by rw [cell_of hg3, Array.getElem?_setIfInBounds_ne (by omega)]; exact F5.out
  have z5 : w3.frozen? ⟨pb, po + 5, none⟩ = false := frozen_no hg3 _
  have q6 : w3.cell? ⟨pb, po + 6, none⟩ = some (.slice A n cap) := by rw [cell_of hg3, Array.getElem?_setIfInBounds_ne (by omega)]; exact F6.out
  have HG3 := Lib.hid hg3
  have O5 := Lib.hid own5
  have hs1 := hb1.size
  have hs3 := hb3.size
  clear hg3 own5 hgW1 c5'
  go_wp2_with fail
  clear q5 z5 q6
  obtain ⟨W3, hW3⟩ : ∃ W3, w3.setCell ⟨pb, po + 5, none⟩ (.slice B5' m5 p5) = W3 := ⟨_, rfl⟩
  obtain ⟨hgW3, hfW3, hzW3⟩ := set_facts (q := po + 5) (v := .slice B5' m5 p5) HG3.out
  have bW3 : Below w0.heap.size w0 W3 := by rw [← hW3]; exact (below_trans bW1 hb3).setCell hpb _
  rw [hW3] at hgW3 hfW3 hzW3 ⊢
  clear hW3
  refine (CS.out W3 bW3).mono ?_
  rintro e w5 ⟨B6, k6, rfl, hrow, hb5⟩
  have hg5 := (hb5.block pb (lt_of hgW3)).trans hgW3
  have q6 : w5.cell? ⟨pb, po + 6, none⟩ = some (.slice A n cap) := by rw [cell_of hg5, Array.getElem?_setIfInBounds_ne (by omega), Array.getElem?_setIfInBounds_ne (by omega)]; exact F6.out
  have z6 : w5.frozen? ⟨pb, po + 6, none⟩ = false := frozen_no hg5 _
  have HG5 := Lib.hid hg5
  have HR := Lib.hid hrow
  have hs5 := hb5.size
  clear hg5 hrow hgW3 CS
  go_wp2
  obtain ⟨W5, hW5⟩ : ∃ W5, w5.setCell ⟨pb, po + 6, none⟩ (.slice B6 n k6) = W5 := ⟨_, rfl⟩
  obtain ⟨hgW, hf5, hz5⟩ := set_facts (q := po + 6) (v := .slice B6 n k6) HG5.out
  have b5 : Below w0.heap.size w0 W5 := by rw [← hW5]; exact (below_trans bW3 hb5).setCell hpb _
  rw [hW5] at hgW hf5 hz5 ⊢
  clear hW5
  go_ret
  obtain ⟨l1, l2, l3⟩ := row_form HR.out
  have kept1 : ∀ x, x ≠ pb → x < w1.heap.size → W5.heap[x]? = w1.heap[x]? := fun x hx hl => by rw [hf5 x hx, hb5.block x (by omega), hfW3 x hx, hb3.block x (by omega), hfW1 x hx]
  have kept3 : ∀ x, x ≠ pb → x < w3.heap.size → W5.heap[x]? = w3.heap[x]? := fun x hx hl => by rw [hf5 x hx, hb5.block x (by omega), hfW3 x hx]
  obtain ⟨g, hgn⟩ : ∃ g, 0 < n → B6 = some ⟨g, 0, none⟩ ∧ w3.heap.size ≤ g ∧ g < w5.heap.size ∧ ∃ curg, w5.heap[g]? = some (.cells curg 41 (0, 0)) ∧ n * 7 ≤ curg.size ∧ ∀ q, q < n * 7 → curg[q]? = xs[q]? := by
    rcases Nat.eq_zero_or_pos n with h0 | h0
    · exact ⟨0, fun h => by omega⟩
    · obtain ⟨g, curg, e, h1, h2, h3, h4, h5⟩ := l3 h0
      exact ⟨g, fun _ => ⟨e, by omega, h2, curg, h3, h4, h5⟩⟩
  refine ⟨fun j => match j with | 0 => c0 | 1 => c1 | 2 => c2 | 3 => c3 | 4 => .slice B4' m4 p4 | 5 => .slice B5' m5 p5 | _ => .slice B6 n k6, n, g, it, rfl, ⟨by omega, fun x hx hne => ?_, ?_, E6.out, ?_, ⟨B6, k6, rfl, l1, l2, fun h0 => ?_⟩⟩, fun i hi => ?_, b5⟩
  · rw [kept1 x hne (by omega)]; exact hb1.block x hx
  · refine ⟨cur, _, ty, HG.out, hgW, by simp, fun q hq => ?_, fun j hj => ?_⟩
    · simp only at hq
      rw [Array.getElem?_setIfInBounds_ne (by omega), Array.getElem?_setIfInBounds_ne (by omega), Array.getElem?_setIfInBounds_ne (by omega)]
    · match j, hj with
      | 0, _ => rw [Array.getElem?_setIfInBounds_ne (by simp only; omega), Array.getElem?_setIfInBounds_ne (by simp only; omega), Array.getElem?_setIfInBounds_ne (by simp only; omega)]; exact F0.out
      | 1, _ => rw [Array.getElem?_setIfInBounds_ne (by simp only; omega), Array.getElem?_setIfInBounds_ne (by simp only; omega), Array.getElem?_setIfInBounds_ne (by simp only; omega)]; exact F1.out
      | 2, _ => rw [Array.getElem?_setIfInBounds_ne (by simp only; omega), Array.getElem?_setIfInBounds_ne (by simp only; omega), Array.getElem?_setIfInBounds_ne (by simp only; omega)]; exact F2.out
      | 3, _ => rw [Array.getElem?_setIfInBounds_ne (by simp only; omega), Array.getElem?_setIfInBounds_ne (by simp only; omega), Array.getElem?_setIfInBounds_ne (by simp only; omega)]; exact F3.out
      | 4, _ => rw [Array.getElem?_setIfInBounds_ne (by simp only; omega), Array.getElem?_setIfInBounds_ne (by simp only; omega), Array.getElem?_setIfInBounds_self_of_lt (by omega)]; rfl
      | 5, _ => rw [Array.getElem?_setIfInBounds_ne (by simp only; omega), Array.getElem?_setIfInBounds_self_of_lt (by simp; omega)]; rfl
      | 6, _ => rw [Array.getElem?_setIfInBounds_self_of_lt (by simp; omega)]; rfl
  · refine ⟨fun j x => (j = 4 ∧ w.heap.size ≤ x ∧ x < w1.heap.size) ∨ (j = 5 ∧ W1.heap.size ≤ x ∧ x < w3.heap.size), fun j hj hne => ?_, fun j j' _ _ _ _ hne x h1 h2 => by omega⟩
    match j, hj with
    | 0, _ => exact ⟨Own.plain A0'.out (hsh 0 _ rfl), fun x hx => by omega⟩
    | 1, _ => exact ⟨Own.plain A1'.out (hsh 1 _ rfl), fun x hx => by omega⟩
    | 2, _ => exact ⟨Own.plain A2'.out (hsh 2 _ rfl), fun x hx => by omega⟩
    | 3, _ => exact ⟨Own.plain A3'.out (hsh 3 _ rfl), fun x hx => by omega⟩
    | 4, _ =>
      refine ⟨Own.wide (fun x hx => .inl ⟨rfl, hx⟩) _ (Own.same _ O4.out fun x hx => kept1 x (by have := hx.1; omega) hx.2), fun x hx => ?_⟩
      exact ⟨by omega, by omega, fun h0 => by have := (hgn h0).2.1; omega⟩
    | 5, _ =>
      refine ⟨Own.wide (fun x hx => .inr ⟨rfl, hx⟩) _ (Own.same _ O5.out fun x hx => kept3 x (by have := hx.1; omega) hx.2), fun x hx => ?_⟩
      exact ⟨by omega, by omega, fun h0 => by have := (hgn h0).2.1; omega⟩
    | 6, _ => exact absurd rfl hne
  · obtain ⟨e, h1, h2, curg, h3, h4, h5⟩ := hgn h0
    exact ⟨e, by omega, by omega, curg, _, by rw [hf5 g (by omega)]; exact h3, h4⟩
  · obtain ⟨e, h1, h2, curg, h3, h4, h5⟩ := hgn (by omega)
    refine ⟨curg, _, by show W5.heap[g]? = _; rw [hf5 g (by omega)]; exact h3, fun j hj => ?_⟩
    obtain ⟨d, hd, ha⟩ := X4.out i hi j hj
    exact ⟨d, by rw [h5 _ (by simp only; omega)]; exact hd, ha⟩
end Da
end Go.Proofs.Ytfnieelghfkbdaa
