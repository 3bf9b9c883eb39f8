/- What is proved: the program's copy in new memory, of a value: rows that wait are renewed one by one. -/
import Derived.Test.YtfnieelghfkbdaaDaR
import Derived.Shelf.Abstract
namespace Go.Proofs.Ytfnieelghfkbdaa
namespace Da
set_option linter.unusedVariables false
open Go.RowKit
attribute [local go_sem ↓] Go.wp_at_zero Go.wp_at_succ

/-- How many rows a list holds, those in column ci too. -/
def nodL (ci : Nat) : D → Nat
  | .list _ n it => sumTo (fun i => 1 + nodL ci (it i ci)) n
  | _ => 0
def wgt (ci : Nat) : List Pn → Nat
  | [] => 0
  | p :: P => (1 + nodL ci (p.r ci)) + wgt ci P
theorem wgt_append (ci : Nat) : ∀ (P Q : List Pn), wgt ci (P ++ Q) = wgt ci P + wgt ci Q
  | [], Q => by simp [wgt]
  | p :: P, Q => by simp only [List.cons_append, wgt, wgt_append ci P Q]; omega
theorem wgt_len (ci : Nat) : ∀ (P : List Pn), P.length ≤ wgt ci P
  | [] => Nat.le_refl _
  | p :: P => by have := wgt_len ci P; simp only [List.length_cons, wgt]; omega
theorem kids_succ (W g n : Nat) (it : Nat → Nat → D) : kids W g (n + 1) it = kids W g n it ++ [⟨g, n * W, it n⟩] := by simp [kids, List.range_succ]
theorem wgt_kids (ci W g n : Nat) (it : Nat → Nat → D) : wgt ci (kids W g n it) = sumTo (fun i => 1 + nodL ci (it i ci)) n := by
  induction n with
  | zero => rfl
  | succ n ih => rw [kids_succ, wgt_append, ih]; simp [wgt, sumTo]
theorem nodL_sz (ci : Nat) (k : K) (hc : (row k)[ci]? = some (.lst k)) : ∀ (d : D), Sh d (.lst k) → nodL ci d ≤ sz d
  | .list W n it, h => by
    obtain ⟨n', it', e, hs⟩ := h.lst
    cases e
    have hl : ci < (row k).length := by
      rcases Nat.lt_or_ge ci (row k).length with h | h
      · exact h
      · rw [List.getElem?_eq_none h] at hc; cases hc
    have key : ∀ m, m ≤ n → sumTo (fun i => 1 + nodL ci (it i ci)) m ≤ m + sumTo (fun i => sumTo (fun j => sz (it i j)) (row k).length) m := by
      intro m hm
      induction m with
      | zero => simp [sumTo]
      | succ m ih =>
        have h1 := ih (by omega)
        have h2 := nodL_sz ci k hc (it m ci) (hs m (by omega) ci _ hc)
        have h3 := sumTo_lt (fun j => sz (it m j)) hl
        simp only [sumTo] at h1 h3 ⊢
        omega
    exact key n (Nat.le_refl _)
  | .no, h => h.elim
  | .int _, h => by cases h
  | .str _, h => by cases h
  | .bool _, h => by cases h
def ptr (p : Pn) : Value := .pointer (some ⟨p.b, p.o, none⟩)

theorem own_cut {w : World} {B e size g n cap : Nat} {xs ys : List Value} (h : w.ownsRow B e size (.slice (some ⟨g, 0, none⟩) (n + 1) cap) (n + 1) (xs ++ ys)) (hx : xs.length = n * size) :
    w.ownsRow B e size (.slice (some ⟨g, 0, none⟩) n cap) n xs := by
  obtain ⟨hl, h⟩ := h
  refine ⟨hx, ?_⟩
  rcases h with ⟨h, -⟩ | ⟨g', cap', cur, hv, hB, hg, h1, h2, h3, h4⟩
  · cases h
  · simp only [Value.slice.injEq, Option.some.injEq, Addr.mk.injEq, true_and, and_true] at hv
    obtain ⟨rfl, rfl⟩ := hv
    refine .inr ⟨g, cap, cur, rfl, hB, hg, by omega, h2, h3, ?_⟩
    have h5 := congrArg (List.take (n * size)) h4
    rw [List.take_take, Nat.min_eq_left (Nat.mul_le_mul_right _ (by omega)), ← hx, List.take_left] at h5
    rw [← hx]; exact h5

/-- The rows that wait: what is known of each, and of all. -/
structure Wst (w0 w : World) (W : Nat) (k : K) (lo : Nat) (T : Nat → Prop) (P : List Pn) (root : Pn) : Prop where
  wand : Wand w W T P root
  each : ∀ p ∈ P, T p.b ∧ w0.heap.size ≤ p.b ∧ Shal w0 w W p ∧ (∀ j g, (row k)[j]? = some g → Sh (p.r j) g) ∧ ∀ j, j < W → sz (p.r j) ≤ 1048576
  sep : P.Pairwise fun a b => a.b = b.b → a.o + W ≤ b.o ∨ b.o + W ≤ a.o
  tree : ∀ b, T b → b < w.heap.size ∧ (b = lo ∨ lo + 2 ≤ b)
theorem Shal.same {w0 w w' : World} {W : Nat} {p : Pn} (h : Shal w0 w W p) (hs : w'.heap[p.b]? = w.heap[p.b]?) : Shal w0 w' W p := by
  obtain ⟨cur, ty, h1, h2⟩ := h
  exact ⟨cur, ty, hs.trans h1, h2⟩
theorem Wst.agree {w0 w w1 : World} {W lo : Nat} {k : K} {T : Nat → Prop} {P : List Pn} {root : Pn} (h : Wst w0 w W k lo T P root) (hs : ∀ b, T b → w1.heap[b]? = w.heap[b]?) (hz : w.heap.size ≤ w1.heap.size) : Wst w0 w1 W k lo T P root :=
  ⟨h.wand.agree hs, fun p hp => ⟨(h.each p hp).1, (h.each p hp).2.1, (h.each p hp).2.2.1.same (hs _ (h.each p hp).1), (h.each p hp).2.2.2⟩, h.sep, fun b hb => ⟨Nat.lt_of_lt_of_le (h.tree b hb).1 hz, (h.tree b hb).2⟩⟩
/-- One row is renewed: those in its list wait behind the others. -/
theorem Wst.step {w0 w w2 : World} {W ci n g lo : Nat} {k : K} {T : Nat → Prop} {P : List Pn} {p root : Pn} {vs : Nat → Value} {it : Nat → Nat → D} (h : Wst w0 w W k lo T (P ++ [p]) root) (hci : ci < W) (hlo : lo + 2 ≤ w.heap.size) (hlo0 : w0.heap.size ≤ w.heap.size) (hr : Renew w w2 W ci p vs n g it)
    (hkids : ∀ i, i < n → Shal w0 w2 W ⟨g, i * W, it i⟩) (hk : (row k)[ci]? = some (.lst k)) (hW : W = (row k).length) : Wst w0 w2 W k lo (fun x => T x ∨ (w.heap.size ≤ x ∧ x < w2.heap.size)) (P ++ kids W g n it) root := by
  have hp := h.each p (by simp)
  have hsep := List.pairwise_append.1 h.sep
  have hlist : ∀ i, i < n → (∀ j f, (row k)[j]? = some f → Sh (it i j) f) ∧ ∀ j, j < W → sz (it i j) ≤ 1048576 := fun i hi => by
    obtain ⟨n', it', e, hs⟩ := (hp.2.2.2.1 ci _ hk).lst
    have hn := hp.2.2.2.2 ci hci
    rw [hr.isList] at e hn
    cases e
    exact ⟨hs i hi, fun j hj => Nat.le_trans (Nat.le_of_succ_le (sz_cell hi hj)) hn⟩
  obtain ⟨A, cap, l1, l2, l3, l4⟩ := hr.list
  refine ⟨h.wand.step hci (fun q hq e => ?_) (fun q hq => (h.each q (by simp [hq])).1) hp.1 (fun b hb => (h.tree b hb).1) hr, fun q hq => ?_, ?_, fun b hb => ?_⟩
  · exact hsep.2.2 q hq p (by simp) e
  · rcases List.mem_append.1 hq with hq | hq
    · obtain ⟨h1, h2, h3, h4⟩ := h.each q (by simp [hq])
      refine ⟨.inl h1, h2, ?_, h4⟩
      obtain ⟨cur, ty, c1, c2⟩ := h3
      by_cases hb : q.b = p.b
      · obtain ⟨a1, a2, a3, b1, b2, b3, b4, b5⟩ := hr.row
        rw [hb, b1] at c1
        simp only [Option.some.injEq, Obj.cells.injEq, and_true] at c1
        obtain ⟨rfl, rfl⟩ := c1
        refine ⟨a2, a3, by rw [hb]; exact b2, fun j hj => ?_⟩
        obtain ⟨v, hv, ha⟩ := c2 j hj
        refine ⟨v, ?_, ha⟩
        rw [b4 (q.o + j) (by rcases hsep.2.2 q hq p (by simp) hb with h | h <;> omega)]
        exact hv
      · exact ⟨cur, ty, (hr.far q.b (h.tree _ h1).1 hb).trans c1, c2⟩
    · simp only [kids, List.mem_map, List.mem_range] at hq
      obtain ⟨i, hi, rfl⟩ := hq
      have hl := l4 (by omega)
      exact ⟨.inr ⟨hl.2.1, hl.2.2.1⟩, by simp only; omega, hkids i hi, (hlist i hi).1, (hlist i hi).2⟩
  · refine List.pairwise_append.2 ⟨hsep.1, ?_, fun a ha b hb e => ?_⟩
    · unfold kids
      rw [List.pairwise_map]
      refine List.Pairwise.imp (R := (· < ·)) (fun {a b} hab _ => ?_) List.pairwise_lt_range
      have := Nat.mul_le_mul_right W (show a + 1 ≤ b from hab)
      rw [Nat.add_mul, Nat.one_mul] at this
      exact .inl (by simp only; omega)
    · obtain ⟨e2, h0⟩ := kids_mem hb
      have := (h.tree _ (h.each a (by simp [ha])).1).1
      have := (l4 h0).2.1
      omega
  · rcases hb with hb | hb
    · have := h.tree b hb
      exact ⟨Nat.lt_of_lt_of_le this.1 hr.size, this.2⟩
    · exact ⟨hb.2, .inr (by omega)⟩
end Da
end Go.Proofs.Ytfnieelghfkbdaa
