/- What is proved: copies that are made row by row: rows that wait, and what their being made whole makes of the whole. -/
import Derived.Test.YtfnieelghfkbdaaDaQ
namespace Go.Proofs.Ytfnieelghfkbdaa
namespace Da
set_option linter.unusedVariables false
open Go.RowKit Go.Deep

/-- A row that waits: its block, its first cell, what it is. -/
structure Pn where
  b : Nat
  o : Nat
  r : Nat → D
/-- The row lies there whole, its own, within F. -/
def Full (w : World) (W : Nat) (p : Pn) (F : Nat → Prop) : Prop :=
  ∃ (cur : Array Value) (ty : TypeId) (G : Nat → Nat → Prop), w.heap[p.b]? = some (.cells cur ty (0, 0)) ∧
    (∀ j, j < W → (∀ x, G j x → F x) ∧ ∀ j', j' < W → j ≠ j' → ∀ x, G j x → ¬ G j' x) ∧ ∀ j, j < W → ∃ v, cur[p.o + j]? = some v ∧ Own w (p.r j) (G j) v
/-- A block is as it was, but for rows that wait. -/
def Agree (w w' : World) (W : Nat) (P : List Pn) (b : Nat) : Prop :=
  w'.heap[b]? = w.heap[b]? ∨ ∃ (cur cur' : Array Value) (ty : TypeId), w.heap[b]? = some (.cells cur ty (0, 0)) ∧ w'.heap[b]? = some (.cells cur' ty (0, 0)) ∧ cur'.size = cur.size ∧ ∀ q, (∀ p ∈ P, p.b = b → q < p.o ∨ p.o + W ≤ q) → cur'[q]? = cur[q]?
theorem Agree.eq {w w' : World} {W : Nat} {P : List Pn} {b : Nat} (h : Agree w w' W P b) (hn : ∀ p ∈ P, p.b ≠ b) : w'.heap[b]? = w.heap[b]? := by
  rcases h with h | ⟨cur, cur', ty, h1, h2, h3, h4⟩
  · exact h
  · rw [h1, h2, Array.ext_getElem? fun q => h4 q fun p hp e => absurd e (hn p hp)]
theorem Agree.mono {w w' : World} {W : Nat} {P P' : List Pn} {b : Nat} (h : Agree w w' W P b) (hp : ∀ p ∈ P, p.b = b → p ∈ P') : Agree w w' W P' b := by
  rcases h with h | ⟨cur, cur', ty, h1, h2, h3, h4⟩
  · exact .inl h
  · exact .inr ⟨cur, cur', ty, h1, h2, h3, fun q hq => h4 q fun p hp' e => hq p (hp p hp' e) e⟩
/-- A block of cells, of which one knows those that do not wait. -/
theorem Agree.cells {w w' : World} {W : Nat} {P : List Pn} {b : Nat} {cur : Array Value} {ty : TypeId} (h : Agree w w' W P b) (hg : w.heap[b]? = some (.cells cur ty (0, 0))) :
    ∃ cur' : Array Value, w'.heap[b]? = some (.cells cur' ty (0, 0)) ∧ cur'.size = cur.size ∧ ∀ q, (∀ p ∈ P, p.b = b → q < p.o ∨ p.o + W ≤ q) → cur'[q]? = cur[q]? := by
  rcases h with h | ⟨cur1, cur', ty', h1, h2, h3, h4⟩
  · exact ⟨cur, h.trans hg, rfl, fun _ _ => rfl⟩
  · rw [hg] at h1
    simp only [Option.some.injEq, Obj.cells.injEq, and_true] at h1
    obtain ⟨rfl, rfl⟩ := h1
    exact ⟨cur', h2, h3, h4⟩

/-- When all that waits is made whole, in blocks of its own beyond T, so is the root. -/
def Wand (w : World) (W : Nat) (T : Nat → Prop) (P : List Pn) (root : Pn) : Prop :=
  ∀ (w' : World) (Fs : Nat → Nat → Prop), (∀ b, T b → Agree w w' W P b) → (∀ i p, P[i]? = some p → Full w' W p (Fs i) ∧ ∀ x, Fs i x → ¬ T x) →
    (∀ i j, i < P.length → j < P.length → i ≠ j → ∀ x, Fs i x → ¬ Fs j x) → ∃ F, Full w' W root F ∧ ∀ x, F x → T x ∨ ∃ i, i < P.length ∧ Fs i x
/-- At first the root alone waits. -/
theorem Wand.one {w : World} {W : Nat} {T : Nat → Prop} {root : Pn} : Wand w W T [root] root := by
  intro w' Fs _ hf _
  exact ⟨Fs 0, (hf 0 root rfl).1, fun x hx => .inr ⟨0, by simp, hx⟩⟩
/-- At last nothing waits. -/
theorem Wand.all {w : World} {W : Nat} {T : Nat → Prop} {root : Pn} (h : Wand w W T [] root) : ∃ F, Full w W root F ∧ ∀ x, F x → T x := by
  obtain ⟨F, h1, h2⟩ := h w (fun _ _ => False) (fun b _ => .inl rfl) (fun i p hp => by simp at hp) (fun i j hi => absurd hi (by simp))
  exact ⟨F, h1, fun x hx => by rcases h2 x hx with h | ⟨i, hi, -⟩; exact h; simp at hi⟩
/-- What is outside T does not matter. -/
theorem Wand.agree {w w1 : World} {W : Nat} {T : Nat → Prop} {P : List Pn} {root : Pn} (h : Wand w W T P root) (hs : ∀ b, T b → w1.heap[b]? = w.heap[b]?) : Wand w1 W T P root := by
  intro w' Fs h1 h2 h3
  refine h w' Fs (fun b hb => ?_) h2 h3
  rcases h1 b hb with h | ⟨cur, cur', ty, q1, q2, q3, q4⟩
  · exact .inl (h.trans (hs b hb))
  · exact .inr ⟨cur, cur', ty, (hs b hb).symm.trans q1, q2, q3, q4⟩

def kids (W g n : Nat) (it : Nat → Nat → D) : List Pn := (List.range n).map fun i => ⟨g, i * W, it i⟩
theorem kids_len (W g n : Nat) (it : Nat → Nat → D) : (kids W g n it).length = n := by simp [kids]
theorem kids_at {W g n i : Nat} {it : Nat → Nat → D} (h : i < n) : (kids W g n it)[i]? = some ⟨g, i * W, it i⟩ := by simp [kids, h]
theorem kids_mem {W g n : Nat} {it : Nat → Nat → D} {p : Pn} (h : p ∈ kids W g n it) : p.b = g ∧ 0 < n := by
  simp only [kids, List.mem_map, List.mem_range] at h
  obtain ⟨i, hi, rfl⟩ := h
  exact ⟨rfl, by omega⟩

/-- What renewing a row leaves: its cells are new ones, its own but for the list in column ci, whose rows wait. -/
structure Renew (w w2 : World) (W ci : Nat) (p : Pn) (vs : Nat → Value) (n g : Nat) (it : Nat → Nat → D) : Prop where
  size : w.heap.size ≤ w2.heap.size
  far : ∀ b, b < w.heap.size → b ≠ p.b → w2.heap[b]? = w.heap[b]?
  row : ∃ (cur cur2 : Array Value) (ty : TypeId), w.heap[p.b]? = some (.cells cur ty (0, 0)) ∧ w2.heap[p.b]? = some (.cells cur2 ty (0, 0)) ∧ cur2.size = cur.size ∧ (∀ q, q < p.o ∨ p.o + W ≤ q → cur2[q]? = cur[q]?) ∧ ∀ j, j < W → cur2[p.o + j]? = some (vs j)
  isList : p.r ci = .list W n it
  own : ∃ G : Nat → Nat → Prop, (∀ j, j < W → j ≠ ci → Own w2 (p.r j) (G j) (vs j) ∧ ∀ x, G j x → w.heap.size ≤ x ∧ x < w2.heap.size ∧ (0 < n → x ≠ g)) ∧ ∀ j j', j < W → j' < W → j ≠ ci → j' ≠ ci → j ≠ j' → ∀ x, G j x → ¬ G j' x
  list : ∃ A cap, vs ci = .slice A n cap ∧ n ≤ cap ∧ cap ≤ maxLen ∧ (0 < n → A = some ⟨g, 0, none⟩ ∧ w.heap.size ≤ g ∧ g < w2.heap.size ∧ ∃ curg tyg, w2.heap[g]? = some (.cells curg tyg (0, 0)) ∧ n * W ≤ curg.size)

theorem Wand.step {w w2 : World} {W ci n g : Nat} {T : Nat → Prop} {P : List Pn} {p root : Pn} {vs : Nat → Value} {it : Nat → Nat → D} (hw : Wand w W T (P ++ [p]) root) (hci : ci < W)
    (hsep : ∀ q ∈ P, q.b = p.b → q.o + W ≤ p.o ∨ p.o + W ≤ q.o) (hT : ∀ q ∈ P, T q.b) (hTp : T p.b) (hTl : ∀ b, T b → b < w.heap.size) (hr : Renew w w2 W ci p vs n g it) :
    Wand w2 W (fun x => T x ∨ (w.heap.size ≤ x ∧ x < w2.heap.size)) (P ++ kids W g n it) root := by
  intro w' Fs hag hfull hdis
  obtain ⟨cur, cur2, ty, r1, r2, r3, r4, r5⟩ := hr.row
  obtain ⟨G, g1, g2⟩ := hr.own
  obtain ⟨A, cap, l1, l2, l3, l4⟩ := hr.list
  have hlen : (P ++ kids W g n it).length = P.length + n := by rw [List.length_append, kids_len]
  have hkg : ∀ q ∈ kids W g n it, w.heap.size ≤ q.b := fun q hq => by
    obtain ⟨e, h0⟩ := kids_mem hq
    rw [e]; exact (l4 h0).2.1
  have kidF : ∀ k, k < n → Full w' W ⟨g, k * W, it k⟩ (Fs (P.length + k)) ∧ ∀ x, Fs (P.length + k) x → ¬ (T x ∨ (w.heap.size ≤ x ∧ x < w2.heap.size)) := fun k hk =>
    hfull (P.length + k) _ (by rw [List.getElem?_append_right (by omega), Nat.add_sub_cancel_left]; exact kids_at hk)
  -- the row itself, made whole
  have whole : Full w' W p (fun x => (w.heap.size ≤ x ∧ x < w2.heap.size) ∨ ∃ k, k < n ∧ Fs (P.length + k) x) := by
    obtain ⟨cur', c1, c2, c3⟩ := (hag p.b (.inl hTp)).cells r2
    refine ⟨cur', ty, fun j x => if j = ci then (0 < n ∧ x = g) ∨ ∃ k, k < n ∧ Fs (P.length + k) x else G j x, c1, fun j hj => ⟨fun x hx => ?_, fun j' hj' hne x hx => ?_⟩, fun j hj => ⟨vs j, ?_, ?_⟩⟩
    · by_cases hjc : j = ci
      · simp only [if_pos hjc] at hx
        rcases hx with ⟨h0, rfl⟩ | hx
        · exact .inl ⟨(l4 h0).2.1, (l4 h0).2.2.1⟩
        · exact .inr hx
      · simp only [if_neg hjc] at hx
        have := (g1 j hj hjc).2 x hx
        exact .inl ⟨this.1, this.2.1⟩
    · by_cases hjc : j = ci
      · simp only [if_pos hjc] at hx
        simp only [if_neg (show ¬ j' = ci from fun e => hne (hjc.trans e.symm))]
        intro hy
        have hy2 := (g1 j' hj' (fun e => hne (hjc.trans e.symm))).2 x hy
        rcases hx with ⟨h0, rfl⟩ | ⟨k, hk, hx⟩
        · exact hy2.2.2 h0 rfl
        · exact (kidF k hk).2 x hx (.inr ⟨hy2.1, hy2.2.1⟩)
      · simp only [if_neg hjc] at hx
        have hx2 := (g1 j hj hjc).2 x hx
        by_cases hjc' : j' = ci
        · simp only [if_pos hjc']
          rintro (⟨h0, rfl⟩ | ⟨k, hk, hy⟩)
          · exact hx2.2.2 h0 rfl
          · exact (kidF k hk).2 x hy (.inr ⟨hx2.1, hx2.2.1⟩)
        · simp only [if_neg hjc']
          exact g2 j j' hj hj' hjc hjc' hne x hx
    · rw [c3 (p.o + j) fun q hq e => ?_]
      · exact r5 j hj
      · rcases List.mem_append.1 hq with hq | hq
        · rcases hsep q hq e with h | h <;> omega
        · have := hkg q hq; have := hTl p.b hTp; omega
    · by_cases hjc : j = ci
      · subst hjc
        rw [hr.isList, l1]
        simp only [if_true]
        refine ⟨A, cap, rfl, l2, l3, fun h0 => ?_⟩
        obtain ⟨e, hg1, hg2, curg, tyg, hg3, hg4⟩ := l4 h0
        obtain ⟨curg', d1, d2, d3⟩ := (hag g (.inr ⟨hg1, hg2⟩)).cells hg3
        have each : ∀ k, k < n → ∃ H : Nat → Nat → Prop, (∀ j, j < W → (∀ x, H j x → Fs (P.length + k) x) ∧ ∀ j', j' < W → j ≠ j' → ∀ x, H j x → ¬ H j' x) ∧ ∀ j, j < W → ∃ v, curg'[k * W + j]? = some v ∧ Own w' (it k j) (H j) v := fun k hk => by
          obtain ⟨cur3, ty3, H, e1, e2, e3⟩ := (kidF k hk).1
          simp only at e1
          rw [d1] at e1
          simp only [Option.some.injEq, Obj.cells.injEq, and_true] at e1
          obtain ⟨rfl, rfl⟩ := e1
          exact ⟨H, e2, e3⟩
        haveI : Inhabited (Nat → Nat → Prop) := ⟨fun _ _ => False⟩
        obtain ⟨H, hH⟩ := choose_lt each
        refine ⟨g, curg', tyg, H, e, .inl ⟨h0, rfl⟩, d1, by omega, fun i j' hi hj' => ⟨fun x hx => ?_, fun i' j'' hi' hj'' hne x hx hy => ?_⟩, fun i hi j' hj' => (hH i hi).2 j' hj'⟩
        · have hx2 := ((hH i hi).1 j' hj').1 x hx
          refine ⟨.inr ⟨i, hi, hx2⟩, fun e => (kidF i hi).2 x hx2 (.inr ?_)⟩
          subst e
          exact ⟨hg1, hg2⟩
        · by_cases hii : i = i'
          · subst hii
            exact ((hH i hi).1 j' hj').2 j'' hj'' (by omega) x hx hy
          · exact hdis (P.length + i) (P.length + i') (by omega) (by omega) (by omega) x (((hH i hi).1 j' hj').1 x hx) (((hH i' hi').1 j'' hj'').1 x hy)
      · simp only [if_neg hjc]
        refine Own.same _ (g1 j hj hjc).1 fun x hx => ?_
        have hx2 := (g1 j hj hjc).2 x hx
        refine (hag x (.inr ⟨hx2.1, hx2.2.1⟩)).eq fun q hq e => ?_
        rcases List.mem_append.1 hq with hq | hq
        · have := hTl q.b (hT q hq); omega
        · obtain ⟨e2, h0⟩ := kids_mem hq
          exact hx2.2.2 h0 (by omega)
  have h1 : ∀ b, T b → Agree w w' W (P ++ [p]) b := by
    intro b hb
    have hbl := hTl b hb
    by_cases hbp : b = p.b
    · subst hbp
      obtain ⟨cur', c1, c2, c3⟩ := (hag p.b (.inl hb)).cells r2
      refine .inr ⟨cur, cur', ty, r1, c1, by omega, fun q hq => ?_⟩
      rw [c3 q fun u hu e => ?_]
      · exact r4 q (hq p (by simp) rfl)
      · rcases List.mem_append.1 hu with hu | hu
        · exact hq u (by simp [hu]) e
        · have := hkg u hu; omega
    · have h := (hag b (.inl hb)).mono (P' := P ++ [p]) fun u hu e => by
        rcases List.mem_append.1 hu with hu | hu
        · simp [hu]
        · have := hkg u hu; omega
      rcases h with h | ⟨a1, a2, a3, b1, b2, b3, b4⟩
      · exact .inl (h.trans (hr.far b hbl hbp))
      · exact .inr ⟨a1, a2, a3, (hr.far b hbl hbp).symm.trans b1, b2, b3, b4⟩
  have h2 : ∀ i q, (P ++ [p])[i]? = some q → Full w' W q ((fun i x => if i < P.length then Fs i x else (w.heap.size ≤ x ∧ x < w2.heap.size) ∨ ∃ k, k < n ∧ Fs (P.length + k) x : Nat → Nat → Prop) i) ∧ ∀ x, (fun i x => if i < P.length then Fs i x else (w.heap.size ≤ x ∧ x < w2.heap.size) ∨ ∃ k, k < n ∧ Fs (P.length + k) x : Nat → Nat → Prop) i x → ¬ T x := by
    intro i q hq
    by_cases hip : i < P.length
    · rw [List.getElem?_append_left hip] at hq
      have := hfull i q (by rw [List.getElem?_append_left hip]; exact hq)
      simp only [if_pos hip]
      exact ⟨this.1, fun x hx ht => this.2 x hx (.inl ht)⟩
    · rw [List.getElem?_append_right (by omega)] at hq
      have hi : i - P.length = 0 := by
        rcases Nat.eq_zero_or_pos (i - P.length) with h | h
        · exact h
        · rw [List.getElem?_eq_none (by simp; omega)] at hq; cases hq
      rw [hi] at hq
      obtain rfl : p = q := by simpa using hq
      simp only [if_neg hip]
      refine ⟨whole, fun x hx ht => ?_⟩
      rcases hx with hx | ⟨k, hk, hx⟩
      · have := hTl x ht; omega
      · exact (kidF k hk).2 x hx (.inl ht)
  have h3 : ∀ i j, i < (P ++ [p]).length → j < (P ++ [p]).length → i ≠ j → ∀ x, (fun i x => if i < P.length then Fs i x else (w.heap.size ≤ x ∧ x < w2.heap.size) ∨ ∃ k, k < n ∧ Fs (P.length + k) x : Nat → Nat → Prop) i x → ¬ (fun i x => if i < P.length then Fs i x else (w.heap.size ≤ x ∧ x < w2.heap.size) ∨ ∃ k, k < n ∧ Fs (P.length + k) x : Nat → Nat → Prop) j x := by
    intro i j hi hj hne x hx hy
    simp only [List.length_append, List.length_cons, List.length_nil] at hi hj
    by_cases hip : i < P.length
    · simp only [if_pos hip] at hx
      have hxT := (hfull i _ (by rw [List.getElem?_append_left hip]; exact List.getElem?_eq_getElem hip)).2 x hx
      by_cases hjp : j < P.length
      · simp only [if_pos hjp] at hy
        exact hdis i j (by omega) (by omega) hne x hx hy
      · simp only [if_neg hjp] at hy
        rcases hy with hy | ⟨k, hk, hy⟩
        · exact hxT (.inr hy)
        · exact hdis i (P.length + k) (by omega) (by omega) (by omega) x hx hy
    · have hjp : j < P.length := by omega
      simp only [if_neg hip] at hx
      simp only [if_pos hjp] at hy
      have hyT := (hfull j _ (by rw [List.getElem?_append_left hjp]; exact List.getElem?_eq_getElem hjp)).2 x hy
      rcases hx with hx | ⟨k, hk, hx⟩
      · exact hyT (.inr hx)
      · exact hdis j (P.length + k) (by omega) (by omega) (by omega) x hy hx
  obtain ⟨F, f1, f2⟩ := hw w' (fun i x => if i < P.length then Fs i x else (w.heap.size ≤ x ∧ x < w2.heap.size) ∨ ∃ k, k < n ∧ Fs (P.length + k) x : Nat → Nat → Prop) h1 h2 h3
  refine ⟨F, f1, fun x hx => ?_⟩
  rcases f2 x hx with h | ⟨i, hi, h⟩
  · exact .inl (.inl h)
  · by_cases hip : i < P.length
    · simp only [if_pos hip] at h
      exact .inr ⟨i, by omega, h⟩
    · simp only [if_neg hip] at h
      rcases h with h | ⟨k, hk, h⟩
      · exact .inl (.inr h)
      · exact .inr ⟨P.length + k, by omega, h⟩
end Da
end Go.Proofs.Ytfnieelghfkbdaa
