/- What is proved: lists that are appended to while others turn blocks that are not theirs; a row stored at the end of one; a region's orders by what holds between its operations; what eachSel answers. -/
import Derived.Test.YtfnieelghfkbdaaDaGi
namespace Go.Proofs.Ytfnieelghfkbdaa
namespace Da
set_option linter.unusedVariables false
open Go.RowKit

/-- k rows have been appended; each is its own, and none of their blocks is one of X; xs are their cells. -/
def LstX (w : World) (B : Nat) (X : Nat → Prop) (ty : TypeId) (W k : Nat) (v : Value) (it : Nat → Nat → D) (xs : List Value) : Prop :=
  ∃ H : Nat → Nat → Nat → Prop, w.ownsRow B ty W v k xs ∧ (∀ g, v.ownBlock = some g → ¬ X g) ∧
    (∀ i j, i < k → j < W → (∀ b, H i j b → B ≤ b ∧ b < w.heap.size ∧ v.ownBlock ≠ some b ∧ ¬ X b) ∧ ∀ i' j', i' < k → j' < W → (i ≠ i' ∨ j ≠ j') → ∀ b, H i j b → ¬ H i' j' b) ∧
    ∀ i, i < k → ∀ j, j < W → ∃ d, xs[i * W + j]? = some d ∧ Own w (it i j) (H i j) d
theorem LstX.row {w : World} {B : Nat} {X : Nat → Prop} {ty : TypeId} {W k : Nat} {v : Value} {it : Nat → Nat → D} {xs : List Value} (h : LstX w B X ty W k v it xs) : w.ownsRow B ty W v k xs := h.choose_spec.1
theorem LstX.lst {w : World} {B : Nat} {X : Nat → Prop} {ty : TypeId} {W k : Nat} {v : Value} {it : Nat → Nat → D} {xs : List Value} (h : LstX w B X ty W k v it xs) : Lst w B ty W k v it xs := by
  obtain ⟨H, h1, h2, h3, h4⟩ := h
  exact ⟨H, h1, fun i j hi hj => ⟨fun b hb => by obtain ⟨q1, q2, q3, -⟩ := (h3 i j hi hj).1 b hb; exact ⟨q1, q2, q3⟩, (h3 i j hi hj).2⟩, h4⟩
theorem LstX.zero {w : World} {B : Nat} {X : Nat → Prop} {ty : TypeId} {W g : Nat} {it : Nat → Nat → D} (hB : B ≤ g) (hg : w.heap[g]? = some (.cells #[] ty (0, 0))) (hX : ¬ X g) : LstX w B X ty W 0 (.slice (some ⟨g, 0, none⟩) 0 0) it [] :=
  ⟨fun _ _ _ => False, ⟨by simp, .inr ⟨g, 0, #[], rfl, hB, hg, Nat.le_refl _, Nat.zero_le _, by simp, by simp⟩⟩, fun g' e => by simp [Value.ownBlock] at e; subst e; exact hX, fun i j hi => absurd hi (Nat.not_lt_zero _), fun i hi => absurd hi (Nat.not_lt_zero _)⟩
/-- Blocks of X turn, and new ones come to be of it. -/
theorem LstX.agree {w w' : World} {B : Nat} {X X' : Nat → Prop} {ty : TypeId} {W k : Nat} {v : Value} {it : Nat → Nat → D} {xs : List Value} (h : LstX w B X ty W k v it xs)
    (hs : ∀ b, b < w.heap.size → ¬ X b → w'.heap[b]? = w.heap[b]?) (hz : w.heap.size ≤ w'.heap.size) (hX : ∀ b, X' b → X b ∨ w.heap.size ≤ b) : LstX w' B X' ty W k v it xs := by
  obtain ⟨H, h1, h2, h3, h4⟩ := h
  have hn : ∀ b, b < w.heap.size → ¬ X b → ¬ X' b := fun b hb hx hx' => by
    rcases hX b hx' with h | h
    · exact hx h
    · omega
  refine ⟨H, ?_, fun g e => hn g (own_row_lt h1 e).2 (h2 g e), fun i j hi hj => ⟨fun b hbb => ?_, (h3 i j hi hj).2⟩, fun i hi j hj => ?_⟩
  · refine ⟨h1.1, ?_⟩
    rcases h1.2 with h0 | ⟨g, cap, cur, hv, hB, hg, q⟩
    · exact .inl h0
    · exact .inr ⟨g, cap, cur, hv, hB, (hs g (lt_of hg) (h2 g (by rw [hv]; rfl))).trans hg, q⟩
  · obtain ⟨q1, q2, q3, q4⟩ := (h3 i j hi hj).1 b hbb
    exact ⟨q1, Nat.lt_of_lt_of_le q2 hz, q3, hn b q2 q4⟩
  · obtain ⟨d, hd, ho⟩ := h4 i hi j hj
    exact ⟨d, hd, Own.same _ ho fun b hbb => hs b ((h3 i j hi hj).1 b hbb).2.1 ((h3 i j hi hj).1 b hbb).2.2.2⟩
/-- One row more. -/
theorem LstX.step {w w1 w2 : World} {B : Nat} {X : Nat → Prop} {ty : TypeId} {W k g cap : Nat} {v : Value} {it : Nat → Nat → D} {xs vs : List Value} (h : LstX w B X ty W k v it xs) (hB : B ≤ w.heap.size) (hX : ∀ b, X b → b < w.heap.size) (hb : Below w.heap.size w w1) (hvs : vs.length = W)
    (ho : OwnR w1 (it k) (rng w.heap.size w1.heap.size) vs) (h2 : w2.ownsRow B ty W (.slice (some ⟨g, 0, none⟩) (k + 1) cap) (k + 1) (xs ++ vs)) (hgr : w1.grownBy w2 v.ownBlock) (hg : v.ownBlock = some g ∨ g = w1.heap.size) :
    LstX w2 B X ty W (k + 1) (.slice (some ⟨g, 0, none⟩) (k + 1) cap) it (xs ++ vs) := by
  obtain ⟨H, r1, rX, r2, r3⟩ := h
  obtain ⟨G, g1, g2⟩ := ho
  have hs1 := hb.size
  have hs2 := hgr.size
  have hlen : xs.length = k * W := r1.1
  have old : ∀ i j b, i < k → j < W → H i j b → b < w.heap.size ∧ v.ownBlock ≠ some b ∧ b ≠ g ∧ w2.heap[b]? = w.heap[b]? := fun i j b hi hj hbb => by
    obtain ⟨q1, q2, q3, q4⟩ := (r2 i j hi hj).1 b hbb
    refine ⟨q2, q3, ?_, ?_⟩
    · rcases hg with hg | hg
      · intro e; subst e; exact q3 hg
      · omega
    · rw [hgr.block b (by omega) (fun e => q3 e.symm)]; exact hb.block b q2
  have new : ∀ j b, j < W → G j b → w.heap.size ≤ b ∧ b < w1.heap.size ∧ b ≠ g ∧ w2.heap[b]? = w1.heap[b]? := fun j b hj hbb => by
    obtain ⟨q1, q2⟩ := (g1 j (by omega)).1 b hbb
    have hne : v.ownBlock ≠ some b := fun e => by have := (own_row_lt r1 e).2; omega
    refine ⟨q1, q2, ?_, hgr.block b q2 (Ne.symm hne)⟩
    rcases hg with hg | hg
    · intro e; subst e; exact hne hg
    · omega
  refine ⟨fun i j b => (i < k ∧ H i j b) ∨ (i = k ∧ G j b), h2, fun g' e => ?_, fun i j hi hj => ⟨fun b hbb => ?_, fun i' j' hi' hj' hne b hbb => ?_⟩, fun i hi j hj => ?_⟩
  · obtain rfl : g = g' := by simpa [Value.ownBlock] using e
    rcases hg with hg | hg
    · exact rX g hg
    · intro hx; have := hX g hx; omega
  · have key : ∀ x : Nat, x ≠ g → (Value.slice (some ⟨g, 0, none⟩) (k + 1) cap).ownBlock ≠ some x := fun x hx e => hx (by simpa [Value.ownBlock] using e.symm)
    rcases hbb with ⟨hi2, hbb⟩ | ⟨-, hbb⟩
    · obtain ⟨q1, q2, q3, q4⟩ := old i j b hi2 hj hbb
      exact ⟨((r2 i j hi2 hj).1 b hbb).1, by omega, key b q3, ((r2 i j hi2 hj).1 b hbb).2.2.2⟩
    · obtain ⟨q1, q2, q3, q4⟩ := new j b hj hbb
      exact ⟨by omega, by omega, key b q3, fun hx => by have := hX b hx; omega⟩
  · rcases hbb with ⟨hi2, hbb⟩ | ⟨hi2, hbb⟩
    · obtain ⟨q1, q2, q3, q4⟩ := old i j b hi2 hj hbb
      rintro (⟨hi3, hcc⟩ | ⟨hi3, hcc⟩)
      · exact (r2 i j hi2 hj).2 i' j' hi3 hj' hne b hbb hcc
      · have := (new j' b hj' hcc).1; omega
    · obtain ⟨q1, q2, q3, q4⟩ := new j b hj hbb
      rintro (⟨hi3, hcc⟩ | ⟨hi3, hcc⟩)
      · have := (old i' j' b hi3 hj' hcc).1; omega
      · exact (g1 j (by omega)).2 j' (by omega) (by omega) b hbb hcc
  · by_cases hik : i < k
    · obtain ⟨d, hd, ho⟩ := r3 i hik j hj
      have hle : i * W + W ≤ k * W := by
        have := Nat.mul_le_mul_right W (show i + 1 ≤ k from hik)
        rwa [Nat.add_mul, Nat.one_mul] at this
      exact ⟨d, by rw [List.getElem?_append_left (by omega)]; exact hd, Own.wide (fun b hbb => .inl ⟨hik, hbb⟩) _ (Own.same _ ho fun b hbb => (old i j b hik hj hbb).2.2.2)⟩
    · obtain rfl : i = k := by omega
      refine ⟨vs[j]'(by omega), by rw [List.getElem?_append_right (by omega), hlen, Nat.add_sub_cancel_left]; exact List.getElem?_eq_getElem _, Own.wide (fun b hbb => .inr ⟨rfl, hbb⟩) _ (Own.same _ (g2 j _ (List.getElem?_eq_getElem (by omega))) fun b hbb => (new j b hj hbb).2.2.2)⟩

/-- The last row of an own row is stored. -/
theorem own_stores {w : World} {B e W g k cap : Nat} {xs zs ds : List Value} (h : w.ownsRow B e W (.slice (some ⟨g, 0, none⟩) (k + 1) cap) (k + 1) (xs ++ zs)) (hx : xs.length = k * W) (hd : ds.length = W) :
    (stores w g (k * W) ds).ownsRow B e W (.slice (some ⟨g, 0, none⟩) (k + 1) cap) (k + 1) (xs ++ ds) := by
  obtain ⟨hl, h⟩ := h
  have hkw : (k + 1) * W = k * W + W := by rw [Nat.add_mul, Nat.one_mul]
  refine ⟨by rw [List.length_append]; omega, ?_⟩
  rcases h with ⟨h, -⟩ | ⟨g', cap', cur, hv, hB, hg, h1, h2, h3, h4⟩
  · cases h
  · simp only [Value.slice.injEq, Option.some.injEq, Addr.mk.injEq, true_and, and_true] at hv
    obtain ⟨rfl, rfl⟩ := hv
    have hcs : k * W + W ≤ cur.size := by
      rw [h3, ← hkw]; exact Nat.mul_le_mul_right W h1
    refine .inr ⟨g, cap, setRow cur (k * W) ds, rfl, hB, stores_heap ds w _ cur hg, h1, h2, by rw [setRow_size]; exact h3, ?_⟩
    apply List.ext_getElem?
    intro i
    rcases Nat.lt_or_ge i (k * W) with hi | hi
    · rw [List.getElem?_append_left (by omega), List.getElem?_take_of_lt (by omega), Array.getElem?_toList, setRow_out _ _ _ (.inl hi), ← Array.getElem?_toList]
      have := congrArg (fun l => l[i]?) h4
      simp only [List.getElem?_take_of_lt (show i < (k + 1) * W by omega), List.getElem?_append_left (show i < xs.length by omega)] at this
      exact this
    · rw [List.getElem?_append_right (by omega), hx]
      rcases Nat.lt_or_ge i (k * W + W) with hj | hj
      · obtain ⟨j, rfl⟩ : ∃ j, i = k * W + j := ⟨i - k * W, by omega⟩
        rw [List.getElem?_take_of_lt (by omega), Array.getElem?_toList, setRow_in _ _ _ _ (by omega) (by omega), Nat.add_sub_cancel_left]
      · rw [List.getElem?_eq_none (by rw [List.length_take, Array.length_toList, setRow_size]; omega), List.getElem?_eq_none (by omega)]

/-- A region's orders by what holds between its operations. -/
theorem wpAnyIn_inv {F : Fence} {n : Nat} {P : Program} {md : Region.Mode} {ops : Array Oper} {Q : Exit → Act → World → Prop} (Inv : Nat → Array Bool → Act → World → Prop)
    (h0 : ∀ listed a w, Inv 0 listed a w → False)
    (hne : ∀ fuel listed a w, Inv (fuel + 1) listed a w → Region.ready md ops listed = [] → Q .normal a w)
    (hs : ∀ fuel listed a w i, Inv (fuel + 1) listed a w → i ∈ Region.ready md ops listed →
      wpOpIn F n P ops Q i (fun a' w' => Inv fuel (listed.setIfInBounds i true) a' w' ∨ wpAnyIn F n P md ops Q fuel (listed.setIfInBounds i true) a' w') a w) :
    ∀ fuel listed a w, Inv fuel listed a w → wpAnyIn F n P md ops Q fuel listed a w
  | 0, _, _, _, h => (h0 _ _ _ h).elim
  | fuel + 1, listed, a, w, h => ⟨hne fuel listed a w h, fun i hi => wpOpIn_mono (fun a' w' h => h.elim (wpAnyIn_inv Inv h0 hne hs fuel _ a' w') id) (hs fuel listed a w i h hi)⟩

theorem opIn_append_lies {F : Fence} {n : Nat} {P : Program} (w : World) {ops : Array Oper} {o : Oper} {a : Act} {K : Act → World → Prop} {Q : Exit → Act → World → Prop} {E : Prop}
    (hg : o.guard = none) (s x : Operand) (t : TypeId) (hop : o.op = Op.call { callee := Callee.builtin Builtin.append, args := #[s, x], argTypes := #[t, t] })
    (base : Nat) (e : TypeId) (i : TypeInfo) (z : Value) (size bytes : Nat) (h1 : P.underlying t = some (.slice e)) (h2 : P.info? e = some i) (h3 : i.zero = some z) (h4 : i.size = size) (h5 : i.bytes = bytes) (h6 : z.cells.size = size) (h7 : 0 < size)
    (v : Value) (k : Nat) (xs : List Value) (hs : a.eval s = v) (hown : w.ownsRow base e size v k xs) (ad : Addr) (m c : Nat) (news : List Value) (hx : a.eval x = .slice (some ad) m c) (hn : news.length = m * size)
    (hc : ∀ j u, news[j]? = some u → w.cell? (ad.add j) = some u) (h1c : ∀ u ∈ news, u.oneCell' = true) (hm : 0 < m) (b1 : k + m ≤ maxLen) (b2 : (k + m) * bytes ≤ 140737488355328) (b3 : base ≤ w.heap.size)
    (hK : ∀ g cap w', w'.ownsRow base e size (.slice (some ⟨g, 0, none⟩) (k + m) cap) (k + m) (xs ++ news) → w.grownBy w' v.ownBlock → (v.ownBlock = some g ∨ g = w.heap.size) → K (a.put o.dst (.slice (some ⟨g, 0, none⟩) (k + m) cap)) w') :
    if Region.wanted o (yielded ops a.tmps) = true then Oper.wpIn F n P o a w K Q else E := by
  have hw : Region.wanted o (yielded ops a.tmps) = true := by simp [Region.wanted, hg]
  rw [if_pos hw]
  obtain ⟨g, cap, w', hrun, r1, r2, r3, r4⟩ := run_append_lies (P := P) w t o.type base e i z size bytes h1 h2 h3 h4 h5 h6 h7 v k xs hown ad m c news hn hc h1c hm b1 b2 b3 w.heap.size rfl
  unfold Oper.wpIn
  refine ⟨?_, ?_⟩
  · simp [Oper.about, hop, resolve, Target.leads, Sem.run_pure]
  · rw [Oper.semAt_plain F _ _ (by rw [hop]; intro c hc'; cases hc')]
    simp [execOp, hop, resolve, invoke, builtin, hs, hx, hrun, Result.andThen]
    exact hK g cap w' r1 r2 r3

theorem wpIn_thenK {F : Fence} {n : Nat} {P : Program} {c : Code} {K : Act → World → Prop} {Q : Exit → Act → World → Prop} {a : Act} {w : World}
    (h : ∀ K' : Act → World → Prop, (∀ a' w', K a' w' → K' a' w') → c.wpIn F n P (Exit.then K' Q) a w) : c.wpIn F n P (Exit.then K Q) a w := h K fun _ _ h => h

/-- What eachSel answers. -/
theorem eachSelI (w : World) (A : Option Addr) (n cap : Nat) : Calls Try.prog 18 #[.slice A n cap] w fun e w' => e = .returned (.func (.func 33) #[] #[.pointer (some ⟨w.heap.size, 0, none⟩)]) ∧ w.alloc (.cells #[.slice A n cap] 24) = w' := by
  go_enter Try.func18, Try.ntmps18
  go_wp2
  go_ret
  exact ⟨rfl, rfl⟩
end Da
end Go.Proofs.Ytfnieelghfkbdaa
