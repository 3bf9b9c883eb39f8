/- What is proved: lists that are appended to: their rows stay their own. -/
import Derived.Test.YtfnieelghfkbdaaDaT
namespace Go.Proofs.Ytfnieelghfkbdaa
namespace Da
set_option linter.unusedVariables false
open Go.RowKit

/-- k rows have been appended; each is its own; xs are their cells. -/
def Lst (w : World) (B : Nat) (ty : TypeId) (W k : Nat) (v : Value) (it : Nat → Nat → D) (xs : List Value) : Prop :=
  ∃ H : Nat → Nat → Nat → Prop, w.ownsRow B ty W v k xs ∧
    (∀ i j, i < k → j < W → (∀ b, H i j b → B ≤ b ∧ b < w.heap.size ∧ v.ownBlock ≠ some b) ∧ ∀ i' j', i' < k → j' < W → (i ≠ i' ∨ j ≠ j') → ∀ b, H i j b → ¬ H i' j' b) ∧
    ∀ i, i < k → ∀ j, j < W → ∃ d, xs[i * W + j]? = some d ∧ Own w (it i j) (H i j) d
theorem Lst.row {w : World} {B : Nat} {ty : TypeId} {W k : Nat} {v : Value} {it : Nat → Nat → D} {xs : List Value} (h : Lst w B ty W k v it xs) : w.ownsRow B ty W v k xs := h.choose_spec.1
theorem Lst.nil (w : World) (B : Nat) (ty : TypeId) (W : Nat) (it : Nat → Nat → D) : Lst w B ty W 0 (.slice none 0 0) it [] :=
  ⟨fun _ _ _ => False, ⟨by simp, .inl ⟨rfl, rfl⟩⟩, fun i j hi => absurd hi (Nat.not_lt_zero _), fun i hi => absurd hi (Nat.not_lt_zero _)⟩
theorem Lst.zero {w : World} {B : Nat} {ty : TypeId} {W g : Nat} {it : Nat → Nat → D} (hB : B ≤ g) (hg : w.heap[g]? = some (.cells #[] ty (0, 0))) : Lst w B ty W 0 (.slice (some ⟨g, 0, none⟩) 0 0) it [] :=
  ⟨fun _ _ _ => False, ⟨by simp, .inr ⟨g, 0, #[], rfl, hB, hg, Nat.le_refl _, Nat.zero_le _, by simp, by simp⟩⟩, fun i j hi => absurd hi (Nat.not_lt_zero _), fun i hi => absurd hi (Nat.not_lt_zero _)⟩
theorem own_row_lt {w : World} {B : Nat} {ty : TypeId} {W k : Nat} {v : Value} {xs : List Value} (h : w.ownsRow B ty W v k xs) {g : Nat} (hg : v.ownBlock = some g) : B ≤ g ∧ g < w.heap.size := by
  rcases h.2 with ⟨rfl, -⟩ | ⟨g', cap, cur, rfl, hB, hh, -⟩
  · cases hg
  · obtain rfl : g' = g := by simpa [Value.ownBlock] using hg
    exact ⟨hB, lt_of hh⟩
/-- Nothing old is written. -/
theorem Lst.below {w w' : World} {B : Nat} {ty : TypeId} {W k : Nat} {v : Value} {it : Nat → Nat → D} {xs : List Value} (h : Lst w B ty W k v it xs) (hb : Below w.heap.size w w') : Lst w' B ty W k v it xs := by
  obtain ⟨H, h1, h2, h3⟩ := h
  refine ⟨H, ?_, fun i j hi hj => ⟨fun b hbb => ?_, (h2 i j hi hj).2⟩, fun i hi j hj => ?_⟩
  · refine ⟨h1.1, ?_⟩
    rcases h1.2 with h0 | ⟨g, cap, cur, hv, hB, hg, q⟩
    · exact .inl h0
    · exact .inr ⟨g, cap, cur, hv, hB, (hb.block g (lt_of hg)).trans hg, q⟩
  · obtain ⟨q1, q2, q3⟩ := (h2 i j hi hj).1 b hbb
    exact ⟨q1, Nat.lt_of_lt_of_le q2 hb.size, q3⟩
  · obtain ⟨d, hd, ho⟩ := h3 i hi j hj
    exact ⟨d, hd, Own.same _ ho fun b hbb => hb.block b ((h2 i j hi hj).1 b hbb).2.1⟩
/-- One row more. -/
theorem Lst.step {w w1 w2 : World} {B : Nat} {ty : TypeId} {W k g cap : Nat} {v : Value} {it : Nat → Nat → D} {xs vs : List Value} (h : Lst w B ty W k v it xs) (hB : B ≤ w.heap.size) (hb : Below w.heap.size w w1) (hvs : vs.length = W)
    (ho : OwnR w1 (it k) (rng w.heap.size w1.heap.size) vs) (h2 : w2.ownsRow B ty W (.slice (some ⟨g, 0, none⟩) (k + 1) cap) (k + 1) (xs ++ vs)) (hgr : w1.grownBy w2 v.ownBlock) (hg : v.ownBlock = some g ∨ g = w1.heap.size) :
    Lst w2 B ty W (k + 1) (.slice (some ⟨g, 0, none⟩) (k + 1) cap) it (xs ++ vs) := by
  obtain ⟨H, r1, r2, r3⟩ := h
  obtain ⟨G, g1, g2⟩ := ho
  have hs1 := hb.size
  have hs2 := hgr.size
  have hlen : xs.length = k * W := r1.1
  have old : ∀ i j b, i < k → j < W → H i j b → b < w.heap.size ∧ v.ownBlock ≠ some b ∧ b ≠ g ∧ w2.heap[b]? = w.heap[b]? := fun i j b hi hj hbb => by
    obtain ⟨q1, q2, q3⟩ := (r2 i j hi hj).1 b hbb
    refine ⟨q2, q3, ?_, ?_⟩
    · rcases hg with hg | hg
      · intro e; subst e; exact q3 hg
      · omega
    · rw [hgr.block b (by omega) (fun e => q3 e.symm)]; exact hb.block b q2
  have new : ∀ j b, j < W → G j b → w.heap.size ≤ b ∧ b < w1.heap.size ∧ b ≠ g ∧ w2.heap[b]? = w1.heap[b]? := fun j b hj hbb => by
    obtain ⟨q1, q2⟩ := (g1 j (by omega)).1 b hbb
    have hne : v.ownBlock ≠ some b := fun e => by have := (own_row_lt r1 e).2; omega
    refine ⟨q1, q2, ?_, hgr.block b q2 (Ne.symm hne)⟩
    rcases hg with hg | hg
    · intro e; subst e; exact hne hg
    · omega
  refine ⟨fun i j b => (i < k ∧ H i j b) ∨ (i = k ∧ G j b), h2, fun i j hi hj => ⟨fun b hbb => ?_, fun i' j' hi' hj' hne b hbb => ?_⟩, fun i hi j hj => ?_⟩
  · have key : ∀ x : Nat, x ≠ g → (Value.slice (some ⟨g, 0, none⟩) (k + 1) cap).ownBlock ≠ some x := fun x hx e => hx (by simpa [Value.ownBlock] using e.symm)
    rcases hbb with ⟨hi2, hbb⟩ | ⟨-, hbb⟩
    · obtain ⟨q1, q2, q3, q4⟩ := old i j b hi2 hj hbb
      exact ⟨((r2 i j hi2 hj).1 b hbb).1, by omega, key b q3⟩
    · obtain ⟨q1, q2, q3, q4⟩ := new j b hj hbb
      exact ⟨by omega, by omega, key b q3⟩
  · rcases hbb with ⟨hi2, hbb⟩ | ⟨hi2, hbb⟩
    · obtain ⟨q1, q2, q3, q4⟩ := old i j b hi2 hj hbb
      rintro (⟨hi3, hcc⟩ | ⟨hi3, hcc⟩)
      · exact (r2 i j hi2 hj).2 i' j' hi3 hj' hne b hbb hcc
      · have := (new j' b hj' hcc).1; omega
    · obtain ⟨q1, q2, q3, q4⟩ := new j b hj hbb
      rintro (⟨hi3, hcc⟩ | ⟨hi3, hcc⟩)
      · have := (old i' j' b hi3 hj' hcc).1; omega
      · exact (g1 j (by omega)).2 j' (by omega) (by omega) b hbb hcc
  · by_cases hik : i < k
    · obtain ⟨d, hd, ho⟩ := r3 i hik j hj
      have hle : i * W + W ≤ k * W := by
        have := Nat.mul_le_mul_right W (show i + 1 ≤ k from hik)
        rwa [Nat.add_mul, Nat.one_mul] at this
      exact ⟨d, by rw [List.getElem?_append_left (by omega)]; exact hd, Own.wide (fun b hbb => .inl ⟨hik, hbb⟩) _ (Own.same _ ho fun b hbb => (old i j b hik hj hbb).2.2.2)⟩
    · obtain rfl : i = k := by omega
      refine ⟨vs[j]'(by omega), by rw [List.getElem?_append_right (by omega), hlen, Nat.add_sub_cancel_left]; exact List.getElem?_eq_getElem _, Own.wide (fun b hbb => .inr ⟨rfl, hbb⟩) _ (Own.same _ (g2 j _ (List.getElem?_eq_getElem (by omega))) fun b hbb => (new j b hj hbb).2.2.2)⟩
/-- It is its own. -/
theorem Lst.own {w : World} {B : Nat} {ty : TypeId} {W n : Nat} {v : Value} {it : Nat → Nat → D} {xs : List Value} (h : Lst w B ty W n v it xs) : Own w (.list W n it) (rng B w.heap.size) v := by
  obtain ⟨H, ⟨hl, h1⟩, h2, h3⟩ := h
  rcases h1 with ⟨rfl, rfl⟩ | ⟨g, cap, cur, rfl, hB, hg, hc1, hc2, hc3, hc4⟩
  · exact ⟨none, 0, rfl, Nat.le_refl _, Nat.zero_le _, fun h => absurd h (Nat.lt_irrefl _)⟩
  · refine ⟨_, cap, rfl, hc1, hc2, fun h0 => ⟨g, cur, ty, H, rfl, ⟨hB, lt_of hg⟩, hg, by rw [hc3]; exact Nat.mul_le_mul_right W hc1, fun i j hi hj => ⟨fun b hb => ?_, (h2 i j hi hj).2⟩, fun i hi j hj => ?_⟩⟩
    · obtain ⟨q1, q2, q3⟩ := (h2 i j hi hj).1 b hb
      exact ⟨⟨q1, q2⟩, fun e => q3 (by subst e; rfl)⟩
    · obtain ⟨d, hd, ho⟩ := h3 i hi j hj
      refine ⟨d, ?_, ho⟩
      rw [← hc4, List.getElem?_take_of_lt (by
        have := Nat.mul_le_mul_right W (show i + 1 ≤ n from hi)
        rw [Nat.add_mul, Nat.one_mul] at this
        omega)] at hd
      simpa using hd
end Da
end Go.Proofs.Ytfnieelghfkbdaa
