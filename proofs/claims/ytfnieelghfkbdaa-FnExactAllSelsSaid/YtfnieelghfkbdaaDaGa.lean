/- What is proved: lists that wait, the last one on top: what is still to come of them; a list without its first row; append where the new slice lies, inside a fence. -/
import Derived.Test.YtfnieelghfkbdaaDaG
import Derived.Test.YtfnieelghfkbdaaDaS
import Derived.OwnWalkIn
import Derived.Deep.AppendLies
namespace Go.Proofs.Ytfnieelghfkbdaa
namespace Da
set_option linter.unusedVariables false
open Go.RowKit

/-- The cell c holds it, and no list is longer than its room. -/
def AtC (w : World) : D → Value → Prop
  | .no, _ => False
  | .int k, c => c = .int .i64 k
  | .str t, c => c = .string t ∧ t.size ≤ maxLen
  | .bool b, c => c = .bool b
  | .list W n it, c => ∃ A cap, c = .slice A n cap ∧ n ≤ cap ∧ cap ≤ maxLen ∧ ∀ i, i < n → ∃ b o, A = some ⟨b, o, none⟩ ∧ ∀ j, j < W → ∃ d, w.cell? ⟨b, o + i * W + j, none⟩ = some d ∧ AtC w (it i j) d
theorem AtC.at {w : World} : ∀ (d : D) {c : Value}, AtC w d c → At w d c
  | .no, _, h => h
  | .int _, _, h => h
  | .str _, _, h => h
  | .bool _, _, h => h
  | .list W n it, c, h => by
    obtain ⟨A, cap, e, h1, h2, h3⟩ := h
    refine ⟨A, cap, e, by omega, fun i hi => ?_⟩
    obtain ⟨b, o, e2, hf⟩ := h3 i hi
    refine ⟨b, o, e2, fun j hj => ?_⟩
    obtain ⟨d, hd, ha⟩ := hf j hj
    exact ⟨d, hd, AtC.at (it i j) ha⟩
theorem Own.atC {w : World} : ∀ (d : D) {F : Nat → Prop} {c : Value}, Own w d F c → AtC w d c
  | .no, _, _, h => h
  | .int _, _, _, h => h
  | .str _, _, _, h => h
  | .bool _, _, _, h => h
  | .list W n it, F, c, h => by
    obtain ⟨A, cap, e, h1, h2, h3⟩ := h
    refine ⟨A, cap, e, h1, h2, fun i hi => ?_⟩
    obtain ⟨g, cur, ty, H, e2, q1, q2, q3, q4, q5⟩ := h3 (by omega)
    refine ⟨g, 0, e2, fun j hj => ?_⟩
    obtain ⟨d, hd, ho⟩ := q5 i hi j hj
    exact ⟨d, by rw [cell_of q2, Nat.zero_add]; exact hd, Own.atC (it i j) ho⟩
/-- A list without its first row. -/
theorem AtC.tail {w : World} {n cap b o : Nat} {it : Nat → Nat → D} (h : AtC w (.list 7 (n + 1) it) (.slice (some ⟨b, o, none⟩) (n + 1) cap)) :
    AtC w (.list 7 n fun i => it (i + 1)) (.slice (if cap = 1 then some ⟨b, o, none⟩ else some ⟨b, o + 7, none⟩) n (cap - 1)) := by
  obtain ⟨A, cap', e, h1, h2, h3⟩ := h
  simp only [Value.slice.injEq] at e
  obtain ⟨e1, -, e2⟩ := e
  subst e1 e2
  refine ⟨_, _, rfl, by omega, by omega, fun i hi => ?_⟩
  obtain ⟨b', o', e3, hf⟩ := h3 (i + 1) (by omega)
  simp only [Option.some.injEq, Addr.mk.injEq, and_true] at e3
  obtain ⟨rfl, rfl⟩ := e3
  refine ⟨b, o + 7, by rw [if_neg (by omega)], fun j hj => ?_⟩
  obtain ⟨d, hd, ha⟩ := hf j hj
  exact ⟨d, by rw [show o + 7 + i * 7 + j = o + (i + 1) * 7 + j from by omega]; exact hd, ha⟩

theorem listTo_cons {α : Type} (f : Nat → List α) : ∀ (n : Nat), listTo f (n + 1) = f 0 ++ listTo (fun i => f (i + 1)) n
  | 0 => by simp [listTo]
  | n + 1 => by rw [listTo, listTo_cons f n, listTo, List.append_assoc]
theorem allRows_cons (W n : Nat) (it : Nat → Nat → D) : allRows (.list W (n + 1) it) = it 0 :: (allRows (it 0 6) ++ allRows (.list W n fun i => it (i + 1))) := by
  rw [allRows_list, listTo_cons, allRows_list]; rfl
theorem allRows_zero (W : Nat) (it : Nat → Nat → D) : allRows (.list W 0 it) = [] := rfl

/-- What is still to come of the lists that wait, the first one on top. -/
def pend : List D → List (Nat → D)
  | [] => []
  | d :: S => allRows d ++ pend S
/-- How many turns that takes. -/
def weight : List D → Nat
  | [] => 0
  | d :: S => 1 + 2 * (allRows d).length + weight S
/-- How they wait. -/
def Stk (we : World) : List D → List Value → Prop
  | [], xs => xs = []
  | d :: S, xs => ∃ ys c, xs = ys ++ [c] ∧ AtC we d c ∧ Sh d (.lst .sel) ∧ Stk we S ys
theorem Stk.length {we : World} : ∀ {S : List D} {xs : List Value}, Stk we S xs → xs.length = S.length
  | [], _, h => by rw [show _ = [] from h]; rfl
  | d :: S, _, h => by
    obtain ⟨ys, c, rfl, -, -, h⟩ := h
    rw [List.length_append, Stk.length h]; rfl

theorem own_same {w w' : World} {B e size g n cap : Nat} {xs : List Value} (h : w.ownsRow B e size (.slice (some ⟨g, 0, none⟩) n cap) n xs) (hs : w'.heap[g]? = w.heap[g]?) :
    w'.ownsRow B e size (.slice (some ⟨g, 0, none⟩) n cap) n xs := by
  obtain ⟨hl, h⟩ := h
  refine ⟨hl, ?_⟩
  rcases h with ⟨h, -⟩ | ⟨g', cap', cur, hv, hB, hg, h1, h2, h3, h4⟩
  · cases h
  · simp only [Value.slice.injEq, Option.some.injEq, Addr.mk.injEq, true_and, and_true] at hv
    obtain ⟨rfl, rfl⟩ := hv
    exact .inr ⟨g, cap, cur, rfl, hB, hs.trans hg, h1, h2, h3, h4⟩
/-- The block of an own row. -/
theorem own_blk {w : World} {B e size g n cap : Nat} {xs : List Value} (h : w.ownsRow B e size (.slice (some ⟨g, 0, none⟩) n cap) n xs) : B ≤ g ∧ g < w.heap.size ∧ ∃ cur, w.heap[g]? = some (.cells cur e (0, 0)) := by
  rcases h.2 with ⟨h, -⟩ | ⟨g', cap', cur, hv, hB, hg, h1, h2, h3, h4⟩
  · cases h
  · simp only [Value.slice.injEq, Option.some.injEq, Addr.mk.injEq, true_and, and_true] at hv
    obtain ⟨rfl, rfl⟩ := hv
    exact ⟨hB, (Array.getElem?_eq_some_iff.1 hg).1, cur, hg⟩

/-- The last cell of an own row is stored. -/
theorem own_setLast {w : World} {B e g n cap : Nat} {ys : List Value} {u : Value} (h : w.ownsRow B e 1 (.slice (some ⟨g, 0, none⟩) (n + 1) cap) (n + 1) (ys ++ [u])) (hy : ys.length = n) (u' : Value) :
    (w.setCell ⟨g, n, none⟩ u').ownsRow B e 1 (.slice (some ⟨g, 0, none⟩) (n + 1) cap) (n + 1) (ys ++ [u']) := by
  obtain ⟨hl, h⟩ := h
  refine ⟨by simpa using hl, ?_⟩
  rcases h with ⟨h, -⟩ | ⟨g', cap', cur, hv, hB, hg, h1, h2, h3, h4⟩
  · cases h
  · simp only [Value.slice.injEq, Option.some.injEq, Addr.mk.injEq, true_and, and_true] at hv
    obtain ⟨rfl, rfl⟩ := hv
    refine .inr ⟨g, cap, cur.setIfInBounds n u', rfl, hB, heap_setCell_same w g n cur e u' hg, h1, h2, by rw [Array.size_setIfInBounds]; exact h3, ?_⟩
    rw [Array.toList_setIfInBounds, Nat.mul_one, List.take_set]
    rw [Nat.mul_one] at h4
    rw [h4, List.set_append_right _ _ (by omega), hy, Nat.sub_self]; rfl

theorem wpListIn_append_lies {F : Fence} {n : Nat} {P : Program} (w : World) {ops : Array Oper} {rest : List Oper} {o : Oper} {a : Act} {Q : Exit → Act → World → Prop}
    (hg : o.guard = none) (s x : Operand) (t : TypeId) (hop : o.op = Op.call { callee := Callee.builtin Builtin.append, args := #[s, x], argTypes := #[t, t] })
    (base : Nat) (e : TypeId) (i : TypeInfo) (z : Value) (size bytes : Nat) (h1 : P.underlying t = some (.slice e)) (h2 : P.info? e = some i) (h3 : i.zero = some z) (h4 : i.size = size) (h5 : i.bytes = bytes) (h6 : z.cells.size = size) (h7 : 0 < size)
    (v : Value) (k : Nat) (xs : List Value) (hs : a.eval s = v) (hown : w.ownsRow base e size v k xs) (ad : Addr) (m c : Nat) (news : List Value) (hx : a.eval x = .slice (some ad) m c) (hn : news.length = m * size)
    (hc : ∀ j u, news[j]? = some u → w.cell? (ad.add j) = some u) (h1c : ∀ u ∈ news, u.oneCell' = true) (hm : 0 < m) (b1 : k + m ≤ maxLen) (b2 : (k + m) * bytes ≤ 140737488355328) (b3 : base ≤ w.heap.size) (H : Nat) (hH : w.heap.size = H)
    (hK : ∀ g cap w', w'.ownsRow base e size (.slice (some ⟨g, 0, none⟩) (k + m) cap) (k + m) (xs ++ news) → w.grownBy w' v.ownBlock → (v.ownBlock = some g ∨ g = H) → g < w'.heap.size → wpListIn F n P ops Q rest (a.put o.dst (.slice (some ⟨g, 0, none⟩) (k + m) cap)) w') :
    wpListIn F n P ops Q (o :: rest) a w := by
  refine wpListIn_plain hg fun K hK' => ?_
  obtain ⟨g, cap, w', hrun, r1, r2, r3, r4⟩ := run_append_lies (P := P) w t o.type base e i z size bytes h1 h2 h3 h4 h5 h6 h7 v k xs hown ad m c news hn hc h1c hm b1 b2 b3 H hH
  unfold Oper.wpIn
  refine ⟨?_, ?_⟩
  · simp [Oper.about, hop, resolve, Target.leads, Sem.run_pure]
  · rw [Oper.semAt_plain F _ _ (by rw [hop]; intro c hc'; cases hc')]
    simp [execOp, hop, resolve, invoke, builtin, hs, hx, hrun, Result.andThen]
    exact hK' _ _ (hK g cap w' r1 r2 r3 r4)
end Da
end Go.Proofs.Ytfnieelghfkbdaa
