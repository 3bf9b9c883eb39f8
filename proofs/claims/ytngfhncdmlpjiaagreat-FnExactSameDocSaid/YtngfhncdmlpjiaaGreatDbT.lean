/- What is proved: the laws' copies of types are the same, in new memory of their own. (Made by tools/mkdbt.py.) -/
import Derived.Test.YtngfhncdmlpjiaaGreatDaT
namespace Go.Proofs.YtngfhncdmlpjiaaGreat
namespace Da
set_option linter.unusedVariables false
set_option linter.unusedSimpArgs false
open Go.RowKit
attribute [local go_sem ↓] Go.wp_at_zero Go.wp_at_succ

theorem At.bool {w : World} {d : D} {c : Value} (h : At w d c) (hs : Sh d .bool) : ∃ k, c = .bool k := by
  obtain ⟨k, rfl⟩ := hs.bool
  exact ⟨k, h⟩
theorem heap_setRow_same {w : World} {g : Nat} {old cs : Array Value} {t : TypeId} {fr : Nat × Nat} (h : w.heap[g]? = some (.cells old t fr)) : (w.setRow g cs).heap[g]? = some (.cells cs t fr) := by
  simp [World.setRow, Array.getElem?_modify, h]
theorem heap_setRow_other {w : World} {g b : Nat} {cs : Array Value} (h : b ≠ g) : (w.setRow g cs).heap[b]? = w.heap[b]? := by
  simp [World.setRow, Array.getElem?_modify, Ne.symm h]
/-- A struct is stored within another. -/
theorem wpList_store_part {P : Program} {ops : Array Oper} {rest : List Oper} {o : Oper} {a : Act} {w : World} {Q : Exit → Act → World → Prop} (hgd : o.guard = none) (ty : TypeId) (x y : Operand) (ho : o.op = .store ty x y)
    (g p : Nat) (vs : List Value) (hx : a.eval x = .pointer (some ⟨g, p, none⟩)) (hy : a.eval y = .agg vs.toArray) (t : TypeId) (old : Array Value) (hg : w.heap[g]? = some (.cells old t (0, 0))) (hi : (P.info? ty).map (·.size) = some vs.length)
    (hl : p + vs.length ≤ old.size) (h1 : ∀ v ∈ vs, v.oneCell' = true) (fin : Array Value) (hf : (old.toList.take p ++ vs ++ old.toList.drop (p + vs.length)).toArray = fin) (h : wpList P ops Q rest (a.put o.dst undef) (w.setRow g fin)) : wpList P ops Q (o :: rest) a w := by
  refine wpList_plain hgd fun _ hK => ?_
  have hs := run_storeCells_at (P := P) g p t vs 0 old w hg (by omega) h1
  have hr : (storeVar ty ⟨g, p, none⟩ (.agg vs.toArray)).run P w = .ok () (w.setRow g fin) := by
    cases hq : P.info? ty with
    | none => simp [hq] at hi
    | some i =>
      have hz : vs.length = i.size := by simp [hq] at hi; omega
      rw [← hf]
      simpa [storeVar, sizeOf, typeInfo, hq, Value.cells, hz] using hs
  unfold Oper.wp execOp
  simp only [ho, hx, hy, Instr.storeAt, Instr.sureAddr, Sem.run_bind, Sem.run_pure, Result.andThen_ok, hr]
  exact hK _ _ h
theorem below_setRow {B g : Nat} {w0 w : World} {cs : Array Value} (h : Below B w0 w) (hg : B ≤ g) : Below B w0 (w.setRow g cs) :=
  h.trans ⟨rfl, rfl, rfl, by simp [World.setRow], fun k hk => heap_setRow_other (by omega)⟩
theorem ownR_append {w : World} {r : Nat → D} {F1 F2 F : Nat → Prop} {n : Nat} {v1 v2 : List Value} (hn : v1.length = n) (h1 : OwnR w r F1 v1) (h2 : OwnR w (fun j => r (j + n)) F2 v2) (hd : ∀ b, F1 b → ¬ F2 b) (w1 : ∀ b, F1 b → F b) (w2 : ∀ b, F2 b → F b) : OwnR w r F (v1 ++ v2) := by
  obtain ⟨G1, p1, p2⟩ := h1
  obtain ⟨G2, q1, q2⟩ := h2
  refine ⟨fun j b => if j < n then G1 j b else G2 (j - n) b, fun j hj => ?_, fun j u hu => ?_⟩
  · rw [List.length_append] at hj
    by_cases h : j < n
    · simp only [h, if_true]
      refine ⟨fun b hb => w1 b ((p1 j (by omega)).1 b hb), fun j' hj' hne b hb => ?_⟩
      rw [List.length_append] at hj'
      by_cases h' : j' < n
      · simp only [h', if_true]; exact (p1 j (by omega)).2 j' (by omega) hne b hb
      · simp only [h', if_false]; exact fun hc => hd b ((p1 j (by omega)).1 b hb) ((q1 (j' - n) (by omega)).1 b hc)
    · simp only [h, if_false]
      refine ⟨fun b hb => w2 b ((q1 (j - n) (by omega)).1 b hb), fun j' hj' hne b hb => ?_⟩
      rw [List.length_append] at hj'
      by_cases h' : j' < n
      · simp only [h', if_true]; exact fun hc => hd b ((p1 j' (by omega)).1 b hc) ((q1 (j - n) (by omega)).1 b hb)
      · simp only [h', if_false]; exact (q1 (j - n) (by omega)).2 (j' - n) (by omega) (by omega) b hb
  · by_cases h : j < n
    · simp only [h, if_true]
      rw [List.getElem?_append_left (by omega)] at hu
      exact p2 j u hu
    · simp only [h, if_false]
      rw [List.getElem?_append_right (by omega), hn] at hu
      have := q2 (j - n) u hu
      simp only [Nat.sub_add_cancel (show n ≤ j by omega)] at this
      exact this
def sameK : K → K → Bool
  | .text, .text => true
  | .value, .value => true
  | .arg, .arg => true
  | .dir, .dir => true
  | .sel, .sel => true
  | .typ, .typ => true
  | .vardef, .vardef => true
  | .op, .op => true
  | .frag, .frag => true
  | .indef, .indef => true
  | .fielddef, .fielddef => true
  | .enumdef, .enumdef => true
  | .root, .root => true
  | .defn, .defn => true
  | .item, .item => true
  | .schema, .schema => true
  | _, _ => false
theorem sameK_eq : ∀ {a b : K}, sameK a b = true → a = b := by intro a b h; cases a <;> cases b <;> first | rfl | cases h
def sameF : F → F → Bool
  | .int, .int => true
  | .str, .str => true
  | .bool, .bool => true
  | .lst k, .lst k' => sameK k k'
  | _, _ => false
theorem sameF_eq : ∀ {a b : F}, sameF a b = true → a = b := by
  intro a b h
  cases a <;> cases b <;> first | rfl | (cases h; done) | exact congrArg F.lst (sameK_eq h)
/-- The row of k stands in the row of k', from cell i on. -/
def inRow (k k' : K) (i : Nat) : Bool := (List.range (row k).length).all fun j => match (row k)[j]?, (row k')[j + i]? with
  | some a, some b => sameF a b
  | _, _ => false
theorem sub_sh {k k' : K} {r : Nat → D} (i : Nat) (hk : inRow k k' i = true) (hs : ∀ j g, (row k')[j]? = some g → Sh (r j) g) : ∀ j g, (row k)[j]? = some g → Sh (r (j + i)) g := fun j g e => by
  have hj : j < (row k).length := (List.getElem?_eq_some_iff.1 e).1
  have h := List.all_eq_true.1 hk j (List.mem_range.2 hj)
  rw [e] at h
  cases h2 : (row k')[j + i]? with
  | none => rw [h2] at h; cases h
  | some b =>
    rw [h2] at h
    have := sameF_eq h
    subst this
    exact hs _ _ h2

/-- The contract of one. -/
def ToRType (r : Nat → D) : Prop := ∀ (w : World) (c0 c1 : Value), sumTo (fun j => sz (r j)) 2 ≤ 1048576 → At w (r 0) c0 → At w (r 1) c1 →
  Calls Tryz.prog 109 #[.agg #[c0, c1]] w fun e w' => ∃ d0 d1, e = .returned (.agg #[d0, d1]) ∧ OwnR w' r (rng w.heap.size w'.heap.size) [d0, d1] ∧ Below w.heap.size w w'
theorem sizeType : (Tryz.prog.info? 74).map (·.size) = some 2 := by kernel_rfl
set_option maxHeartbeats 8000000 in
theorem toRType_of (r : Nat → D) (hsh : ∀ j g, (row .typ)[j]? = some g → Sh (r j) g) : ToRType r := by
  intro w c0 c1 hs a0 a1
  simp only [sumTo] at hs
  have HA0 := Lib.hid a0
  have HA1 := Lib.hid a1
  obtain ⟨xk0, rfl⟩ := At.str a0 (hsh 0 _ rfl)
  obtain ⟨xk1, rfl⟩ := At.str a1 (hsh 1 _ rfl)
  clear a0 a1
  go_enter Tryz.func109, Tryz.ntmps109
  go_wp2
  obtain ⟨W9, hW9⟩ : ∃ W9, (((w.alloc (Obj.cells #[Value.string xk0, Value.string xk1] 141)).alloc (Obj.cells #[Value.string xk0, Value.string xk1] 74)).alloc (Obj.cells #[Value.string xk0, Value.string xk1] 74)) = W9 := ⟨_, rfl⟩
  rw [hW9]
  have hg9 : W9.heap[w.heap.size + 1]? = some (Obj.cells #[Value.string xk0, Value.string xk1] 74) := by
    rw [← hW9, Below.heap_alloc _ _ _ (by simp)]
    exact heap_alloc2_new w _ _
  have bb9 : Below w.heap.size w W9 := by rw [← hW9]; exact ((below_alloc _ _).alloc (by simp) _).alloc (by simp; omega) _
  clear hW9
  (try simp only [Exit.inBlock, Exit.then])
  refine bodyPost_ret (results_cell_row rfl _ W9 (w.heap.size + 1) _ _ _ _ rfl hg9 Tryz.underlying74 rfl (by kernel_rfl)) rfl ?_
  refine ⟨_, _, rfl, ?_, bb9⟩
  exact (ownR_plain (Own.plain HA0.out (hsh 0 _ rfl)) (ownR_plain (Own.plain HA1.out (hsh 1 _ rfl)) ownR_nil))

theorem toType {r : Nat → D} (hs : ∀ j g, (row .typ)[j]? = some g → Sh (r j) g) : ToRType r := (toRType_of r hs )

end Da
end Go.Proofs.YtngfhncdmlpjiaaGreat
