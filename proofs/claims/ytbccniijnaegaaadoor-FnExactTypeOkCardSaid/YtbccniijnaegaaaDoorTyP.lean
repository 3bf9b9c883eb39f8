/- What is proved: what right wraps are, as plain functions of their bytes; that the two ways in which they are told (the model's, byte by byte; the program's, by the library's Trim and Contains) agree; lists alone. Used by the proofs on types. -/
import Derived.Test.YtbccniijnaegaaaDoorNumA
import Derived.Lib.SlTrimSet
import Derived.Lib.IndexMore
namespace Go.Proofs.YtbccniijnaegaaaDoor
namespace Ty

/-- The one at place i may stand there. -/
def okAt (s : ByteArray) (i : Nat) : Bool := (decide (bt s i = 33) || decide (bt s i = 93)) && !(decide (0 < i) && (decide (bt s i = 33) && decide (bt s (i - 1) = 33)))
/-- Right wraps. -/
def wOk (s : ByteArray) : Bool := decide (s.size ≤ 8 ∧ ∀ i, i < s.size → okAt s i = true)
theorem wOk_long {s : ByteArray} (h : 8 < s.size) : wOk s = false := by
  rw [wOk, decide_eq_false_iff_not]; intro x; omega
theorem wOk_bad {s : ByteArray} (k : Nat) (hk : k < s.size) (h : okAt s k = false) : wOk s = false := by
  rw [wOk, decide_eq_false_iff_not]; intro x; rw [x.2 k hk] at h; cases h
theorem wOk_yes {s : ByteArray} (h0 : s.size ≤ 8) (h : ∀ i, i < s.size → okAt s i = true) : wOk s = true := by
  rw [wOk, decide_eq_true_iff]; exact ⟨h0, h⟩

theorem bt_iff (s : ByteArray) (i : Nat) (c : UInt8) : bt s i = (c.toNat : Int) ↔ s.data.toList[i]? = some c := by
  unfold bt
  cases h : s.data.toList[i]? with
  | none =>
    constructor
    · intro x; simp only at x; have := c.toNat_lt; omega
    · intro x; cases x
  | some d =>
    simp only [Option.some.injEq]
    constructor
    · intro x; apply UInt8.toNat_inj.1; omega
    · intro x; rw [x]
theorem bt33 (s : ByteArray) (i : Nat) : bt s i = 33 ↔ s.data.toList[i]? = some 33 := bt_iff s i 33
theorem bt93 (s : ByteArray) (i : Nat) : bt s i = 93 ↔ s.data.toList[i]? = some 93 := bt_iff s i 93

theorem drop_nil (p : UInt8 → Bool) : ∀ l : List UInt8, List.dropWhile p l = [] ↔ ∀ b ∈ l, p b = true
  | [] => by simp
  | a :: l => by
    rw [List.dropWhile_cons]
    cases h : p a with
    | true => rw [if_pos rfl, drop_nil p l]; simp [h]
    | false => simp [h]
theorem drop_head (p : UInt8 → Bool) : ∀ (l : List UInt8) (c : UInt8) (t : List UInt8), List.dropWhile p l = c :: t → p c = false ∧ c ∈ l
  | [], c, t, h => by cases h
  | a :: l, c, t, h => by
    rw [List.dropWhile_cons] at h
    cases ha : p a with
    | true =>
      rw [if_pos ha] at h
      obtain ⟨h1, h2⟩ := drop_head p l c t h
      exact ⟨h1, List.mem_cons_of_mem _ h2⟩
    | false =>
      rw [if_neg (by rw [ha]; decide)] at h
      cases h
      exact ⟨ha, List.mem_cons_self⟩
theorem trim_nil (l cs : List UInt8) : Lib.trimS l cs = [] ↔ ∀ b ∈ l, cs.contains b = true := by
  unfold Lib.trimS Lib.trimLeftS Lib.trimRightS
  rw [drop_nil]
  cases h : List.dropWhile (fun x => cs.contains x) l.reverse with
  | nil =>
    rw [drop_nil] at h
    simp only [List.reverse_nil, List.not_mem_nil, false_implies, implies_true, true_iff]
    exact fun b hb => h b (by simpa using hb)
  | cons c t =>
    obtain ⟨hc, hm⟩ := drop_head _ _ _ _ h
    simp only [List.mem_reverse] at hm
    constructor
    · intro x
      have := x c (by simp)
      rw [hc] at this; cases this
    · intro x
      have := x c hm
      rw [hc] at this; cases this

theorem occ2 (l : List UInt8) (a b : UInt8) (i : Nat) : Lib.occAt l [a, b] i = true ↔ l[i]? = some a ∧ l[i + 1]? = some b := by
  have h0 : l[i]? = (l.drop i)[0]? := by simp
  have h1 : l[i + 1]? = (l.drop i)[1]? := by simp
  rw [h0, h1, Lib.occAt]
  match l.drop i with
  | [] => simp
  | [x] => simp
  | x :: y :: t =>
    simp only [List.isPrefixOf, Bool.and_true, Bool.and_eq_true, beq_iff_eq, List.getElem?_cons_zero, List.getElem?_cons_succ, Option.some.injEq]
    constructor
    · rintro ⟨rfl, rfl⟩; exact ⟨rfl, rfl⟩
    · rintro ⟨rfl, rfl⟩; exact ⟨rfl, rfl⟩
theorem cont2 (l : List UInt8) (a b : UInt8) : Lib.contains l [a, b] = true ↔ ∃ i, l[i]? = some a ∧ l[i + 1]? = some b := by
  rw [Lib.contains, decide_eq_true_iff]
  rcases Lib.index_spec l [a, b] with ⟨h1, h2⟩ | ⟨i, h1, h2, h3, -⟩
  · rw [h1]
    constructor
    · intro x; omega
    · rintro ⟨i, hi, hj⟩
      have hl : i < l.length := by
        rcases Nat.lt_or_ge i l.length with h | h
        · exact h
        · rw [List.getElem?_eq_none h] at hi; cases hi
      have := (occ2 l a b i).2 ⟨hi, hj⟩
      rw [h2 i (by omega)] at this
      cases this
  · rw [h1]
    constructor
    · intro _; exact ⟨i, (occ2 l a b i).1 h3⟩
    · intro _; omega

/-- The program's way. -/
theorem wOk_impl {s : ByteArray} (h : s.size ≤ 8) (ht : Lib.trimS s.data.toList [93, 33] = []) (hc : Lib.contains s.data.toList [33, 33] = false) : wOk s = true := by
  refine wOk_yes h fun i hi => ?_
  have hl : i < s.data.toList.length := by simpa using hi
  have hm := (trim_nil _ _).1 ht (s.data.toList[i]) (List.getElem_mem hl)
  have hm2 : bt s i = 33 ∨ bt s i = 93 := by
    rw [bt33, bt93, List.getElem?_eq_getElem hl]
    simp only [List.contains_cons, List.contains_nil, Bool.or_false, Bool.or_eq_true, beq_iff_eq] at hm
    rcases hm with hm | hm
    · right; rw [hm]
    · left; rw [hm]
  have hn : ¬ (0 < i ∧ bt s i = 33 ∧ bt s (i - 1) = 33) := by
    rintro ⟨h0, h1, h2⟩
    have : Lib.contains s.data.toList [33, 33] = true := (cont2 _ _ _).2 ⟨i - 1, (bt33 _ _).1 h2, by rw [show i - 1 + 1 = i by omega]; exact (bt33 _ _).1 h1⟩
    rw [hc] at this; cases this
  have e1 : (decide (bt s i = 33) || decide (bt s i = 93)) = true := by simpa using hm2
  have e2 : (decide (0 < i) && (decide (bt s i = 33) && decide (bt s (i - 1) = 33))) = false := by
    rw [Bool.eq_false_iff]; intro x; simp only [Bool.and_eq_true, decide_eq_true_eq] at x; exact hn x
  rw [okAt, e1, e2]; rfl
theorem wOk_impl_trim {s : ByteArray} (ht : ¬ Lib.trimS s.data.toList [93, 33] = []) : wOk s = false := by
  rw [trim_nil] at ht
  simp only [Classical.not_forall] at ht
  obtain ⟨b, hb, hn⟩ := ht
  obtain ⟨i, hi, rfl⟩ := List.getElem_of_mem hb
  refine wOk_bad i (by simpa using hi) ?_
  have e1 : (decide (bt s i = 33) || decide (bt s i = 93)) = false := by
    rw [Bool.eq_false_iff]; intro x
    simp only [Bool.or_eq_true, decide_eq_true_eq, bt33, bt93, List.getElem?_eq_getElem hi, Option.some.injEq] at x
    apply hn
    simp only [List.contains_cons, List.contains_nil, Bool.or_false, Bool.or_eq_true, beq_iff_eq]
    rcases x with x | x
    · right; exact x
    · left; exact x
  rw [okAt, e1]; rfl
theorem wOk_impl_two {s : ByteArray} (hc : Lib.contains s.data.toList [33, 33] = true) : wOk s = false := by
  obtain ⟨i, h1, h2⟩ := (cont2 _ _ _).1 hc
  have hl : i + 1 < s.size := by
    rcases Nat.lt_or_ge (i + 1) s.data.toList.length with h | h
    · simpa using h
    · rw [List.getElem?_eq_none h] at h2; cases h2
  refine wOk_bad (i + 1) hl ?_
  have e2 : (decide (0 < i + 1) && (decide (bt s (i + 1) = 33) && decide (bt s (i + 1 - 1) = 33))) = true := by
    simp only [Bool.and_eq_true, decide_eq_true_eq, Nat.add_sub_cancel]
    exact ⟨by omega, (bt33 _ _).2 h2, (bt33 _ _).2 h1⟩
  rw [okAt, e2]; simp
end Ty
end Go.Proofs.YtbccniijnaegaaaDoor
