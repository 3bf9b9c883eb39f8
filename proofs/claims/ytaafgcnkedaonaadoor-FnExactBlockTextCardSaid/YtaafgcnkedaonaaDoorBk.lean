/- Lines, how far they are moved in, and the text of a block, as plain functions on lists of bytes. -/
import Derived.Lib.Replace
import Derived.Lib.Split
import Derived.Lib.CountLaws
import Derived.Lib.SlTrimSet
import Derived.Lib.Join
namespace Go.Proofs.YtaafgcnkedaonaaDoor
open Go Go.Lib

abbrev Bs := List UInt8

/-- Every instance of one text put for another, byte by byte. -/
theorem replaceAll_hit {l old new : Bs} (ho : old ≠ []) (hne : (old == new) = false) (h : old.isPrefixOf l = true) :
    replaceAll l old new = new ++ replaceAll (l.drop old.length) old new := by
  have hi : index l old = ((0 : Nat) : Int) := index_first (Nat.zero_le _) (by simpa [occAt] using h) (by intro j hj; omega)
  have hc := count_hit ho hi
  rw [Nat.zero_add] at hc
  simp only [replaceAll, replace, hne, Bool.false_eq_true, if_false, replaceNum, show ((-1 : Int) < 0) from by decide, true_or, if_true]
  rw [hc, Nat.add_comm 1, replaceK_hit _ _ _ _ 0 hi]
  simp
theorem index_cons {b : UInt8} {l old : Bs} (h : old.isPrefixOf (b :: l) = false) : index (b :: l) old = if index l old == -1 then -1 else index l old + 1 := by
  rw [index]; simp [h]
theorem count_cons {b : UInt8} {l old : Bs} (ho : old ≠ []) (h : old.isPrefixOf (b :: l) = false) : count (b :: l) old = count l old := by
  have hi := index_cons h
  have hg := index_ge l old
  by_cases hm : index l old = -1
  · rw [hm] at hi
    rw [count_miss hm, count_miss hi]
  · obtain ⟨i, hi2⟩ : ∃ i : Nat, index l old = i := ⟨(index l old).toNat, by omega⟩
    have hi3 : index (b :: l) old = ((i + 1 : Nat) : Int) := by
      rw [hi, hi2, if_neg (by intro e; have := beq_iff_eq.1 e; omega)]; omega
    rw [count_hit ho hi2, count_hit ho hi3, show i + 1 + old.length = (i + old.length) + 1 by omega, List.drop_succ_cons]
theorem replaceAll_miss {b : UInt8} {l old new : Bs} (ho : old ≠ []) (hne : (old == new) = false) (h : old.isPrefixOf (b :: l) = false) :
    replaceAll (b :: l) old new = b :: replaceAll l old new := by
  have hi := index_cons h
  have hg := index_ge l old
  simp only [replaceAll, replace, hne, Bool.false_eq_true, if_false, replaceNum, show ((-1 : Int) < 0) from by decide, true_or, if_true]
  rw [count_cons ho h]
  by_cases hm : index l old = -1
  · rw [count_miss hm]; rfl
  · obtain ⟨i, hi2⟩ : ∃ i : Nat, index l old = i := ⟨(index l old).toNat, by omega⟩
    have hi3 : index (b :: l) old = ((i + 1 : Nat) : Int) := by
      rw [hi, hi2, if_neg (by intro e; have := beq_iff_eq.1 e; omega)]; omega
    rw [count_hit ho hi2, Nat.add_comm 1, replaceK_hit _ _ _ _ i hi2, replaceK_hit _ _ _ _ (i + 1) hi3, show i + 1 + old.length = (i + old.length) + 1 by omega, List.drop_succ_cons, List.take_succ_cons]
    simp
theorem replaceAll_nil {old new : Bs} (ho : old ≠ []) (hne : (old == new) = false) : replaceAll [] old new = [] := by
  have : count [] old = 0 := count_miss (by rw [index]; cases old with | nil => exact absurd rfl ho | cons _ _ => rfl)
  simp only [replaceAll, replace, hne, Bool.false_eq_true, if_false, replaceNum, show ((-1 : Int) < 0) from by decide, true_or, if_true, this]
  rfl

/-- 13 10 is 10. -/
def n1 : Bs → Bs
  | [] => []
  | b :: l => if b = 13 ∧ l.head? = some 10 then n1 l else b :: n1 l
/-- 13 is 10. -/
def n2 (l : Bs) : Bs := l.map fun b => if b = 13 then 10 else b
def nl (l : Bs) : Bs := n2 (n1 l)

theorem replaceAll_n1 : ∀ (k : Nat) (l : Bs), l.length ≤ k → replaceAll l [13, 10] [10] = n1 l
  | 0, l, h => by
    have : l = [] := List.length_eq_zero_iff.1 (by omega)
    subst this
    exact replaceAll_nil (by decide) (by decide)
  | k + 1, [], _ => replaceAll_nil (by decide) (by decide)
  | k + 1, b :: l, h => by
    simp only [List.length_cons] at h
    by_cases hp : b = 13 ∧ l.head? = some 10
    · obtain ⟨rfl, h2⟩ := hp
      cases l with
      | nil => simp at h2
      | cons c l =>
        simp only [List.head?_cons, Option.some.injEq] at h2
        subst h2
        rw [replaceAll_hit (by decide) (by decide) (by simp [List.isPrefixOf])]
        simp only [List.length_cons] at h
        simp only [List.length_cons, List.length_nil, List.drop_succ_cons, List.drop_zero]
        rw [replaceAll_n1 k l (by omega)]
        simp [n1]
    · have hf : List.isPrefixOf [13, 10] (b :: l) = false := by
        cases l with
        | nil => simp [List.isPrefixOf]
        | cons c l =>
          simp only [List.isPrefixOf, Bool.and_true, Bool.and_eq_false_imp, beq_iff_eq, beq_eq_false_iff_ne, ne_eq]
          intro e1 e2
          exact hp ⟨e1.symm, by simp [e2]⟩
      rw [replaceAll_miss (by decide) (by decide) hf, replaceAll_n1 k l (by omega), n1, if_neg hp]
theorem replaceAll_n2 : ∀ l : Bs, replaceAll l [13] [10] = n2 l
  | [] => replaceAll_nil (by decide) (by decide)
  | b :: l => by
    by_cases hb : b = 13
    · subst hb
      rw [replaceAll_hit (by decide) (by decide) (by simp [List.isPrefixOf])]
      simp only [List.length_cons, List.length_nil, List.drop_succ_cons, List.drop_zero]
      rw [replaceAll_n2 l]
      simp [n2]
    · rw [replaceAll_miss (by decide) (by decide) (by simp [List.isPrefixOf]; exact fun e => hb e.symm), replaceAll_n2 l]
      simp [n2, hb]

/-- The pieces between 10's. -/
def glue (a : Bs) : List Bs → List Bs
  | [] => [a]
  | x :: r => (a ++ x) :: r
def sp : Bs → List Bs
  | [] => [[]]
  | b :: l => if b = 10 then [] :: sp l else glue [b] (sp l)
theorem sp_ne : ∀ l, sp l ≠ []
  | [] => by simp [sp]
  | b :: l => by
    rw [sp]; split
    · simp
    · cases sp l <;> simp [glue]
theorem glue_nil {x : List Bs} (h : x ≠ []) : glue [] x = x := by cases x with | nil => exact absurd rfl h | cons _ _ => rfl
theorem glue_glue (a b : Bs) (x : List Bs) (h : x ≠ []) : glue a (glue b x) = glue (a ++ b) x := by
  cases x with | nil => exact absurd rfl h | cons _ _ => simp [glue]
theorem split_sp : ∀ l : Bs, splitK [10] 0 (count l [10]) l = sp l
  | [] => by rw [count_miss (by rw [index]; rfl)]; rfl
  | b :: l => by
    by_cases hb : b = 10
    · subst hb
      have hi : index (10 :: l) [10] = ((0 : Nat) : Int) := index_first (Nat.zero_le _) (by simp [occAt, List.isPrefixOf]) (by intro j hj; omega)
      rw [count_hit (by decide) hi, Nat.add_comm 1, splitK, hi]
      simp only [List.length_cons, List.length_nil, Nat.zero_add, List.drop_succ_cons, sp, if_true, Int.toNat_natCast, List.drop_zero]
      rw [split_sp l]
      simp
    · have h : List.isPrefixOf [10] (b :: l) = false := by simp [List.isPrefixOf]; exact fun e => hb e.symm
      rw [count_cons (by decide) h, sp, if_neg hb, ← split_sp l]
      have hi := index_cons h
      have hg := index_ge l [10]
      by_cases hm : index l [10] = -1
      · rw [count_miss hm]; rfl
      · obtain ⟨i, hi2⟩ : ∃ i : Nat, index l [10] = i := ⟨(index l [10]).toNat, by omega⟩
        have hi3 : index (b :: l) [10] = ((i + 1 : Nat) : Int) := by
          rw [hi, hi2, if_neg (by intro e; have := beq_iff_eq.1 e; omega)]; omega
        have n1 : ¬ (((i + 1 : Nat) : Int) == -1) = true := by intro e; have := beq_iff_eq.1 e; omega
        have n2 : ¬ ((i : Int) == -1) = true := by intro e; have := beq_iff_eq.1 e; omega
        rw [count_hit (by decide) hi2, Nat.add_comm 1, splitK, splitK, hi2, hi3, if_neg n1, if_neg n2]
        simp only [Int.toNat_natCast, List.length_cons, List.length_nil, Nat.zero_add, Nat.add_zero, List.take_succ_cons, List.drop_succ_cons, glue, List.cons_append, List.nil_append]

/-- The lines of a text. -/
def ln (l : Bs) : List Bs := sp (nl l)
theorem ln_ne (l : Bs) : ln l ≠ [] := sp_ne _

theorem nl_crlf (l : Bs) : nl (13 :: 10 :: l) = 10 :: nl l := by simp [nl, n1, n2]
theorem nl_cr {l : Bs} (h : l.head? ≠ some 10) : nl (13 :: l) = 10 :: nl l := by simp [nl, n1, n2, h]
theorem nl_lf (l : Bs) : nl (10 :: l) = 10 :: nl l := by simp [nl, n1, n2]
theorem nl_else {b : UInt8} (l : Bs) (h : b ≠ 13) : nl (b :: l) = b :: nl l := by simp [nl, n1, n2, h]
theorem ln_crlf (l : Bs) : ln (13 :: 10 :: l) = [] :: ln l := by rw [ln, nl_crlf, sp, if_pos rfl, ln]
theorem ln_cr {l : Bs} (h : l.head? ≠ some 10) : ln (13 :: l) = [] :: ln l := by rw [ln, nl_cr h, sp, if_pos rfl, ln]
theorem ln_lf (l : Bs) : ln (10 :: l) = [] :: ln l := by rw [ln, nl_lf, sp, if_pos rfl, ln]
theorem ln_else {b : UInt8} (l : Bs) (h : b ≠ 13) (h2 : b ≠ 10) : ln (b :: l) = glue [b] (ln l) := by rw [ln, nl_else l h, sp, if_neg h2, ln]

/-- How far a line is moved in. -/
def isb (b : UInt8) : Bool := b == 32 || b == 9
def ind (l : Bs) : Nat := (l.takeWhile isb).length
def blank (l : Bs) : Bool := decide (ind l = l.length)
theorem ind_le (l : Bs) : ind l ≤ l.length := by
  unfold ind; induction l with
  | nil => exact Nat.le_refl _
  | cons b l ih => rw [List.takeWhile_cons]; split <;> simp_all
theorem ind_cons (b : UInt8) (l : Bs) : ind (b :: l) = if isb b = true then ind l + 1 else 0 := by
  unfold ind; rw [List.takeWhile_cons]; split <;> simp
theorem trim_ind (l : Bs) : (trimLeftS l [32, 9]).length = l.length - ind l := by
  have he : ∀ b : UInt8, [32, 9].contains b = isb b := fun b => by simp [isb, List.contains, List.elem]; cases h : (b == 32) <;> cases h2 : (b == 9) <;> simp_all
  unfold trimLeftS
  induction l with
  | nil => rfl
  | cons b l ih =>
    rw [ind_cons, List.dropWhile_cons, he b]
    split
    · rw [ih]; simp
    · simp
/-- The place at which the blanks end, byte by byte. -/
theorem ind_at (l : Bs) (n : Nat) (h : n ≤ l.length) (h1 : ∀ j, j < n → ∃ b, l[j]? = some b ∧ isb b = true) (h2 : ∀ b, l[n]? = some b → isb b = false) : ind l = n := by
  induction l generalizing n with
  | nil => simp at h; subst h; rfl
  | cons b l ih =>
    rw [ind_cons]
    cases n with
    | zero =>
      have := h2 b (by simp)
      simp [this]
    | succ n =>
      obtain ⟨c, hc, hb⟩ := h1 0 (by omega)
      simp only [List.getElem?_cons_zero, Option.some.injEq] at hc
      subst hc
      rw [if_pos hb, ih n (by simpa using h) (fun j hj => by have := h1 (j + 1) (by omega); simpa using this) (fun b hb => h2 b (by simpa using hb))]

/-- The least of what the lines that have something else are moved in by. -/
def lo (acc : Option Nat) (l : Bs) : Option Nat :=
  if ind l < l.length then (match acc with | none => some (ind l) | some m => some (min m (ind l))) else acc
def least (r : List Bs) : Option Nat := r.foldl lo none
/-- What the model leaves of a line, and what the program does. -/
def cutS : Option Nat → Bs → Bs
  | none, l => l
  | some m, l => l.drop (min (ind l) m)
def cutI : Option Nat → Bs → Bs
  | none, _ => []
  | some m, l => l.drop (min m l.length)
def rstrip (xs : List Bs) : List Bs := (xs.reverse.dropWhile blank).reverse
def strip (xs : List Bs) : List Bs := rstrip (xs.dropWhile blank)
def cutAll (c : Bs → Bs) : List Bs → List Bs
  | [] => []
  | x :: r => x :: r.map c
/-- The text of a block. -/
def bv (l : Bs) : Bs := join (strip (cutAll (cutS (least (ln l).tail)) (ln l))) [10]

theorem lo_some (m : Nat) (l : Bs) : ∃ k, lo (some m) l = some k ∧ k ≤ m := by
  unfold lo; split
  · exact ⟨_, rfl, Nat.min_le_left _ _⟩
  · exact ⟨m, rfl, Nat.le_refl _⟩
theorem fold_some (r : List Bs) : ∀ m, ∃ k, r.foldl lo (some m) = some k ∧ k ≤ m ∧ ∀ l ∈ r, ind l < l.length → k ≤ ind l := by
  induction r with
  | nil => exact fun m => ⟨m, rfl, Nat.le_refl _, by simp⟩
  | cons x r ih =>
    intro m
    obtain ⟨k, hk, hle⟩ := lo_some m x
    obtain ⟨j, hj, hj2, hj3⟩ := ih k
    refine ⟨j, by rw [List.foldl_cons, hk, hj], by omega, ?_⟩
    intro l hl hlt
    rcases List.mem_cons.1 hl with rfl | hl
    · simp only [lo, hlt, if_true, Option.some.injEq] at hk
      omega
    · exact hj3 l hl hlt
theorem fold_none (r : List Bs) : (r.foldl lo none = none ∧ ∀ l ∈ r, ¬ ind l < l.length) ∨ (∃ k, r.foldl lo none = some k ∧ ∀ l ∈ r, ind l < l.length → k ≤ ind l) := by
  induction r with
  | nil => exact .inl ⟨rfl, by simp⟩
  | cons x r ih =>
    by_cases hx : ind x < x.length
    · right
      have e : lo none x = some (ind x) := by simp [lo, hx]
      obtain ⟨k, hk, hle, hm⟩ := fold_some r (ind x)
      refine ⟨k, by rw [List.foldl_cons, e, hk], ?_⟩
      intro l hl hlt
      rcases List.mem_cons.1 hl with rfl | hl
      · exact hle
      · exact hm l hl hlt
    · have e : lo none x = none := by simp [lo, hx]
      rcases ih with ⟨h1, h2⟩ | ⟨k, h1, h2⟩
      · left
        refine ⟨by rw [List.foldl_cons, e, h1], ?_⟩
        intro l hl
        rcases List.mem_cons.1 hl with rfl | hl
        · exact hx
        · exact h2 l hl
      · right
        refine ⟨k, by rw [List.foldl_cons, e, h1], ?_⟩
        intro l hl hlt
        rcases List.mem_cons.1 hl with rfl | hl
        · exact absurd hlt hx
        · exact h2 l hl hlt

theorem rstrip_blank (x : Bs) (r : List Bs) (h : ∀ l ∈ r, blank l = true) : strip (x :: r) = if blank x = true then [] else [x] := by
  have hall : ∀ ys : List Bs, (∀ l ∈ ys, blank l = true) → ys.dropWhile blank = [] := by
    intro ys hy
    induction ys with
    | nil => rfl
    | cons y ys ih => rw [List.dropWhile_cons, if_pos (hy y (by simp)), ih (fun l hl => hy l (by simp [hl]))]
  unfold strip rstrip
  rw [List.dropWhile_cons]
  split
  · rw [hall r h]; rfl
  · rename_i hx
    have : (x :: r).reverse.dropWhile blank = [x] := by
      rw [List.reverse_cons]
      have h2 : ∀ l ∈ r.reverse, blank l = true := fun l hl => h l (List.mem_reverse.1 hl)
      revert h2
      generalize r.reverse = q
      intro h2
      induction q with
      | nil => simp [hx]
      | cons y q ih => rw [List.cons_append, List.dropWhile_cons, if_pos (h2 y (by simp)), ih (fun l hl => h2 l (by simp [hl]))]
    rw [this]; rfl
theorem blank_nil : blank [] = true := by decide
/-- The model's way and the program's come to the same. -/
theorem strip_cut (xs : List Bs) : strip (cutAll (cutI (least xs.tail)) xs) = strip (cutAll (cutS (least xs.tail)) xs) := by
  cases xs with
  | nil => rfl
  | cons x r =>
    simp only [cutAll, List.tail_cons]
    rcases fold_none r with ⟨h1, h2⟩ | ⟨k, h1, h2⟩
    · rw [show least r = none from h1]
      rw [rstrip_blank x (r.map (cutI none)) (by simp only [List.mem_map]; rintro l ⟨a, -, rfl⟩; exact blank_nil), rstrip_blank x (r.map (cutS none)) (by
        simp only [List.mem_map]; rintro l ⟨a, ha, rfl⟩
        have := h2 a ha; have := ind_le a
        exact decide_eq_true (show ind a = a.length by omega))]
    · rw [show least r = some k from h1]
      have : r.map (cutI (some k)) = r.map (cutS (some k)) := by
        apply List.map_congr_left
        intro l hl
        simp only [cutI, cutS]
        have := ind_le l
        by_cases hlt : ind l < l.length
        · have := h2 l hl hlt
          rw [Nat.min_eq_left (by omega), Nat.min_eq_right (by omega)]
        · rw [show ind l = l.length by omega, Nat.min_comm]
      rw [this]
theorem bv_I (l : Bs) : bv l = join (strip (cutAll (cutI (least (ln l).tail)) (ln l))) [10] := by rw [bv, strip_cut]
end Go.Proofs.YtaafgcnkedaonaaDoor
