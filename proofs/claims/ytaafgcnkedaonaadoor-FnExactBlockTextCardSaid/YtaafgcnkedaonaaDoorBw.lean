/- Stripping, cutting and joining lines: plain facts that the walks of BlockValue use. -/
import Derived.Test.YtaafgcnkedaonaaDoorLi
namespace Go.Proofs.YtaafgcnkedaonaaDoor
open Go Go.Lib

theorem sp_mem_len : ∀ (l : Bs), ∀ x ∈ sp l, x.length ≤ l.length
  | [], x, h => by simp [sp] at h; simp [h]
  | b :: l, x, h => by
    have ih := sp_mem_len l
    rw [sp] at h
    split at h
    · rcases List.mem_cons.1 h with rfl | h
      · simp
      · have := ih x h; simp; omega
    · cases hs : sp l with
      | nil => exact absurd hs (sp_ne l)
      | cons y r =>
        rw [hs] at h ih
        simp only [glue, List.cons_append, List.nil_append] at h
        rcases List.mem_cons.1 h with rfl | h
        · have := ih y (by simp); simp; omega
        · have := ih x (by simp [h]); simp; omega
theorem ln_mem_len (l : Bs) (x : Bs) (h : x ∈ ln l) : x.length ≤ l.length := by
  have := sp_mem_len (nl l) x h; have h2 := n1_len l; rw [nl, n2_len] at this; omega

theorem rstrip_nil : rstrip [] = [] := rfl
theorem rstrip_blank1 (xs : List Bs) (y : Bs) (h : blank y = true) : rstrip (xs ++ [y]) = rstrip xs := by
  simp [rstrip, h]
theorem rstrip_full (xs : List Bs) (y : Bs) (h : blank y = false) : rstrip (xs ++ [y]) = xs ++ [y] := by
  simp [rstrip, h]
theorem strip_eq (M : List Bs) : strip M = rstrip (M.dropWhile blank) := rfl
theorem dw_step {M : List Bs} {f : Nat} (h : f < M.length) (hb : blank M[f] = true) : (M.drop f).dropWhile blank = (M.drop (f + 1)).dropWhile blank := by
  rw [List.drop_eq_getElem_cons h, List.dropWhile_cons, if_pos hb]
theorem dw_stop {M : List Bs} {f : Nat} (h : f < M.length) (hb : blank M[f] = false) : (M.drop f).dropWhile blank = M.drop f := by
  rw [List.drop_eq_getElem_cons h, List.dropWhile_cons, if_neg (by rw [hb]; simp)]
theorem win_next {M : List Bs} {f t : Nat} (hf : f ≤ t) (h : t < M.length) : (M.take (t + 1)).drop f = (M.take t).drop f ++ [M[t]] := by
  rw [List.take_succ_eq_append_getElem h, List.drop_append_of_le_length (by rw [List.length_take]; omega)]
theorem win_none (M : List Bs) (f : Nat) : (M.take f).drop f = [] := List.drop_eq_nil_of_le (by rw [List.length_take]; omega)

/-- A piece more. -/
def more (acc : Bs) (first : Bool) (y : Bs) : Bs := if first = true then y else acc ++ 10 :: y
theorem join_more (xs : List Bs) (y : Bs) : join (xs ++ [y]) [10] = if xs = [] then y else join xs [10] ++ 10 :: y := by
  cases xs with
  | nil => simp [join_one]
  | cons x r =>
    rw [if_neg (by simp), List.cons_append, join_cons, join_cons]
    simp [joinTail]
theorem join_small (B : Nat) : ∀ (xs : List Bs), (∀ x ∈ xs, x.length ≤ B) → (join xs [10]).length ≤ xs.length * (B + 1) := by
  intro xs
  cases xs with
  | nil => intro _; simp [join_nil]
  | cons x r =>
    intro h
    rw [join_length]
    have : ∀ ys : List Bs, (∀ x ∈ ys, x.length ≤ B) → lens ys ≤ ys.length * B := by
      intro ys
      induction ys with
      | nil => intro _; simp [lens]
      | cons y ys ih =>
        intro hy
        have h1 := ih (fun x hx => hy x (by simp [hx]))
        have h2 := hy y (by simp)
        simp only [lens, List.map_cons, List.sum_cons, List.length_cons] at h1 ⊢
        rw [Nat.succ_mul]; omega
    have h3 := this (x :: r) h
    simp only [List.length_cons, List.length_nil, Nat.zero_add, Nat.one_mul] at h3 ⊢
    rw [Nat.mul_succ]; omega

/-- The first lines but one cut, the others not yet. -/
def Cut (c : Bs → Bs) (i : Nat) (L M : List Bs) : Prop := M.length = L.length ∧ ∀ j : Nat, M[j]? = if 1 ≤ j ∧ j < i then (L[j]?).map c else L[j]?
theorem cut_start (c : Bs → Bs) (L : List Bs) : Cut c 1 L L := ⟨rfl, fun j => by rw [if_neg (by omega)]⟩
theorem cut_step {c : Bs → Bs} {i : Nat} {L M : List Bs} (h : Cut c i L M) (hi : 1 ≤ i) (hl : i < L.length) : Cut c (i + 1) L (M.set i (c L[i])) := by
  refine ⟨by rw [List.length_set]; exact h.1, fun j => ?_⟩
  rw [List.getElem?_set]
  by_cases e : i = j
  · subst e
    rw [if_pos rfl, if_pos (by rw [h.1]; exact hl), if_pos ⟨hi, by omega⟩, List.getElem?_eq_getElem hl]
    rfl
  · rw [if_neg e, h.2 j]
    by_cases h1 : 1 ≤ j ∧ j < i
    · rw [if_pos h1, if_pos ⟨h1.1, by omega⟩]
    · rw [if_neg h1, if_neg (by omega)]
theorem cut_at {c : Bs → Bs} {i : Nat} {L M : List Bs} (h : Cut c i L M) (hl : i < L.length) (hm : i < M.length) : M[i] = L[i] := by
  have := h.2 i
  rw [if_neg (by omega), List.getElem?_eq_getElem hl, List.getElem?_eq_getElem hm] at this
  exact Option.some.inj this
theorem cut_end {c : Bs → Bs} {i : Nat} {L M : List Bs} (h : Cut c i L M) (hl : L.length ≤ i) : M = cutAll c L := by
  apply List.ext_getElem?
  intro j
  rw [h.2 j]
  cases L with
  | nil => simp [cutAll]
  | cons x r =>
    cases j with
    | zero => simp [cutAll]
    | succ j =>
      simp only [cutAll, List.getElem?_cons_succ, List.getElem?_map]
      split
      · rfl
      · rename_i hj
        simp only [List.length_cons] at hl
        have : r[j]? = none := List.getElem?_eq_none (by omega)
        rw [this]; rfl
theorem cutAll_len (c : Bs → Bs) (L : List Bs) : (cutAll c L).length = L.length := by cases L <;> simp [cutAll]
theorem cutS_len (o : Option Nat) (l : Bs) : (cutS o l).length ≤ l.length := by cases o <;> simp [cutS]
theorem cutI_len (o : Option Nat) (l : Bs) : (cutI o l).length ≤ l.length := by cases o <;> simp [cutI]
theorem cutAll_small {c : Bs → Bs} {L : List Bs} {B : Nat} (hc : ∀ l, (c l).length ≤ l.length) (h : ∀ x ∈ L, x.length ≤ B) : ∀ x ∈ cutAll c L, x.length ≤ B := by
  cases L with
  | nil => simp [cutAll]
  | cons x r =>
    intro y hy
    rcases List.mem_cons.1 hy with rfl | hy
    · exact h y (by simp)
    · obtain ⟨a, ha, rfl⟩ := List.mem_map.1 hy
      exact Nat.le_trans (hc a) (h a (by simp [ha]))
/-- The least so far as a number: less than 0 where there is none. -/
def lI : Option Nat → Int
  | none => -1
  | some m => m
/-- The least so far as a number: the greatest int where there is none. -/
def lM : Option Nat → Int
  | none => 9223372036854775807
  | some m => m
theorem fold_step {T : List Bs} {j : Nat} {o : Option Nat} (h : j < T.length) : (T.drop j).foldl lo o = (T.drop (j + 1)).foldl lo (lo o T[j]) := by
  rw [List.drop_eq_getElem_cons h, List.foldl_cons]
theorem lo_blank {o : Option Nat} {l : Bs} (h : ¬ ind l < l.length) : lo o l = o := by unfold lo; rw [if_neg h]
theorem lo_none {l : Bs} (h : ind l < l.length) : lo none l = some (ind l) := by rw [lo, if_pos h]
theorem lo_less {m : Nat} {l : Bs} (h : ind l < l.length) (h2 : ind l < m) : lo (some m) l = some (ind l) := by
  rw [lo, if_pos h, Nat.min_eq_right (by omega)]
theorem lo_more {m : Nat} {l : Bs} (h : ¬ ind l < m) : lo (some m) l = some m := by
  rw [lo]; split
  · rw [Nat.min_eq_left (by omega)]
  · rfl
end Go.Proofs.YtaafgcnkedaonaaDoor
