/- The text between a block's quotes: plain facts: what the model keeps of it and what the program does are the same, where the block ends with the text; which bytes are barred. -/
import Derived.Test.YtaafgcnkedaonaaDoorBw
import Derived.Test.YtaafgcnkedaonaaDoorBe
import Derived.Test.YtaafgcnkedaonaaDoorU
import Derived.Laws.RangeAny
import Derived.Laws.RangeString
import Derived.Shelf.GgClosure.StringsIndexFunc
namespace Go.Proofs.YtaafgcnkedaonaaDoor
open Go Go.Lib

def q4 : Bs := [92, 34, 34, 34]
/-- What the model keeps of a text that ends with three quotes: no sign that stands ahead of three quotes. -/
def rs : Bs → Bs
  | [] => []
  | b :: r => if r.length < 3 then [] else if b = 92 ∧ q3.isPrefixOf r = true then rs r else b :: rs r

theorem be_end : ∀ (n i : Nat) (l : Bs), l.length ≤ n → be 0 i l = (i : Int) + l.length → 3 ≤ l.length ∧ l.drop (l.length - 3) = q3
  | 0, i, l, h, he => by
    have : l = [] := List.length_eq_zero_iff.1 (by omega)
    subst this; simp [be] at he
  | n + 1, i, [], h, he => by simp [be] at he
  | n + 1, i, b :: r, h, he => by
    simp only [List.length_cons] at h he
    rw [be] at he
    split at he
    · rename_i hq
      have hl : r.length = 2 := by omega
      obtain ⟨t, ht⟩ := List.isPrefixOf_iff_prefix.1 hq
      have : t = [] := List.length_eq_zero_iff.1 (by have := congrArg List.length ht; simp [q3] at this; omega)
      subst this
      rw [List.append_nil] at ht
      refine ⟨by simp; omega, ?_⟩
      rw [List.length_cons, hl]; exact ht.symm
    · split at he
      · rename_i hb
        obtain ⟨t, ht⟩ := List.isPrefixOf_iff_prefix.1 hb.2
        rw [be_skip] at he
        have e3 : r.drop 3 = t := by rw [← ht]; rfl
        have el : r.length = 3 + t.length := by rw [← ht]; simp [q3]; omega
        rw [e3] at he
        have ih := be_end n (i + 1 + 3) t (by omega) (by omega)
        refine ⟨by simp; omega, ?_⟩
        rw [List.length_cons, show r.length + 1 - 3 = (t.length - 3) + 3 + 1 by omega, List.drop_succ_cons, ← ht]
        show (34 :: 34 :: 34 :: t).drop (t.length - 3 + 3) = q3
        rw [show t.length - 3 + 3 = (t.length - 3) + 1 + 1 + 1 by omega, List.drop_succ_cons, List.drop_succ_cons, List.drop_succ_cons]
        exact ih.2
      · have ih := be_end n (i + 1) r (by omega) (by omega)
        refine ⟨by simp; omega, ?_⟩
        rw [List.length_cons, show r.length + 1 - 3 = (r.length - 3) + 1 by omega, List.drop_succ_cons]
        exact ih.2

theorem rs_keep {b : UInt8} {r : Bs} (h : ¬ r.length < 3) (hb : ¬ (b = 92 ∧ q3.isPrefixOf r = true)) : rs (b :: r) = b :: rs r := by rw [rs, if_neg h, if_neg hb]
theorem rs_drop {b : UInt8} {r : Bs} (h : ¬ r.length < 3) (hb : b = 92 ∧ q3.isPrefixOf r = true) : rs (b :: r) = rs r := by rw [rs, if_neg h, if_pos hb]
theorem rs_end {l : Bs} (h : l.length ≤ 3) : rs l = [] := by
  cases l with
  | nil => rfl
  | cons b r => rw [rs, if_pos (by simp at h; omega)]

theorem raw_same : ∀ (n i : Nat) (l : Bs), l.length ≤ n → be 0 i l = (i : Int) + l.length → replaceAll (l.take (l.length - 3)) q4 q3 = rs l
  | 0, i, l, h, he => by
    have : l = [] := List.length_eq_zero_iff.1 (by omega)
    subst this; simp [be] at he
  | n + 1, i, [], h, he => by simp [be] at he
  | n + 1, i, b :: r, h, he => by
    have h3 := (be_end (n + 1) i (b :: r) h he).1
    simp only [List.length_cons] at h he h3
    rw [be] at he
    split at he
    · have hl : r.length = 2 := by omega
      rw [rs_end (by simp; omega), List.length_cons, hl]
      exact replaceAll_nil (by decide) (by decide)
    · split at he
      · rename_i hb
        obtain ⟨t, ht⟩ := List.isPrefixOf_iff_prefix.1 hb.2
        rw [be_skip] at he
        have e3 : r.drop 3 = t := by rw [← ht]; rfl
        have el : r.length = 3 + t.length := by rw [← ht]; simp [q3]; omega
        rw [e3] at he
        have hee : be 0 (i + 1 + 3) t = ((i + 1 + 3 : Nat) : Int) + t.length := by omega
        have ih := raw_same n (i + 1 + 3) t (by omega) hee
        have ht3 := (be_end n (i + 1 + 3) t (by omega) hee).1
        rw [rs_drop (by omega) hb, List.length_cons, show r.length + 1 - 3 = (t.length - 3) + 1 + 1 + 1 + 1 by omega, hb.1, ← ht]
        show replaceAll ((92 :: 34 :: 34 :: 34 :: t).take _) q4 q3 = rs (34 :: 34 :: 34 :: t)
        rw [List.take_succ_cons, List.take_succ_cons, List.take_succ_cons, List.take_succ_cons]
        rw [replaceAll_hit (by decide) (by decide) (by simp [q4, List.isPrefixOf])]
        rw [rs_keep (by simp; omega) (by simp), rs_keep (by simp; omega) (by simp), rs_keep (by omega) (by simp), ← ih]
        rfl
      · rename_i hq hb
        have hee : be 0 (i + 1) r = ((i + 1 : Nat) : Int) + r.length := by omega
        have ih := raw_same n (i + 1) r (by omega) hee
        have hr3 := (be_end n (i + 1) r (by omega) hee).1
        rw [rs_keep (by omega) hb, List.length_cons, show r.length + 1 - 3 = (r.length - 3) + 1 by omega, List.take_succ_cons]
        have hnp : q4.isPrefixOf (b :: r.take (r.length - 3)) = false := by
          cases hp : q4.isPrefixOf (b :: r.take (r.length - 3)) with
          | false => rfl
          | true =>
            exfalso
            rw [show q4 = 92 :: q3 from rfl, List.isPrefixOf, Bool.and_eq_true, beq_iff_eq] at hp
            exact hb ⟨hp.1.symm, List.isPrefixOf_iff_prefix.2 ((List.isPrefixOf_iff_prefix.1 hp.2).trans (List.take_prefix _ _))⟩
        rw [replaceAll_miss (by decide) (by decide) hnp, ih]

/-- The bytes that are barred in a block. -/
def bar (b : UInt8) : Bool := decide (b.toNat < 32 ∧ b.toNat ≠ 9 ∧ b.toNat ≠ 10 ∧ b.toNat ≠ 13)
def barN (x : Nat) : Bool := decide (x < 32 ∧ x ≠ 9 ∧ x ≠ 10 ∧ x ≠ 13)

theorem bar_q3 : q3.any bar = false := by decide
theorem any_mid {l : Bs} (he : l.drop (l.length - 3) = q3) : l.any bar = (l.take (l.length - 3)).any bar := by
  conv => lhs; rw [← List.take_append_drop (l.length - 3) l]
  rw [List.any_append, he, bar_q3, Bool.or_false]

theorem dec_skip {s : ByteArray} {pos j : Nat} (h1 : pos < j) (h2 : j < pos + (Utf8.decode s pos).2) : 128 ≤ bt s j := by
  rw [decode_at] at h2
  obtain ⟨k, rfl⟩ : ∃ k, j = pos + (k + 1) := ⟨j - pos - 1, by omega⟩
  have h3 : k + 1 < (decodeN (s.size - pos) (s.get! pos).toNat (s.get! (pos + 1)).toNat (s.get! (pos + 2)).toNat (s.get! (pos + 3)).toNat).2 := by omega
  clear h2 h1
  rw [bt]
  revert h3
  unfold decodeN
  intro h3
  split at h3
  · simp at h3
  · split at h3
    · split at h3
      · obtain rfl : k = 0 := by simp at h3; omega
        show 128 ≤ (s.get! (pos + 1)).toNat; omega
      · simp at h3
    · split at h3
      · split at h3
        · simp at h3
          rcases (by omega : k = 0 ∨ k = 1) with rfl | rfl
          · show 128 ≤ (s.get! (pos + 1)).toNat; omega
          · show 128 ≤ (s.get! (pos + 2)).toNat; omega
        · simp at h3
      · split at h3
        · split at h3
          · simp at h3
            rcases (by omega : k = 0 ∨ k = 1 ∨ k = 2) with rfl | rfl | rfl
            · show 128 ≤ (s.get! (pos + 1)).toNat; omega
            · show 128 ≤ (s.get! (pos + 2)).toNat; omega
            · show 128 ≤ (s.get! (pos + 3)).toNat; omega
          · simp at h3
        · simp at h3

theorem bar_bt {s : ByteArray} {i : Nat} (h : i < s.size) : bar s[i] = barN (bt s i) := by rw [bar, barN, bt_eq s i h]
theorem any_at {s : ByteArray} {i : Nat} (h : i < s.size) : ((ls s).drop i).any bar = (barN (bt s i) || ((ls s).drop (i + 1)).any bar) := by
  rw [show (ls s).drop i = s[i] :: (ls s).drop (i + 1) from drop_at h, List.any_cons, bar_bt h]
theorem any_end {s : ByteArray} {i : Nat} (h : s.size ≤ i) : ((ls s).drop i).any bar = false := by rw [show (ls s).drop i = [] from drop_end h]; rfl
theorem any_skip (s : ByteArray) : ∀ (k i : Nat), (∀ j, i ≤ j → j < i + k → 128 ≤ bt s j) → ((ls s).drop i).any bar = ((ls s).drop (i + k)).any bar
  | 0, i, _ => rfl
  | k + 1, i, h => by
    have ih := any_skip s k (i + 1) (fun j h1 h2 => h j (by omega) (by omega))
    rw [show i + (k + 1) = i + 1 + k by omega, ← ih]
    by_cases hi : i < s.size
    · rw [any_at hi]
      have := h i (Nat.le_refl _) (by omega)
      simp [barN]; omega
    · rw [any_end (by omega), any_end (by omega)]
theorem idx_bar (s : ByteArray) : ∀ (f pos : Nat), s.size ≤ pos + f → (decide (0 ≤ idxFuncFrom barN true s f pos)) = ((ls s).drop pos).any bar
  | 0, pos, h => by rw [any_end (by omega), idxFuncFrom]; rfl
  | f + 1, pos, h => by
    rw [idxFuncFrom]
    by_cases hp : pos < s.size
    · rw [if_pos hp]
      have hw := dec_bound s pos hp
      have hbe := bt_eq s pos hp
      have hsk := any_skip s ((Utf8.decode s pos).2 - 1) (pos + 1) (fun j h1 h2 => dec_skip (pos := pos) (by omega) (by omega))
      rw [show pos + 1 + ((Utf8.decode s pos).2 - 1) = pos + (Utf8.decode s pos).2 by omega] at hsk
      rw [any_at hp, hsk]
      have hbb : barN (Utf8.decode s pos).1 = barN (bt s pos) := by
        by_cases ha : (s[pos]).toNat < 128
        · rw [decode_ascii s pos hp ha, hbe]
        · have := (decode_high s pos hp (by omega)).1
          have e1 : barN (Utf8.decode s pos).1 = false := by simp [barN]; omega
          have e2 : barN (bt s pos) = false := by simp [barN]; omega
          rw [e1, e2]
      rw [hbb]
      cases hb : barN (bt s pos) with
      | true => simp
      | false => simp only [Bool.false_eq_true, if_false, Bool.false_or]; exact idx_bar s f _ (by omega)
    · rw [if_neg hp, any_end (by omega)]; rfl
theorem idx_any (s : ByteArray) : (decide (0 ≤ idxFunc barN true s)) = (ls s).any bar := by
  have := idx_bar s s.size 0 (by omega)
  rw [List.drop_zero] at this; exact this
end Go.Proofs.YtaafgcnkedaonaaDoor
