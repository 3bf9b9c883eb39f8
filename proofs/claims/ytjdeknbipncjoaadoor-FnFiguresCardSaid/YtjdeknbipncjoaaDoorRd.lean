/- What is proved: which number a text of figures is read as, and that the library's reading (Lib.atoiAll) and the figures (Lib.decDigits) agree on it; lists and numbers alone. Used by the proof of FnFiguresCardSaid. -/
import Derived.Lib.ItoaMem
import Derived.Lib.AtoiAll
namespace Go.Proofs.YtjdeknbipncjoaaDoor
namespace Rd

def isD (c : UInt8) : Bool := decide (48 ≤ c.toNat ∧ c.toNat ≤ 57)
def allD (l : List UInt8) : Bool := l.all isD
def val (a : Nat) (l : List UInt8) : Nat := l.foldl (fun n c => 10 * n + (c.toNat - 48)) a
def R (l : List UInt8) : Int × Bool := if allD l = true ∧ val 0 l ≤ 1000000000 ∧ Lib.decDigits (val 0 l) = l then ((val 0 l : Int), true) else (0, false)

theorem val_snoc (a : Nat) (l : List UInt8) (c : UInt8) : val a (l ++ [c]) = 10 * val a l + (c.toNat - 48) := by simp [val, List.foldl_append]
theorem val_cons (a : Nat) (l : List UInt8) (c : UInt8) : val a (c :: l) = val (10 * a + (c.toNat - 48)) l := by unfold val; rw [List.foldl_cons]
theorem val_ge (l : List UInt8) : ∀ a, a ≤ val a l := by
  induction l with
  | nil => intro a; exact Nat.le_refl _
  | cons c l ih => intro a; rw [val_cons]; have := ih (10 * a + (c.toNat - 48)); omega
theorem allD_snoc (l : List UInt8) (c : UInt8) : allD (l ++ [c]) = (allD l && isD c) := by simp [allD, List.all_append]

theorem dig_nat (d : Nat) (h : d < 10) : (UInt8.ofNat (48 + d)).toNat = 48 + d := by rw [UInt8.toNat_ofNat']; omega
theorem dd (n : Nat) : allD (Lib.decDigits n) = true ∧ val 0 (Lib.decDigits n) = n := by
  induction n using Nat.strongRecOn with
  | ind n ih =>
    by_cases h : n < 10
    · rw [Lib.decDigits_one h]
      have := dig_nat n h
      refine ⟨by simp [allD, isD]; omega, ?_⟩
      show 10 * 0 + ((UInt8.ofNat (48 + n)).toNat - 48) = n
      omega
    · rw [Lib.decDigits, dif_neg h]
      obtain ⟨h1, h2⟩ := ih (n / 10) (by omega)
      have := dig_nat (n % 10) (by omega)
      refine ⟨?_, ?_⟩
      · rw [allD_snoc, h1]; simp [isD]; omega
      · rw [val_snoc, h2, this]; omega
theorem dd_len (k : Nat) : ∀ n, n < 10 ^ (k + 1) → (Lib.decDigits n).length ≤ k + 1 := by
  induction k with
  | zero => intro n h; rw [Lib.decDigits_one (by omega)]; simp
  | succ k ih =>
    intro n h
    by_cases h10 : n < 10
    · rw [Lib.decDigits_one h10]; simp
    · rw [Lib.decDigits, dif_neg h10, List.length_append]
      have := ih (n / 10) (by rw [Nat.pow_succ] at h; omega)
      simp; omega
theorem dd_ne (n : Nat) : Lib.decDigits n ≠ [] := by
  intro h
  have := Lib.decDigits_length n
  rw [h] at this
  have := Lib.nDigits_pos n
  simp at *; omega

theorem parse (l : List UInt8) : ∀ a, allD l = true → val a l ≤ 1000000000000000000 → Lib.parseUint10 a l = .ok (val a l) := by
  induction l with
  | nil => intro a _ _; rfl
  | cons c l ih =>
    intro a hd hv
    simp only [allD, List.all_cons, Bool.and_eq_true] at hd
    obtain ⟨hc, hl⟩ := hd
    have hc' : 48 ≤ c.toNat ∧ c.toNat ≤ 57 := by simpa [isD] using hc
    rw [val_cons] at hv ⊢
    have hg := val_ge l (10 * a + (c.toNat - 48))
    rw [Lib.parseUint10, if_pos hc', if_neg (by omega), if_neg (by omega), show a * 10 + (c.toNat - 48) = 10 * a + (c.toNat - 48) from by omega]
    exact ih _ hl hv
theorem atoi_dd (n : Nat) (h : n ≤ 1000000000) : Lib.atoiAll (Lib.decDigits n) = .ok (n : Int) := by
  obtain ⟨h1, h2⟩ := dd n
  have hne := dd_ne n
  have hp : Lib.parseUint10 0 (Lib.decDigits n) = .ok n := by
    have := parse _ 0 h1 (by rw [h2]; omega)
    rw [h2] at this; exact this
  cases hl : Lib.decDigits n with
  | nil => exact absurd hl hne
  | cons c r =>
    rw [hl] at h1 hp
    have hc : 48 ≤ c.toNat ∧ c.toNat ≤ 57 := by
      simp only [allD, List.all_cons, Bool.and_eq_true] at h1
      simpa [isD] using h1.1
    have c1 : ¬ (c.toNat = 43 ∨ c.toNat = 45) := by omega
    have c2 : ¬ c.toNat = 45 := by omega
    have hm : Lib.parseMag (c :: r) = .ok n := by unfold Lib.parseMag; rw [if_neg (by simp)]; exact hp
    unfold Lib.atoiAll
    simp only [if_neg c1, hm]
    rw [if_neg (by omega), if_neg (by omega), if_neg c2]

theorem R_dd (n : Nat) (h : n ≤ 1000000000) : R (Lib.decDigits n) = ((n : Int), true) := by
  obtain ⟨h1, h2⟩ := dd n
  unfold R; rw [if_pos ⟨h1, by rw [h2]; exact h, by rw [h2]⟩, h2]
theorem R_cases (l : List UInt8) : R l = (0, false) ∨ ∃ n : Nat, n ≤ 1000000000 ∧ l = Lib.decDigits n := by
  unfold R
  by_cases h : allD l = true ∧ val 0 l ≤ 1000000000 ∧ Lib.decDigits (val 0 l) = l
  · exact .inr ⟨val 0 l, h.2.1, h.2.2.symm⟩
  · rw [if_neg h]; exact .inl rfl
theorem R_long {l : List UInt8} (h : 10 < l.length) : R l = (0, false) := by
  rcases R_cases l with h0 | ⟨n, hn, rfl⟩
  · exact h0
  · have := dd_len 9 n (by omega); omega
theorem R_sign {l : List UInt8} (k : Nat) (hk : k < l.length) (h : ¬ (48 ≤ (l[k]).toNat ∧ (l[k]).toNat ≤ 57)) : R l = (0, false) := by
  unfold R
  rw [if_neg]
  rintro ⟨h1, _⟩
  unfold allD at h1
  rw [List.all_eq_true] at h1
  have := h1 l[k] (List.getElem_mem hk)
  exact h (by simpa [isD] using this)
theorem R_great {l : List UInt8} (h : 1000000000 < val 0 l) : R l = (0, false) := by unfold R; rw [if_neg (fun x => by omega)]
theorem R_other {l : List UInt8} (h : Lib.decDigits (val 0 l) ≠ l) : R l = (0, false) := by unfold R; rw [if_neg (fun x => h x.2.2)]
theorem R_yes {l : List UInt8} (h0 : allD l = true) (h1 : val 0 l ≤ 1000000000) (h2 : Lib.decDigits (val 0 l) = l) : R l = ((val 0 l : Int), true) := by unfold R; rw [if_pos ⟨h0, h1, h2⟩]
theorem R_bad {l : List UInt8} (h : ∀ v, Lib.atoiAll l ≠ .ok v) : R l = (0, false) := by
  rcases R_cases l with h0 | ⟨n, hn, rfl⟩
  · exact h0
  · exact absurd (atoi_dd n hn) (h _)
theorem R_out {l : List UInt8} {v : Int} (h : Lib.atoiAll l = .ok v) (hv : v < 0 ∨ 1000000000 < v) : R l = (0, false) := by
  rcases R_cases l with h0 | ⟨n, hn, rfl⟩
  · exact h0
  · rw [atoi_dd n hn] at h
    injection h with h
    omega
theorem R_not {l : List UInt8} {v : Int} (h : Lib.atoiAll l = .ok v) (h0 : 0 ≤ v) (hne : Lib.itoa v ≠ l) : R l = (0, false) := by
  rcases R_cases l with hc | ⟨n, hn, rfl⟩
  · exact hc
  · rw [atoi_dd n hn] at h
    injection h with h
    subst h
    exact absurd (Lib.itoa_nonneg n) hne
theorem R_ok {l : List UInt8} {v : Int} (h0 : 0 ≤ v) (h1 : v ≤ 1000000000) (he : Lib.itoa v = l) : R l = (v, true) := by
  obtain ⟨n, rfl⟩ := Int.eq_ofNat_of_zero_le h0
  rw [Lib.itoa_nonneg] at he
  subst he
  exact R_dd n (by omega)
theorem val_lt (l : List UInt8) : ∀ a b, allD l = true → a < b → val a l < b * 10 ^ l.length := by
  induction l with
  | nil => intro a b _ h; simpa [val] using h
  | cons c l ih =>
    intro a b hd h
    simp only [allD, List.all_cons, Bool.and_eq_true] at hd
    have hc : 48 ≤ c.toNat ∧ c.toNat ≤ 57 := by simpa [isD] using hd.1
    rw [val_cons, List.length_cons, Nat.pow_succ, Nat.mul_comm (10 ^ l.length), ← Nat.mul_assoc]
    exact ih _ _ hd.2 (by omega)
end Rd
end Go.Proofs.YtjdeknbipncjoaaDoor
