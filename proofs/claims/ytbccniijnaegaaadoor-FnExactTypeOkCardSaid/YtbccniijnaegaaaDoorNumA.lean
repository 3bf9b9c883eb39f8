/- What is proved: how whole numbers, others and names are told apart, as plain functions of a text's bytes; that the two ways in which they are told (the model's and the program's) agree; lists and numbers alone. Used by the proofs of FnExactNameOk, FnExactIntOk, FnExactFloatOk, FnExactFits32 and FnNumbers. -/
import Derived.WalkKit
namespace Go.Proofs.YtbccniijnaegaaaDoor

/-- The byte at a place; -1 where there is none. -/
def bt (s : ByteArray) (k : Nat) : Int := match s.data.toList[k]? with
  | some c => (c.toNat : Int)
  | none => -1
theorem bt_at (s : ByteArray) (k : Nat) (h : k < s.size) : bt s k = (s[k].toNat : Int) := by
  unfold bt
  rw [List.getElem?_eq_getElem (by simpa using h)]
  rfl
theorem bt_out (s : ByteArray) (k : Nat) (h : s.size ≤ k) : bt s k = -1 := by
  unfold bt
  rw [List.getElem?_eq_none (by simpa using h)]
theorem bt_lt {s : ByteArray} {k : Nat} (h : 0 ≤ bt s k) : k < s.size := by
  by_cases hk : k < s.size
  · exact hk
  · rw [bt_out s k (by omega)] at h; omega

def isF (x : Int) : Bool := decide (48 ≤ x) && decide (x ≤ 57)
theorem isF_yes {x : Int} (h0 : 48 ≤ x) (h1 : x ≤ 57) : isF x = true := by simp [isF, h0, h1]
theorem isF_no {x : Int} (h : x < 48 ∨ 57 < x) : isF x = false := by
  cases hb : isF x with
  | false => rfl
  | true => simp [isF] at hb; omega
theorem isF_iff {x : Int} : isF x = true ↔ 48 ≤ x ∧ x ≤ 57 := by simp [isF]

/-- The place behind figures. -/
def run (s : ByteArray) (k : Nat) : Nat := if h : k < s.size ∧ isF (bt s k) = true then run s (k + 1) else k
termination_by s.size - k
decreasing_by omega
theorem run_yes {s : ByteArray} {k : Nat} (h : isF (bt s k) = true) : run s k = run s (k + 1) := by
  conv => lhs; rw [run]
  rw [dif_pos ⟨bt_lt (by have := isF_iff.1 h; omega), h⟩]
theorem run_no {s : ByteArray} {k : Nat} (h : isF (bt s k) = false) : run s k = k := by
  rw [run, dif_neg (fun x => by rw [x.2] at h; cases h)]
theorem run_out {s : ByteArray} {k : Nat} (h : s.size ≤ k) : run s k = k := by
  rw [run, dif_neg (fun x => by omega)]
theorem run_ge (s : ByteArray) : ∀ n k, s.size - k ≤ n → k ≤ run s k ∧ (k ≤ s.size → run s k ≤ s.size) := by
  intro n
  induction n with
  | zero => intro k h; rw [run_out (by omega)]; exact ⟨Nat.le_refl _, fun h => h⟩
  | succ n ih =>
    intro k h
    cases hf : isF (bt s k) with
    | false => rw [run_no hf]; exact ⟨Nat.le_refl _, fun h => h⟩
    | true =>
      rw [run_yes hf]
      have hk : k < s.size := bt_lt (by have := isF_iff.1 hf; omega)
      have := ih (k + 1) (by omega)
      exact ⟨by omega, fun _ => this.2 (by omega)⟩
theorem run_le (s : ByteArray) (k : Nat) : k ≤ run s k := (run_ge s _ k (Nat.le_refl _)).1
theorem run_size (s : ByteArray) (k : Nat) (h : k ≤ s.size) : run s k ≤ s.size := (run_ge s _ k (Nat.le_refl _)).2 h
theorem run_eq {s : ByteArray} {k : Nat} : run s k = k ↔ isF (bt s k) = false := by
  cases hf : isF (bt s k) with
  | false => exact ⟨fun _ => rfl, fun _ => run_no hf⟩
  | true =>
    refine ⟨fun h => ?_, fun h => by cases h⟩
    have := run_le s (k + 1)
    rw [run_yes hf] at h; omega
/-- Behind the figures there is none. -/
theorem run_end (s : ByteArray) : ∀ n k, s.size - k ≤ n → isF (bt s (run s k)) = false := by
  intro n
  induction n with
  | zero => intro k h; rw [run_out (by omega), bt_out s k (by omega)]; rfl
  | succ n ih =>
    intro k h
    cases hf : isF (bt s k) with
    | false => rw [run_no hf, hf]
    | true =>
      rw [run_yes hf]
      have hk : k < s.size := bt_lt (by have := isF_iff.1 hf; omega)
      exact ih (k + 1) (by omega)
/-- Up to the end of figures each is one. -/
theorem run_all (s : ByteArray) : ∀ n k, s.size - k ≤ n → ∀ j, k ≤ j → j < run s k → isF (bt s j) = true := by
  intro n
  induction n with
  | zero => intro k h j h1 h2; rw [run_out (by omega)] at h2; omega
  | succ n ih =>
    intro k h j h1 h2
    cases hf : isF (bt s k) with
    | false => rw [run_no hf] at h2; omega
    | true =>
      have hk : k < s.size := bt_lt (by have := isF_iff.1 hf; omega)
      by_cases hj : j = k
      · rw [hj]; exact hf
      · rw [run_yes hf] at h2
        exact ih (k + 1) (by omega) j (by omega) h2

def fst (s : ByteArray) : Nat := if bt s 0 = 45 then 1 else 0
theorem fst_le (s : ByteArray) : fst s ≤ s.size := by
  unfold fst
  split
  · exact bt_lt (by omega)
  · omega
/-- The model's: the place behind a whole number; 0 where there is none. -/
def lI (s : ByteArray) : Nat := if run s (fst s) = fst s ∨ bt s (fst s) = 48 ∧ fst s + 1 < run s (fst s) then 0 else run s (fst s)
/-- The program's: a nought is a whole number by itself. -/
def aW (s : ByteArray) : Nat := if run s (fst s) = fst s then 0 else if bt s (fst s) = 48 then fst s + 1 else run s (fst s)
def aF (s : ByteArray) (k : Nat) : Nat := if bt s k = 46 then (if run s (k + 1) = k + 1 then k else run s (k + 1)) else k
def eS (s : ByteArray) (k : Nat) : Nat := if bt s (k + 1) = 43 ∨ bt s (k + 1) = 45 then k + 2 else k + 1
def aE (s : ByteArray) (k : Nat) : Nat := if bt s k = 101 ∨ bt s k = 69 then (if run s (eS s k) = eS s k then k else run s (eS s k)) else k
def iOk (s : ByteArray) : Bool := decide (s.size ≤ 40 ∧ 0 < s.size ∧ lI s = s.size)
def fOk (s : ByteArray) : Bool := decide (s.size ≤ 40 ∧ lI s ≠ 0 ∧ lI s ≠ s.size ∧ aE s (aF s (lI s)) = s.size)
def kd (s : ByteArray) : Int := if 40 < s.size then 0 else if aW s = 0 then 0 else if aW s = s.size then 1 else if aE s (aF s (aW s)) = s.size then 2 else 0

theorem aF_size (s : ByteArray) (k : Nat) (h : k ≤ s.size) : aF s k ≤ s.size := by
  unfold aF
  split
  · split
    · exact h
    · next h1 _ => exact run_size s _ (bt_lt (by omega))
  · exact h
theorem lI_size (s : ByteArray) : lI s ≤ s.size := by
  unfold lI
  split
  · omega
  · exact run_size s _ (fst_le s)
theorem aW_size (s : ByteArray) : aW s ≤ s.size := by
  unfold aW
  split
  · omega
  · next h =>
    split
    · next h2 => have := bt_lt (s := s) (k := fst s) (by omega); omega
    · exact run_size s _ (fst_le s)
/-- Where the two part, the program stands ahead of a figure. -/
theorem aW_lI (s : ByteArray) : aW s = lI s ∨ lI s = 0 ∧ 0 < aW s ∧ isF (bt s (aW s)) = true := by
  unfold aW lI
  by_cases h1 : run s (fst s) = fst s
  · rw [if_pos h1, if_pos (.inl h1)]; exact .inl rfl
  · rw [if_neg h1]
    have hle := run_le s (fst s)
    by_cases h2 : bt s (fst s) = 48
    · rw [if_pos h2]
      have hr : run s (fst s) = run s (fst s + 1) := run_yes (isF_yes (by omega) (by omega))
      by_cases h3 : fst s + 1 < run s (fst s)
      · rw [if_pos (.inr ⟨h2, h3⟩)]
        refine .inr ⟨rfl, by omega, ?_⟩
        cases hf : isF (bt s (fst s + 1)) with
        | true => rfl
        | false => rw [hr, run_no hf] at h3; omega
      · rw [if_neg (by omega)]
        exact .inl (by omega)
    · rw [if_neg h2, if_neg (by omega)]; exact .inl rfl
theorem aF_stay {s : ByteArray} {k : Nat} (h : isF (bt s k) = true) : aF s k = k := by
  have := isF_iff.1 h
  unfold aF; rw [if_neg (by omega)]
theorem aE_stay {s : ByteArray} {k : Nat} (h : isF (bt s k) = true) : aE s k = k := by
  have := isF_iff.1 h
  unfold aE; rw [if_neg (by omega)]
theorem kd_int (s : ByteArray) : (kd s == 1) = iOk s := by
  unfold kd iOk
  by_cases h0 : 40 < s.size
  · rw [if_pos h0, decide_eq_false (by omega)]; rfl
  · rw [if_neg h0]
    rcases aW_lI s with h | ⟨h1, h2, h3⟩
    · rw [h]
      by_cases h4 : lI s = 0
      · rw [if_pos h4, decide_eq_false (by omega)]; rfl
      · rw [if_neg h4]
        by_cases h5 : lI s = s.size
        · rw [if_pos h5, decide_eq_true (by omega)]; rfl
        · rw [if_neg h5, decide_eq_false (by omega)]
          split <;> rfl
    · have := bt_lt (s := s) (k := aW s) (by have := isF_iff.1 h3; omega)
      rw [if_neg (by omega), if_neg (by omega), decide_eq_false (by omega)]
      split <;> rfl
theorem kd_float (s : ByteArray) : (kd s == 2) = fOk s := by
  unfold kd fOk
  by_cases h0 : 40 < s.size
  · rw [if_pos h0, decide_eq_false (by omega)]; rfl
  · rw [if_neg h0]
    rcases aW_lI s with h | ⟨h1, h2, h3⟩
    · rw [h]
      by_cases h4 : lI s = 0
      · rw [if_pos h4, decide_eq_false (fun x => x.2.1 h4)]; rfl
      · rw [if_neg h4]
        by_cases h5 : lI s = s.size
        · rw [if_pos h5, decide_eq_false (fun x => x.2.2.1 h5)]; rfl
        · rw [if_neg h5]
          by_cases h6 : aE s (aF s (lI s)) = s.size
          · rw [if_pos h6, decide_eq_true ⟨by omega, h4, h5, h6⟩]; rfl
          · rw [if_neg h6, decide_eq_false (fun x => h6 x.2.2.2)]; rfl
    · have := bt_lt (s := s) (k := aW s) (by have := isF_iff.1 h3; omega)
      rw [if_neg (by omega), if_neg (by omega), aF_stay h3, aE_stay h3, if_neg (by omega), decide_eq_false (fun x => x.2.1 h1)]; rfl

/-- A sign of a name. -/
def nS (x : Int) : Bool := (decide (97 ≤ x) && decide (x ≤ 122)) || (decide (65 ≤ x) && decide (x ≤ 90)) || decide (x = 95) || isF x
def nOk (s : ByteArray) : Bool := decide (0 < s.size ∧ s.size ≤ 30 ∧ isF (bt s 0) = false ∧ ∀ k, k < s.size → nS (bt s k) = true)
end Go.Proofs.YtbccniijnaegaaaDoor
