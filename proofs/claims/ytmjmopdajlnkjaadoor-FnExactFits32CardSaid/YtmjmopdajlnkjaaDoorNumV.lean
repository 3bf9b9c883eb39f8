/- What is proved: which number a right text of figures is, and that the library's reading at 32 bits (Lib.parseIntB) and the model's sum of figures agree on whether it fits; lists and numbers alone. Used by the proofs of FnExactFits32CardSaid and FnNumbersCardSaid. -/
import Derived.Test.YtmjmopdajlnkjaaDoorNumA
import Derived.Lib.ParseIntB
namespace Go.Proofs.YtmjmopdajlnkjaaDoor

def isD (c : UInt8) : Bool := decide (48 ≤ c.toNat ∧ c.toNat ≤ 57)
def allD (l : List UInt8) : Bool := l.all isD
def val (a : Nat) (l : List UInt8) : Nat := l.foldl (fun n c => 10 * n + (c.toNat - 48)) a
theorem val_snoc (a : Nat) (l : List UInt8) (c : UInt8) : val a (l ++ [c]) = 10 * val a l + (c.toNat - 48) := by simp [val, List.foldl_append]
theorem val_cons (a : Nat) (l : List UInt8) (c : UInt8) : val a (c :: l) = val (10 * a + (c.toNat - 48)) l := by unfold val; rw [List.foldl_cons]
theorem val_ge (l : List UInt8) : ∀ a, a ≤ val a l := by
  induction l with
  | nil => intro a; exact Nat.le_refl _
  | cons c l ih => intro a; rw [val_cons]; have := ih (10 * a + (c.toNat - 48)); omega
theorem val_low (l : List UInt8) : ∀ a, a * 10 ^ l.length ≤ val a l := by
  induction l with
  | nil => intro a; simp [val]
  | cons c l ih =>
    intro a
    rw [val_cons, List.length_cons, Nat.pow_succ]
    have := ih (10 * a + (c.toNat - 48))
    have h2 : a * (10 ^ l.length * 10) ≤ (10 * a + (c.toNat - 48)) * 10 ^ l.length := by
      rw [Nat.mul_comm (10 ^ l.length), ← Nat.mul_assoc, Nat.mul_comm a 10]
      exact Nat.mul_le_mul_right _ (by omega)
    omega
theorem val_lt (l : List UInt8) : ∀ a b, allD l = true → a < b → val a l < b * 10 ^ l.length := by
  induction l with
  | nil => intro a b _ h; simpa [val] using h
  | cons c l ih =>
    intro a b hd h
    simp only [allD, List.all_cons, Bool.and_eq_true] at hd
    have hc : 48 ≤ c.toNat ∧ c.toNat ≤ 57 := by simpa [isD] using hd.1
    rw [val_cons, List.length_cons, Nat.pow_succ, Nat.mul_comm (10 ^ l.length), ← Nat.mul_assoc]
    exact ih _ _ hd.2 (by omega)
theorem parseM (M : Nat) (hM : M < 1844674407370955162) (l : List UInt8) : ∀ a, a ≤ M → allD l = true → Lib.parseUintM M a l = if val a l ≤ M then .ok (val a l) else .range := by
  induction l with
  | nil => intro a ha _; rw [Lib.parseUintM, if_pos (by exact ha)]; rfl
  | cons c l ih =>
    intro a ha hd
    simp only [allD, List.all_cons, Bool.and_eq_true] at hd
    have hc : 48 ≤ c.toNat ∧ c.toNat ≤ 57 := by simpa [isD] using hd.1
    rw [val_cons, Lib.parseUintM, if_pos hc, if_neg (by omega), show a * 10 + (c.toNat - 48) = 10 * a + (c.toNat - 48) from by omega]
    by_cases h : M < 10 * a + (c.toNat - 48)
    · rw [if_pos h]
      have := val_ge l (10 * a + (c.toNat - 48))
      rw [if_neg (by omega)]
    · rw [if_neg h]
      exact ih _ (by omega) hd.2

/-- The figures of a text without its signs. -/
def dg (l : List UInt8) : List UInt8 := l.filter (fun c => c.toNat != 45)
theorem dg_all {l : List UInt8} (h : allD l = true) : dg l = l := by
  unfold dg
  rw [List.filter_eq_self]
  intro c hc
  unfold allD at h
  rw [List.all_eq_true] at h
  have := h c hc
  simp only [isD, decide_eq_true_eq] at this
  simp; omega
theorem dg_minus {l : List UInt8} (h : allD l = true) : dg (45 :: l) = l := by
  have := dg_all h
  unfold dg at this ⊢
  rw [List.filter_cons_of_neg (by decide), this]

def lim (s : ByteArray) : Nat := if bt s 0 = 45 then 2147483648 else 2147483647
theorem lim_yes {s : ByteArray} (h : bt s 0 = 45) : lim s = 2147483648 := by unfold lim; rw [if_pos h]
theorem lim_no {s : ByteArray} (h : bt s 0 ≠ 45) : lim s = 2147483647 := by unfold lim; rw [if_neg h]
def t32 (s : ByteArray) : Bool := iOk s && decide (s.size ≤ 11 ∧ val 0 (dg s.data.toList) ≤ lim s)

theorem list_len (s : ByteArray) : s.data.toList.length = s.size := by rw [Array.length_toList]; rfl
theorem bt_list (s : ByteArray) (k : Nat) (h : k < s.data.toList.length) : bt s k = ((s.data.toList[k]).toNat : Int) := by
  unfold bt; rw [List.getElem?_eq_getElem h]

/-- What is right behind the sign: figures, no nought ahead of others. -/
def Right (ds : List UInt8) : Prop := allD ds = true ∧ ds ≠ [] ∧ (∀ c r, ds = c :: r → c.toNat = 48 → r = [])
theorem iOk_shape {s : ByteArray} (h : iOk s = true) : ∃ ds, Right ds ∧ (s.data.toList = ds ∧ bt s 0 ≠ 45 ∨ s.data.toList = 45 :: ds ∧ bt s 0 = 45) := by
  unfold iOk at h
  simp only [decide_eq_true_eq] at h
  obtain ⟨-, h0, hl⟩ := h
  have hlen := list_len s
  unfold lI at hl
  split at hl
  · omega
  · next hn =>
    have hall := run_all s _ (fst s) (Nat.le_refl _)
    rw [hl] at hall hn
    have hfl : fst s < s.size := by have := fst_le s; omega
    have hD : allD (s.data.toList.drop (fst s)) = true := by
      unfold allD
      rw [List.all_eq_true]
      intro c hc
      obtain ⟨j, hj, rfl⟩ := List.mem_iff_getElem.1 hc
      rw [List.length_drop] at hj
      have := hall (fst s + j) (by omega) (by omega)
      rw [bt_list s _ (by omega), isF_iff] at this
      rw [List.getElem_drop]
      simp only [isD, decide_eq_true_eq]; omega
    refine ⟨s.data.toList.drop (fst s), ⟨hD, ?_, ?_⟩, ?_⟩
    · intro e
      have := congrArg List.length e
      rw [List.length_drop] at this
      simp at this; omega
    · intro c r e hc
      have e1 : bt s (fst s) = 48 := by
        rw [bt_list s _ (by omega)]
        have : (s.data.toList.drop (fst s))[0]'(by rw [e]; simp) = c := by simp [e]
        rw [List.getElem_drop] at this
        simp only [Nat.add_zero] at this
        rw [this]; omega
      have := congrArg List.length e
      rw [List.length_drop] at this
      cases r with
      | nil => rfl
      | cons x y => simp at this; omega
    · by_cases hm : bt s 0 = 45
      · refine .inr ⟨?_, hm⟩
        have hf1 : fst s = 1 := by unfold fst; rw [if_pos hm]
        rw [hf1]
        cases hs : s.data.toList with
        | nil => rw [hs] at hlen; simp at hlen; omega
        | cons c r =>
          have : bt s 0 = (c.toNat : Int) := by unfold bt; rw [hs]; rfl
          have h45 : c = 45 := by
            apply UInt8.toNat_inj.1
            show c.toNat = 45
            omega
          rw [h45]; rfl
      · refine .inl ⟨?_, hm⟩
        have hf1 : fst s = 0 := by unfold fst; rw [if_neg hm]
        rw [hf1]; rfl

theorem right_low {ds : List UInt8} (h : Right ds) (h2 : 2 ≤ ds.length) : 10 ^ (ds.length - 1) ≤ val 0 ds := by
  obtain ⟨hD, -, hn⟩ := h
  cases ds with
  | nil => simp at h2
  | cons c r =>
    have hc : 48 ≤ c.toNat ∧ c.toNat ≤ 57 := by
      simp only [allD, List.all_cons, Bool.and_eq_true] at hD
      simpa [isD] using hD.1
    have h48 : c.toNat ≠ 48 := fun e => by have := hn c r rfl e; subst this; simp at h2
    rw [val_cons]
    have := val_low r (10 * 0 + (c.toNat - 48))
    have h3 : 1 * 10 ^ r.length ≤ (10 * 0 + (c.toNat - 48)) * 10 ^ r.length := Nat.mul_le_mul_right _ (by omega)
    simp only [List.length_cons, Nat.add_sub_cancel]
    omega

/-- The library's reading of a right text, and the model's. -/
theorem parse_t32 {s : ByteArray} (h : iOk s = true) : (∃ v, Lib.parseIntB 32 s.data.toList = .ok v) ∧ t32 s = true ∨ Lib.parseIntB 32 s.data.toList = .range ∧ t32 s = false := by
  obtain ⟨ds, hR, hs⟩ := iOk_shape h
  have hlen := list_len s
  have hpu : Lib.parseUintB 32 ds = if val 0 ds ≤ 4294967295 then .ok (val 0 ds) else .range := by
    unfold Lib.parseUintB
    rw [if_neg hR.2.1]
    exact parseM 4294967295 (by omega) ds 0 (by omega) hR.1
  have hlow : 12 ≤ ds.length + 1 → 10000000000 ≤ val 0 ds := fun hl => by
    have h1 := right_low hR (by omega)
    have h2 : 10 ^ 10 ≤ 10 ^ (ds.length - 1) := Nat.pow_le_pow_right (by decide) (by omega)
    omega
  have hlow2 : 12 ≤ ds.length → 100000000000 ≤ val 0 ds := fun hl => by
    have h1 := right_low hR (by omega)
    have h2 : 10 ^ 11 ≤ 10 ^ (ds.length - 1) := Nat.pow_le_pow_right (by decide) (by omega)
    omega
  rcases hs with ⟨hs, hb⟩ | ⟨hs, hb⟩
  · have hdg : dg s.data.toList = ds := by rw [hs]; exact dg_all hR.1
    cases hc : ds with
    | nil => exact absurd hc hR.2.1
    | cons c r =>
      have hcD : 48 ≤ c.toNat ∧ c.toNat ≤ 57 := by
        have := hR.1
        rw [hc] at this
        simp only [allD, List.all_cons, Bool.and_eq_true] at this
        simpa [isD] using this.1
      have c1 : ¬ (c.toNat = 43 ∨ c.toNat = 45) := by omega
      have c2 : ¬ c.toNat = 45 := by omega
      rw [hs] at hlen
      have hp : Lib.parseIntB 32 s.data.toList = match Lib.parseUintB 32 ds with
          | .syntax => .syntax
          | .range => .range
          | .ok u => if ¬ c.toNat = 45 ∧ 2 ^ (32 - 1) ≤ u then .range else if c.toNat = 45 ∧ 2 ^ (32 - 1) < u then .range else .ok (if c.toNat = 45 then -(u : Int) else u) := by
        rw [hs, hc]; unfold Lib.parseIntB; simp only [if_neg c1]; rfl
      rw [hp, hpu]
      by_cases hv : val 0 ds ≤ 2147483647
      · left
        rw [if_pos (by omega)]
        refine ⟨⟨(val 0 ds : Int), ?_⟩, ?_⟩
        · simp only [c2]
          rw [if_neg (by omega), if_neg (by simp)]
          rfl
        · unfold t32
          rw [h, hdg, lim_no hb, decide_eq_true ⟨by have := hlow2; omega, hv⟩]; rfl
      · right
        refine ⟨?_, ?_⟩
        · by_cases hv2 : val 0 ds ≤ 4294967295
          · rw [if_pos hv2]
            simp only []
            rw [if_pos ⟨c2, by omega⟩]
          · rw [if_neg hv2]
        · unfold t32
          rw [h, hdg, lim_no hb, decide_eq_false (fun x => hv x.2)]; rfl
  · have hdg : dg s.data.toList = ds := by rw [hs]; exact dg_minus hR.1
    rw [hs, List.length_cons] at hlen
    have hp : Lib.parseIntB 32 s.data.toList = match Lib.parseUintB 32 ds with
        | .syntax => .syntax
        | .range => .range
        | .ok u => if ¬ (45 : UInt8).toNat = 45 ∧ 2 ^ (32 - 1) ≤ u then .range else if (45 : UInt8).toNat = 45 ∧ 2 ^ (32 - 1) < u then .range else .ok (if (45 : UInt8).toNat = 45 then -(u : Int) else u) := by
      rw [hs]; rfl
    rw [hp, hpu]
    by_cases hv : val 0 ds ≤ 2147483648
    · left
      rw [if_pos (by omega)]
      refine ⟨⟨-(val 0 ds : Int), ?_⟩, ?_⟩
      · simp only []
        rw [if_neg (fun x => x.1 rfl), if_neg (fun x => by have := x.2; omega), if_pos (by decide)]
      · unfold t32
        rw [h, hdg, lim_yes hb, decide_eq_true ⟨by have := hlow; omega, hv⟩]; rfl
    · right
      refine ⟨?_, ?_⟩
      · by_cases hv2 : val 0 ds ≤ 4294967295
        · rw [if_pos hv2]
          simp only []
          rw [if_neg (fun x => x.1 rfl), if_pos ⟨rfl, by omega⟩]
        · rw [if_neg hv2]
      · unfold t32
        rw [h, hdg, lim_yes hb, decide_eq_false (fun x => hv x.2)]; rfl
end Go.Proofs.YtmjmopdajlnkjaaDoor
