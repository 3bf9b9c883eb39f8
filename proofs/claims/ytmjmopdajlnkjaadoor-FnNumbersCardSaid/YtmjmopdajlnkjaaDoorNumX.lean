/- What is proved: what the plain functions tell of figures with a fraction or an exponent behind them, and of names; lists and numbers alone. Used by the proof of FnNumbersCardSaid. -/
import Derived.Test.YtmjmopdajlnkjaaDoorNumV
import Derived.Lib.ItoaMem
namespace Go.Proofs.YtmjmopdajlnkjaaDoor

theorem bt_app_left {t : ByteArray} {l1 l2 : List UInt8} (h : t.data.toList = l1 ++ l2) (k : Nat) (hk : l1.length ≤ k) : bt t k = match l2[k - l1.length]? with
    | some c => (c.toNat : Int)
    | none => -1 := by
  unfold bt; rw [h, List.getElem?_append_right hk]; rfl
theorem bt_app (t : ByteArray) (l1 l2 : List UInt8) (h : t.data.toList = l1 ++ l2) (j : Nat) : bt t (l1.length + j) = match l2[j]? with
    | some c => (c.toNat : Int)
    | none => -1 := by
  rw [bt_app_left h _ (by omega)]; simp
theorem isF_D (c : UInt8) : isF (c.toNat : Int) = isD c := by
  cases h : isD c with
  | true => simp only [isD, decide_eq_true_eq] at h; exact isF_yes (by omega) (by omega)
  | false => simp only [isD, decide_eq_false_iff_not] at h; exact isF_no (by omega)
/-- The first sign is no figure. -/
def Ends (rest : List UInt8) : Prop := ∀ c r, rest = c :: r → isD c = false
theorem run_figs (t : ByteArray) (rest : List UInt8) (hr : Ends rest) (ds : List UInt8) : ∀ l1, t.data.toList = l1 ++ (ds ++ rest) → allD ds = true → run t l1.length = l1.length + ds.length := by
  induction ds with
  | nil =>
    intro l1 h _
    refine run_no ?_
    have := bt_app t l1 rest h 0
    rw [Nat.add_zero] at this
    rw [this]
    cases hc : rest with
    | nil => rfl
    | cons c r => exact (isF_D c).trans (hr c r hc)
  | cons c ds ih =>
    intro l1 h hd
    simp only [allD, List.all_cons, Bool.and_eq_true] at hd
    have h0 := bt_app t l1 _ h 0
    rw [Nat.add_zero] at h0
    rw [run_yes (by rw [h0]; exact (isF_D c).trans hd.1)]
    have := ih (l1 ++ [c]) (by rw [h]; simp) hd.2
    simp only [List.length_append, List.length_cons, List.length_nil] at this
    rw [this, List.length_cons]; omega

structure Shape (t : ByteArray) (pre ds rest : List UInt8) : Prop where
  eq : t.data.toList = pre ++ (ds ++ rest)
  sign : pre = [] ∨ pre = [45]
  right : Right ds
  ends : Ends rest
theorem Shape.size {t : ByteArray} {pre ds rest : List UInt8} (h : Shape t pre ds rest) : t.size = pre.length + ds.length + rest.length := by
  rw [← list_len, h.eq]; simp; omega
theorem Shape.head {t : ByteArray} {pre ds rest : List UInt8} (h : Shape t pre ds rest) : ∃ c r, ds = c :: r ∧ 48 ≤ c.toNat ∧ c.toNat ≤ 57 := by
  cases hd : ds with
  | nil => exact absurd hd h.right.2.1
  | cons c r =>
    have := h.right.1
    rw [hd] at this
    simp only [allD, List.all_cons, Bool.and_eq_true] at this
    have h2 := this.1
    simp only [isD, decide_eq_true_eq] at h2
    exact ⟨c, r, rfl, h2.1, h2.2⟩
theorem Shape.fs {t : ByteArray} {pre ds rest : List UInt8} (h : Shape t pre ds rest) : fst t = pre.length := by
  obtain ⟨c, r, hd, h1, h2⟩ := h.head
  have he := h.eq
  rcases h.sign with rfl | rfl
  · have : bt t 0 = (c.toNat : Int) := by unfold bt; rw [he, hd]; rfl
    unfold Go.Proofs.YtmjmopdajlnkjaaDoor.fst
    rw [if_neg (by omega)]; rfl
  · have : bt t 0 = 45 := by unfold bt; rw [he]; rfl
    unfold Go.Proofs.YtmjmopdajlnkjaaDoor.fst
    rw [if_pos this]; rfl
theorem Shape.rn {t : ByteArray} {pre ds rest : List UInt8} (h : Shape t pre ds rest) : run t pre.length = pre.length + ds.length := run_figs t rest h.ends ds pre h.eq h.right.1
theorem Shape.li {t : ByteArray} {pre ds rest : List UInt8} (h : Shape t pre ds rest) : lI t = pre.length + ds.length := by
  obtain ⟨c, r, hd, h1, h2⟩ := h.head
  unfold Go.Proofs.YtmjmopdajlnkjaaDoor.lI
  rw [h.fs, h.rn]
  rw [if_neg]
  rintro (e | ⟨e1, e2⟩)
  · rw [hd] at e; simp at e
  · have hb := bt_app t pre _ h.eq 0
    rw [Nat.add_zero, hd] at hb
    have hb2 : bt t pre.length = (c.toNat : Int) := hb
    have := h.right.2.2 c r hd (by omega)
    rw [hd, this] at e2; simp at e2
theorem Shape.at {t : ByteArray} {pre ds rest : List UInt8} (h : Shape t pre ds rest) (j : Nat) : bt t (pre.length + ds.length + j) = match rest[j]? with
    | some c => (c.toNat : Int)
    | none => -1 := by
  have := bt_app t (pre ++ ds) rest (by rw [h.eq]; simp) j
  rw [List.length_append] at this
  exact this
theorem Shape.int {t : ByteArray} {pre ds : List UInt8} (h : Shape t pre ds []) (hs : t.size ≤ 40) : iOk t = true ∧ fOk t = false := by
  have h1 := h.li
  have h2 := h.size
  obtain ⟨c, r, hd, -, -⟩ := h.head
  have h3 : 0 < ds.length := by rw [hd]; simp
  simp only [List.length_nil, Nat.add_zero] at h2
  exact ⟨decide_eq_true ⟨hs, by omega, by omega⟩, decide_eq_false (fun x => x.2.2.1 (by omega))⟩
theorem run_tail {t : ByteArray} {pre ds rest : List UInt8} (h : Shape t pre ds rest) (l ds2 : List UInt8) (hr : rest = l ++ ds2) (hd : allD ds2 = true) : run t (pre.length + ds.length + l.length) = t.size := by
  have := run_figs t [] (fun _ _ e => by cases e) ds2 (pre ++ ds ++ l) (by rw [h.eq, hr]; simp) hd
  rw [h.size, hr]
  simp only [List.length_append] at this ⊢
  rw [this]; omega
theorem Shape.frac {t : ByteArray} {pre ds ds2 : List UInt8} (h : Shape t pre ds (46 :: ds2)) (hd : allD ds2 = true) (hn : ds2 ≠ []) (hs : t.size ≤ 40) : fOk t = true := by
  have h1 := h.li
  have h2 := h.size
  have h3 : 0 < ds2.length := List.length_pos_iff.2 hn
  obtain ⟨c, r, hc, -, -⟩ := h.head
  have h4 : 0 < ds.length := by rw [hc]; simp
  have b0 : bt t (pre.length + ds.length) = 46 := h.at 0
  have hr := run_tail h [46] ds2 rfl hd
  simp only [List.length_cons, List.length_nil, Nat.zero_add] at hr h2
  refine decide_eq_true ⟨hs, by omega, by omega, ?_⟩
  rw [h1]
  have e1 : aF t (pre.length + ds.length) = t.size := by unfold aF; rw [if_pos b0, hr, if_neg (by omega)]
  rw [e1]
  unfold aE
  rw [bt_out t _ (Nat.le_refl _), if_neg (by decide)]
theorem Shape.exp {t : ByteArray} {pre ds ds2 : List UInt8} (h : Shape t pre ds (101 :: ds2)) (hd : allD ds2 = true) (hn : ds2 ≠ []) (hs : t.size ≤ 40) : fOk t = true := by
  have h1 := h.li
  have h2 := h.size
  have h3 : 0 < ds2.length := List.length_pos_iff.2 hn
  obtain ⟨c, r, hc, -, -⟩ := h.head
  have h4 : 0 < ds.length := by rw [hc]; simp
  have b0 : bt t (pre.length + ds.length) = 101 := h.at 0
  have hr := run_tail h [101] ds2 rfl hd
  simp only [List.length_cons, List.length_nil, Nat.zero_add] at hr h2
  refine decide_eq_true ⟨hs, by omega, by omega, ?_⟩
  rw [h1]
  have e1 : aF t (pre.length + ds.length) = pre.length + ds.length := by unfold aF; rw [if_neg (by omega)]
  rw [e1]
  have b1 : isF (bt t (pre.length + ds.length + 1)) = true := by
    cases hx : ds2 with
    | nil => exact absurd hx hn
    | cons d r2 =>
      have := h.at 1
      rw [this, hx]
      rw [hx] at hd
      simp only [allD, List.all_cons, Bool.and_eq_true] at hd
      exact (isF_D d).trans hd.1
  have b2 := isF_iff.1 b1
  have e2 : eS t (pre.length + ds.length) = pre.length + ds.length + 1 := by unfold eS; rw [if_neg (by omega)]
  unfold aE
  rw [if_pos (.inl b0), e2, hr, if_neg (by omega)]
theorem Shape.both {t : ByteArray} {pre ds ds2 : List UInt8} (h : Shape t pre ds (46 :: 48 :: 69 :: 45 :: ds2)) (hd : allD ds2 = true) (hn : ds2 ≠ []) (hs : t.size ≤ 40) : fOk t = true := by
  have h1 := h.li
  have h2 := h.size
  have h3 : 0 < ds2.length := List.length_pos_iff.2 hn
  obtain ⟨c, r, hc, -, -⟩ := h.head
  have h4 : 0 < ds.length := by rw [hc]; simp
  have b0 : bt t (pre.length + ds.length) = 46 := h.at 0
  have b1 : bt t (pre.length + ds.length + 1) = 48 := h.at 1
  have b2 : bt t (pre.length + ds.length + 2) = 69 := h.at 2
  have b3 : bt t (pre.length + ds.length + 3) = 45 := h.at 3
  have hr := run_tail h [46, 48, 69, 45] ds2 rfl hd
  simp only [List.length_cons, List.length_nil, Nat.zero_add] at hr h2
  refine decide_eq_true ⟨hs, by omega, by omega, ?_⟩
  rw [h1]
  have r1 : run t (pre.length + ds.length + 1) = pre.length + ds.length + 2 := by
    rw [run_yes (by rw [b1]; rfl)]
    exact run_no (by rw [b2]; rfl)
  have e1 : aF t (pre.length + ds.length) = pre.length + ds.length + 2 := by unfold aF; rw [if_pos b0, r1, if_neg (by omega)]
  rw [e1]
  have e2 : eS t (pre.length + ds.length + 2) = pre.length + ds.length + 4 := by unfold eS; rw [if_pos (.inr b3)]
  unfold aE
  rw [if_pos (.inr b2), e2, hr, if_neg (by omega)]
theorem Shape.point {t : ByteArray} {pre ds : List UInt8} (h : Shape t pre ds [46]) : iOk t = false ∧ fOk t = false := by
  have h1 := h.li
  have h2 := h.size
  have b0 : bt t (pre.length + ds.length) = 46 := h.at 0
  simp only [List.length_cons, List.length_nil, Nat.zero_add] at h2
  refine ⟨decide_eq_false (fun x => by omega), decide_eq_false (fun x => ?_)⟩
  have h3 := x.2.2.2
  rw [h1] at h3
  have e1 : aF t (pre.length + ds.length) = pre.length + ds.length := by unfold aF; rw [if_pos b0, if_pos (run_out (by omega))]
  rw [e1] at h3
  unfold aE at h3
  rw [if_neg (by omega)] at h3
  omega
theorem Shape.bare {t : ByteArray} {pre ds : List UInt8} (h : Shape t pre ds [101]) : fOk t = false := by
  have h1 := h.li
  have h2 := h.size
  have b0 : bt t (pre.length + ds.length) = 101 := h.at 0
  have b1 : bt t (pre.length + ds.length + 1) = -1 := h.at 1
  simp only [List.length_cons, List.length_nil, Nat.zero_add] at h2
  refine decide_eq_false (fun x => ?_)
  have h3 := x.2.2.2
  rw [h1] at h3
  have e1 : aF t (pre.length + ds.length) = pre.length + ds.length := by unfold aF; rw [if_neg (by omega)]
  have e2 : eS t (pre.length + ds.length) = pre.length + ds.length + 1 := by unfold eS; rw [if_neg (by omega)]
  rw [e1] at h3
  unfold aE at h3
  rw [if_pos (.inl b0), e2, if_pos (run_out (by omega))] at h3
  omega
theorem Shape.fits {t : ByteArray} {pre ds : List UInt8} (h : Shape t pre ds []) (hs : t.size ≤ 11) : t32 t = true ↔ val 0 ds ≤ lim t := by
  have hi := (h.int (by omega)).1
  have hdg : dg t.data.toList = ds := by
    have he := h.eq
    rw [List.append_nil] at he
    rcases h.sign with rfl | rfl
    · rw [he]; exact dg_all h.right.1
    · rw [he]; exact dg_minus h.right.1
  unfold t32
  rw [hi, hdg, Bool.true_and, decide_eq_true_eq]
  exact ⟨fun x => x.2, fun x => ⟨hs, x⟩⟩

/-! Figures of numbers. -/
theorem dig_nat (d : Nat) (h : d < 10) : (UInt8.ofNat (48 + d)).toNat = 48 + d := by rw [UInt8.toNat_ofNat']; omega
theorem allD_snoc (l : List UInt8) (c : UInt8) : allD (l ++ [c]) = (allD l && isD c) := by simp [allD, List.all_append]
theorem dd (n : Nat) : allD (Lib.decDigits n) = true ∧ val 0 (Lib.decDigits n) = n := by
  induction n using Nat.strongRecOn with
  | ind n ih =>
    by_cases h : n < 10
    · rw [Lib.decDigits_one h]
      have := dig_nat n h
      refine ⟨by simp [allD, isD]; omega, ?_⟩
      show 10 * 0 + ((UInt8.ofNat (48 + n)).toNat - 48) = n
      omega
    · rw [Lib.decDigits, dif_neg h]
      obtain ⟨h1, h2⟩ := ih (n / 10) (by omega)
      have := dig_nat (n % 10) (by omega)
      refine ⟨?_, ?_⟩
      · rw [allD_snoc, h1]; simp [isD]; omega
      · rw [val_snoc, h2, this]; omega
theorem dd_len (k : Nat) : ∀ n, n < 10 ^ (k + 1) → (Lib.decDigits n).length ≤ k + 1 := by
  induction k with
  | zero => intro n h; rw [Lib.decDigits_one (by omega)]; simp
  | succ k ih =>
    intro n h
    by_cases h10 : n < 10
    · rw [Lib.decDigits_one h10]; simp
    · rw [Lib.decDigits, dif_neg h10, List.length_append]
      have := ih (n / 10) (by rw [Nat.pow_succ] at h; omega)
      simp; omega
theorem dd_ne (n : Nat) : Lib.decDigits n ≠ [] := by
  intro h
  have := Lib.decDigits_length n
  rw [h] at this
  have := Lib.nDigits_pos n
  simp at *; omega
theorem dd_head (n : Nat) : ∀ c r, Lib.decDigits n = c :: r → c.toNat = 48 → r = [] := by
  induction n using Nat.strongRecOn with
  | ind n ih =>
    intro c r h hc
    by_cases h10 : n < 10
    · rw [Lib.decDigits_one h10] at h; injection h with _ h2; exact h2.symm
    · rw [Lib.decDigits, dif_neg h10] at h
      cases hd : Lib.decDigits (n / 10) with
      | nil => exact absurd hd (dd_ne _)
      | cons c2 r2 =>
        rw [hd] at h
        injection h with h1 h2
        have h3 := ih (n / 10) (by omega) c2 r2 hd (by rw [h1]; exact hc)
        have h4 := (dd (n / 10)).2
        rw [hd, h3, val_cons] at h4
        have h5 : val (10 * 0 + (c2.toNat - 48)) [] = 10 * 0 + (c2.toNat - 48) := rfl
        rw [h5, h1, hc] at h4
        omega
theorem right_dd (n : Nat) : Right (Lib.decDigits n) := ⟨(dd n).1, dd_ne n, dd_head n⟩
theorem dd_long (n k : Nat) (h : 10 ^ k ≤ n) : k < (Lib.decDigits n).length := by
  have h1 := val_lt (Lib.decDigits n) 0 1 (dd n).1 (by omega)
  rw [(dd n).2, Nat.one_mul] at h1
  exact (Nat.pow_lt_pow_iff_right (by omega)).1 (Nat.lt_of_le_of_lt h h1)

/-- The text of a number: its sign, its figures. -/
def sg (x : Int) : List UInt8 := if x < 0 then [45] else []
theorem itoa_eq (x : Int) : Lib.itoa x = sg x ++ Lib.decDigits x.natAbs := by
  unfold Lib.itoa sg
  by_cases h : x < 0
  · rw [if_pos h, if_pos h]; rfl
  · rw [if_neg h, if_neg h, show x.toNat = x.natAbs from by omega]; rfl
theorem sg_is (x : Int) : sg x = [] ∨ sg x = [45] := by unfold sg; split <;> simp
def tx (l : List UInt8) : ByteArray := ⟨l.toArray⟩
theorem tx_list (l : List UInt8) : (tx l).data.toList = l := by simp [tx]
theorem shape_dec (x : Int) (rest : List UInt8) (hr : Ends rest) : Shape (tx (Lib.itoa x) ++ tx rest) (sg x) (Lib.decDigits x.natAbs) rest :=
  ⟨by rw [ByteArray.data_append, Array.toList_append, tx_list, tx_list, itoa_eq, List.append_assoc], sg_is x, right_dd _, hr⟩
theorem shape_dec0 (x : Int) : Shape (tx (Lib.itoa x)) (sg x) (Lib.decDigits x.natAbs) [] :=
  ⟨by rw [tx_list, itoa_eq, List.append_nil], sg_is x, right_dd _, fun _ _ e => by cases e⟩
theorem itoa_nat (n : Nat) : Lib.itoa (n : Int) = Lib.decDigits n := Lib.itoa_nonneg n
theorem app_size (a b : ByteArray) : (a ++ b).size = a.size + b.size := ByteArray.size_append
theorem tx_size (l : List UInt8) : (tx l).size = l.length := by rw [← list_len, tx_list]
theorem itoa_len (x : Int) (h0 : -100000 < x) (h1 : x < 100000) : (tx (Lib.itoa x)).size ≤ 6 := by
  rw [tx_size, itoa_eq, List.length_append]
  have := dd_len 4 x.natAbs (by omega)
  have : (sg x).length ≤ 1 := by rcases sg_is x with h | h <;> rw [h] <;> simp
  omega
theorem tx_app (a b : List UInt8) : tx a ++ tx b = tx (a ++ b) := by
  apply ByteArray.ext
  rw [ByteArray.data_append]
  simp [tx]

/-- All that the law asks of a drawn number's text. -/
theorem law_facts (x : Int) (y z p : Nat) (h0 : -5000 ≤ x) (h1 : x < 5000) (hy : y < 10000) (hz : z < 10000) (hp : p < 10000) :
    iOk (tx (Lib.itoa x)) = true ∧ fOk (tx (Lib.itoa x)) = false ∧ t32 (tx (Lib.itoa x)) = true ∧ fOk (tx (Lib.itoa x) ++ tx [46, 53]) = true
    ∧ fOk ((tx (Lib.itoa x) ++ tx [101]) ++ tx (Lib.itoa (y : Int))) = true ∧ fOk ((tx (Lib.itoa x) ++ tx [46, 48, 69, 45]) ++ tx (Lib.itoa (z : Int))) = true
    ∧ iOk (tx (Lib.itoa x) ++ tx [46]) = false ∧ fOk (tx (Lib.itoa x) ++ tx [46]) = false ∧ fOk (tx (Lib.itoa x) ++ tx [101]) = false
    ∧ t32 (tx [57, 57, 57, 57, 57] ++ tx (Lib.itoa (100000 + (p : Int)))) = false := by
  have hl := itoa_len x (by omega) (by omega)
  have ly := dd_len 3 y (by omega)
  have lz := dd_len 3 z (by omega)
  have e46 : Ends [46] := fun c r e => by injection e with e1 _; rw [← e1]; rfl
  have e101 : Ends [101] := fun c r e => by injection e with e1 _; rw [← e1]; rfl
  have s0 := shape_dec0 x
  have sI := s0.int (by omega)
  refine ⟨sI.1, sI.2, ?_, ?_, ?_, ?_, (shape_dec x [46] e46).point.1, (shape_dec x [46] e46).point.2, (shape_dec x [101] e101).bare, ?_⟩
  · refine (s0.fits (by omega)).2 ?_
    rw [(dd _).2]
    have : 2147483647 ≤ lim (tx (Lib.itoa x)) := by unfold lim; split <;> omega
    omega
  · refine (shape_dec x [46, 53] (fun c r e => by injection e with e1 _; rw [← e1]; rfl)).frac (ds2 := [53]) rfl (by simp) ?_
    rw [app_size, tx_size [46, 53]]; simp; omega
  · rw [itoa_nat, show (tx (Lib.itoa x) ++ tx [101]) ++ tx (Lib.decDigits y) = tx (Lib.itoa x) ++ tx (101 :: Lib.decDigits y) from by rw [tx_app, tx_app, tx_app]; simp]
    refine (shape_dec x (101 :: Lib.decDigits y) (fun c r e => by injection e with e1 _; rw [← e1]; rfl)).exp (dd y).1 (dd_ne y) ?_
    rw [app_size, tx_size (101 :: _), List.length_cons]; omega
  · rw [itoa_nat, show (tx (Lib.itoa x) ++ tx [46, 48, 69, 45]) ++ tx (Lib.decDigits z) = tx (Lib.itoa x) ++ tx (46 :: 48 :: 69 :: 45 :: Lib.decDigits z) from by rw [tx_app, tx_app, tx_app]; simp]
    refine (shape_dec x (46 :: 48 :: 69 :: 45 :: Lib.decDigits z) (fun c r e => by injection e with e1 _; rw [← e1]; rfl)).both (dd z).1 (dd_ne z) ?_
    rw [app_size, tx_size (46 :: _)]; simp; omega
  · have hn : (100000 + (p : Int)) = ((100000 + p : Nat) : Int) := by omega
    rw [hn, itoa_nat, tx_app]
    have hk : Shape (tx ([57, 57, 57, 57, 57] ++ Lib.decDigits (100000 + p))) [] ([57, 57, 57, 57, 57] ++ Lib.decDigits (100000 + p)) [] := by
      refine ⟨by rw [tx_list]; simp, .inl rfl, ⟨?_, by simp, ?_⟩, fun _ _ e => by cases e⟩
      · unfold allD
        rw [List.all_append]
        have := (dd (100000 + p)).1
        unfold allD at this
        rw [this]; rfl
      · intro c r e hc
        injection e with e1 _
        rw [← e1] at hc
        exact absurd hc (by decide)
    have l6 := dd_len 5 (100000 + p) (by omega)
    have l5 := dd_long (100000 + p) 5 (by omega)
    have hs : (tx ([57, 57, 57, 57, 57] ++ Lib.decDigits (100000 + p))).size ≤ 11 := by
      rw [tx_size, List.length_append]; simp; omega
    have hv : 1000000000 * 10 ≤ val 0 ([57, 57, 57, 57, 57] ++ Lib.decDigits (100000 + p)) := by
      have h1 := right_low hk.right (by rw [List.length_append]; simp; omega)
      rw [List.length_append] at h1
      have h2 : 10 ^ 10 ≤ 10 ^ ([57, 57, 57, 57, 57].length + (Lib.decDigits (100000 + p)).length - 1) := Nat.pow_le_pow_right (by decide) (by simp; omega)
      simp only [List.length_cons, List.length_nil] at h1 h2
      omega
    have hlim : lim (tx ([57, 57, 57, 57, 57] ++ Lib.decDigits (100000 + p))) ≤ 2147483648 := by unfold lim; split <;> omega
    cases ht : t32 (tx ([57, 57, 57, 57, 57] ++ Lib.decDigits (100000 + p))) with
    | false => rfl
    | true => have := (hk.fits hs).1 ht; omega

/-! Names. -/
def names : List ByteArray := [⟨#[97]⟩, ⟨#[98]⟩, ⟨#[110, 97, 109, 101]⟩, ⟨#[105, 100]⟩, ⟨#[85, 115, 101, 114]⟩, ⟨#[80, 111, 115, 116]⟩, ⟨#[78, 111, 100, 101]⟩, ⟨#[111, 110]⟩, ⟨#[116, 121, 112, 101]⟩, ⟨#[120, 49]⟩, ⟨#[95, 121]⟩, ⟨#[82, 69, 68]⟩, ⟨#[113, 117, 101, 114, 121]⟩]
theorem name_facts : ∀ s ∈ names, nOk s = true ∧ s.size ≤ 5 ∧ isF (bt s 0) = false ∧ bt s 0 ≠ 45 ∧ nOk (⟨#[49]⟩ ++ s) = false ∧ nOk (s ++ ⟨#[45]⟩) = false := by decide
theorem name_int {s : ByteArray} (h1 : isF (bt s 0) = false) (h2 : bt s 0 ≠ 45) : iOk s = false := by
  have hf : fst s = 0 := by unfold fst; rw [if_neg h2]
  have hl : lI s = 0 := by unfold lI; rw [hf, if_pos (.inl (run_no h1))]
  exact decide_eq_false (fun x => by omega)
end Go.Proofs.YtmjmopdajlnkjaaDoor
