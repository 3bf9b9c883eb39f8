/- What is proved: types: what the model's and the program's Needed and Fewer answer, and what the laws' eqType says of two that are the same. -/
import Derived.Test.YtbccniijnaegaaaTyA
import Derived.Test.YtbccniijnaegaaaShelf
namespace Go.Proofs.Ytbccniijnaegaaa
namespace Ty
open Go.RowKit
attribute [local go_sem ↓] Go.wp_at_zero Go.wp_at_succ

/-- A `!` at the end. -/
def nd (s : ByteArray) : Bool := Lib.hasSuffix s.data.toList [33]
/-- Without it. -/
def fw (s : ByteArray) : ByteArray := ⟨(Lib.trimSuffix s.data.toList [33]).toArray⟩

theorem b33 (b : UInt8) : (((b.toNat : Nat) : Int) == 33) = decide (b = 33) := by
  rw [Bool.eq_iff_iff, decide_eq_true_iff, beq_iff_eq, ← UInt8.toNat_inj]
  have : (33 : UInt8).toNat = 33 := rfl
  omega
theorem nd_nil {s : ByteArray} (h : s.size = 0) : nd s = false := by
  have : s.data.toList = [] := by
    rw [← List.length_eq_zero_iff, ← Lib.size_eq]; exact h
  rw [nd, this]; rfl
theorem fw_no {s : ByteArray} (h : nd s = false) : fw s = s := by
  unfold nd at h
  rw [fw, Lib.trimSuffix, h]; rfl
theorem nd_at {s : ByteArray} {i : Nat} (hi : i < s.size) (h : s.size = i + 1) : nd s = decide (s[i] = 33) := by
  have hl : s.data.toList = s.data.toList.take i ++ [s[i]] := by
    have h1 : i < s.data.toList.length := by rw [← Lib.size_eq]; exact hi
    conv => lhs; rw [← List.take_append_drop i s.data.toList, List.drop_eq_getElem_cons h1, List.drop_eq_nil_of_le (by rw [← Lib.size_eq]; omega)]
    rfl
  rw [nd, hl, Lib.hasSuffix]
  rw [Bool.eq_iff_iff, List.isSuffixOf_iff_suffix, decide_eq_true_iff]
  constructor
  · rintro ⟨t, ht⟩
    have := List.append_inj_right' ht rfl
    simpa using this.symm
  · intro e
    exact ⟨_, by rw [e]⟩
theorem fw_at {s : ByteArray} {i : Nat} (h : s.size = i + 1) (hn : nd s = true) : fw s = s.extract 0 i := by
  unfold nd at hn
  rw [fw, Lib.trimSuffix, hn]
  have : s.data.toList.length = i + 1 := by rw [← Lib.size_eq]; exact h
  simp only [↓reduceIte, List.length_singleton, this, Nat.add_sub_cancel]
  apply ByteArray.ext
  apply Array.ext'
  simp [ByteArray.data_extract]

set_option maxHeartbeats 1000000 in
theorem needS (n s : ByteArray) (w : World) (hs : s.size ≤ 140737488355328) :
    Calls Try.prog 6 #[.agg #[.string n, .string s]] w fun e w' => e = .returned (.bool (nd s)) ∧ Below w.heap.size w w' := by
  obtain ⟨R, hR⟩ : ∃ R, nd s = R := ⟨_, rfl⟩
  rw [hR]
  have HR := Lib.hid hR
  clear hR
  by_cases h0 : s.size = 0
  · go_enter Try.func6, Try.ntmps6
    go_wp2
    go_ret
    have := HR.out
    rw [nd_nil h0] at this
    subst this; exact ⟨rfl, below_alloc _ _⟩
  · obtain ⟨i, hi⟩ : ∃ i, s.size = i + 1 := ⟨s.size - 1, by omega⟩
    have hlt : i < s.size := by omega
    go_enter Try.func6, Try.ntmps6
    go_wp2
    go_ret
    have := HR.out
    rw [nd_at hlt hi] at this
    subst this; exact ⟨by rw [b33]; rfl, below_alloc _ _⟩

set_option maxHeartbeats 1000000 in
theorem fewS (n s : ByteArray) (w : World) (hs : s.size ≤ 140737488355328) :
    Calls Try.prog 9 #[.agg #[.string n, .string s]] w fun e w' => e = .returned (.agg #[.string n, .string (fw s)]) ∧ Below w.heap.size w w' := by
  obtain ⟨R, hR⟩ : ∃ R, fw s = R := ⟨_, rfl⟩
  rw [hR]
  have HR := Lib.hid hR
  clear hR
  obtain ⟨g0, g1, ba, hz⟩ := two w (Obj.cells #[Value.string n, Value.string s] 26) (Obj.cells #[Value.string ⟨#[]⟩, Value.string ⟨#[]⟩] 26)
  go_enter Try.func9, Try.ntmps9
  go_wp2_with fail
  refine (needS n s _ hs).mono ?_
  rintro e w1 ⟨rfl, hb1⟩
  rw [hz] at hb1
  have G0 := Lib.hid ((hb1.block _ (by omega)).trans g0)
  have G1 := Lib.hid ((hb1.block _ (by omega)).trans g1)
  have b1 : Below w.heap.size w w1 := ba.trans (hb1.mono (by omega))
  have hsz := hb1.size
  have HS := Lib.hid hsz
  clear g0 g1 ba hz hb1 hsz
  have c00 : w1.cell? ⟨w.heap.size, 0, none⟩ = some (.string n) := by rw [cell_of G0.out]; rfl
  have c01 : w1.cell? ⟨w.heap.size, 1, none⟩ = some (.string s) := by rw [cell_of G0.out]; rfl
  have f01 : w1.frozen? ⟨w.heap.size, 1, none⟩ = false := frozen_no G0.out _
  have c10 : w1.cell? ⟨w.heap.size + 1, 0, none⟩ = some (.string ⟨#[]⟩) := by rw [cell_of G1.out]; rfl
  have c11 : w1.cell? ⟨w.heap.size + 1, 1, none⟩ = some (.string ⟨#[]⟩) := by rw [cell_of G1.out]; rfl
  have f10 : w1.frozen? ⟨w.heap.size + 1, 0, none⟩ = false := frozen_no G1.out _
  have f11 : w1.frozen? ⟨w.heap.size + 1, 1, none⟩ = false := frozen_no G1.out _
  have key : ∀ (x : World) (r : ByteArray), x.heap[w.heap.size + 1]? = some (Obj.cells #[Value.string ⟨#[]⟩, Value.string ⟨#[]⟩] 26) → ((x.setCell ⟨w.heap.size + 1, 0, none⟩ (.string n)).setCell ⟨w.heap.size + 1, 1, none⟩ (.string r)).heap[w.heap.size + 1]? = some (Obj.cells #[Value.string n, Value.string r] 26) := by
    intro x r hx
    refine heap_setCell_same _ _ 1 #[.string n, .string ⟨#[]⟩] _ _ ?_
    exact heap_setCell_same _ _ 0 #[.string ⟨#[]⟩, .string ⟨#[]⟩] _ _ hx
  cases hn : nd s with
  | false =>
    have KEY := Lib.hid (key w1 s G1.out)
    clear key
    go_wp2
    refine bodyPost_ret (results_cell_row rfl _ _ (w.heap.size + 1) _ _ _ _ rfl KEY.out Try.underlying26 rfl (by kernel_rfl)) rfl ?_
    have := HR.out
    rw [fw_no hn] at this
    subst this
    exact ⟨rfl, (b1.setCell (by simp only; omega) _).setCell (by simp only; omega) _⟩
  | true =>
    have h0 : ¬ s.size = 0 := fun h => by rw [nd_nil h] at hn; cases hn
    obtain ⟨i, hi⟩ : ∃ i, s.size = i + 1 := ⟨s.size - 1, by omega⟩
    have KEY := Lib.hid (key (w1.setCell ⟨w.heap.size, 1, none⟩ (.string (s.extract 0 i))) (s.extract 0 i) (by rw [Below.heap_setCell _ _ _ _ (by simp only; omega)]; exact G1.out))
    have := HR.out
    rw [fw_at hi hn] at this
    subst this
    clear key HR
    go_wp2
    refine bodyPost_ret (results_cell_row rfl _ _ (w.heap.size + 1) _ _ _ _ rfl KEY.out Try.underlying26 rfl (by kernel_rfl)) rfl ?_
    exact ⟨rfl, ((b1.setCell (by simp only; omega) _).setCell (by simp only; omega) _).setCell (by simp only; omega) _⟩

theorem trimI (s : ByteArray) (w : World) (hs : s.size ≤ 140737488355328) :
    Calls Try.prog 12 #[.string s, .string ⟨#[33]⟩] w fun e w' => e = .returned (.string (fw s)) ∧ w = w' :=
  (Try.strings_TrimSuffix s ⟨#[33]⟩ w (by omega)).mono fun e w' ⟨h1, h2⟩ => ⟨h1, h2.symm⟩

set_option maxHeartbeats 1000000 in
theorem fewI (n s : ByteArray) (w : World) (hs : s.size ≤ 140737488355328) :
    Calls Try.prog 10 #[.agg #[.string n, .string s]] w fun e w' => e = .returned (.agg #[.string n, .string (fw s)]) ∧ Below w.heap.size w w' := by
  go_enter Try.func10, Try.ntmps10
  go_wp2_with fail
  obtain ⟨-, g1, ba, -⟩ := two w (Obj.cells #[Value.string n, Value.string s] 26) (Obj.cells #[Value.string n, Value.string (fw s)] 26)
  have G1 := Lib.hid g1
  clear g1
  go_region_with (go_at_call 12; refine (trimI s _ hs).mono ?_; rintro e w' ⟨rfl, rfl⟩)
  all_goals go_wp2
  all_goals
    refine bodyPost_ret (results_cell_row rfl _ _ (w.heap.size + 1) _ _ _ _ rfl G1.out Try.underlying26 rfl (by kernel_rfl)) rfl ?_
    exact ⟨rfl, ba.drew⟩

theorem below_drew (w : World) : Below w.heap.size w w.drew := ⟨rfl, rfl, rfl, Nat.le_refl _, fun _ _ => rfl⟩
theorem ne_fw {s : ByteArray} (hn : nd s = true) : (s.toList == (fw s).toList) = false := by
  have h0 : ¬ s.size = 0 := fun h => by rw [nd_nil h] at hn; cases hn
  obtain ⟨i, hi⟩ : ∃ i, s.size = i + 1 := ⟨s.size - 1, by omega⟩
  rw [fw_at hi hn, Lib.toList_data, Lib.toList_data, beq_eq_false_iff_ne]
  intro e
  have := congrArg List.length e
  rw [← Lib.size_eq, ← Lib.size_eq, ByteArray.size_extract] at this
  omega

set_option maxHeartbeats 1000000 in
theorem needI (n s : ByteArray) (w : World) (hs : s.size ≤ 140737488355328) :
    Calls Try.prog 8 #[.agg #[.string n, .string s]] w fun e w' => e = .returned (.bool (nd s)) ∧ Below w.heap.size w w' := by
  have ba := below_alloc w (Obj.cells #[Value.string n, Value.string s] 26)
  have g0 := heap_alloc_new w (Obj.cells #[Value.string n, Value.string s] 26)
  have G0 := Lib.hid g0
  clear g0
  cases hn : nd s with
  | false =>
    have ef := fw_no hn
    go_enter Try.func8, Try.ntmps8
    go_wp2_with fail
    go_region_with (go_at_call 10; refine (fewI n s _ hs).mono ?_; rintro e w1 ⟨rfl, hb⟩; rw [ef]; obtain ⟨k0, k1⟩ := keep2 (x := w1) (below_trans (below_drew _) hb) G0.out)
    all_goals go_wp2
    all_goals go_ret
    all_goals exact ⟨rfl, below_trans ba (below_trans (below_drew _) hb)⟩
  | true =>
    have ef := ne_fw hn
    go_enter Try.func8, Try.ntmps8
    go_wp2_with fail
    go_region_with (go_at_call 10; refine (fewI n s _ hs).mono ?_; rintro e w1 ⟨rfl, hb⟩; obtain ⟨k0, k1⟩ := keep2 (x := w1) (below_trans (below_drew _) hb) G0.out)
    all_goals go_wp2
    all_goals go_ret
    all_goals exact ⟨rfl, below_trans ba (below_trans (below_drew _) hb)⟩

set_option maxHeartbeats 1000000 in
/-- Two types that are the same. -/
theorem eqT (n s : ByteArray) (w : World) :
    Calls Try.prog 11 #[.agg #[.string n, .string s], .agg #[.string n, .string s]] w fun e w' => e = .returned (.bool true) ∧ Below w.heap.size w w' := by
  obtain ⟨-, -, ba, -⟩ := two w (Obj.cells #[Value.string n, Value.string s] 26) (Obj.cells #[Value.string n, Value.string s] 26)
  go_enter Try.func11, Try.ntmps11
  go_wp2
  go_ret
  exact ⟨rfl, ba⟩
end Ty
end Go.Proofs.Ytbccniijnaegaaa
