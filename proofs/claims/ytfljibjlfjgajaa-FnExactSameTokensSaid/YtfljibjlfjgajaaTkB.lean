/- What is proved: of two tokens the model's Apart and the program's answer alike, whatever their kinds and texts. (Made by tools/mktk.py.) -/
import Derived.Test.YtfljibjlfjgajaaDcA
import Derived.Test.YtfljibjlfjgajaaDaW
namespace Go.Proofs.Ytfljibjlfjgajaa
namespace Dc
set_option linter.unusedVariables false
set_option linter.unusedSimpArgs false
open Go.RowKit Da
attribute [local go_sem ↓] Go.wp_at_zero Go.wp_at_succ

/-- A number; a name or a number; whether something has to be between. -/
def nb (k : Int) : Bool := k == 3 || k == 4
def wy (k : Int) : Bool := k == 2 || (k == 3 || k == 4)
def ap (k k' : Int) (t' : ByteArray) : Bool := (wy k && wy k') || ((k == 5 && k' == 5) || (nb k && (k' == 1 && t'.toList == [46, 46, 46])))
def tok (k : Int) (t : ByteArray) (p : Int) : Value := .agg #[.int .i64 k, .string t, .int .i64 p]
theorem dots : ByteArray.toList ⟨#[46, 46, 46]⟩ = [46, 46, 46] := by decide +kernel

theorem nbI (k : Int) (t : ByteArray) (p : Int) (w : World) (b : Bool) (hb : nb k = b) : Calls Try.prog 16 #[.agg #[.int .i64 k, .string t, .int .i64 p]] w fun e w' => e = .returned (.bool b) ∧ Below w.heap.size w w' := by
  subst hb
  unfold nb
  cases h3 : (k == 3) with
  | true =>
    go_enter Try.func16, Try.ntmps16
    go_wp2
    go_ret
    exact ⟨rfl, below_alloc _ _⟩
  | false =>
    cases h4 : (k == 4) with
    | true =>
      go_enter Try.func16, Try.ntmps16
      go_wp2
      go_ret
      exact ⟨rfl, below_alloc _ _⟩
    | false =>
      go_enter Try.func16, Try.ntmps16
      go_wp2
      go_ret
      exact ⟨rfl, below_alloc _ _⟩
theorem txI (k : Int) (t : ByteArray) (p : Int) (w : World) (b : Bool) (hb : (k == 5) = b) : Calls Try.prog 18 #[.agg #[.int .i64 k, .string t, .int .i64 p]] w fun e w' => e = .returned (.bool b) ∧ Below w.heap.size w w' := by
  cases b with
  | true =>
    go_enter Try.func18, Try.ntmps18
    go_wp2
    go_ret
    exact ⟨rfl, below_alloc _ _⟩
  | false =>
    go_enter Try.func18, Try.ntmps18
    go_wp2
    go_ret
    exact ⟨rfl, below_alloc _ _⟩
theorem wyI (k : Int) (t : ByteArray) (p : Int) (w : World) (b : Bool) (hb : wy k = b) : Calls Try.prog 15 #[.agg #[.int .i64 k, .string t, .int .i64 p]] w fun e w' => e = .returned (.bool b) ∧ Below w.heap.size w w' := by
  subst hb
  unfold wy
  cases h2 : (k == 2) with
  | true =>
    go_enter Try.func15, Try.ntmps15
    go_wp2
    go_ret
    exact ⟨rfl, below_alloc _ _⟩
  | false =>
    obtain ⟨b, hb⟩ : ∃ b, nb k = b := ⟨_, rfl⟩
    rw [show (k == 3 || k == 4) = b from hb]
    go_enter Try.func15, Try.ntmps15
    go_wp2_with fail
    refine (nbI k t p _ b hb).mono ?_
    rintro e w1 ⟨rfl, hb1⟩
    go_wp2
    go_ret
    exact ⟨rfl, below_trans (below_alloc _ _) hb1⟩
theorem inS (k a b : Int) (w : World) (r : Bool) (hr : (decide (a ≤ k) && decide (k ≤ b)) = r) : Calls Try.prog 22 #[.int .i64 k, .int .i64 a, .int .i64 b] w fun e w' => e = .returned (.bool r) ∧ Below w.heap.size w w' := by
  by_cases h1 : a ≤ k
  · by_cases h2 : k ≤ b
    · obtain rfl : r = true := by rw [← hr]; simp [h1, h2]
      go_enter Try.func22, Try.ntmps22
      go_wp2
      go_ret
      exact ⟨rfl, Below.refl _ _⟩
    · obtain rfl : r = false := by rw [← hr]; simp [h1, h2]
      go_enter Try.func22, Try.ntmps22
      go_wp2
      go_ret
      exact ⟨rfl, Below.refl _ _⟩
  · obtain rfl : r = false := by rw [← hr]; simp [h1]
    go_enter Try.func22, Try.ntmps22
    go_wp2
    go_ret
    exact ⟨rfl, Below.refl _ _⟩
theorem wyS (k : Int) (t : ByteArray) (p : Int) (w : World) (b : Bool) (hb : wy k = b) : Calls Try.prog 14 #[.agg #[.int .i64 k, .string t, .int .i64 p]] w fun e w' => e = .returned (.bool b) ∧ Below w.heap.size w w' := by
  have hr : (decide (2 ≤ k) && decide (k ≤ 4)) = b := by
    rw [← hb]; unfold wy
    rw [Bool.eq_iff_iff]; simp; omega
  go_enter Try.func14, Try.ntmps14
  go_wp2_with fail
  refine (inS k 2 4 _ b hr).mono ?_
  rintro e w1 ⟨rfl, hb1⟩
  go_wp2
  go_ret
  exact ⟨rfl, below_trans (below_alloc _ _) hb1⟩
/-- Kind and text as they are asked for. -/
theorem isI (k : Int) (t : ByteArray) (p k' : Int) (t' : ByteArray) (w : World) (b : Bool) (hb : (k == k' && t.toList == t'.toList) = b) : Calls Try.prog 17 #[.agg #[.int .i64 k, .string t, .int .i64 p], .int .i64 k', .string t'] w fun e w' => e = .returned (.bool b) ∧ Below w.heap.size w w' := by
  subst hb
  cases h1 : (k == k') with
  | true =>
    cases h2 : (t.toList == t'.toList) with
    | true =>
      go_enter Try.func17, Try.ntmps17
      go_wp2
      go_ret
      exact ⟨rfl, below_alloc _ _⟩
    | false =>
      go_enter Try.func17, Try.ntmps17
      go_wp2
      go_ret
      exact ⟨rfl, below_alloc _ _⟩
  | false =>
    go_enter Try.func17, Try.ntmps17
    go_wp2
    go_ret
    exact ⟨rfl, below_alloc _ _⟩
theorem isDots (k : Int) (t : ByteArray) (p : Int) (w : World) (b : Bool) (hb : (k == 1 && t.toList == [46, 46, 46]) = b) : Calls Try.prog 17 #[.agg #[.int .i64 k, .string t, .int .i64 p], .int .i64 1, .string ⟨#[46, 46, 46]⟩] w fun e w' => e = .returned (.bool b) ∧ Below w.heap.size w w' :=
  isI k t p 1 _ w b (by rw [dots]; exact hb)

set_option maxRecDepth 100000 in
set_option maxHeartbeats 8000000 in
theorem apartS (k : Int) (t : ByteArray) (p k' : Int) (t' : ByteArray) (p' : Int) (w : World) : Calls Try.prog 6 #[.agg #[.int .i64 k, .string t, .int .i64 p], .agg #[.int .i64 k', .string t', .int .i64 p']] w fun e w' => e = .returned (.bool (ap k k' t')) ∧ Below w.heap.size w w' := by
  obtain ⟨R, hR⟩ : ∃ R, ap k k' t' = R := ⟨_, rfl⟩
  rw [hR]
  have HR := Lib.hid hR
  clear hR
  go_enter Try.func6, Try.ntmps6
  go_wp2_with fail
  obtain ⟨W1, hW1⟩ : ∃ W1, ((w.alloc (Obj.cells #[.int .i64 k, .string t, .int .i64 p] 26)).alloc (Obj.cells #[.int .i64 k', .string t', .int .i64 p'] 26)) = W1 := ⟨_, rfl⟩
  have ba : Below w.heap.size w W1 := by rw [← hW1]; exact (twoNew w _ _).2.2
  have B0 := Lib.hid (show W1.heap[w.heap.size]? = some (Obj.cells #[.int .i64 k, .string t, .int .i64 p] 26) by rw [← hW1]; exact (twoNew w _ _).1)
  have B1 := Lib.hid (show W1.heap[w.heap.size + 1]? = some (Obj.cells #[.int .i64 k', .string t', .int .i64 p'] 26) by rw [← hW1]; exact (twoNew w _ _).2.1)
  rw [hW1]
  clear hW1
  by_cases hk2 : k = 2
  · subst hk2
    by_cases hq1 : k' = 1
    · subst hq1
      refine (wyS 2 t p W1 true (by decide)).mono ?_
      rintro e w1 ⟨rfl, hb1⟩
      have bb1 := below_trans ba hb1
      have hx1 := hb1
      have q1_0 : w1.cell? ⟨w.heap.size, 0, none⟩ = some (.int .i64 2) := by rw [cell_of ((hx1.block _ (lt_of B0.out)).trans B0.out)]; rfl
      have q1_1 : w1.cell? ⟨w.heap.size, 1, none⟩ = some (.string t) := by rw [cell_of ((hx1.block _ (lt_of B0.out)).trans B0.out)]; rfl
      have q1_2 : w1.cell? ⟨w.heap.size, 2, none⟩ = some (.int .i64 p) := by rw [cell_of ((hx1.block _ (lt_of B0.out)).trans B0.out)]; rfl
      have r1_0 : w1.cell? ⟨w.heap.size + 1, 0, none⟩ = some (.int .i64 1) := by rw [cell_of ((hx1.block _ (lt_of B1.out)).trans B1.out)]; rfl
      have r1_1 : w1.cell? ⟨w.heap.size + 1, 1, none⟩ = some (.string t') := by rw [cell_of ((hx1.block _ (lt_of B1.out)).trans B1.out)]; rfl
      have r1_2 : w1.cell? ⟨w.heap.size + 1, 2, none⟩ = some (.int .i64 p') := by rw [cell_of ((hx1.block _ (lt_of B1.out)).trans B1.out)]; rfl
      go_wp2_with fail
      refine (wyS 1 t' p' w1 false (by decide)).mono ?_
      rintro e w2 ⟨rfl, hb2⟩
      have bb2 := below_trans bb1 hb2
      have hx2 := below_trans hx1 hb2
      clear q1_0 r1_0 q1_1 r1_1 q1_2 r1_2
      have q2_0 : w2.cell? ⟨w.heap.size, 0, none⟩ = some (.int .i64 2) := by rw [cell_of ((hx2.block _ (lt_of B0.out)).trans B0.out)]; rfl
      have q2_1 : w2.cell? ⟨w.heap.size, 1, none⟩ = some (.string t) := by rw [cell_of ((hx2.block _ (lt_of B0.out)).trans B0.out)]; rfl
      have q2_2 : w2.cell? ⟨w.heap.size, 2, none⟩ = some (.int .i64 p) := by rw [cell_of ((hx2.block _ (lt_of B0.out)).trans B0.out)]; rfl
      have r2_0 : w2.cell? ⟨w.heap.size + 1, 0, none⟩ = some (.int .i64 1) := by rw [cell_of ((hx2.block _ (lt_of B1.out)).trans B1.out)]; rfl
      have r2_1 : w2.cell? ⟨w.heap.size + 1, 1, none⟩ = some (.string t') := by rw [cell_of ((hx2.block _ (lt_of B1.out)).trans B1.out)]; rfl
      have r2_2 : w2.cell? ⟨w.heap.size + 1, 2, none⟩ = some (.int .i64 p') := by rw [cell_of ((hx2.block _ (lt_of B1.out)).trans B1.out)]; rfl
      obtain rfl : R = false := by rw [← HR.out]; simp [ap, wy, nb]
      go_wp2
      go_ret
      exact ⟨rfl, bb2⟩
    by_cases hq2 : k' = 2
    · subst hq2
      refine (wyS 2 t p W1 true (by decide)).mono ?_
      rintro e w1 ⟨rfl, hb1⟩
      have bb1 := below_trans ba hb1
      have hx1 := hb1
      have q1_0 : w1.cell? ⟨w.heap.size, 0, none⟩ = some (.int .i64 2) := by rw [cell_of ((hx1.block _ (lt_of B0.out)).trans B0.out)]; rfl
      have q1_1 : w1.cell? ⟨w.heap.size, 1, none⟩ = some (.string t) := by rw [cell_of ((hx1.block _ (lt_of B0.out)).trans B0.out)]; rfl
      have q1_2 : w1.cell? ⟨w.heap.size, 2, none⟩ = some (.int .i64 p) := by rw [cell_of ((hx1.block _ (lt_of B0.out)).trans B0.out)]; rfl
      have r1_0 : w1.cell? ⟨w.heap.size + 1, 0, none⟩ = some (.int .i64 2) := by rw [cell_of ((hx1.block _ (lt_of B1.out)).trans B1.out)]; rfl
      have r1_1 : w1.cell? ⟨w.heap.size + 1, 1, none⟩ = some (.string t') := by rw [cell_of ((hx1.block _ (lt_of B1.out)).trans B1.out)]; rfl
      have r1_2 : w1.cell? ⟨w.heap.size + 1, 2, none⟩ = some (.int .i64 p') := by rw [cell_of ((hx1.block _ (lt_of B1.out)).trans B1.out)]; rfl
      go_wp2_with fail
      refine (wyS 2 t' p' w1 true (by decide)).mono ?_
      rintro e w2 ⟨rfl, hb2⟩
      have bb2 := below_trans bb1 hb2
      have hx2 := below_trans hx1 hb2
      clear q1_0 r1_0 q1_1 r1_1 q1_2 r1_2
      have q2_0 : w2.cell? ⟨w.heap.size, 0, none⟩ = some (.int .i64 2) := by rw [cell_of ((hx2.block _ (lt_of B0.out)).trans B0.out)]; rfl
      have q2_1 : w2.cell? ⟨w.heap.size, 1, none⟩ = some (.string t) := by rw [cell_of ((hx2.block _ (lt_of B0.out)).trans B0.out)]; rfl
      have q2_2 : w2.cell? ⟨w.heap.size, 2, none⟩ = some (.int .i64 p) := by rw [cell_of ((hx2.block _ (lt_of B0.out)).trans B0.out)]; rfl
      have r2_0 : w2.cell? ⟨w.heap.size + 1, 0, none⟩ = some (.int .i64 2) := by rw [cell_of ((hx2.block _ (lt_of B1.out)).trans B1.out)]; rfl
      have r2_1 : w2.cell? ⟨w.heap.size + 1, 1, none⟩ = some (.string t') := by rw [cell_of ((hx2.block _ (lt_of B1.out)).trans B1.out)]; rfl
      have r2_2 : w2.cell? ⟨w.heap.size + 1, 2, none⟩ = some (.int .i64 p') := by rw [cell_of ((hx2.block _ (lt_of B1.out)).trans B1.out)]; rfl
      obtain rfl : R = true := by rw [← HR.out]; simp [ap, wy, nb]
      go_wp2
      go_ret
      exact ⟨rfl, bb2⟩
    by_cases hq3 : k' = 3
    · subst hq3
      refine (wyS 2 t p W1 true (by decide)).mono ?_
      rintro e w1 ⟨rfl, hb1⟩
      have bb1 := below_trans ba hb1
      have hx1 := hb1
      have q1_0 : w1.cell? ⟨w.heap.size, 0, none⟩ = some (.int .i64 2) := by rw [cell_of ((hx1.block _ (lt_of B0.out)).trans B0.out)]; rfl
      have q1_1 : w1.cell? ⟨w.heap.size, 1, none⟩ = some (.string t) := by rw [cell_of ((hx1.block _ (lt_of B0.out)).trans B0.out)]; rfl
      have q1_2 : w1.cell? ⟨w.heap.size, 2, none⟩ = some (.int .i64 p) := by rw [cell_of ((hx1.block _ (lt_of B0.out)).trans B0.out)]; rfl
      have r1_0 : w1.cell? ⟨w.heap.size + 1, 0, none⟩ = some (.int .i64 3) := by rw [cell_of ((hx1.block _ (lt_of B1.out)).trans B1.out)]; rfl
      have r1_1 : w1.cell? ⟨w.heap.size + 1, 1, none⟩ = some (.string t') := by rw [cell_of ((hx1.block _ (lt_of B1.out)).trans B1.out)]; rfl
      have r1_2 : w1.cell? ⟨w.heap.size + 1, 2, none⟩ = some (.int .i64 p') := by rw [cell_of ((hx1.block _ (lt_of B1.out)).trans B1.out)]; rfl
      go_wp2_with fail
      refine (wyS 3 t' p' w1 true (by decide)).mono ?_
      rintro e w2 ⟨rfl, hb2⟩
      have bb2 := below_trans bb1 hb2
      have hx2 := below_trans hx1 hb2
      clear q1_0 r1_0 q1_1 r1_1 q1_2 r1_2
      have q2_0 : w2.cell? ⟨w.heap.size, 0, none⟩ = some (.int .i64 2) := by rw [cell_of ((hx2.block _ (lt_of B0.out)).trans B0.out)]; rfl
      have q2_1 : w2.cell? ⟨w.heap.size, 1, none⟩ = some (.string t) := by rw [cell_of ((hx2.block _ (lt_of B0.out)).trans B0.out)]; rfl
      have q2_2 : w2.cell? ⟨w.heap.size, 2, none⟩ = some (.int .i64 p) := by rw [cell_of ((hx2.block _ (lt_of B0.out)).trans B0.out)]; rfl
      have r2_0 : w2.cell? ⟨w.heap.size + 1, 0, none⟩ = some (.int .i64 3) := by rw [cell_of ((hx2.block _ (lt_of B1.out)).trans B1.out)]; rfl
      have r2_1 : w2.cell? ⟨w.heap.size + 1, 1, none⟩ = some (.string t') := by rw [cell_of ((hx2.block _ (lt_of B1.out)).trans B1.out)]; rfl
      have r2_2 : w2.cell? ⟨w.heap.size + 1, 2, none⟩ = some (.int .i64 p') := by rw [cell_of ((hx2.block _ (lt_of B1.out)).trans B1.out)]; rfl
      obtain rfl : R = true := by rw [← HR.out]; simp [ap, wy, nb]
      go_wp2
      go_ret
      exact ⟨rfl, bb2⟩
    by_cases hq4 : k' = 4
    · subst hq4
      refine (wyS 2 t p W1 true (by decide)).mono ?_
      rintro e w1 ⟨rfl, hb1⟩
      have bb1 := below_trans ba hb1
      have hx1 := hb1
      have q1_0 : w1.cell? ⟨w.heap.size, 0, none⟩ = some (.int .i64 2) := by rw [cell_of ((hx1.block _ (lt_of B0.out)).trans B0.out)]; rfl
      have q1_1 : w1.cell? ⟨w.heap.size, 1, none⟩ = some (.string t) := by rw [cell_of ((hx1.block _ (lt_of B0.out)).trans B0.out)]; rfl
      have q1_2 : w1.cell? ⟨w.heap.size, 2, none⟩ = some (.int .i64 p) := by rw [cell_of ((hx1.block _ (lt_of B0.out)).trans B0.out)]; rfl
      have r1_0 : w1.cell? ⟨w.heap.size + 1, 0, none⟩ = some (.int .i64 4) := by rw [cell_of ((hx1.block _ (lt_of B1.out)).trans B1.out)]; rfl
      have r1_1 : w1.cell? ⟨w.heap.size + 1, 1, none⟩ = some (.string t') := by rw [cell_of ((hx1.block _ (lt_of B1.out)).trans B1.out)]; rfl
      have r1_2 : w1.cell? ⟨w.heap.size + 1, 2, none⟩ = some (.int .i64 p') := by rw [cell_of ((hx1.block _ (lt_of B1.out)).trans B1.out)]; rfl
      go_wp2_with fail
      refine (wyS 4 t' p' w1 true (by decide)).mono ?_
      rintro e w2 ⟨rfl, hb2⟩
      have bb2 := below_trans bb1 hb2
      have hx2 := below_trans hx1 hb2
      clear q1_0 r1_0 q1_1 r1_1 q1_2 r1_2
      have q2_0 : w2.cell? ⟨w.heap.size, 0, none⟩ = some (.int .i64 2) := by rw [cell_of ((hx2.block _ (lt_of B0.out)).trans B0.out)]; rfl
      have q2_1 : w2.cell? ⟨w.heap.size, 1, none⟩ = some (.string t) := by rw [cell_of ((hx2.block _ (lt_of B0.out)).trans B0.out)]; rfl
      have q2_2 : w2.cell? ⟨w.heap.size, 2, none⟩ = some (.int .i64 p) := by rw [cell_of ((hx2.block _ (lt_of B0.out)).trans B0.out)]; rfl
      have r2_0 : w2.cell? ⟨w.heap.size + 1, 0, none⟩ = some (.int .i64 4) := by rw [cell_of ((hx2.block _ (lt_of B1.out)).trans B1.out)]; rfl
      have r2_1 : w2.cell? ⟨w.heap.size + 1, 1, none⟩ = some (.string t') := by rw [cell_of ((hx2.block _ (lt_of B1.out)).trans B1.out)]; rfl
      have r2_2 : w2.cell? ⟨w.heap.size + 1, 2, none⟩ = some (.int .i64 p') := by rw [cell_of ((hx2.block _ (lt_of B1.out)).trans B1.out)]; rfl
      obtain rfl : R = true := by rw [← HR.out]; simp [ap, wy, nb]
      go_wp2
      go_ret
      exact ⟨rfl, bb2⟩
    by_cases hq5 : k' = 5
    · subst hq5
      refine (wyS 2 t p W1 true (by decide)).mono ?_
      rintro e w1 ⟨rfl, hb1⟩
      have bb1 := below_trans ba hb1
      have hx1 := hb1
      have q1_0 : w1.cell? ⟨w.heap.size, 0, none⟩ = some (.int .i64 2) := by rw [cell_of ((hx1.block _ (lt_of B0.out)).trans B0.out)]; rfl
      have q1_1 : w1.cell? ⟨w.heap.size, 1, none⟩ = some (.string t) := by rw [cell_of ((hx1.block _ (lt_of B0.out)).trans B0.out)]; rfl
      have q1_2 : w1.cell? ⟨w.heap.size, 2, none⟩ = some (.int .i64 p) := by rw [cell_of ((hx1.block _ (lt_of B0.out)).trans B0.out)]; rfl
      have r1_0 : w1.cell? ⟨w.heap.size + 1, 0, none⟩ = some (.int .i64 5) := by rw [cell_of ((hx1.block _ (lt_of B1.out)).trans B1.out)]; rfl
      have r1_1 : w1.cell? ⟨w.heap.size + 1, 1, none⟩ = some (.string t') := by rw [cell_of ((hx1.block _ (lt_of B1.out)).trans B1.out)]; rfl
      have r1_2 : w1.cell? ⟨w.heap.size + 1, 2, none⟩ = some (.int .i64 p') := by rw [cell_of ((hx1.block _ (lt_of B1.out)).trans B1.out)]; rfl
      go_wp2_with fail
      refine (wyS 5 t' p' w1 false (by decide)).mono ?_
      rintro e w2 ⟨rfl, hb2⟩
      have bb2 := below_trans bb1 hb2
      have hx2 := below_trans hx1 hb2
      clear q1_0 r1_0 q1_1 r1_1 q1_2 r1_2
      have q2_0 : w2.cell? ⟨w.heap.size, 0, none⟩ = some (.int .i64 2) := by rw [cell_of ((hx2.block _ (lt_of B0.out)).trans B0.out)]; rfl
      have q2_1 : w2.cell? ⟨w.heap.size, 1, none⟩ = some (.string t) := by rw [cell_of ((hx2.block _ (lt_of B0.out)).trans B0.out)]; rfl
      have q2_2 : w2.cell? ⟨w.heap.size, 2, none⟩ = some (.int .i64 p) := by rw [cell_of ((hx2.block _ (lt_of B0.out)).trans B0.out)]; rfl
      have r2_0 : w2.cell? ⟨w.heap.size + 1, 0, none⟩ = some (.int .i64 5) := by rw [cell_of ((hx2.block _ (lt_of B1.out)).trans B1.out)]; rfl
      have r2_1 : w2.cell? ⟨w.heap.size + 1, 1, none⟩ = some (.string t') := by rw [cell_of ((hx2.block _ (lt_of B1.out)).trans B1.out)]; rfl
      have r2_2 : w2.cell? ⟨w.heap.size + 1, 2, none⟩ = some (.int .i64 p') := by rw [cell_of ((hx2.block _ (lt_of B1.out)).trans B1.out)]; rfl
      obtain rfl : R = false := by rw [← HR.out]; simp [ap, wy, nb]
      go_wp2
      go_ret
      exact ⟨rfl, bb2⟩
    replace hq1 : (k' == 1) = false := by simp [hq1]
    replace hq2 : (k' == 2) = false := by simp [hq2]
    replace hq3 : (k' == 3) = false := by simp [hq3]
    replace hq4 : (k' == 4) = false := by simp [hq4]
    replace hq5 : (k' == 5) = false := by simp [hq5]
    have hqw : wy k' = false := by simp [wy, hq2, hq3, hq4]
    refine (wyS 2 t p W1 true (by decide)).mono ?_
    rintro e w1 ⟨rfl, hb1⟩
    have bb1 := below_trans ba hb1
    have hx1 := hb1
    have q1_0 : w1.cell? ⟨w.heap.size, 0, none⟩ = some (.int .i64 2) := by rw [cell_of ((hx1.block _ (lt_of B0.out)).trans B0.out)]; rfl
    have q1_1 : w1.cell? ⟨w.heap.size, 1, none⟩ = some (.string t) := by rw [cell_of ((hx1.block _ (lt_of B0.out)).trans B0.out)]; rfl
    have q1_2 : w1.cell? ⟨w.heap.size, 2, none⟩ = some (.int .i64 p) := by rw [cell_of ((hx1.block _ (lt_of B0.out)).trans B0.out)]; rfl
    have r1_0 : w1.cell? ⟨w.heap.size + 1, 0, none⟩ = some (.int .i64 k') := by rw [cell_of ((hx1.block _ (lt_of B1.out)).trans B1.out)]; rfl
    have r1_1 : w1.cell? ⟨w.heap.size + 1, 1, none⟩ = some (.string t') := by rw [cell_of ((hx1.block _ (lt_of B1.out)).trans B1.out)]; rfl
    have r1_2 : w1.cell? ⟨w.heap.size + 1, 2, none⟩ = some (.int .i64 p') := by rw [cell_of ((hx1.block _ (lt_of B1.out)).trans B1.out)]; rfl
    go_wp2_with fail
    refine (wyS k' t' p' w1 false hqw).mono ?_
    rintro e w2 ⟨rfl, hb2⟩
    have bb2 := below_trans bb1 hb2
    have hx2 := below_trans hx1 hb2
    clear q1_0 r1_0 q1_1 r1_1 q1_2 r1_2
    have q2_0 : w2.cell? ⟨w.heap.size, 0, none⟩ = some (.int .i64 2) := by rw [cell_of ((hx2.block _ (lt_of B0.out)).trans B0.out)]; rfl
    have q2_1 : w2.cell? ⟨w.heap.size, 1, none⟩ = some (.string t) := by rw [cell_of ((hx2.block _ (lt_of B0.out)).trans B0.out)]; rfl
    have q2_2 : w2.cell? ⟨w.heap.size, 2, none⟩ = some (.int .i64 p) := by rw [cell_of ((hx2.block _ (lt_of B0.out)).trans B0.out)]; rfl
    have r2_0 : w2.cell? ⟨w.heap.size + 1, 0, none⟩ = some (.int .i64 k') := by rw [cell_of ((hx2.block _ (lt_of B1.out)).trans B1.out)]; rfl
    have r2_1 : w2.cell? ⟨w.heap.size + 1, 1, none⟩ = some (.string t') := by rw [cell_of ((hx2.block _ (lt_of B1.out)).trans B1.out)]; rfl
    have r2_2 : w2.cell? ⟨w.heap.size + 1, 2, none⟩ = some (.int .i64 p') := by rw [cell_of ((hx2.block _ (lt_of B1.out)).trans B1.out)]; rfl
    obtain rfl : R = false := by rw [← HR.out]; simp [ap, wy, nb, hq1, hq2, hq3, hq4, hq5]
    go_wp2
    go_ret
    exact ⟨rfl, bb2⟩
  by_cases hk3 : k = 3
  · subst hk3
    by_cases hq1 : k' = 1
    · subst hq1
      cases hd : (t'.toList == [46, 46, 46]) with
      | true =>
        refine (wyS 3 t p W1 true (by decide)).mono ?_
        rintro e w1 ⟨rfl, hb1⟩
        have bb1 := below_trans ba hb1
        have hx1 := hb1
        have q1_0 : w1.cell? ⟨w.heap.size, 0, none⟩ = some (.int .i64 3) := by rw [cell_of ((hx1.block _ (lt_of B0.out)).trans B0.out)]; rfl
        have q1_1 : w1.cell? ⟨w.heap.size, 1, none⟩ = some (.string t) := by rw [cell_of ((hx1.block _ (lt_of B0.out)).trans B0.out)]; rfl
        have q1_2 : w1.cell? ⟨w.heap.size, 2, none⟩ = some (.int .i64 p) := by rw [cell_of ((hx1.block _ (lt_of B0.out)).trans B0.out)]; rfl
        have r1_0 : w1.cell? ⟨w.heap.size + 1, 0, none⟩ = some (.int .i64 1) := by rw [cell_of ((hx1.block _ (lt_of B1.out)).trans B1.out)]; rfl
        have r1_1 : w1.cell? ⟨w.heap.size + 1, 1, none⟩ = some (.string t') := by rw [cell_of ((hx1.block _ (lt_of B1.out)).trans B1.out)]; rfl
        have r1_2 : w1.cell? ⟨w.heap.size + 1, 2, none⟩ = some (.int .i64 p') := by rw [cell_of ((hx1.block _ (lt_of B1.out)).trans B1.out)]; rfl
        go_wp2_with fail
        refine (wyS 1 t' p' w1 false (by decide)).mono ?_
        rintro e w2 ⟨rfl, hb2⟩
        have bb2 := below_trans bb1 hb2
        have hx2 := below_trans hx1 hb2
        clear q1_0 r1_0 q1_1 r1_1 q1_2 r1_2
        have q2_0 : w2.cell? ⟨w.heap.size, 0, none⟩ = some (.int .i64 3) := by rw [cell_of ((hx2.block _ (lt_of B0.out)).trans B0.out)]; rfl
        have q2_1 : w2.cell? ⟨w.heap.size, 1, none⟩ = some (.string t) := by rw [cell_of ((hx2.block _ (lt_of B0.out)).trans B0.out)]; rfl
        have q2_2 : w2.cell? ⟨w.heap.size, 2, none⟩ = some (.int .i64 p) := by rw [cell_of ((hx2.block _ (lt_of B0.out)).trans B0.out)]; rfl
        have r2_0 : w2.cell? ⟨w.heap.size + 1, 0, none⟩ = some (.int .i64 1) := by rw [cell_of ((hx2.block _ (lt_of B1.out)).trans B1.out)]; rfl
        have r2_1 : w2.cell? ⟨w.heap.size + 1, 1, none⟩ = some (.string t') := by rw [cell_of ((hx2.block _ (lt_of B1.out)).trans B1.out)]; rfl
        have r2_2 : w2.cell? ⟨w.heap.size + 1, 2, none⟩ = some (.int .i64 p') := by rw [cell_of ((hx2.block _ (lt_of B1.out)).trans B1.out)]; rfl
        obtain rfl : R = true := by rw [← HR.out]; simp [ap, wy, nb, hd]
        go_wp2
        go_ret
        exact ⟨rfl, bb2⟩
      | false =>
        refine (wyS 3 t p W1 true (by decide)).mono ?_
        rintro e w1 ⟨rfl, hb1⟩
        have bb1 := below_trans ba hb1
        have hx1 := hb1
        have q1_0 : w1.cell? ⟨w.heap.size, 0, none⟩ = some (.int .i64 3) := by rw [cell_of ((hx1.block _ (lt_of B0.out)).trans B0.out)]; rfl
        have q1_1 : w1.cell? ⟨w.heap.size, 1, none⟩ = some (.string t) := by rw [cell_of ((hx1.block _ (lt_of B0.out)).trans B0.out)]; rfl
        have q1_2 : w1.cell? ⟨w.heap.size, 2, none⟩ = some (.int .i64 p) := by rw [cell_of ((hx1.block _ (lt_of B0.out)).trans B0.out)]; rfl
        have r1_0 : w1.cell? ⟨w.heap.size + 1, 0, none⟩ = some (.int .i64 1) := by rw [cell_of ((hx1.block _ (lt_of B1.out)).trans B1.out)]; rfl
        have r1_1 : w1.cell? ⟨w.heap.size + 1, 1, none⟩ = some (.string t') := by rw [cell_of ((hx1.block _ (lt_of B1.out)).trans B1.out)]; rfl
        have r1_2 : w1.cell? ⟨w.heap.size + 1, 2, none⟩ = some (.int .i64 p') := by rw [cell_of ((hx1.block _ (lt_of B1.out)).trans B1.out)]; rfl
        go_wp2_with fail
        refine (wyS 1 t' p' w1 false (by decide)).mono ?_
        rintro e w2 ⟨rfl, hb2⟩
        have bb2 := below_trans bb1 hb2
        have hx2 := below_trans hx1 hb2
        clear q1_0 r1_0 q1_1 r1_1 q1_2 r1_2
        have q2_0 : w2.cell? ⟨w.heap.size, 0, none⟩ = some (.int .i64 3) := by rw [cell_of ((hx2.block _ (lt_of B0.out)).trans B0.out)]; rfl
        have q2_1 : w2.cell? ⟨w.heap.size, 1, none⟩ = some (.string t) := by rw [cell_of ((hx2.block _ (lt_of B0.out)).trans B0.out)]; rfl
        have q2_2 : w2.cell? ⟨w.heap.size, 2, none⟩ = some (.int .i64 p) := by rw [cell_of ((hx2.block _ (lt_of B0.out)).trans B0.out)]; rfl
        have r2_0 : w2.cell? ⟨w.heap.size + 1, 0, none⟩ = some (.int .i64 1) := by rw [cell_of ((hx2.block _ (lt_of B1.out)).trans B1.out)]; rfl
        have r2_1 : w2.cell? ⟨w.heap.size + 1, 1, none⟩ = some (.string t') := by rw [cell_of ((hx2.block _ (lt_of B1.out)).trans B1.out)]; rfl
        have r2_2 : w2.cell? ⟨w.heap.size + 1, 2, none⟩ = some (.int .i64 p') := by rw [cell_of ((hx2.block _ (lt_of B1.out)).trans B1.out)]; rfl
        obtain rfl : R = false := by rw [← HR.out]; simp [ap, wy, nb, hd]
        go_wp2
        go_ret
        exact ⟨rfl, bb2⟩
    by_cases hq2 : k' = 2
    · subst hq2
      refine (wyS 3 t p W1 true (by decide)).mono ?_
      rintro e w1 ⟨rfl, hb1⟩
      have bb1 := below_trans ba hb1
      have hx1 := hb1
      have q1_0 : w1.cell? ⟨w.heap.size, 0, none⟩ = some (.int .i64 3) := by rw [cell_of ((hx1.block _ (lt_of B0.out)).trans B0.out)]; rfl
      have q1_1 : w1.cell? ⟨w.heap.size, 1, none⟩ = some (.string t) := by rw [cell_of ((hx1.block _ (lt_of B0.out)).trans B0.out)]; rfl
      have q1_2 : w1.cell? ⟨w.heap.size, 2, none⟩ = some (.int .i64 p) := by rw [cell_of ((hx1.block _ (lt_of B0.out)).trans B0.out)]; rfl
      have r1_0 : w1.cell? ⟨w.heap.size + 1, 0, none⟩ = some (.int .i64 2) := by rw [cell_of ((hx1.block _ (lt_of B1.out)).trans B1.out)]; rfl
      have r1_1 : w1.cell? ⟨w.heap.size + 1, 1, none⟩ = some (.string t') := by rw [cell_of ((hx1.block _ (lt_of B1.out)).trans B1.out)]; rfl
      have r1_2 : w1.cell? ⟨w.heap.size + 1, 2, none⟩ = some (.int .i64 p') := by rw [cell_of ((hx1.block _ (lt_of B1.out)).trans B1.out)]; rfl
      go_wp2_with fail
      refine (wyS 2 t' p' w1 true (by decide)).mono ?_
      rintro e w2 ⟨rfl, hb2⟩
      have bb2 := below_trans bb1 hb2
      have hx2 := below_trans hx1 hb2
      clear q1_0 r1_0 q1_1 r1_1 q1_2 r1_2
      have q2_0 : w2.cell? ⟨w.heap.size, 0, none⟩ = some (.int .i64 3) := by rw [cell_of ((hx2.block _ (lt_of B0.out)).trans B0.out)]; rfl
      have q2_1 : w2.cell? ⟨w.heap.size, 1, none⟩ = some (.string t) := by rw [cell_of ((hx2.block _ (lt_of B0.out)).trans B0.out)]; rfl
      have q2_2 : w2.cell? ⟨w.heap.size, 2, none⟩ = some (.int .i64 p) := by rw [cell_of ((hx2.block _ (lt_of B0.out)).trans B0.out)]; rfl
      have r2_0 : w2.cell? ⟨w.heap.size + 1, 0, none⟩ = some (.int .i64 2) := by rw [cell_of ((hx2.block _ (lt_of B1.out)).trans B1.out)]; rfl
      have r2_1 : w2.cell? ⟨w.heap.size + 1, 1, none⟩ = some (.string t') := by rw [cell_of ((hx2.block _ (lt_of B1.out)).trans B1.out)]; rfl
      have r2_2 : w2.cell? ⟨w.heap.size + 1, 2, none⟩ = some (.int .i64 p') := by rw [cell_of ((hx2.block _ (lt_of B1.out)).trans B1.out)]; rfl
      obtain rfl : R = true := by rw [← HR.out]; simp [ap, wy, nb]
      go_wp2
      go_ret
      exact ⟨rfl, bb2⟩
    by_cases hq3 : k' = 3
    · subst hq3
      refine (wyS 3 t p W1 true (by decide)).mono ?_
      rintro e w1 ⟨rfl, hb1⟩
      have bb1 := below_trans ba hb1
      have hx1 := hb1
      have q1_0 : w1.cell? ⟨w.heap.size, 0, none⟩ = some (.int .i64 3) := by rw [cell_of ((hx1.block _ (lt_of B0.out)).trans B0.out)]; rfl
      have q1_1 : w1.cell? ⟨w.heap.size, 1, none⟩ = some (.string t) := by rw [cell_of ((hx1.block _ (lt_of B0.out)).trans B0.out)]; rfl
      have q1_2 : w1.cell? ⟨w.heap.size, 2, none⟩ = some (.int .i64 p) := by rw [cell_of ((hx1.block _ (lt_of B0.out)).trans B0.out)]; rfl
      have r1_0 : w1.cell? ⟨w.heap.size + 1, 0, none⟩ = some (.int .i64 3) := by rw [cell_of ((hx1.block _ (lt_of B1.out)).trans B1.out)]; rfl
      have r1_1 : w1.cell? ⟨w.heap.size + 1, 1, none⟩ = some (.string t') := by rw [cell_of ((hx1.block _ (lt_of B1.out)).trans B1.out)]; rfl
      have r1_2 : w1.cell? ⟨w.heap.size + 1, 2, none⟩ = some (.int .i64 p') := by rw [cell_of ((hx1.block _ (lt_of B1.out)).trans B1.out)]; rfl
      go_wp2_with fail
      refine (wyS 3 t' p' w1 true (by decide)).mono ?_
      rintro e w2 ⟨rfl, hb2⟩
      have bb2 := below_trans bb1 hb2
      have hx2 := below_trans hx1 hb2
      clear q1_0 r1_0 q1_1 r1_1 q1_2 r1_2
      have q2_0 : w2.cell? ⟨w.heap.size, 0, none⟩ = some (.int .i64 3) := by rw [cell_of ((hx2.block _ (lt_of B0.out)).trans B0.out)]; rfl
      have q2_1 : w2.cell? ⟨w.heap.size, 1, none⟩ = some (.string t) := by rw [cell_of ((hx2.block _ (lt_of B0.out)).trans B0.out)]; rfl
      have q2_2 : w2.cell? ⟨w.heap.size, 2, none⟩ = some (.int .i64 p) := by rw [cell_of ((hx2.block _ (lt_of B0.out)).trans B0.out)]; rfl
      have r2_0 : w2.cell? ⟨w.heap.size + 1, 0, none⟩ = some (.int .i64 3) := by rw [cell_of ((hx2.block _ (lt_of B1.out)).trans B1.out)]; rfl
      have r2_1 : w2.cell? ⟨w.heap.size + 1, 1, none⟩ = some (.string t') := by rw [cell_of ((hx2.block _ (lt_of B1.out)).trans B1.out)]; rfl
      have r2_2 : w2.cell? ⟨w.heap.size + 1, 2, none⟩ = some (.int .i64 p') := by rw [cell_of ((hx2.block _ (lt_of B1.out)).trans B1.out)]; rfl
      obtain rfl : R = true := by rw [← HR.out]; simp [ap, wy, nb]
      go_wp2
      go_ret
      exact ⟨rfl, bb2⟩
    by_cases hq4 : k' = 4
    · subst hq4
      refine (wyS 3 t p W1 true (by decide)).mono ?_
      rintro e w1 ⟨rfl, hb1⟩
      have bb1 := below_trans ba hb1
      have hx1 := hb1
      have q1_0 : w1.cell? ⟨w.heap.size, 0, none⟩ = some (.int .i64 3) := by rw [cell_of ((hx1.block _ (lt_of B0.out)).trans B0.out)]; rfl
      have q1_1 : w1.cell? ⟨w.heap.size, 1, none⟩ = some (.string t) := by rw [cell_of ((hx1.block _ (lt_of B0.out)).trans B0.out)]; rfl
      have q1_2 : w1.cell? ⟨w.heap.size, 2, none⟩ = some (.int .i64 p) := by rw [cell_of ((hx1.block _ (lt_of B0.out)).trans B0.out)]; rfl
      have r1_0 : w1.cell? ⟨w.heap.size + 1, 0, none⟩ = some (.int .i64 4) := by rw [cell_of ((hx1.block _ (lt_of B1.out)).trans B1.out)]; rfl
      have r1_1 : w1.cell? ⟨w.heap.size + 1, 1, none⟩ = some (.string t') := by rw [cell_of ((hx1.block _ (lt_of B1.out)).trans B1.out)]; rfl
      have r1_2 : w1.cell? ⟨w.heap.size + 1, 2, none⟩ = some (.int .i64 p') := by rw [cell_of ((hx1.block _ (lt_of B1.out)).trans B1.out)]; rfl
      go_wp2_with fail
      refine (wyS 4 t' p' w1 true (by decide)).mono ?_
      rintro e w2 ⟨rfl, hb2⟩
      have bb2 := below_trans bb1 hb2
      have hx2 := below_trans hx1 hb2
      clear q1_0 r1_0 q1_1 r1_1 q1_2 r1_2
      have q2_0 : w2.cell? ⟨w.heap.size, 0, none⟩ = some (.int .i64 3) := by rw [cell_of ((hx2.block _ (lt_of B0.out)).trans B0.out)]; rfl
      have q2_1 : w2.cell? ⟨w.heap.size, 1, none⟩ = some (.string t) := by rw [cell_of ((hx2.block _ (lt_of B0.out)).trans B0.out)]; rfl
      have q2_2 : w2.cell? ⟨w.heap.size, 2, none⟩ = some (.int .i64 p) := by rw [cell_of ((hx2.block _ (lt_of B0.out)).trans B0.out)]; rfl
      have r2_0 : w2.cell? ⟨w.heap.size + 1, 0, none⟩ = some (.int .i64 4) := by rw [cell_of ((hx2.block _ (lt_of B1.out)).trans B1.out)]; rfl
      have r2_1 : w2.cell? ⟨w.heap.size + 1, 1, none⟩ = some (.string t') := by rw [cell_of ((hx2.block _ (lt_of B1.out)).trans B1.out)]; rfl
      have r2_2 : w2.cell? ⟨w.heap.size + 1, 2, none⟩ = some (.int .i64 p') := by rw [cell_of ((hx2.block _ (lt_of B1.out)).trans B1.out)]; rfl
      obtain rfl : R = true := by rw [← HR.out]; simp [ap, wy, nb]
      go_wp2
      go_ret
      exact ⟨rfl, bb2⟩
    by_cases hq5 : k' = 5
    · subst hq5
      refine (wyS 3 t p W1 true (by decide)).mono ?_
      rintro e w1 ⟨rfl, hb1⟩
      have bb1 := below_trans ba hb1
      have hx1 := hb1
      have q1_0 : w1.cell? ⟨w.heap.size, 0, none⟩ = some (.int .i64 3) := by rw [cell_of ((hx1.block _ (lt_of B0.out)).trans B0.out)]; rfl
      have q1_1 : w1.cell? ⟨w.heap.size, 1, none⟩ = some (.string t) := by rw [cell_of ((hx1.block _ (lt_of B0.out)).trans B0.out)]; rfl
      have q1_2 : w1.cell? ⟨w.heap.size, 2, none⟩ = some (.int .i64 p) := by rw [cell_of ((hx1.block _ (lt_of B0.out)).trans B0.out)]; rfl
      have r1_0 : w1.cell? ⟨w.heap.size + 1, 0, none⟩ = some (.int .i64 5) := by rw [cell_of ((hx1.block _ (lt_of B1.out)).trans B1.out)]; rfl
      have r1_1 : w1.cell? ⟨w.heap.size + 1, 1, none⟩ = some (.string t') := by rw [cell_of ((hx1.block _ (lt_of B1.out)).trans B1.out)]; rfl
      have r1_2 : w1.cell? ⟨w.heap.size + 1, 2, none⟩ = some (.int .i64 p') := by rw [cell_of ((hx1.block _ (lt_of B1.out)).trans B1.out)]; rfl
      go_wp2_with fail
      refine (wyS 5 t' p' w1 false (by decide)).mono ?_
      rintro e w2 ⟨rfl, hb2⟩
      have bb2 := below_trans bb1 hb2
      have hx2 := below_trans hx1 hb2
      clear q1_0 r1_0 q1_1 r1_1 q1_2 r1_2
      have q2_0 : w2.cell? ⟨w.heap.size, 0, none⟩ = some (.int .i64 3) := by rw [cell_of ((hx2.block _ (lt_of B0.out)).trans B0.out)]; rfl
      have q2_1 : w2.cell? ⟨w.heap.size, 1, none⟩ = some (.string t) := by rw [cell_of ((hx2.block _ (lt_of B0.out)).trans B0.out)]; rfl
      have q2_2 : w2.cell? ⟨w.heap.size, 2, none⟩ = some (.int .i64 p) := by rw [cell_of ((hx2.block _ (lt_of B0.out)).trans B0.out)]; rfl
      have r2_0 : w2.cell? ⟨w.heap.size + 1, 0, none⟩ = some (.int .i64 5) := by rw [cell_of ((hx2.block _ (lt_of B1.out)).trans B1.out)]; rfl
      have r2_1 : w2.cell? ⟨w.heap.size + 1, 1, none⟩ = some (.string t') := by rw [cell_of ((hx2.block _ (lt_of B1.out)).trans B1.out)]; rfl
      have r2_2 : w2.cell? ⟨w.heap.size + 1, 2, none⟩ = some (.int .i64 p') := by rw [cell_of ((hx2.block _ (lt_of B1.out)).trans B1.out)]; rfl
      obtain rfl : R = false := by rw [← HR.out]; simp [ap, wy, nb]
      go_wp2
      go_ret
      exact ⟨rfl, bb2⟩
    replace hq1 : (k' == 1) = false := by simp [hq1]
    replace hq2 : (k' == 2) = false := by simp [hq2]
    replace hq3 : (k' == 3) = false := by simp [hq3]
    replace hq4 : (k' == 4) = false := by simp [hq4]
    replace hq5 : (k' == 5) = false := by simp [hq5]
    have hqw : wy k' = false := by simp [wy, hq2, hq3, hq4]
    refine (wyS 3 t p W1 true (by decide)).mono ?_
    rintro e w1 ⟨rfl, hb1⟩
    have bb1 := below_trans ba hb1
    have hx1 := hb1
    have q1_0 : w1.cell? ⟨w.heap.size, 0, none⟩ = some (.int .i64 3) := by rw [cell_of ((hx1.block _ (lt_of B0.out)).trans B0.out)]; rfl
    have q1_1 : w1.cell? ⟨w.heap.size, 1, none⟩ = some (.string t) := by rw [cell_of ((hx1.block _ (lt_of B0.out)).trans B0.out)]; rfl
    have q1_2 : w1.cell? ⟨w.heap.size, 2, none⟩ = some (.int .i64 p) := by rw [cell_of ((hx1.block _ (lt_of B0.out)).trans B0.out)]; rfl
    have r1_0 : w1.cell? ⟨w.heap.size + 1, 0, none⟩ = some (.int .i64 k') := by rw [cell_of ((hx1.block _ (lt_of B1.out)).trans B1.out)]; rfl
    have r1_1 : w1.cell? ⟨w.heap.size + 1, 1, none⟩ = some (.string t') := by rw [cell_of ((hx1.block _ (lt_of B1.out)).trans B1.out)]; rfl
    have r1_2 : w1.cell? ⟨w.heap.size + 1, 2, none⟩ = some (.int .i64 p') := by rw [cell_of ((hx1.block _ (lt_of B1.out)).trans B1.out)]; rfl
    go_wp2_with fail
    refine (wyS k' t' p' w1 false hqw).mono ?_
    rintro e w2 ⟨rfl, hb2⟩
    have bb2 := below_trans bb1 hb2
    have hx2 := below_trans hx1 hb2
    clear q1_0 r1_0 q1_1 r1_1 q1_2 r1_2
    have q2_0 : w2.cell? ⟨w.heap.size, 0, none⟩ = some (.int .i64 3) := by rw [cell_of ((hx2.block _ (lt_of B0.out)).trans B0.out)]; rfl
    have q2_1 : w2.cell? ⟨w.heap.size, 1, none⟩ = some (.string t) := by rw [cell_of ((hx2.block _ (lt_of B0.out)).trans B0.out)]; rfl
    have q2_2 : w2.cell? ⟨w.heap.size, 2, none⟩ = some (.int .i64 p) := by rw [cell_of ((hx2.block _ (lt_of B0.out)).trans B0.out)]; rfl
    have r2_0 : w2.cell? ⟨w.heap.size + 1, 0, none⟩ = some (.int .i64 k') := by rw [cell_of ((hx2.block _ (lt_of B1.out)).trans B1.out)]; rfl
    have r2_1 : w2.cell? ⟨w.heap.size + 1, 1, none⟩ = some (.string t') := by rw [cell_of ((hx2.block _ (lt_of B1.out)).trans B1.out)]; rfl
    have r2_2 : w2.cell? ⟨w.heap.size + 1, 2, none⟩ = some (.int .i64 p') := by rw [cell_of ((hx2.block _ (lt_of B1.out)).trans B1.out)]; rfl
    obtain rfl : R = false := by rw [← HR.out]; simp [ap, wy, nb, hq1, hq2, hq3, hq4, hq5]
    go_wp2
    go_ret
    exact ⟨rfl, bb2⟩
  by_cases hk4 : k = 4
  · subst hk4
    by_cases hq1 : k' = 1
    · subst hq1
      cases hd : (t'.toList == [46, 46, 46]) with
      | true =>
        refine (wyS 4 t p W1 true (by decide)).mono ?_
        rintro e w1 ⟨rfl, hb1⟩
        have bb1 := below_trans ba hb1
        have hx1 := hb1
        have q1_0 : w1.cell? ⟨w.heap.size, 0, none⟩ = some (.int .i64 4) := by rw [cell_of ((hx1.block _ (lt_of B0.out)).trans B0.out)]; rfl
        have q1_1 : w1.cell? ⟨w.heap.size, 1, none⟩ = some (.string t) := by rw [cell_of ((hx1.block _ (lt_of B0.out)).trans B0.out)]; rfl
        have q1_2 : w1.cell? ⟨w.heap.size, 2, none⟩ = some (.int .i64 p) := by rw [cell_of ((hx1.block _ (lt_of B0.out)).trans B0.out)]; rfl
        have r1_0 : w1.cell? ⟨w.heap.size + 1, 0, none⟩ = some (.int .i64 1) := by rw [cell_of ((hx1.block _ (lt_of B1.out)).trans B1.out)]; rfl
        have r1_1 : w1.cell? ⟨w.heap.size + 1, 1, none⟩ = some (.string t') := by rw [cell_of ((hx1.block _ (lt_of B1.out)).trans B1.out)]; rfl
        have r1_2 : w1.cell? ⟨w.heap.size + 1, 2, none⟩ = some (.int .i64 p') := by rw [cell_of ((hx1.block _ (lt_of B1.out)).trans B1.out)]; rfl
        go_wp2_with fail
        refine (wyS 1 t' p' w1 false (by decide)).mono ?_
        rintro e w2 ⟨rfl, hb2⟩
        have bb2 := below_trans bb1 hb2
        have hx2 := below_trans hx1 hb2
        clear q1_0 r1_0 q1_1 r1_1 q1_2 r1_2
        have q2_0 : w2.cell? ⟨w.heap.size, 0, none⟩ = some (.int .i64 4) := by rw [cell_of ((hx2.block _ (lt_of B0.out)).trans B0.out)]; rfl
        have q2_1 : w2.cell? ⟨w.heap.size, 1, none⟩ = some (.string t) := by rw [cell_of ((hx2.block _ (lt_of B0.out)).trans B0.out)]; rfl
        have q2_2 : w2.cell? ⟨w.heap.size, 2, none⟩ = some (.int .i64 p) := by rw [cell_of ((hx2.block _ (lt_of B0.out)).trans B0.out)]; rfl
        have r2_0 : w2.cell? ⟨w.heap.size + 1, 0, none⟩ = some (.int .i64 1) := by rw [cell_of ((hx2.block _ (lt_of B1.out)).trans B1.out)]; rfl
        have r2_1 : w2.cell? ⟨w.heap.size + 1, 1, none⟩ = some (.string t') := by rw [cell_of ((hx2.block _ (lt_of B1.out)).trans B1.out)]; rfl
        have r2_2 : w2.cell? ⟨w.heap.size + 1, 2, none⟩ = some (.int .i64 p') := by rw [cell_of ((hx2.block _ (lt_of B1.out)).trans B1.out)]; rfl
        obtain rfl : R = true := by rw [← HR.out]; simp [ap, wy, nb, hd]
        go_wp2
        go_ret
        exact ⟨rfl, bb2⟩
      | false =>
        refine (wyS 4 t p W1 true (by decide)).mono ?_
        rintro e w1 ⟨rfl, hb1⟩
        have bb1 := below_trans ba hb1
        have hx1 := hb1
        have q1_0 : w1.cell? ⟨w.heap.size, 0, none⟩ = some (.int .i64 4) := by rw [cell_of ((hx1.block _ (lt_of B0.out)).trans B0.out)]; rfl
        have q1_1 : w1.cell? ⟨w.heap.size, 1, none⟩ = some (.string t) := by rw [cell_of ((hx1.block _ (lt_of B0.out)).trans B0.out)]; rfl
        have q1_2 : w1.cell? ⟨w.heap.size, 2, none⟩ = some (.int .i64 p) := by rw [cell_of ((hx1.block _ (lt_of B0.out)).trans B0.out)]; rfl
        have r1_0 : w1.cell? ⟨w.heap.size + 1, 0, none⟩ = some (.int .i64 1) := by rw [cell_of ((hx1.block _ (lt_of B1.out)).trans B1.out)]; rfl
        have r1_1 : w1.cell? ⟨w.heap.size + 1, 1, none⟩ = some (.string t') := by rw [cell_of ((hx1.block _ (lt_of B1.out)).trans B1.out)]; rfl
        have r1_2 : w1.cell? ⟨w.heap.size + 1, 2, none⟩ = some (.int .i64 p') := by rw [cell_of ((hx1.block _ (lt_of B1.out)).trans B1.out)]; rfl
        go_wp2_with fail
        refine (wyS 1 t' p' w1 false (by decide)).mono ?_
        rintro e w2 ⟨rfl, hb2⟩
        have bb2 := below_trans bb1 hb2
        have hx2 := below_trans hx1 hb2
        clear q1_0 r1_0 q1_1 r1_1 q1_2 r1_2
        have q2_0 : w2.cell? ⟨w.heap.size, 0, none⟩ = some (.int .i64 4) := by rw [cell_of ((hx2.block _ (lt_of B0.out)).trans B0.out)]; rfl
        have q2_1 : w2.cell? ⟨w.heap.size, 1, none⟩ = some (.string t) := by rw [cell_of ((hx2.block _ (lt_of B0.out)).trans B0.out)]; rfl
        have q2_2 : w2.cell? ⟨w.heap.size, 2, none⟩ = some (.int .i64 p) := by rw [cell_of ((hx2.block _ (lt_of B0.out)).trans B0.out)]; rfl
        have r2_0 : w2.cell? ⟨w.heap.size + 1, 0, none⟩ = some (.int .i64 1) := by rw [cell_of ((hx2.block _ (lt_of B1.out)).trans B1.out)]; rfl
        have r2_1 : w2.cell? ⟨w.heap.size + 1, 1, none⟩ = some (.string t') := by rw [cell_of ((hx2.block _ (lt_of B1.out)).trans B1.out)]; rfl
        have r2_2 : w2.cell? ⟨w.heap.size + 1, 2, none⟩ = some (.int .i64 p') := by rw [cell_of ((hx2.block _ (lt_of B1.out)).trans B1.out)]; rfl
        obtain rfl : R = false := by rw [← HR.out]; simp [ap, wy, nb, hd]
        go_wp2
        go_ret
        exact ⟨rfl, bb2⟩
    by_cases hq2 : k' = 2
    · subst hq2
      refine (wyS 4 t p W1 true (by decide)).mono ?_
      rintro e w1 ⟨rfl, hb1⟩
      have bb1 := below_trans ba hb1
      have hx1 := hb1
      have q1_0 : w1.cell? ⟨w.heap.size, 0, none⟩ = some (.int .i64 4) := by rw [cell_of ((hx1.block _ (lt_of B0.out)).trans B0.out)]; rfl
      have q1_1 : w1.cell? ⟨w.heap.size, 1, none⟩ = some (.string t) := by rw [cell_of ((hx1.block _ (lt_of B0.out)).trans B0.out)]; rfl
      have q1_2 : w1.cell? ⟨w.heap.size, 2, none⟩ = some (.int .i64 p) := by rw [cell_of ((hx1.block _ (lt_of B0.out)).trans B0.out)]; rfl
      have r1_0 : w1.cell? ⟨w.heap.size + 1, 0, none⟩ = some (.int .i64 2) := by rw [cell_of ((hx1.block _ (lt_of B1.out)).trans B1.out)]; rfl
      have r1_1 : w1.cell? ⟨w.heap.size + 1, 1, none⟩ = some (.string t') := by rw [cell_of ((hx1.block _ (lt_of B1.out)).trans B1.out)]; rfl
      have r1_2 : w1.cell? ⟨w.heap.size + 1, 2, none⟩ = some (.int .i64 p') := by rw [cell_of ((hx1.block _ (lt_of B1.out)).trans B1.out)]; rfl
      go_wp2_with fail
      refine (wyS 2 t' p' w1 true (by decide)).mono ?_
      rintro e w2 ⟨rfl, hb2⟩
      have bb2 := below_trans bb1 hb2
      have hx2 := below_trans hx1 hb2
      clear q1_0 r1_0 q1_1 r1_1 q1_2 r1_2
      have q2_0 : w2.cell? ⟨w.heap.size, 0, none⟩ = some (.int .i64 4) := by rw [cell_of ((hx2.block _ (lt_of B0.out)).trans B0.out)]; rfl
      have q2_1 : w2.cell? ⟨w.heap.size, 1, none⟩ = some (.string t) := by rw [cell_of ((hx2.block _ (lt_of B0.out)).trans B0.out)]; rfl
      have q2_2 : w2.cell? ⟨w.heap.size, 2, none⟩ = some (.int .i64 p) := by rw [cell_of ((hx2.block _ (lt_of B0.out)).trans B0.out)]; rfl
      have r2_0 : w2.cell? ⟨w.heap.size + 1, 0, none⟩ = some (.int .i64 2) := by rw [cell_of ((hx2.block _ (lt_of B1.out)).trans B1.out)]; rfl
      have r2_1 : w2.cell? ⟨w.heap.size + 1, 1, none⟩ = some (.string t') := by rw [cell_of ((hx2.block _ (lt_of B1.out)).trans B1.out)]; rfl
      have r2_2 : w2.cell? ⟨w.heap.size + 1, 2, none⟩ = some (.int .i64 p') := by rw [cell_of ((hx2.block _ (lt_of B1.out)).trans B1.out)]; rfl
      obtain rfl : R = true := by rw [← HR.out]; simp [ap, wy, nb]
      go_wp2
      go_ret
      exact ⟨rfl, bb2⟩
    by_cases hq3 : k' = 3
    · subst hq3
      refine (wyS 4 t p W1 true (by decide)).mono ?_
      rintro e w1 ⟨rfl, hb1⟩
      have bb1 := below_trans ba hb1
      have hx1 := hb1
      have q1_0 : w1.cell? ⟨w.heap.size, 0, none⟩ = some (.int .i64 4) := by rw [cell_of ((hx1.block _ (lt_of B0.out)).trans B0.out)]; rfl
      have q1_1 : w1.cell? ⟨w.heap.size, 1, none⟩ = some (.string t) := by rw [cell_of ((hx1.block _ (lt_of B0.out)).trans B0.out)]; rfl
      have q1_2 : w1.cell? ⟨w.heap.size, 2, none⟩ = some (.int .i64 p) := by rw [cell_of ((hx1.block _ (lt_of B0.out)).trans B0.out)]; rfl
      have r1_0 : w1.cell? ⟨w.heap.size + 1, 0, none⟩ = some (.int .i64 3) := by rw [cell_of ((hx1.block _ (lt_of B1.out)).trans B1.out)]; rfl
      have r1_1 : w1.cell? ⟨w.heap.size + 1, 1, none⟩ = some (.string t') := by rw [cell_of ((hx1.block _ (lt_of B1.out)).trans B1.out)]; rfl
      have r1_2 : w1.cell? ⟨w.heap.size + 1, 2, none⟩ = some (.int .i64 p') := by rw [cell_of ((hx1.block _ (lt_of B1.out)).trans B1.out)]; rfl
      go_wp2_with fail
      refine (wyS 3 t' p' w1 true (by decide)).mono ?_
      rintro e w2 ⟨rfl, hb2⟩
      have bb2 := below_trans bb1 hb2
      have hx2 := below_trans hx1 hb2
      clear q1_0 r1_0 q1_1 r1_1 q1_2 r1_2
      have q2_0 : w2.cell? ⟨w.heap.size, 0, none⟩ = some (.int .i64 4) := by rw [cell_of ((hx2.block _ (lt_of B0.out)).trans B0.out)]; rfl
      have q2_1 : w2.cell? ⟨w.heap.size, 1, none⟩ = some (.string t) := by rw [cell_of ((hx2.block _ (lt_of B0.out)).trans B0.out)]; rfl
      have q2_2 : w2.cell? ⟨w.heap.size, 2, none⟩ = some (.int .i64 p) := by rw [cell_of ((hx2.block _ (lt_of B0.out)).trans B0.out)]; rfl
      have r2_0 : w2.cell? ⟨w.heap.size + 1, 0, none⟩ = some (.int .i64 3) := by rw [cell_of ((hx2.block _ (lt_of B1.out)).trans B1.out)]; rfl
      have r2_1 : w2.cell? ⟨w.heap.size + 1, 1, none⟩ = some (.string t') := by rw [cell_of ((hx2.block _ (lt_of B1.out)).trans B1.out)]; rfl
      have r2_2 : w2.cell? ⟨w.heap.size + 1, 2, none⟩ = some (.int .i64 p') := by rw [cell_of ((hx2.block _ (lt_of B1.out)).trans B1.out)]; rfl
      obtain rfl : R = true := by rw [← HR.out]; simp [ap, wy, nb]
      go_wp2
      go_ret
      exact ⟨rfl, bb2⟩
    by_cases hq4 : k' = 4
    · subst hq4
      refine (wyS 4 t p W1 true (by decide)).mono ?_
      rintro e w1 ⟨rfl, hb1⟩
      have bb1 := below_trans ba hb1
      have hx1 := hb1
      have q1_0 : w1.cell? ⟨w.heap.size, 0, none⟩ = some (.int .i64 4) := by rw [cell_of ((hx1.block _ (lt_of B0.out)).trans B0.out)]; rfl
      have q1_1 : w1.cell? ⟨w.heap.size, 1, none⟩ = some (.string t) := by rw [cell_of ((hx1.block _ (lt_of B0.out)).trans B0.out)]; rfl
      have q1_2 : w1.cell? ⟨w.heap.size, 2, none⟩ = some (.int .i64 p) := by rw [cell_of ((hx1.block _ (lt_of B0.out)).trans B0.out)]; rfl
      have r1_0 : w1.cell? ⟨w.heap.size + 1, 0, none⟩ = some (.int .i64 4) := by rw [cell_of ((hx1.block _ (lt_of B1.out)).trans B1.out)]; rfl
      have r1_1 : w1.cell? ⟨w.heap.size + 1, 1, none⟩ = some (.string t') := by rw [cell_of ((hx1.block _ (lt_of B1.out)).trans B1.out)]; rfl
      have r1_2 : w1.cell? ⟨w.heap.size + 1, 2, none⟩ = some (.int .i64 p') := by rw [cell_of ((hx1.block _ (lt_of B1.out)).trans B1.out)]; rfl
      go_wp2_with fail
      refine (wyS 4 t' p' w1 true (by decide)).mono ?_
      rintro e w2 ⟨rfl, hb2⟩
      have bb2 := below_trans bb1 hb2
      have hx2 := below_trans hx1 hb2
      clear q1_0 r1_0 q1_1 r1_1 q1_2 r1_2
      have q2_0 : w2.cell? ⟨w.heap.size, 0, none⟩ = some (.int .i64 4) := by rw [cell_of ((hx2.block _ (lt_of B0.out)).trans B0.out)]; rfl
      have q2_1 : w2.cell? ⟨w.heap.size, 1, none⟩ = some (.string t) := by rw [cell_of ((hx2.block _ (lt_of B0.out)).trans B0.out)]; rfl
      have q2_2 : w2.cell? ⟨w.heap.size, 2, none⟩ = some (.int .i64 p) := by rw [cell_of ((hx2.block _ (lt_of B0.out)).trans B0.out)]; rfl
      have r2_0 : w2.cell? ⟨w.heap.size + 1, 0, none⟩ = some (.int .i64 4) := by rw [cell_of ((hx2.block _ (lt_of B1.out)).trans B1.out)]; rfl
      have r2_1 : w2.cell? ⟨w.heap.size + 1, 1, none⟩ = some (.string t') := by rw [cell_of ((hx2.block _ (lt_of B1.out)).trans B1.out)]; rfl
      have r2_2 : w2.cell? ⟨w.heap.size + 1, 2, none⟩ = some (.int .i64 p') := by rw [cell_of ((hx2.block _ (lt_of B1.out)).trans B1.out)]; rfl
      obtain rfl : R = true := by rw [← HR.out]; simp [ap, wy, nb]
      go_wp2
      go_ret
      exact ⟨rfl, bb2⟩
    by_cases hq5 : k' = 5
    · subst hq5
      refine (wyS 4 t p W1 true (by decide)).mono ?_
      rintro e w1 ⟨rfl, hb1⟩
      have bb1 := below_trans ba hb1
      have hx1 := hb1
      have q1_0 : w1.cell? ⟨w.heap.size, 0, none⟩ = some (.int .i64 4) := by rw [cell_of ((hx1.block _ (lt_of B0.out)).trans B0.out)]; rfl
      have q1_1 : w1.cell? ⟨w.heap.size, 1, none⟩ = some (.string t) := by rw [cell_of ((hx1.block _ (lt_of B0.out)).trans B0.out)]; rfl
      have q1_2 : w1.cell? ⟨w.heap.size, 2, none⟩ = some (.int .i64 p) := by rw [cell_of ((hx1.block _ (lt_of B0.out)).trans B0.out)]; rfl
      have r1_0 : w1.cell? ⟨w.heap.size + 1, 0, none⟩ = some (.int .i64 5) := by rw [cell_of ((hx1.block _ (lt_of B1.out)).trans B1.out)]; rfl
      have r1_1 : w1.cell? ⟨w.heap.size + 1, 1, none⟩ = some (.string t') := by rw [cell_of ((hx1.block _ (lt_of B1.out)).trans B1.out)]; rfl
      have r1_2 : w1.cell? ⟨w.heap.size + 1, 2, none⟩ = some (.int .i64 p') := by rw [cell_of ((hx1.block _ (lt_of B1.out)).trans B1.out)]; rfl
      go_wp2_with fail
      refine (wyS 5 t' p' w1 false (by decide)).mono ?_
      rintro e w2 ⟨rfl, hb2⟩
      have bb2 := below_trans bb1 hb2
      have hx2 := below_trans hx1 hb2
      clear q1_0 r1_0 q1_1 r1_1 q1_2 r1_2
      have q2_0 : w2.cell? ⟨w.heap.size, 0, none⟩ = some (.int .i64 4) := by rw [cell_of ((hx2.block _ (lt_of B0.out)).trans B0.out)]; rfl
      have q2_1 : w2.cell? ⟨w.heap.size, 1, none⟩ = some (.string t) := by rw [cell_of ((hx2.block _ (lt_of B0.out)).trans B0.out)]; rfl
      have q2_2 : w2.cell? ⟨w.heap.size, 2, none⟩ = some (.int .i64 p) := by rw [cell_of ((hx2.block _ (lt_of B0.out)).trans B0.out)]; rfl
      have r2_0 : w2.cell? ⟨w.heap.size + 1, 0, none⟩ = some (.int .i64 5) := by rw [cell_of ((hx2.block _ (lt_of B1.out)).trans B1.out)]; rfl
      have r2_1 : w2.cell? ⟨w.heap.size + 1, 1, none⟩ = some (.string t') := by rw [cell_of ((hx2.block _ (lt_of B1.out)).trans B1.out)]; rfl
      have r2_2 : w2.cell? ⟨w.heap.size + 1, 2, none⟩ = some (.int .i64 p') := by rw [cell_of ((hx2.block _ (lt_of B1.out)).trans B1.out)]; rfl
      obtain rfl : R = false := by rw [← HR.out]; simp [ap, wy, nb]
      go_wp2
      go_ret
      exact ⟨rfl, bb2⟩
    replace hq1 : (k' == 1) = false := by simp [hq1]
    replace hq2 : (k' == 2) = false := by simp [hq2]
    replace hq3 : (k' == 3) = false := by simp [hq3]
    replace hq4 : (k' == 4) = false := by simp [hq4]
    replace hq5 : (k' == 5) = false := by simp [hq5]
    have hqw : wy k' = false := by simp [wy, hq2, hq3, hq4]
    refine (wyS 4 t p W1 true (by decide)).mono ?_
    rintro e w1 ⟨rfl, hb1⟩
    have bb1 := below_trans ba hb1
    have hx1 := hb1
    have q1_0 : w1.cell? ⟨w.heap.size, 0, none⟩ = some (.int .i64 4) := by rw [cell_of ((hx1.block _ (lt_of B0.out)).trans B0.out)]; rfl
    have q1_1 : w1.cell? ⟨w.heap.size, 1, none⟩ = some (.string t) := by rw [cell_of ((hx1.block _ (lt_of B0.out)).trans B0.out)]; rfl
    have q1_2 : w1.cell? ⟨w.heap.size, 2, none⟩ = some (.int .i64 p) := by rw [cell_of ((hx1.block _ (lt_of B0.out)).trans B0.out)]; rfl
    have r1_0 : w1.cell? ⟨w.heap.size + 1, 0, none⟩ = some (.int .i64 k') := by rw [cell_of ((hx1.block _ (lt_of B1.out)).trans B1.out)]; rfl
    have r1_1 : w1.cell? ⟨w.heap.size + 1, 1, none⟩ = some (.string t') := by rw [cell_of ((hx1.block _ (lt_of B1.out)).trans B1.out)]; rfl
    have r1_2 : w1.cell? ⟨w.heap.size + 1, 2, none⟩ = some (.int .i64 p') := by rw [cell_of ((hx1.block _ (lt_of B1.out)).trans B1.out)]; rfl
    go_wp2_with fail
    refine (wyS k' t' p' w1 false hqw).mono ?_
    rintro e w2 ⟨rfl, hb2⟩
    have bb2 := below_trans bb1 hb2
    have hx2 := below_trans hx1 hb2
    clear q1_0 r1_0 q1_1 r1_1 q1_2 r1_2
    have q2_0 : w2.cell? ⟨w.heap.size, 0, none⟩ = some (.int .i64 4) := by rw [cell_of ((hx2.block _ (lt_of B0.out)).trans B0.out)]; rfl
    have q2_1 : w2.cell? ⟨w.heap.size, 1, none⟩ = some (.string t) := by rw [cell_of ((hx2.block _ (lt_of B0.out)).trans B0.out)]; rfl
    have q2_2 : w2.cell? ⟨w.heap.size, 2, none⟩ = some (.int .i64 p) := by rw [cell_of ((hx2.block _ (lt_of B0.out)).trans B0.out)]; rfl
    have r2_0 : w2.cell? ⟨w.heap.size + 1, 0, none⟩ = some (.int .i64 k') := by rw [cell_of ((hx2.block _ (lt_of B1.out)).trans B1.out)]; rfl
    have r2_1 : w2.cell? ⟨w.heap.size + 1, 1, none⟩ = some (.string t') := by rw [cell_of ((hx2.block _ (lt_of B1.out)).trans B1.out)]; rfl
    have r2_2 : w2.cell? ⟨w.heap.size + 1, 2, none⟩ = some (.int .i64 p') := by rw [cell_of ((hx2.block _ (lt_of B1.out)).trans B1.out)]; rfl
    obtain rfl : R = false := by rw [← HR.out]; simp [ap, wy, nb, hq1, hq2, hq3, hq4, hq5]
    go_wp2
    go_ret
    exact ⟨rfl, bb2⟩
  by_cases hk5 : k = 5
  · subst hk5
    by_cases hq1 : k' = 1
    · subst hq1
      refine (wyS 5 t p W1 false (by decide)).mono ?_
      rintro e w1 ⟨rfl, hb1⟩
      have bb1 := below_trans ba hb1
      have hx1 := hb1
      have q1_0 : w1.cell? ⟨w.heap.size, 0, none⟩ = some (.int .i64 5) := by rw [cell_of ((hx1.block _ (lt_of B0.out)).trans B0.out)]; rfl
      have q1_1 : w1.cell? ⟨w.heap.size, 1, none⟩ = some (.string t) := by rw [cell_of ((hx1.block _ (lt_of B0.out)).trans B0.out)]; rfl
      have q1_2 : w1.cell? ⟨w.heap.size, 2, none⟩ = some (.int .i64 p) := by rw [cell_of ((hx1.block _ (lt_of B0.out)).trans B0.out)]; rfl
      have r1_0 : w1.cell? ⟨w.heap.size + 1, 0, none⟩ = some (.int .i64 1) := by rw [cell_of ((hx1.block _ (lt_of B1.out)).trans B1.out)]; rfl
      have r1_1 : w1.cell? ⟨w.heap.size + 1, 1, none⟩ = some (.string t') := by rw [cell_of ((hx1.block _ (lt_of B1.out)).trans B1.out)]; rfl
      have r1_2 : w1.cell? ⟨w.heap.size + 1, 2, none⟩ = some (.int .i64 p') := by rw [cell_of ((hx1.block _ (lt_of B1.out)).trans B1.out)]; rfl
      obtain rfl : R = false := by rw [← HR.out]; simp [ap, wy, nb]
      go_wp2
      go_ret
      exact ⟨rfl, bb1⟩
    by_cases hq2 : k' = 2
    · subst hq2
      refine (wyS 5 t p W1 false (by decide)).mono ?_
      rintro e w1 ⟨rfl, hb1⟩
      have bb1 := below_trans ba hb1
      have hx1 := hb1
      have q1_0 : w1.cell? ⟨w.heap.size, 0, none⟩ = some (.int .i64 5) := by rw [cell_of ((hx1.block _ (lt_of B0.out)).trans B0.out)]; rfl
      have q1_1 : w1.cell? ⟨w.heap.size, 1, none⟩ = some (.string t) := by rw [cell_of ((hx1.block _ (lt_of B0.out)).trans B0.out)]; rfl
      have q1_2 : w1.cell? ⟨w.heap.size, 2, none⟩ = some (.int .i64 p) := by rw [cell_of ((hx1.block _ (lt_of B0.out)).trans B0.out)]; rfl
      have r1_0 : w1.cell? ⟨w.heap.size + 1, 0, none⟩ = some (.int .i64 2) := by rw [cell_of ((hx1.block _ (lt_of B1.out)).trans B1.out)]; rfl
      have r1_1 : w1.cell? ⟨w.heap.size + 1, 1, none⟩ = some (.string t') := by rw [cell_of ((hx1.block _ (lt_of B1.out)).trans B1.out)]; rfl
      have r1_2 : w1.cell? ⟨w.heap.size + 1, 2, none⟩ = some (.int .i64 p') := by rw [cell_of ((hx1.block _ (lt_of B1.out)).trans B1.out)]; rfl
      obtain rfl : R = false := by rw [← HR.out]; simp [ap, wy, nb]
      go_wp2
      go_ret
      exact ⟨rfl, bb1⟩
    by_cases hq3 : k' = 3
    · subst hq3
      refine (wyS 5 t p W1 false (by decide)).mono ?_
      rintro e w1 ⟨rfl, hb1⟩
      have bb1 := below_trans ba hb1
      have hx1 := hb1
      have q1_0 : w1.cell? ⟨w.heap.size, 0, none⟩ = some (.int .i64 5) := by rw [cell_of ((hx1.block _ (lt_of B0.out)).trans B0.out)]; rfl
      have q1_1 : w1.cell? ⟨w.heap.size, 1, none⟩ = some (.string t) := by rw [cell_of ((hx1.block _ (lt_of B0.out)).trans B0.out)]; rfl
      have q1_2 : w1.cell? ⟨w.heap.size, 2, none⟩ = some (.int .i64 p) := by rw [cell_of ((hx1.block _ (lt_of B0.out)).trans B0.out)]; rfl
      have r1_0 : w1.cell? ⟨w.heap.size + 1, 0, none⟩ = some (.int .i64 3) := by rw [cell_of ((hx1.block _ (lt_of B1.out)).trans B1.out)]; rfl
      have r1_1 : w1.cell? ⟨w.heap.size + 1, 1, none⟩ = some (.string t') := by rw [cell_of ((hx1.block _ (lt_of B1.out)).trans B1.out)]; rfl
      have r1_2 : w1.cell? ⟨w.heap.size + 1, 2, none⟩ = some (.int .i64 p') := by rw [cell_of ((hx1.block _ (lt_of B1.out)).trans B1.out)]; rfl
      obtain rfl : R = false := by rw [← HR.out]; simp [ap, wy, nb]
      go_wp2
      go_ret
      exact ⟨rfl, bb1⟩
    by_cases hq4 : k' = 4
    · subst hq4
      refine (wyS 5 t p W1 false (by decide)).mono ?_
      rintro e w1 ⟨rfl, hb1⟩
      have bb1 := below_trans ba hb1
      have hx1 := hb1
      have q1_0 : w1.cell? ⟨w.heap.size, 0, none⟩ = some (.int .i64 5) := by rw [cell_of ((hx1.block _ (lt_of B0.out)).trans B0.out)]; rfl
      have q1_1 : w1.cell? ⟨w.heap.size, 1, none⟩ = some (.string t) := by rw [cell_of ((hx1.block _ (lt_of B0.out)).trans B0.out)]; rfl
      have q1_2 : w1.cell? ⟨w.heap.size, 2, none⟩ = some (.int .i64 p) := by rw [cell_of ((hx1.block _ (lt_of B0.out)).trans B0.out)]; rfl
      have r1_0 : w1.cell? ⟨w.heap.size + 1, 0, none⟩ = some (.int .i64 4) := by rw [cell_of ((hx1.block _ (lt_of B1.out)).trans B1.out)]; rfl
      have r1_1 : w1.cell? ⟨w.heap.size + 1, 1, none⟩ = some (.string t') := by rw [cell_of ((hx1.block _ (lt_of B1.out)).trans B1.out)]; rfl
      have r1_2 : w1.cell? ⟨w.heap.size + 1, 2, none⟩ = some (.int .i64 p') := by rw [cell_of ((hx1.block _ (lt_of B1.out)).trans B1.out)]; rfl
      obtain rfl : R = false := by rw [← HR.out]; simp [ap, wy, nb]
      go_wp2
      go_ret
      exact ⟨rfl, bb1⟩
    by_cases hq5 : k' = 5
    · subst hq5
      refine (wyS 5 t p W1 false (by decide)).mono ?_
      rintro e w1 ⟨rfl, hb1⟩
      have bb1 := below_trans ba hb1
      have hx1 := hb1
      have q1_0 : w1.cell? ⟨w.heap.size, 0, none⟩ = some (.int .i64 5) := by rw [cell_of ((hx1.block _ (lt_of B0.out)).trans B0.out)]; rfl
      have q1_1 : w1.cell? ⟨w.heap.size, 1, none⟩ = some (.string t) := by rw [cell_of ((hx1.block _ (lt_of B0.out)).trans B0.out)]; rfl
      have q1_2 : w1.cell? ⟨w.heap.size, 2, none⟩ = some (.int .i64 p) := by rw [cell_of ((hx1.block _ (lt_of B0.out)).trans B0.out)]; rfl
      have r1_0 : w1.cell? ⟨w.heap.size + 1, 0, none⟩ = some (.int .i64 5) := by rw [cell_of ((hx1.block _ (lt_of B1.out)).trans B1.out)]; rfl
      have r1_1 : w1.cell? ⟨w.heap.size + 1, 1, none⟩ = some (.string t') := by rw [cell_of ((hx1.block _ (lt_of B1.out)).trans B1.out)]; rfl
      have r1_2 : w1.cell? ⟨w.heap.size + 1, 2, none⟩ = some (.int .i64 p') := by rw [cell_of ((hx1.block _ (lt_of B1.out)).trans B1.out)]; rfl
      obtain rfl : R = true := by rw [← HR.out]; simp [ap, wy, nb]
      go_wp2
      go_ret
      exact ⟨rfl, bb1⟩
    replace hq1 : (k' == 1) = false := by simp [hq1]
    replace hq2 : (k' == 2) = false := by simp [hq2]
    replace hq3 : (k' == 3) = false := by simp [hq3]
    replace hq4 : (k' == 4) = false := by simp [hq4]
    replace hq5 : (k' == 5) = false := by simp [hq5]
    have hqw : wy k' = false := by simp [wy, hq2, hq3, hq4]
    refine (wyS 5 t p W1 false (by decide)).mono ?_
    rintro e w1 ⟨rfl, hb1⟩
    have bb1 := below_trans ba hb1
    have hx1 := hb1
    have q1_0 : w1.cell? ⟨w.heap.size, 0, none⟩ = some (.int .i64 5) := by rw [cell_of ((hx1.block _ (lt_of B0.out)).trans B0.out)]; rfl
    have q1_1 : w1.cell? ⟨w.heap.size, 1, none⟩ = some (.string t) := by rw [cell_of ((hx1.block _ (lt_of B0.out)).trans B0.out)]; rfl
    have q1_2 : w1.cell? ⟨w.heap.size, 2, none⟩ = some (.int .i64 p) := by rw [cell_of ((hx1.block _ (lt_of B0.out)).trans B0.out)]; rfl
    have r1_0 : w1.cell? ⟨w.heap.size + 1, 0, none⟩ = some (.int .i64 k') := by rw [cell_of ((hx1.block _ (lt_of B1.out)).trans B1.out)]; rfl
    have r1_1 : w1.cell? ⟨w.heap.size + 1, 1, none⟩ = some (.string t') := by rw [cell_of ((hx1.block _ (lt_of B1.out)).trans B1.out)]; rfl
    have r1_2 : w1.cell? ⟨w.heap.size + 1, 2, none⟩ = some (.int .i64 p') := by rw [cell_of ((hx1.block _ (lt_of B1.out)).trans B1.out)]; rfl
    obtain rfl : R = false := by rw [← HR.out]; simp [ap, wy, nb, hq1, hq2, hq3, hq4, hq5]
    go_wp2
    go_ret
    exact ⟨rfl, bb1⟩
  replace hk2 : (k == 2) = false := by simp [hk2]
  replace hk3 : (k == 3) = false := by simp [hk3]
  replace hk4 : (k == 4) = false := by simp [hk4]
  replace hk5 : (k == 5) = false := by simp [hk5]
  have hkw : wy k = false := by simp [wy, hk2, hk3, hk4]
  have hkn : nb k = false := by simp [nb, hk3, hk4]
  by_cases hq1 : k' = 1
  · subst hq1
    refine (wyS k t p W1 false hkw).mono ?_
    rintro e w1 ⟨rfl, hb1⟩
    have bb1 := below_trans ba hb1
    have hx1 := hb1
    have q1_0 : w1.cell? ⟨w.heap.size, 0, none⟩ = some (.int .i64 k) := by rw [cell_of ((hx1.block _ (lt_of B0.out)).trans B0.out)]; rfl
    have q1_1 : w1.cell? ⟨w.heap.size, 1, none⟩ = some (.string t) := by rw [cell_of ((hx1.block _ (lt_of B0.out)).trans B0.out)]; rfl
    have q1_2 : w1.cell? ⟨w.heap.size, 2, none⟩ = some (.int .i64 p) := by rw [cell_of ((hx1.block _ (lt_of B0.out)).trans B0.out)]; rfl
    have r1_0 : w1.cell? ⟨w.heap.size + 1, 0, none⟩ = some (.int .i64 1) := by rw [cell_of ((hx1.block _ (lt_of B1.out)).trans B1.out)]; rfl
    have r1_1 : w1.cell? ⟨w.heap.size + 1, 1, none⟩ = some (.string t') := by rw [cell_of ((hx1.block _ (lt_of B1.out)).trans B1.out)]; rfl
    have r1_2 : w1.cell? ⟨w.heap.size + 1, 2, none⟩ = some (.int .i64 p') := by rw [cell_of ((hx1.block _ (lt_of B1.out)).trans B1.out)]; rfl
    obtain rfl : R = false := by rw [← HR.out]; simp [ap, wy, nb, hk2, hk3, hk4, hk5]
    go_wp2
    go_ret
    exact ⟨rfl, bb1⟩
  by_cases hq2 : k' = 2
  · subst hq2
    refine (wyS k t p W1 false hkw).mono ?_
    rintro e w1 ⟨rfl, hb1⟩
    have bb1 := below_trans ba hb1
    have hx1 := hb1
    have q1_0 : w1.cell? ⟨w.heap.size, 0, none⟩ = some (.int .i64 k) := by rw [cell_of ((hx1.block _ (lt_of B0.out)).trans B0.out)]; rfl
    have q1_1 : w1.cell? ⟨w.heap.size, 1, none⟩ = some (.string t) := by rw [cell_of ((hx1.block _ (lt_of B0.out)).trans B0.out)]; rfl
    have q1_2 : w1.cell? ⟨w.heap.size, 2, none⟩ = some (.int .i64 p) := by rw [cell_of ((hx1.block _ (lt_of B0.out)).trans B0.out)]; rfl
    have r1_0 : w1.cell? ⟨w.heap.size + 1, 0, none⟩ = some (.int .i64 2) := by rw [cell_of ((hx1.block _ (lt_of B1.out)).trans B1.out)]; rfl
    have r1_1 : w1.cell? ⟨w.heap.size + 1, 1, none⟩ = some (.string t') := by rw [cell_of ((hx1.block _ (lt_of B1.out)).trans B1.out)]; rfl
    have r1_2 : w1.cell? ⟨w.heap.size + 1, 2, none⟩ = some (.int .i64 p') := by rw [cell_of ((hx1.block _ (lt_of B1.out)).trans B1.out)]; rfl
    obtain rfl : R = false := by rw [← HR.out]; simp [ap, wy, nb, hk2, hk3, hk4, hk5]
    go_wp2
    go_ret
    exact ⟨rfl, bb1⟩
  by_cases hq3 : k' = 3
  · subst hq3
    refine (wyS k t p W1 false hkw).mono ?_
    rintro e w1 ⟨rfl, hb1⟩
    have bb1 := below_trans ba hb1
    have hx1 := hb1
    have q1_0 : w1.cell? ⟨w.heap.size, 0, none⟩ = some (.int .i64 k) := by rw [cell_of ((hx1.block _ (lt_of B0.out)).trans B0.out)]; rfl
    have q1_1 : w1.cell? ⟨w.heap.size, 1, none⟩ = some (.string t) := by rw [cell_of ((hx1.block _ (lt_of B0.out)).trans B0.out)]; rfl
    have q1_2 : w1.cell? ⟨w.heap.size, 2, none⟩ = some (.int .i64 p) := by rw [cell_of ((hx1.block _ (lt_of B0.out)).trans B0.out)]; rfl
    have r1_0 : w1.cell? ⟨w.heap.size + 1, 0, none⟩ = some (.int .i64 3) := by rw [cell_of ((hx1.block _ (lt_of B1.out)).trans B1.out)]; rfl
    have r1_1 : w1.cell? ⟨w.heap.size + 1, 1, none⟩ = some (.string t') := by rw [cell_of ((hx1.block _ (lt_of B1.out)).trans B1.out)]; rfl
    have r1_2 : w1.cell? ⟨w.heap.size + 1, 2, none⟩ = some (.int .i64 p') := by rw [cell_of ((hx1.block _ (lt_of B1.out)).trans B1.out)]; rfl
    obtain rfl : R = false := by rw [← HR.out]; simp [ap, wy, nb, hk2, hk3, hk4, hk5]
    go_wp2
    go_ret
    exact ⟨rfl, bb1⟩
  by_cases hq4 : k' = 4
  · subst hq4
    refine (wyS k t p W1 false hkw).mono ?_
    rintro e w1 ⟨rfl, hb1⟩
    have bb1 := below_trans ba hb1
    have hx1 := hb1
    have q1_0 : w1.cell? ⟨w.heap.size, 0, none⟩ = some (.int .i64 k) := by rw [cell_of ((hx1.block _ (lt_of B0.out)).trans B0.out)]; rfl
    have q1_1 : w1.cell? ⟨w.heap.size, 1, none⟩ = some (.string t) := by rw [cell_of ((hx1.block _ (lt_of B0.out)).trans B0.out)]; rfl
    have q1_2 : w1.cell? ⟨w.heap.size, 2, none⟩ = some (.int .i64 p) := by rw [cell_of ((hx1.block _ (lt_of B0.out)).trans B0.out)]; rfl
    have r1_0 : w1.cell? ⟨w.heap.size + 1, 0, none⟩ = some (.int .i64 4) := by rw [cell_of ((hx1.block _ (lt_of B1.out)).trans B1.out)]; rfl
    have r1_1 : w1.cell? ⟨w.heap.size + 1, 1, none⟩ = some (.string t') := by rw [cell_of ((hx1.block _ (lt_of B1.out)).trans B1.out)]; rfl
    have r1_2 : w1.cell? ⟨w.heap.size + 1, 2, none⟩ = some (.int .i64 p') := by rw [cell_of ((hx1.block _ (lt_of B1.out)).trans B1.out)]; rfl
    obtain rfl : R = false := by rw [← HR.out]; simp [ap, wy, nb, hk2, hk3, hk4, hk5]
    go_wp2
    go_ret
    exact ⟨rfl, bb1⟩
  by_cases hq5 : k' = 5
  · subst hq5
    refine (wyS k t p W1 false hkw).mono ?_
    rintro e w1 ⟨rfl, hb1⟩
    have bb1 := below_trans ba hb1
    have hx1 := hb1
    have q1_0 : w1.cell? ⟨w.heap.size, 0, none⟩ = some (.int .i64 k) := by rw [cell_of ((hx1.block _ (lt_of B0.out)).trans B0.out)]; rfl
    have q1_1 : w1.cell? ⟨w.heap.size, 1, none⟩ = some (.string t) := by rw [cell_of ((hx1.block _ (lt_of B0.out)).trans B0.out)]; rfl
    have q1_2 : w1.cell? ⟨w.heap.size, 2, none⟩ = some (.int .i64 p) := by rw [cell_of ((hx1.block _ (lt_of B0.out)).trans B0.out)]; rfl
    have r1_0 : w1.cell? ⟨w.heap.size + 1, 0, none⟩ = some (.int .i64 5) := by rw [cell_of ((hx1.block _ (lt_of B1.out)).trans B1.out)]; rfl
    have r1_1 : w1.cell? ⟨w.heap.size + 1, 1, none⟩ = some (.string t') := by rw [cell_of ((hx1.block _ (lt_of B1.out)).trans B1.out)]; rfl
    have r1_2 : w1.cell? ⟨w.heap.size + 1, 2, none⟩ = some (.int .i64 p') := by rw [cell_of ((hx1.block _ (lt_of B1.out)).trans B1.out)]; rfl
    obtain rfl : R = false := by rw [← HR.out]; simp [ap, wy, nb, hk2, hk3, hk4, hk5]
    go_wp2
    go_ret
    exact ⟨rfl, bb1⟩
  replace hq1 : (k' == 1) = false := by simp [hq1]
  replace hq2 : (k' == 2) = false := by simp [hq2]
  replace hq3 : (k' == 3) = false := by simp [hq3]
  replace hq4 : (k' == 4) = false := by simp [hq4]
  replace hq5 : (k' == 5) = false := by simp [hq5]
  have hqw : wy k' = false := by simp [wy, hq2, hq3, hq4]
  refine (wyS k t p W1 false hkw).mono ?_
  rintro e w1 ⟨rfl, hb1⟩
  have bb1 := below_trans ba hb1
  have hx1 := hb1
  have q1_0 : w1.cell? ⟨w.heap.size, 0, none⟩ = some (.int .i64 k) := by rw [cell_of ((hx1.block _ (lt_of B0.out)).trans B0.out)]; rfl
  have q1_1 : w1.cell? ⟨w.heap.size, 1, none⟩ = some (.string t) := by rw [cell_of ((hx1.block _ (lt_of B0.out)).trans B0.out)]; rfl
  have q1_2 : w1.cell? ⟨w.heap.size, 2, none⟩ = some (.int .i64 p) := by rw [cell_of ((hx1.block _ (lt_of B0.out)).trans B0.out)]; rfl
  have r1_0 : w1.cell? ⟨w.heap.size + 1, 0, none⟩ = some (.int .i64 k') := by rw [cell_of ((hx1.block _ (lt_of B1.out)).trans B1.out)]; rfl
  have r1_1 : w1.cell? ⟨w.heap.size + 1, 1, none⟩ = some (.string t') := by rw [cell_of ((hx1.block _ (lt_of B1.out)).trans B1.out)]; rfl
  have r1_2 : w1.cell? ⟨w.heap.size + 1, 2, none⟩ = some (.int .i64 p') := by rw [cell_of ((hx1.block _ (lt_of B1.out)).trans B1.out)]; rfl
  obtain rfl : R = false := by rw [← HR.out]; simp [ap, wy, nb, hk2, hk3, hk4, hk5, hq1, hq2, hq3, hq4, hq5]
  go_wp2
  go_ret
  exact ⟨rfl, bb1⟩

set_option maxRecDepth 100000 in
set_option maxHeartbeats 8000000 in
theorem apartI (k : Int) (t : ByteArray) (p k' : Int) (t' : ByteArray) (p' : Int) (w : World) : Calls Try.prog 8 #[.agg #[.int .i64 k, .string t, .int .i64 p], .agg #[.int .i64 k', .string t', .int .i64 p']] w fun e w' => e = .returned (.bool (ap k k' t')) ∧ Below w.heap.size w w' := by
  obtain ⟨R, hR⟩ : ∃ R, ap k k' t' = R := ⟨_, rfl⟩
  rw [hR]
  have HR := Lib.hid hR
  clear hR
  go_enter Try.func8, Try.ntmps8
  go_wp2_with fail
  obtain ⟨W1, hW1⟩ : ∃ W1, ((w.alloc (Obj.cells #[.int .i64 k, .string t, .int .i64 p] 26)).alloc (Obj.cells #[.int .i64 k', .string t', .int .i64 p'] 26)) = W1 := ⟨_, rfl⟩
  have ba : Below w.heap.size w W1 := by rw [← hW1]; exact (twoNew w _ _).2.2
  have B0 := Lib.hid (show W1.heap[w.heap.size]? = some (Obj.cells #[.int .i64 k, .string t, .int .i64 p] 26) by rw [← hW1]; exact (twoNew w _ _).1)
  have B1 := Lib.hid (show W1.heap[w.heap.size + 1]? = some (Obj.cells #[.int .i64 k', .string t', .int .i64 p'] 26) by rw [← hW1]; exact (twoNew w _ _).2.1)
  rw [hW1]
  clear hW1
  by_cases hk2 : k = 2
  · subst hk2
    by_cases hq1 : k' = 1
    · subst hq1
      refine (wyI 2 t p W1 true (by decide)).mono ?_
      rintro e w1 ⟨rfl, hb1⟩
      have bb1 := below_trans ba hb1
      have hx1 := hb1
      have q1_0 : w1.cell? ⟨w.heap.size, 0, none⟩ = some (.int .i64 2) := by rw [cell_of ((hx1.block _ (lt_of B0.out)).trans B0.out)]; rfl
      have q1_1 : w1.cell? ⟨w.heap.size, 1, none⟩ = some (.string t) := by rw [cell_of ((hx1.block _ (lt_of B0.out)).trans B0.out)]; rfl
      have q1_2 : w1.cell? ⟨w.heap.size, 2, none⟩ = some (.int .i64 p) := by rw [cell_of ((hx1.block _ (lt_of B0.out)).trans B0.out)]; rfl
      have r1_0 : w1.cell? ⟨w.heap.size + 1, 0, none⟩ = some (.int .i64 1) := by rw [cell_of ((hx1.block _ (lt_of B1.out)).trans B1.out)]; rfl
      have r1_1 : w1.cell? ⟨w.heap.size + 1, 1, none⟩ = some (.string t') := by rw [cell_of ((hx1.block _ (lt_of B1.out)).trans B1.out)]; rfl
      have r1_2 : w1.cell? ⟨w.heap.size + 1, 2, none⟩ = some (.int .i64 p') := by rw [cell_of ((hx1.block _ (lt_of B1.out)).trans B1.out)]; rfl
      go_wp2_with fail
      refine (wyI 1 t' p' w1 false (by decide)).mono ?_
      rintro e w2 ⟨rfl, hb2⟩
      have bb2 := below_trans bb1 hb2
      have hx2 := below_trans hx1 hb2
      clear q1_0 r1_0 q1_1 r1_1 q1_2 r1_2
      have q2_0 : w2.cell? ⟨w.heap.size, 0, none⟩ = some (.int .i64 2) := by rw [cell_of ((hx2.block _ (lt_of B0.out)).trans B0.out)]; rfl
      have q2_1 : w2.cell? ⟨w.heap.size, 1, none⟩ = some (.string t) := by rw [cell_of ((hx2.block _ (lt_of B0.out)).trans B0.out)]; rfl
      have q2_2 : w2.cell? ⟨w.heap.size, 2, none⟩ = some (.int .i64 p) := by rw [cell_of ((hx2.block _ (lt_of B0.out)).trans B0.out)]; rfl
      have r2_0 : w2.cell? ⟨w.heap.size + 1, 0, none⟩ = some (.int .i64 1) := by rw [cell_of ((hx2.block _ (lt_of B1.out)).trans B1.out)]; rfl
      have r2_1 : w2.cell? ⟨w.heap.size + 1, 1, none⟩ = some (.string t') := by rw [cell_of ((hx2.block _ (lt_of B1.out)).trans B1.out)]; rfl
      have r2_2 : w2.cell? ⟨w.heap.size + 1, 2, none⟩ = some (.int .i64 p') := by rw [cell_of ((hx2.block _ (lt_of B1.out)).trans B1.out)]; rfl
      go_wp2_with fail
      refine (nbI 2 t p w2 false (by decide)).mono ?_
      rintro e w3 ⟨rfl, hb3⟩
      have bb3 := below_trans bb2 hb3
      have hx3 := below_trans hx2 hb3
      clear q2_0 r2_0 q2_1 r2_1 q2_2 r2_2
      have q3_0 : w3.cell? ⟨w.heap.size, 0, none⟩ = some (.int .i64 2) := by rw [cell_of ((hx3.block _ (lt_of B0.out)).trans B0.out)]; rfl
      have q3_1 : w3.cell? ⟨w.heap.size, 1, none⟩ = some (.string t) := by rw [cell_of ((hx3.block _ (lt_of B0.out)).trans B0.out)]; rfl
      have q3_2 : w3.cell? ⟨w.heap.size, 2, none⟩ = some (.int .i64 p) := by rw [cell_of ((hx3.block _ (lt_of B0.out)).trans B0.out)]; rfl
      have r3_0 : w3.cell? ⟨w.heap.size + 1, 0, none⟩ = some (.int .i64 1) := by rw [cell_of ((hx3.block _ (lt_of B1.out)).trans B1.out)]; rfl
      have r3_1 : w3.cell? ⟨w.heap.size + 1, 1, none⟩ = some (.string t') := by rw [cell_of ((hx3.block _ (lt_of B1.out)).trans B1.out)]; rfl
      have r3_2 : w3.cell? ⟨w.heap.size + 1, 2, none⟩ = some (.int .i64 p') := by rw [cell_of ((hx3.block _ (lt_of B1.out)).trans B1.out)]; rfl
      go_wp2_with fail
      refine (txI 2 t p w3 false (by decide)).mono ?_
      rintro e w4 ⟨rfl, hb4⟩
      have bb4 := below_trans bb3 hb4
      have hx4 := below_trans hx3 hb4
      clear q3_0 r3_0 q3_1 r3_1 q3_2 r3_2
      have q4_0 : w4.cell? ⟨w.heap.size, 0, none⟩ = some (.int .i64 2) := by rw [cell_of ((hx4.block _ (lt_of B0.out)).trans B0.out)]; rfl
      have q4_1 : w4.cell? ⟨w.heap.size, 1, none⟩ = some (.string t) := by rw [cell_of ((hx4.block _ (lt_of B0.out)).trans B0.out)]; rfl
      have q4_2 : w4.cell? ⟨w.heap.size, 2, none⟩ = some (.int .i64 p) := by rw [cell_of ((hx4.block _ (lt_of B0.out)).trans B0.out)]; rfl
      have r4_0 : w4.cell? ⟨w.heap.size + 1, 0, none⟩ = some (.int .i64 1) := by rw [cell_of ((hx4.block _ (lt_of B1.out)).trans B1.out)]; rfl
      have r4_1 : w4.cell? ⟨w.heap.size + 1, 1, none⟩ = some (.string t') := by rw [cell_of ((hx4.block _ (lt_of B1.out)).trans B1.out)]; rfl
      have r4_2 : w4.cell? ⟨w.heap.size + 1, 2, none⟩ = some (.int .i64 p') := by rw [cell_of ((hx4.block _ (lt_of B1.out)).trans B1.out)]; rfl
      obtain rfl : R = false := by rw [← HR.out]; simp [ap, wy, nb]
      go_wp2
      go_ret
      exact ⟨rfl, bb4⟩
    by_cases hq2 : k' = 2
    · subst hq2
      refine (wyI 2 t p W1 true (by decide)).mono ?_
      rintro e w1 ⟨rfl, hb1⟩
      have bb1 := below_trans ba hb1
      have hx1 := hb1
      have q1_0 : w1.cell? ⟨w.heap.size, 0, none⟩ = some (.int .i64 2) := by rw [cell_of ((hx1.block _ (lt_of B0.out)).trans B0.out)]; rfl
      have q1_1 : w1.cell? ⟨w.heap.size, 1, none⟩ = some (.string t) := by rw [cell_of ((hx1.block _ (lt_of B0.out)).trans B0.out)]; rfl
      have q1_2 : w1.cell? ⟨w.heap.size, 2, none⟩ = some (.int .i64 p) := by rw [cell_of ((hx1.block _ (lt_of B0.out)).trans B0.out)]; rfl
      have r1_0 : w1.cell? ⟨w.heap.size + 1, 0, none⟩ = some (.int .i64 2) := by rw [cell_of ((hx1.block _ (lt_of B1.out)).trans B1.out)]; rfl
      have r1_1 : w1.cell? ⟨w.heap.size + 1, 1, none⟩ = some (.string t') := by rw [cell_of ((hx1.block _ (lt_of B1.out)).trans B1.out)]; rfl
      have r1_2 : w1.cell? ⟨w.heap.size + 1, 2, none⟩ = some (.int .i64 p') := by rw [cell_of ((hx1.block _ (lt_of B1.out)).trans B1.out)]; rfl
      go_wp2_with fail
      refine (wyI 2 t' p' w1 true (by decide)).mono ?_
      rintro e w2 ⟨rfl, hb2⟩
      have bb2 := below_trans bb1 hb2
      have hx2 := below_trans hx1 hb2
      clear q1_0 r1_0 q1_1 r1_1 q1_2 r1_2
      have q2_0 : w2.cell? ⟨w.heap.size, 0, none⟩ = some (.int .i64 2) := by rw [cell_of ((hx2.block _ (lt_of B0.out)).trans B0.out)]; rfl
      have q2_1 : w2.cell? ⟨w.heap.size, 1, none⟩ = some (.string t) := by rw [cell_of ((hx2.block _ (lt_of B0.out)).trans B0.out)]; rfl
      have q2_2 : w2.cell? ⟨w.heap.size, 2, none⟩ = some (.int .i64 p) := by rw [cell_of ((hx2.block _ (lt_of B0.out)).trans B0.out)]; rfl
      have r2_0 : w2.cell? ⟨w.heap.size + 1, 0, none⟩ = some (.int .i64 2) := by rw [cell_of ((hx2.block _ (lt_of B1.out)).trans B1.out)]; rfl
      have r2_1 : w2.cell? ⟨w.heap.size + 1, 1, none⟩ = some (.string t') := by rw [cell_of ((hx2.block _ (lt_of B1.out)).trans B1.out)]; rfl
      have r2_2 : w2.cell? ⟨w.heap.size + 1, 2, none⟩ = some (.int .i64 p') := by rw [cell_of ((hx2.block _ (lt_of B1.out)).trans B1.out)]; rfl
      obtain rfl : R = true := by rw [← HR.out]; simp [ap, wy, nb]
      go_wp2
      go_ret
      exact ⟨rfl, bb2⟩
    by_cases hq3 : k' = 3
    · subst hq3
      refine (wyI 2 t p W1 true (by decide)).mono ?_
      rintro e w1 ⟨rfl, hb1⟩
      have bb1 := below_trans ba hb1
      have hx1 := hb1
      have q1_0 : w1.cell? ⟨w.heap.size, 0, none⟩ = some (.int .i64 2) := by rw [cell_of ((hx1.block _ (lt_of B0.out)).trans B0.out)]; rfl
      have q1_1 : w1.cell? ⟨w.heap.size, 1, none⟩ = some (.string t) := by rw [cell_of ((hx1.block _ (lt_of B0.out)).trans B0.out)]; rfl
      have q1_2 : w1.cell? ⟨w.heap.size, 2, none⟩ = some (.int .i64 p) := by rw [cell_of ((hx1.block _ (lt_of B0.out)).trans B0.out)]; rfl
      have r1_0 : w1.cell? ⟨w.heap.size + 1, 0, none⟩ = some (.int .i64 3) := by rw [cell_of ((hx1.block _ (lt_of B1.out)).trans B1.out)]; rfl
      have r1_1 : w1.cell? ⟨w.heap.size + 1, 1, none⟩ = some (.string t') := by rw [cell_of ((hx1.block _ (lt_of B1.out)).trans B1.out)]; rfl
      have r1_2 : w1.cell? ⟨w.heap.size + 1, 2, none⟩ = some (.int .i64 p') := by rw [cell_of ((hx1.block _ (lt_of B1.out)).trans B1.out)]; rfl
      go_wp2_with fail
      refine (wyI 3 t' p' w1 true (by decide)).mono ?_
      rintro e w2 ⟨rfl, hb2⟩
      have bb2 := below_trans bb1 hb2
      have hx2 := below_trans hx1 hb2
      clear q1_0 r1_0 q1_1 r1_1 q1_2 r1_2
      have q2_0 : w2.cell? ⟨w.heap.size, 0, none⟩ = some (.int .i64 2) := by rw [cell_of ((hx2.block _ (lt_of B0.out)).trans B0.out)]; rfl
      have q2_1 : w2.cell? ⟨w.heap.size, 1, none⟩ = some (.string t) := by rw [cell_of ((hx2.block _ (lt_of B0.out)).trans B0.out)]; rfl
      have q2_2 : w2.cell? ⟨w.heap.size, 2, none⟩ = some (.int .i64 p) := by rw [cell_of ((hx2.block _ (lt_of B0.out)).trans B0.out)]; rfl
      have r2_0 : w2.cell? ⟨w.heap.size + 1, 0, none⟩ = some (.int .i64 3) := by rw [cell_of ((hx2.block _ (lt_of B1.out)).trans B1.out)]; rfl
      have r2_1 : w2.cell? ⟨w.heap.size + 1, 1, none⟩ = some (.string t') := by rw [cell_of ((hx2.block _ (lt_of B1.out)).trans B1.out)]; rfl
      have r2_2 : w2.cell? ⟨w.heap.size + 1, 2, none⟩ = some (.int .i64 p') := by rw [cell_of ((hx2.block _ (lt_of B1.out)).trans B1.out)]; rfl
      obtain rfl : R = true := by rw [← HR.out]; simp [ap, wy, nb]
      go_wp2
      go_ret
      exact ⟨rfl, bb2⟩
    by_cases hq4 : k' = 4
    · subst hq4
      refine (wyI 2 t p W1 true (by decide)).mono ?_
      rintro e w1 ⟨rfl, hb1⟩
      have bb1 := below_trans ba hb1
      have hx1 := hb1
      have q1_0 : w1.cell? ⟨w.heap.size, 0, none⟩ = some (.int .i64 2) := by rw [cell_of ((hx1.block _ (lt_of B0.out)).trans B0.out)]; rfl
      have q1_1 : w1.cell? ⟨w.heap.size, 1, none⟩ = some (.string t) := by rw [cell_of ((hx1.block _ (lt_of B0.out)).trans B0.out)]; rfl
      have q1_2 : w1.cell? ⟨w.heap.size, 2, none⟩ = some (.int .i64 p) := by rw [cell_of ((hx1.block _ (lt_of B0.out)).trans B0.out)]; rfl
      have r1_0 : w1.cell? ⟨w.heap.size + 1, 0, none⟩ = some (.int .i64 4) := by rw [cell_of ((hx1.block _ (lt_of B1.out)).trans B1.out)]; rfl
      have r1_1 : w1.cell? ⟨w.heap.size + 1, 1, none⟩ = some (.string t') := by rw [cell_of ((hx1.block _ (lt_of B1.out)).trans B1.out)]; rfl
      have r1_2 : w1.cell? ⟨w.heap.size + 1, 2, none⟩ = some (.int .i64 p') := by rw [cell_of ((hx1.block _ (lt_of B1.out)).trans B1.out)]; rfl
      go_wp2_with fail
      refine (wyI 4 t' p' w1 true (by decide)).mono ?_
      rintro e w2 ⟨rfl, hb2⟩
      have bb2 := below_trans bb1 hb2
      have hx2 := below_trans hx1 hb2
      clear q1_0 r1_0 q1_1 r1_1 q1_2 r1_2
      have q2_0 : w2.cell? ⟨w.heap.size, 0, none⟩ = some (.int .i64 2) := by rw [cell_of ((hx2.block _ (lt_of B0.out)).trans B0.out)]; rfl
      have q2_1 : w2.cell? ⟨w.heap.size, 1, none⟩ = some (.string t) := by rw [cell_of ((hx2.block _ (lt_of B0.out)).trans B0.out)]; rfl
      have q2_2 : w2.cell? ⟨w.heap.size, 2, none⟩ = some (.int .i64 p) := by rw [cell_of ((hx2.block _ (lt_of B0.out)).trans B0.out)]; rfl
      have r2_0 : w2.cell? ⟨w.heap.size + 1, 0, none⟩ = some (.int .i64 4) := by rw [cell_of ((hx2.block _ (lt_of B1.out)).trans B1.out)]; rfl
      have r2_1 : w2.cell? ⟨w.heap.size + 1, 1, none⟩ = some (.string t') := by rw [cell_of ((hx2.block _ (lt_of B1.out)).trans B1.out)]; rfl
      have r2_2 : w2.cell? ⟨w.heap.size + 1, 2, none⟩ = some (.int .i64 p') := by rw [cell_of ((hx2.block _ (lt_of B1.out)).trans B1.out)]; rfl
      obtain rfl : R = true := by rw [← HR.out]; simp [ap, wy, nb]
      go_wp2
      go_ret
      exact ⟨rfl, bb2⟩
    by_cases hq5 : k' = 5
    · subst hq5
      refine (wyI 2 t p W1 true (by decide)).mono ?_
      rintro e w1 ⟨rfl, hb1⟩
      have bb1 := below_trans ba hb1
      have hx1 := hb1
      have q1_0 : w1.cell? ⟨w.heap.size, 0, none⟩ = some (.int .i64 2) := by rw [cell_of ((hx1.block _ (lt_of B0.out)).trans B0.out)]; rfl
      have q1_1 : w1.cell? ⟨w.heap.size, 1, none⟩ = some (.string t) := by rw [cell_of ((hx1.block _ (lt_of B0.out)).trans B0.out)]; rfl
      have q1_2 : w1.cell? ⟨w.heap.size, 2, none⟩ = some (.int .i64 p) := by rw [cell_of ((hx1.block _ (lt_of B0.out)).trans B0.out)]; rfl
      have r1_0 : w1.cell? ⟨w.heap.size + 1, 0, none⟩ = some (.int .i64 5) := by rw [cell_of ((hx1.block _ (lt_of B1.out)).trans B1.out)]; rfl
      have r1_1 : w1.cell? ⟨w.heap.size + 1, 1, none⟩ = some (.string t') := by rw [cell_of ((hx1.block _ (lt_of B1.out)).trans B1.out)]; rfl
      have r1_2 : w1.cell? ⟨w.heap.size + 1, 2, none⟩ = some (.int .i64 p') := by rw [cell_of ((hx1.block _ (lt_of B1.out)).trans B1.out)]; rfl
      go_wp2_with fail
      refine (wyI 5 t' p' w1 false (by decide)).mono ?_
      rintro e w2 ⟨rfl, hb2⟩
      have bb2 := below_trans bb1 hb2
      have hx2 := below_trans hx1 hb2
      clear q1_0 r1_0 q1_1 r1_1 q1_2 r1_2
      have q2_0 : w2.cell? ⟨w.heap.size, 0, none⟩ = some (.int .i64 2) := by rw [cell_of ((hx2.block _ (lt_of B0.out)).trans B0.out)]; rfl
      have q2_1 : w2.cell? ⟨w.heap.size, 1, none⟩ = some (.string t) := by rw [cell_of ((hx2.block _ (lt_of B0.out)).trans B0.out)]; rfl
      have q2_2 : w2.cell? ⟨w.heap.size, 2, none⟩ = some (.int .i64 p) := by rw [cell_of ((hx2.block _ (lt_of B0.out)).trans B0.out)]; rfl
      have r2_0 : w2.cell? ⟨w.heap.size + 1, 0, none⟩ = some (.int .i64 5) := by rw [cell_of ((hx2.block _ (lt_of B1.out)).trans B1.out)]; rfl
      have r2_1 : w2.cell? ⟨w.heap.size + 1, 1, none⟩ = some (.string t') := by rw [cell_of ((hx2.block _ (lt_of B1.out)).trans B1.out)]; rfl
      have r2_2 : w2.cell? ⟨w.heap.size + 1, 2, none⟩ = some (.int .i64 p') := by rw [cell_of ((hx2.block _ (lt_of B1.out)).trans B1.out)]; rfl
      go_wp2_with fail
      refine (nbI 2 t p w2 false (by decide)).mono ?_
      rintro e w3 ⟨rfl, hb3⟩
      have bb3 := below_trans bb2 hb3
      have hx3 := below_trans hx2 hb3
      clear q2_0 r2_0 q2_1 r2_1 q2_2 r2_2
      have q3_0 : w3.cell? ⟨w.heap.size, 0, none⟩ = some (.int .i64 2) := by rw [cell_of ((hx3.block _ (lt_of B0.out)).trans B0.out)]; rfl
      have q3_1 : w3.cell? ⟨w.heap.size, 1, none⟩ = some (.string t) := by rw [cell_of ((hx3.block _ (lt_of B0.out)).trans B0.out)]; rfl
      have q3_2 : w3.cell? ⟨w.heap.size, 2, none⟩ = some (.int .i64 p) := by rw [cell_of ((hx3.block _ (lt_of B0.out)).trans B0.out)]; rfl
      have r3_0 : w3.cell? ⟨w.heap.size + 1, 0, none⟩ = some (.int .i64 5) := by rw [cell_of ((hx3.block _ (lt_of B1.out)).trans B1.out)]; rfl
      have r3_1 : w3.cell? ⟨w.heap.size + 1, 1, none⟩ = some (.string t') := by rw [cell_of ((hx3.block _ (lt_of B1.out)).trans B1.out)]; rfl
      have r3_2 : w3.cell? ⟨w.heap.size + 1, 2, none⟩ = some (.int .i64 p') := by rw [cell_of ((hx3.block _ (lt_of B1.out)).trans B1.out)]; rfl
      go_wp2_with fail
      refine (txI 2 t p w3 false (by decide)).mono ?_
      rintro e w4 ⟨rfl, hb4⟩
      have bb4 := below_trans bb3 hb4
      have hx4 := below_trans hx3 hb4
      clear q3_0 r3_0 q3_1 r3_1 q3_2 r3_2
      have q4_0 : w4.cell? ⟨w.heap.size, 0, none⟩ = some (.int .i64 2) := by rw [cell_of ((hx4.block _ (lt_of B0.out)).trans B0.out)]; rfl
      have q4_1 : w4.cell? ⟨w.heap.size, 1, none⟩ = some (.string t) := by rw [cell_of ((hx4.block _ (lt_of B0.out)).trans B0.out)]; rfl
      have q4_2 : w4.cell? ⟨w.heap.size, 2, none⟩ = some (.int .i64 p) := by rw [cell_of ((hx4.block _ (lt_of B0.out)).trans B0.out)]; rfl
      have r4_0 : w4.cell? ⟨w.heap.size + 1, 0, none⟩ = some (.int .i64 5) := by rw [cell_of ((hx4.block _ (lt_of B1.out)).trans B1.out)]; rfl
      have r4_1 : w4.cell? ⟨w.heap.size + 1, 1, none⟩ = some (.string t') := by rw [cell_of ((hx4.block _ (lt_of B1.out)).trans B1.out)]; rfl
      have r4_2 : w4.cell? ⟨w.heap.size + 1, 2, none⟩ = some (.int .i64 p') := by rw [cell_of ((hx4.block _ (lt_of B1.out)).trans B1.out)]; rfl
      obtain rfl : R = false := by rw [← HR.out]; simp [ap, wy, nb]
      go_wp2
      go_ret
      exact ⟨rfl, bb4⟩
    replace hq1 : (k' == 1) = false := by simp [hq1]
    replace hq2 : (k' == 2) = false := by simp [hq2]
    replace hq3 : (k' == 3) = false := by simp [hq3]
    replace hq4 : (k' == 4) = false := by simp [hq4]
    replace hq5 : (k' == 5) = false := by simp [hq5]
    have hqw : wy k' = false := by simp [wy, hq2, hq3, hq4]
    refine (wyI 2 t p W1 true (by decide)).mono ?_
    rintro e w1 ⟨rfl, hb1⟩
    have bb1 := below_trans ba hb1
    have hx1 := hb1
    have q1_0 : w1.cell? ⟨w.heap.size, 0, none⟩ = some (.int .i64 2) := by rw [cell_of ((hx1.block _ (lt_of B0.out)).trans B0.out)]; rfl
    have q1_1 : w1.cell? ⟨w.heap.size, 1, none⟩ = some (.string t) := by rw [cell_of ((hx1.block _ (lt_of B0.out)).trans B0.out)]; rfl
    have q1_2 : w1.cell? ⟨w.heap.size, 2, none⟩ = some (.int .i64 p) := by rw [cell_of ((hx1.block _ (lt_of B0.out)).trans B0.out)]; rfl
    have r1_0 : w1.cell? ⟨w.heap.size + 1, 0, none⟩ = some (.int .i64 k') := by rw [cell_of ((hx1.block _ (lt_of B1.out)).trans B1.out)]; rfl
    have r1_1 : w1.cell? ⟨w.heap.size + 1, 1, none⟩ = some (.string t') := by rw [cell_of ((hx1.block _ (lt_of B1.out)).trans B1.out)]; rfl
    have r1_2 : w1.cell? ⟨w.heap.size + 1, 2, none⟩ = some (.int .i64 p') := by rw [cell_of ((hx1.block _ (lt_of B1.out)).trans B1.out)]; rfl
    go_wp2_with fail
    refine (wyI k' t' p' w1 false hqw).mono ?_
    rintro e w2 ⟨rfl, hb2⟩
    have bb2 := below_trans bb1 hb2
    have hx2 := below_trans hx1 hb2
    clear q1_0 r1_0 q1_1 r1_1 q1_2 r1_2
    have q2_0 : w2.cell? ⟨w.heap.size, 0, none⟩ = some (.int .i64 2) := by rw [cell_of ((hx2.block _ (lt_of B0.out)).trans B0.out)]; rfl
    have q2_1 : w2.cell? ⟨w.heap.size, 1, none⟩ = some (.string t) := by rw [cell_of ((hx2.block _ (lt_of B0.out)).trans B0.out)]; rfl
    have q2_2 : w2.cell? ⟨w.heap.size, 2, none⟩ = some (.int .i64 p) := by rw [cell_of ((hx2.block _ (lt_of B0.out)).trans B0.out)]; rfl
    have r2_0 : w2.cell? ⟨w.heap.size + 1, 0, none⟩ = some (.int .i64 k') := by rw [cell_of ((hx2.block _ (lt_of B1.out)).trans B1.out)]; rfl
    have r2_1 : w2.cell? ⟨w.heap.size + 1, 1, none⟩ = some (.string t') := by rw [cell_of ((hx2.block _ (lt_of B1.out)).trans B1.out)]; rfl
    have r2_2 : w2.cell? ⟨w.heap.size + 1, 2, none⟩ = some (.int .i64 p') := by rw [cell_of ((hx2.block _ (lt_of B1.out)).trans B1.out)]; rfl
    go_wp2_with fail
    refine (nbI 2 t p w2 false (by decide)).mono ?_
    rintro e w3 ⟨rfl, hb3⟩
    have bb3 := below_trans bb2 hb3
    have hx3 := below_trans hx2 hb3
    clear q2_0 r2_0 q2_1 r2_1 q2_2 r2_2
    have q3_0 : w3.cell? ⟨w.heap.size, 0, none⟩ = some (.int .i64 2) := by rw [cell_of ((hx3.block _ (lt_of B0.out)).trans B0.out)]; rfl
    have q3_1 : w3.cell? ⟨w.heap.size, 1, none⟩ = some (.string t) := by rw [cell_of ((hx3.block _ (lt_of B0.out)).trans B0.out)]; rfl
    have q3_2 : w3.cell? ⟨w.heap.size, 2, none⟩ = some (.int .i64 p) := by rw [cell_of ((hx3.block _ (lt_of B0.out)).trans B0.out)]; rfl
    have r3_0 : w3.cell? ⟨w.heap.size + 1, 0, none⟩ = some (.int .i64 k') := by rw [cell_of ((hx3.block _ (lt_of B1.out)).trans B1.out)]; rfl
    have r3_1 : w3.cell? ⟨w.heap.size + 1, 1, none⟩ = some (.string t') := by rw [cell_of ((hx3.block _ (lt_of B1.out)).trans B1.out)]; rfl
    have r3_2 : w3.cell? ⟨w.heap.size + 1, 2, none⟩ = some (.int .i64 p') := by rw [cell_of ((hx3.block _ (lt_of B1.out)).trans B1.out)]; rfl
    go_wp2_with fail
    refine (txI 2 t p w3 false (by decide)).mono ?_
    rintro e w4 ⟨rfl, hb4⟩
    have bb4 := below_trans bb3 hb4
    have hx4 := below_trans hx3 hb4
    clear q3_0 r3_0 q3_1 r3_1 q3_2 r3_2
    have q4_0 : w4.cell? ⟨w.heap.size, 0, none⟩ = some (.int .i64 2) := by rw [cell_of ((hx4.block _ (lt_of B0.out)).trans B0.out)]; rfl
    have q4_1 : w4.cell? ⟨w.heap.size, 1, none⟩ = some (.string t) := by rw [cell_of ((hx4.block _ (lt_of B0.out)).trans B0.out)]; rfl
    have q4_2 : w4.cell? ⟨w.heap.size, 2, none⟩ = some (.int .i64 p) := by rw [cell_of ((hx4.block _ (lt_of B0.out)).trans B0.out)]; rfl
    have r4_0 : w4.cell? ⟨w.heap.size + 1, 0, none⟩ = some (.int .i64 k') := by rw [cell_of ((hx4.block _ (lt_of B1.out)).trans B1.out)]; rfl
    have r4_1 : w4.cell? ⟨w.heap.size + 1, 1, none⟩ = some (.string t') := by rw [cell_of ((hx4.block _ (lt_of B1.out)).trans B1.out)]; rfl
    have r4_2 : w4.cell? ⟨w.heap.size + 1, 2, none⟩ = some (.int .i64 p') := by rw [cell_of ((hx4.block _ (lt_of B1.out)).trans B1.out)]; rfl
    obtain rfl : R = false := by rw [← HR.out]; simp [ap, wy, nb, hq1, hq2, hq3, hq4, hq5]
    go_wp2
    go_ret
    exact ⟨rfl, bb4⟩
  by_cases hk3 : k = 3
  · subst hk3
    by_cases hq1 : k' = 1
    · subst hq1
      cases hd : (t'.toList == [46, 46, 46]) with
      | true =>
        refine (wyI 3 t p W1 true (by decide)).mono ?_
        rintro e w1 ⟨rfl, hb1⟩
        have bb1 := below_trans ba hb1
        have hx1 := hb1
        have q1_0 : w1.cell? ⟨w.heap.size, 0, none⟩ = some (.int .i64 3) := by rw [cell_of ((hx1.block _ (lt_of B0.out)).trans B0.out)]; rfl
        have q1_1 : w1.cell? ⟨w.heap.size, 1, none⟩ = some (.string t) := by rw [cell_of ((hx1.block _ (lt_of B0.out)).trans B0.out)]; rfl
        have q1_2 : w1.cell? ⟨w.heap.size, 2, none⟩ = some (.int .i64 p) := by rw [cell_of ((hx1.block _ (lt_of B0.out)).trans B0.out)]; rfl
        have r1_0 : w1.cell? ⟨w.heap.size + 1, 0, none⟩ = some (.int .i64 1) := by rw [cell_of ((hx1.block _ (lt_of B1.out)).trans B1.out)]; rfl
        have r1_1 : w1.cell? ⟨w.heap.size + 1, 1, none⟩ = some (.string t') := by rw [cell_of ((hx1.block _ (lt_of B1.out)).trans B1.out)]; rfl
        have r1_2 : w1.cell? ⟨w.heap.size + 1, 2, none⟩ = some (.int .i64 p') := by rw [cell_of ((hx1.block _ (lt_of B1.out)).trans B1.out)]; rfl
        go_wp2_with fail
        refine (wyI 1 t' p' w1 false (by decide)).mono ?_
        rintro e w2 ⟨rfl, hb2⟩
        have bb2 := below_trans bb1 hb2
        have hx2 := below_trans hx1 hb2
        clear q1_0 r1_0 q1_1 r1_1 q1_2 r1_2
        have q2_0 : w2.cell? ⟨w.heap.size, 0, none⟩ = some (.int .i64 3) := by rw [cell_of ((hx2.block _ (lt_of B0.out)).trans B0.out)]; rfl
        have q2_1 : w2.cell? ⟨w.heap.size, 1, none⟩ = some (.string t) := by rw [cell_of ((hx2.block _ (lt_of B0.out)).trans B0.out)]; rfl
        have q2_2 : w2.cell? ⟨w.heap.size, 2, none⟩ = some (.int .i64 p) := by rw [cell_of ((hx2.block _ (lt_of B0.out)).trans B0.out)]; rfl
        have r2_0 : w2.cell? ⟨w.heap.size + 1, 0, none⟩ = some (.int .i64 1) := by rw [cell_of ((hx2.block _ (lt_of B1.out)).trans B1.out)]; rfl
        have r2_1 : w2.cell? ⟨w.heap.size + 1, 1, none⟩ = some (.string t') := by rw [cell_of ((hx2.block _ (lt_of B1.out)).trans B1.out)]; rfl
        have r2_2 : w2.cell? ⟨w.heap.size + 1, 2, none⟩ = some (.int .i64 p') := by rw [cell_of ((hx2.block _ (lt_of B1.out)).trans B1.out)]; rfl
        go_wp2_with fail
        refine (nbI 3 t p w2 true (by decide)).mono ?_
        rintro e w3 ⟨rfl, hb3⟩
        have bb3 := below_trans bb2 hb3
        have hx3 := below_trans hx2 hb3
        clear q2_0 r2_0 q2_1 r2_1 q2_2 r2_2
        have q3_0 : w3.cell? ⟨w.heap.size, 0, none⟩ = some (.int .i64 3) := by rw [cell_of ((hx3.block _ (lt_of B0.out)).trans B0.out)]; rfl
        have q3_1 : w3.cell? ⟨w.heap.size, 1, none⟩ = some (.string t) := by rw [cell_of ((hx3.block _ (lt_of B0.out)).trans B0.out)]; rfl
        have q3_2 : w3.cell? ⟨w.heap.size, 2, none⟩ = some (.int .i64 p) := by rw [cell_of ((hx3.block _ (lt_of B0.out)).trans B0.out)]; rfl
        have r3_0 : w3.cell? ⟨w.heap.size + 1, 0, none⟩ = some (.int .i64 1) := by rw [cell_of ((hx3.block _ (lt_of B1.out)).trans B1.out)]; rfl
        have r3_1 : w3.cell? ⟨w.heap.size + 1, 1, none⟩ = some (.string t') := by rw [cell_of ((hx3.block _ (lt_of B1.out)).trans B1.out)]; rfl
        have r3_2 : w3.cell? ⟨w.heap.size + 1, 2, none⟩ = some (.int .i64 p') := by rw [cell_of ((hx3.block _ (lt_of B1.out)).trans B1.out)]; rfl
        go_wp2_with fail
        refine (isDots 1 t' p' w3 true (by rw [hd]; decide)).mono ?_
        rintro e w4 ⟨rfl, hb4⟩
        have bb4 := below_trans bb3 hb4
        have hx4 := below_trans hx3 hb4
        clear q3_0 r3_0 q3_1 r3_1 q3_2 r3_2
        have q4_0 : w4.cell? ⟨w.heap.size, 0, none⟩ = some (.int .i64 3) := by rw [cell_of ((hx4.block _ (lt_of B0.out)).trans B0.out)]; rfl
        have q4_1 : w4.cell? ⟨w.heap.size, 1, none⟩ = some (.string t) := by rw [cell_of ((hx4.block _ (lt_of B0.out)).trans B0.out)]; rfl
        have q4_2 : w4.cell? ⟨w.heap.size, 2, none⟩ = some (.int .i64 p) := by rw [cell_of ((hx4.block _ (lt_of B0.out)).trans B0.out)]; rfl
        have r4_0 : w4.cell? ⟨w.heap.size + 1, 0, none⟩ = some (.int .i64 1) := by rw [cell_of ((hx4.block _ (lt_of B1.out)).trans B1.out)]; rfl
        have r4_1 : w4.cell? ⟨w.heap.size + 1, 1, none⟩ = some (.string t') := by rw [cell_of ((hx4.block _ (lt_of B1.out)).trans B1.out)]; rfl
        have r4_2 : w4.cell? ⟨w.heap.size + 1, 2, none⟩ = some (.int .i64 p') := by rw [cell_of ((hx4.block _ (lt_of B1.out)).trans B1.out)]; rfl
        obtain rfl : R = true := by rw [← HR.out]; simp [ap, wy, nb, hd]
        go_wp2
        go_ret
        exact ⟨rfl, bb4⟩
      | false =>
        refine (wyI 3 t p W1 true (by decide)).mono ?_
        rintro e w1 ⟨rfl, hb1⟩
        have bb1 := below_trans ba hb1
        have hx1 := hb1
        have q1_0 : w1.cell? ⟨w.heap.size, 0, none⟩ = some (.int .i64 3) := by rw [cell_of ((hx1.block _ (lt_of B0.out)).trans B0.out)]; rfl
        have q1_1 : w1.cell? ⟨w.heap.size, 1, none⟩ = some (.string t) := by rw [cell_of ((hx1.block _ (lt_of B0.out)).trans B0.out)]; rfl
        have q1_2 : w1.cell? ⟨w.heap.size, 2, none⟩ = some (.int .i64 p) := by rw [cell_of ((hx1.block _ (lt_of B0.out)).trans B0.out)]; rfl
        have r1_0 : w1.cell? ⟨w.heap.size + 1, 0, none⟩ = some (.int .i64 1) := by rw [cell_of ((hx1.block _ (lt_of B1.out)).trans B1.out)]; rfl
        have r1_1 : w1.cell? ⟨w.heap.size + 1, 1, none⟩ = some (.string t') := by rw [cell_of ((hx1.block _ (lt_of B1.out)).trans B1.out)]; rfl
        have r1_2 : w1.cell? ⟨w.heap.size + 1, 2, none⟩ = some (.int .i64 p') := by rw [cell_of ((hx1.block _ (lt_of B1.out)).trans B1.out)]; rfl
        go_wp2_with fail
        refine (wyI 1 t' p' w1 false (by decide)).mono ?_
        rintro e w2 ⟨rfl, hb2⟩
        have bb2 := below_trans bb1 hb2
        have hx2 := below_trans hx1 hb2
        clear q1_0 r1_0 q1_1 r1_1 q1_2 r1_2
        have q2_0 : w2.cell? ⟨w.heap.size, 0, none⟩ = some (.int .i64 3) := by rw [cell_of ((hx2.block _ (lt_of B0.out)).trans B0.out)]; rfl
        have q2_1 : w2.cell? ⟨w.heap.size, 1, none⟩ = some (.string t) := by rw [cell_of ((hx2.block _ (lt_of B0.out)).trans B0.out)]; rfl
        have q2_2 : w2.cell? ⟨w.heap.size, 2, none⟩ = some (.int .i64 p) := by rw [cell_of ((hx2.block _ (lt_of B0.out)).trans B0.out)]; rfl
        have r2_0 : w2.cell? ⟨w.heap.size + 1, 0, none⟩ = some (.int .i64 1) := by rw [cell_of ((hx2.block _ (lt_of B1.out)).trans B1.out)]; rfl
        have r2_1 : w2.cell? ⟨w.heap.size + 1, 1, none⟩ = some (.string t') := by rw [cell_of ((hx2.block _ (lt_of B1.out)).trans B1.out)]; rfl
        have r2_2 : w2.cell? ⟨w.heap.size + 1, 2, none⟩ = some (.int .i64 p') := by rw [cell_of ((hx2.block _ (lt_of B1.out)).trans B1.out)]; rfl
        go_wp2_with fail
        refine (nbI 3 t p w2 true (by decide)).mono ?_
        rintro e w3 ⟨rfl, hb3⟩
        have bb3 := below_trans bb2 hb3
        have hx3 := below_trans hx2 hb3
        clear q2_0 r2_0 q2_1 r2_1 q2_2 r2_2
        have q3_0 : w3.cell? ⟨w.heap.size, 0, none⟩ = some (.int .i64 3) := by rw [cell_of ((hx3.block _ (lt_of B0.out)).trans B0.out)]; rfl
        have q3_1 : w3.cell? ⟨w.heap.size, 1, none⟩ = some (.string t) := by rw [cell_of ((hx3.block _ (lt_of B0.out)).trans B0.out)]; rfl
        have q3_2 : w3.cell? ⟨w.heap.size, 2, none⟩ = some (.int .i64 p) := by rw [cell_of ((hx3.block _ (lt_of B0.out)).trans B0.out)]; rfl
        have r3_0 : w3.cell? ⟨w.heap.size + 1, 0, none⟩ = some (.int .i64 1) := by rw [cell_of ((hx3.block _ (lt_of B1.out)).trans B1.out)]; rfl
        have r3_1 : w3.cell? ⟨w.heap.size + 1, 1, none⟩ = some (.string t') := by rw [cell_of ((hx3.block _ (lt_of B1.out)).trans B1.out)]; rfl
        have r3_2 : w3.cell? ⟨w.heap.size + 1, 2, none⟩ = some (.int .i64 p') := by rw [cell_of ((hx3.block _ (lt_of B1.out)).trans B1.out)]; rfl
        go_wp2_with fail
        refine (isDots 1 t' p' w3 false (by rw [hd]; decide)).mono ?_
        rintro e w4 ⟨rfl, hb4⟩
        have bb4 := below_trans bb3 hb4
        have hx4 := below_trans hx3 hb4
        clear q3_0 r3_0 q3_1 r3_1 q3_2 r3_2
        have q4_0 : w4.cell? ⟨w.heap.size, 0, none⟩ = some (.int .i64 3) := by rw [cell_of ((hx4.block _ (lt_of B0.out)).trans B0.out)]; rfl
        have q4_1 : w4.cell? ⟨w.heap.size, 1, none⟩ = some (.string t) := by rw [cell_of ((hx4.block _ (lt_of B0.out)).trans B0.out)]; rfl
        have q4_2 : w4.cell? ⟨w.heap.size, 2, none⟩ = some (.int .i64 p) := by rw [cell_of ((hx4.block _ (lt_of B0.out)).trans B0.out)]; rfl
        have r4_0 : w4.cell? ⟨w.heap.size + 1, 0, none⟩ = some (.int .i64 1) := by rw [cell_of ((hx4.block _ (lt_of B1.out)).trans B1.out)]; rfl
        have r4_1 : w4.cell? ⟨w.heap.size + 1, 1, none⟩ = some (.string t') := by rw [cell_of ((hx4.block _ (lt_of B1.out)).trans B1.out)]; rfl
        have r4_2 : w4.cell? ⟨w.heap.size + 1, 2, none⟩ = some (.int .i64 p') := by rw [cell_of ((hx4.block _ (lt_of B1.out)).trans B1.out)]; rfl
        go_wp2_with fail
        refine (txI 3 t p w4 false (by decide)).mono ?_
        rintro e w5 ⟨rfl, hb5⟩
        have bb5 := below_trans bb4 hb5
        have hx5 := below_trans hx4 hb5
        clear q4_0 r4_0 q4_1 r4_1 q4_2 r4_2
        have q5_0 : w5.cell? ⟨w.heap.size, 0, none⟩ = some (.int .i64 3) := by rw [cell_of ((hx5.block _ (lt_of B0.out)).trans B0.out)]; rfl
        have q5_1 : w5.cell? ⟨w.heap.size, 1, none⟩ = some (.string t) := by rw [cell_of ((hx5.block _ (lt_of B0.out)).trans B0.out)]; rfl
        have q5_2 : w5.cell? ⟨w.heap.size, 2, none⟩ = some (.int .i64 p) := by rw [cell_of ((hx5.block _ (lt_of B0.out)).trans B0.out)]; rfl
        have r5_0 : w5.cell? ⟨w.heap.size + 1, 0, none⟩ = some (.int .i64 1) := by rw [cell_of ((hx5.block _ (lt_of B1.out)).trans B1.out)]; rfl
        have r5_1 : w5.cell? ⟨w.heap.size + 1, 1, none⟩ = some (.string t') := by rw [cell_of ((hx5.block _ (lt_of B1.out)).trans B1.out)]; rfl
        have r5_2 : w5.cell? ⟨w.heap.size + 1, 2, none⟩ = some (.int .i64 p') := by rw [cell_of ((hx5.block _ (lt_of B1.out)).trans B1.out)]; rfl
        obtain rfl : R = false := by rw [← HR.out]; simp [ap, wy, nb, hd]
        go_wp2
        go_ret
        exact ⟨rfl, bb5⟩
    by_cases hq2 : k' = 2
    · subst hq2
      refine (wyI 3 t p W1 true (by decide)).mono ?_
      rintro e w1 ⟨rfl, hb1⟩
      have bb1 := below_trans ba hb1
      have hx1 := hb1
      have q1_0 : w1.cell? ⟨w.heap.size, 0, none⟩ = some (.int .i64 3) := by rw [cell_of ((hx1.block _ (lt_of B0.out)).trans B0.out)]; rfl
      have q1_1 : w1.cell? ⟨w.heap.size, 1, none⟩ = some (.string t) := by rw [cell_of ((hx1.block _ (lt_of B0.out)).trans B0.out)]; rfl
      have q1_2 : w1.cell? ⟨w.heap.size, 2, none⟩ = some (.int .i64 p) := by rw [cell_of ((hx1.block _ (lt_of B0.out)).trans B0.out)]; rfl
      have r1_0 : w1.cell? ⟨w.heap.size + 1, 0, none⟩ = some (.int .i64 2) := by rw [cell_of ((hx1.block _ (lt_of B1.out)).trans B1.out)]; rfl
      have r1_1 : w1.cell? ⟨w.heap.size + 1, 1, none⟩ = some (.string t') := by rw [cell_of ((hx1.block _ (lt_of B1.out)).trans B1.out)]; rfl
      have r1_2 : w1.cell? ⟨w.heap.size + 1, 2, none⟩ = some (.int .i64 p') := by rw [cell_of ((hx1.block _ (lt_of B1.out)).trans B1.out)]; rfl
      go_wp2_with fail
      refine (wyI 2 t' p' w1 true (by decide)).mono ?_
      rintro e w2 ⟨rfl, hb2⟩
      have bb2 := below_trans bb1 hb2
      have hx2 := below_trans hx1 hb2
      clear q1_0 r1_0 q1_1 r1_1 q1_2 r1_2
      have q2_0 : w2.cell? ⟨w.heap.size, 0, none⟩ = some (.int .i64 3) := by rw [cell_of ((hx2.block _ (lt_of B0.out)).trans B0.out)]; rfl
      have q2_1 : w2.cell? ⟨w.heap.size, 1, none⟩ = some (.string t) := by rw [cell_of ((hx2.block _ (lt_of B0.out)).trans B0.out)]; rfl
      have q2_2 : w2.cell? ⟨w.heap.size, 2, none⟩ = some (.int .i64 p) := by rw [cell_of ((hx2.block _ (lt_of B0.out)).trans B0.out)]; rfl
      have r2_0 : w2.cell? ⟨w.heap.size + 1, 0, none⟩ = some (.int .i64 2) := by rw [cell_of ((hx2.block _ (lt_of B1.out)).trans B1.out)]; rfl
      have r2_1 : w2.cell? ⟨w.heap.size + 1, 1, none⟩ = some (.string t') := by rw [cell_of ((hx2.block _ (lt_of B1.out)).trans B1.out)]; rfl
      have r2_2 : w2.cell? ⟨w.heap.size + 1, 2, none⟩ = some (.int .i64 p') := by rw [cell_of ((hx2.block _ (lt_of B1.out)).trans B1.out)]; rfl
      obtain rfl : R = true := by rw [← HR.out]; simp [ap, wy, nb]
      go_wp2
      go_ret
      exact ⟨rfl, bb2⟩
    by_cases hq3 : k' = 3
    · subst hq3
      refine (wyI 3 t p W1 true (by decide)).mono ?_
      rintro e w1 ⟨rfl, hb1⟩
      have bb1 := below_trans ba hb1
      have hx1 := hb1
      have q1_0 : w1.cell? ⟨w.heap.size, 0, none⟩ = some (.int .i64 3) := by rw [cell_of ((hx1.block _ (lt_of B0.out)).trans B0.out)]; rfl
      have q1_1 : w1.cell? ⟨w.heap.size, 1, none⟩ = some (.string t) := by rw [cell_of ((hx1.block _ (lt_of B0.out)).trans B0.out)]; rfl
      have q1_2 : w1.cell? ⟨w.heap.size, 2, none⟩ = some (.int .i64 p) := by rw [cell_of ((hx1.block _ (lt_of B0.out)).trans B0.out)]; rfl
      have r1_0 : w1.cell? ⟨w.heap.size + 1, 0, none⟩ = some (.int .i64 3) := by rw [cell_of ((hx1.block _ (lt_of B1.out)).trans B1.out)]; rfl
      have r1_1 : w1.cell? ⟨w.heap.size + 1, 1, none⟩ = some (.string t') := by rw [cell_of ((hx1.block _ (lt_of B1.out)).trans B1.out)]; rfl
      have r1_2 : w1.cell? ⟨w.heap.size + 1, 2, none⟩ = some (.int .i64 p') := by rw [cell_of ((hx1.block _ (lt_of B1.out)).trans B1.out)]; rfl
      go_wp2_with fail
      refine (wyI 3 t' p' w1 true (by decide)).mono ?_
      rintro e w2 ⟨rfl, hb2⟩
      have bb2 := below_trans bb1 hb2
      have hx2 := below_trans hx1 hb2
      clear q1_0 r1_0 q1_1 r1_1 q1_2 r1_2
      have q2_0 : w2.cell? ⟨w.heap.size, 0, none⟩ = some (.int .i64 3) := by rw [cell_of ((hx2.block _ (lt_of B0.out)).trans B0.out)]; rfl
      have q2_1 : w2.cell? ⟨w.heap.size, 1, none⟩ = some (.string t) := by rw [cell_of ((hx2.block _ (lt_of B0.out)).trans B0.out)]; rfl
      have q2_2 : w2.cell? ⟨w.heap.size, 2, none⟩ = some (.int .i64 p) := by rw [cell_of ((hx2.block _ (lt_of B0.out)).trans B0.out)]; rfl
      have r2_0 : w2.cell? ⟨w.heap.size + 1, 0, none⟩ = some (.int .i64 3) := by rw [cell_of ((hx2.block _ (lt_of B1.out)).trans B1.out)]; rfl
      have r2_1 : w2.cell? ⟨w.heap.size + 1, 1, none⟩ = some (.string t') := by rw [cell_of ((hx2.block _ (lt_of B1.out)).trans B1.out)]; rfl
      have r2_2 : w2.cell? ⟨w.heap.size + 1, 2, none⟩ = some (.int .i64 p') := by rw [cell_of ((hx2.block _ (lt_of B1.out)).trans B1.out)]; rfl
      obtain rfl : R = true := by rw [← HR.out]; simp [ap, wy, nb]
      go_wp2
      go_ret
      exact ⟨rfl, bb2⟩
    by_cases hq4 : k' = 4
    · subst hq4
      refine (wyI 3 t p W1 true (by decide)).mono ?_
      rintro e w1 ⟨rfl, hb1⟩
      have bb1 := below_trans ba hb1
      have hx1 := hb1
      have q1_0 : w1.cell? ⟨w.heap.size, 0, none⟩ = some (.int .i64 3) := by rw [cell_of ((hx1.block _ (lt_of B0.out)).trans B0.out)]; rfl
      have q1_1 : w1.cell? ⟨w.heap.size, 1, none⟩ = some (.string t) := by rw [cell_of ((hx1.block _ (lt_of B0.out)).trans B0.out)]; rfl
      have q1_2 : w1.cell? ⟨w.heap.size, 2, none⟩ = some (.int .i64 p) := by rw [cell_of ((hx1.block _ (lt_of B0.out)).trans B0.out)]; rfl
      have r1_0 : w1.cell? ⟨w.heap.size + 1, 0, none⟩ = some (.int .i64 4) := by rw [cell_of ((hx1.block _ (lt_of B1.out)).trans B1.out)]; rfl
      have r1_1 : w1.cell? ⟨w.heap.size + 1, 1, none⟩ = some (.string t') := by rw [cell_of ((hx1.block _ (lt_of B1.out)).trans B1.out)]; rfl
      have r1_2 : w1.cell? ⟨w.heap.size + 1, 2, none⟩ = some (.int .i64 p') := by rw [cell_of ((hx1.block _ (lt_of B1.out)).trans B1.out)]; rfl
      go_wp2_with fail
      refine (wyI 4 t' p' w1 true (by decide)).mono ?_
      rintro e w2 ⟨rfl, hb2⟩
      have bb2 := below_trans bb1 hb2
      have hx2 := below_trans hx1 hb2
      clear q1_0 r1_0 q1_1 r1_1 q1_2 r1_2
      have q2_0 : w2.cell? ⟨w.heap.size, 0, none⟩ = some (.int .i64 3) := by rw [cell_of ((hx2.block _ (lt_of B0.out)).trans B0.out)]; rfl
      have q2_1 : w2.cell? ⟨w.heap.size, 1, none⟩ = some (.string t) := by rw [cell_of ((hx2.block _ (lt_of B0.out)).trans B0.out)]; rfl
      have q2_2 : w2.cell? ⟨w.heap.size, 2, none⟩ = some (.int .i64 p) := by rw [cell_of ((hx2.block _ (lt_of B0.out)).trans B0.out)]; rfl
      have r2_0 : w2.cell? ⟨w.heap.size + 1, 0, none⟩ = some (.int .i64 4) := by rw [cell_of ((hx2.block _ (lt_of B1.out)).trans B1.out)]; rfl
      have r2_1 : w2.cell? ⟨w.heap.size + 1, 1, none⟩ = some (.string t') := by rw [cell_of ((hx2.block _ (lt_of B1.out)).trans B1.out)]; rfl
      have r2_2 : w2.cell? ⟨w.heap.size + 1, 2, none⟩ = some (.int .i64 p') := by rw [cell_of ((hx2.block _ (lt_of B1.out)).trans B1.out)]; rfl
      obtain rfl : R = true := by rw [← HR.out]; simp [ap, wy, nb]
      go_wp2
      go_ret
      exact ⟨rfl, bb2⟩
    by_cases hq5 : k' = 5
    · subst hq5
      refine (wyI 3 t p W1 true (by decide)).mono ?_
      rintro e w1 ⟨rfl, hb1⟩
      have bb1 := below_trans ba hb1
      have hx1 := hb1
      have q1_0 : w1.cell? ⟨w.heap.size, 0, none⟩ = some (.int .i64 3) := by rw [cell_of ((hx1.block _ (lt_of B0.out)).trans B0.out)]; rfl
      have q1_1 : w1.cell? ⟨w.heap.size, 1, none⟩ = some (.string t) := by rw [cell_of ((hx1.block _ (lt_of B0.out)).trans B0.out)]; rfl
      have q1_2 : w1.cell? ⟨w.heap.size, 2, none⟩ = some (.int .i64 p) := by rw [cell_of ((hx1.block _ (lt_of B0.out)).trans B0.out)]; rfl
      have r1_0 : w1.cell? ⟨w.heap.size + 1, 0, none⟩ = some (.int .i64 5) := by rw [cell_of ((hx1.block _ (lt_of B1.out)).trans B1.out)]; rfl
      have r1_1 : w1.cell? ⟨w.heap.size + 1, 1, none⟩ = some (.string t') := by rw [cell_of ((hx1.block _ (lt_of B1.out)).trans B1.out)]; rfl
      have r1_2 : w1.cell? ⟨w.heap.size + 1, 2, none⟩ = some (.int .i64 p') := by rw [cell_of ((hx1.block _ (lt_of B1.out)).trans B1.out)]; rfl
      go_wp2_with fail
      refine (wyI 5 t' p' w1 false (by decide)).mono ?_
      rintro e w2 ⟨rfl, hb2⟩
      have bb2 := below_trans bb1 hb2
      have hx2 := below_trans hx1 hb2
      clear q1_0 r1_0 q1_1 r1_1 q1_2 r1_2
      have q2_0 : w2.cell? ⟨w.heap.size, 0, none⟩ = some (.int .i64 3) := by rw [cell_of ((hx2.block _ (lt_of B0.out)).trans B0.out)]; rfl
      have q2_1 : w2.cell? ⟨w.heap.size, 1, none⟩ = some (.string t) := by rw [cell_of ((hx2.block _ (lt_of B0.out)).trans B0.out)]; rfl
      have q2_2 : w2.cell? ⟨w.heap.size, 2, none⟩ = some (.int .i64 p) := by rw [cell_of ((hx2.block _ (lt_of B0.out)).trans B0.out)]; rfl
      have r2_0 : w2.cell? ⟨w.heap.size + 1, 0, none⟩ = some (.int .i64 5) := by rw [cell_of ((hx2.block _ (lt_of B1.out)).trans B1.out)]; rfl
      have r2_1 : w2.cell? ⟨w.heap.size + 1, 1, none⟩ = some (.string t') := by rw [cell_of ((hx2.block _ (lt_of B1.out)).trans B1.out)]; rfl
      have r2_2 : w2.cell? ⟨w.heap.size + 1, 2, none⟩ = some (.int .i64 p') := by rw [cell_of ((hx2.block _ (lt_of B1.out)).trans B1.out)]; rfl
      go_wp2_with fail
      refine (nbI 3 t p w2 true (by decide)).mono ?_
      rintro e w3 ⟨rfl, hb3⟩
      have bb3 := below_trans bb2 hb3
      have hx3 := below_trans hx2 hb3
      clear q2_0 r2_0 q2_1 r2_1 q2_2 r2_2
      have q3_0 : w3.cell? ⟨w.heap.size, 0, none⟩ = some (.int .i64 3) := by rw [cell_of ((hx3.block _ (lt_of B0.out)).trans B0.out)]; rfl
      have q3_1 : w3.cell? ⟨w.heap.size, 1, none⟩ = some (.string t) := by rw [cell_of ((hx3.block _ (lt_of B0.out)).trans B0.out)]; rfl
      have q3_2 : w3.cell? ⟨w.heap.size, 2, none⟩ = some (.int .i64 p) := by rw [cell_of ((hx3.block _ (lt_of B0.out)).trans B0.out)]; rfl
      have r3_0 : w3.cell? ⟨w.heap.size + 1, 0, none⟩ = some (.int .i64 5) := by rw [cell_of ((hx3.block _ (lt_of B1.out)).trans B1.out)]; rfl
      have r3_1 : w3.cell? ⟨w.heap.size + 1, 1, none⟩ = some (.string t') := by rw [cell_of ((hx3.block _ (lt_of B1.out)).trans B1.out)]; rfl
      have r3_2 : w3.cell? ⟨w.heap.size + 1, 2, none⟩ = some (.int .i64 p') := by rw [cell_of ((hx3.block _ (lt_of B1.out)).trans B1.out)]; rfl
      go_wp2_with fail
      refine (isDots 5 t' p' w3 false (by simp)).mono ?_
      rintro e w4 ⟨rfl, hb4⟩
      have bb4 := below_trans bb3 hb4
      have hx4 := below_trans hx3 hb4
      clear q3_0 r3_0 q3_1 r3_1 q3_2 r3_2
      have q4_0 : w4.cell? ⟨w.heap.size, 0, none⟩ = some (.int .i64 3) := by rw [cell_of ((hx4.block _ (lt_of B0.out)).trans B0.out)]; rfl
      have q4_1 : w4.cell? ⟨w.heap.size, 1, none⟩ = some (.string t) := by rw [cell_of ((hx4.block _ (lt_of B0.out)).trans B0.out)]; rfl
      have q4_2 : w4.cell? ⟨w.heap.size, 2, none⟩ = some (.int .i64 p) := by rw [cell_of ((hx4.block _ (lt_of B0.out)).trans B0.out)]; rfl
      have r4_0 : w4.cell? ⟨w.heap.size + 1, 0, none⟩ = some (.int .i64 5) := by rw [cell_of ((hx4.block _ (lt_of B1.out)).trans B1.out)]; rfl
      have r4_1 : w4.cell? ⟨w.heap.size + 1, 1, none⟩ = some (.string t') := by rw [cell_of ((hx4.block _ (lt_of B1.out)).trans B1.out)]; rfl
      have r4_2 : w4.cell? ⟨w.heap.size + 1, 2, none⟩ = some (.int .i64 p') := by rw [cell_of ((hx4.block _ (lt_of B1.out)).trans B1.out)]; rfl
      go_wp2_with fail
      refine (txI 3 t p w4 false (by decide)).mono ?_
      rintro e w5 ⟨rfl, hb5⟩
      have bb5 := below_trans bb4 hb5
      have hx5 := below_trans hx4 hb5
      clear q4_0 r4_0 q4_1 r4_1 q4_2 r4_2
      have q5_0 : w5.cell? ⟨w.heap.size, 0, none⟩ = some (.int .i64 3) := by rw [cell_of ((hx5.block _ (lt_of B0.out)).trans B0.out)]; rfl
      have q5_1 : w5.cell? ⟨w.heap.size, 1, none⟩ = some (.string t) := by rw [cell_of ((hx5.block _ (lt_of B0.out)).trans B0.out)]; rfl
      have q5_2 : w5.cell? ⟨w.heap.size, 2, none⟩ = some (.int .i64 p) := by rw [cell_of ((hx5.block _ (lt_of B0.out)).trans B0.out)]; rfl
      have r5_0 : w5.cell? ⟨w.heap.size + 1, 0, none⟩ = some (.int .i64 5) := by rw [cell_of ((hx5.block _ (lt_of B1.out)).trans B1.out)]; rfl
      have r5_1 : w5.cell? ⟨w.heap.size + 1, 1, none⟩ = some (.string t') := by rw [cell_of ((hx5.block _ (lt_of B1.out)).trans B1.out)]; rfl
      have r5_2 : w5.cell? ⟨w.heap.size + 1, 2, none⟩ = some (.int .i64 p') := by rw [cell_of ((hx5.block _ (lt_of B1.out)).trans B1.out)]; rfl
      obtain rfl : R = false := by rw [← HR.out]; simp [ap, wy, nb]
      go_wp2
      go_ret
      exact ⟨rfl, bb5⟩
    replace hq1 : (k' == 1) = false := by simp [hq1]
    replace hq2 : (k' == 2) = false := by simp [hq2]
    replace hq3 : (k' == 3) = false := by simp [hq3]
    replace hq4 : (k' == 4) = false := by simp [hq4]
    replace hq5 : (k' == 5) = false := by simp [hq5]
    have hqw : wy k' = false := by simp [wy, hq2, hq3, hq4]
    refine (wyI 3 t p W1 true (by decide)).mono ?_
    rintro e w1 ⟨rfl, hb1⟩
    have bb1 := below_trans ba hb1
    have hx1 := hb1
    have q1_0 : w1.cell? ⟨w.heap.size, 0, none⟩ = some (.int .i64 3) := by rw [cell_of ((hx1.block _ (lt_of B0.out)).trans B0.out)]; rfl
    have q1_1 : w1.cell? ⟨w.heap.size, 1, none⟩ = some (.string t) := by rw [cell_of ((hx1.block _ (lt_of B0.out)).trans B0.out)]; rfl
    have q1_2 : w1.cell? ⟨w.heap.size, 2, none⟩ = some (.int .i64 p) := by rw [cell_of ((hx1.block _ (lt_of B0.out)).trans B0.out)]; rfl
    have r1_0 : w1.cell? ⟨w.heap.size + 1, 0, none⟩ = some (.int .i64 k') := by rw [cell_of ((hx1.block _ (lt_of B1.out)).trans B1.out)]; rfl
    have r1_1 : w1.cell? ⟨w.heap.size + 1, 1, none⟩ = some (.string t') := by rw [cell_of ((hx1.block _ (lt_of B1.out)).trans B1.out)]; rfl
    have r1_2 : w1.cell? ⟨w.heap.size + 1, 2, none⟩ = some (.int .i64 p') := by rw [cell_of ((hx1.block _ (lt_of B1.out)).trans B1.out)]; rfl
    go_wp2_with fail
    refine (wyI k' t' p' w1 false hqw).mono ?_
    rintro e w2 ⟨rfl, hb2⟩
    have bb2 := below_trans bb1 hb2
    have hx2 := below_trans hx1 hb2
    clear q1_0 r1_0 q1_1 r1_1 q1_2 r1_2
    have q2_0 : w2.cell? ⟨w.heap.size, 0, none⟩ = some (.int .i64 3) := by rw [cell_of ((hx2.block _ (lt_of B0.out)).trans B0.out)]; rfl
    have q2_1 : w2.cell? ⟨w.heap.size, 1, none⟩ = some (.string t) := by rw [cell_of ((hx2.block _ (lt_of B0.out)).trans B0.out)]; rfl
    have q2_2 : w2.cell? ⟨w.heap.size, 2, none⟩ = some (.int .i64 p) := by rw [cell_of ((hx2.block _ (lt_of B0.out)).trans B0.out)]; rfl
    have r2_0 : w2.cell? ⟨w.heap.size + 1, 0, none⟩ = some (.int .i64 k') := by rw [cell_of ((hx2.block _ (lt_of B1.out)).trans B1.out)]; rfl
    have r2_1 : w2.cell? ⟨w.heap.size + 1, 1, none⟩ = some (.string t') := by rw [cell_of ((hx2.block _ (lt_of B1.out)).trans B1.out)]; rfl
    have r2_2 : w2.cell? ⟨w.heap.size + 1, 2, none⟩ = some (.int .i64 p') := by rw [cell_of ((hx2.block _ (lt_of B1.out)).trans B1.out)]; rfl
    go_wp2_with fail
    refine (nbI 3 t p w2 true (by decide)).mono ?_
    rintro e w3 ⟨rfl, hb3⟩
    have bb3 := below_trans bb2 hb3
    have hx3 := below_trans hx2 hb3
    clear q2_0 r2_0 q2_1 r2_1 q2_2 r2_2
    have q3_0 : w3.cell? ⟨w.heap.size, 0, none⟩ = some (.int .i64 3) := by rw [cell_of ((hx3.block _ (lt_of B0.out)).trans B0.out)]; rfl
    have q3_1 : w3.cell? ⟨w.heap.size, 1, none⟩ = some (.string t) := by rw [cell_of ((hx3.block _ (lt_of B0.out)).trans B0.out)]; rfl
    have q3_2 : w3.cell? ⟨w.heap.size, 2, none⟩ = some (.int .i64 p) := by rw [cell_of ((hx3.block _ (lt_of B0.out)).trans B0.out)]; rfl
    have r3_0 : w3.cell? ⟨w.heap.size + 1, 0, none⟩ = some (.int .i64 k') := by rw [cell_of ((hx3.block _ (lt_of B1.out)).trans B1.out)]; rfl
    have r3_1 : w3.cell? ⟨w.heap.size + 1, 1, none⟩ = some (.string t') := by rw [cell_of ((hx3.block _ (lt_of B1.out)).trans B1.out)]; rfl
    have r3_2 : w3.cell? ⟨w.heap.size + 1, 2, none⟩ = some (.int .i64 p') := by rw [cell_of ((hx3.block _ (lt_of B1.out)).trans B1.out)]; rfl
    go_wp2_with fail
    refine (isDots k' t' p' w3 false (by rw [hq1]; rfl)).mono ?_
    rintro e w4 ⟨rfl, hb4⟩
    have bb4 := below_trans bb3 hb4
    have hx4 := below_trans hx3 hb4
    clear q3_0 r3_0 q3_1 r3_1 q3_2 r3_2
    have q4_0 : w4.cell? ⟨w.heap.size, 0, none⟩ = some (.int .i64 3) := by rw [cell_of ((hx4.block _ (lt_of B0.out)).trans B0.out)]; rfl
    have q4_1 : w4.cell? ⟨w.heap.size, 1, none⟩ = some (.string t) := by rw [cell_of ((hx4.block _ (lt_of B0.out)).trans B0.out)]; rfl
    have q4_2 : w4.cell? ⟨w.heap.size, 2, none⟩ = some (.int .i64 p) := by rw [cell_of ((hx4.block _ (lt_of B0.out)).trans B0.out)]; rfl
    have r4_0 : w4.cell? ⟨w.heap.size + 1, 0, none⟩ = some (.int .i64 k') := by rw [cell_of ((hx4.block _ (lt_of B1.out)).trans B1.out)]; rfl
    have r4_1 : w4.cell? ⟨w.heap.size + 1, 1, none⟩ = some (.string t') := by rw [cell_of ((hx4.block _ (lt_of B1.out)).trans B1.out)]; rfl
    have r4_2 : w4.cell? ⟨w.heap.size + 1, 2, none⟩ = some (.int .i64 p') := by rw [cell_of ((hx4.block _ (lt_of B1.out)).trans B1.out)]; rfl
    go_wp2_with fail
    refine (txI 3 t p w4 false (by decide)).mono ?_
    rintro e w5 ⟨rfl, hb5⟩
    have bb5 := below_trans bb4 hb5
    have hx5 := below_trans hx4 hb5
    clear q4_0 r4_0 q4_1 r4_1 q4_2 r4_2
    have q5_0 : w5.cell? ⟨w.heap.size, 0, none⟩ = some (.int .i64 3) := by rw [cell_of ((hx5.block _ (lt_of B0.out)).trans B0.out)]; rfl
    have q5_1 : w5.cell? ⟨w.heap.size, 1, none⟩ = some (.string t) := by rw [cell_of ((hx5.block _ (lt_of B0.out)).trans B0.out)]; rfl
    have q5_2 : w5.cell? ⟨w.heap.size, 2, none⟩ = some (.int .i64 p) := by rw [cell_of ((hx5.block _ (lt_of B0.out)).trans B0.out)]; rfl
    have r5_0 : w5.cell? ⟨w.heap.size + 1, 0, none⟩ = some (.int .i64 k') := by rw [cell_of ((hx5.block _ (lt_of B1.out)).trans B1.out)]; rfl
    have r5_1 : w5.cell? ⟨w.heap.size + 1, 1, none⟩ = some (.string t') := by rw [cell_of ((hx5.block _ (lt_of B1.out)).trans B1.out)]; rfl
    have r5_2 : w5.cell? ⟨w.heap.size + 1, 2, none⟩ = some (.int .i64 p') := by rw [cell_of ((hx5.block _ (lt_of B1.out)).trans B1.out)]; rfl
    obtain rfl : R = false := by rw [← HR.out]; simp [ap, wy, nb, hq1, hq2, hq3, hq4, hq5]
    go_wp2
    go_ret
    exact ⟨rfl, bb5⟩
  by_cases hk4 : k = 4
  · subst hk4
    by_cases hq1 : k' = 1
    · subst hq1
      cases hd : (t'.toList == [46, 46, 46]) with
      | true =>
        refine (wyI 4 t p W1 true (by decide)).mono ?_
        rintro e w1 ⟨rfl, hb1⟩
        have bb1 := below_trans ba hb1
        have hx1 := hb1
        have q1_0 : w1.cell? ⟨w.heap.size, 0, none⟩ = some (.int .i64 4) := by rw [cell_of ((hx1.block _ (lt_of B0.out)).trans B0.out)]; rfl
        have q1_1 : w1.cell? ⟨w.heap.size, 1, none⟩ = some (.string t) := by rw [cell_of ((hx1.block _ (lt_of B0.out)).trans B0.out)]; rfl
        have q1_2 : w1.cell? ⟨w.heap.size, 2, none⟩ = some (.int .i64 p) := by rw [cell_of ((hx1.block _ (lt_of B0.out)).trans B0.out)]; rfl
        have r1_0 : w1.cell? ⟨w.heap.size + 1, 0, none⟩ = some (.int .i64 1) := by rw [cell_of ((hx1.block _ (lt_of B1.out)).trans B1.out)]; rfl
        have r1_1 : w1.cell? ⟨w.heap.size + 1, 1, none⟩ = some (.string t') := by rw [cell_of ((hx1.block _ (lt_of B1.out)).trans B1.out)]; rfl
        have r1_2 : w1.cell? ⟨w.heap.size + 1, 2, none⟩ = some (.int .i64 p') := by rw [cell_of ((hx1.block _ (lt_of B1.out)).trans B1.out)]; rfl
        go_wp2_with fail
        refine (wyI 1 t' p' w1 false (by decide)).mono ?_
        rintro e w2 ⟨rfl, hb2⟩
        have bb2 := below_trans bb1 hb2
        have hx2 := below_trans hx1 hb2
        clear q1_0 r1_0 q1_1 r1_1 q1_2 r1_2
        have q2_0 : w2.cell? ⟨w.heap.size, 0, none⟩ = some (.int .i64 4) := by rw [cell_of ((hx2.block _ (lt_of B0.out)).trans B0.out)]; rfl
        have q2_1 : w2.cell? ⟨w.heap.size, 1, none⟩ = some (.string t) := by rw [cell_of ((hx2.block _ (lt_of B0.out)).trans B0.out)]; rfl
        have q2_2 : w2.cell? ⟨w.heap.size, 2, none⟩ = some (.int .i64 p) := by rw [cell_of ((hx2.block _ (lt_of B0.out)).trans B0.out)]; rfl
        have r2_0 : w2.cell? ⟨w.heap.size + 1, 0, none⟩ = some (.int .i64 1) := by rw [cell_of ((hx2.block _ (lt_of B1.out)).trans B1.out)]; rfl
        have r2_1 : w2.cell? ⟨w.heap.size + 1, 1, none⟩ = some (.string t') := by rw [cell_of ((hx2.block _ (lt_of B1.out)).trans B1.out)]; rfl
        have r2_2 : w2.cell? ⟨w.heap.size + 1, 2, none⟩ = some (.int .i64 p') := by rw [cell_of ((hx2.block _ (lt_of B1.out)).trans B1.out)]; rfl
        go_wp2_with fail
        refine (nbI 4 t p w2 true (by decide)).mono ?_
        rintro e w3 ⟨rfl, hb3⟩
        have bb3 := below_trans bb2 hb3
        have hx3 := below_trans hx2 hb3
        clear q2_0 r2_0 q2_1 r2_1 q2_2 r2_2
        have q3_0 : w3.cell? ⟨w.heap.size, 0, none⟩ = some (.int .i64 4) := by rw [cell_of ((hx3.block _ (lt_of B0.out)).trans B0.out)]; rfl
        have q3_1 : w3.cell? ⟨w.heap.size, 1, none⟩ = some (.string t) := by rw [cell_of ((hx3.block _ (lt_of B0.out)).trans B0.out)]; rfl
        have q3_2 : w3.cell? ⟨w.heap.size, 2, none⟩ = some (.int .i64 p) := by rw [cell_of ((hx3.block _ (lt_of B0.out)).trans B0.out)]; rfl
        have r3_0 : w3.cell? ⟨w.heap.size + 1, 0, none⟩ = some (.int .i64 1) := by rw [cell_of ((hx3.block _ (lt_of B1.out)).trans B1.out)]; rfl
        have r3_1 : w3.cell? ⟨w.heap.size + 1, 1, none⟩ = some (.string t') := by rw [cell_of ((hx3.block _ (lt_of B1.out)).trans B1.out)]; rfl
        have r3_2 : w3.cell? ⟨w.heap.size + 1, 2, none⟩ = some (.int .i64 p') := by rw [cell_of ((hx3.block _ (lt_of B1.out)).trans B1.out)]; rfl
        go_wp2_with fail
        refine (isDots 1 t' p' w3 true (by rw [hd]; decide)).mono ?_
        rintro e w4 ⟨rfl, hb4⟩
        have bb4 := below_trans bb3 hb4
        have hx4 := below_trans hx3 hb4
        clear q3_0 r3_0 q3_1 r3_1 q3_2 r3_2
        have q4_0 : w4.cell? ⟨w.heap.size, 0, none⟩ = some (.int .i64 4) := by rw [cell_of ((hx4.block _ (lt_of B0.out)).trans B0.out)]; rfl
        have q4_1 : w4.cell? ⟨w.heap.size, 1, none⟩ = some (.string t) := by rw [cell_of ((hx4.block _ (lt_of B0.out)).trans B0.out)]; rfl
        have q4_2 : w4.cell? ⟨w.heap.size, 2, none⟩ = some (.int .i64 p) := by rw [cell_of ((hx4.block _ (lt_of B0.out)).trans B0.out)]; rfl
        have r4_0 : w4.cell? ⟨w.heap.size + 1, 0, none⟩ = some (.int .i64 1) := by rw [cell_of ((hx4.block _ (lt_of B1.out)).trans B1.out)]; rfl
        have r4_1 : w4.cell? ⟨w.heap.size + 1, 1, none⟩ = some (.string t') := by rw [cell_of ((hx4.block _ (lt_of B1.out)).trans B1.out)]; rfl
        have r4_2 : w4.cell? ⟨w.heap.size + 1, 2, none⟩ = some (.int .i64 p') := by rw [cell_of ((hx4.block _ (lt_of B1.out)).trans B1.out)]; rfl
        obtain rfl : R = true := by rw [← HR.out]; simp [ap, wy, nb, hd]
        go_wp2
        go_ret
        exact ⟨rfl, bb4⟩
      | false =>
        refine (wyI 4 t p W1 true (by decide)).mono ?_
        rintro e w1 ⟨rfl, hb1⟩
        have bb1 := below_trans ba hb1
        have hx1 := hb1
        have q1_0 : w1.cell? ⟨w.heap.size, 0, none⟩ = some (.int .i64 4) := by rw [cell_of ((hx1.block _ (lt_of B0.out)).trans B0.out)]; rfl
        have q1_1 : w1.cell? ⟨w.heap.size, 1, none⟩ = some (.string t) := by rw [cell_of ((hx1.block _ (lt_of B0.out)).trans B0.out)]; rfl
        have q1_2 : w1.cell? ⟨w.heap.size, 2, none⟩ = some (.int .i64 p) := by rw [cell_of ((hx1.block _ (lt_of B0.out)).trans B0.out)]; rfl
        have r1_0 : w1.cell? ⟨w.heap.size + 1, 0, none⟩ = some (.int .i64 1) := by rw [cell_of ((hx1.block _ (lt_of B1.out)).trans B1.out)]; rfl
        have r1_1 : w1.cell? ⟨w.heap.size + 1, 1, none⟩ = some (.string t') := by rw [cell_of ((hx1.block _ (lt_of B1.out)).trans B1.out)]; rfl
        have r1_2 : w1.cell? ⟨w.heap.size + 1, 2, none⟩ = some (.int .i64 p') := by rw [cell_of ((hx1.block _ (lt_of B1.out)).trans B1.out)]; rfl
        go_wp2_with fail
        refine (wyI 1 t' p' w1 false (by decide)).mono ?_
        rintro e w2 ⟨rfl, hb2⟩
        have bb2 := below_trans bb1 hb2
        have hx2 := below_trans hx1 hb2
        clear q1_0 r1_0 q1_1 r1_1 q1_2 r1_2
        have q2_0 : w2.cell? ⟨w.heap.size, 0, none⟩ = some (.int .i64 4) := by rw [cell_of ((hx2.block _ (lt_of B0.out)).trans B0.out)]; rfl
        have q2_1 : w2.cell? ⟨w.heap.size, 1, none⟩ = some (.string t) := by rw [cell_of ((hx2.block _ (lt_of B0.out)).trans B0.out)]; rfl
        have q2_2 : w2.cell? ⟨w.heap.size, 2, none⟩ = some (.int .i64 p) := by rw [cell_of ((hx2.block _ (lt_of B0.out)).trans B0.out)]; rfl
        have r2_0 : w2.cell? ⟨w.heap.size + 1, 0, none⟩ = some (.int .i64 1) := by rw [cell_of ((hx2.block _ (lt_of B1.out)).trans B1.out)]; rfl
        have r2_1 : w2.cell? ⟨w.heap.size + 1, 1, none⟩ = some (.string t') := by rw [cell_of ((hx2.block _ (lt_of B1.out)).trans B1.out)]; rfl
        have r2_2 : w2.cell? ⟨w.heap.size + 1, 2, none⟩ = some (.int .i64 p') := by rw [cell_of ((hx2.block _ (lt_of B1.out)).trans B1.out)]; rfl
        go_wp2_with fail
        refine (nbI 4 t p w2 true (by decide)).mono ?_
        rintro e w3 ⟨rfl, hb3⟩
        have bb3 := below_trans bb2 hb3
        have hx3 := below_trans hx2 hb3
        clear q2_0 r2_0 q2_1 r2_1 q2_2 r2_2
        have q3_0 : w3.cell? ⟨w.heap.size, 0, none⟩ = some (.int .i64 4) := by rw [cell_of ((hx3.block _ (lt_of B0.out)).trans B0.out)]; rfl
        have q3_1 : w3.cell? ⟨w.heap.size, 1, none⟩ = some (.string t) := by rw [cell_of ((hx3.block _ (lt_of B0.out)).trans B0.out)]; rfl
        have q3_2 : w3.cell? ⟨w.heap.size, 2, none⟩ = some (.int .i64 p) := by rw [cell_of ((hx3.block _ (lt_of B0.out)).trans B0.out)]; rfl
        have r3_0 : w3.cell? ⟨w.heap.size + 1, 0, none⟩ = some (.int .i64 1) := by rw [cell_of ((hx3.block _ (lt_of B1.out)).trans B1.out)]; rfl
        have r3_1 : w3.cell? ⟨w.heap.size + 1, 1, none⟩ = some (.string t') := by rw [cell_of ((hx3.block _ (lt_of B1.out)).trans B1.out)]; rfl
        have r3_2 : w3.cell? ⟨w.heap.size + 1, 2, none⟩ = some (.int .i64 p') := by rw [cell_of ((hx3.block _ (lt_of B1.out)).trans B1.out)]; rfl
        go_wp2_with fail
        refine (isDots 1 t' p' w3 false (by rw [hd]; decide)).mono ?_
        rintro e w4 ⟨rfl, hb4⟩
        have bb4 := below_trans bb3 hb4
        have hx4 := below_trans hx3 hb4
        clear q3_0 r3_0 q3_1 r3_1 q3_2 r3_2
        have q4_0 : w4.cell? ⟨w.heap.size, 0, none⟩ = some (.int .i64 4) := by rw [cell_of ((hx4.block _ (lt_of B0.out)).trans B0.out)]; rfl
        have q4_1 : w4.cell? ⟨w.heap.size, 1, none⟩ = some (.string t) := by rw [cell_of ((hx4.block _ (lt_of B0.out)).trans B0.out)]; rfl
        have q4_2 : w4.cell? ⟨w.heap.size, 2, none⟩ = some (.int .i64 p) := by rw [cell_of ((hx4.block _ (lt_of B0.out)).trans B0.out)]; rfl
        have r4_0 : w4.cell? ⟨w.heap.size + 1, 0, none⟩ = some (.int .i64 1) := by rw [cell_of ((hx4.block _ (lt_of B1.out)).trans B1.out)]; rfl
        have r4_1 : w4.cell? ⟨w.heap.size + 1, 1, none⟩ = some (.string t') := by rw [cell_of ((hx4.block _ (lt_of B1.out)).trans B1.out)]; rfl
        have r4_2 : w4.cell? ⟨w.heap.size + 1, 2, none⟩ = some (.int .i64 p') := by rw [cell_of ((hx4.block _ (lt_of B1.out)).trans B1.out)]; rfl
        go_wp2_with fail
        refine (txI 4 t p w4 false (by decide)).mono ?_
        rintro e w5 ⟨rfl, hb5⟩
        have bb5 := below_trans bb4 hb5
        have hx5 := below_trans hx4 hb5
        clear q4_0 r4_0 q4_1 r4_1 q4_2 r4_2
        have q5_0 : w5.cell? ⟨w.heap.size, 0, none⟩ = some (.int .i64 4) := by rw [cell_of ((hx5.block _ (lt_of B0.out)).trans B0.out)]; rfl
        have q5_1 : w5.cell? ⟨w.heap.size, 1, none⟩ = some (.string t) := by rw [cell_of ((hx5.block _ (lt_of B0.out)).trans B0.out)]; rfl
        have q5_2 : w5.cell? ⟨w.heap.size, 2, none⟩ = some (.int .i64 p) := by rw [cell_of ((hx5.block _ (lt_of B0.out)).trans B0.out)]; rfl
        have r5_0 : w5.cell? ⟨w.heap.size + 1, 0, none⟩ = some (.int .i64 1) := by rw [cell_of ((hx5.block _ (lt_of B1.out)).trans B1.out)]; rfl
        have r5_1 : w5.cell? ⟨w.heap.size + 1, 1, none⟩ = some (.string t') := by rw [cell_of ((hx5.block _ (lt_of B1.out)).trans B1.out)]; rfl
        have r5_2 : w5.cell? ⟨w.heap.size + 1, 2, none⟩ = some (.int .i64 p') := by rw [cell_of ((hx5.block _ (lt_of B1.out)).trans B1.out)]; rfl
        obtain rfl : R = false := by rw [← HR.out]; simp [ap, wy, nb, hd]
        go_wp2
        go_ret
        exact ⟨rfl, bb5⟩
    by_cases hq2 : k' = 2
    · subst hq2
      refine (wyI 4 t p W1 true (by decide)).mono ?_
      rintro e w1 ⟨rfl, hb1⟩
      have bb1 := below_trans ba hb1
      have hx1 := hb1
      have q1_0 : w1.cell? ⟨w.heap.size, 0, none⟩ = some (.int .i64 4) := by rw [cell_of ((hx1.block _ (lt_of B0.out)).trans B0.out)]; rfl
      have q1_1 : w1.cell? ⟨w.heap.size, 1, none⟩ = some (.string t) := by rw [cell_of ((hx1.block _ (lt_of B0.out)).trans B0.out)]; rfl
      have q1_2 : w1.cell? ⟨w.heap.size, 2, none⟩ = some (.int .i64 p) := by rw [cell_of ((hx1.block _ (lt_of B0.out)).trans B0.out)]; rfl
      have r1_0 : w1.cell? ⟨w.heap.size + 1, 0, none⟩ = some (.int .i64 2) := by rw [cell_of ((hx1.block _ (lt_of B1.out)).trans B1.out)]; rfl
      have r1_1 : w1.cell? ⟨w.heap.size + 1, 1, none⟩ = some (.string t') := by rw [cell_of ((hx1.block _ (lt_of B1.out)).trans B1.out)]; rfl
      have r1_2 : w1.cell? ⟨w.heap.size + 1, 2, none⟩ = some (.int .i64 p') := by rw [cell_of ((hx1.block _ (lt_of B1.out)).trans B1.out)]; rfl
      go_wp2_with fail
      refine (wyI 2 t' p' w1 true (by decide)).mono ?_
      rintro e w2 ⟨rfl, hb2⟩
      have bb2 := below_trans bb1 hb2
      have hx2 := below_trans hx1 hb2
      clear q1_0 r1_0 q1_1 r1_1 q1_2 r1_2
      have q2_0 : w2.cell? ⟨w.heap.size, 0, none⟩ = some (.int .i64 4) := by rw [cell_of ((hx2.block _ (lt_of B0.out)).trans B0.out)]; rfl
      have q2_1 : w2.cell? ⟨w.heap.size, 1, none⟩ = some (.string t) := by rw [cell_of ((hx2.block _ (lt_of B0.out)).trans B0.out)]; rfl
      have q2_2 : w2.cell? ⟨w.heap.size, 2, none⟩ = some (.int .i64 p) := by rw [cell_of ((hx2.block _ (lt_of B0.out)).trans B0.out)]; rfl
      have r2_0 : w2.cell? ⟨w.heap.size + 1, 0, none⟩ = some (.int .i64 2) := by rw [cell_of ((hx2.block _ (lt_of B1.out)).trans B1.out)]; rfl
      have r2_1 : w2.cell? ⟨w.heap.size + 1, 1, none⟩ = some (.string t') := by rw [cell_of ((hx2.block _ (lt_of B1.out)).trans B1.out)]; rfl
      have r2_2 : w2.cell? ⟨w.heap.size + 1, 2, none⟩ = some (.int .i64 p') := by rw [cell_of ((hx2.block _ (lt_of B1.out)).trans B1.out)]; rfl
      obtain rfl : R = true := by rw [← HR.out]; simp [ap, wy, nb]
      go_wp2
      go_ret
      exact ⟨rfl, bb2⟩
    by_cases hq3 : k' = 3
    · subst hq3
      refine (wyI 4 t p W1 true (by decide)).mono ?_
      rintro e w1 ⟨rfl, hb1⟩
      have bb1 := below_trans ba hb1
      have hx1 := hb1
      have q1_0 : w1.cell? ⟨w.heap.size, 0, none⟩ = some (.int .i64 4) := by rw [cell_of ((hx1.block _ (lt_of B0.out)).trans B0.out)]; rfl
      have q1_1 : w1.cell? ⟨w.heap.size, 1, none⟩ = some (.string t) := by rw [cell_of ((hx1.block _ (lt_of B0.out)).trans B0.out)]; rfl
      have q1_2 : w1.cell? ⟨w.heap.size, 2, none⟩ = some (.int .i64 p) := by rw [cell_of ((hx1.block _ (lt_of B0.out)).trans B0.out)]; rfl
      have r1_0 : w1.cell? ⟨w.heap.size + 1, 0, none⟩ = some (.int .i64 3) := by rw [cell_of ((hx1.block _ (lt_of B1.out)).trans B1.out)]; rfl
      have r1_1 : w1.cell? ⟨w.heap.size + 1, 1, none⟩ = some (.string t') := by rw [cell_of ((hx1.block _ (lt_of B1.out)).trans B1.out)]; rfl
      have r1_2 : w1.cell? ⟨w.heap.size + 1, 2, none⟩ = some (.int .i64 p') := by rw [cell_of ((hx1.block _ (lt_of B1.out)).trans B1.out)]; rfl
      go_wp2_with fail
      refine (wyI 3 t' p' w1 true (by decide)).mono ?_
      rintro e w2 ⟨rfl, hb2⟩
      have bb2 := below_trans bb1 hb2
      have hx2 := below_trans hx1 hb2
      clear q1_0 r1_0 q1_1 r1_1 q1_2 r1_2
      have q2_0 : w2.cell? ⟨w.heap.size, 0, none⟩ = some (.int .i64 4) := by rw [cell_of ((hx2.block _ (lt_of B0.out)).trans B0.out)]; rfl
      have q2_1 : w2.cell? ⟨w.heap.size, 1, none⟩ = some (.string t) := by rw [cell_of ((hx2.block _ (lt_of B0.out)).trans B0.out)]; rfl
      have q2_2 : w2.cell? ⟨w.heap.size, 2, none⟩ = some (.int .i64 p) := by rw [cell_of ((hx2.block _ (lt_of B0.out)).trans B0.out)]; rfl
      have r2_0 : w2.cell? ⟨w.heap.size + 1, 0, none⟩ = some (.int .i64 3) := by rw [cell_of ((hx2.block _ (lt_of B1.out)).trans B1.out)]; rfl
      have r2_1 : w2.cell? ⟨w.heap.size + 1, 1, none⟩ = some (.string t') := by rw [cell_of ((hx2.block _ (lt_of B1.out)).trans B1.out)]; rfl
      have r2_2 : w2.cell? ⟨w.heap.size + 1, 2, none⟩ = some (.int .i64 p') := by rw [cell_of ((hx2.block _ (lt_of B1.out)).trans B1.out)]; rfl
      obtain rfl : R = true := by rw [← HR.out]; simp [ap, wy, nb]
      go_wp2
      go_ret
      exact ⟨rfl, bb2⟩
    by_cases hq4 : k' = 4
    · subst hq4
      refine (wyI 4 t p W1 true (by decide)).mono ?_
      rintro e w1 ⟨rfl, hb1⟩
      have bb1 := below_trans ba hb1
      have hx1 := hb1
      have q1_0 : w1.cell? ⟨w.heap.size, 0, none⟩ = some (.int .i64 4) := by rw [cell_of ((hx1.block _ (lt_of B0.out)).trans B0.out)]; rfl
      have q1_1 : w1.cell? ⟨w.heap.size, 1, none⟩ = some (.string t) := by rw [cell_of ((hx1.block _ (lt_of B0.out)).trans B0.out)]; rfl
      have q1_2 : w1.cell? ⟨w.heap.size, 2, none⟩ = some (.int .i64 p) := by rw [cell_of ((hx1.block _ (lt_of B0.out)).trans B0.out)]; rfl
      have r1_0 : w1.cell? ⟨w.heap.size + 1, 0, none⟩ = some (.int .i64 4) := by rw [cell_of ((hx1.block _ (lt_of B1.out)).trans B1.out)]; rfl
      have r1_1 : w1.cell? ⟨w.heap.size + 1, 1, none⟩ = some (.string t') := by rw [cell_of ((hx1.block _ (lt_of B1.out)).trans B1.out)]; rfl
      have r1_2 : w1.cell? ⟨w.heap.size + 1, 2, none⟩ = some (.int .i64 p') := by rw [cell_of ((hx1.block _ (lt_of B1.out)).trans B1.out)]; rfl
      go_wp2_with fail
      refine (wyI 4 t' p' w1 true (by decide)).mono ?_
      rintro e w2 ⟨rfl, hb2⟩
      have bb2 := below_trans bb1 hb2
      have hx2 := below_trans hx1 hb2
      clear q1_0 r1_0 q1_1 r1_1 q1_2 r1_2
      have q2_0 : w2.cell? ⟨w.heap.size, 0, none⟩ = some (.int .i64 4) := by rw [cell_of ((hx2.block _ (lt_of B0.out)).trans B0.out)]; rfl
      have q2_1 : w2.cell? ⟨w.heap.size, 1, none⟩ = some (.string t) := by rw [cell_of ((hx2.block _ (lt_of B0.out)).trans B0.out)]; rfl
      have q2_2 : w2.cell? ⟨w.heap.size, 2, none⟩ = some (.int .i64 p) := by rw [cell_of ((hx2.block _ (lt_of B0.out)).trans B0.out)]; rfl
      have r2_0 : w2.cell? ⟨w.heap.size + 1, 0, none⟩ = some (.int .i64 4) := by rw [cell_of ((hx2.block _ (lt_of B1.out)).trans B1.out)]; rfl
      have r2_1 : w2.cell? ⟨w.heap.size + 1, 1, none⟩ = some (.string t') := by rw [cell_of ((hx2.block _ (lt_of B1.out)).trans B1.out)]; rfl
      have r2_2 : w2.cell? ⟨w.heap.size + 1, 2, none⟩ = some (.int .i64 p') := by rw [cell_of ((hx2.block _ (lt_of B1.out)).trans B1.out)]; rfl
      obtain rfl : R = true := by rw [← HR.out]; simp [ap, wy, nb]
      go_wp2
      go_ret
      exact ⟨rfl, bb2⟩
    by_cases hq5 : k' = 5
    · subst hq5
      refine (wyI 4 t p W1 true (by decide)).mono ?_
      rintro e w1 ⟨rfl, hb1⟩
      have bb1 := below_trans ba hb1
      have hx1 := hb1
      have q1_0 : w1.cell? ⟨w.heap.size, 0, none⟩ = some (.int .i64 4) := by rw [cell_of ((hx1.block _ (lt_of B0.out)).trans B0.out)]; rfl
      have q1_1 : w1.cell? ⟨w.heap.size, 1, none⟩ = some (.string t) := by rw [cell_of ((hx1.block _ (lt_of B0.out)).trans B0.out)]; rfl
      have q1_2 : w1.cell? ⟨w.heap.size, 2, none⟩ = some (.int .i64 p) := by rw [cell_of ((hx1.block _ (lt_of B0.out)).trans B0.out)]; rfl
      have r1_0 : w1.cell? ⟨w.heap.size + 1, 0, none⟩ = some (.int .i64 5) := by rw [cell_of ((hx1.block _ (lt_of B1.out)).trans B1.out)]; rfl
      have r1_1 : w1.cell? ⟨w.heap.size + 1, 1, none⟩ = some (.string t') := by rw [cell_of ((hx1.block _ (lt_of B1.out)).trans B1.out)]; rfl
      have r1_2 : w1.cell? ⟨w.heap.size + 1, 2, none⟩ = some (.int .i64 p') := by rw [cell_of ((hx1.block _ (lt_of B1.out)).trans B1.out)]; rfl
      go_wp2_with fail
      refine (wyI 5 t' p' w1 false (by decide)).mono ?_
      rintro e w2 ⟨rfl, hb2⟩
      have bb2 := below_trans bb1 hb2
      have hx2 := below_trans hx1 hb2
      clear q1_0 r1_0 q1_1 r1_1 q1_2 r1_2
      have q2_0 : w2.cell? ⟨w.heap.size, 0, none⟩ = some (.int .i64 4) := by rw [cell_of ((hx2.block _ (lt_of B0.out)).trans B0.out)]; rfl
      have q2_1 : w2.cell? ⟨w.heap.size, 1, none⟩ = some (.string t) := by rw [cell_of ((hx2.block _ (lt_of B0.out)).trans B0.out)]; rfl
      have q2_2 : w2.cell? ⟨w.heap.size, 2, none⟩ = some (.int .i64 p) := by rw [cell_of ((hx2.block _ (lt_of B0.out)).trans B0.out)]; rfl
      have r2_0 : w2.cell? ⟨w.heap.size + 1, 0, none⟩ = some (.int .i64 5) := by rw [cell_of ((hx2.block _ (lt_of B1.out)).trans B1.out)]; rfl
      have r2_1 : w2.cell? ⟨w.heap.size + 1, 1, none⟩ = some (.string t') := by rw [cell_of ((hx2.block _ (lt_of B1.out)).trans B1.out)]; rfl
      have r2_2 : w2.cell? ⟨w.heap.size + 1, 2, none⟩ = some (.int .i64 p') := by rw [cell_of ((hx2.block _ (lt_of B1.out)).trans B1.out)]; rfl
      go_wp2_with fail
      refine (nbI 4 t p w2 true (by decide)).mono ?_
      rintro e w3 ⟨rfl, hb3⟩
      have bb3 := below_trans bb2 hb3
      have hx3 := below_trans hx2 hb3
      clear q2_0 r2_0 q2_1 r2_1 q2_2 r2_2
      have q3_0 : w3.cell? ⟨w.heap.size, 0, none⟩ = some (.int .i64 4) := by rw [cell_of ((hx3.block _ (lt_of B0.out)).trans B0.out)]; rfl
      have q3_1 : w3.cell? ⟨w.heap.size, 1, none⟩ = some (.string t) := by rw [cell_of ((hx3.block _ (lt_of B0.out)).trans B0.out)]; rfl
      have q3_2 : w3.cell? ⟨w.heap.size, 2, none⟩ = some (.int .i64 p) := by rw [cell_of ((hx3.block _ (lt_of B0.out)).trans B0.out)]; rfl
      have r3_0 : w3.cell? ⟨w.heap.size + 1, 0, none⟩ = some (.int .i64 5) := by rw [cell_of ((hx3.block _ (lt_of B1.out)).trans B1.out)]; rfl
      have r3_1 : w3.cell? ⟨w.heap.size + 1, 1, none⟩ = some (.string t') := by rw [cell_of ((hx3.block _ (lt_of B1.out)).trans B1.out)]; rfl
      have r3_2 : w3.cell? ⟨w.heap.size + 1, 2, none⟩ = some (.int .i64 p') := by rw [cell_of ((hx3.block _ (lt_of B1.out)).trans B1.out)]; rfl
      go_wp2_with fail
      refine (isDots 5 t' p' w3 false (by simp)).mono ?_
      rintro e w4 ⟨rfl, hb4⟩
      have bb4 := below_trans bb3 hb4
      have hx4 := below_trans hx3 hb4
      clear q3_0 r3_0 q3_1 r3_1 q3_2 r3_2
      have q4_0 : w4.cell? ⟨w.heap.size, 0, none⟩ = some (.int .i64 4) := by rw [cell_of ((hx4.block _ (lt_of B0.out)).trans B0.out)]; rfl
      have q4_1 : w4.cell? ⟨w.heap.size, 1, none⟩ = some (.string t) := by rw [cell_of ((hx4.block _ (lt_of B0.out)).trans B0.out)]; rfl
      have q4_2 : w4.cell? ⟨w.heap.size, 2, none⟩ = some (.int .i64 p) := by rw [cell_of ((hx4.block _ (lt_of B0.out)).trans B0.out)]; rfl
      have r4_0 : w4.cell? ⟨w.heap.size + 1, 0, none⟩ = some (.int .i64 5) := by rw [cell_of ((hx4.block _ (lt_of B1.out)).trans B1.out)]; rfl
      have r4_1 : w4.cell? ⟨w.heap.size + 1, 1, none⟩ = some (.string t') := by rw [cell_of ((hx4.block _ (lt_of B1.out)).trans B1.out)]; rfl
      have r4_2 : w4.cell? ⟨w.heap.size + 1, 2, none⟩ = some (.int .i64 p') := by rw [cell_of ((hx4.block _ (lt_of B1.out)).trans B1.out)]; rfl
      go_wp2_with fail
      refine (txI 4 t p w4 false (by decide)).mono ?_
      rintro e w5 ⟨rfl, hb5⟩
      have bb5 := below_trans bb4 hb5
      have hx5 := below_trans hx4 hb5
      clear q4_0 r4_0 q4_1 r4_1 q4_2 r4_2
      have q5_0 : w5.cell? ⟨w.heap.size, 0, none⟩ = some (.int .i64 4) := by rw [cell_of ((hx5.block _ (lt_of B0.out)).trans B0.out)]; rfl
      have q5_1 : w5.cell? ⟨w.heap.size, 1, none⟩ = some (.string t) := by rw [cell_of ((hx5.block _ (lt_of B0.out)).trans B0.out)]; rfl
      have q5_2 : w5.cell? ⟨w.heap.size, 2, none⟩ = some (.int .i64 p) := by rw [cell_of ((hx5.block _ (lt_of B0.out)).trans B0.out)]; rfl
      have r5_0 : w5.cell? ⟨w.heap.size + 1, 0, none⟩ = some (.int .i64 5) := by rw [cell_of ((hx5.block _ (lt_of B1.out)).trans B1.out)]; rfl
      have r5_1 : w5.cell? ⟨w.heap.size + 1, 1, none⟩ = some (.string t') := by rw [cell_of ((hx5.block _ (lt_of B1.out)).trans B1.out)]; rfl
      have r5_2 : w5.cell? ⟨w.heap.size + 1, 2, none⟩ = some (.int .i64 p') := by rw [cell_of ((hx5.block _ (lt_of B1.out)).trans B1.out)]; rfl
      obtain rfl : R = false := by rw [← HR.out]; simp [ap, wy, nb]
      go_wp2
      go_ret
      exact ⟨rfl, bb5⟩
    replace hq1 : (k' == 1) = false := by simp [hq1]
    replace hq2 : (k' == 2) = false := by simp [hq2]
    replace hq3 : (k' == 3) = false := by simp [hq3]
    replace hq4 : (k' == 4) = false := by simp [hq4]
    replace hq5 : (k' == 5) = false := by simp [hq5]
    have hqw : wy k' = false := by simp [wy, hq2, hq3, hq4]
    refine (wyI 4 t p W1 true (by decide)).mono ?_
    rintro e w1 ⟨rfl, hb1⟩
    have bb1 := below_trans ba hb1
    have hx1 := hb1
    have q1_0 : w1.cell? ⟨w.heap.size, 0, none⟩ = some (.int .i64 4) := by rw [cell_of ((hx1.block _ (lt_of B0.out)).trans B0.out)]; rfl
    have q1_1 : w1.cell? ⟨w.heap.size, 1, none⟩ = some (.string t) := by rw [cell_of ((hx1.block _ (lt_of B0.out)).trans B0.out)]; rfl
    have q1_2 : w1.cell? ⟨w.heap.size, 2, none⟩ = some (.int .i64 p) := by rw [cell_of ((hx1.block _ (lt_of B0.out)).trans B0.out)]; rfl
    have r1_0 : w1.cell? ⟨w.heap.size + 1, 0, none⟩ = some (.int .i64 k') := by rw [cell_of ((hx1.block _ (lt_of B1.out)).trans B1.out)]; rfl
    have r1_1 : w1.cell? ⟨w.heap.size + 1, 1, none⟩ = some (.string t') := by rw [cell_of ((hx1.block _ (lt_of B1.out)).trans B1.out)]; rfl
    have r1_2 : w1.cell? ⟨w.heap.size + 1, 2, none⟩ = some (.int .i64 p') := by rw [cell_of ((hx1.block _ (lt_of B1.out)).trans B1.out)]; rfl
    go_wp2_with fail
    refine (wyI k' t' p' w1 false hqw).mono ?_
    rintro e w2 ⟨rfl, hb2⟩
    have bb2 := below_trans bb1 hb2
    have hx2 := below_trans hx1 hb2
    clear q1_0 r1_0 q1_1 r1_1 q1_2 r1_2
    have q2_0 : w2.cell? ⟨w.heap.size, 0, none⟩ = some (.int .i64 4) := by rw [cell_of ((hx2.block _ (lt_of B0.out)).trans B0.out)]; rfl
    have q2_1 : w2.cell? ⟨w.heap.size, 1, none⟩ = some (.string t) := by rw [cell_of ((hx2.block _ (lt_of B0.out)).trans B0.out)]; rfl
    have q2_2 : w2.cell? ⟨w.heap.size, 2, none⟩ = some (.int .i64 p) := by rw [cell_of ((hx2.block _ (lt_of B0.out)).trans B0.out)]; rfl
    have r2_0 : w2.cell? ⟨w.heap.size + 1, 0, none⟩ = some (.int .i64 k') := by rw [cell_of ((hx2.block _ (lt_of B1.out)).trans B1.out)]; rfl
    have r2_1 : w2.cell? ⟨w.heap.size + 1, 1, none⟩ = some (.string t') := by rw [cell_of ((hx2.block _ (lt_of B1.out)).trans B1.out)]; rfl
    have r2_2 : w2.cell? ⟨w.heap.size + 1, 2, none⟩ = some (.int .i64 p') := by rw [cell_of ((hx2.block _ (lt_of B1.out)).trans B1.out)]; rfl
    go_wp2_with fail
    refine (nbI 4 t p w2 true (by decide)).mono ?_
    rintro e w3 ⟨rfl, hb3⟩
    have bb3 := below_trans bb2 hb3
    have hx3 := below_trans hx2 hb3
    clear q2_0 r2_0 q2_1 r2_1 q2_2 r2_2
    have q3_0 : w3.cell? ⟨w.heap.size, 0, none⟩ = some (.int .i64 4) := by rw [cell_of ((hx3.block _ (lt_of B0.out)).trans B0.out)]; rfl
    have q3_1 : w3.cell? ⟨w.heap.size, 1, none⟩ = some (.string t) := by rw [cell_of ((hx3.block _ (lt_of B0.out)).trans B0.out)]; rfl
    have q3_2 : w3.cell? ⟨w.heap.size, 2, none⟩ = some (.int .i64 p) := by rw [cell_of ((hx3.block _ (lt_of B0.out)).trans B0.out)]; rfl
    have r3_0 : w3.cell? ⟨w.heap.size + 1, 0, none⟩ = some (.int .i64 k') := by rw [cell_of ((hx3.block _ (lt_of B1.out)).trans B1.out)]; rfl
    have r3_1 : w3.cell? ⟨w.heap.size + 1, 1, none⟩ = some (.string t') := by rw [cell_of ((hx3.block _ (lt_of B1.out)).trans B1.out)]; rfl
    have r3_2 : w3.cell? ⟨w.heap.size + 1, 2, none⟩ = some (.int .i64 p') := by rw [cell_of ((hx3.block _ (lt_of B1.out)).trans B1.out)]; rfl
    go_wp2_with fail
    refine (isDots k' t' p' w3 false (by rw [hq1]; rfl)).mono ?_
    rintro e w4 ⟨rfl, hb4⟩
    have bb4 := below_trans bb3 hb4
    have hx4 := below_trans hx3 hb4
    clear q3_0 r3_0 q3_1 r3_1 q3_2 r3_2
    have q4_0 : w4.cell? ⟨w.heap.size, 0, none⟩ = some (.int .i64 4) := by rw [cell_of ((hx4.block _ (lt_of B0.out)).trans B0.out)]; rfl
    have q4_1 : w4.cell? ⟨w.heap.size, 1, none⟩ = some (.string t) := by rw [cell_of ((hx4.block _ (lt_of B0.out)).trans B0.out)]; rfl
    have q4_2 : w4.cell? ⟨w.heap.size, 2, none⟩ = some (.int .i64 p) := by rw [cell_of ((hx4.block _ (lt_of B0.out)).trans B0.out)]; rfl
    have r4_0 : w4.cell? ⟨w.heap.size + 1, 0, none⟩ = some (.int .i64 k') := by rw [cell_of ((hx4.block _ (lt_of B1.out)).trans B1.out)]; rfl
    have r4_1 : w4.cell? ⟨w.heap.size + 1, 1, none⟩ = some (.string t') := by rw [cell_of ((hx4.block _ (lt_of B1.out)).trans B1.out)]; rfl
    have r4_2 : w4.cell? ⟨w.heap.size + 1, 2, none⟩ = some (.int .i64 p') := by rw [cell_of ((hx4.block _ (lt_of B1.out)).trans B1.out)]; rfl
    go_wp2_with fail
    refine (txI 4 t p w4 false (by decide)).mono ?_
    rintro e w5 ⟨rfl, hb5⟩
    have bb5 := below_trans bb4 hb5
    have hx5 := below_trans hx4 hb5
    clear q4_0 r4_0 q4_1 r4_1 q4_2 r4_2
    have q5_0 : w5.cell? ⟨w.heap.size, 0, none⟩ = some (.int .i64 4) := by rw [cell_of ((hx5.block _ (lt_of B0.out)).trans B0.out)]; rfl
    have q5_1 : w5.cell? ⟨w.heap.size, 1, none⟩ = some (.string t) := by rw [cell_of ((hx5.block _ (lt_of B0.out)).trans B0.out)]; rfl
    have q5_2 : w5.cell? ⟨w.heap.size, 2, none⟩ = some (.int .i64 p) := by rw [cell_of ((hx5.block _ (lt_of B0.out)).trans B0.out)]; rfl
    have r5_0 : w5.cell? ⟨w.heap.size + 1, 0, none⟩ = some (.int .i64 k') := by rw [cell_of ((hx5.block _ (lt_of B1.out)).trans B1.out)]; rfl
    have r5_1 : w5.cell? ⟨w.heap.size + 1, 1, none⟩ = some (.string t') := by rw [cell_of ((hx5.block _ (lt_of B1.out)).trans B1.out)]; rfl
    have r5_2 : w5.cell? ⟨w.heap.size + 1, 2, none⟩ = some (.int .i64 p') := by rw [cell_of ((hx5.block _ (lt_of B1.out)).trans B1.out)]; rfl
    obtain rfl : R = false := by rw [← HR.out]; simp [ap, wy, nb, hq1, hq2, hq3, hq4, hq5]
    go_wp2
    go_ret
    exact ⟨rfl, bb5⟩
  by_cases hk5 : k = 5
  · subst hk5
    by_cases hq1 : k' = 1
    · subst hq1
      refine (wyI 5 t p W1 false (by decide)).mono ?_
      rintro e w1 ⟨rfl, hb1⟩
      have bb1 := below_trans ba hb1
      have hx1 := hb1
      have q1_0 : w1.cell? ⟨w.heap.size, 0, none⟩ = some (.int .i64 5) := by rw [cell_of ((hx1.block _ (lt_of B0.out)).trans B0.out)]; rfl
      have q1_1 : w1.cell? ⟨w.heap.size, 1, none⟩ = some (.string t) := by rw [cell_of ((hx1.block _ (lt_of B0.out)).trans B0.out)]; rfl
      have q1_2 : w1.cell? ⟨w.heap.size, 2, none⟩ = some (.int .i64 p) := by rw [cell_of ((hx1.block _ (lt_of B0.out)).trans B0.out)]; rfl
      have r1_0 : w1.cell? ⟨w.heap.size + 1, 0, none⟩ = some (.int .i64 1) := by rw [cell_of ((hx1.block _ (lt_of B1.out)).trans B1.out)]; rfl
      have r1_1 : w1.cell? ⟨w.heap.size + 1, 1, none⟩ = some (.string t') := by rw [cell_of ((hx1.block _ (lt_of B1.out)).trans B1.out)]; rfl
      have r1_2 : w1.cell? ⟨w.heap.size + 1, 2, none⟩ = some (.int .i64 p') := by rw [cell_of ((hx1.block _ (lt_of B1.out)).trans B1.out)]; rfl
      go_wp2_with fail
      refine (nbI 5 t p w1 false (by decide)).mono ?_
      rintro e w2 ⟨rfl, hb2⟩
      have bb2 := below_trans bb1 hb2
      have hx2 := below_trans hx1 hb2
      clear q1_0 r1_0 q1_1 r1_1 q1_2 r1_2
      have q2_0 : w2.cell? ⟨w.heap.size, 0, none⟩ = some (.int .i64 5) := by rw [cell_of ((hx2.block _ (lt_of B0.out)).trans B0.out)]; rfl
      have q2_1 : w2.cell? ⟨w.heap.size, 1, none⟩ = some (.string t) := by rw [cell_of ((hx2.block _ (lt_of B0.out)).trans B0.out)]; rfl
      have q2_2 : w2.cell? ⟨w.heap.size, 2, none⟩ = some (.int .i64 p) := by rw [cell_of ((hx2.block _ (lt_of B0.out)).trans B0.out)]; rfl
      have r2_0 : w2.cell? ⟨w.heap.size + 1, 0, none⟩ = some (.int .i64 1) := by rw [cell_of ((hx2.block _ (lt_of B1.out)).trans B1.out)]; rfl
      have r2_1 : w2.cell? ⟨w.heap.size + 1, 1, none⟩ = some (.string t') := by rw [cell_of ((hx2.block _ (lt_of B1.out)).trans B1.out)]; rfl
      have r2_2 : w2.cell? ⟨w.heap.size + 1, 2, none⟩ = some (.int .i64 p') := by rw [cell_of ((hx2.block _ (lt_of B1.out)).trans B1.out)]; rfl
      go_wp2_with fail
      refine (txI 5 t p w2 true (by decide)).mono ?_
      rintro e w3 ⟨rfl, hb3⟩
      have bb3 := below_trans bb2 hb3
      have hx3 := below_trans hx2 hb3
      clear q2_0 r2_0 q2_1 r2_1 q2_2 r2_2
      have q3_0 : w3.cell? ⟨w.heap.size, 0, none⟩ = some (.int .i64 5) := by rw [cell_of ((hx3.block _ (lt_of B0.out)).trans B0.out)]; rfl
      have q3_1 : w3.cell? ⟨w.heap.size, 1, none⟩ = some (.string t) := by rw [cell_of ((hx3.block _ (lt_of B0.out)).trans B0.out)]; rfl
      have q3_2 : w3.cell? ⟨w.heap.size, 2, none⟩ = some (.int .i64 p) := by rw [cell_of ((hx3.block _ (lt_of B0.out)).trans B0.out)]; rfl
      have r3_0 : w3.cell? ⟨w.heap.size + 1, 0, none⟩ = some (.int .i64 1) := by rw [cell_of ((hx3.block _ (lt_of B1.out)).trans B1.out)]; rfl
      have r3_1 : w3.cell? ⟨w.heap.size + 1, 1, none⟩ = some (.string t') := by rw [cell_of ((hx3.block _ (lt_of B1.out)).trans B1.out)]; rfl
      have r3_2 : w3.cell? ⟨w.heap.size + 1, 2, none⟩ = some (.int .i64 p') := by rw [cell_of ((hx3.block _ (lt_of B1.out)).trans B1.out)]; rfl
      go_wp2_with fail
      refine (txI 1 t' p' w3 false (by decide)).mono ?_
      rintro e w4 ⟨rfl, hb4⟩
      have bb4 := below_trans bb3 hb4
      have hx4 := below_trans hx3 hb4
      clear q3_0 r3_0 q3_1 r3_1 q3_2 r3_2
      have q4_0 : w4.cell? ⟨w.heap.size, 0, none⟩ = some (.int .i64 5) := by rw [cell_of ((hx4.block _ (lt_of B0.out)).trans B0.out)]; rfl
      have q4_1 : w4.cell? ⟨w.heap.size, 1, none⟩ = some (.string t) := by rw [cell_of ((hx4.block _ (lt_of B0.out)).trans B0.out)]; rfl
      have q4_2 : w4.cell? ⟨w.heap.size, 2, none⟩ = some (.int .i64 p) := by rw [cell_of ((hx4.block _ (lt_of B0.out)).trans B0.out)]; rfl
      have r4_0 : w4.cell? ⟨w.heap.size + 1, 0, none⟩ = some (.int .i64 1) := by rw [cell_of ((hx4.block _ (lt_of B1.out)).trans B1.out)]; rfl
      have r4_1 : w4.cell? ⟨w.heap.size + 1, 1, none⟩ = some (.string t') := by rw [cell_of ((hx4.block _ (lt_of B1.out)).trans B1.out)]; rfl
      have r4_2 : w4.cell? ⟨w.heap.size + 1, 2, none⟩ = some (.int .i64 p') := by rw [cell_of ((hx4.block _ (lt_of B1.out)).trans B1.out)]; rfl
      obtain rfl : R = false := by rw [← HR.out]; simp [ap, wy, nb]
      go_wp2
      go_ret
      exact ⟨rfl, bb4⟩
    by_cases hq2 : k' = 2
    · subst hq2
      refine (wyI 5 t p W1 false (by decide)).mono ?_
      rintro e w1 ⟨rfl, hb1⟩
      have bb1 := below_trans ba hb1
      have hx1 := hb1
      have q1_0 : w1.cell? ⟨w.heap.size, 0, none⟩ = some (.int .i64 5) := by rw [cell_of ((hx1.block _ (lt_of B0.out)).trans B0.out)]; rfl
      have q1_1 : w1.cell? ⟨w.heap.size, 1, none⟩ = some (.string t) := by rw [cell_of ((hx1.block _ (lt_of B0.out)).trans B0.out)]; rfl
      have q1_2 : w1.cell? ⟨w.heap.size, 2, none⟩ = some (.int .i64 p) := by rw [cell_of ((hx1.block _ (lt_of B0.out)).trans B0.out)]; rfl
      have r1_0 : w1.cell? ⟨w.heap.size + 1, 0, none⟩ = some (.int .i64 2) := by rw [cell_of ((hx1.block _ (lt_of B1.out)).trans B1.out)]; rfl
      have r1_1 : w1.cell? ⟨w.heap.size + 1, 1, none⟩ = some (.string t') := by rw [cell_of ((hx1.block _ (lt_of B1.out)).trans B1.out)]; rfl
      have r1_2 : w1.cell? ⟨w.heap.size + 1, 2, none⟩ = some (.int .i64 p') := by rw [cell_of ((hx1.block _ (lt_of B1.out)).trans B1.out)]; rfl
      go_wp2_with fail
      refine (nbI 5 t p w1 false (by decide)).mono ?_
      rintro e w2 ⟨rfl, hb2⟩
      have bb2 := below_trans bb1 hb2
      have hx2 := below_trans hx1 hb2
      clear q1_0 r1_0 q1_1 r1_1 q1_2 r1_2
      have q2_0 : w2.cell? ⟨w.heap.size, 0, none⟩ = some (.int .i64 5) := by rw [cell_of ((hx2.block _ (lt_of B0.out)).trans B0.out)]; rfl
      have q2_1 : w2.cell? ⟨w.heap.size, 1, none⟩ = some (.string t) := by rw [cell_of ((hx2.block _ (lt_of B0.out)).trans B0.out)]; rfl
      have q2_2 : w2.cell? ⟨w.heap.size, 2, none⟩ = some (.int .i64 p) := by rw [cell_of ((hx2.block _ (lt_of B0.out)).trans B0.out)]; rfl
      have r2_0 : w2.cell? ⟨w.heap.size + 1, 0, none⟩ = some (.int .i64 2) := by rw [cell_of ((hx2.block _ (lt_of B1.out)).trans B1.out)]; rfl
      have r2_1 : w2.cell? ⟨w.heap.size + 1, 1, none⟩ = some (.string t') := by rw [cell_of ((hx2.block _ (lt_of B1.out)).trans B1.out)]; rfl
      have r2_2 : w2.cell? ⟨w.heap.size + 1, 2, none⟩ = some (.int .i64 p') := by rw [cell_of ((hx2.block _ (lt_of B1.out)).trans B1.out)]; rfl
      go_wp2_with fail
      refine (txI 5 t p w2 true (by decide)).mono ?_
      rintro e w3 ⟨rfl, hb3⟩
      have bb3 := below_trans bb2 hb3
      have hx3 := below_trans hx2 hb3
      clear q2_0 r2_0 q2_1 r2_1 q2_2 r2_2
      have q3_0 : w3.cell? ⟨w.heap.size, 0, none⟩ = some (.int .i64 5) := by rw [cell_of ((hx3.block _ (lt_of B0.out)).trans B0.out)]; rfl
      have q3_1 : w3.cell? ⟨w.heap.size, 1, none⟩ = some (.string t) := by rw [cell_of ((hx3.block _ (lt_of B0.out)).trans B0.out)]; rfl
      have q3_2 : w3.cell? ⟨w.heap.size, 2, none⟩ = some (.int .i64 p) := by rw [cell_of ((hx3.block _ (lt_of B0.out)).trans B0.out)]; rfl
      have r3_0 : w3.cell? ⟨w.heap.size + 1, 0, none⟩ = some (.int .i64 2) := by rw [cell_of ((hx3.block _ (lt_of B1.out)).trans B1.out)]; rfl
      have r3_1 : w3.cell? ⟨w.heap.size + 1, 1, none⟩ = some (.string t') := by rw [cell_of ((hx3.block _ (lt_of B1.out)).trans B1.out)]; rfl
      have r3_2 : w3.cell? ⟨w.heap.size + 1, 2, none⟩ = some (.int .i64 p') := by rw [cell_of ((hx3.block _ (lt_of B1.out)).trans B1.out)]; rfl
      go_wp2_with fail
      refine (txI 2 t' p' w3 false (by decide)).mono ?_
      rintro e w4 ⟨rfl, hb4⟩
      have bb4 := below_trans bb3 hb4
      have hx4 := below_trans hx3 hb4
      clear q3_0 r3_0 q3_1 r3_1 q3_2 r3_2
      have q4_0 : w4.cell? ⟨w.heap.size, 0, none⟩ = some (.int .i64 5) := by rw [cell_of ((hx4.block _ (lt_of B0.out)).trans B0.out)]; rfl
      have q4_1 : w4.cell? ⟨w.heap.size, 1, none⟩ = some (.string t) := by rw [cell_of ((hx4.block _ (lt_of B0.out)).trans B0.out)]; rfl
      have q4_2 : w4.cell? ⟨w.heap.size, 2, none⟩ = some (.int .i64 p) := by rw [cell_of ((hx4.block _ (lt_of B0.out)).trans B0.out)]; rfl
      have r4_0 : w4.cell? ⟨w.heap.size + 1, 0, none⟩ = some (.int .i64 2) := by rw [cell_of ((hx4.block _ (lt_of B1.out)).trans B1.out)]; rfl
      have r4_1 : w4.cell? ⟨w.heap.size + 1, 1, none⟩ = some (.string t') := by rw [cell_of ((hx4.block _ (lt_of B1.out)).trans B1.out)]; rfl
      have r4_2 : w4.cell? ⟨w.heap.size + 1, 2, none⟩ = some (.int .i64 p') := by rw [cell_of ((hx4.block _ (lt_of B1.out)).trans B1.out)]; rfl
      obtain rfl : R = false := by rw [← HR.out]; simp [ap, wy, nb]
      go_wp2
      go_ret
      exact ⟨rfl, bb4⟩
    by_cases hq3 : k' = 3
    · subst hq3
      refine (wyI 5 t p W1 false (by decide)).mono ?_
      rintro e w1 ⟨rfl, hb1⟩
      have bb1 := below_trans ba hb1
      have hx1 := hb1
      have q1_0 : w1.cell? ⟨w.heap.size, 0, none⟩ = some (.int .i64 5) := by rw [cell_of ((hx1.block _ (lt_of B0.out)).trans B0.out)]; rfl
      have q1_1 : w1.cell? ⟨w.heap.size, 1, none⟩ = some (.string t) := by rw [cell_of ((hx1.block _ (lt_of B0.out)).trans B0.out)]; rfl
      have q1_2 : w1.cell? ⟨w.heap.size, 2, none⟩ = some (.int .i64 p) := by rw [cell_of ((hx1.block _ (lt_of B0.out)).trans B0.out)]; rfl
      have r1_0 : w1.cell? ⟨w.heap.size + 1, 0, none⟩ = some (.int .i64 3) := by rw [cell_of ((hx1.block _ (lt_of B1.out)).trans B1.out)]; rfl
      have r1_1 : w1.cell? ⟨w.heap.size + 1, 1, none⟩ = some (.string t') := by rw [cell_of ((hx1.block _ (lt_of B1.out)).trans B1.out)]; rfl
      have r1_2 : w1.cell? ⟨w.heap.size + 1, 2, none⟩ = some (.int .i64 p') := by rw [cell_of ((hx1.block _ (lt_of B1.out)).trans B1.out)]; rfl
      go_wp2_with fail
      refine (nbI 5 t p w1 false (by decide)).mono ?_
      rintro e w2 ⟨rfl, hb2⟩
      have bb2 := below_trans bb1 hb2
      have hx2 := below_trans hx1 hb2
      clear q1_0 r1_0 q1_1 r1_1 q1_2 r1_2
      have q2_0 : w2.cell? ⟨w.heap.size, 0, none⟩ = some (.int .i64 5) := by rw [cell_of ((hx2.block _ (lt_of B0.out)).trans B0.out)]; rfl
      have q2_1 : w2.cell? ⟨w.heap.size, 1, none⟩ = some (.string t) := by rw [cell_of ((hx2.block _ (lt_of B0.out)).trans B0.out)]; rfl
      have q2_2 : w2.cell? ⟨w.heap.size, 2, none⟩ = some (.int .i64 p) := by rw [cell_of ((hx2.block _ (lt_of B0.out)).trans B0.out)]; rfl
      have r2_0 : w2.cell? ⟨w.heap.size + 1, 0, none⟩ = some (.int .i64 3) := by rw [cell_of ((hx2.block _ (lt_of B1.out)).trans B1.out)]; rfl
      have r2_1 : w2.cell? ⟨w.heap.size + 1, 1, none⟩ = some (.string t') := by rw [cell_of ((hx2.block _ (lt_of B1.out)).trans B1.out)]; rfl
      have r2_2 : w2.cell? ⟨w.heap.size + 1, 2, none⟩ = some (.int .i64 p') := by rw [cell_of ((hx2.block _ (lt_of B1.out)).trans B1.out)]; rfl
      go_wp2_with fail
      refine (txI 5 t p w2 true (by decide)).mono ?_
      rintro e w3 ⟨rfl, hb3⟩
      have bb3 := below_trans bb2 hb3
      have hx3 := below_trans hx2 hb3
      clear q2_0 r2_0 q2_1 r2_1 q2_2 r2_2
      have q3_0 : w3.cell? ⟨w.heap.size, 0, none⟩ = some (.int .i64 5) := by rw [cell_of ((hx3.block _ (lt_of B0.out)).trans B0.out)]; rfl
      have q3_1 : w3.cell? ⟨w.heap.size, 1, none⟩ = some (.string t) := by rw [cell_of ((hx3.block _ (lt_of B0.out)).trans B0.out)]; rfl
      have q3_2 : w3.cell? ⟨w.heap.size, 2, none⟩ = some (.int .i64 p) := by rw [cell_of ((hx3.block _ (lt_of B0.out)).trans B0.out)]; rfl
      have r3_0 : w3.cell? ⟨w.heap.size + 1, 0, none⟩ = some (.int .i64 3) := by rw [cell_of ((hx3.block _ (lt_of B1.out)).trans B1.out)]; rfl
      have r3_1 : w3.cell? ⟨w.heap.size + 1, 1, none⟩ = some (.string t') := by rw [cell_of ((hx3.block _ (lt_of B1.out)).trans B1.out)]; rfl
      have r3_2 : w3.cell? ⟨w.heap.size + 1, 2, none⟩ = some (.int .i64 p') := by rw [cell_of ((hx3.block _ (lt_of B1.out)).trans B1.out)]; rfl
      go_wp2_with fail
      refine (txI 3 t' p' w3 false (by decide)).mono ?_
      rintro e w4 ⟨rfl, hb4⟩
      have bb4 := below_trans bb3 hb4
      have hx4 := below_trans hx3 hb4
      clear q3_0 r3_0 q3_1 r3_1 q3_2 r3_2
      have q4_0 : w4.cell? ⟨w.heap.size, 0, none⟩ = some (.int .i64 5) := by rw [cell_of ((hx4.block _ (lt_of B0.out)).trans B0.out)]; rfl
      have q4_1 : w4.cell? ⟨w.heap.size, 1, none⟩ = some (.string t) := by rw [cell_of ((hx4.block _ (lt_of B0.out)).trans B0.out)]; rfl
      have q4_2 : w4.cell? ⟨w.heap.size, 2, none⟩ = some (.int .i64 p) := by rw [cell_of ((hx4.block _ (lt_of B0.out)).trans B0.out)]; rfl
      have r4_0 : w4.cell? ⟨w.heap.size + 1, 0, none⟩ = some (.int .i64 3) := by rw [cell_of ((hx4.block _ (lt_of B1.out)).trans B1.out)]; rfl
      have r4_1 : w4.cell? ⟨w.heap.size + 1, 1, none⟩ = some (.string t') := by rw [cell_of ((hx4.block _ (lt_of B1.out)).trans B1.out)]; rfl
      have r4_2 : w4.cell? ⟨w.heap.size + 1, 2, none⟩ = some (.int .i64 p') := by rw [cell_of ((hx4.block _ (lt_of B1.out)).trans B1.out)]; rfl
      obtain rfl : R = false := by rw [← HR.out]; simp [ap, wy, nb]
      go_wp2
      go_ret
      exact ⟨rfl, bb4⟩
    by_cases hq4 : k' = 4
    · subst hq4
      refine (wyI 5 t p W1 false (by decide)).mono ?_
      rintro e w1 ⟨rfl, hb1⟩
      have bb1 := below_trans ba hb1
      have hx1 := hb1
      have q1_0 : w1.cell? ⟨w.heap.size, 0, none⟩ = some (.int .i64 5) := by rw [cell_of ((hx1.block _ (lt_of B0.out)).trans B0.out)]; rfl
      have q1_1 : w1.cell? ⟨w.heap.size, 1, none⟩ = some (.string t) := by rw [cell_of ((hx1.block _ (lt_of B0.out)).trans B0.out)]; rfl
      have q1_2 : w1.cell? ⟨w.heap.size, 2, none⟩ = some (.int .i64 p) := by rw [cell_of ((hx1.block _ (lt_of B0.out)).trans B0.out)]; rfl
      have r1_0 : w1.cell? ⟨w.heap.size + 1, 0, none⟩ = some (.int .i64 4) := by rw [cell_of ((hx1.block _ (lt_of B1.out)).trans B1.out)]; rfl
      have r1_1 : w1.cell? ⟨w.heap.size + 1, 1, none⟩ = some (.string t') := by rw [cell_of ((hx1.block _ (lt_of B1.out)).trans B1.out)]; rfl
      have r1_2 : w1.cell? ⟨w.heap.size + 1, 2, none⟩ = some (.int .i64 p') := by rw [cell_of ((hx1.block _ (lt_of B1.out)).trans B1.out)]; rfl
      go_wp2_with fail
      refine (nbI 5 t p w1 false (by decide)).mono ?_
      rintro e w2 ⟨rfl, hb2⟩
      have bb2 := below_trans bb1 hb2
      have hx2 := below_trans hx1 hb2
      clear q1_0 r1_0 q1_1 r1_1 q1_2 r1_2
      have q2_0 : w2.cell? ⟨w.heap.size, 0, none⟩ = some (.int .i64 5) := by rw [cell_of ((hx2.block _ (lt_of B0.out)).trans B0.out)]; rfl
      have q2_1 : w2.cell? ⟨w.heap.size, 1, none⟩ = some (.string t) := by rw [cell_of ((hx2.block _ (lt_of B0.out)).trans B0.out)]; rfl
      have q2_2 : w2.cell? ⟨w.heap.size, 2, none⟩ = some (.int .i64 p) := by rw [cell_of ((hx2.block _ (lt_of B0.out)).trans B0.out)]; rfl
      have r2_0 : w2.cell? ⟨w.heap.size + 1, 0, none⟩ = some (.int .i64 4) := by rw [cell_of ((hx2.block _ (lt_of B1.out)).trans B1.out)]; rfl
      have r2_1 : w2.cell? ⟨w.heap.size + 1, 1, none⟩ = some (.string t') := by rw [cell_of ((hx2.block _ (lt_of B1.out)).trans B1.out)]; rfl
      have r2_2 : w2.cell? ⟨w.heap.size + 1, 2, none⟩ = some (.int .i64 p') := by rw [cell_of ((hx2.block _ (lt_of B1.out)).trans B1.out)]; rfl
      go_wp2_with fail
      refine (txI 5 t p w2 true (by decide)).mono ?_
      rintro e w3 ⟨rfl, hb3⟩
      have bb3 := below_trans bb2 hb3
      have hx3 := below_trans hx2 hb3
      clear q2_0 r2_0 q2_1 r2_1 q2_2 r2_2
      have q3_0 : w3.cell? ⟨w.heap.size, 0, none⟩ = some (.int .i64 5) := by rw [cell_of ((hx3.block _ (lt_of B0.out)).trans B0.out)]; rfl
      have q3_1 : w3.cell? ⟨w.heap.size, 1, none⟩ = some (.string t) := by rw [cell_of ((hx3.block _ (lt_of B0.out)).trans B0.out)]; rfl
      have q3_2 : w3.cell? ⟨w.heap.size, 2, none⟩ = some (.int .i64 p) := by rw [cell_of ((hx3.block _ (lt_of B0.out)).trans B0.out)]; rfl
      have r3_0 : w3.cell? ⟨w.heap.size + 1, 0, none⟩ = some (.int .i64 4) := by rw [cell_of ((hx3.block _ (lt_of B1.out)).trans B1.out)]; rfl
      have r3_1 : w3.cell? ⟨w.heap.size + 1, 1, none⟩ = some (.string t') := by rw [cell_of ((hx3.block _ (lt_of B1.out)).trans B1.out)]; rfl
      have r3_2 : w3.cell? ⟨w.heap.size + 1, 2, none⟩ = some (.int .i64 p') := by rw [cell_of ((hx3.block _ (lt_of B1.out)).trans B1.out)]; rfl
      go_wp2_with fail
      refine (txI 4 t' p' w3 false (by decide)).mono ?_
      rintro e w4 ⟨rfl, hb4⟩
      have bb4 := below_trans bb3 hb4
      have hx4 := below_trans hx3 hb4
      clear q3_0 r3_0 q3_1 r3_1 q3_2 r3_2
      have q4_0 : w4.cell? ⟨w.heap.size, 0, none⟩ = some (.int .i64 5) := by rw [cell_of ((hx4.block _ (lt_of B0.out)).trans B0.out)]; rfl
      have q4_1 : w4.cell? ⟨w.heap.size, 1, none⟩ = some (.string t) := by rw [cell_of ((hx4.block _ (lt_of B0.out)).trans B0.out)]; rfl
      have q4_2 : w4.cell? ⟨w.heap.size, 2, none⟩ = some (.int .i64 p) := by rw [cell_of ((hx4.block _ (lt_of B0.out)).trans B0.out)]; rfl
      have r4_0 : w4.cell? ⟨w.heap.size + 1, 0, none⟩ = some (.int .i64 4) := by rw [cell_of ((hx4.block _ (lt_of B1.out)).trans B1.out)]; rfl
      have r4_1 : w4.cell? ⟨w.heap.size + 1, 1, none⟩ = some (.string t') := by rw [cell_of ((hx4.block _ (lt_of B1.out)).trans B1.out)]; rfl
      have r4_2 : w4.cell? ⟨w.heap.size + 1, 2, none⟩ = some (.int .i64 p') := by rw [cell_of ((hx4.block _ (lt_of B1.out)).trans B1.out)]; rfl
      obtain rfl : R = false := by rw [← HR.out]; simp [ap, wy, nb]
      go_wp2
      go_ret
      exact ⟨rfl, bb4⟩
    by_cases hq5 : k' = 5
    · subst hq5
      refine (wyI 5 t p W1 false (by decide)).mono ?_
      rintro e w1 ⟨rfl, hb1⟩
      have bb1 := below_trans ba hb1
      have hx1 := hb1
      have q1_0 : w1.cell? ⟨w.heap.size, 0, none⟩ = some (.int .i64 5) := by rw [cell_of ((hx1.block _ (lt_of B0.out)).trans B0.out)]; rfl
      have q1_1 : w1.cell? ⟨w.heap.size, 1, none⟩ = some (.string t) := by rw [cell_of ((hx1.block _ (lt_of B0.out)).trans B0.out)]; rfl
      have q1_2 : w1.cell? ⟨w.heap.size, 2, none⟩ = some (.int .i64 p) := by rw [cell_of ((hx1.block _ (lt_of B0.out)).trans B0.out)]; rfl
      have r1_0 : w1.cell? ⟨w.heap.size + 1, 0, none⟩ = some (.int .i64 5) := by rw [cell_of ((hx1.block _ (lt_of B1.out)).trans B1.out)]; rfl
      have r1_1 : w1.cell? ⟨w.heap.size + 1, 1, none⟩ = some (.string t') := by rw [cell_of ((hx1.block _ (lt_of B1.out)).trans B1.out)]; rfl
      have r1_2 : w1.cell? ⟨w.heap.size + 1, 2, none⟩ = some (.int .i64 p') := by rw [cell_of ((hx1.block _ (lt_of B1.out)).trans B1.out)]; rfl
      go_wp2_with fail
      refine (nbI 5 t p w1 false (by decide)).mono ?_
      rintro e w2 ⟨rfl, hb2⟩
      have bb2 := below_trans bb1 hb2
      have hx2 := below_trans hx1 hb2
      clear q1_0 r1_0 q1_1 r1_1 q1_2 r1_2
      have q2_0 : w2.cell? ⟨w.heap.size, 0, none⟩ = some (.int .i64 5) := by rw [cell_of ((hx2.block _ (lt_of B0.out)).trans B0.out)]; rfl
      have q2_1 : w2.cell? ⟨w.heap.size, 1, none⟩ = some (.string t) := by rw [cell_of ((hx2.block _ (lt_of B0.out)).trans B0.out)]; rfl
      have q2_2 : w2.cell? ⟨w.heap.size, 2, none⟩ = some (.int .i64 p) := by rw [cell_of ((hx2.block _ (lt_of B0.out)).trans B0.out)]; rfl
      have r2_0 : w2.cell? ⟨w.heap.size + 1, 0, none⟩ = some (.int .i64 5) := by rw [cell_of ((hx2.block _ (lt_of B1.out)).trans B1.out)]; rfl
      have r2_1 : w2.cell? ⟨w.heap.size + 1, 1, none⟩ = some (.string t') := by rw [cell_of ((hx2.block _ (lt_of B1.out)).trans B1.out)]; rfl
      have r2_2 : w2.cell? ⟨w.heap.size + 1, 2, none⟩ = some (.int .i64 p') := by rw [cell_of ((hx2.block _ (lt_of B1.out)).trans B1.out)]; rfl
      go_wp2_with fail
      refine (txI 5 t p w2 true (by decide)).mono ?_
      rintro e w3 ⟨rfl, hb3⟩
      have bb3 := below_trans bb2 hb3
      have hx3 := below_trans hx2 hb3
      clear q2_0 r2_0 q2_1 r2_1 q2_2 r2_2
      have q3_0 : w3.cell? ⟨w.heap.size, 0, none⟩ = some (.int .i64 5) := by rw [cell_of ((hx3.block _ (lt_of B0.out)).trans B0.out)]; rfl
      have q3_1 : w3.cell? ⟨w.heap.size, 1, none⟩ = some (.string t) := by rw [cell_of ((hx3.block _ (lt_of B0.out)).trans B0.out)]; rfl
      have q3_2 : w3.cell? ⟨w.heap.size, 2, none⟩ = some (.int .i64 p) := by rw [cell_of ((hx3.block _ (lt_of B0.out)).trans B0.out)]; rfl
      have r3_0 : w3.cell? ⟨w.heap.size + 1, 0, none⟩ = some (.int .i64 5) := by rw [cell_of ((hx3.block _ (lt_of B1.out)).trans B1.out)]; rfl
      have r3_1 : w3.cell? ⟨w.heap.size + 1, 1, none⟩ = some (.string t') := by rw [cell_of ((hx3.block _ (lt_of B1.out)).trans B1.out)]; rfl
      have r3_2 : w3.cell? ⟨w.heap.size + 1, 2, none⟩ = some (.int .i64 p') := by rw [cell_of ((hx3.block _ (lt_of B1.out)).trans B1.out)]; rfl
      go_wp2_with fail
      refine (txI 5 t' p' w3 true (by decide)).mono ?_
      rintro e w4 ⟨rfl, hb4⟩
      have bb4 := below_trans bb3 hb4
      have hx4 := below_trans hx3 hb4
      clear q3_0 r3_0 q3_1 r3_1 q3_2 r3_2
      have q4_0 : w4.cell? ⟨w.heap.size, 0, none⟩ = some (.int .i64 5) := by rw [cell_of ((hx4.block _ (lt_of B0.out)).trans B0.out)]; rfl
      have q4_1 : w4.cell? ⟨w.heap.size, 1, none⟩ = some (.string t) := by rw [cell_of ((hx4.block _ (lt_of B0.out)).trans B0.out)]; rfl
      have q4_2 : w4.cell? ⟨w.heap.size, 2, none⟩ = some (.int .i64 p) := by rw [cell_of ((hx4.block _ (lt_of B0.out)).trans B0.out)]; rfl
      have r4_0 : w4.cell? ⟨w.heap.size + 1, 0, none⟩ = some (.int .i64 5) := by rw [cell_of ((hx4.block _ (lt_of B1.out)).trans B1.out)]; rfl
      have r4_1 : w4.cell? ⟨w.heap.size + 1, 1, none⟩ = some (.string t') := by rw [cell_of ((hx4.block _ (lt_of B1.out)).trans B1.out)]; rfl
      have r4_2 : w4.cell? ⟨w.heap.size + 1, 2, none⟩ = some (.int .i64 p') := by rw [cell_of ((hx4.block _ (lt_of B1.out)).trans B1.out)]; rfl
      obtain rfl : R = true := by rw [← HR.out]; simp [ap, wy, nb]
      go_wp2
      go_ret
      exact ⟨rfl, bb4⟩
    replace hq1 : (k' == 1) = false := by simp [hq1]
    replace hq2 : (k' == 2) = false := by simp [hq2]
    replace hq3 : (k' == 3) = false := by simp [hq3]
    replace hq4 : (k' == 4) = false := by simp [hq4]
    replace hq5 : (k' == 5) = false := by simp [hq5]
    have hqw : wy k' = false := by simp [wy, hq2, hq3, hq4]
    refine (wyI 5 t p W1 false (by decide)).mono ?_
    rintro e w1 ⟨rfl, hb1⟩
    have bb1 := below_trans ba hb1
    have hx1 := hb1
    have q1_0 : w1.cell? ⟨w.heap.size, 0, none⟩ = some (.int .i64 5) := by rw [cell_of ((hx1.block _ (lt_of B0.out)).trans B0.out)]; rfl
    have q1_1 : w1.cell? ⟨w.heap.size, 1, none⟩ = some (.string t) := by rw [cell_of ((hx1.block _ (lt_of B0.out)).trans B0.out)]; rfl
    have q1_2 : w1.cell? ⟨w.heap.size, 2, none⟩ = some (.int .i64 p) := by rw [cell_of ((hx1.block _ (lt_of B0.out)).trans B0.out)]; rfl
    have r1_0 : w1.cell? ⟨w.heap.size + 1, 0, none⟩ = some (.int .i64 k') := by rw [cell_of ((hx1.block _ (lt_of B1.out)).trans B1.out)]; rfl
    have r1_1 : w1.cell? ⟨w.heap.size + 1, 1, none⟩ = some (.string t') := by rw [cell_of ((hx1.block _ (lt_of B1.out)).trans B1.out)]; rfl
    have r1_2 : w1.cell? ⟨w.heap.size + 1, 2, none⟩ = some (.int .i64 p') := by rw [cell_of ((hx1.block _ (lt_of B1.out)).trans B1.out)]; rfl
    go_wp2_with fail
    refine (nbI 5 t p w1 false (by decide)).mono ?_
    rintro e w2 ⟨rfl, hb2⟩
    have bb2 := below_trans bb1 hb2
    have hx2 := below_trans hx1 hb2
    clear q1_0 r1_0 q1_1 r1_1 q1_2 r1_2
    have q2_0 : w2.cell? ⟨w.heap.size, 0, none⟩ = some (.int .i64 5) := by rw [cell_of ((hx2.block _ (lt_of B0.out)).trans B0.out)]; rfl
    have q2_1 : w2.cell? ⟨w.heap.size, 1, none⟩ = some (.string t) := by rw [cell_of ((hx2.block _ (lt_of B0.out)).trans B0.out)]; rfl
    have q2_2 : w2.cell? ⟨w.heap.size, 2, none⟩ = some (.int .i64 p) := by rw [cell_of ((hx2.block _ (lt_of B0.out)).trans B0.out)]; rfl
    have r2_0 : w2.cell? ⟨w.heap.size + 1, 0, none⟩ = some (.int .i64 k') := by rw [cell_of ((hx2.block _ (lt_of B1.out)).trans B1.out)]; rfl
    have r2_1 : w2.cell? ⟨w.heap.size + 1, 1, none⟩ = some (.string t') := by rw [cell_of ((hx2.block _ (lt_of B1.out)).trans B1.out)]; rfl
    have r2_2 : w2.cell? ⟨w.heap.size + 1, 2, none⟩ = some (.int .i64 p') := by rw [cell_of ((hx2.block _ (lt_of B1.out)).trans B1.out)]; rfl
    go_wp2_with fail
    refine (txI 5 t p w2 true (by decide)).mono ?_
    rintro e w3 ⟨rfl, hb3⟩
    have bb3 := below_trans bb2 hb3
    have hx3 := below_trans hx2 hb3
    clear q2_0 r2_0 q2_1 r2_1 q2_2 r2_2
    have q3_0 : w3.cell? ⟨w.heap.size, 0, none⟩ = some (.int .i64 5) := by rw [cell_of ((hx3.block _ (lt_of B0.out)).trans B0.out)]; rfl
    have q3_1 : w3.cell? ⟨w.heap.size, 1, none⟩ = some (.string t) := by rw [cell_of ((hx3.block _ (lt_of B0.out)).trans B0.out)]; rfl
    have q3_2 : w3.cell? ⟨w.heap.size, 2, none⟩ = some (.int .i64 p) := by rw [cell_of ((hx3.block _ (lt_of B0.out)).trans B0.out)]; rfl
    have r3_0 : w3.cell? ⟨w.heap.size + 1, 0, none⟩ = some (.int .i64 k') := by rw [cell_of ((hx3.block _ (lt_of B1.out)).trans B1.out)]; rfl
    have r3_1 : w3.cell? ⟨w.heap.size + 1, 1, none⟩ = some (.string t') := by rw [cell_of ((hx3.block _ (lt_of B1.out)).trans B1.out)]; rfl
    have r3_2 : w3.cell? ⟨w.heap.size + 1, 2, none⟩ = some (.int .i64 p') := by rw [cell_of ((hx3.block _ (lt_of B1.out)).trans B1.out)]; rfl
    go_wp2_with fail
    refine (txI k' t' p' w3 false hq5).mono ?_
    rintro e w4 ⟨rfl, hb4⟩
    have bb4 := below_trans bb3 hb4
    have hx4 := below_trans hx3 hb4
    clear q3_0 r3_0 q3_1 r3_1 q3_2 r3_2
    have q4_0 : w4.cell? ⟨w.heap.size, 0, none⟩ = some (.int .i64 5) := by rw [cell_of ((hx4.block _ (lt_of B0.out)).trans B0.out)]; rfl
    have q4_1 : w4.cell? ⟨w.heap.size, 1, none⟩ = some (.string t) := by rw [cell_of ((hx4.block _ (lt_of B0.out)).trans B0.out)]; rfl
    have q4_2 : w4.cell? ⟨w.heap.size, 2, none⟩ = some (.int .i64 p) := by rw [cell_of ((hx4.block _ (lt_of B0.out)).trans B0.out)]; rfl
    have r4_0 : w4.cell? ⟨w.heap.size + 1, 0, none⟩ = some (.int .i64 k') := by rw [cell_of ((hx4.block _ (lt_of B1.out)).trans B1.out)]; rfl
    have r4_1 : w4.cell? ⟨w.heap.size + 1, 1, none⟩ = some (.string t') := by rw [cell_of ((hx4.block _ (lt_of B1.out)).trans B1.out)]; rfl
    have r4_2 : w4.cell? ⟨w.heap.size + 1, 2, none⟩ = some (.int .i64 p') := by rw [cell_of ((hx4.block _ (lt_of B1.out)).trans B1.out)]; rfl
    obtain rfl : R = false := by rw [← HR.out]; simp [ap, wy, nb, hq1, hq2, hq3, hq4, hq5]
    go_wp2
    go_ret
    exact ⟨rfl, bb4⟩
  replace hk2 : (k == 2) = false := by simp [hk2]
  replace hk3 : (k == 3) = false := by simp [hk3]
  replace hk4 : (k == 4) = false := by simp [hk4]
  replace hk5 : (k == 5) = false := by simp [hk5]
  have hkw : wy k = false := by simp [wy, hk2, hk3, hk4]
  have hkn : nb k = false := by simp [nb, hk3, hk4]
  by_cases hq1 : k' = 1
  · subst hq1
    refine (wyI k t p W1 false hkw).mono ?_
    rintro e w1 ⟨rfl, hb1⟩
    have bb1 := below_trans ba hb1
    have hx1 := hb1
    have q1_0 : w1.cell? ⟨w.heap.size, 0, none⟩ = some (.int .i64 k) := by rw [cell_of ((hx1.block _ (lt_of B0.out)).trans B0.out)]; rfl
    have q1_1 : w1.cell? ⟨w.heap.size, 1, none⟩ = some (.string t) := by rw [cell_of ((hx1.block _ (lt_of B0.out)).trans B0.out)]; rfl
    have q1_2 : w1.cell? ⟨w.heap.size, 2, none⟩ = some (.int .i64 p) := by rw [cell_of ((hx1.block _ (lt_of B0.out)).trans B0.out)]; rfl
    have r1_0 : w1.cell? ⟨w.heap.size + 1, 0, none⟩ = some (.int .i64 1) := by rw [cell_of ((hx1.block _ (lt_of B1.out)).trans B1.out)]; rfl
    have r1_1 : w1.cell? ⟨w.heap.size + 1, 1, none⟩ = some (.string t') := by rw [cell_of ((hx1.block _ (lt_of B1.out)).trans B1.out)]; rfl
    have r1_2 : w1.cell? ⟨w.heap.size + 1, 2, none⟩ = some (.int .i64 p') := by rw [cell_of ((hx1.block _ (lt_of B1.out)).trans B1.out)]; rfl
    go_wp2_with fail
    refine (nbI k t p w1 false hkn).mono ?_
    rintro e w2 ⟨rfl, hb2⟩
    have bb2 := below_trans bb1 hb2
    have hx2 := below_trans hx1 hb2
    clear q1_0 r1_0 q1_1 r1_1 q1_2 r1_2
    have q2_0 : w2.cell? ⟨w.heap.size, 0, none⟩ = some (.int .i64 k) := by rw [cell_of ((hx2.block _ (lt_of B0.out)).trans B0.out)]; rfl
    have q2_1 : w2.cell? ⟨w.heap.size, 1, none⟩ = some (.string t) := by rw [cell_of ((hx2.block _ (lt_of B0.out)).trans B0.out)]; rfl
    have q2_2 : w2.cell? ⟨w.heap.size, 2, none⟩ = some (.int .i64 p) := by rw [cell_of ((hx2.block _ (lt_of B0.out)).trans B0.out)]; rfl
    have r2_0 : w2.cell? ⟨w.heap.size + 1, 0, none⟩ = some (.int .i64 1) := by rw [cell_of ((hx2.block _ (lt_of B1.out)).trans B1.out)]; rfl
    have r2_1 : w2.cell? ⟨w.heap.size + 1, 1, none⟩ = some (.string t') := by rw [cell_of ((hx2.block _ (lt_of B1.out)).trans B1.out)]; rfl
    have r2_2 : w2.cell? ⟨w.heap.size + 1, 2, none⟩ = some (.int .i64 p') := by rw [cell_of ((hx2.block _ (lt_of B1.out)).trans B1.out)]; rfl
    go_wp2_with fail
    refine (txI k t p w2 false hk5).mono ?_
    rintro e w3 ⟨rfl, hb3⟩
    have bb3 := below_trans bb2 hb3
    have hx3 := below_trans hx2 hb3
    clear q2_0 r2_0 q2_1 r2_1 q2_2 r2_2
    have q3_0 : w3.cell? ⟨w.heap.size, 0, none⟩ = some (.int .i64 k) := by rw [cell_of ((hx3.block _ (lt_of B0.out)).trans B0.out)]; rfl
    have q3_1 : w3.cell? ⟨w.heap.size, 1, none⟩ = some (.string t) := by rw [cell_of ((hx3.block _ (lt_of B0.out)).trans B0.out)]; rfl
    have q3_2 : w3.cell? ⟨w.heap.size, 2, none⟩ = some (.int .i64 p) := by rw [cell_of ((hx3.block _ (lt_of B0.out)).trans B0.out)]; rfl
    have r3_0 : w3.cell? ⟨w.heap.size + 1, 0, none⟩ = some (.int .i64 1) := by rw [cell_of ((hx3.block _ (lt_of B1.out)).trans B1.out)]; rfl
    have r3_1 : w3.cell? ⟨w.heap.size + 1, 1, none⟩ = some (.string t') := by rw [cell_of ((hx3.block _ (lt_of B1.out)).trans B1.out)]; rfl
    have r3_2 : w3.cell? ⟨w.heap.size + 1, 2, none⟩ = some (.int .i64 p') := by rw [cell_of ((hx3.block _ (lt_of B1.out)).trans B1.out)]; rfl
    obtain rfl : R = false := by rw [← HR.out]; simp [ap, wy, nb, hk2, hk3, hk4, hk5]
    go_wp2
    go_ret
    exact ⟨rfl, bb3⟩
  by_cases hq2 : k' = 2
  · subst hq2
    refine (wyI k t p W1 false hkw).mono ?_
    rintro e w1 ⟨rfl, hb1⟩
    have bb1 := below_trans ba hb1
    have hx1 := hb1
    have q1_0 : w1.cell? ⟨w.heap.size, 0, none⟩ = some (.int .i64 k) := by rw [cell_of ((hx1.block _ (lt_of B0.out)).trans B0.out)]; rfl
    have q1_1 : w1.cell? ⟨w.heap.size, 1, none⟩ = some (.string t) := by rw [cell_of ((hx1.block _ (lt_of B0.out)).trans B0.out)]; rfl
    have q1_2 : w1.cell? ⟨w.heap.size, 2, none⟩ = some (.int .i64 p) := by rw [cell_of ((hx1.block _ (lt_of B0.out)).trans B0.out)]; rfl
    have r1_0 : w1.cell? ⟨w.heap.size + 1, 0, none⟩ = some (.int .i64 2) := by rw [cell_of ((hx1.block _ (lt_of B1.out)).trans B1.out)]; rfl
    have r1_1 : w1.cell? ⟨w.heap.size + 1, 1, none⟩ = some (.string t') := by rw [cell_of ((hx1.block _ (lt_of B1.out)).trans B1.out)]; rfl
    have r1_2 : w1.cell? ⟨w.heap.size + 1, 2, none⟩ = some (.int .i64 p') := by rw [cell_of ((hx1.block _ (lt_of B1.out)).trans B1.out)]; rfl
    go_wp2_with fail
    refine (nbI k t p w1 false hkn).mono ?_
    rintro e w2 ⟨rfl, hb2⟩
    have bb2 := below_trans bb1 hb2
    have hx2 := below_trans hx1 hb2
    clear q1_0 r1_0 q1_1 r1_1 q1_2 r1_2
    have q2_0 : w2.cell? ⟨w.heap.size, 0, none⟩ = some (.int .i64 k) := by rw [cell_of ((hx2.block _ (lt_of B0.out)).trans B0.out)]; rfl
    have q2_1 : w2.cell? ⟨w.heap.size, 1, none⟩ = some (.string t) := by rw [cell_of ((hx2.block _ (lt_of B0.out)).trans B0.out)]; rfl
    have q2_2 : w2.cell? ⟨w.heap.size, 2, none⟩ = some (.int .i64 p) := by rw [cell_of ((hx2.block _ (lt_of B0.out)).trans B0.out)]; rfl
    have r2_0 : w2.cell? ⟨w.heap.size + 1, 0, none⟩ = some (.int .i64 2) := by rw [cell_of ((hx2.block _ (lt_of B1.out)).trans B1.out)]; rfl
    have r2_1 : w2.cell? ⟨w.heap.size + 1, 1, none⟩ = some (.string t') := by rw [cell_of ((hx2.block _ (lt_of B1.out)).trans B1.out)]; rfl
    have r2_2 : w2.cell? ⟨w.heap.size + 1, 2, none⟩ = some (.int .i64 p') := by rw [cell_of ((hx2.block _ (lt_of B1.out)).trans B1.out)]; rfl
    go_wp2_with fail
    refine (txI k t p w2 false hk5).mono ?_
    rintro e w3 ⟨rfl, hb3⟩
    have bb3 := below_trans bb2 hb3
    have hx3 := below_trans hx2 hb3
    clear q2_0 r2_0 q2_1 r2_1 q2_2 r2_2
    have q3_0 : w3.cell? ⟨w.heap.size, 0, none⟩ = some (.int .i64 k) := by rw [cell_of ((hx3.block _ (lt_of B0.out)).trans B0.out)]; rfl
    have q3_1 : w3.cell? ⟨w.heap.size, 1, none⟩ = some (.string t) := by rw [cell_of ((hx3.block _ (lt_of B0.out)).trans B0.out)]; rfl
    have q3_2 : w3.cell? ⟨w.heap.size, 2, none⟩ = some (.int .i64 p) := by rw [cell_of ((hx3.block _ (lt_of B0.out)).trans B0.out)]; rfl
    have r3_0 : w3.cell? ⟨w.heap.size + 1, 0, none⟩ = some (.int .i64 2) := by rw [cell_of ((hx3.block _ (lt_of B1.out)).trans B1.out)]; rfl
    have r3_1 : w3.cell? ⟨w.heap.size + 1, 1, none⟩ = some (.string t') := by rw [cell_of ((hx3.block _ (lt_of B1.out)).trans B1.out)]; rfl
    have r3_2 : w3.cell? ⟨w.heap.size + 1, 2, none⟩ = some (.int .i64 p') := by rw [cell_of ((hx3.block _ (lt_of B1.out)).trans B1.out)]; rfl
    obtain rfl : R = false := by rw [← HR.out]; simp [ap, wy, nb, hk2, hk3, hk4, hk5]
    go_wp2
    go_ret
    exact ⟨rfl, bb3⟩
  by_cases hq3 : k' = 3
  · subst hq3
    refine (wyI k t p W1 false hkw).mono ?_
    rintro e w1 ⟨rfl, hb1⟩
    have bb1 := below_trans ba hb1
    have hx1 := hb1
    have q1_0 : w1.cell? ⟨w.heap.size, 0, none⟩ = some (.int .i64 k) := by rw [cell_of ((hx1.block _ (lt_of B0.out)).trans B0.out)]; rfl
    have q1_1 : w1.cell? ⟨w.heap.size, 1, none⟩ = some (.string t) := by rw [cell_of ((hx1.block _ (lt_of B0.out)).trans B0.out)]; rfl
    have q1_2 : w1.cell? ⟨w.heap.size, 2, none⟩ = some (.int .i64 p) := by rw [cell_of ((hx1.block _ (lt_of B0.out)).trans B0.out)]; rfl
    have r1_0 : w1.cell? ⟨w.heap.size + 1, 0, none⟩ = some (.int .i64 3) := by rw [cell_of ((hx1.block _ (lt_of B1.out)).trans B1.out)]; rfl
    have r1_1 : w1.cell? ⟨w.heap.size + 1, 1, none⟩ = some (.string t') := by rw [cell_of ((hx1.block _ (lt_of B1.out)).trans B1.out)]; rfl
    have r1_2 : w1.cell? ⟨w.heap.size + 1, 2, none⟩ = some (.int .i64 p') := by rw [cell_of ((hx1.block _ (lt_of B1.out)).trans B1.out)]; rfl
    go_wp2_with fail
    refine (nbI k t p w1 false hkn).mono ?_
    rintro e w2 ⟨rfl, hb2⟩
    have bb2 := below_trans bb1 hb2
    have hx2 := below_trans hx1 hb2
    clear q1_0 r1_0 q1_1 r1_1 q1_2 r1_2
    have q2_0 : w2.cell? ⟨w.heap.size, 0, none⟩ = some (.int .i64 k) := by rw [cell_of ((hx2.block _ (lt_of B0.out)).trans B0.out)]; rfl
    have q2_1 : w2.cell? ⟨w.heap.size, 1, none⟩ = some (.string t) := by rw [cell_of ((hx2.block _ (lt_of B0.out)).trans B0.out)]; rfl
    have q2_2 : w2.cell? ⟨w.heap.size, 2, none⟩ = some (.int .i64 p) := by rw [cell_of ((hx2.block _ (lt_of B0.out)).trans B0.out)]; rfl
    have r2_0 : w2.cell? ⟨w.heap.size + 1, 0, none⟩ = some (.int .i64 3) := by rw [cell_of ((hx2.block _ (lt_of B1.out)).trans B1.out)]; rfl
    have r2_1 : w2.cell? ⟨w.heap.size + 1, 1, none⟩ = some (.string t') := by rw [cell_of ((hx2.block _ (lt_of B1.out)).trans B1.out)]; rfl
    have r2_2 : w2.cell? ⟨w.heap.size + 1, 2, none⟩ = some (.int .i64 p') := by rw [cell_of ((hx2.block _ (lt_of B1.out)).trans B1.out)]; rfl
    go_wp2_with fail
    refine (txI k t p w2 false hk5).mono ?_
    rintro e w3 ⟨rfl, hb3⟩
    have bb3 := below_trans bb2 hb3
    have hx3 := below_trans hx2 hb3
    clear q2_0 r2_0 q2_1 r2_1 q2_2 r2_2
    have q3_0 : w3.cell? ⟨w.heap.size, 0, none⟩ = some (.int .i64 k) := by rw [cell_of ((hx3.block _ (lt_of B0.out)).trans B0.out)]; rfl
    have q3_1 : w3.cell? ⟨w.heap.size, 1, none⟩ = some (.string t) := by rw [cell_of ((hx3.block _ (lt_of B0.out)).trans B0.out)]; rfl
    have q3_2 : w3.cell? ⟨w.heap.size, 2, none⟩ = some (.int .i64 p) := by rw [cell_of ((hx3.block _ (lt_of B0.out)).trans B0.out)]; rfl
    have r3_0 : w3.cell? ⟨w.heap.size + 1, 0, none⟩ = some (.int .i64 3) := by rw [cell_of ((hx3.block _ (lt_of B1.out)).trans B1.out)]; rfl
    have r3_1 : w3.cell? ⟨w.heap.size + 1, 1, none⟩ = some (.string t') := by rw [cell_of ((hx3.block _ (lt_of B1.out)).trans B1.out)]; rfl
    have r3_2 : w3.cell? ⟨w.heap.size + 1, 2, none⟩ = some (.int .i64 p') := by rw [cell_of ((hx3.block _ (lt_of B1.out)).trans B1.out)]; rfl
    obtain rfl : R = false := by rw [← HR.out]; simp [ap, wy, nb, hk2, hk3, hk4, hk5]
    go_wp2
    go_ret
    exact ⟨rfl, bb3⟩
  by_cases hq4 : k' = 4
  · subst hq4
    refine (wyI k t p W1 false hkw).mono ?_
    rintro e w1 ⟨rfl, hb1⟩
    have bb1 := below_trans ba hb1
    have hx1 := hb1
    have q1_0 : w1.cell? ⟨w.heap.size, 0, none⟩ = some (.int .i64 k) := by rw [cell_of ((hx1.block _ (lt_of B0.out)).trans B0.out)]; rfl
    have q1_1 : w1.cell? ⟨w.heap.size, 1, none⟩ = some (.string t) := by rw [cell_of ((hx1.block _ (lt_of B0.out)).trans B0.out)]; rfl
    have q1_2 : w1.cell? ⟨w.heap.size, 2, none⟩ = some (.int .i64 p) := by rw [cell_of ((hx1.block _ (lt_of B0.out)).trans B0.out)]; rfl
    have r1_0 : w1.cell? ⟨w.heap.size + 1, 0, none⟩ = some (.int .i64 4) := by rw [cell_of ((hx1.block _ (lt_of B1.out)).trans B1.out)]; rfl
    have r1_1 : w1.cell? ⟨w.heap.size + 1, 1, none⟩ = some (.string t') := by rw [cell_of ((hx1.block _ (lt_of B1.out)).trans B1.out)]; rfl
    have r1_2 : w1.cell? ⟨w.heap.size + 1, 2, none⟩ = some (.int .i64 p') := by rw [cell_of ((hx1.block _ (lt_of B1.out)).trans B1.out)]; rfl
    go_wp2_with fail
    refine (nbI k t p w1 false hkn).mono ?_
    rintro e w2 ⟨rfl, hb2⟩
    have bb2 := below_trans bb1 hb2
    have hx2 := below_trans hx1 hb2
    clear q1_0 r1_0 q1_1 r1_1 q1_2 r1_2
    have q2_0 : w2.cell? ⟨w.heap.size, 0, none⟩ = some (.int .i64 k) := by rw [cell_of ((hx2.block _ (lt_of B0.out)).trans B0.out)]; rfl
    have q2_1 : w2.cell? ⟨w.heap.size, 1, none⟩ = some (.string t) := by rw [cell_of ((hx2.block _ (lt_of B0.out)).trans B0.out)]; rfl
    have q2_2 : w2.cell? ⟨w.heap.size, 2, none⟩ = some (.int .i64 p) := by rw [cell_of ((hx2.block _ (lt_of B0.out)).trans B0.out)]; rfl
    have r2_0 : w2.cell? ⟨w.heap.size + 1, 0, none⟩ = some (.int .i64 4) := by rw [cell_of ((hx2.block _ (lt_of B1.out)).trans B1.out)]; rfl
    have r2_1 : w2.cell? ⟨w.heap.size + 1, 1, none⟩ = some (.string t') := by rw [cell_of ((hx2.block _ (lt_of B1.out)).trans B1.out)]; rfl
    have r2_2 : w2.cell? ⟨w.heap.size + 1, 2, none⟩ = some (.int .i64 p') := by rw [cell_of ((hx2.block _ (lt_of B1.out)).trans B1.out)]; rfl
    go_wp2_with fail
    refine (txI k t p w2 false hk5).mono ?_
    rintro e w3 ⟨rfl, hb3⟩
    have bb3 := below_trans bb2 hb3
    have hx3 := below_trans hx2 hb3
    clear q2_0 r2_0 q2_1 r2_1 q2_2 r2_2
    have q3_0 : w3.cell? ⟨w.heap.size, 0, none⟩ = some (.int .i64 k) := by rw [cell_of ((hx3.block _ (lt_of B0.out)).trans B0.out)]; rfl
    have q3_1 : w3.cell? ⟨w.heap.size, 1, none⟩ = some (.string t) := by rw [cell_of ((hx3.block _ (lt_of B0.out)).trans B0.out)]; rfl
    have q3_2 : w3.cell? ⟨w.heap.size, 2, none⟩ = some (.int .i64 p) := by rw [cell_of ((hx3.block _ (lt_of B0.out)).trans B0.out)]; rfl
    have r3_0 : w3.cell? ⟨w.heap.size + 1, 0, none⟩ = some (.int .i64 4) := by rw [cell_of ((hx3.block _ (lt_of B1.out)).trans B1.out)]; rfl
    have r3_1 : w3.cell? ⟨w.heap.size + 1, 1, none⟩ = some (.string t') := by rw [cell_of ((hx3.block _ (lt_of B1.out)).trans B1.out)]; rfl
    have r3_2 : w3.cell? ⟨w.heap.size + 1, 2, none⟩ = some (.int .i64 p') := by rw [cell_of ((hx3.block _ (lt_of B1.out)).trans B1.out)]; rfl
    obtain rfl : R = false := by rw [← HR.out]; simp [ap, wy, nb, hk2, hk3, hk4, hk5]
    go_wp2
    go_ret
    exact ⟨rfl, bb3⟩
  by_cases hq5 : k' = 5
  · subst hq5
    refine (wyI k t p W1 false hkw).mono ?_
    rintro e w1 ⟨rfl, hb1⟩
    have bb1 := below_trans ba hb1
    have hx1 := hb1
    have q1_0 : w1.cell? ⟨w.heap.size, 0, none⟩ = some (.int .i64 k) := by rw [cell_of ((hx1.block _ (lt_of B0.out)).trans B0.out)]; rfl
    have q1_1 : w1.cell? ⟨w.heap.size, 1, none⟩ = some (.string t) := by rw [cell_of ((hx1.block _ (lt_of B0.out)).trans B0.out)]; rfl
    have q1_2 : w1.cell? ⟨w.heap.size, 2, none⟩ = some (.int .i64 p) := by rw [cell_of ((hx1.block _ (lt_of B0.out)).trans B0.out)]; rfl
    have r1_0 : w1.cell? ⟨w.heap.size + 1, 0, none⟩ = some (.int .i64 5) := by rw [cell_of ((hx1.block _ (lt_of B1.out)).trans B1.out)]; rfl
    have r1_1 : w1.cell? ⟨w.heap.size + 1, 1, none⟩ = some (.string t') := by rw [cell_of ((hx1.block _ (lt_of B1.out)).trans B1.out)]; rfl
    have r1_2 : w1.cell? ⟨w.heap.size + 1, 2, none⟩ = some (.int .i64 p') := by rw [cell_of ((hx1.block _ (lt_of B1.out)).trans B1.out)]; rfl
    go_wp2_with fail
    refine (nbI k t p w1 false hkn).mono ?_
    rintro e w2 ⟨rfl, hb2⟩
    have bb2 := below_trans bb1 hb2
    have hx2 := below_trans hx1 hb2
    clear q1_0 r1_0 q1_1 r1_1 q1_2 r1_2
    have q2_0 : w2.cell? ⟨w.heap.size, 0, none⟩ = some (.int .i64 k) := by rw [cell_of ((hx2.block _ (lt_of B0.out)).trans B0.out)]; rfl
    have q2_1 : w2.cell? ⟨w.heap.size, 1, none⟩ = some (.string t) := by rw [cell_of ((hx2.block _ (lt_of B0.out)).trans B0.out)]; rfl
    have q2_2 : w2.cell? ⟨w.heap.size, 2, none⟩ = some (.int .i64 p) := by rw [cell_of ((hx2.block _ (lt_of B0.out)).trans B0.out)]; rfl
    have r2_0 : w2.cell? ⟨w.heap.size + 1, 0, none⟩ = some (.int .i64 5) := by rw [cell_of ((hx2.block _ (lt_of B1.out)).trans B1.out)]; rfl
    have r2_1 : w2.cell? ⟨w.heap.size + 1, 1, none⟩ = some (.string t') := by rw [cell_of ((hx2.block _ (lt_of B1.out)).trans B1.out)]; rfl
    have r2_2 : w2.cell? ⟨w.heap.size + 1, 2, none⟩ = some (.int .i64 p') := by rw [cell_of ((hx2.block _ (lt_of B1.out)).trans B1.out)]; rfl
    go_wp2_with fail
    refine (txI k t p w2 false hk5).mono ?_
    rintro e w3 ⟨rfl, hb3⟩
    have bb3 := below_trans bb2 hb3
    have hx3 := below_trans hx2 hb3
    clear q2_0 r2_0 q2_1 r2_1 q2_2 r2_2
    have q3_0 : w3.cell? ⟨w.heap.size, 0, none⟩ = some (.int .i64 k) := by rw [cell_of ((hx3.block _ (lt_of B0.out)).trans B0.out)]; rfl
    have q3_1 : w3.cell? ⟨w.heap.size, 1, none⟩ = some (.string t) := by rw [cell_of ((hx3.block _ (lt_of B0.out)).trans B0.out)]; rfl
    have q3_2 : w3.cell? ⟨w.heap.size, 2, none⟩ = some (.int .i64 p) := by rw [cell_of ((hx3.block _ (lt_of B0.out)).trans B0.out)]; rfl
    have r3_0 : w3.cell? ⟨w.heap.size + 1, 0, none⟩ = some (.int .i64 5) := by rw [cell_of ((hx3.block _ (lt_of B1.out)).trans B1.out)]; rfl
    have r3_1 : w3.cell? ⟨w.heap.size + 1, 1, none⟩ = some (.string t') := by rw [cell_of ((hx3.block _ (lt_of B1.out)).trans B1.out)]; rfl
    have r3_2 : w3.cell? ⟨w.heap.size + 1, 2, none⟩ = some (.int .i64 p') := by rw [cell_of ((hx3.block _ (lt_of B1.out)).trans B1.out)]; rfl
    obtain rfl : R = false := by rw [← HR.out]; simp [ap, wy, nb, hk2, hk3, hk4, hk5]
    go_wp2
    go_ret
    exact ⟨rfl, bb3⟩
  replace hq1 : (k' == 1) = false := by simp [hq1]
  replace hq2 : (k' == 2) = false := by simp [hq2]
  replace hq3 : (k' == 3) = false := by simp [hq3]
  replace hq4 : (k' == 4) = false := by simp [hq4]
  replace hq5 : (k' == 5) = false := by simp [hq5]
  have hqw : wy k' = false := by simp [wy, hq2, hq3, hq4]
  refine (wyI k t p W1 false hkw).mono ?_
  rintro e w1 ⟨rfl, hb1⟩
  have bb1 := below_trans ba hb1
  have hx1 := hb1
  have q1_0 : w1.cell? ⟨w.heap.size, 0, none⟩ = some (.int .i64 k) := by rw [cell_of ((hx1.block _ (lt_of B0.out)).trans B0.out)]; rfl
  have q1_1 : w1.cell? ⟨w.heap.size, 1, none⟩ = some (.string t) := by rw [cell_of ((hx1.block _ (lt_of B0.out)).trans B0.out)]; rfl
  have q1_2 : w1.cell? ⟨w.heap.size, 2, none⟩ = some (.int .i64 p) := by rw [cell_of ((hx1.block _ (lt_of B0.out)).trans B0.out)]; rfl
  have r1_0 : w1.cell? ⟨w.heap.size + 1, 0, none⟩ = some (.int .i64 k') := by rw [cell_of ((hx1.block _ (lt_of B1.out)).trans B1.out)]; rfl
  have r1_1 : w1.cell? ⟨w.heap.size + 1, 1, none⟩ = some (.string t') := by rw [cell_of ((hx1.block _ (lt_of B1.out)).trans B1.out)]; rfl
  have r1_2 : w1.cell? ⟨w.heap.size + 1, 2, none⟩ = some (.int .i64 p') := by rw [cell_of ((hx1.block _ (lt_of B1.out)).trans B1.out)]; rfl
  go_wp2_with fail
  refine (nbI k t p w1 false hkn).mono ?_
  rintro e w2 ⟨rfl, hb2⟩
  have bb2 := below_trans bb1 hb2
  have hx2 := below_trans hx1 hb2
  clear q1_0 r1_0 q1_1 r1_1 q1_2 r1_2
  have q2_0 : w2.cell? ⟨w.heap.size, 0, none⟩ = some (.int .i64 k) := by rw [cell_of ((hx2.block _ (lt_of B0.out)).trans B0.out)]; rfl
  have q2_1 : w2.cell? ⟨w.heap.size, 1, none⟩ = some (.string t) := by rw [cell_of ((hx2.block _ (lt_of B0.out)).trans B0.out)]; rfl
  have q2_2 : w2.cell? ⟨w.heap.size, 2, none⟩ = some (.int .i64 p) := by rw [cell_of ((hx2.block _ (lt_of B0.out)).trans B0.out)]; rfl
  have r2_0 : w2.cell? ⟨w.heap.size + 1, 0, none⟩ = some (.int .i64 k') := by rw [cell_of ((hx2.block _ (lt_of B1.out)).trans B1.out)]; rfl
  have r2_1 : w2.cell? ⟨w.heap.size + 1, 1, none⟩ = some (.string t') := by rw [cell_of ((hx2.block _ (lt_of B1.out)).trans B1.out)]; rfl
  have r2_2 : w2.cell? ⟨w.heap.size + 1, 2, none⟩ = some (.int .i64 p') := by rw [cell_of ((hx2.block _ (lt_of B1.out)).trans B1.out)]; rfl
  go_wp2_with fail
  refine (txI k t p w2 false hk5).mono ?_
  rintro e w3 ⟨rfl, hb3⟩
  have bb3 := below_trans bb2 hb3
  have hx3 := below_trans hx2 hb3
  clear q2_0 r2_0 q2_1 r2_1 q2_2 r2_2
  have q3_0 : w3.cell? ⟨w.heap.size, 0, none⟩ = some (.int .i64 k) := by rw [cell_of ((hx3.block _ (lt_of B0.out)).trans B0.out)]; rfl
  have q3_1 : w3.cell? ⟨w.heap.size, 1, none⟩ = some (.string t) := by rw [cell_of ((hx3.block _ (lt_of B0.out)).trans B0.out)]; rfl
  have q3_2 : w3.cell? ⟨w.heap.size, 2, none⟩ = some (.int .i64 p) := by rw [cell_of ((hx3.block _ (lt_of B0.out)).trans B0.out)]; rfl
  have r3_0 : w3.cell? ⟨w.heap.size + 1, 0, none⟩ = some (.int .i64 k') := by rw [cell_of ((hx3.block _ (lt_of B1.out)).trans B1.out)]; rfl
  have r3_1 : w3.cell? ⟨w.heap.size + 1, 1, none⟩ = some (.string t') := by rw [cell_of ((hx3.block _ (lt_of B1.out)).trans B1.out)]; rfl
  have r3_2 : w3.cell? ⟨w.heap.size + 1, 2, none⟩ = some (.int .i64 p') := by rw [cell_of ((hx3.block _ (lt_of B1.out)).trans B1.out)]; rfl
  obtain rfl : R = false := by rw [← HR.out]; simp [ap, wy, nb, hk2, hk3, hk4, hk5, hq1, hq2, hq3, hq4, hq5]
  go_wp2
  go_ret
  exact ⟨rfl, bb3⟩

end Dc
end Go.Proofs.Ytfljibjlfjgajaa
