/- What is proved: KeyOf of both sides, and the law of KeyOf, walked: the program's answer is the model's, and nothing that was handed in has turned. -/
import Derived.Test.YtaefcpmpbjngeaaDaE
import Derived.Test.YtaefcpmpbjngeaaDaT
import Derived.Deep.DeepCutAuto
import Derived.Deep.CutBlock
namespace Go.Proofs.Ytaefcpmpbjngeaa
namespace Da
set_option linter.unusedVariables false
open Go.RowKit
attribute [local go_sem ↓] Go.wp_at_zero Go.wp_at_succ

/-- The key of what is asked for. -/
def keyT (k : Int) (a n : ByteArray) : ByteArray := if k = 1 then (if a.size = 0 then n else a) else ⟨#[]⟩
theorem none_of {a : ByteArray} (h : a.size = 0) : a = ⟨#[]⟩ := by
  obtain ⟨d⟩ := a
  obtain ⟨l⟩ := d
  cases l with
  | nil => rfl
  | cons x xs => simp [ByteArray.size] at h
theorem some_of {a : ByteArray} (h : ¬ a.size = 0) : a.toList.isEmpty = false := by
  rw [Lib.toList_data]
  cases hl : a.data.toList with
  | nil => exact absurd (by rw [Lib.size_eq, hl]; rfl) h
  | cons x xs => rfl

theorem keyI (k : Int) (a n o : ByteArray) (c4 c5 c6 : Value) (w : World) :
    Calls Try.prog 15 #[.agg #[.int .i64 k, .string a, .string n, .string o, c4, c5, c6]] w fun e w' => e = .returned (.string (keyT k a n)) ∧ Below w.heap.size w w' := by
  unfold keyT
  by_cases hk : k = 1
  · subst hk
    by_cases ha : a.size = 0
    · rw [if_pos rfl, if_pos ha]
      obtain rfl := none_of ha
      go_enter Try.func15, Try.ntmps15
      go_wp2
      go_ret
      exact ⟨rfl, below_alloc _ _⟩
    · rw [if_pos rfl, if_neg ha]
      have hb := some_of ha
      go_enter Try.func15, Try.ntmps15
      go_wp2
      go_ret
      exact ⟨rfl, below_alloc _ _⟩
  · rw [if_neg hk]
    go_enter Try.func15, Try.ntmps15
    go_wp2
    go_ret
    exact ⟨rfl, below_alloc _ _⟩
theorem keyS (k : Int) (a n o : ByteArray) (c4 c5 c6 : Value) (w : World) :
    Calls Try.prog 13 #[.agg #[.int .i64 k, .string a, .string n, .string o, c4, c5, c6]] w fun e w' => e = .returned (.string (keyT k a n)) ∧ Below w.heap.size w w' := by
  unfold keyT
  by_cases hk : k = 1
  · subst hk
    by_cases ha : a.size = 0
    · rw [if_pos rfl, if_pos ha]
      obtain rfl := none_of ha
      go_enter Try.func13, Try.ntmps13
      go_wp2
      go_ret
      exact ⟨rfl, below_alloc _ _⟩
    · rw [if_pos rfl, if_neg ha]
      have hb := some_of ha
      go_enter Try.func13, Try.ntmps13
      go_wp2
      go_ret
      exact ⟨rfl, below_alloc _ _⟩
  · rw [if_neg hk]
    go_enter Try.func13, Try.ntmps13
    go_wp2
    go_ret
    exact ⟨rfl, below_alloc _ _⟩
theorem keep7 {W x : World} {B : Nat} {t : TypeId} {c0 c1 c2 c3 c4 c5 c6 : Value} (hb : Below W.heap.size W x) (h : W.heap[B]? = some (Obj.cells #[c0, c1, c2, c3, c4, c5, c6] t)) :
    x.cell? ⟨B, 0, none⟩ = some c0 ∧ x.cell? ⟨B, 1, none⟩ = some c1 ∧ x.cell? ⟨B, 2, none⟩ = some c2 ∧ x.cell? ⟨B, 3, none⟩ = some c3 ∧ x.cell? ⟨B, 4, none⟩ = some c4 ∧ x.cell? ⟨B, 5, none⟩ = some c5 ∧ x.cell? ⟨B, 6, none⟩ = some c6 := by
  have h2 := (hb.block B (lt_of h)).trans h
  exact ⟨by rw [cell_of h2]; rfl, by rw [cell_of h2]; rfl, by rw [cell_of h2]; rfl, by rw [cell_of h2]; rfl, by rw [cell_of h2]; rfl, by rw [cell_of h2]; rfl, by rw [cell_of h2]; rfl⟩

set_option maxHeartbeats 8000000 in
theorem walkFnExactKeyOf (r : Nat → D) (hsh : ∀ j g, (row .sel)[j]? = some g → Sh (r j) g) (w : World) (c0 c1 c2 c3 c4 c5 c6 : Value) (hat : ∀ j v, [c0, c1, c2, c3, c4, c5, c6][j]? = some v → At w (r j) v) :
    Calls Try.prog 4 #[.agg #[c0, c1, c2, c3, c4, c5, c6]] w fun e w' => e = .returned (.bool true) ∧ Below w.heap.size w w' := by
  obtain ⟨W1, hW1⟩ : ∃ W1, w.alloc (Obj.cells #[c0, c1, c2, c3, c4, c5, c6] 33) = W1 := ⟨_, rfl⟩
  have ba : Below w.heap.size w W1 := by rw [← hW1]; exact below_alloc _ _
  have hB0 : W1.heap[w.heap.size]? = some (Obj.cells #[c0, c1, c2, c3, c4, c5, c6] 33) := by rw [← hW1]; exact heap_alloc_new w _
  have HA := Lib.hid hat
  clear hat
  obtain ⟨Z, hZ⟩ : ∃ Z, sumTo (fun j => sz (r j)) 7 = Z := ⟨_, rfl⟩
  have cz : Calls Try.prog 12 #[.agg #[c0, c1, c2, c3, c4, c5, c6], .int .i64 1048576] W1 fun e w' => e = .returned (.int .i64 (left 1048576 Z)) ∧ Below W1.heap.size W1 w' := by
    rw [← hZ]
    exact szSel hsh W1 1048576 c0 c1 c2 c3 c4 c5 c6 (Nat.le_refl _) (At.below ba _ (HA.out 0 _ rfl)) (At.below ba _ (HA.out 1 _ rfl)) (At.below ba _ (HA.out 2 _ rfl)) (At.below ba _ (HA.out 3 _ rfl)) (At.below ba _ (HA.out 4 _ rfl)) (At.below ba _ (HA.out 5 _ rfl)) (At.below ba _ (HA.out 6 _ rfl))
  have HZ := Lib.hid hZ
  clear hZ
  have K0 := Lib.hid hB0
  have kl := lt_of hB0
  clear hB0
  obtain ⟨k, hk⟩ := (hsh 0 _ rfl).int
  obtain ⟨ta, hta⟩ := (hsh 1 _ rfl).str
  obtain ⟨tn, htn⟩ := (hsh 2 _ rfl).str
  obtain ⟨tq, htq⟩ := (hsh 3 _ rfl).str
  have frm : ∀ (x : World) (d0 d1 d2 d3 : Value), At x (r 0) d0 → At x (r 1) d1 → At x (r 2) d2 → At x (r 3) d3 → d0 = .int .i64 k ∧ d1 = .string ta ∧ d2 = .string tn ∧ d3 = .string tq := by
    intro x d0 d1 d2 d3 h0 h1 h2 h3
    rw [hk] at h0
    rw [hta] at h1
    rw [htn] at h2
    rw [htq] at h3
    exact ⟨h0, h1.1, h2.1, h3.1⟩
  have FRM := Lib.hid frm
  clear frm hk hta htn htq
  obtain ⟨p0, p1, p2, p3, p4, p5, p6⟩ := keep7 (Below.refl _ _) K0.out
  go_enter Try.func4, Try.ntmps4
  go_wp2_with fail
  clear hW1 p0 p1 p2 p3 p4 p5 p6
  refine cz.mono ?_
  rintro e w1 ⟨rfl, hb1⟩
  clear cz
  by_cases hv : Z ≤ 1048576
  case neg =>
    rw [left_neg hv]
    go_wp2
    go_ret
    exact ⟨rfl, below_trans ba hb1⟩
  rw [left_pos hv]
  have hL0 : ¬ ((1048576 - Z : Nat) : Int) < 0 := by omega
  have cT : ∀ x, Below w.heap.size w x → Calls Try.prog 14 #[.agg #[c0, c1, c2, c3, c4, c5, c6]] x fun e w' => ∃ d0 d1 d2 d3 d4 d5 d6, e = .returned (.agg #[d0, d1, d2, d3, d4, d5, d6]) ∧ (∀ j v, [d0, d1, d2, d3, d4, d5, d6][j]? = some v → At w' (r j) v) ∧ Below x.heap.size x w' :=
    fun x hx => (toSel hsh x c0 c1 c2 c3 c4 c5 c6 (by rw [HZ.out]; exact hv) (At.below hx _ (HA.out 0 _ rfl)) (At.below hx _ (HA.out 1 _ rfl)) (At.below hx _ (HA.out 2 _ rfl)) (At.below hx _ (HA.out 3 _ rfl)) (At.below hx _ (HA.out 4 _ rfl)) (At.below hx _ (HA.out 5 _ rfl)) (At.below hx _ (HA.out 6 _ rfl))).mono fun e w' ⟨d0, d1, d2, d3, d4, d5, d6, he, ho, hb⟩ => ⟨d0, d1, d2, d3, d4, d5, d6, he, ho.at, hb⟩
  have CT := Lib.hid cT
  clear cT
  obtain ⟨p0, p1, p2, p3, p4, p5, p6⟩ := keep7 hb1 K0.out
  have bb1 := below_trans ba hb1
  go_wp2_with fail
  refine (CT.out w1 bb1).mono ?_
  rintro e w2 ⟨d0, d1, d2, d3, d4, d5, d6, rfl, hat2, hb2⟩
  clear p0 p1 p2 p3 p4 p5 p6
  obtain ⟨rfl, rfl, rfl, rfl⟩ := FRM.out w2 d0 d1 d2 d3 (hat2 0 _ rfl) (hat2 1 _ rfl) (hat2 2 _ rfl) (hat2 3 _ rfl)
  clear hat2
  go_wp2_with fail
  refine (keyS k ta tn tq d4 d5 d6 w2).mono ?_
  rintro e w3 ⟨rfl, hb3⟩
  have hb13 := below_trans hb1 (below_trans hb2 hb3)
  have bb3 := below_trans ba hb13
  obtain ⟨p0, p1, p2, p3, p4, p5, p6⟩ := keep7 hb13 K0.out
  go_wp2_with fail
  refine (CT.out w3 bb3).mono ?_
  rintro e w4 ⟨d0, d1, d2, d3, d4, d5, d6, rfl, hat4, hb4⟩
  clear p0 p1 p2 p3 p4 p5 p6
  have HX := Lib.hid hat4
  obtain ⟨A4, n4, q4, rfl⟩ := At.lst (hat4 4 _ rfl) (hsh 4 _ rfl)
  obtain ⟨A5, n5, q5, rfl⟩ := At.lst (hat4 5 _ rfl) (hsh 5 _ rfl)
  obtain ⟨A6, n6, q6, rfl⟩ := At.lst (hat4 6 _ rfl) (hsh 6 _ rfl)
  obtain ⟨rfl, rfl, rfl, rfl⟩ := FRM.out w4 d0 d1 d2 d3 (hat4 0 _ rfl) (hat4 1 _ rfl) (hat4 2 _ rfl) (hat4 3 _ rfl)
  clear hat4
  have bb4 := below_trans bb3 hb4
  have hb14 := below_trans hb13 hb4
  have aa4 := below_alloc w4 (Obj.cells #[.int .i64 k, .string ta, .string tn, .string tq, .slice A4 n4 q4, .slice A5 n5 q5, .slice A6 n6 q6] 39)
  have X4 := Lib.hid (heap_alloc_new w4 (Obj.cells #[.int .i64 k, .string ta, .string tn, .string tq, .slice A4 n4 q4, .slice A5 n5 q5, .slice A6 n6 q6] 39))
  go_wp2_with fail
  refine (keyI k ta tn tq _ _ _ _).mono ?_
  rintro e w5 ⟨rfl, hb5⟩
  obtain ⟨kt, hkt⟩ : ∃ kt, keyT k ta tn = kt := ⟨_, rfl⟩
  rw [hkt]
  clear hkt
  have h45 := below_trans aa4 hb5
  have bb5 := below_trans bb4 h45
  have hb15 := below_trans hb14 h45
  have X5 := Lib.hid ((hb5.block _ (lt_of X4.out)).trans X4.out)
  clear X4 hb5 aa4
  obtain ⟨p0, p1, p2, p3, p4, p5, p6⟩ := keep7 hb15 K0.out
  obtain ⟨q0, q1, q2, q3, q4', q5', q6'⟩ := keep7 (Below.refl _ w5) X5.out
  have HX5 := Lib.hid (show ∀ j v, [Value.int .i64 k, .string ta, .string tn, .string tq, .slice A4 n4 q4, .slice A5 n5 q5, .slice A6 n6 q6][j]? = some v → At w5 (r j) v from fun j v hv => At.below h45 _ (HX.out j v hv))
  clear HX
  go_wp2
  go_region_with (first
    | (go_at_call 16; refine (eqSel hsh _ _ _ _ _ _ _ _ _ _ _ _ _ _ _ (At.below hx2 _ (HX5.out 0 _ rfl)) (At.below hx2 _ (HX5.out 1 _ rfl)) (At.below hx2 _ (HX5.out 2 _ rfl)) (At.below hx2 _ (HX5.out 3 _ rfl)) (At.below hx2 _ (HX5.out 4 _ rfl)) (At.below hx2 _ (HX5.out 5 _ rfl)) (At.below hx2 _ (HX5.out 6 _ rfl)) (hx0 0 _ rfl) (hx0 1 _ rfl) (hx0 2 _ rfl) (hx0 3 _ rfl) (hx0 4 _ rfl) (hx0 5 _ rfl) (hx0 6 _ rfl)).mono ?_; rintro e x3 ⟨rfl, hx3⟩)
    | (go_at_call_of 14 c0; refine (CT.out _ bb5.drew).mono ?_; rintro e x1 ⟨i0, i1, i2, i3, i4, i5, i6, rfl, hx0, hx1⟩; have hx2 := below_trans (below_drew _) hx1; obtain ⟨m0, m1, m2, m3, m4, m5, m6⟩ := keep7 hx2 X5.out))
  all_goals go_wp2
  all_goals go_ret
  all_goals exact ⟨rfl, below_trans bb5 (below_trans hx2 hx3)⟩
end Da
end Go.Proofs.Ytaefcpmpbjngeaa
