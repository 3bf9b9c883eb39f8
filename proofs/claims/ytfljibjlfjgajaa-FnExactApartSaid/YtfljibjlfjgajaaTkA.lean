/- What is proved: the law of Apart, walked: the program's answer is the model's, whatever the two tokens. -/
import Derived.Test.YtfljibjlfjgajaaTkB
import Derived.Test.YtfljibjlfjgajaaDbZk
import Derived.Test.YtfljibjlfjgajaaDbTk
namespace Go.Proofs.Ytfljibjlfjgajaa
namespace Da
set_option linter.unusedVariables false
set_option linter.unusedSimpArgs false
open Go.RowKit Dc
attribute [local go_sem ↓] Go.wp_at_zero Go.wp_at_succ

theorem szTok (k : Int) (t : ByteArray) (p : Int) (w : World) (l : Nat) (hl : l ≤ 1048576) (ht : t.size ≤ maxLen) : Calls Try.prog 5 #[.agg #[.int .i64 k, .string t, .int .i64 p], .int .i64 l] w fun e w' => e = .returned (.int .i64 (left l t.size)) ∧ Below w.heap.size w w' := by
  have h := szToken (r := nthD [.int k, .str t, .int p]) (sh_cons rfl (sh_cons rfl (sh_cons rfl sh_nil))) w l _ _ _ hl (show At w (.int k) (.int .i64 k) from rfl) (show At w (.str t) (.string t) from ⟨rfl, ht⟩) (show At w (.int p) (.int .i64 p) from rfl)
  rw [show sumTo (fun j => sz (nthD [.int k, .str t, .int p] j)) 3 = t.size from by simp [sumTo, nthD, sz]] at h
  exact h
theorem toTok (k : Int) (t : ByteArray) (p : Int) (w : World) (ht : t.size ≤ 1048576) : Calls Try.prog 7 #[.agg #[.int .i64 k, .string t, .int .i64 p]] w fun e w' => e = .returned (.agg #[.int .i64 k, .string t, .int .i64 p]) ∧ Below w.heap.size w w' := by
  have h := toToken (r := nthD [.int k, .str t, .int p]) (sh_cons rfl (sh_cons rfl (sh_cons rfl sh_nil))) w _ _ _ (by simp [sumTo, nthD, sz]; omega) (show At w (.int k) (.int .i64 k) from rfl) (show At w (.str t) (.string t) from ⟨rfl, by unfold maxLen; omega⟩) (show At w (.int p) (.int .i64 p) from rfl)
  refine h.mono ?_
  rintro e w' ⟨d0, d1, d2, rfl, own, hb⟩
  have a0 : At w' (.int k) d0 := own.at 0 _ rfl
  have a1 : At w' (.str t) d1 := own.at 1 _ rfl
  have a2 : At w' (.int p) d2 := own.at 2 _ rfl
  obtain rfl : d0 = .int .i64 k := a0
  obtain ⟨rfl, -⟩ := a1
  obtain rfl : d2 = .int .i64 p := a2
  exact ⟨rfl, hb⟩

set_option maxRecDepth 100000 in
set_option maxHeartbeats 8000000 in
theorem coreApart (k : Int) (t : ByteArray) (p k' : Int) (t' : ByteArray) (p' : Int) (ht : t.size ≤ maxLen) (ht' : t'.size ≤ maxLen) (w : World) :
    Calls Try.prog 3 #[.agg #[.int .i64 k, .string t, .int .i64 p], .agg #[.int .i64 k', .string t', .int .i64 p']] w fun e w' => e = .returned (.bool true) ∧ Below w.heap.size w w' := by
  go_enter Try.func3, Try.ntmps3
  go_wp2_with fail
  obtain ⟨W1, hW1⟩ : ∃ W1, ((w.alloc (Obj.cells #[.int .i64 k, .string t, .int .i64 p] 23)).alloc (Obj.cells #[.int .i64 k', .string t', .int .i64 p'] 23)) = W1 := ⟨_, rfl⟩
  have ba : Below w.heap.size w W1 := by rw [← hW1]; exact (twoNew w _ _).2.2
  have B0 := Lib.hid (show W1.heap[w.heap.size]? = some (Obj.cells #[.int .i64 k, .string t, .int .i64 p] 23) by rw [← hW1]; exact (twoNew w _ _).1)
  have B1 := Lib.hid (show W1.heap[w.heap.size + 1]? = some (Obj.cells #[.int .i64 k', .string t', .int .i64 p'] 23) by rw [← hW1]; exact (twoNew w _ _).2.1)
  rw [hW1]
  clear hW1
  have cz := szTok k t p W1 1048576 (by omega) ht
  by_cases v0 : t.size ≤ 1048576
  case neg =>
    rw [left_neg v0] at cz
    refine cz.mono ?_
    rintro e w1 ⟨rfl, b1⟩
    go_wp2
    go_ret
    exact ⟨rfl, below_trans ba b1⟩
  rw [left_pos v0] at cz
  obtain ⟨L0, l0⟩ : ∃ L, 1048576 - t.size = L := ⟨_, rfl⟩
  rw [l0] at cz
  have hL0 : ¬ ((L0 : Nat) : Int) < 0 := by omega
  have mL0 : L0 ≤ 1048576 := by omega
  clear l0
  refine cz.mono ?_
  rintro e w1 ⟨rfl, hb1⟩
  clear cz
  have bb1 := below_trans ba hb1
  have q0 : w1.cell? ⟨w.heap.size + 1, 0, none⟩ = some (.int .i64 k') := by rw [cell_of ((hb1.block _ (lt_of B1.out)).trans B1.out)]; rfl
  have q1 : w1.cell? ⟨w.heap.size + 1, 1, none⟩ = some (.string t') := by rw [cell_of ((hb1.block _ (lt_of B1.out)).trans B1.out)]; rfl
  have q2 : w1.cell? ⟨w.heap.size + 1, 2, none⟩ = some (.int .i64 p') := by rw [cell_of ((hb1.block _ (lt_of B1.out)).trans B1.out)]; rfl
  go_wp2_with fail
  clear q0 q1 q2
  have cz := szTok k' t' p' w1 L0 mL0 ht'
  by_cases v1 : t'.size ≤ L0
  case neg =>
    rw [left_neg v1] at cz
    refine cz.mono ?_
    rintro e w2 ⟨rfl, b2⟩
    go_wp2
    go_ret
    exact ⟨rfl, below_trans bb1 b2⟩
  rw [left_pos v1] at cz
  obtain ⟨L1, l1⟩ : ∃ L, L0 - t'.size = L := ⟨_, rfl⟩
  rw [l1] at cz
  have hL1 : ¬ ((L1 : Nat) : Int) < 0 := by omega
  have v2 : t'.size ≤ 1048576 := by omega
  clear l1
  refine cz.mono ?_
  rintro e w2 ⟨rfl, hb2⟩
  clear cz
  have bx2 := below_trans hb1 hb2
  have bb2 := below_trans ba bx2
  have C0 := Lib.hid ((bx2.block _ (lt_of B0.out)).trans B0.out)
  have C1 := Lib.hid ((bx2.block _ (lt_of B1.out)).trans B1.out)
  obtain ⟨R, hR⟩ : ∃ R, ap k k' t' = R := ⟨_, rfl⟩
  have cS := fun x => apartS k t p k' t' p' x
  have cI := fun x => apartI k t p k' t' p' x
  rw [hR] at cS cI
  clear hR
  have HT := Lib.hid (fun X : Gr w2 => gr_call (X := X) (toTok k t p X.W v0))
  have HT' := Lib.hid (fun X : Gr w2 => gr_call (X := X) (toTok k' t' p' X.W v2))
  have HS := Lib.hid (fun X : Gr w2 => gr_call (X := X) (cS X.W))
  have F0 := fun X : Gr w2 => X.cell (show w2.cell? ⟨w.heap.size, 0, none⟩ = some (.int .i64 k) by rw [cell_of C0.out]; rfl)
  have F1 := fun X : Gr w2 => X.cell (show w2.cell? ⟨w.heap.size, 1, none⟩ = some (.string t) by rw [cell_of C0.out]; rfl)
  have F2 := fun X : Gr w2 => X.cell (show w2.cell? ⟨w.heap.size, 2, none⟩ = some (.int .i64 p) by rw [cell_of C0.out]; rfl)
  have G0 := fun X : Gr w2 => X.cell (show w2.cell? ⟨w.heap.size + 1, 0, none⟩ = some (.int .i64 k') by rw [cell_of C1.out]; rfl)
  have G1 := fun X : Gr w2 => X.cell (show w2.cell? ⟨w.heap.size + 1, 1, none⟩ = some (.string t') by rw [cell_of C1.out]; rfl)
  have G2 := fun X : Gr w2 => X.cell (show w2.cell? ⟨w.heap.size + 1, 2, none⟩ = some (.int .i64 p') by rw [cell_of C1.out]; rfl)
  go_wp2
  refine wp_region_gr (by kernel_rfl) (by kernel_rfl) ?_
  repeat (go_big_quiet_step (first | (go_at_call 6; exact HS.out _) | (go_at_call_of 7 (Value.string t); exact HT.out _) | (go_at_call_of 7 (Value.string t'); exact HT'.out _)))
  refine wpQuiet_nil ?_
  intro X
  have D0 := Lib.hid ((X.below.block _ (lt_of C0.out)).trans C0.out)
  have D1 := Lib.hid ((X.below.block _ (lt_of C1.out)).trans C1.out)
  have bb3 := below_trans bb2 X.below
  obtain ⟨w3, hw3⟩ : ∃ w3, X.W = w3 := ⟨_, rfl⟩
  rw [hw3] at D0 D1 bb3 ⊢
  clear hw3 F0 F1 F2 G0 G1 G2 HT HT' HS
  have HT := Lib.hid (fun X : Gr w3 => gr_call (X := X) (toTok k t p X.W v0))
  have HT' := Lib.hid (fun X : Gr w3 => gr_call (X := X) (toTok k' t' p' X.W v2))
  have HI := Lib.hid (fun X : Gr w3 => gr_call (X := X) (cI X.W))
  have F0 := fun X : Gr w3 => X.cell (show w3.cell? ⟨w.heap.size, 0, none⟩ = some (.int .i64 k) by rw [cell_of D0.out]; rfl)
  have F1 := fun X : Gr w3 => X.cell (show w3.cell? ⟨w.heap.size, 1, none⟩ = some (.string t) by rw [cell_of D0.out]; rfl)
  have F2 := fun X : Gr w3 => X.cell (show w3.cell? ⟨w.heap.size, 2, none⟩ = some (.int .i64 p) by rw [cell_of D0.out]; rfl)
  have G0 := fun X : Gr w3 => X.cell (show w3.cell? ⟨w.heap.size + 1, 0, none⟩ = some (.int .i64 k') by rw [cell_of D1.out]; rfl)
  have G1 := fun X : Gr w3 => X.cell (show w3.cell? ⟨w.heap.size + 1, 1, none⟩ = some (.string t') by rw [cell_of D1.out]; rfl)
  have G2 := fun X : Gr w3 => X.cell (show w3.cell? ⟨w.heap.size + 1, 2, none⟩ = some (.int .i64 p') by rw [cell_of D1.out]; rfl)
  go_wp2
  refine wp_region_gr (by kernel_rfl) (by kernel_rfl) ?_
  repeat (go_big_quiet_step (first | (go_at_call 8; exact HI.out _) | (go_at_call_of 7 (Value.string t); exact HT.out _) | (go_at_call_of 7 (Value.string t'); exact HT'.out _)))
  refine wpQuiet_nil ?_
  intro Y
  have hr : (R != R) = false := by simp
  go_wp2
  go_ret
  exact ⟨rfl, below_trans bb3 Y.below⟩

theorem walkFnExactApart (r0 : Nat → D) (hsh0 : ∀ j g, (row .token)[j]? = some g → Sh (r0 j) g) (r1 : Nat → D) (hsh1 : ∀ j g, (row .token)[j]? = some g → Sh (r1 j) g) (w : World) (c0 c1 c2 d0 d1 d2 : Value)
    (a0 : At w (r0 0) c0) (a1 : At w (r0 1) c1) (a2 : At w (r0 2) c2) (b0 : At w (r1 0) d0) (b1 : At w (r1 1) d1) (b2 : At w (r1 2) d2) :
    Calls Try.prog 3 #[.agg #[c0, c1, c2], .agg #[d0, d1, d2]] w fun e w' => e = .returned (.bool true) ∧ Below w.heap.size w w' := by
  obtain ⟨k0, e0⟩ := (hsh0 0 _ rfl).int
  obtain ⟨t1, e1⟩ := (hsh0 1 _ rfl).str
  obtain ⟨k2, e2⟩ := (hsh0 2 _ rfl).int
  obtain ⟨k0', e0'⟩ := (hsh1 0 _ rfl).int
  obtain ⟨t1', e1'⟩ := (hsh1 1 _ rfl).str
  obtain ⟨k2', e2'⟩ := (hsh1 2 _ rfl).int
  rw [e0] at a0
  rw [e1] at a1
  rw [e2] at a2
  rw [e0'] at b0
  rw [e1'] at b1
  rw [e2'] at b2
  obtain rfl : c0 = Value.int .i64 k0 := a0
  obtain ⟨rfl, h1⟩ := a1
  obtain rfl : c2 = Value.int .i64 k2 := a2
  obtain rfl : d0 = Value.int .i64 k0' := b0
  obtain ⟨rfl, h1'⟩ := b1
  obtain rfl : d2 = Value.int .i64 k2' := b2
  exact coreApart k0 t1 k2 k0' t1' k2' h1 h1' w
end Da
end Go.Proofs.Ytfljibjlfjgajaa
