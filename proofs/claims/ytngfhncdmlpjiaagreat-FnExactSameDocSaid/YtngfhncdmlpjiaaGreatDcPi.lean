/- What is proved: the program's test of two lists of what is handed in says whether they are the same. (Made by tools/mkdc.py.) -/
import Derived.Test.YtngfhncdmlpjiaaGreatDcPv
namespace Go.Proofs.YtngfhncdmlpjiaaGreat
namespace Dc
set_option linter.unusedVariables false
set_option linter.unusedSimpArgs false
open Go.RowKit Da
attribute [local go_sem ↓] Go.wp_at_zero Go.wp_at_succ

/-- A row of what is handed in, without its description. -/
def vrow (r : Nat → D) : Nat → D
  | 0 => r 0
  | j + 1 => r (j + 2)
set_option maxHeartbeats 4000000 in
theorem withoutI (w : World) (t0 t1 t2 t3 : ByteArray) (p4 : Bool) (k5 : Int) (t6 : ByteArray) (A7 : Option Addr) (n7 q7 : Nat) (A8 : Option Addr) (n8 q8 : Nat) (A9 : Option Addr) (n9 q9 : Nat) :
    Calls Tryz.prog 98 #[.agg #[.string t0, .string t1, .string t2, .string t3, .bool p4, .int .i64 k5, .string t6, .slice A7 n7 q7, .slice A8 n8 q8, .slice A9 n9 q9]] w fun e w' => e = .returned (.agg #[.string t0, .string t2, .string t3, .bool p4, .int .i64 k5, .string t6, .slice A7 n7 q7, .slice A8 n8 q8, .slice A9 n9 q9]) ∧ Below w.heap.size w w' := by
  go_enter Tryz.func98, Tryz.ntmps98
  go_wp2
  obtain ⟨-, hB1, hB⟩ := twoNew w (Obj.cells #[Value.string t0, Value.string t1, Value.string t2, Value.string t3, Value.bool p4, Value.int .i64 k5, Value.string t6, Value.slice A7 n7 q7, Value.slice A8 n8 q8, Value.slice A9 n9 q9] 102) (Obj.cells #[Value.string t0, Value.string t2, Value.string t3, Value.bool p4, Value.int .i64 k5, Value.string t6, Value.slice A7 n7 q7, Value.slice A8 n8 q8, Value.slice A9 n9 q9] 79)
  refine bodyPost_ret (results_cell_row rfl _ _ (w.heap.size + 1) _ _ _ _ rfl hB1 Tryz.underlying79 rfl (by kernel_rfl)) rfl ?_
  exact ⟨rfl, hB⟩

set_option maxRecDepth 100000 in
set_option maxHeartbeats 4000000 in
theorem inI {r r' : Nat → D} (hs : ∀ j g, (row .indef)[j]? = some g → Sh (r j) g) (hs' : ∀ j g, (row .indef)[j]? = some g → Sh (r' j) g) (hz : sumTo (fun j => sz (r j)) 10 ≤ 1048576) : CmpR 67 10 (smR 10 r r') r r' := by
  intro w cs ds hcl hdl ha hb
  obtain ⟨c0, c1, c2, c3, c4, c5, c6, c7, c8, c9, rfl⟩ := lnB10 hcl
  obtain ⟨d0, d1, d2, d3, d4, d5, d6, d7, d8, d9, rfl⟩ := lnB10 hdl
  have a0 := ha 0 _ rfl
  have b0 := hb 0 _ rfl
  have a1 := ha 1 _ rfl
  have b1 := hb 1 _ rfl
  have a2 := ha 2 _ rfl
  have b2 := hb 2 _ rfl
  have a3 := ha 3 _ rfl
  have b3 := hb 3 _ rfl
  have a4 := ha 4 _ rfl
  have b4 := hb 4 _ rfl
  have a5 := ha 5 _ rfl
  have b5 := hb 5 _ rfl
  have a6 := ha 6 _ rfl
  have b6 := hb 6 _ rfl
  have a7 := ha 7 _ rfl
  have b7 := hb 7 _ rfl
  have a8 := ha 8 _ rfl
  have b8 := hb 8 _ rfl
  have a9 := ha 9 _ rfl
  have b9 := hb 9 _ rfl
  clear hcl hdl
  obtain ⟨t0, e0⟩ := (hs 0 _ rfl).str
  rw [e0] at a0
  obtain ⟨rfl, -⟩ := a0
  obtain ⟨t1, e1⟩ := (hs 1 _ rfl).str
  rw [e1] at a1
  obtain ⟨rfl, -⟩ := a1
  obtain ⟨t2, e2⟩ := (hs 2 _ rfl).str
  rw [e2] at a2
  obtain ⟨rfl, -⟩ := a2
  obtain ⟨t3, e3⟩ := (hs 3 _ rfl).str
  rw [e3] at a3
  obtain ⟨rfl, -⟩ := a3
  obtain ⟨p4, e4⟩ := (hs 4 _ rfl).bool
  rw [e4] at a4
  obtain rfl : c4 = Value.bool p4 := a4
  obtain ⟨k5, e5⟩ := (hs 5 _ rfl).int
  rw [e5] at a5
  obtain rfl : c5 = Value.int .i64 k5 := a5
  obtain ⟨t6, e6⟩ := (hs 6 _ rfl).str
  rw [e6] at a6
  obtain ⟨rfl, -⟩ := a6
  obtain ⟨A7, n7, q7, rfl⟩ := atLst a7 (hs 7 _ rfl)
  obtain ⟨A8, n8, q8, rfl⟩ := atLst a8 (hs 8 _ rfl)
  obtain ⟨A9, n9, q9, rfl⟩ := atLst a9 (hs 9 _ rfl)
  obtain ⟨t0', e0'⟩ := (hs' 0 _ rfl).str
  rw [e0'] at b0
  obtain ⟨rfl, -⟩ := b0
  obtain ⟨t1', e1'⟩ := (hs' 1 _ rfl).str
  rw [e1'] at b1
  obtain ⟨rfl, -⟩ := b1
  obtain ⟨t2', e2'⟩ := (hs' 2 _ rfl).str
  rw [e2'] at b2
  obtain ⟨rfl, -⟩ := b2
  obtain ⟨t3', e3'⟩ := (hs' 3 _ rfl).str
  rw [e3'] at b3
  obtain ⟨rfl, -⟩ := b3
  obtain ⟨p4', e4'⟩ := (hs' 4 _ rfl).bool
  rw [e4'] at b4
  obtain rfl : d4 = Value.bool p4' := b4
  obtain ⟨k5', e5'⟩ := (hs' 5 _ rfl).int
  rw [e5'] at b5
  obtain rfl : d5 = Value.int .i64 k5' := b5
  obtain ⟨t6', e6'⟩ := (hs' 6 _ rfl).str
  rw [e6'] at b6
  obtain ⟨rfl, -⟩ := b6
  obtain ⟨A7', n7', q7', rfl⟩ := atLst b7 (hs' 7 _ rfl)
  obtain ⟨A8', n8', q8', rfl⟩ := atLst b8 (hs' 8 _ rfl)
  obtain ⟨A9', n9', q9', rfl⟩ := atLst b9 (hs' 9 _ rfl)
  have hrow : smR 10 r r' = ((t1.toList == t1'.toList) && smR 9 (vrow r) (vrow r')) := by
    simp only [smR, allB, vrow, e1, e1', sm_str, Bool.true_and, Bool.and_assoc]
    generalize (t1.toList == t1'.toList) = y
    cases y <;> simp
  have hv := varI (r := vrow r) (r' := vrow r') (shl_cons (hs 0 _ rfl) (shl_cons (hs 2 _ rfl) (shl_cons (hs 3 _ rfl) (shl_cons (hs 4 _ rfl) (shl_cons (hs 5 _ rfl) (shl_cons (hs 6 _ rfl) (shl_cons (hs 7 _ rfl) (shl_cons (hs 8 _ rfl) (shl_cons (hs 9 _ rfl) (shl_nil)))))))))) (shl_cons (hs' 0 _ rfl) (shl_cons (hs' 2 _ rfl) (shl_cons (hs' 3 _ rfl) (shl_cons (hs' 4 _ rfl) (shl_cons (hs' 5 _ rfl) (shl_cons (hs' 6 _ rfl) (shl_cons (hs' 7 _ rfl) (shl_cons (hs' 8 _ rfl) (shl_cons (hs' 9 _ rfl) (shl_nil)))))))))) (by simp only [sumTo] at hz; show (((((((((0 + sz (r 0)) + sz (r 2)) + sz (r 3)) + sz (r 4)) + sz (r 5)) + sz (r 6)) + sz (r 7)) + sz (r 8)) + sz (r 9)) ≤ 1048576; omega)
  have hra : ∀ j v, [Value.string t0, Value.string t2, Value.string t3, Value.bool p4, Value.int .i64 k5, Value.string t6, Value.slice A7 n7 q7, Value.slice A8 n8 q8, Value.slice A9 n9 q9][j]? = some v → At w (vrow r j) v := (atl_cons (ha 0 _ rfl) (atl_cons (ha 2 _ rfl) (atl_cons (ha 3 _ rfl) (atl_cons (ha 4 _ rfl) (atl_cons (ha 5 _ rfl) (atl_cons (ha 6 _ rfl) (atl_cons (ha 7 _ rfl) (atl_cons (ha 8 _ rfl) (atl_cons (ha 9 _ rfl) (atl_nil))))))))))
  have hrb : ∀ j v, [Value.string t0', Value.string t2', Value.string t3', Value.bool p4', Value.int .i64 k5', Value.string t6', Value.slice A7' n7' q7', Value.slice A8' n8' q8', Value.slice A9' n9' q9'][j]? = some v → At w (vrow r' j) v := (atl_cons (hb 0 _ rfl) (atl_cons (hb 2 _ rfl) (atl_cons (hb 3 _ rfl) (atl_cons (hb 4 _ rfl) (atl_cons (hb 5 _ rfl) (atl_cons (hb 6 _ rfl) (atl_cons (hb 7 _ rfl) (atl_cons (hb 8 _ rfl) (atl_cons (hb 9 _ rfl) (atl_nil))))))))))
  obtain ⟨x, hx⟩ : ∃ x, smR 9 (vrow r) (vrow r') = x := ⟨_, rfl⟩
  rw [hx] at hrow hv
  rw [hrow]
  have HV := Lib.hid hv
  have HA := Lib.hid hra
  have HB := Lib.hid hrb
  clear hv hra hrb hrow hx hz hs hs' ha hb e0 e0' e1 e1' e2 e2' e3 e3' e4 e4' e5 e5' e6 e6'
  have HN := Lib.hid (twoNew w (Obj.cells #[Value.string t0, Value.string t1, Value.string t2, Value.string t3, Value.bool p4, Value.int .i64 k5, Value.string t6, Value.slice A7 n7 q7, Value.slice A8 n8 q8, Value.slice A9 n9 q9] 102) (Obj.cells #[Value.string t0', Value.string t1', Value.string t2', Value.string t3', Value.bool p4', Value.int .i64 k5', Value.string t6', Value.slice A7' n7' q7', Value.slice A8' n8' q8', Value.slice A9' n9' q9'] 102))
  by_cases h1 : t1 = t1'
  case neg =>
    have hx := str_ne h1
    rw [hx, Bool.false_and]
    go_enter Tryz.func67, Tryz.ntmps67
    go_wp2
    obtain ⟨W1, hW1⟩ : ∃ W1, ((w.alloc (Obj.cells #[Value.string t0, Value.string t1, Value.string t2, Value.string t3, Value.bool p4, Value.int .i64 k5, Value.string t6, Value.slice A7 n7 q7, Value.slice A8 n8 q8, Value.slice A9 n9 q9] 102)).alloc (Obj.cells #[Value.string t0', Value.string t1', Value.string t2', Value.string t3', Value.bool p4', Value.int .i64 k5', Value.string t6', Value.slice A7' n7' q7', Value.slice A8' n8' q8', Value.slice A9' n9' q9'] 102)) = W1 := ⟨_, rfl⟩
    rw [hW1] at HN
    rw [hW1]
    clear hW1
    have P1 := fun X : Gr W1 => X.cell (show W1.cell? ⟨w.heap.size, 1, none⟩ = some (Value.string t1) by rw [cellOf HN.out.1]; rfl)
    have Q1 := fun X : Gr W1 => X.cell (show W1.cell? ⟨w.heap.size + 1, 1, none⟩ = some (Value.string t1') by rw [cellOf HN.out.2.1]; rfl)
    refine wp_region_gr (by kernel_rfl) (by kernel_rfl) ?_
    repeat (go_big_quiet_step (fail))
    refine wpQuiet_nil ?_
    intro X
    go_wp2
    go_ret
    exact ⟨rfl, below_trans HN.out.2.2 X.below⟩
  subst h1
  rw [str_eq rfl, Bool.true_and]
  go_enter Tryz.func67, Tryz.ntmps67
  go_wp2
  obtain ⟨W1, hW1⟩ : ∃ W1, ((w.alloc (Obj.cells #[Value.string t0, Value.string t1, Value.string t2, Value.string t3, Value.bool p4, Value.int .i64 k5, Value.string t6, Value.slice A7 n7 q7, Value.slice A8 n8 q8, Value.slice A9 n9 q9] 102)).alloc (Obj.cells #[Value.string t0', Value.string t1, Value.string t2', Value.string t3', Value.bool p4', Value.int .i64 k5', Value.string t6', Value.slice A7' n7' q7', Value.slice A8' n8' q8', Value.slice A9' n9' q9'] 102)) = W1 := ⟨_, rfl⟩
  rw [hW1] at HN
  rw [hW1]
  clear hW1
  have P0 := fun X : Gr W1 => X.cell (show W1.cell? ⟨w.heap.size, 0, none⟩ = some (Value.string t0) by rw [cellOf HN.out.1]; rfl)
  have Q0 := fun X : Gr W1 => X.cell (show W1.cell? ⟨w.heap.size + 1, 0, none⟩ = some (Value.string t0') by rw [cellOf HN.out.2.1]; rfl)
  have P1 := fun X : Gr W1 => X.cell (show W1.cell? ⟨w.heap.size, 1, none⟩ = some (Value.string t1) by rw [cellOf HN.out.1]; rfl)
  have Q1 := fun X : Gr W1 => X.cell (show W1.cell? ⟨w.heap.size + 1, 1, none⟩ = some (Value.string t1) by rw [cellOf HN.out.2.1]; rfl)
  have P2 := fun X : Gr W1 => X.cell (show W1.cell? ⟨w.heap.size, 2, none⟩ = some (Value.string t2) by rw [cellOf HN.out.1]; rfl)
  have Q2 := fun X : Gr W1 => X.cell (show W1.cell? ⟨w.heap.size + 1, 2, none⟩ = some (Value.string t2') by rw [cellOf HN.out.2.1]; rfl)
  have P3 := fun X : Gr W1 => X.cell (show W1.cell? ⟨w.heap.size, 3, none⟩ = some (Value.string t3) by rw [cellOf HN.out.1]; rfl)
  have Q3 := fun X : Gr W1 => X.cell (show W1.cell? ⟨w.heap.size + 1, 3, none⟩ = some (Value.string t3') by rw [cellOf HN.out.2.1]; rfl)
  have P4 := fun X : Gr W1 => X.cell (show W1.cell? ⟨w.heap.size, 4, none⟩ = some (Value.bool p4) by rw [cellOf HN.out.1]; rfl)
  have Q4 := fun X : Gr W1 => X.cell (show W1.cell? ⟨w.heap.size + 1, 4, none⟩ = some (Value.bool p4') by rw [cellOf HN.out.2.1]; rfl)
  have P5 := fun X : Gr W1 => X.cell (show W1.cell? ⟨w.heap.size, 5, none⟩ = some (Value.int .i64 k5) by rw [cellOf HN.out.1]; rfl)
  have Q5 := fun X : Gr W1 => X.cell (show W1.cell? ⟨w.heap.size + 1, 5, none⟩ = some (Value.int .i64 k5') by rw [cellOf HN.out.2.1]; rfl)
  have P6 := fun X : Gr W1 => X.cell (show W1.cell? ⟨w.heap.size, 6, none⟩ = some (Value.string t6) by rw [cellOf HN.out.1]; rfl)
  have Q6 := fun X : Gr W1 => X.cell (show W1.cell? ⟨w.heap.size + 1, 6, none⟩ = some (Value.string t6') by rw [cellOf HN.out.2.1]; rfl)
  have P7 := fun X : Gr W1 => X.cell (show W1.cell? ⟨w.heap.size, 7, none⟩ = some (Value.slice A7 n7 q7) by rw [cellOf HN.out.1]; rfl)
  have Q7 := fun X : Gr W1 => X.cell (show W1.cell? ⟨w.heap.size + 1, 7, none⟩ = some (Value.slice A7' n7' q7') by rw [cellOf HN.out.2.1]; rfl)
  have P8 := fun X : Gr W1 => X.cell (show W1.cell? ⟨w.heap.size, 8, none⟩ = some (Value.slice A8 n8 q8) by rw [cellOf HN.out.1]; rfl)
  have Q8 := fun X : Gr W1 => X.cell (show W1.cell? ⟨w.heap.size + 1, 8, none⟩ = some (Value.slice A8' n8' q8') by rw [cellOf HN.out.2.1]; rfl)
  have P9 := fun X : Gr W1 => X.cell (show W1.cell? ⟨w.heap.size, 9, none⟩ = some (Value.slice A9 n9 q9) by rw [cellOf HN.out.1]; rfl)
  have Q9 := fun X : Gr W1 => X.cell (show W1.cell? ⟨w.heap.size + 1, 9, none⟩ = some (Value.slice A9' n9' q9') by rw [cellOf HN.out.2.1]; rfl)
  have HW1 := Lib.hid (fun X : Gr W1 => gr_call (X := X) (withoutI X.W t0 t1 t2 t3 p4 k5 t6 A7 n7 q7 A8 n8 q8 A9 n9 q9))
  have HW2 := Lib.hid (fun X : Gr W1 => gr_call (X := X) (withoutI X.W t0' t1 t2' t3' p4' k5' t6' A7' n7' q7' A8' n8' q8' A9' n9' q9'))
  have HC := Lib.hid (fun X : Gr W1 => gr_call (X := X) (HV.out X.W [Value.string t0, Value.string t2, Value.string t3, Value.bool p4, Value.int .i64 k5, Value.string t6, Value.slice A7 n7 q7, Value.slice A8 n8 q8, Value.slice A9 n9 q9] [Value.string t0', Value.string t2', Value.string t3', Value.bool p4', Value.int .i64 k5', Value.string t6', Value.slice A7' n7' q7', Value.slice A8' n8' q8', Value.slice A9' n9' q9'] rfl rfl (atl_below (below_trans HN.out.2.2 X.below) HA.out) (atl_below (below_trans HN.out.2.2 X.below) HB.out)))
  refine wp_region_gr (by kernel_rfl) (by kernel_rfl) ?_
  repeat (go_big_quiet_step (first | (go_at_call_of 98 t0; exact HW1.out _) | (go_at_call_of 98 t0'; exact HW2.out _) | (go_at_call 34; exact HC.out _)))
  refine wpQuiet_nil ?_
  intro X
  go_wp2
  go_ret
  exact ⟨rfl, below_trans HN.out.2.2 X.below⟩

theorem enterI : ∀ args w, (callFunc 67 args).run Tryz.prog w = .ok (.enter 67 args) w := enters_of Tryz.func67 (by kernel_rfl) rfl
theorem sizeI : (Tryz.prog.info? 102).map (·.size) = some 10 := by kernel_rfl
set_option maxRecDepth 100000 in
set_option maxHeartbeats 4000000 in
theorem eqfI (n n' : Nat) (it it' : Nat → Nat → D) (R : Nat → Bool) (hit : ∀ i, i < n → i < n' → CmpR 67 10 (R i) (it i) (it' i)) (w : World) (c d : Value) (h : At w (.list 10 n it) c) (h' : At w (.list 10 n' it') d) :
    Calls Tryz.prog 66 #[c, d, .func (.func 67) #[] #[]] w fun e w' => e = .returned (.bool (n == n' && allB R n)) ∧ Below w.heap.size w w' := by
  have HI := Lib.hid h
  have HI' := Lib.hid h'
  obtain ⟨A, cap, rfl, hm⟩ := h.slice
  obtain ⟨A', cap', rfl, hm'⟩ := h'.slice
  clear h h'
  unfold maxLen at hm hm'
  obtain ⟨S, hS⟩ : ∃ S, (n == n' && allB R n) = S := ⟨_, rfl⟩
  rw [hS]
  have HS := Lib.hid hS
  clear hS
  have HIT := Lib.hid hit
  clear hit
  have eg := enterI
  by_cases hnn : n = n'
  case neg =>
    have hq := int_ne hnn
    obtain rfl : S = false := by rw [← HS.out, nat_ne hnn]; simp
    go_enter Tryz.func66, Tryz.ntmps66
    go_wp2
    go_ret
    exact ⟨rfl, Below.refl _ _⟩
  subst hnn
  go_enter Tryz.func66, Tryz.ntmps66
  go_wp2
  go_loopw [17] (fun i wr => ∃ k : Nat, k ≤ n ∧ i = .int .i64 k ∧ Below w.heap.size w wr ∧ ∀ j, j < k → R j = true) (fun i _ => n - (intOf i).toNat)
  case atStart => exact ⟨0, Nat.zero_le _, rfl, Below.refl _ _, fun j hj => absurd hj (Nat.not_lt_zero _)⟩
  case round =>
    obtain ⟨p, hp, rfl, hbel, hsame⟩ := hrel
    have HSi := Lib.hid hsame
    clear hsame
    by_cases hlt : p < n
    case neg =>
      obtain rfl : p = n := by omega
      obtain rfl : S = true := by rw [← HS.out, allB_yes HSi.out]; simp
      go_wp2
      go_ret
      exact ⟨rfl, hbel⟩
    have hk0 : (0 : Int) ≤ (p : Int) := by omega
    have hk1 : (p : Int) < (n : Int) := by omega
    obtain ⟨b, o, e2, hf⟩ := (At.below hbel _ HI.out).nth hlt
    subst e2
    obtain ⟨b', o', e2, hf'⟩ := (At.below hbel _ HI'.out).nth hlt
    subst e2
    obtain ⟨cs, hcl, hcs⟩ := row_of hf
    obtain ⟨ds, hdl, hds⟩ := row_of hf'
    clear hf hf'
    have HC := Lib.hid (fun j v (hv : cs[j]? = some v) => (hcs j v hv).1)
    have HD := Lib.hid (fun (ob : Obj) j v (hv : ds[j]? = some v) => ((below_alloc wr ob).cell (World.block_lt_of_cell? wr _ (hds j v hv).1)).trans (hds j v hv).1)
    have HO1 := Lib.hid (all_one (fun j v hv => (hcs j v hv).2))
    have HO2 := Lib.hid (all_one (fun j v hv => (hds j v hv).2))
    have HZ1 := Lib.hid (show (Tryz.prog.info? 102).map (·.size) = some cs.length by rw [hcl]; exact sizeI)
    have HZ2 := Lib.hid (show (Tryz.prog.info? 102).map (·.size) = some ds.length by rw [hdl]; exact sizeI)
    have HL1 := Lib.hid (show 10 = cs.toArray.size by simp [hcl])
    have HL2 := Lib.hid (show 10 = ds.toArray.size by simp [hdl])
    obtain ⟨x, hx⟩ : ∃ x, R p = x := ⟨_, rfl⟩
    have hcl2 := fun (X : World) (hX : Below wr.heap.size wr X) => HIT.out p hlt hlt X cs ds hcl hdl (atl_below hX fun j v hv => (hcs j v hv).2) (atl_below hX fun j v hv => (hds j v hv).2)
    rw [hx] at hcl2
    have HCL := Lib.hid hcl2
    clear hcl2 hcs hds hcl hdl
    have HX := Lib.hid hx
    clear hx
    go_wp2_with (first | refine wpList_load_cells rfl 102 _ rfl b (o + p * 10) rfl cs _ HC.out Tryz.underlying102 rfl HZ1.out ?_ | refine wpList_load_cells rfl 102 _ rfl b' (o' + p * 10) rfl ds _ (HD.out _) Tryz.underlying102 rfl HZ2.out ?_ | refine wpList_store_new rfl 102 _ _ rfl _ rfl cs.toArray _ rfl rfl HZ1.out HL1.out HO1.out ?_ | refine wpList_store_new rfl 102 _ _ rfl _ (sizeNew wr _) ds.toArray _ rfl rfl HZ2.out HL2.out HO2.out ?_ | refine wpList_load_row rfl 102 _ rfl wr.heap.size rfl 102 cs.toArray _ _ (twoNew wr _ _).1 Tryz.underlying102 rfl HZ1.out ?_ | refine wpList_load_row rfl 102 _ rfl (wr.heap.size + 1) rfl 102 ds.toArray _ _ (twoNew wr _ _).2.1 Tryz.underlying102 rfl HZ2.out ?_)
    refine (HCL.out _ (twoNew wr _ _).2.2).mono ?_
    rintro e w1 ⟨rfl, hb1⟩
    have hb2 := below_trans (twoNew wr _ _).2.2 hb1
    cases x with
    | false =>
      obtain rfl : S = false := by rw [← HS.out, allB_no hlt HX.out]; simp
      go_wp2
      go_ret
      exact ⟨rfl, below_trans hbel hb2⟩
    | true =>
      have HY := Lib.hid (yes_step HSi.out HX.out)
      go_wp2
      go_roundw
      case rel => exact ⟨p + 1, by omega, by go_num, below_trans hbel hb2, HY.out⟩
      case measure => simp [intOf]; omega

theorem eqFI {d d' : D} (h : Sh d (.lst .indef)) (h' : Sh d' (.lst .indef)) (hz : sz d ≤ 1048576) : CmpF 66 67 d d' := by
  obtain ⟨n, it, rfl, hs⟩ := h.lst
  obtain ⟨n', it', rfl, hs'⟩ := h'.lst
  intro w c c' hc hc'
  have e := eqfI n n' it it' (fun i => smR 10 (it i) (it' i)) (fun i hi hi' => inI (hs i hi) (hs' i hi') (by have := sz_row (W := 10) (it := it) hi; have hz : sz (.list 10 n it) ≤ 1048576 := hz; omega)) w c c' hc hc'
  rw [← sm_list 10 10 n n' it it'] at e
  exact e

end Dc
end Go.Proofs.YtngfhncdmlpjiaaGreat
