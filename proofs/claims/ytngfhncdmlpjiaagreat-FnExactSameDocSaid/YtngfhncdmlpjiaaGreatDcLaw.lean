/- What is proved: documents off an argument, counted, copied and held against themselves by the laws; the law of SameDoc, walked: the program's answer is the model's, and nothing that was handed in has turned. -/
import Derived.Test.YtngfhncdmlpjiaaGreatDbAq
import Derived.Test.YtngfhncdmlpjiaaGreatDbZq
import Derived.Test.YtngfhncdmlpjiaaGreatDbTn
import Derived.Test.YtngfhncdmlpjiaaGreatDcEq
import Derived.Test.YtngfhncdmlpjiaaGreatDcMz
import Derived.Test.YtngfhncdmlpjiaaGreatDcPz
namespace Go.Proofs.YtngfhncdmlpjiaaGreat
namespace Da
set_option linter.unusedVariables false
set_option linter.unusedSimpArgs false
open Go.RowKit Go.Deep Go.WideShapes
attribute [local go_sem ↓] Go.wp_at_zero Go.wp_at_succ

section
variable {H : Type} {enc : TypeId × Value → H} {w : World} {spare : Nat → Bool} {held : Bool}
theorem undDoc_ : ∃ f0, Tryz.prog.underlying 24 = some (.struct #[f0]) ∧ f0.type = 22 ∧ f0.offset = 0 := ⟨_, Tryz.underlying24, rfl, rfl⟩
theorem doc_of {fuel : Nat} {cs : List Value} {x : DataW H × List MemPlace} (h : DataW.trod enc Tryz.prog w 0 spare held fuel 24 cs = some x) : ∃ c d, cs = [c] ∧ Sh d (.lst .item) ∧ At w d c := by
  obtain ⟨f0, hs, t0, o0⟩ := undDoc_
  obtain ⟨xs, n, rfl, -, hlen, hxs, hf⟩ := DataW.trod_struct hs h
  have hxs : xs.length = 1 := hxs
  rw [show Tryz.prog.cellsOf 24 = 1 from by kernel_rfl] at hlen
  obtain ⟨c0, rfl⟩ := Dc.lnB1 hlen
  have g0 := hf 0 f0 rfl
  rw [t0, o0, show Tryz.prog.cellsOf 22 = 1 from by kernel_rfl, List.getElem?_eq_getElem (show 0 < xs.length by omega)] at g0
  simp only [List.drop_zero, List.take_succ_cons, List.take_zero] at g0
  obtain ⟨d, s, a⟩ := items_of g0
  exact ⟨c0, d, rfl, s, a⟩
end

set_option maxHeartbeats 4000000 in
theorem szDocC {d : D} (h : Sh d (.lst .item)) (w : World) (l : Nat) (c : Value) (hl : l ≤ 1048576) (a : At w d c) :
    Calls Tryz.prog 4 #[.agg #[c], .int .i64 l] w fun e w' => e = .returned (.int .i64 (left l (sz d))) ∧ Below w.heap.size w w' := by
  have HA := Lib.hid a
  obtain ⟨xA, xn, xp, rfl⟩ := At.lst a h
  clear a
  by_cases hz : sz d ≤ l
  · obtain ⟨Z, hZ⟩ : ∃ Z : Nat, (l : Int) - (sz d : Int) = (Z : Int) := ⟨l - sz d, by omega⟩
    have cz := szItems h (w.alloc (Obj.cells #[Value.slice xA xn xp] 24)) l _ hl (At.below (below_alloc w _) _ HA.out)
    rw [show left l (sz d) = (Z : Int) from by rw [left, if_pos hz, hZ]] at cz ⊢
    have hz0 : ¬ (Z : Int) < 0 := by omega
    clear hZ
    go_enter Tryz.func4, Tryz.ntmps4
    go_wp2_with fail
    refine cz.mono ?_
    rintro e w1 ⟨rfl, hb1⟩
    have hb2 := below_trans (below_alloc w _) hb1
    go_wp2
    go_ret
    exact ⟨rfl, hb2⟩
  · have cz := szItems h (w.alloc (Obj.cells #[Value.slice xA xn xp] 24)) l _ hl (At.below (below_alloc w _) _ HA.out)
    rw [left_neg hz] at cz ⊢
    go_enter Tryz.func4, Tryz.ntmps4
    go_wp2_with fail
    refine cz.mono ?_
    rintro e w1 ⟨rfl, hb1⟩
    have hb2 := below_trans (below_alloc w _) hb1
    go_wp2
    go_ret
    exact ⟨rfl, hb2⟩

theorem sizeDoc : (Tryz.prog.info? 29).map (·.size) = some 1 := by kernel_rfl
set_option maxHeartbeats 4000000 in
theorem toDocC {d : D} (h : Sh d (.lst .item)) (w : World) (c : Value) (hs : sz d ≤ 1048576) (a : At w d c) :
    Calls Tryz.prog 6 #[.agg #[c]] w fun e w' => ∃ A n p, e = .returned (.agg #[.slice A n p]) ∧ At w' d (.slice A n p) ∧ Below w.heap.size w w' := by
  have HA := Lib.hid a
  obtain ⟨xA, xn, xp, rfl⟩ := At.lst a h
  clear a
  go_enter Tryz.func6, Tryz.ntmps6
  go_wp2_with fail
  obtain ⟨W0, hW0⟩ : ∃ W0, (((w.alloc (Obj.cells #[Value.slice xA xn xp] 24)).alloc (Obj.cells #[Value.slice none 0 0] 29)).alloc (Obj.cells #[Value.slice none 0 0] 29)) = W0 := ⟨_, rfl⟩
  have ba : Below w.heap.size w W0 := by rw [← hW0]; exact ((below_alloc _ _).alloc (by simp) _).alloc (by simp; omega) _
  have hz : W0.heap.size = w.heap.size + 3 := by rw [← hW0]; simp
  have hB1 : W0.heap[w.heap.size + 1]? = some (Obj.cells #[Value.slice none 0 0] 29) := by
    rw [← hW0, Below.heap_alloc _ _ _ (by simp)]
    have := heap_alloc_new (w.alloc (Obj.cells #[Value.slice xA xn xp] 24)) (Obj.cells #[Value.slice none 0 0] 29)
    simpa using this
  have hB2 : W0.heap[w.heap.size + 1 + 1]? = some (Obj.cells #[Value.slice none 0 0] 29) := by
    rw [← hW0]
    have := heap_alloc_new ((w.alloc (Obj.cells #[Value.slice xA xn xp] 24)).alloc (Obj.cells #[Value.slice none 0 0] 29)) (Obj.cells #[Value.slice none 0 0] 29)
    simpa using this
  rw [hW0]
  clear hW0
  refine (toItems h W0 _ hs (At.below ba _ HA.out)).mono ?_
  rintro e w2 ⟨v, rfl, own2, hb2⟩
  obtain ⟨yA2, yn2, yp2, rfl⟩ := At.lst (Own.at _ own2) h
  have hB1 := (hb2.block _ (lt_of hB1)).trans hB1
  have hB2 := (hb2.block _ (lt_of hB2)).trans hB2
  have bb2 := below_trans ba hb2
  have s2 := hb2.size
  rw [hz] at own2 s2
  clear hb2
  have q2 : w2.cell? ⟨w.heap.size + 1 + 1, 0, none⟩ = some (Value.slice none 0 0) := by rw [cell_of hB2]; rfl
  have r2 : w2.frozen? ⟨w.heap.size + 1 + 1, 0, none⟩ = false := frozen_no hB2 _
  have HL2 : Hid (((w2.setCell ⟨w.heap.size + 1 + 1, 0, none⟩ (Value.slice yA2 yn2 yp2))).heap[w.heap.size + 1 + 1]? = some (Obj.cells #[Value.slice yA2 yn2 yp2] 29)) := by
    have e : setRow #[Value.slice none 0 0] 0 [Value.slice yA2 yn2 yp2] = #[Value.slice yA2 yn2 yp2] := by simp [setRow]
    have h := stores_heap [Value.slice yA2 yn2 yp2] w2 0 _ hB2
    rw [e] at h
    exact h
  have HL1 : Hid (((w2.setCell ⟨w.heap.size + 1 + 1, 0, none⟩ (Value.slice yA2 yn2 yp2))).heap[w.heap.size + 1]? = some (Obj.cells #[Value.slice none 0 0] 29)) := (stores_other (by omega) [Value.slice yA2 yn2 yp2] w2 0).trans hB1
  have HA1' : Hid ((#[Value.slice yA2 yn2 yp2] : Array Value).all (·.oneCell') = true) := by simp [Hid, Value.oneCell']
  clear hB1 hB2
  go_wp2_with (first | (refine wpList_load_row rfl 29 _ rfl (w.heap.size + 1 + 1) rfl 29 #[Value.slice yA2 yn2 yp2] (0, 0) _ HL2.out Tryz.underlying29 rfl sizeDoc ?_) | (refine wpList_store_row rfl 29 _ _ rfl (w.heap.size + 1) #[Value.slice yA2 yn2 yp2] rfl rfl 29 #[Value.slice none 0 0] HL1.out sizeDoc rfl HA1'.out ?_))
  obtain ⟨W9, hW9⟩ : ∃ W9, (w2.setCell ⟨w.heap.size + 1 + 1, 0, none⟩ (Value.slice yA2 yn2 yp2)).setRow (w.heap.size + 1) #[Value.slice yA2 yn2 yp2] = W9 := ⟨_, rfl⟩
  have hW9' : (stores w2 (w.heap.size + 1 + 1) 0 [Value.slice yA2 yn2 yp2]).setRow (w.heap.size + 1) #[Value.slice yA2 yn2 yp2] = W9 := hW9
  rw [hW9]
  clear hW9
  have hg9 : W9.heap[w.heap.size + 1]? = some (Obj.cells #[Value.slice yA2 yn2 yp2] 29) := by
    rw [← hW9']
    exact heap_setRow_same HL1.out
  have hk9 : ∀ b, w.heap.size + 2 < b → W9.heap[b]? = w2.heap[b]? := fun b hb => by rw [← hW9', heap_setRow_other (by omega), stores_other (by omega)]
  have bb9 : Below w.heap.size w W9 := by rw [← hW9']; exact below_setRow (stores_below (by omega) _ _ _ bb2) (by omega)
  clear hW9'
  (try simp only [Exit.inBlock, Exit.then])
  refine bodyPost_ret (results_cell_row rfl _ W9 (w.heap.size + 1) _ _ _ _ rfl hg9 Tryz.underlying29 rfl (by kernel_rfl)) rfl ?_
  exact ⟨_, _, _, rfl, Own.at _ (Own.same (w' := W9) _ own2 fun b hb => hk9 b (by have := hb.1; omega)), bb9⟩

set_option maxHeartbeats 4000000 in
theorem eqDocC {d : D} (h : Sh d (.lst .item)) (w : World) (c c' : Value) (a : At w d c) (b : At w d c') :
    Calls Tryz.prog 8 #[.agg #[c], .agg #[c']] w fun e w' => e = .returned (.bool true) ∧ Below w.heap.size w w' := by
  have HA := Lib.hid a
  have HB := Lib.hid b
  obtain ⟨xA, xn, xp, rfl⟩ := At.lst a h
  obtain ⟨yA, yn, yp, rfl⟩ := At.lst b h
  clear a b
  have HN := Lib.hid (Dc.twoNew w (Obj.cells #[Value.slice xA xn xp] 29) (Obj.cells #[Value.slice yA yn yp] 29)).2.2
  go_enter Tryz.func8, Tryz.ntmps8
  go_wp2_with fail
  refine (Dc.eqItems h _ _ _ (At.below HN.out _ HA.out) (At.below HN.out _ HB.out)).mono ?_
  rintro e w1 ⟨rfl, hb1⟩
  have hb2 := below_trans HN.out hb1
  go_wp2
  go_ret
  exact ⟨rfl, hb2⟩

set_option maxRecDepth 100000 in
set_option maxHeartbeats 8000000 in
theorem walkFnExactSameDoc (v u : D) (hv0 : Sh v (.lst .item)) (hu0 : Sh u (.lst .item)) (w : World) (c d : Value) (h : At w v c) (h' : At w u d) :
    Calls Tryz.prog 3 #[.agg #[c], .agg #[d]] w fun e w' => e = .returned (.bool true) ∧ Below w.heap.size w w' := by
  have HA := Lib.hid h
  have HA' := Lib.hid h'
  obtain ⟨xA, xn, xp, rfl⟩ := At.lst h hv0
  obtain ⟨yA, yn, yp, rfl⟩ := At.lst h' hu0
  clear h h'
  have HS : Hid (∀ (x : World) (A : Option Addr) (n p : Nat) (B : Option Addr) (m q : Nat), At x v (.slice A n p) → At x u (.slice B m q) → Calls Tryz.prog 5 #[.agg #[.slice A n p], .agg #[.slice B m q]] x fun e w' => e = .returned (.bool (Dc.smR 1 (fun _ => v) fun _ => u)) ∧ Below x.heap.size x w') := fun x A n p B m q a b =>
    Dc.docS (r := fun _ => v) (r' := fun _ => u) (Dc.shl_cons hv0 Dc.shl_nil) (Dc.shl_cons hu0 Dc.shl_nil) x [.slice A n p] [.slice B m q] rfl rfl (Dc.atl_cons a Dc.atl_nil) (Dc.atl_cons b Dc.atl_nil)
  obtain ⟨R, hR⟩ : ∃ R, Dc.smR 1 (fun _ => v) (fun _ => u) = R := ⟨_, rfl⟩
  rw [hR] at HS
  go_enter Tryz.func3, Tryz.ntmps3
  go_wp2_with fail
  obtain ⟨W1, hW1⟩ : ∃ W1, ((w.alloc (Obj.cells #[Value.slice xA xn xp] 24)).alloc (Obj.cells #[Value.slice yA yn yp] 24)) = W1 := ⟨_, rfl⟩
  have HN := Dc.twoNew w (Obj.cells #[Value.slice xA xn xp] 24) (Obj.cells #[Value.slice yA yn yp] 24)
  rw [hW1] at HN
  rw [hW1]
  clear hW1
  obtain ⟨hB0, hB1, ba⟩ := HN
  have PX : Hid (∀ W, Below W1.heap.size W1 W → W.cell? ⟨w.heap.size, 0, none⟩ = some (Value.slice xA xn xp) ∧ W.cell? ⟨w.heap.size + 1, 0, none⟩ = some (Value.slice yA yn yp)) := fun W hW =>
    ⟨by rw [hW.cell (by simp only; exact lt_of hB0), cell_of hB0]; rfl, by rw [hW.cell (by simp only; exact lt_of hB1), cell_of hB1]; rfl⟩
  clear hB0 hB1
  refine (szDocC hv0 W1 1048576 _ (Nat.le_refl _) (At.below ba v HA.out)).mono ?_
  rintro e w1 ⟨rfl, hb1⟩
  by_cases hv : sz v ≤ 1048576
  case neg =>
    rw [left_neg hv]
    go_wp2
    go_ret
    exact ⟨rfl, below_trans ba hb1⟩
  rw [left_pos hv]
  obtain ⟨L, hL⟩ : ∃ L : Nat, 1048576 - sz v = L := ⟨_, rfl⟩
  rw [hL]
  have hLl : L ≤ 1048576 := by omega
  have hL0 : ¬ ((L : Nat) : Int) < 0 := by omega
  have HL := Lib.hid hL
  clear hL
  have bb1 := below_trans ba hb1
  obtain ⟨p0, q0⟩ := PX.out _ hb1
  go_wp2_with fail
  refine (szDocC hu0 w1 L _ hLl (At.below bb1 u HA'.out)).mono ?_
  rintro e w2 ⟨rfl, hb2⟩
  clear p0 q0
  by_cases hu : sz u ≤ L
  case neg =>
    rw [left_neg hu]
    go_wp2
    go_ret
    exact ⟨rfl, below_trans bb1 hb2⟩
  rw [left_pos hu]
  obtain ⟨Z, hZ⟩ : ∃ Z : Nat, L - sz u = Z := ⟨_, rfl⟩
  rw [hZ]
  have hu2 : sz u ≤ 1048576 := by omega
  have hZ0 : ¬ ((Z : Nat) : Int) < 0 := by omega
  clear hZ
  have hb12 := below_trans hb1 hb2
  have bb2 := below_trans bb1 hb2
  have HI : Hid (∀ (x : World) (A : Option Addr) (n p : Nat) (B : Option Addr) (m q : Nat), At x v (.slice A n p) → At x u (.slice B m q) → Calls Tryz.prog 7 #[.agg #[.slice A n p], .agg #[.slice B m q]] x fun e w' => e = .returned (.bool R) ∧ Below x.heap.size x w') := fun x A n p B m q a b => by
    rw [← hR]
    exact Dc.docI (r := fun _ => v) (r' := fun _ => u) (Dc.shl_cons hv0 Dc.shl_nil) (Dc.shl_cons hu0 Dc.shl_nil) (by show 0 + sz v ≤ 1048576; omega) x [.slice A n p] [.slice B m q] rfl rfl (Dc.atl_cons a Dc.atl_nil) (Dc.atl_cons b Dc.atl_nil)
  clear hR
  have cT : ∀ x, Below w.heap.size w x → Calls Tryz.prog 6 #[.agg #[.slice xA xn xp]] x fun e w' => ∃ A n p, e = .returned (.agg #[.slice A n p]) ∧ At w' v (.slice A n p) ∧ Below x.heap.size x w' := fun x hx => toDocC hv0 x _ hv (At.below hx v HA.out)
  have cU : ∀ x, Below w.heap.size w x → Calls Tryz.prog 6 #[.agg #[.slice yA yn yp]] x fun e w' => ∃ A n p, e = .returned (.agg #[.slice A n p]) ∧ At w' u (.slice A n p) ∧ Below x.heap.size x w' := fun x hx => toDocC hu0 x _ hu2 (At.below hx u HA'.out)
  have CT := Lib.hid cT
  have CU := Lib.hid cU
  clear cT cU
  obtain ⟨p0, q0⟩ := PX.out _ hb12
  go_upto_region 8 with fail
  go_cut [6] (fun r wc => r = .bool R ∧ Below w2.heap.size w2 wc)
  case first =>
    go_region_with (first
      | (go_at_call 5; refine (HS.out _ _ _ _ _ _ _ (At.below hy1 v hx0) hy0).mono ?_; rintro e x3 ⟨rfl, hx3⟩)
      | (go_at_call_of 6 xA; refine (CT.out _ bb2.drew).mono ?_; rintro e x1 ⟨i0, i1, i2, rfl, hx0, hx1⟩; have hx2 := below_trans bb2.drew hx1; obtain ⟨m0, m1⟩ := PX.out _ (below_trans hb12 (below_trans (below_drew _) hx1)))
      | (go_at_call_of 6 yA; refine (CU.out _ hx2).mono ?_; rintro e y1 ⟨j0, j1, j2, rfl, hy0, hy1⟩))
    all_goals go_wp2
    all_goals go_meet
    all_goals exact ⟨rfl, below_trans (below_drew _) (below_trans hx1 (below_trans hy1 hx3))⟩
  case rest =>
    obtain ⟨hr0, hb3⟩ := hcut
    subst hr0
    clear p0 q0
    have hb13 := below_trans hb12 hb3
    have bb3 := below_trans bb2 hb3
    obtain ⟨p0, q0⟩ := PX.out _ hb13
    go_wp2_with fail
    refine (CT.out wc bb3).mono ?_
    rintro e w4 ⟨s0, s1, s2, rfl, hat1, hb4⟩
    clear p0 q0
    have hb14 := below_trans hb13 hb4
    have bb4 := below_trans bb3 hb4
    have aa4 := below_alloc w4 (Obj.cells #[Value.slice s0 s1 s2] 29)
    have q0 := fun ob : Obj => (PX.out _ (below_trans hb14 (below_alloc w4 ob))).2
    go_wp2_with fail
    refine (CU.out _ (below_trans bb4 aa4)).mono ?_
    rintro e w5 ⟨t0, t1, t2, rfl, hat2, hb5⟩
    clear q0
    have hat1' := At.below (below_trans aa4 hb5) v hat1
    have bb5 := below_trans (below_trans bb4 aa4) hb5
    have hb15 := below_trans hb14 (below_trans aa4 hb5)
    have X0 := Lib.hid ((hb5.block _ (by simp)).trans (heap_alloc_new w4 (Obj.cells #[Value.slice s0 s1 s2] 29)))
    have q0 : ∀ ob : Obj, (w5.alloc ob).cell? ⟨w4.heap.size, 0, none⟩ = some (Value.slice s0 s1 s2) := fun ob => by rw [(below_alloc w5 ob).cell (by simp only; exact lt_of X0.out), cell_of X0.out]; rfl
    have cI := fun o : Obj => HI.out (w5.alloc o) _ _ _ _ _ _ (At.below (below_alloc w5 o) v hat1') (At.below (below_alloc w5 o) u hat2)
    have CI := Lib.hid cI
    clear hat1 aa4 cI
    go_wp2_with fail
    refine (CI.out _).mono ?_
    rintro e w6 ⟨rfl, hb6⟩
    clear q0
    have aa5 := below_alloc w5 (Obj.cells #[Value.slice t0 t1 t2] 29)
    have X1 := Lib.hid ((hb6.block _ (by simp)).trans (heap_alloc_new w5 (Obj.cells #[Value.slice t0 t1 t2] 29)))
    have h56 := below_trans aa5 hb6
    have X0' := Lib.hid ((h56.block _ (lt_of X0.out)).trans X0.out)
    have bb6 := below_trans bb5 h56
    have hat1 := At.below h56 v hat1'
    have hat2' := At.below h56 u hat2
    have hb16 := below_trans hb15 h56
    clear X0 hat1' hat2
    have rb : (R != R) = false := by simp
    obtain ⟨p0, -⟩ := PX.out _ hb16
    have q0 : w6.cell? ⟨w4.heap.size, 0, none⟩ = some (Value.slice s0 s1 s2) := by rw [cell_of X0'.out]; rfl
    go_upto_region 14 with fail
    go_cut [39] (fun r wc => r = .bool false ∧ Below w6.heap.size w6 wc)
    case first =>
      go_region_with (first
        | (go_at_call 8; refine (eqDocC hv0 _ _ _ (At.below hx2 v hat1) hx0).mono ?_; rintro e x3 ⟨rfl, hx3⟩)
        | (go_at_call_of 6 xA; refine (CT.out _ bb6.drew).mono ?_; rintro e x1 ⟨i0, i1, i2, rfl, hx0, hx1⟩; have hx2 := below_trans (below_drew _) hx1; have m0 : x1.cell? ⟨w4.heap.size, 0, none⟩ = some (Value.slice s0 s1 s2) := (by rw [hx2.cell (by simp only; exact lt_of X0'.out), cell_of X0'.out]; rfl)))
      all_goals go_wp2
      all_goals go_meet
      all_goals exact ⟨rfl, below_trans hx2 hx3⟩
    case rest =>
      obtain ⟨hr0, hb7⟩ := hcut
      subst hr0
      clear p0 q0
      rename World => w7
      have bb7 := below_trans bb6 hb7
      have hb17 := below_trans hb16 hb7
      have hat2 := At.below hb7 u hat2'
      have X1' := Lib.hid ((hb7.block _ (lt_of X1.out)).trans X1.out)
      obtain ⟨-, p0⟩ := PX.out _ hb17
      have q0 : w7.cell? ⟨w5.heap.size, 0, none⟩ = some (Value.slice t0 t1 t2) := by rw [cell_of X1'.out]; rfl
      go_upto_region 16 with fail
      go_cut [44] (fun r wc => r = .bool false ∧ Below w7.heap.size w7 wc)
      case first =>
        go_region_with (first
          | (go_at_call 8; refine (eqDocC hu0 _ _ _ (At.below hx2 u hat2) hx0).mono ?_; rintro e x3 ⟨rfl, hx3⟩)
          | (go_at_call_of 6 yA; refine (CU.out _ bb7.drew).mono ?_; rintro e x1 ⟨i0, i1, i2, rfl, hx0, hx1⟩; have hx2 := below_trans (below_drew _) hx1; have m0 : x1.cell? ⟨w5.heap.size, 0, none⟩ = some (Value.slice t0 t1 t2) := (by rw [hx2.cell (by simp only; exact lt_of X1'.out), cell_of X1'.out]; rfl)))
        all_goals go_wp2
        all_goals go_meet
        all_goals exact ⟨rfl, below_trans hx2 hx3⟩
      case rest =>
        obtain ⟨hr0, hb8⟩ := hcut
        subst hr0
        go_wp2
        go_ret
        exact ⟨rfl, below_trans bb7 hb8⟩
end Da
end Go.Proofs.YtngfhncdmlpjiaaGreat
