/- What is proved: what the program's walk over all selections gives its rounds: each of them, in order; it stores into a row of its own between two rounds. -/
import Derived.Test.YtfnieelghfkbdaaDaGa
import Derived.Test.YtfnieelghfkbdaaDaPs
import Derived.RangeFuncBound
import Derived.RangeFuncCalls
import Derived.Shelf.Abstract
import Derived.TacticsInMore
import Derived.LoopNIn
import Derived.LoopIn
import Derived.Sort.LoopGhostIn
namespace Go.Proofs.Ytfnieelghfkbdaa
namespace Da
set_option linter.unusedVariables false
open Go.RowKit Go.Shelf

attribute [local go_sem] Oper.semAt_some

/-- What the k-th round is handed. -/
def EnS (we : World) (d : D) (k : Nat) (args : Array Value) : Prop :=
  ∃ c0 c1 c2 c3 c4 c5 c6 r, args = #[.agg #[c0, c1, c2, c3, c4, c5, c6]] ∧ (allRows d)[k]? = some r ∧ ∀ j v, [c0, c1, c2, c3, c4, c5, c6][j]? = some v → At we (r j) v

theorem infoSels : (Try.prog.info? 24).map (fun i => (i.zero, i.size, i.bytes)) = some (some (.slice none 0 0), 1, 24) := by kernel_rfl
set_option maxRecDepth 100000 in
set_option maxHeartbeats 4000000 in
theorem eachSel1 (F : Fence) (n : Nat) (hF : F.fn 33) (hro : F.round = none) (hn : 2 ≤ n) (we w : World) (d : D) (hsh : Sh d (.lst .sel)) (hsz : (allRows d).length ≤ 1048576) (c : Value) (hd : AtC we d c)
    (hbw : Below we.heap.size we w) (x : Nat) (hx : w.cell? ⟨x, 0, none⟩ = some c) : Gives F n we.heap.size Try.prog 33 #[.pointer (some ⟨x, 0, none⟩)] (EnS we d) (allRows d).length w := by
  intro l J W hW hJ hY h0
  have h1 : 1 ≤ n := by omega
  have hbW : Below we.heap.size we W := below_trans hbw hW
  have hxW : W.cell? ⟨x, 0, none⟩ = some c := (hW.cell (World.block_lt_of_cell? w _ hx)).trans hx
  have hJ0 : J 0 (.slice (some ⟨W.heap.size, 0, none⟩) 1 1) (W.alloc (.cells #[c] 24)) :=
    hJ _ _ _ _ none _ h0 (World.grownBy_alloc _ _ none) (fun r e => by cases e) (fun r h => by rw [isBlk_eq h]; exact ⟨.inr (Nat.le_refl _), by simp⟩)
  have hst : Hid (Stk we [d] [c]) := ⟨[], c, rfl, hd, hsh, rfl⟩
  have HSZ := Lib.hid hsz
  have HJ := Lib.hid hJ
  have HY := Lib.hid hY
  have HJ0 := Lib.hid hJ0
  have HBW := Lib.hid hbW
  obtain ⟨A, n', cap', rfl⟩ := At.lst (AtC.at _ hd) hsh
  clear hd hx hW hbw h0 hJ hY hJ0 hsz hbW
  refine callsIn_of_wp Try.func33 rfl hF ?_ hro
  simp only [Try.ntmps33, List.size_toArray, List.length_cons, List.length_nil, Nat.reduceAdd, Nat.reduceSub, Array.replicate_succ, Array.replicate_zero, List.push_toArray, List.append_toArray, List.nil_append, List.cons_append]
  gi_wp2
  gi_loopg [3] (weight [d]) (fun m wq wr => ∃ (k : Nat) (S : List D) (xs : List Value) (pre : List (Nat → D)) (g cp : Nat), m = weight S ∧ wq = .slice (some ⟨g, 0, none⟩) S.length cp ∧
      wr.ownsRow W.heap.size 24 1 wq S.length xs ∧ Stk we S xs ∧ pre ++ pend S = allRows d ∧ pre.length = k ∧ S.length ≤ k + 1 ∧ J k wq wr ∧ Below we.heap.size we wr ∧ W.heap.size ≤ wr.heap.size)
  case atStart =>
    refine ⟨0, [d], _, [], _, _, rfl, rfl, ?_, hst.out, by simp [pend], rfl, Nat.le_refl _, HJ0.out, HBW.out.alloc HBW.out.size _, by simp⟩
    exact World.ownsRow_lit (base := W.heap.size) (e := 24) (size := 1) W _ 1 (Nat.le_refl _) (by decide) rfl
  case round =>
    clear hst hxW
    obtain ⟨k, S, xs, pre, g, cp, hm, rfl, hrow, hst, hpre, hk, hSk, hJk, hbel, hWr⟩ := hrel
    have hcap : S.length ≤ cp ∧ cp ≤ maxLen := by
      rcases hrow.2 with ⟨h, -⟩ | ⟨g', cap', cur, hv, hB, hg, h1, h2, h3, h4⟩
      · cases h
      · simp only [Value.slice.injEq, Option.some.injEq, Addr.mk.injEq, true_and, and_true] at hv
        omega
    unfold maxLen at hcap
    cases S with
    | nil =>
      simp only [pend, List.append_nil] at hpre
      subst hpre
      subst hk
      have HH := Lib.hid hJk
      clear hJk
      gi_wp2
      go_end0
      exact ⟨⟨_, rfl⟩, _, HH.out⟩
    | cons dd S =>
      obtain ⟨ys, ct, rfl, hat, hshd, hstk⟩ := hst
      obtain ⟨m', it, e, hs⟩ := hshd.lst
      cases e
      have hyl := hstk.length
      have hcut := own_cut (xs := ys) (ys := [ct]) hrow (by rw [hyl, Nat.mul_one])
      rw [List.length_cons] at hrow hcap hSk
      obtain ⟨n1, hn1⟩ : ∃ n1, S.length = n1 := ⟨_, rfl⟩
      rw [hn1] at hrow hcap hcut hyl hSk
      rw [List.length_cons, hn1] at hJk
      rw [List.length_cons, hn1]
      have HN1 := Lib.hid hn1
      clear hn1
      have e0 : wr.cell? ⟨g, n1, none⟩ = some ct := by
        have := hrow.cellAt n1 (by omega)
        rw [this, List.getElem?_append_right (by omega), hyl, Nat.sub_self]; rfl
      have i1 : ((n1 + 1 : Nat) : Int) - 1 = (n1 : Int) := by omega
      have i2 : (0 : Int) ≤ (n1 : Int) := by omega
      have i3 : (n1 : Int) < ((n1 + 1 : Nat) : Int) := by omega
      have i5 : (n1 : Int) < (n1 : Int) + 1 := by omega
      have i4 : ((n1 + 1 : Nat) : Int) > 0 := by omega
      have j1 : (n1 : Int) ≤ (cp : Int) := by omega
      obtain ⟨A', cp', rfl, hnc, hcm, -⟩ := id hat
      have HAT := Lib.hid hat
      have HR := Lib.hid hrow
      have HC := Lib.hid hcut
      have HS := Lib.hid hs
      have HST := Lib.hid hstk
      have HJK := Lib.hid hJk
      have HP := Lib.hid hpre
      have HK := Lib.hid hk
      have HM := Lib.hid hm
      clear hat hrow hcut hs hstk hJk hpre hk hm hshd
      cases m' with
      | zero =>
        gi_wp2
        gi_roundg (weight S)
        case measure => rw [HM.out]; simp only [weight, allRows_zero, List.length_nil]; omega
        case rel =>
          have := HN1.out
          refine ⟨k, S, ys, pre, g, cp, rfl, by rw [this], ?_, HST.out, ?_, HK.out, by omega, ?_, hbel, hWr⟩
          · rw [this]; exact HC.out
          · rw [← HP.out]; simp [pend, allRows_zero]
          · exact HJ.out _ _ _ _ none _ HJK.out ⟨rfl, rfl, rfl, Nat.le_refl _, fun _ _ _ => rfl⟩ (fun r e => by cases e) (fun r h => by rw [isBlk_eq h]; exact ⟨.inl (isBlk_of _ _ _), (own_blk HR.out).2.1⟩)
      | succ m' =>
        obtain ⟨A2, cp2, e2, -, -, hfa⟩ := id HAT.out
        simp only [Value.slice.injEq] at e2
        obtain ⟨e3, -, e4⟩ := e2
        subst e3 e4
        obtain ⟨b, o, e5, hfb⟩ := hfa 0 (by omega)
        clear hfa
        subst e5
        have hf : ∀ j, j < 7 → ∃ d, we.cell? ⟨b, o + 0 * 7 + j, none⟩ = some d ∧ AtC we (it 0 j) d := hfb
        clear hfb
        obtain ⟨c0, c1, c2, c3, c4, c5, c6, ⟨f0, a0⟩, ⟨f1, a1⟩, ⟨f2, a2⟩, ⟨f3, a3⟩, ⟨f4, a4⟩, ⟨f5, a5⟩, ⟨f6, a6⟩⟩ := seven hf
        clear hf
        rw [Nat.zero_mul, Nat.add_zero] at f0 f1 f2 f3 f4 f5 f6
        have HT := Lib.hid HAT.out.tail
        have A6 := Lib.hid a6
        have hc7 : ∀ j v, [c0, c1, c2, c3, c4, c5, c6][j]? = some v → At we (it 0 j) v := at_row7 (AtC.at _ a0) (AtC.at _ a1) (AtC.at _ a2) (AtC.at _ a3) (AtC.at _ a4) (AtC.at _ a5) (AtC.at _ a6)
        have hkk : (allRows d)[k]? = some (it 0) := by
          have := HK.out
          rw [← HP.out, pend, allRows_cons, List.getElem?_append_right (by omega), this, Nat.sub_self]; rfl
        have hkN : k < (allRows d).length := (List.getElem?_eq_some_iff.1 hkk).1
        have hEn : EnS we d k #[.agg #[c0, c1, c2, c3, c4, c5, c6]] := ⟨c0, c1, c2, c3, c4, c5, c6, it 0, rfl, hkk, hc7⟩
        clear hc7 hkk
        obtain ⟨fn, tmps, assign, body, hy, hR⟩ := HY.out k _ _ wr HJK.out hEn
        clear hEn
        obtain ⟨xk0, rfl⟩ := At.int (AtC.at _ a0) (HS.out 0 (by omega) 0 _ rfl)
        obtain ⟨xk1, rfl⟩ := At.str (AtC.at _ a1) (HS.out 0 (by omega) 1 _ rfl)
        obtain ⟨xk2, rfl⟩ := At.str (AtC.at _ a2) (HS.out 0 (by omega) 2 _ rfl)
        obtain ⟨xk3, rfl⟩ := At.str (AtC.at _ a3) (HS.out 0 (by omega) 3 _ rfl)
        obtain ⟨xA4, xn4, xp4, rfl⟩ := At.lst (AtC.at _ a4) (HS.out 0 (by omega) 4 _ rfl)
        obtain ⟨xA5, xn5, xp5, rfl⟩ := At.lst (AtC.at _ a5) (HS.out 0 (by omega) 5 _ rfl)
        obtain ⟨xA6, xn6, xp6, rfl⟩ := At.lst (AtC.at _ a6) (HS.out 0 (by omega) 6 _ rfl)
        clear a0 a1 a2 a3 a4 a5 a6
        have hbB : b < we.heap.size := World.block_lt_of_cell? we _ f0
        obtain ⟨hgW, hgl, cur, hgc⟩ := own_blk HR.out
        have hWw := HBW.out.size
        have hbg : b ≠ g := by omega
        have f0 := (hbel.cell (p := ⟨b, o, none⟩) hbB).trans f0
        have f1 := (hbel.cell (p := ⟨b, o + 1, none⟩) hbB).trans f1
        have f2 := (hbel.cell (p := ⟨b, o + 2, none⟩) hbB).trans f2
        have f3 := (hbel.cell (p := ⟨b, o + 3, none⟩) hbB).trans f3
        have f4 := (hbel.cell (p := ⟨b, o + 4, none⟩) hbB).trans f4
        have f5 := (hbel.cell (p := ⟨b, o + 5, none⟩) hbB).trans f5
        have f6 := (hbel.cell (p := ⟨b, o + 6, none⟩) hbB).trans f6
        have F6 := Lib.hid f6
        have HG := Lib.hid hgc
        clear hgc
        have t1 : (((m' + 1 : Nat) : Int) == 0) = false := by simp; omega
        have h2 : 1 ≤ n - 1 := by omega
        gi_wp2_with fail
        clear hy f0 f1 f2 f3 f4 f5 f6 e0
        refine hR.mono ?_
        rintro e W3 ⟨rfl, hJ3, hk3, hb3⟩
        clear hR
        have HJ3 := Lib.hid hJ3
        have hbl : W3.heap[g]? = wr.heap[g]? := hk3 g (isBlk_of _ _ _)
        have HR3 := Lib.hid (own_same HR.out hbl)
        have hg3 := hbl.trans HG.out
        have e0 : W3.cell? ⟨g, n1, none⟩ = some (.slice (some ⟨b, o, none⟩) (m' + 1) cp') := by
          have := HR3.out.cellAt n1 (by simp)
          rw [this, List.getElem?_append_right (by omega), hyl, Nat.sub_self]; rfl
        have z0 : W3.frozen? ⟨g, n1, none⟩ = false := frozen_no hg3 _
        have r6 : ∀ u, (W3.setCell ⟨g, n1, none⟩ u).cell? ⟨b, o + 6, none⟩ = some (.slice xA6 xn6 xp6) := fun u =>
          (World.cell?_setCell_other W3 ⟨g, n1, none⟩ ⟨b, o + 6, none⟩ u (by simp)).trans ((hb3.cell (p := ⟨b, o + 6, none⟩) hbB).trans F6.out)
        have HB3 := Lib.hid (hbel.trans hb3)
        have hW3 := hb3.size
        clear hJ3 hk3 hbl hg3 hb3
        have HR4 : Hid (∀ u, (W3.setCell ⟨g, n1, none⟩ u).ownsRow W.heap.size 24 1 (.slice (some ⟨g, 0, none⟩) (n1 + 1) cp) (n1 + 1) (ys ++ [u])) := fun u => own_setLast HR3.out hyl u
        have HJ4 : Hid (∀ u, J (k + 1) (.slice (some ⟨g, 0, none⟩) (n1 + 1) cp) (W3.setCell ⟨g, n1, none⟩ u)) := fun u =>
          HJ.out _ _ _ _ (some g) _ HJ3.out ⟨rfl, rfl, rfl, by simp [World.setCell], fun r _ hr => Below.heap_setCell _ _ _ _ (fun e => hr (by rw [e]))⟩ (fun r e => by cases e; exact isBlk_of _ _ _) (fun r h => ⟨.inl h, by rw [isBlk_eq h]; have := (own_blk HR3.out).2.1; simpa [World.setCell] using this⟩)
        have HNA : Hid (∀ u, ((W3.setCell ⟨g, n1, none⟩ u).alloc (.cells #[.slice xA6 xn6 xp6] 24)).heap[W3.heap.size]? = some (.cells #[.slice xA6 xn6 xp6] 24 (0, 0))) := fun u => by
          have := heap_alloc_new (W3.setCell ⟨g, n1, none⟩ u) (.cells #[.slice xA6 xn6 xp6] 24)
          simpa [World.setCell] using this
        obtain ⟨i0, hi, hzz⟩ := Option.map_eq_some_iff.1 infoSels
        simp only [Prod.mk.injEq] at hzz
        obtain ⟨hz0, hz1, hz2⟩ := hzz
        have nb1 : n1 + 1 + 1 ≤ 1048578 := by have := HSZ.out; omega
        have nc1 : ∀ u ∈ [Value.slice xA6 xn6 xp6], u.oneCell' = true := by intro u hu; simp at hu; subst hu; rfl
        have fin : Hid (∀ (tl : Value) (g2 cp2 : Nat) (w5 : World), AtC we (.list 7 m' fun i => it (i + 1)) tl →
            w5.ownsRow W.heap.size 24 1 (.slice (some ⟨g2, 0, none⟩) (n1 + 1 + 1) cp2) (n1 + 1 + 1) (ys ++ [tl] ++ [.slice xA6 xn6 xp6]) →
            ((W3.setCell ⟨g, n1, none⟩ tl).alloc (.cells #[.slice xA6 xn6 xp6] 24)).grownBy w5 (some g) → (some g = some g2 ∨ g2 = W3.heap.size + 1) →
            ∃ (k : Nat) (S' : List D) (xs : List Value) (pre : List (Nat → D)) (g' cp' : Nat), weight (it 0 6 :: .list 7 m' (fun i => it (i + 1)) :: S) = weight S' ∧ Value.slice (some ⟨g2, 0, none⟩) (n1 + 1 + 1) cp2 = .slice (some ⟨g', 0, none⟩) S'.length cp' ∧
              w5.ownsRow W.heap.size 24 1 (.slice (some ⟨g2, 0, none⟩) (n1 + 1 + 1) cp2) S'.length xs ∧ Stk we S' xs ∧ pre ++ pend S' = allRows d ∧ pre.length = k ∧ S'.length ≤ k + 1 ∧ J k (.slice (some ⟨g2, 0, none⟩) (n1 + 1 + 1) cp2) w5 ∧ Below we.heap.size we w5 ∧ W.heap.size ≤ w5.heap.size) := by
          intro tl g2 cp2 w5 htl hown hgr hor
          have hS := HN1.out
          have hk := HK.out
          have hz5 := hgr.size
          simp only [World.size_alloc, World.setCell, Array.size_modify] at hz5
          refine ⟨k + 1, it 0 6 :: .list 7 m' (fun i => it (i + 1)) :: S, ys ++ [tl] ++ [.slice xA6 xn6 xp6], pre ++ [it 0], g2, cp2, rfl, by simp [hS], ?_, ⟨ys ++ [tl], _, rfl, A6.out, HS.out 0 (by omega) 6 _ rfl, ys, tl, rfl, htl, ?_, HST.out⟩, ?_, by simp [hk], by simp only [List.length_cons]; omega, ?_, ?_, by omega⟩
          · simp only [List.length_cons, hS]; exact hown
          · exact ⟨.sel, rfl, rfl, fun i hi => HS.out (i + 1) (by omega)⟩
          · rw [← HP.out]; simp [pend, allRows_cons]; rfl
          · refine HJ.out _ _ _ _ (some g) _ (HJ.out _ _ _ _ none (.slice (some ⟨g, 0, none⟩) (n1 + 1) cp) (HJ4.out tl) (World.grownBy_alloc _ _ none) (fun r e => by cases e) (fun r h => ⟨.inl h, by rw [isBlk_eq h]; have := (own_blk HR3.out).2.1; simp [World.setCell]; omega⟩)) hgr (fun r e => by cases e; exact isBlk_of _ _ _) (fun r h => ?_)
            rw [isBlk_eq h]
            refine ⟨?_, (own_blk hown).2.1⟩
            rcases hor with h | h
            · cases h; exact .inl (isBlk_of _ _ _)
            · exact .inr (by simp only [World.size_alloc, World.setCell, Array.size_modify]; omega)
          · exact ((HB3.out.setCell (p := ⟨g, n1, none⟩) (by show we.heap.size ≤ g; omega) tl).alloc (by simp only [World.setCell, Array.size_modify]; omega) _).grown hgr (by simp only [World.size_alloc, World.setCell, Array.size_modify]; omega) (fun r e => by cases e; omega)
        gi_wp2_with (gi_at_builtin; refine wpListIn_append_lies _ rfl _ _ 59 rfl W.heap.size 24 i0 (.slice none 0 0) 1 24 Try.underlying59 hi hz0 hz1 hz2 rfl (by decide) _ (n1 + 1) _ rfl ((HR4.out _).alloc _) ⟨W3.heap.size, 0, none⟩ 1 1 [.slice xA6 xn6 xp6] rfl rfl (World.news_of_block (cs := #[.slice xA6 xn6 xp6]) (t := 24) (fr := (0, 0)) (HNA.out _)) nc1 (by decide) (by unfold maxLen; omega) (by omega) (by simp; omega) (W3.heap.size + 1) (by simp) ?_)
        case inl =>
          intro g2 cp2 w5 hown hgr hor hlt
          have hT := HT.out
          have hc : cp' = 1 := by assumption
          rw [if_pos hc, hc] at hT
          have FF := Lib.hid (fin.out _ g2 cp2 w5 hT (by simpa using hown) hgr hor)
          clear hown hgr hor hT
          gi_wp2
          gi_roundg (weight (it 0 6 :: .list 7 m' (fun i => it (i + 1)) :: S))
          case measure =>
            have hM : gk = 1 + 2 * (allRows (.list 7 (m' + 1) it)).length + weight S := HM.out
            rw [hM, allRows_cons]; simp only [weight, List.length_cons, List.length_append]; omega
          case rel => exact FF.out
        case inr =>
          intro g2 cp2 w5 hown hgr hor hlt
          have hT := HT.out
          have hc : ¬ cp' = 1 := by assumption
          rw [if_neg hc] at hT
          have FF := Lib.hid (fin.out _ g2 cp2 w5 hT (by simpa using hown) hgr hor)
          clear hown hgr hor hT
          gi_wp2
          gi_roundg (weight (it 0 6 :: .list 7 m' (fun i => it (i + 1)) :: S))
          case measure =>
            have hM : gk = 1 + 2 * (allRows (.list 7 (m' + 1) it)).length + weight S := HM.out
            rw [hM, allRows_cons]; simp only [weight, List.length_cons, List.length_append]; omega
          case rel => exact FF.out
end Da
end Go.Proofs.Ytfnieelghfkbdaa
