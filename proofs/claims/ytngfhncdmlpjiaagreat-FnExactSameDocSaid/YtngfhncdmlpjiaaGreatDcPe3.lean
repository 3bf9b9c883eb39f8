/- What is proved: the program's test of two lists of values in depth says whether they are the same. (Made by tools/mkdc.py.) -/
import Derived.Test.YtngfhncdmlpjiaaGreatDcB
import Derived.Test.YtngfhncdmlpjiaaGreatDcPe1
namespace Go.Proofs.YtngfhncdmlpjiaaGreat
namespace Dc
set_option linter.unusedVariables false
set_option linter.unusedSimpArgs false
open Go.RowKit Da
attribute [local go_sem ↓] Go.wp_at_zero Go.wp_at_succ

theorem withinV (w : World) (c0 c1 c2 c3 : Value) : Calls Tryz.prog 95 #[.agg #[c0, c1, c2, c3]] w fun e w' => e = .returned c2 ∧ w.alloc (Obj.cells #[c0, c1, c2, c3] 77) = w' := by
  go_enter Tryz.func95, Tryz.ntmps95
  go_wp2
  go_ret
  exact ⟨rfl, rfl⟩
theorem enterWV : ∀ args w, (callFunc 95 args).run Tryz.prog w = .ok (.enter 95 args) w := enters_of Tryz.func95 (by kernel_rfl) rfl

theorem infoV : (Tryz.prog.info? 185).map (fun i => (i.zero, i.size, i.bytes)) = some (some (.agg #[.slice none 0 0, .slice none 0 0]), 2, 48) := by kernel_rfl
set_option maxRecDepth 100000 in
set_option maxHeartbeats 4000000 in
theorem depthV (hB : ∀ r r' : Nat → D, (∀ j g, (row .value)[j]? = some g → Sh (r j) g) → (∀ j g, (row .value)[j]? = some g → Sh (r' j) g) → (∀ j, j < 4 → sz (r j) ≤ 1048576) → CmpR 94 4 (smX 4 2 r r') r r')
    (d d' : D) (hsh : Sh d (.lst .value)) (hsh' : Sh d' (.lst .value)) (hs : sz d ≤ 1048577) (w : World) (c c' : Value) (h : At w d c) (h' : At w d' c') :
    Calls Tryz.prog 93 #[c, c', .func (.func 94) #[] #[], .func (.func 95) #[] #[]] w fun e w' => e = .returned (.bool (sm d d')) ∧ Below w.heap.size w w' := by
  have hst : Hid (Stk w .value [(d, d')] [c, c']) := ⟨[], c, c', rfl, h, h', hsh, hsh', rfl⟩
  have hall : Hid (sm d d' = true ↔ AllSm [(d, d')]) := by simp [Hid, AllSm]
  have hwt : Hid (weight [(d, d')] ≤ 1048578) := by simp only [Hid, weight]; omega
  obtain ⟨S, hS⟩ : ∃ S, sm d d' = S := ⟨_, rfl⟩
  rw [hS] at hall ⊢
  clear hS hs
  obtain ⟨A, n, cap, rfl⟩ := atLst h hsh
  obtain ⟨A', n', cap', rfl⟩ := atLst h' hsh'
  clear h h'
  have eg := enterV
  have ew := enterWV
  go_enter Tryz.func93, Tryz.ntmps93
  go_wp2
  go_loopg [9] (weight [(d, d')]) (fun gk q wr => ∃ (L : List (D × D)) (xs : List Value) (g cap : Nat), gk = weight L ∧ weight L ≤ 1048578 ∧ q = .slice (some ⟨g, 0, none⟩) L.length cap ∧ wr.ownsRow w.heap.size 185 2 (.slice (some ⟨g, 0, none⟩) L.length cap) L.length xs ∧ Stk w .value L xs ∧ (S = true ↔ AllSm L) ∧ Below w.heap.size w wr)
  case atStart =>
    refine ⟨[(d, d')], _, w.heap.size, 1, rfl, hwt.out, rfl, ?_, hst.out, hall.out, below_alloc _ _⟩
    have := World.ownsRow_lit (base := w.heap.size) (e := 185) (size := 2) w #[Value.slice A n cap, Value.slice A' n' cap'] 1 (by omega) (by decide) rfl
    simpa using this
  case round =>
    clear hst hall hwt
    obtain ⟨L, xs, g, cap, hgk, hwt, rfl, hown, hst, hall, hbel⟩ := hrel
    have hlen := weight_length L
    cases L with
    | nil =>
      obtain rfl : S = true := by rw [hall]; simp [AllSm]
      go_wp2
      go_ret
      exact ⟨rfl, hbel⟩
    | cons pp L =>
      obtain ⟨va, vb⟩ := pp
      obtain ⟨ys, ca, cb, rfl, ha, hb, hsa, hsb, hst⟩ := hst
      simp only at ha hb hsa hsb
      obtain ⟨n, it, e1, sa⟩ := hsa.lst
      obtain ⟨n', it', e2, sb⟩ := hsb.lst
      have e1 : va = .list 4 n it := e1
      have e2 : vb = .list 4 n' it' := e2
      subst e1 e2
      have HA := Lib.hid ha
      have HB := Lib.hid hb
      obtain ⟨A, ac, rfl, hn⟩ := ha.slice
      obtain ⟨A', ac', rfl, hn'⟩ := hb.slice
      clear ha hb hsa hsb
      unfold maxLen at hn hn'
      have hyl := hst.length
      have hcut := own_cut hown hyl
      simp only [List.length_cons] at hown hlen hcut hyl
      obtain ⟨m, hm⟩ : ∃ m, L.length = m := ⟨_, rfl⟩
      rw [hm] at hown hlen hcut hyl
      rw [List.length_cons, hm]
      have cellj : ∀ j, j < 2 → wr.cell? ⟨g, m * 2 + j, none⟩ = [Value.slice A n ac, Value.slice A' n' ac'][j]? := fun j hj => by
        rw [hown.cellAt _ (by omega), List.getElem?_append_right (by omega), hyl, Nat.add_sub_cancel_left]
      have e0 : wr.cell? ⟨g, m * 2, none⟩ = some (.slice A n ac) := cellj 0 (by omega)
      have e1 : wr.cell? ⟨g, m * 2 + 1, none⟩ = some (.slice A' n' ac') := cellj 1 (by omega)
      clear cellj
      obtain ⟨hgB, hcap, hcapm, -⟩ := own_block hown
      unfold maxLen at hcapm
      have HO := Lib.hid hcut
      have HAl := Lib.hid hall
      have HK : Hid (gk = weight ((.list 4 n it, .list 4 n' it') :: L) ∧ L.length = m ∧ weight ((.list 4 n it, .list 4 n' it') :: L) ≤ 1048578) := ⟨hgk, hm, hwt⟩
      have hszl : sz (.list 4 n it) ≤ 1048577 := by simp only [weight] at hwt; omega
      have hrow : ∀ i, i < n → ∀ j, j < 4 → sz (it i j) ≤ 1048576 := fun i hi j hj => by have := sz_cell (W := 4) (it := it) hi hj; omega
      obtain ⟨x, hx⟩ : ∃ x, (n == n' && allB (fun i => smX 4 2 (it i) (it' i)) n) = x := ⟨_, rfl⟩
      have heq := fun (X : World) (hX : Below w.heap.size w X) => eqfV n n' it it' (fun i => smX 4 2 (it i) (it' i)) (fun i hi hi' => hB (it i) (it' i) (sa i hi) (sb i hi') (hrow i hi)) X _ _ (At.below hX _ HA.out) (At.below hX _ HB.out)
      rw [hx] at heq
      have HE := Lib.hid heq
      have HX := Lib.hid hx
      clear heq hx hgk hm hall hcut hown hwt hrow hszl
      have i1 : ((m + 1 : Nat) : Int) - 1 = (m : Int) := by omega
      have i2 : (0 : Int) ≤ (m : Int) := by omega
      have i3 : (m : Int) < ((m + 1 : Nat) : Int) := by omega
      have i5 : (m : Int) < (m : Int) + 1 := by omega
      have i4 : ((m + 1 : Nat) : Int) > 0 := by omega
      have j1 : (m : Int) ≤ (cap : Int) := by omega
      go_wp2
      go_quiet (fail)
      go_wp2_with fail
      have bq : Below w.heap.size w (wr.drewN nq) := below_trans hbel (Da.below_drewN wr nq)
      refine (HE.out _ bq).mono ?_
      rintro e w1 ⟨rfl, hb1⟩
      have bw1 := below_trans bq hb1
      have HO1 := Lib.hid (own_below (own_below HO.out (Da.below_drewN wr nq)) hb1)
      clear e0 e1 HE bq hbel
      cases x with
      | false =>
        obtain rfl : S = false := by
          cases S with
          | false => rfl
          | true =>
            have h1 := (HAl.out.1 rfl) (.list 4 n it, .list 4 n' it') (by simp)
            have h2 := ((list_split (col := 2) (by omega) it it').1 h1).1
            rw [HX.out] at h2
            cases h2
        go_wp2
        go_ret
        exact ⟨rfl, bw1⟩
      | true =>
        obtain rfl : n = n' := by
          have := HX.out
          rw [Bool.and_eq_true] at this
          simpa using this.1
        have HBW := Lib.hid bw1
        have HST := Lib.hid hst
        clear hb1 bw1 hst HO
        go_wp2
        go_loopw [9, 44] (fun q i wx => ∃ (p : Nat) (xs : List Value) (g cap : Nat), p ≤ n ∧ i = .int .i64 p ∧ q = .slice (some ⟨g, 0, none⟩) (m + p) cap ∧ wx.ownsRow w.heap.size 185 2 (.slice (some ⟨g, 0, none⟩) (m + p) cap) (m + p) xs ∧ Stk w .value (kids 2 it it' L p) xs ∧ Below w.heap.size w wx) (fun _ i _ => n - (intOf i).toNat)
        case atStart => exact ⟨0, ys, g, cap, Nat.zero_le _, rfl, rfl, HO1.out, HST.out, HBW.out⟩
        case round =>
          clear HO1 HST HBW hgB hcap hcapm
          obtain ⟨p, xs, g, cap, hp, rfl, rfl, hown, hst, hbel⟩ := hrel
          have hkw : m + p ≤ 1048578 := by
            have h1 := HK.out
            have h2 := weight_length (kids 2 it it' L p)
            rw [kids_length, kids_weight, h1.2.1] at h2
            have h3 := sum_kids (W := 4) (col := 2) (it := it) (by omega) p hp
            have h4 := h1.2.2
            simp only [weight] at h4
            omega
          by_cases hlt : p < n
          · have k0 : (0 : Int) ≤ (p : Int) := by omega
            have k1 : (p : Int) < (n : Int) := by omega
            obtain ⟨b, o, e2, hf⟩ := (At.below hbel _ HA.out).nth hlt
            subst e2
            obtain ⟨c0, c1, c2, c3, ⟨f0, a0⟩, ⟨f1, a1⟩, ⟨f2, a2⟩, ⟨f3, a3⟩⟩ := four hf
            obtain ⟨b', o', e2, hf'⟩ := (At.below hbel _ HB.out).nth hlt
            subst e2
            obtain ⟨d0, d1, d2, d3, ⟨g0, b0⟩, ⟨g1, b1⟩, ⟨g2, b2⟩, ⟨g3, b3⟩⟩ := four hf'
            clear hf hf'
            rw [Nat.add_zero] at f0 g0
            obtain ⟨u1, u2, u3, rfl⟩ := atLst a2 (sa p hlt 2 _ rfl)
            obtain ⟨v1, v2, v3, rfl⟩ := atLst b2 (sb p hlt 2 _ rfl)
            have hat : Hid (At w (it p 2) (.slice u1 u2 u3) ∧ At w (it' p 2) (.slice v1 v2 v3)) := by
              obtain ⟨q, z, e3, hf⟩ := HA.out.nth hlt
              obtain ⟨y, y1, y2⟩ := hf 2 (by omega)
              obtain ⟨q', z', e3', hf'⟩ := HB.out.nth hlt
              obtain ⟨y', y1', y2'⟩ := hf' 2 (by omega)
              simp only [Option.some.injEq, Addr.mk.injEq, and_true] at e3 e3'
              obtain ⟨rfl, rfl⟩ := e3
              obtain ⟨rfl, rfl⟩ := e3'
              have := (hbel.cell (World.block_lt_of_cell? w _ y1)).trans y1
              rw [f2] at this
              cases this
              have := (hbel.cell (World.block_lt_of_cell? w _ y1')).trans y1'
              rw [g2] at this
              cases this
              exact ⟨y2, y2'⟩
            have HSh : Hid (Sh (it p 2) (.lst .value) ∧ Sh (it' p 2) (.lst .value)) := ⟨sa p hlt 2 _ rfl, sb p hlt 2 _ rfl⟩
            clear a0 b0 a1 b1 a2 b2 a3 b3
            have old1 : ∀ {a : Addr} {x : Value}, wr.cell? a = some x → ∀ o, (wr.alloc o).cell? a = some x := fun h o => ((below_alloc wr o).cell (World.block_lt_of_cell? wr _ h)).trans h
            have f0' := old1 f0
            have g0' := old1 g0
            have f1' := old1 f1
            have g1' := old1 g1
            have f2' := old1 f2
            have g2' := old1 g2
            have f3' := old1 f3
            have g3' := old1 g3
            clear old1
            obtain ⟨i0, hi, hzz⟩ := Option.map_eq_some_iff.1 infoV
            simp only [Prod.mk.injEq] at hzz
            obtain ⟨hz0, hz1, hz2⟩ := hzz
            have hn2 : m + p + 1 ≤ maxLen := by unfold maxLen; omega
            have hsz := hbel.size
            have HON := Lib.hid hown
            clear hown
            have n1 : ∀ u ∈ [Value.slice u1 u2 u3, Value.slice v1 v2 v3], u.oneCell' = true := by
              intro u hu; simp at hu; rcases hu with rfl | rfl <;> rfl
            go_wp2
            go_region_law (first
              | (rw [if_pos (by simp [Region.wanted])]; go_simp; go_at_call_of 95 c0; refine (withinV _ c0 c1 (.slice u1 u2 u3) c3).mono ?_; rintro e w5 ⟨rfl, rfl⟩)
              | (rw [if_pos (by simp [Region.wanted])]; go_simp; go_at_call_of 95 d0; refine (withinV _ d0 d1 (.slice v1 v2 v3) d3).mono ?_; rintro e w6 ⟨rfl, rfl⟩)
              | (refine step_append_lies _ rfl (.tmp 47) (.tmp 61) 186 rfl w.heap.size 185 i0 _ 2 48 Tryz.underlying186 hi hz0 hz1 hz2 rfl (by decide) _ _ _ (by simp [Act.eval]) (own_below HON.out (threeBelow wr _ _ _)) ⟨wr.heap.size + 1 + 1, 0, none⟩ 1 1 [Value.slice u1 u2 u3, Value.slice v1 v2 v3] (by simp [Act.eval]) rfl (World.news_of_block (cs := #[Value.slice u1 u2 u3, Value.slice v1 v2 v3]) (t := 185) (fr := (0, 0)) (threeNew wr _ _ _)) n1 (by decide) hn2 (by omega) (by simp; omega) (wr.heap.size + 1 + 1 + 1) (by simp) ?_; intro g2 cap2 w2 hown2 hgrow hat2 hlt2))
            all_goals
              have hbel2 := push_below (own_below HON.out (threeBelow wr _ _ _)) (threeBelow wr _ _ _) hgrow hbel
              have HO2 := Lib.hid hown2
              have HS2 : Hid (Stk w .value (kids 2 it it' L (p + 1)) (xs ++ [Value.slice u1 u2 u3, Value.slice v1 v2 v3])) := ⟨xs, _, _, rfl, hat.out.1, hat.out.2, HSh.out.1, HSh.out.2, hst⟩
              clear hown2 hgrow hat2 hlt2
              go_wp2
              go_roundw
              case rel => exact ⟨p + 1, _, _, _, by omega, by go_num, rfl, HO2.out, HS2.out, hbel2⟩
              case measure => simp [intOf]; omega
          · obtain rfl : p = n := by omega
            have HO := Lib.hid hown
            have hAll : S = true ↔ AllSm (kids 2 it it' L p) := by
              rw [HAl.out, kids_same]
              have h1 := list_split (W := 4) (W' := 4) (n := p) (n' := p) (col := 2) (by omega) it it'
              rw [HX.out] at h1
              simp only [AllSm, List.mem_cons, forall_eq_or_imp]
              rw [h1]
              constructor
              · rintro ⟨⟨-, h2⟩, h3⟩; exact ⟨h3, h2⟩
              · rintro ⟨h3, h2⟩; exact ⟨⟨rfl, h2⟩, h3⟩
            have HL := Lib.hid (kids_length 2 it it' L p)
            have HAll := Lib.hid hAll
            have HWt : Hid (weight (kids 2 it it' L p) < gk ∧ weight (kids 2 it it' L p) ≤ 1048578) := by
              have h1 := HK.out
              have h3 := sum_kids (W := 4) (n := p) (col := 2) (it := it) (by omega) p (Nat.le_refl _)
              have h4 := h1.2.2
              have h5 := h1.1
              simp only [weight] at h4 h5
              show _ ∧ _
              rw [kids_weight]
              exact ⟨by omega, by omega⟩
            clear hown hAll
            go_wp2
            go_roundg (weight (kids 2 it it' L p))
            case measure => exact HWt.out.1
            case rel =>
              refine ⟨kids 2 it it' L p, xs, g, cap, rfl, HWt.out.2, ?_, ?_, hst, HAll.out, hbel⟩
              · rw [HL.out, HK.out.2.1]
              · rw [HL.out, HK.out.2.1]; exact HO.out

end Dc
end Go.Proofs.YtngfhncdmlpjiaaGreat
