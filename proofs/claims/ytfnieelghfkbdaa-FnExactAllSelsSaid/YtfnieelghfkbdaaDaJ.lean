/- What is proved: the program's copy in new memory of a value: the same, its own. (Made by tools/mkdaj.py.) -/
import Derived.Test.YtfnieelghfkbdaaDaI
import Derived.Shelf.Abstract
import Derived.Deep.LoopGhost
namespace Go.Proofs.Ytfnieelghfkbdaa
namespace Da
set_option linter.unusedVariables false
open Go.RowKit
attribute [local go_sem ↓] Go.wp_at_zero Go.wp_at_succ

theorem enterValue : ∀ args w, (callFunc 63 args).run Try.prog w = .ok (.enter 63 args) w := enters_of Try.func63 (by kernel_rfl) rfl
theorem infoPValue : (Try.prog.info? 101).map (fun i => (i.zero, i.size, i.bytes)) = some (some (.pointer none), 1, 8) := by kernel_rfl

set_option maxRecDepth 100000 in
set_option maxHeartbeats 8000000 in
theorem inNewValue (r : Nat → D) (hsh : ∀ j g, (row .value)[j]? = some g → Sh (r j) g) (hz : ∀ j, j < 4 → sz (r j) ≤ 1048576) (w : World) (c0 c1 c2 c3 : Value) (a0 : At w (r 0) c0) (a1 : At w (r 1) c1) (a2 : At w (r 2) c2) (a3 : At w (r 3) c3) :
    Calls Try.prog 62 #[.agg #[c0, c1, c2, c3], .func (.func 63) #[] #[]] w fun e w' => ∃ d0 d1 d2 d3, e = .returned (.agg #[d0, d1, d2, d3]) ∧ OwnR w' r (rng w.heap.size w'.heap.size) [d0, d1, d2, d3] ∧ Below w.heap.size w w' := by
  have hwt : wgt 2 [⟨w.heap.size, 0, r⟩] ≤ 1048577 := by
    have h1 := nodL_sz 2 .value rfl (r 2) (hsh 2 _ rfl)
    have h2 := hz 2 (by omega)
    simp only [wgt]; omega
  obtain ⟨root, hroot⟩ : ∃ root : Pn, root = ⟨w.heap.size, 0, r⟩ := ⟨_, rfl⟩
  obtain ⟨Wa, hWa⟩ : ∃ Wa, ((w.alloc (Obj.cells #[c0, c1, c2, c3] 68)).alloc (Obj.cells #[Value.int .i64 0, Value.string ⟨#[]⟩, Value.slice none 0 0, Value.slice none 0 0] 68)).alloc (Obj.cells #[.pointer (some ⟨w.heap.size, 0, none⟩)] 101) = Wa := ⟨_, rfl⟩
  have hza : Wa.heap.size = w.heap.size + 3 := by rw [← hWa]; simp
  have baw : Below w.heap.size w Wa := by rw [← hWa]; exact ((below_alloc _ _).alloc (by simp) _).alloc (by simp; omega) _
  have h0 : Wa.heap[w.heap.size]? = some (Obj.cells #[c0, c1, c2, c3] 68) := by
    rw [← hWa, Below.heap_alloc _ _ _ (by simp; omega), Below.heap_alloc _ _ _ (by simp)]; exact heap_alloc_new w _
  have h1 : Wa.heap[w.heap.size + 1]? = some (Obj.cells #[Value.int .i64 0, Value.string ⟨#[]⟩, Value.slice none 0 0, Value.slice none 0 0] 68) := by
    rw [← hWa, Below.heap_alloc _ _ _ (by simp)]; exact heap_alloc2_new w _ _
  have h2 : Wa.heap[w.heap.size + 2]? = some (Obj.cells #[.pointer (some ⟨w.heap.size, 0, none⟩)] 101) := by
    rw [← hWa]
    have := heap_alloc_new ((w.alloc (Obj.cells #[c0, c1, c2, c3] 68)).alloc (Obj.cells #[Value.int .i64 0, Value.string ⟨#[]⟩, Value.slice none 0 0, Value.slice none 0 0] 68)) (Obj.cells #[.pointer (some ⟨w.heap.size, 0, none⟩)] 101)
    simpa using this
  have ST : Hid (Wst w Wa 4 .value w.heap.size (fun x => x = w.heap.size) [root] root) := by
    subst hroot
    refine ⟨Wand.one, fun p hp => ?_, List.pairwise_singleton _ _, fun b hb => ⟨by omega, .inl hb⟩⟩
    obtain rfl : p = ⟨w.heap.size, 0, r⟩ := by simpa using hp
    refine ⟨rfl, Nat.le_refl _, ⟨_, _, h0, fun j hj => ?_⟩, hsh, hz⟩
    match j, hj with
    | 0, _ => exact ⟨c0, rfl, a0⟩
    | 1, _ => exact ⟨c1, rfl, a1⟩
    | 2, _ => exact ⟨c2, rfl, a2⟩
    | 3, _ => exact ⟨c3, rfl, a3⟩
  have RW : Hid (Wa.ownsRow (w.heap.size + 2) 101 1 (.slice (some ⟨w.heap.size + 2, 0, none⟩) 1 1) 1 ([root].map ptr)) := by
    subst hroot
    exact ⟨rfl, .inr ⟨w.heap.size + 2, 1, _, rfl, Nat.le_refl _, h2, Nat.le_refl _, by unfold maxLen; omega, rfl, rfl⟩⟩
  have H1 := Lib.hid h1
  have HZA := Lib.hid hza
  have HWT := Lib.hid hwt
  clear h0 h1 h2 hza hwt a0 a1 a2 a3
  go_enter Try.func62, Try.ntmps62
  go_wp2
  go_loopg [5] (wgt 2 [root]) (fun gk wq wr => ∃ (P : List Pn) (T : Nat → Prop) (g c : Nat), gk = wgt 2 P ∧ wgt 2 P ≤ 1048577 ∧ wq = .slice (some ⟨g, 0, none⟩) P.length c ∧ wr.ownsRow (w.heap.size + 2) 101 1 (.slice (some ⟨g, 0, none⟩) P.length c) P.length (P.map ptr) ∧ ¬ T g ∧ Wst w wr 4 .value w.heap.size T P root ∧ wr.heap[w.heap.size + 1]? = some (Obj.cells #[Value.int .i64 0, Value.string ⟨#[]⟩, Value.slice none 0 0, Value.slice none 0 0] 68) ∧ Below w.heap.size w wr ∧ w.heap.size + 3 ≤ wr.heap.size)
  case atStart => exact ⟨[root], _, w.heap.size + 2, 1, rfl, by rw [hroot]; exact HWT.out, rfl, RW.out, by omega, ST.out, H1.out, baw, by have := HZA.out; omega⟩
  case round =>
    clear ST RW
    obtain ⟨P, T, g, c, hgk, hwl, rfl, hrow, hTg, hst, hzb, hbel, hsz⟩ := hrel
    have HGK := Lib.hid hgk
    have HST := Lib.hid hst
    have HZB := Lib.hid hzb
    have hlen := wgt_len 2 P
    clear hgk hst hzb
    rcases List.eq_nil_or_concat P with hP | ⟨P', p, hP⟩
    · subst hP
      obtain ⟨F, ⟨cur, ty, G, f1, f2, f3⟩, fT⟩ := HST.out.wand.all
      subst hroot
      simp only at f1 f3
      obtain ⟨d0, d1, d2, d3, ⟨q0, o0⟩, ⟨q1, o1⟩, ⟨q2, o2⟩, ⟨q3, o3⟩⟩ := four f3
      rw [show 0 + 0 = 0 from rfl] at q0
      rw [show 0 + 1 = 1 from rfl] at q1
      rw [show 0 + 2 = 2 from rfl] at q2
      rw [show 0 + 3 = 3 from rfl] at q3
      have t0 := Own.at _ o0
      have t1 := Own.at _ o1
      have t2 := Own.at _ o2
      have t3 := Own.at _ o3
      have O0 := Lib.hid o0
      have O1 := Lib.hid o1
      have O2 := Lib.hid o2
      have O3 := Lib.hid o3
      clear o0 o1 o2 o3
      obtain ⟨yk0, rfl⟩ := At.int t0 (hsh 0 _ rfl)
      obtain ⟨yk1, rfl⟩ := At.str t1 (hsh 1 _ rfl)
      obtain ⟨yA2, yn2, yp2, rfl⟩ := At.lst t2 (hsh 2 _ rfl)
      obtain ⟨yA3, yn3, yp3, rfl⟩ := At.lst t3 (hsh 3 _ rfl)
      clear t0 t1 t2 t3
      have hzb := HZB.out
      have p0 : wr.cell? ⟨w.heap.size, 0, none⟩ = some (Value.int .i64 yk0) := by rw [cell_of f1]; exact q0
      have u0 : wr.cell? ⟨w.heap.size + 1, 0, none⟩ = some (Value.int .i64 0) := by rw [cell_of hzb]; rfl
      have z0 : wr.frozen? ⟨w.heap.size + 1, 0, none⟩ = false := frozen_no hzb _
      have p1 : wr.cell? ⟨w.heap.size, 1, none⟩ = some (Value.string yk1) := by rw [cell_of f1]; exact q1
      have u1 : wr.cell? ⟨w.heap.size + 1, 1, none⟩ = some (Value.string ⟨#[]⟩) := by rw [cell_of hzb]; rfl
      have z1 : wr.frozen? ⟨w.heap.size + 1, 1, none⟩ = false := frozen_no hzb _
      have p2 : wr.cell? ⟨w.heap.size, 2, none⟩ = some (Value.slice yA2 yn2 yp2) := by rw [cell_of f1]; exact q2
      have u2 : wr.cell? ⟨w.heap.size + 1, 2, none⟩ = some (Value.slice none 0 0) := by rw [cell_of hzb]; rfl
      have z2 : wr.frozen? ⟨w.heap.size + 1, 2, none⟩ = false := frozen_no hzb _
      have p3 : wr.cell? ⟨w.heap.size, 3, none⟩ = some (Value.slice yA3 yn3 yp3) := by rw [cell_of f1]; exact q3
      have u3 : wr.cell? ⟨w.heap.size + 1, 3, none⟩ = some (Value.slice none 0 0) := by rw [cell_of hzb]; rfl
      have z3 : wr.frozen? ⟨w.heap.size + 1, 3, none⟩ = false := frozen_no hzb _
      have hrl := row_form hrow
      clear hzb f1 q0 q1 q2 q3
      simp only [List.length_nil] at hrl ⊢
      go_wp2
      obtain ⟨W9, hW9⟩ : ∃ W9, ((((wr.setCell ⟨w.heap.size + 1, 0, none⟩ (Value.int .i64 yk0)).setCell ⟨w.heap.size + 1, 1, none⟩ (Value.string yk1)).setCell ⟨w.heap.size + 1, 2, none⟩ (Value.slice yA2 yn2 yp2)).setCell ⟨w.heap.size + 1, 3, none⟩ (Value.slice yA3 yn3 yp3)) = W9 := ⟨_, rfl⟩
      have hW9' : stores wr (w.heap.size + 1) 0 [Value.int .i64 yk0, Value.string yk1, Value.slice yA2 yn2 yp2, Value.slice yA3 yn3 yp3] = W9 := hW9
      rw [hW9]
      clear hW9
      have hg9 : W9.heap[w.heap.size + 1]? = some (Obj.cells #[Value.int .i64 yk0, Value.string yk1, Value.slice yA2 yn2 yp2, Value.slice yA3 yn3 yp3] 68) := by
        rw [← hW9']
        exact stores_heap _ _ 0 #[Value.int .i64 0, Value.string ⟨#[]⟩, Value.slice none 0 0, Value.slice none 0 0] HZB.out
      have hk9 : ∀ x, x ≠ w.heap.size + 1 → W9.heap[x]? = wr.heap[x]? := fun x hx => by rw [← hW9', stores_other hx]
      have hz9 : W9.heap.size = wr.heap.size := by rw [← hW9', stores_size]
      have bb9 : Below w.heap.size w W9 := by rw [← hW9']; exact stores_below (by omega) _ _ _ hbel
      clear hW9'
      (try simp only [Exit.inBlock, Exit.then])
      refine bodyPost_ret (results_cell_row rfl _ W9 (w.heap.size + 1) _ _ _ _ rfl hg9 Try.underlying68 rfl (by kernel_rfl)) rfl ?_
      refine ⟨_, _, _, _, rfl, ?_, bb9⟩
      have key : ∀ j, j < 4 → ∀ x, G j x → x < wr.heap.size ∧ w.heap.size ≤ x ∧ x ≠ w.heap.size + 1 := fun j hj x hx => by
        have := HST.out.tree x (fT x ((f2 j hj).1 x hx))
        omega
      refine ⟨G, fun j hj => ⟨fun x hx => ⟨(key j hj x hx).2.1, by rw [hz9]; exact (key j hj x hx).1⟩, (f2 j hj).2⟩, fun j v hv => ?_⟩
      match j, hv with
      | 0, hv => cases hv; exact Own.same _ O0.out fun x hx => hk9 x (key 0 (by omega) x hx).2.2
      | 1, hv => cases hv; exact Own.same _ O1.out fun x hx => hk9 x (key 1 (by omega) x hx).2.2
      | 2, hv => cases hv; exact Own.same _ O2.out fun x hx => hk9 x (key 2 (by omega) x hx).2.2
      | 3, hv => cases hv; exact Own.same _ O3.out fun x hx => hk9 x (key 3 (by omega) x hx).2.2
      | j + 4, hv => simp at hv
    · rw [List.concat_eq_append] at hP
      subst hP
      have hp := HST.out.each p (by simp)
      obtain ⟨L, hL⟩ : ∃ L, P'.length = L := ⟨_, rfl⟩
      have hl1 : (P' ++ [p]).length = L + 1 := by rw [List.length_append, hL]; rfl
      rw [hl1] at hrow hlen
      have hrl := row_form hrow
      have hPp : (P' ++ [p]).map ptr = P'.map ptr ++ [ptr p] := by simp
      rw [hPp] at hrow
      have hml : (P'.map ptr).length = L := by simp [hL]
      have e1 : wr.cell? ⟨g, L, none⟩ = some (.pointer (some ⟨p.b, p.o, none⟩)) := by
        have := hrow.cellAt L (by omega)
        rw [List.getElem?_append_right (by omega), hml, Nat.sub_self] at this
        simpa [ptr] using this
      have hcut := Lib.hid (own_cut hrow (by omega))
      have hgl := own_row_lt hrow rfl
      have HLN := Lib.hid hL
      have cr := Lib.hid (renewV w wr p hp.2.2.1 hbel hp.2.1 hp.2.2.2.1 hp.2.2.2.2)
      have hTp := hp.1
      clear hrow hPp hml hp
      obtain ⟨hc1, hc2, -⟩ := hrl
      unfold maxLen at hc2
      rw [hl1]
      have he := enterValue
      go_wp2_with fail
      clear e1 he
      refine cr.out.mono ?_
      rintro e w2 ⟨vs, n, g', it, rfl, hren, hkids, hb2⟩
      have HREN := Lib.hid hren
      have HKD := Lib.hid hkids
      obtain ⟨A, cp, l1, l2, l3, l4⟩ := hren.list
      have hs2 := hren.size
      have hne : g ≠ p.b := fun e => hTg (by rw [e]; exact hTp)
      have hg2 := hren.far g hgl.2 hne
      have HC2 : Hid (w2.ownsRow (w.heap.size + 2) 101 1 (.slice (some ⟨g, 0, none⟩) L c) L (P'.map ptr)) := by
        refine ⟨hcut.out.1, ?_⟩
        rcases hcut.out.2 with ⟨h, -⟩ | ⟨g0, cap0, cur0, hv, hB, hg, q⟩
        · cases h
        · have : g = g0 := by simp only [Value.slice.injEq, Option.some.injEq, Addr.mk.injEq, and_true] at hv; exact hv.1
          subst this
          exact .inr ⟨g, cap0, cur0, hv, hB, hg2.trans hg, q⟩
      have hzb2 := Lib.hid ((hren.far (w.heap.size + 1) (by omega) (fun e => by have := HST.out.tree p.b hTp; omega)).trans HZB.out)
      have hnl : nodL 2 (p.r 2) = sumTo (fun i => 1 + nodL 2 (it i 2)) n := by rw [hren.isList]; rfl
      have hwg : wgt 2 (P' ++ [p]) = wgt 2 P' + (1 + sumTo (fun i => 1 + nodL 2 (it i 2)) n) := by rw [wgt_append]; simp only [wgt, hnl]; omega
      have hwk : wgt 2 (P' ++ kids 4 g' n it) = wgt 2 P' + sumTo (fun i => 1 + nodL 2 (it i 2)) n := by rw [wgt_append, wgt_kids]
      have hwl2 := wgt_len 2 (P' ++ kids 4 g' n it)
      rw [List.length_append, kids_len, hL] at hwl2
      have hLn : L + n ≤ 1048576 := by omega
      have HWK : Hid (wgt 2 (P' ++ kids 4 g' n it) < wgt 2 (P' ++ [p])) := by show _ < _; omega
      have HWL : Hid (wgt 2 (P' ++ kids 4 g' n it) ≤ 1048577) := by show _ ≤ _; omega
      have HL4 := Lib.hid l4
      clear hren hkids hcut hg2 hnl hwg hwk hwl2 l4 cr hwl hlen
      unfold maxLen at l3
      rw [l1]
      go_wp2
      go_loopw [5, 29] (fun q i wx => ∃ (s g1 c1 : Nat), s ≤ n ∧ i = .int .i64 s ∧ q = .slice (some ⟨g1, 0, none⟩) (L + s) c1 ∧ wx.ownsRow (w.heap.size + 2) 101 1 (.slice (some ⟨g1, 0, none⟩) (L + s) c1) (L + s) ((P' ++ kids 4 g' s it).map ptr) ∧ (∀ x, x < w2.heap.size → x ≠ g → wx.heap[x]? = w2.heap[x]?) ∧ (g1 = g ∨ w2.heap.size ≤ g1) ∧ w2.heap.size ≤ wx.heap.size ∧ Below w.heap.size w wx) (fun _ i _ => n - (intOf i).toNat)
      case atStart => exact ⟨0, g, c, Nat.zero_le _, rfl, rfl, by simpa [kids] using HC2.out, fun _ _ _ => rfl, .inl rfl, Nat.le_refl _, hb2⟩
      case round =>
        obtain ⟨s, g1, c1, hs, rfl, rfl, hrow, hkp, hgg, hzx, hbx⟩ := hrel
        have HKP := Lib.hid hkp
        have HRW := Lib.hid hrow
        have hrl := row_form hrow
        obtain ⟨hc3, hc4, -⟩ := hrl
        unfold maxLen at hc4
        have hgx := own_row_lt hrow rfl
        clear hkp hrow
        by_cases hlt : s < n
        · have hk0 : (0 : Int) ≤ (s : Int) := by omega
          have hk1 : (s : Int) < (n : Int) := by omega
          obtain ⟨rfl, hg1, hg2', -⟩ := HL4.out (by omega)
          obtain ⟨i0, hi, hzz⟩ := Option.map_eq_some_iff.1 infoPValue
          simp only [Prod.mk.injEq] at hzz
          obtain ⟨hz0, hz1, hz2⟩ := hzz
          have n1 : ∀ x ∈ [Value.pointer (some ⟨g', s * 4, none⟩)], x.oneCell' = true := by intro x hx; simp at hx; subst hx; rfl
          have n2 : L + s + 1 ≤ maxLen := by unfold maxLen; omega
          go_wp2_with (at_builtin; refine wpList_append_lies _ rfl _ _ 102 rfl (w.heap.size + 2) 101 i0 (.pointer none) 1 8 Try.underlying102 hi hz0 hz1 hz2 rfl (by decide) _ (L + s) ((P' ++ kids 4 g' s it).map ptr) rfl (HRW.out.alloc _) ⟨wr.heap.size, 0, none⟩ 1 1 [.pointer (some ⟨g', s * 4, none⟩)] rfl rfl (World.news_of_block (cs := #[.pointer (some ⟨g', s * 4, none⟩)]) (t := 101) (fr := (0, 0)) (heap_alloc_new wr _)) n1 (by decide) n2 (by omega) (by simp; omega) (wr.heap.size + 1) (by simp) ?_)
          intro g2 cap2 w4 hown2 hgrow hat2 hlt2
          have hbs := hbx.size
          have hb4 : Below w.heap.size w w4 := (hbx.alloc hbs _).grown hgrow (by simp; omega) (fun x hx => by have := (own_row_lt HRW.out hx).1; omega)
          have HK4 : Hid (∀ x, x < w2.heap.size → x ≠ g → w4.heap[x]? = w2.heap[x]?) := fun x hx hxg => by
            rw [hgrow.block x (by simp; omega) (fun e => by have : x = g1 := (by simpa [Value.ownBlock] using e); omega), Below.heap_alloc _ _ _ (by omega)]
            exact HKP.out x hx hxg
          have HR4 : Hid (w4.ownsRow (w.heap.size + 2) 101 1 (.slice (some ⟨g2, 0, none⟩) (L + (s + 1)) cap2) (L + (s + 1)) ((P' ++ kids 4 g' (s + 1) it).map ptr)) := by
            rw [kids_succ, List.map_append, List.map_append]
            exact hown2
          have hgg2 : g2 = g ∨ w2.heap.size ≤ g2 := by
            rcases hat2 with h | h
            · have : g1 = g2 := by simpa [Value.ownBlock] using h
              omega
            · omega
          have hz4 := hgrow.size
          rw [World.size_alloc] at hz4
          clear hown2 hgrow hat2
          go_wp2
          go_roundw
          case rel => exact ⟨s + 1, g2, cap2, by omega, by go_num, rfl, HR4.out, HK4.out, hgg2, by omega, hb4⟩
          case measure => simp [intOf]; omega
        · obtain rfl : s = n := by omega
          go_wp2
          go_roundg (wgt 2 (P' ++ kids 4 g' s it))
          case measure => rw [HGK.out]; exact HWK.out
          case rel =>
            have hpl : (P' ++ kids 4 g' s it).length = L + s := by rw [List.length_append, kids_len, HLN.out]
            refine ⟨P' ++ kids 4 g' s it, _, g1, c1, rfl, HWL.out, by rw [hpl], by rw [hpl]; exact HRW.out, ?_, (Wst.step HST.out (by omega) (by omega) (by omega) HREN.out HKD.out rfl rfl).agree (fun b hb => ?_) hzx, (HKP.out _ (by omega) (by omega)).trans hzb2.out, hbx, by omega⟩
            · rintro (h | ⟨h1, h2⟩)
              · have := (HST.out.tree g1 h).1
                rcases hgg with e | e
                · subst e; exact hTg h
                · omega
              · omega
            · rcases hb with h | ⟨h1, h2⟩
              · have := (HST.out.tree b h).1
                exact HKP.out b (by omega) (fun e => by subst e; exact hTg h)
              · exact HKP.out b h2 (by omega)
end Da
end Go.Proofs.Ytfnieelghfkbdaa
