/- What is proved: the law FnRunes returns true at every draw: a drawn text is its scalars, one behind the other; each drawn scalar comes back from its bytes. Used by the proof of FnRunesCardSaid. -/
import Derived.Test.YtaafgcnkedaonaaDoorDrX
import Derived.Test.YtaafgcnkedaonaaDoorDrP
import Derived.Test.YtaafgcnkedaonaaDoorCt
import Derived.Test.YtaafgcnkedaonaaDoorRoI
namespace Go.Proofs.YtaafgcnkedaonaaDoor
open Go.RowKit
attribute [local go_sem ↓] Go.wp_at_zero Go.wp_at_succ

theorem bigLaw (len cap : Nat) (a : Option Addr) (w : World) : Calls Tryd.prog 7 #[.slice a len cap] w fun e w' => e = .returned (.bool (decide (1048576 < (len : Int)))) ∧ w = w' := by
  go_enter Tryd.func7, Tryd.ntmps7
  go_wp2
  go_ret
  exact ⟨rfl, rfl⟩

set_option maxHeartbeats 4000000 in
set_option maxRecDepth 100000 in
theorem runesLaw (a : Option Addr) (len cap : Nat) (w : World) (hcode : Code w a len w.heap.size) (hT : Lib.Utf8Tabs 0 1 w) :
    Calls Tryd.prog 3 #[.slice a len cap] w fun e w' => e = .returned (.bool true) ∧ Below w.heap.size w w' := by
  by_cases hbig : 1048576 < (len : Int)
  · go_enter Tryd.func3, Tryd.ntmps3
    go_wp2_with (go_at_call 7; refine (bigLaw _ _ _ _).mono ?_; rintro e w1 ⟨rfl, rfl⟩)
    go_ret
    exact ⟨rfl, Below.refl _ _⟩
  · have hl : len ≤ 1048576 := by omega
    go_enter Tryd.func3, Tryd.ntmps3
    go_wp2_with fail
    refine (bigLaw _ _ _ _).mono ?_
    rintro e w1 ⟨rfl, rfl⟩
    go_wp2_with fail
    refine (drawTextC w a len cap hl hcode).mono ?_
    rintro e w1 ⟨ns, hv, hn8, rfl, hb1⟩
    have hcs := cat_size ns
    obtain ⟨HOK, HRU⟩ := ok_cat ns hv
    have HWR := ok_wrong ns hv
    have HV := Lib.hid hv
    have CR := roI (cat ns) w1 (by omega) (Utf8Tabs_below hT hb1)
    rw [HRU] at CR
    clear hv HRU
    go_wp2_with fail
    refine CR.mono ?_
    rintro e w2 ⟨g, c, rfl, hg, ho, hb2⟩
    have hb02 := hb1.trans (hb2.mono hb1.size)
    clear CR
    go_wp2_with fail
    refine (drawPlacesC w2 a len cap hl (fun i hi => ?_)).mono ?_
    · obtain ⟨x, b, e1, e2, e3, e4, e5⟩ := hcode i hi
      exact ⟨x, b, e1, Nat.lt_of_lt_of_le e2 hb02.size, e3, e4, by rw [hb02.cell (by rw [addBlock]; exact e2)]; exact e5⟩
    rintro e w3 ⟨gp, cp, L, hL12, HLB, rfl, hgp, hop, hb3⟩
    have hb03 := hb02.trans (hb3.mono hb02.size)
    have ho3 := own_below ho hb3
    clear ho hb1 hb2 hb3 hcode
    go_wp2
    go_loopw [6, 7, 8] (fun tv av iv wr => ∃ k : Nat, k ≤ ns.length ∧ iv = .int .i64 (k : Int) ∧ av = .int .i64 ((cat (ns.take k)).size : Int) ∧ tv = .string (cat (ns.take k)) ∧ Below w3.heap.size w3 wr) (fun _ _ iv _ => ns.length - (intOf iv).toNat)
    case atStart => exact ⟨0, Nat.zero_le _, rfl, rfl, rfl, Below.refl _ _⟩
    case round =>
      obtain ⟨k, hk, rfl, rfl, rfl, hbr⟩ := hrel
      have hTr := Utf8Tabs_below hT (hb03.trans (hbr.mono hb03.size))
      by_cases hlt : k < ns.length
      · have hlt' : (k : Int) < (ns.length : Int) := by omega
        have hk0 : (0 : Int) ≤ (k : Int) := by omega
        obtain ⟨x, hx⟩ : ∃ x, ns[k] = x := ⟨_, rfl⟩
        have hcell : wr.cell? ⟨g, k, none⟩ = some (.int .i64 x) := by
          rw [← hx]; exact ((own_below ho3 hbr).cellAt k (by omega)).trans (intC_at ns k hlt)
        have hxv : Utf8.valid x = true := by rw [← hx]; exact HV.out _ (List.getElem_mem _)
        have hsp : cat ns = cat (ns.take k) ++ (rt x ++ cat (ns.drop (k + 1))) := by
          rw [← hx, ← cat, ← cat_append, ← List.drop_eq_getElem_cons hlt, List.take_append_drop]
        have hra : ra (cat ns) (cat (ns.take k)).size = (x, ((rt x).size : Int)) := by
          rw [rt_size, hsp]; exact ra_cat _ _ _ hxv
        have hsz : (cat (ns.take k)).size < (cat ns).size := by
          have : 1 ≤ rl x := by
            have hb := valid_bounds hxv
            unfold rl
            rw [if_pos hb]
            repeat' split
            all_goals omega
          rw [hsp]; simp only [ByteArray.size_append, rt_size]; omega
        have HS : Hid (cat (ns.take (k + 1)) = cat (ns.take k) ++ rt x) := by
          show _ = _
          rw [List.take_succ_eq_append_getElem hlt, cat_snoc, hx]
        have hz1 : (cat (ns.take k)).size + (rt x).size ≤ 100 := by
          have := cat_size (ns.take k); have := rl_le x; rw [rt_size]
          have : (ns.take k).length ≤ ns.length := by simp; omega
          omega
        have C1 := raI (cat ns) (cat (ns.take k)).size wr hsz hTr
        rw [hra] at C1
        clear hra hsp hx hxv
        obtain ⟨T, hTT⟩ : ∃ T, cat (ns.take k) = T := ⟨_, rfl⟩
        rw [hTT] at C1 HS hz1 hsz ⊢
        have hlist := own_below ho3 hbr
        clear hTT
        go_wp2_with fail
        refine C1.mono ?_
        rintro e w4 ⟨rfl, hb4⟩
        have hbr4 := hbr.trans (hb4.mono hbr.size)
        have hcell4 : w4.cell? ⟨g, k, none⟩ = some (.int .i64 x) := by rw [hb4.cell (World.block_lt_of_cell? wr _ hcell)]; exact hcell
        clear C1 hb4 hcell hlist hTr
        go_wp2_with (go_at_call 12; refine (rtI _ _).mono ?_; rintro e w5 ⟨rfl, rfl⟩)
        go_roundw
        case rel => exact ⟨k + 1, by omega, by go_num, by rw [HS.out, ByteArray.size_append, Int.natCast_add], by rw [HS.out], hbr4⟩
        case measure => simp [intOf]; omega
      · obtain rfl : k = ns.length := by omega
        have hbw := hb03.trans (hbr.mono hb03.size)
        have hpr := own_below hop hbr
        obtain ⟨p0, p1, hp0, hp1, q0, q1⟩ : ∃ p0 p1 : Int, wr.cell? ⟨gp, 0, none⟩ = some (.int .i64 p0) ∧ wr.cell? ⟨gp, 1, none⟩ = some (.int .i64 p1) ∧ (0 ≤ p0 ∧ p0 < 10000) ∧ (0 ≤ p1 ∧ p1 < 10000) :=
          ⟨L[0], L[1], (hpr.cellAt 0 (by omega)).trans (intC_at L 0 (by omega)), (hpr.cellAt 1 (by omega)).trans (intC_at L 1 (by omega)), HLB _ (List.getElem_mem _), HLB _ (List.getElem_mem _)⟩
        rw [List.take_length]
        clear hpr hop ho3 HLB HV
        obtain ⟨s, hs⟩ : ∃ s, cat ns = s := ⟨_, rfl⟩
        rw [hs] at HOK HWR hcs ⊢
        clear hs hb02 hb03 hbr
        obtain ⟨n, hn⟩ : ∃ n, p0 * 111 + p1 = n := ⟨_, rfl⟩
        have hn0 : 0 ≤ n := by omega
        have hn1 : n ≤ 2000000 := by omega
        go_wp2
        go_quiet (fail)
        go_wp2_with fail
        refine (rtI n _).mono ?_
        rintro e w4 ⟨rfl, rfl⟩
        have hW : Below wr.heap.size wr (wr.drewN nq) := below_drewN wr nq
        have hbW := hbw.trans (hW.mono hbw.size)
        obtain ⟨W, hWW⟩ : ∃ W, wr.drewN nq = W := ⟨_, rfl⟩
        rw [hWW] at hbW ⊢
        have hTW := Utf8Tabs_below hT hbW
        clear hW hWW hp0 hp1 hTr hbw hn q0 q1
        cases hv : Utf8.valid n with
        | true =>
          have hb := valid_bounds hv
          have hra : ra (rt n) 0 = (n, ((rt n).size : Int)) := by
            have := ra_cat ⟨#[]⟩ ⟨#[]⟩ n hv
            rw [app_nil, nil_app] at this
            rw [rt_size]; exact this
          have hr1 : 1 ≤ rl n := by
            unfold rl
            rw [if_pos hb]
            repeat' split
            all_goals omega
          have hz1 : 0 < (rt n).size := by rw [rt_size]; omega
          have hz2 : (rt n).size ≤ 4 := by rw [rt_size]; exact rl_le n
          have C2 : Calls Tryd.prog 11 #[.string (rt n), .int .i64 0] W fun e w' => e = .returned (.tuple #[.int .i64 n, .int .i64 ((rt n).size : Int)]) ∧ Below W.heap.size W w' := by
            have := raI (rt n) 0 W hz1 hTW
            rw [hra] at this; exact this
          obtain ⟨one, ho1⟩ : ∃ one, rt n = one := ⟨_, rfl⟩
          rw [ho1] at C2 hz1 hz2 ⊢
          have hne : one.toList.isEmpty = false := by
            rw [Lib.toList_data]
            cases h : one.data.toList with
            | nil => rw [Lib.size_eq, h] at hz1; cases hz1
            | cons _ _ => rfl
          clear hra hr1 ho1 hv
          go_wp2_with fail
          refine C2.mono ?_
          rintro e w5 ⟨rfl, hb5⟩
          clear C2
          have hbW5 := hbW.trans (hb5.mono hbW.size)
          go_wp2_with fail
          refine (raI_out s s.size w5 (by omega)).mono ?_
          rintro e w6 ⟨rfl, rfl⟩
          have hz3 : (s.size : Int) + 1 ≤ 100 := by omega
          by_cases h5 : n < 55296
          · clear hb
            go_wp2_with fail
            refine (okI s w5 (Utf8Tabs_below hT hbW5)).mono ?_
            rintro e w7 ⟨rfl, hb7⟩
            rw [HOK]
            have hbW7 := hbW5.trans (hb7.mono hbW5.size)
            go_wp2_with fail
            refine (okI _ w7 (Utf8Tabs_below hT hbW7)).mono ?_
            rintro e w8 ⟨rfl, hb8⟩
            rw [HWR]
            have hbW8 := hbW7.trans (hb8.mono hbW7.size)
            go_wp2
            go_ret
            exact ⟨rfl, hbW8⟩
          · have h6 : 57343 < n := by omega
            have h7 : n ≤ 1114111 := by omega
            clear hb
            go_wp2_with fail
            refine (okI s w5 (Utf8Tabs_below hT hbW5)).mono ?_
            rintro e w7 ⟨rfl, hb7⟩
            rw [HOK]
            have hbW7 := hbW5.trans (hb7.mono hbW5.size)
            go_wp2_with fail
            refine (okI _ w7 (Utf8Tabs_below hT hbW7)).mono ?_
            rintro e w8 ⟨rfl, hb8⟩
            rw [HWR]
            have hbW8 := hbW7.trans (hb8.mono hbW7.size)
            go_wp2
            go_ret
            exact ⟨rfl, hbW8⟩
        | false =>
          have hb := valid_not hv
          have hz3 : (s.size : Int) + 1 ≤ 100 := by omega
          rw [rt_none hv]
          clear hv
          go_wp2_with fail
          refine (raI_out ⟨#[]⟩ 0 W (by show ¬ ((0 : Int) ≤ 0 ∧ (0 : Int) < ((0 : Nat) : Int)); omega)).mono ?_
          rintro e w5 ⟨rfl, rfl⟩
          by_cases h5 : n ≤ 1114111
          · have h6 : ¬ n < 55296 := by omega
            have h7 : ¬ 57343 < n := by omega
            clear hb
            go_wp2_with fail
            refine (raI_out s s.size W (by omega)).mono ?_
            rintro e w6 ⟨rfl, rfl⟩
            go_wp2_with fail
            refine (okI s W (Utf8Tabs_below hT hbW)).mono ?_
            rintro e w7 ⟨rfl, hb7⟩
            rw [HOK]
            have hbW7 := hbW.trans (hb7.mono hbW.size)
            go_wp2_with fail
            refine (okI _ w7 (Utf8Tabs_below hT hbW7)).mono ?_
            rintro e w8 ⟨rfl, hb8⟩
            rw [HWR]
            have hbW8 := hbW7.trans (hb8.mono hbW7.size)
            go_wp2
            go_ret
            refine ⟨?_, hbW8⟩
            show Ending.returned (.bool (!decide (n < 55296) && !decide (57343 < n))) = _
            rw [decide_eq_false (by omega), decide_eq_false (by omega)]
            rfl
          · clear hb
            go_wp2_with fail
            refine (raI_out s s.size W (by omega)).mono ?_
            rintro e w6 ⟨rfl, rfl⟩
            go_wp2_with fail
            refine (okI s W (Utf8Tabs_below hT hbW)).mono ?_
            rintro e w7 ⟨rfl, hb7⟩
            rw [HOK]
            have hbW7 := hbW.trans (hb7.mono hbW.size)
            go_wp2_with fail
            refine (okI _ w7 (Utf8Tabs_below hT hbW7)).mono ?_
            rintro e w8 ⟨rfl, hb8⟩
            rw [HWR]
            have hbW8 := hbW7.trans (hb8.mono hbW7.size)
            go_wp2
            go_ret
            exact ⟨rfl, hbW8⟩
end Go.Proofs.YtaafgcnkedaonaaDoor
