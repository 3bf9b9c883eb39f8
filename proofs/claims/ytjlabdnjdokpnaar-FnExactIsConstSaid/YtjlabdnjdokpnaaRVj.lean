/- What is proved: the program's VarsIn answers the variables in a value, in new memory: the walk. -/
import Derived.Test.YtjlabdnjdokpnaaRVi
namespace Go.Proofs.YtjlabdnjdokpnaaR
namespace Va
open Go.RowKit Go.Maps
attribute [local go_sem ↓] Go.wp_at_zero Go.wp_at_succ

theorem startI (w : World) (a b c d : Value) : ((((w.alloc (Obj.cells #[a, b, c, d] 30)).alloc (Obj.cells #[] 9)).alloc (Obj.map #[] 0)).alloc (Obj.cells #[a, b, c, d] 30)).ownsRow w.heap.size 30 4 (.slice (some ⟨w.heap.size + 1 + 1 + 1, 0, none⟩) 1 1) 1 [a, b, c, d] ∧
    Row ((((w.alloc (Obj.cells #[a, b, c, d] 30)).alloc (Obj.cells #[] 9)).alloc (Obj.map #[] 0)).alloc (Obj.cells #[a, b, c, d] 30)) w.heap.size (w.heap.size + 1) 0 [] ∧
    ((((w.alloc (Obj.cells #[a, b, c, d] 30)).alloc (Obj.cells #[] 9)).alloc (Obj.map #[] 0)).alloc (Obj.cells #[a, b, c, d] 30)).ownsMap Try.prog 9 (plainElem (H := Unit) Try.prog 3) (w.heap.size + 1 + 1) 0 (.map []) ∧
    Below w.heap.size w ((((w.alloc (Obj.cells #[a, b, c, d] 30)).alloc (Obj.cells #[] 9)).alloc (Obj.map #[] 0)).alloc (Obj.cells #[a, b, c, d] 30)) := by
  refine ⟨?_, ?_, ?_, (((below_alloc _ _).alloc (by simp) _).alloc (by simp; omega) _).alloc (by simp; omega) _⟩
  · have := World.ownsRow_lit (base := w.heap.size) (e := 30) (size := 4) (((w.alloc (Obj.cells #[a, b, c, d] 30)).alloc (Obj.cells #[] 9)).alloc (Obj.map #[] 0)) #[a, b, c, d] 1 (by simp; omega) (by decide) rfl
    simpa using this
  · have := ((World.ownsRow_lit (base := w.heap.size) (e := 9) (size := 1) (w.alloc (Obj.cells #[a, b, c, d] 30)) #[] 0 (by simp) (by decide) rfl).alloc (Obj.map #[] 0)).alloc (Obj.cells #[a, b, c, d] 30)
    simpa [Row, strB] using this
  · have := (World.ownsMap_made ((w.alloc (Obj.cells #[a, b, c, d] 30)).alloc (Obj.cells #[] 9)) Try.prog 9 (plainElem (H := Unit) Try.prog 3)).alloc (Obj.cells #[a, b, c, d] 30)
    simpa using this

set_option maxHeartbeats 4000000 in
theorem varsI (v : V) (w : World) (c0 c1 c2 c3 : Value) (hs : sz v ≤ 1048576) (h : At w v c0 c1 c2 c3) :
    Calls Try.prog 14 #[.agg #[c0, c1, c2, c3]] w fun e w' => ∃ g c, e = .returned (.slice (some ⟨g, 0, none⟩) (vars v []).length c) ∧ Row w' w.heap.size g c (vars v []) ∧ Below w.heap.size w w' := by
  have hst : Hid (StackV w [v] [c0, c1, c2, c3]) := ⟨[], c0, c1, c2, c3, rfl, h, rfl⟩
  have hwt : Hid (weightV [v] ≤ 1048577) := by have := nodes_sz v; simp only [Hid, weightV]; omega
  obtain ⟨R, hR⟩ : ∃ R, vars v [] = R := ⟨_, rfl⟩
  have hvl : Hid (varsL [v] [] = R) := hR
  rw [hR]
  clear hR hs
  obtain ⟨y0, y1, y2, y3, y4, y5, y6, y7, rfl, rfl, rfl, rfl⟩ := At.form h
  clear h
  have hmm := @run_makeMap Try.prog
  go_enter Try.func14, Try.ntmps14
  go_wp2
  clear hmm
  go_loopg [3, 5] (weightV [v]) (fun gk nq wq wr => ∃ (L : List V) (xs : List Value) (g c : Nat) (N : List ByteArray) (gn cn r : Nat) (D : DataW Unit), gk = weightV L ∧ r + weightV L ≤ 1048577 ∧ N.length ≤ r ∧ wq = .slice (some ⟨g, 0, none⟩) L.length c ∧
      wr.ownsRow w.heap.size 30 4 (.slice (some ⟨g, 0, none⟩) L.length c) L.length xs ∧ StackV w L xs ∧ nq = .slice (some ⟨gn, 0, none⟩) N.length cn ∧ Row wr w.heap.size gn cn N ∧
      wr.ownsMap Try.prog 9 (plainElem Try.prog 3) (w.heap.size + 1 + 1) r D ∧ Counts D N r ∧ varsL L N = R ∧ Below w.heap.size w wr)
  case atStart =>
    obtain ⟨h1, h2, h3, h4⟩ := startI w (.int .i64 y0) (.string y1) (.slice y2 y4 y5) (.slice y3 y6 y7)
    exact ⟨[v], _, _, _, [], _, _, 0, _, rfl, by have := hwt.out; omega, Nat.zero_le _, rfl, h1, hst.out, rfl, h2, h3, counts_none, hvl.out, h4⟩
  case round =>
    clear hst hwt hvl
    obtain ⟨L, xs, g, c, N, gn, cn, r, D, hgk, hrw, hNr, rfl, hrow, hst, rfl, hnam, hmap, hcnt, hvl, hbel⟩ := hrel
    have hlen := weightV_length L
    have hnn : N.length ≤ cn ∧ cn ≤ maxLen := by
      rcases hnam.2 with ⟨h, -⟩ | ⟨g', cap', cur, hv, hB, hg, h1, h2, h3, h4⟩
      · cases h
      · simp only [Value.slice.injEq, Option.some.injEq, Addr.mk.injEq, true_and, and_true] at hv
        omega
    cases L with
    | nil =>
      simp only [varsL] at hvl
      subst hvl
      go_wp2
      go_ret
      exact ⟨gn, cn, rfl, hnam, hbel⟩
    | cons va L =>
      obtain ⟨ys, c0, c1, c2, c3, rfl, ha, hst⟩ := hst
      cases va with
      | no => exact ha.elim
      | mk ka ta na ita ma nma =>
      obtain ⟨rfl, rfl, ht, hI, hN⟩ := At_mk.1 ha
      have hI0 := hI
      obtain ⟨A, cap, rfl, hna, -⟩ := hI
      obtain ⟨Q, qc, rfl, -, -⟩ := hN
      have hyl := hst.length
      have hcut := own_cut hrow hyl
      rw [List.length_cons] at hrow hlen
      obtain ⟨n, hn⟩ : ∃ n, L.length = n := ⟨_, rfl⟩
      rw [hn] at hrow hlen hcut hyl
      rw [List.length_cons, hn]
      have cellj : ∀ j, j < 4 → wr.cell? ⟨g, n * 4 + j, none⟩ = [Value.int .i64 ka, .string ta, .slice A na cap, .slice Q ma qc][j]? := fun j hj => by
        rw [hrow.cellAt _ (by omega), List.getElem?_append_right (by omega), hyl, Nat.add_sub_cancel_left]
      have e0 : wr.cell? ⟨g, n * 4, none⟩ = some (.int .i64 ka) := cellj 0 (by omega)
      have e1 : wr.cell? ⟨g, n * 4 + 1, none⟩ = some (.string ta) := cellj 1 (by omega)
      have e2 : wr.cell? ⟨g, n * 4 + 2, none⟩ = some (.slice A na cap) := cellj 2 (by omega)
      have e3 : wr.cell? ⟨g, n * 4 + 3, none⟩ = some (.slice Q ma qc) := cellj 3 (by omega)
      clear cellj
      have hcap : n + 1 ≤ c ∧ c ≤ maxLen := by
        rcases hrow.2 with ⟨h, -⟩ | ⟨g', cap', cur, hv, hB, hg, h1, h2, h3, h4⟩
        · cases h
        · simp only [Value.slice.injEq, Option.some.injEq, Addr.mk.injEq, true_and, and_true] at hv
          omega
      unfold maxLen at hcap hnn
      obtain ⟨hcap1, hcap2⟩ := hcap
      have i1 : ((n + 1 : Nat) : Int) - 1 = (n : Int) := by omega
      have i2 : (0 : Int) ≤ (n : Int) := by omega
      have i3 : (n : Int) < ((n + 1 : Nat) : Int) := by omega
      have i5 : (n : Int) < (n : Int) + 1 := by omega
      have i4 : ((n + 1 : Nat) : Int) > 0 := by omega
      have j1 : (n : Int) ≤ (c : Int) := by omega
      have hgn := row_ne (by decide) hnam hcut
      have hmg := map_ne hmap hcut
      have hmn := map_ne hmap hnam
      have hgl : g < wr.heap.size := by obtain ⟨-, cur, hg⟩ := own_block hcut; exact lt_of hg
      have hgB : w.heap.size ≤ g := (own_block hcut).1
      have ba := below_alloc wr (Obj.cells #[.int .i64 ka, .string ta, .slice A na cap, .slice Q ma qc] 30)
      have hbX := below_trans hbel ba
      have hszb := hbel.size
      by_cases hk : ka = 1
      · subst hk
        have hkey : keyOf Try.prog 9 (.string ta) = some (.string ta.data.toList) := Go.WideMaps.keyOf_string_mk Try.underlying9 ht
        obtain ⟨q, hq1, hq2, hq3⟩ := hcnt ta
        have HQ : Hid (D.atKey (.string ta.data.toList) (.lit (.int .i64 0)) = .lit (.int .i64 q) ∧ (q = 0 ↔ ta ∉ N)) := ⟨hq1, hq3⟩
        have HC := Lib.hid (counts_put hmap.isMap hcnt hq1)
        clear hq1 hq3 hcnt
        have hml : w.heap.size + 1 + 1 ≠ wr.heap.size := by
          have := hmap.lt; omega
        have hr9 : r + 1 ≤ 1048577 := by simp only [weightV, nodes_mk] at hrw; omega
        have HH : Hid (gk = weightV (.mk 1 ta na ita ma nma :: L) ∧ L.length = n ∧ r + weightV (.mk 1 ta na ita ma nma :: L) ≤ 1048577 ∧ varsL (.mk 1 ta na ita ma nma :: L) N = R) := ⟨hgk, hn, hrw, hvl⟩
        have HW : Hid (weightV L < gk ∧ r + 1 + weightV L ≤ 1048577 ∧ varsL L (add ta N) = R) := by
          simp only [weightV, nodes_mk] at hrw hgk
          refine ⟨by omega, by omega, ?_⟩
          rw [← hvl, varsL, vars_var]
        clear hgk hn hrw hvl
        by_cases hin : ta ∈ N
        · have hq0 : ¬ q = 0 := fun e => (HQ.out.2.1 e) hin
          have HA : Hid (add ta N = N) := by simp [Hid, add, hin]
          have t1 : (((q : Int) + 1) == 1) = false := by simp; omega
          clear hin
          go_wp2_with (first
            | (at_lookup; refine wpList_lookup_own_int _ rfl _ _ 46 rfl 9 3 .i64 law9 undM Try.underlying3 (zero3 _) (w.heap.size + 1 + 1) (r + 1) _ rfl hown1 _ _ rfl hkey ?_; intro c2 hat2 hwc2; obtain rfl : c2 = (q : Int) + 1 := (by rw [atKey_put_same hmap.isMap (by trivial)] at hat2; simp only [DataW.lit.injEq, Lit.int.injEq, true_and] at hat2; exact hat2.symm))
            | (at_lookup; refine wpList_lookup_own_int _ rfl _ _ 46 rfl 9 3 .i64 law9 undM Try.underlying3 (zero3 _) (w.heap.size + 1 + 1) r _ rfl (hmap.alloc _) _ _ rfl hkey ?_; intro c2 hat2 hwc2; obtain rfl : c2 = (q : Int) := (by rw [HQ.out.1] at hat2; simp only [DataW.lit.injEq, Lit.int.injEq, true_and] at hat2; exact hat2.symm))
            | (at_mapUpdate; refine wpList_mapUpdate_own _ rfl _ _ _ 46 rfl 9 3 law9 undM _ (w.heap.size + 1 + 1) r _ rfl (hmap.alloc _) (by unfold maxLen; omega) _ _ _ rfl rfl hkey _ [] (plainElem_int Try.underlying3 (WalkArith.wf_i64 (by omega))) ?_; intro w1 hown1 hgrow1; have b1 : w1.cell? ⟨wr.heap.size, 1, none⟩ = some (.string ta) := (by rw [World.cell?_of_block (w := wr.alloc (Obj.cells #[.int .i64 1, .string ta, .slice A na cap, .slice Q ma qc] 30)) (hgrow1.block _ (by simp) (fun e => hml (Option.some.inj e).symm)), cell_of (heap_alloc_new wr _)]; rfl); have hn1 := row_kept (hnam.alloc _) hgrow1 hmn.symm; have hr1 := row_kept (hcut.alloc _) hgrow1 hmg.symm; have hbw1 := hbX.grown hgrow1 (by simp; omega) (fun k hk => by have := Option.some.inj hk; omega)))
          have hgrk : Hid (w1.ownsRow w.heap.size 30 4 (.slice (some ⟨g, 0, none⟩) n c) n ys ∧ Row w1 w.heap.size gn cn N ∧ Below w.heap.size w w1) := ⟨hr1, hn1, hbw1⟩
          have HO1 := Lib.hid hown1
          clear hr1 hn1 hown1 hgrow1 hnam hmap hrow hcut
          go_wp2
          go_roundg (weightV L)
          case measure => exact HW.out.1
          case rel =>
            have hA := HA.out
            have hC := HC.out
            have hV := HW.out.2.2
            rw [hA] at hC hV
            refine ⟨L, ys, g, c, N, gn, cn, r + 1, _, rfl, HW.out.2.1, by omega, ?_, ?_, hst, rfl, hgrk.out.2.1, HO1.out, hC, hV, hgrk.out.2.2⟩
            · rw [HH.out.2.1]
            · rw [HH.out.2.1]; exact hgrk.out.1
        · have hq0 : q = 0 := HQ.out.2.2 hin
          have HA : Hid (add ta N = N ++ [ta]) := by simp [Hid, add, hin]
          have t1 : (((q : Int) + 1) == 1) = true := by subst hq0; rfl
          clear hin hq0
          obtain ⟨i0, hi, hzz⟩ := Option.map_eq_some_iff.1 info9v
          simp only [Prod.mk.injEq] at hzz
          obtain ⟨hz0, hz1, hz2⟩ := hzz
          have n1 : ∀ u ∈ [Value.string ta], u.oneCell' = true := by intro u hu; simp at hu; subst hu; rfl
          have n2 : N.length + 1 ≤ maxLen := by unfold maxLen; omega
          go_wp2_with (first
            | (at_lookup; refine wpList_lookup_own_int _ rfl _ _ 46 rfl 9 3 .i64 law9 undM Try.underlying3 (zero3 _) (w.heap.size + 1 + 1) (r + 1) _ rfl hown1 _ _ rfl hkey ?_; intro c2 hat2 hwc2; obtain rfl : c2 = (q : Int) + 1 := (by rw [atKey_put_same hmap.isMap (by trivial)] at hat2; simp only [DataW.lit.injEq, Lit.int.injEq, true_and] at hat2; exact hat2.symm))
            | (at_lookup; refine wpList_lookup_own_int _ rfl _ _ 46 rfl 9 3 .i64 law9 undM Try.underlying3 (zero3 _) (w.heap.size + 1 + 1) r _ rfl (hmap.alloc _) _ _ rfl hkey ?_; intro c2 hat2 hwc2; obtain rfl : c2 = (q : Int) := (by rw [HQ.out.1] at hat2; simp only [DataW.lit.injEq, Lit.int.injEq, true_and] at hat2; exact hat2.symm))
            | (at_mapUpdate; refine wpList_mapUpdate_own _ rfl _ _ _ 46 rfl 9 3 law9 undM _ (w.heap.size + 1 + 1) r _ rfl (hmap.alloc _) (by unfold maxLen; omega) _ _ _ rfl rfl hkey _ [] (plainElem_int Try.underlying3 (WalkArith.wf_i64 (by omega))) ?_; intro w1 hown1 hgrow1; have b1 : w1.cell? ⟨wr.heap.size, 1, none⟩ = some (.string ta) := (by rw [World.cell?_of_block (w := wr.alloc (Obj.cells #[.int .i64 1, .string ta, .slice A na cap, .slice Q ma qc] 30)) (hgrow1.block _ (by simp) (fun e => hml (Option.some.inj e).symm)), cell_of (heap_alloc_new wr _)]; rfl); have hn1 := row_kept (hnam.alloc _) hgrow1 hmn.symm; have hr1 := row_kept (hcut.alloc _) hgrow1 hmg.symm; have hbw1 := hbX.grown hgrow1 (by simp; omega) (fun k hk => by have := Option.some.inj hk; omega); have hw1s := hbw1.size)
            | (at_builtin; refine wpList_append_lies _ rfl _ _ 23 rfl w.heap.size 9 i0 (.string ⟨#[]⟩) 1 16 Try.underlying23 hi hz0 hz1 hz2 rfl (by decide) _ _ _ rfl (hn1.alloc _) ⟨w1.heap.size, 0, none⟩ 1 1 [.string ta] rfl rfl (World.news_of_block (cs := #[.string ta]) (t := 9) (fr := (0, 0)) (heap_alloc_new w1 _)) n1 (by decide) n2 (by omega) (by simp; omega) (w1.heap.size + 1) (by simp) ?_; intro g2 cap2 w2 hown2 hgrow2 hat2 hlt2))
          have hgrk : Hid (w2.ownsRow w.heap.size 30 4 (.slice (some ⟨g, 0, none⟩) n c) n ys ∧ Row w2 w.heap.size g2 cap2 (N ++ [ta]) ∧ Below w.heap.size w w2) :=
            ⟨row_kept (hr1.alloc _) hgrow2 hgn.symm, by unfold Row; simpa [strB] using hown2, (hbw1.alloc hw1s _).grown hgrow2 (by simp; omega) (fun k hk => by have h1 : gn = k := Option.some.inj hk; have h2 := (own_block hn1).1; omega)⟩
          have HO1 := Lib.hid ((hown1.alloc _).kept hgrow2 (fun e => hmn (Option.some.inj e)))
          clear hr1 hn1 hown1 hgrow1 hown2 hgrow2 hat2 hlt2 hnam hmap hrow hcut
          go_wp2
          go_roundg (weightV L)
          case measure => exact HW.out.1
          case rel =>
            have hA := HA.out
            have hC := HC.out
            have hV := HW.out.2.2
            rw [hA] at hC hV
            refine ⟨L, ys, g, c, N ++ [ta], g2, cap2, r + 1, _, rfl, HW.out.2.1, by simp; omega, ?_, ?_, hst, by simp, hgrk.out.2.1, HO1.out, hC, hV, hgrk.out.2.2⟩
            · rw [HH.out.2.1]
            · rw [HH.out.2.1]; exact hgrk.out.1
      · have hk2 : (ka != 1) = true := by simpa using hk
        have HK : Hid (ka ≠ 1) := hk
        have cR := revI w (wr.alloc (Obj.cells #[.int .i64 ka, .string ta, .slice A na cap, .slice Q ma qc] 30)) na ita (.slice A na cap) g c L ys hI0 hbX (by
          rw [hn]
          simp only [weightV, nodes_mk] at hrw
          have h2 := weightV_length (seg ita na L na)
          have h3 := seg_weight ita na L na (Nat.le_refl _)
          rw [Nat.sub_self] at h3
          rw [seg_length, hn] at h2
          simp only [sumTo] at h3
          omega) (by rw [hn]; exact hcut.alloc _) hst
        rw [hn] at cR
        have HH : Hid (gk = weightV (.mk ka ta na ita ma nma :: L) ∧ L.length = n ∧ r + weightV (.mk ka ta na ita ma nma :: L) ≤ 1048577 ∧ varsL (.mk ka ta na ita ma nma :: L) N = R) := ⟨hgk, hn, hrw, hvl⟩
        clear hgk hn hrw hvl hk
        go_wp2_with fail
        refine cR.mono ?_
        rintro e w1 ⟨g1, c1, xs1, rfl, hrow1, hst1, hgr, hg1⟩
        clear cR
        have HR1 : Hid (w1.ownsRow w.heap.size 30 4 (.slice (some ⟨g1, 0, none⟩) (n + na) c1) (n + na) xs1 ∧ StackV w (seg ita na L na) xs1 ∧ Row w1 w.heap.size gn cn N ∧ w1.ownsMap Try.prog 9 (plainElem Try.prog 3) (w.heap.size + 1 + 1) r D ∧ Below w.heap.size w w1) :=
          ⟨hrow1, hst1, row_kept (hnam.alloc _) hgr hgn, (hmap.alloc _).kept hgr (fun e => hmg (Option.some.inj e)), hbX.grown hgr (by simp; omega) (fun k hk => by have := Option.some.inj hk; omega)⟩
        have HW : Hid (weightV (seg ita na L na) < gk ∧ r + weightV (seg ita na L na) ≤ 1048577 ∧ varsL (seg ita na L na) N = R) := by
          obtain ⟨h1, h2, h3, h4⟩ := HH.out
          have h5 := seg_weight ita na L na (Nat.le_refl _)
          rw [Nat.sub_self] at h5
          simp only [sumTo, weightV, nodes_mk] at h1 h3 h5
          refine ⟨by omega, by omega, ?_⟩
          rw [seg_all, ← h4, varsL, vars_many HK.out]
        clear hrow1 hst1 hgr hg1 hnam hmap hrow hcut
        go_wp2
        go_roundg (weightV (seg ita na L na))
        case measure => exact HW.out.1
        case rel =>
          obtain ⟨r1, r2, r3, r4, r5⟩ := HR1.out
          refine ⟨seg ita na L na, xs1, g1, c1, N, gn, cn, r, D, rfl, HW.out.2.1, hNr, ?_, ?_, r2, rfl, r3, r4, hcnt, HW.out.2.2, r5⟩
          · rw [seg_length, HH.out.2.1]
          · rw [seg_length, HH.out.2.1]; exact r1
end Va
end Go.Proofs.YtjlabdnjdokpnaaR
