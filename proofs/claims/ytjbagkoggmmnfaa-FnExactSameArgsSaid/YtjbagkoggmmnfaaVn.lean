/- What is proved: the program's SameValue says whether two values are the same, part by part: the walk. -/
import Derived.Test.YtjbagkoggmmnfaaVm
import Derived.Deep.LoopGhost
import Derived.Deep.CutBlock
import Derived.Deep.DeepCutAuto
namespace Go.Proofs.Ytjbagkoggmmnfaa
namespace Va
open Go.RowKit
attribute [local go_sem ↓] Go.wp_at_zero Go.wp_at_succ

theorem two0 (w : World) (A B : Obj) : ((w.alloc A).alloc B).drew.heap[w.heap.size]? = some A := by
  show ((w.alloc A).alloc B).heap[w.heap.size]? = some A
  rw [Below.heap_alloc _ _ _ (by simp)]; exact heap_alloc_new w _
theorem two1 (w : World) (A B : Obj) : ((w.alloc A).alloc B).drew.heap[w.heap.size + 1]? = some B := heap_alloc2_new w A B
theorem twob (w : World) (A B : Obj) : Below w.heap.size w ((w.alloc A).alloc B).drew := ((below_alloc w A).alloc (by simp) B).drew

set_option maxHeartbeats 4000000 in
theorem sameI (v u : V) (w : World) (c0 c1 c2 c3 d0 d1 d2 d3 : Value) (hs : sz v ≤ 1048576) (h : At w v c0 c1 c2 c3) (h' : At w u d0 d1 d2 d3) :
    Calls Try.prog 17 #[.agg #[c0, c1, c2, c3], .agg #[d0, d1, d2, d3]] w fun e w' => ∃ r : Bool, e = .returned (.bool r) ∧ (r = true ↔ Same v u) ∧ Below w.heap.size w w' := by
  have hst : Hid (Stack w [(v, u)] [c0, c1, c2, c3, d0, d1, d2, d3]) := ⟨[], c0, c1, c2, c3, d0, d1, d2, d3, rfl, h, h', rfl⟩
  have hall : Hid (Same v u ↔ AllSame [(v, u)]) := by simp [Hid, AllSame]
  have hwt : Hid (weight [(v, u)] ≤ 1048577) := by have := nodes_sz v; simp only [Hid, weight]; omega
  obtain ⟨S, hS⟩ : ∃ S : Prop, Same v u = S := ⟨_, rfl⟩
  rw [hS] at hall ⊢
  clear hS hs
  obtain ⟨y0, y1, y2, y3, y4, y5, y6, y7, rfl, rfl, rfl, rfl⟩ := At.form h
  obtain ⟨z0, z1, z2, z3, z4, z5, z6, z7, rfl, rfl, rfl, rfl⟩ := At.form h'
  clear h h'
  go_enter Try.func17, Try.ntmps17
  go_wp2
  go_loopg [5] (weight [(v, u)]) (fun gk q wr => ∃ (L : List (V × V)) (xs : List Value) (g cap : Nat), gk = weight L ∧ weight L ≤ 1048577 ∧ q = .slice (some ⟨g, 0, none⟩) L.length cap ∧ wr.ownsRow w.heap.size 50 8 (.slice (some ⟨g, 0, none⟩) L.length cap) L.length xs ∧ Stack w L xs ∧ (S ↔ AllSame L) ∧ Below w.heap.size w wr)
  case atStart =>
    refine ⟨[(v, u)], _, w.heap.size + 1 + 1, 1, rfl, hwt.out, rfl, ?_, hst.out, hall.out, ((below_alloc _ _).alloc (by simp) _).alloc (by simp; omega) _⟩
    have := World.ownsRow_lit (base := w.heap.size) (e := 50) (size := 8) ((w.alloc (Obj.cells #[Value.int IntKind.i64 y0, Value.string y1, Value.slice y2 y4 y5, Value.slice y3 y6 y7] 37)).alloc (Obj.cells #[Value.int IntKind.i64 z0, Value.string z1, Value.slice z2 z4 z5, Value.slice z3 z6 z7] 37)) #[Value.int IntKind.i64 y0, Value.string y1, Value.slice y2 y4 y5, Value.slice y3 y6 y7, Value.int IntKind.i64 z0, Value.string z1, Value.slice z2 z4 z5, Value.slice z3 z6 z7] 1 (by simp; omega) (by decide) rfl
    simpa using this
  case round =>
    clear hst hall hwt
    obtain ⟨L, xs, g, cap, hgk, hwt, rfl, hown, hst, hall, hbel⟩ := hrel
    have hlen := weight_length L
    cases L with
    | nil =>
      go_wp2
      go_ret
      exact ⟨true, rfl, by rw [hall]; simp [AllSame], hbel⟩
    | cons pp L =>
      obtain ⟨va, vb⟩ := pp
      obtain ⟨ys, c0, c1, c2, c3, d0, d1, d2, d3, rfl, ha, hb, hst⟩ := hst
      obtain ⟨y0, y1, y2, y3, y4, y5, y6, y7, rfl, rfl, rfl, rfl⟩ := At.form ha
      obtain ⟨z0, z1, z2, z3, z4, z5, z6, z7, rfl, rfl, rfl, rfl⟩ := At.form hb
      have hyl := hst.length
      have hcut := own_cut hown hyl
      rw [List.length_cons] at hown hlen
      obtain ⟨n, hn⟩ : ∃ n, L.length = n := ⟨_, rfl⟩
      rw [hn] at hown hlen hcut hyl
      rw [List.length_cons, hn]
      have cellj : ∀ j, j < 8 → wr.cell? ⟨g, n * 8 + j, none⟩ = [Value.int .i64 y0, .string y1, .slice y2 y4 y5, .slice y3 y6 y7, .int .i64 z0, .string z1, .slice z2 z4 z5, .slice z3 z6 z7][j]? := fun j hj => by
        rw [hown.cellAt _ (by omega), List.getElem?_append_right (by omega), hyl, Nat.add_sub_cancel_left]
      have e0 : wr.cell? ⟨g, n * 8, none⟩ = some (.int .i64 y0) := cellj 0 (by omega)
      have e1 : wr.cell? ⟨g, n * 8 + 1, none⟩ = some (.string y1) := cellj 1 (by omega)
      have e2 : wr.cell? ⟨g, n * 8 + 2, none⟩ = some (.slice y2 y4 y5) := cellj 2 (by omega)
      have e3 : wr.cell? ⟨g, n * 8 + 3, none⟩ = some (.slice y3 y6 y7) := cellj 3 (by omega)
      have e4 : wr.cell? ⟨g, n * 8 + 4, none⟩ = some (.int .i64 z0) := cellj 4 (by omega)
      have e5 : wr.cell? ⟨g, n * 8 + 4 + 1, none⟩ = some (.string z1) := cellj 5 (by omega)
      have e6 : wr.cell? ⟨g, n * 8 + 4 + 2, none⟩ = some (.slice z2 z4 z5) := cellj 6 (by omega)
      have e7 : wr.cell? ⟨g, n * 8 + 4 + 3, none⟩ = some (.slice z3 z6 z7) := cellj 7 (by omega)
      have e8 : wr.cell? ⟨g, n * 8 + 5, none⟩ = some (.string z1) := cellj 5 (by omega)
      have e9 : wr.cell? ⟨g, n * 8 + 6, none⟩ = some (.slice z2 z4 z5) := cellj 6 (by omega)
      have e10 : wr.cell? ⟨g, n * 8 + 7, none⟩ = some (.slice z3 z6 z7) := cellj 7 (by omega)
      clear cellj
      have old1 : ∀ {j : Nat} {x : Value}, wr.cell? ⟨g, j, none⟩ = some x → ∀ o, (wr.alloc o).cell? ⟨g, j, none⟩ = some x := fun h o => (World.cell?_of_block (Below.heap_alloc wr o g (World.block_lt_of_cell? wr _ h))).trans h
      have old2 : ∀ {j : Nat} {x : Value}, wr.cell? ⟨g, j, none⟩ = some x → ∀ o o', ((wr.alloc o).alloc o').cell? ⟨g, j, none⟩ = some x := fun h o o' => (World.cell?_of_block (Below.heap_alloc _ o' g (World.block_lt_of_cell? _ _ (old1 h o)))).trans (old1 h o)
      have a0 := old2 e0
      have a1 := old2 e1
      have a2 := old2 e2
      have a3 := old2 e3
      have a4 := old2 e4
      have a5 := old2 e5
      have a6 := old2 e6
      have a7 := old2 e7
      have a8 := old2 e8
      have a9 := old2 e9
      have a10 := old2 e10
      have b0 := old1 e0
      have b1 := old1 e1
      have b2 := old1 e2
      have b3 := old1 e3
      have b4 := old1 e4
      have b5 := old1 e5
      have b6 := old1 e6
      have b7 := old1 e7
      have b8 := old1 e8
      have b9 := old1 e9
      have b10 := old1 e10
      clear old1 old2
      have hgb := own_block hown
      have HO : Hid (wr.ownsRow w.heap.size 50 8 (.slice (some ⟨g, 0, none⟩) n cap) n ys) := hcut
      have HA : Hid (S ↔ AllSame ((va, vb) :: L)) := hall
      have HK : Hid (gk = weight ((va, vb) :: L) ∧ L.length = n) := ⟨hgk, hn⟩
      have hcap : n + 1 ≤ cap := by
        rcases hown.2 with ⟨h, -⟩ | ⟨g', cap', cur, hv, hB, hg, h1, h2, h3, h4⟩
        · cases h
        · simp only [Value.slice.injEq, Option.some.injEq, Addr.mk.injEq, true_and, and_true] at hv
          omega
      have hcapm : cap ≤ maxLen := by
        rcases hown.2 with ⟨h, -⟩ | ⟨g', cap', cur, hv, hB, hg, h1, h2, h3, h4⟩
        · cases h
        · simp only [Value.slice.injEq, Option.some.injEq, Addr.mk.injEq, true_and, and_true] at hv
          omega
      unfold maxLen at hcapm
      clear hgk hn hall hcut hown
      have i1 : ((n + 1 : Nat) : Int) - 1 = (n : Int) := by omega
      have i2 : (0 : Int) ≤ (n : Int) := by omega
      have i3 : (n : Int) < ((n + 1 : Nat) : Int) := by omega
      have i5 : (n : Int) < (n : Int) + 1 := by omega
      have i4 : ((n + 1 : Nat) : Int) > 0 := by omega
      go_upto_region 4 with fail
      go_cut [7, 8] (fun p q wx => ∃ P Q : Nat, p = .pointer (some ⟨P, 0, none⟩) ∧ q = .pointer (some ⟨Q, 0, none⟩) ∧ wx.heap[P]? = some (Obj.cells #[Value.int .i64 y0, .string y1, .slice y2 y4 y5, .slice y3 y6 y7] 37) ∧ wx.heap[Q]? = some (Obj.cells #[Value.int .i64 z0, .string z1, .slice z2 z4 z5, .slice z3 z6 z7] 37) ∧ Below wr.heap.size wr wx)
      case first =>
        go_region
        all_goals go_wp2
        all_goals go_meet
        case' rel => exact ⟨_, _, rfl, rfl, two0 _ _ _, two1 _ _ _, twob _ _ _⟩
        case' rel => exact ⟨_, _, rfl, rfl, two1 _ _ _, two0 _ _ _, twob _ _ _⟩
      case rest =>
        clear a0 a1 a2 a3 a4 a5 a6 a7 a8 a9 a10 b0 b1 b2 b3 b4 b5 b6 b7 b8 b9 b10 e0 e1 e2 e3 e4 e5 e6 e7 e8 e9 e10
        obtain ⟨P, Q, hp, hq, hP, hQ, hb2⟩ := hcut
        subst hp hq
        have bw := hbel.trans (hb2.mono hbel.size)
        have ha2 := At.below bw _ ha
        have hb3 := At.below bw _ hb
        have p0 : wc.cell? ⟨P, 0, none⟩ = some (.int .i64 y0) := by rw [cell_of hP]; rfl
        have p1 : wc.cell? ⟨P, 1, none⟩ = some (.string y1) := by rw [cell_of hP]; rfl
        have p2 : wc.cell? ⟨P, 2, none⟩ = some (.slice y2 y4 y5) := by rw [cell_of hP]; rfl
        have p3 : wc.cell? ⟨P, 3, none⟩ = some (.slice y3 y6 y7) := by rw [cell_of hP]; rfl
        have q0 : wc.cell? ⟨Q, 0, none⟩ = some (.int .i64 z0) := by rw [cell_of hQ]; rfl
        have q1 : wc.cell? ⟨Q, 1, none⟩ = some (.string z1) := by rw [cell_of hQ]; rfl
        have q2 : wc.cell? ⟨Q, 2, none⟩ = some (.slice z2 z4 z5) := by rw [cell_of hQ]; rfl
        have q3 : wc.cell? ⟨Q, 3, none⟩ = some (.slice z3 z6 z7) := by rw [cell_of hQ]; rfl
        have HP : Hid (wc.heap[P]? = some (Obj.cells #[Value.int .i64 y0, .string y1, .slice y2 y4 y5, .slice y3 y6 y7] 37)) := hP
        have HQ : Hid (wc.heap[Q]? = some (Obj.cells #[Value.int .i64 z0, .string z1, .slice z2 z4 z5, .slice z3 z6 z7] 37)) := hQ
        clear hP hQ
        have cB := besideC va vb wc _ _ _ _ _ _ _ _ ha2 hb3
        have j1 : (n : Int) ≤ (cap : Int) := by omega
        go_wp2_with fail
        refine cB.mono ?_
        rintro e w1 ⟨r, rfl, hr, hb4⟩
        clear cB
        have bw1 := below_trans bw hb4
        cases r with
        | false =>
          have hno : ¬ S := fun hh => by
            have h1 := (HA.out.1 hh) (va, vb) (by simp)
            have h2 := hr.2 ((same_iff va vb).1 h1).1
            cases h2
          clear hr
          go_wp2
          go_ret
          exact ⟨false, rfl, by simp [hno], bw1⟩
        | true =>
          have HB : Hid (Beside va vb) := hr.1 rfl
          clear hr
          cases va with
          | no => exact ha.elim
          | mk ka ta na ita ma nma =>
          cases vb with
          | no => exact hb.elim
          | mk kb tb nb itb mb nmb =>
          obtain ⟨-, -, -, hIa, -⟩ := At_mk.1 ha
          obtain ⟨-, -, -, hIb, -⟩ := At_mk.1 hb
          obtain rfl := its_len hIa
          obtain rfl := its_len hIb
          have g1 := (hb4.block _ (lt_of HP.out)).trans HP.out
          have g2 := (hb4.block _ (lt_of HQ.out)).trans HQ.out
          have p2 : w1.cell? ⟨P, 2, none⟩ = some (.slice y2 y4 y5) := by rw [cell_of g1]; rfl
          have q2 : w1.cell? ⟨Q, 2, none⟩ = some (.slice z2 z4 z5) := by rw [cell_of g2]; rfl
          by_cases hyz : y4 = z4
          case neg =>
            have hyz2 : ((y4 : Int) != (z4 : Int)) = true := by simp; omega
            have hno : ¬ S := fun hh => by
              have h1 := (HA.out.1 hh) (V.mk ka ta y4 ita ma nma, V.mk kb tb z4 itb mb nmb) (by simp)
              exact hyz ((same_iff _ _).1 h1).2.1
            go_wp2
            go_ret
            exact ⟨false, rfl, by simp [hno], bw1⟩
          subst hyz
          have HO1 : Hid (w1.ownsRow w.heap.size 50 8 (.slice (some ⟨g, 0, none⟩) n cap) n ys) := own_below (own_below HO.out hb2) hb4
          have HG : Hid (w1.heap[P]? = some (Obj.cells #[Value.int .i64 y0, .string y1, .slice y2 y4 y5, .slice y3 y6 y7] 37) ∧ w1.heap[Q]? = some (Obj.cells #[Value.int .i64 z0, .string z1, .slice z2 y4 z5, .slice z3 z6 z7] 37)) := ⟨g1, g2⟩
          have hy63 : y4 ≤ maxLen := by obtain ⟨_, _, _, h, _⟩ := hIa; exact h
          unfold maxLen at hy63
          have HW : Hid (weight ((V.mk ka ta y4 ita ma nma, V.mk kb tb y4 itb mb nmb) :: L) ≤ 1048577) := hwt
          clear HO HP HQ g1 g2 ha2 hb3 ha hb hb2 hb4 hbel bw hwt hlen
          go_wp2
          clear p2 q2
          go_loopw [5, 49] (fun q i wx => ∃ (p : Nat) (xs : List Value) (g cap : Nat), p ≤ y4 ∧ i = .int .i64 p ∧ q = .slice (some ⟨g, 0, none⟩) (n + p) cap ∧ wx.ownsRow w.heap.size 50 8 (.slice (some ⟨g, 0, none⟩) (n + p) cap) (n + p) xs ∧ Stack w (kids ita itb L p) xs ∧ wx.heap[P]? = some (Obj.cells #[Value.int .i64 y0, .string y1, .slice y2 y4 y5, .slice y3 y6 y7] 37) ∧ wx.heap[Q]? = some (Obj.cells #[Value.int .i64 z0, .string z1, .slice z2 y4 z5, .slice z3 z6 z7] 37) ∧ Below w.heap.size w wx) (fun _ i _ => y4 - (intOf i).toNat)
          case atStart => exact ⟨0, ys, g, cap, Nat.zero_le _, rfl, rfl, HO1.out, hst, HG.out.1, HG.out.2, bw1⟩
          case round =>
            clear HO1 HG hst bw1 hgb
            obtain ⟨p, xs, g, cap, hp, rfl, rfl, hown, hst, hP, hQ, hbel⟩ := hrel
            have HP : Hid (wr.heap[P]? = some (Obj.cells #[Value.int .i64 y0, .string y1, .slice y2 y4 y5, .slice y3 y6 y7] 37)) := hP
            have HQ : Hid (wr.heap[Q]? = some (Obj.cells #[Value.int .i64 z0, .string z1, .slice z2 y4 z5, .slice z3 z6 z7] 37)) := hQ
            clear hP hQ
            have hkw : n + p ≤ 1048577 := by
              have h1 := HW.out
              have h2 := weight_length (kids ita itb L p)
              rw [kids_length, kids_weight, HK.out.2] at h2
              simp only [weight, nodes_mk] at h1
              have h3 := sumTo_le (fun i => nodes (ita i)) hp
              omega
            by_cases hlt : p < y4
            · have k0 : (0 : Int) ≤ (p : Int) := by omega
              have k1 : (p : Int) < (y4 : Int) := by omega
              obtain ⟨A1, cap1, e1, -, hc⟩ := hIa
              obtain ⟨b, o, c0, c1, c2, c3, e2, hf, hat⟩ := hc p hlt
              simp only [Value.slice.injEq] at e1
              obtain ⟨e3, -, e4⟩ := e1
              subst e3 e4
              subst e2
              clear hc
              obtain ⟨A1, cap1, e1, -, hc⟩ := hIb
              obtain ⟨b', o', d0, d1, d2, d3, e2, hf', hat'⟩ := hc p hlt
              simp only [Value.slice.injEq] at e1
              obtain ⟨e3, -, e4⟩ := e1
              subst e3 e4
              subst e2
              clear hc
              obtain ⟨f0, f1, f2, f3⟩ := hf.below hbel
              obtain ⟨g0, g1, g2, g3⟩ := hf'.below hbel
              clear hf hf'
              obtain ⟨s0, s1, s2, s3, s4, s5, s6, s7, rfl, rfl, rfl, rfl⟩ := At.form hat
              obtain ⟨t0, t1, t2, t3, t4, t5, t6, t7, rfl, rfl, rfl, rfl⟩ := At.form hat'
              have p2 : wr.cell? ⟨P, 2, none⟩ = some (.slice (some ⟨b, o, none⟩) y4 y5) := by rw [cell_of HP.out]; rfl
              have q2 : wr.cell? ⟨Q, 2, none⟩ = some (.slice (some ⟨b', o', none⟩) y4 z5) := by rw [cell_of HQ.out]; rfl
              have n1 : ∀ u ∈ [Value.int .i64 s0, .string s1, .slice s2 s4 s5, .slice s3 s6 s7, .int .i64 t0, .string t1, .slice t2 t4 t5, .slice t3 t6 t7], u.oneCell' = true := by
                intro u hu; simp at hu; rcases hu with rfl | rfl | rfl | rfl | rfl | rfl | rfl | rfl <;> rfl
              obtain ⟨i0, hi, hzz⟩ := Option.map_eq_some_iff.1 infoP
              simp only [Prod.mk.injEq] at hzz
              obtain ⟨hz0, hz1, hz2⟩ := hzz
              have n2 : n + p + 1 ≤ maxLen := by unfold maxLen; omega
              have hsz := hbel.size
              go_wp2
              go_region_law (refine step_append_lies _ rfl (.tmp 52) (.tmp 64) 51 rfl w.heap.size 50 i0 zeroP 8 144 Try.underlying51 hi hz0 hz1 hz2 rfl (by decide) _ _ _ (by simp [Act.eval]) (hown.alloc _) ⟨wr.heap.size, 0, none⟩ 1 1 [.int .i64 s0, .string s1, .slice s2 s4 s5, .slice s3 s6 s7, .int .i64 t0, .string t1, .slice t2 t4 t5, .slice t3 t6 t7] (by simp [Act.eval]) rfl (World.news_of_block (cs := #[.int .i64 s0, .string s1, .slice s2 s4 s5, .slice s3 s6 s7, .int .i64 t0, .string t1, .slice t2 t4 t5, .slice t3 t6 t7]) (t := 50) (fr := (0, 0)) (heap_alloc_new wr _)) n1 (by decide) n2 (by omega) (by simp; omega) (wr.heap.size + 1) (by simp) ?_; intro g2 cap2 w2 hown2 hgrow hat2 hlt2)
              all_goals
                obtain ⟨hbel2, hkeep⟩ := push_step (by decide) hown (by first | exact below_alloc _ _ | exact (below_alloc _ _).drew) hgrow hbel
                have HP2 : Hid (w2.heap[P]? = some (Obj.cells #[Value.int .i64 y0, .string y1, .slice (some ⟨b, o, none⟩) y4 y5, .slice y3 y6 y7] 37)) := hkeep _ _ HP.out
                have HQ2 : Hid (w2.heap[Q]? = some (Obj.cells #[Value.int .i64 z0, .string z1, .slice (some ⟨b', o', none⟩) y4 z5, .slice z3 z6 z7] 37)) := hkeep _ _ HQ.out
                have HO2 := Lib.hid hown2
                have HS2 : Hid (Stack w (kids ita itb L (p + 1)) (xs ++ [.int .i64 s0, .string s1, .slice s2 s4 s5, .slice s3 s6 s7, .int .i64 t0, .string t1, .slice t2 t4 t5, .slice t3 t6 t7])) := ⟨xs, _, _, _, _, _, _, _, _, rfl, hat, hat', hst⟩
                clear hown2 hgrow hkeep hat2 hlt2 hown HP HQ
                go_wp2
                go_roundw
                case rel => exact ⟨p + 1, _, _, _, by omega, by go_num, rfl, HO2.out, HS2.out, HP2.out, HQ2.out, hbel2⟩
                case measure => simp [intOf]; omega
            · obtain rfl : p = y4 := by omega
              have HO := Lib.hid hown
              have hw1 := HW.out
              have hsum := kids_weight ita itb L p
              have hAll : S ↔ AllSame (kids ita itb L p) := by
                rw [HA.out, kids_same]
                simp only [AllSame, List.mem_cons, forall_eq_or_imp]
                rw [same_iff]
                constructor
                · rintro ⟨⟨-, -, h1⟩, h2⟩; exact ⟨h2, h1⟩
                · rintro ⟨h2, h1⟩; exact ⟨⟨HB.out, rfl, h1⟩, h2⟩
              have HL := Lib.hid (kids_length ita itb L p)
              have HAl := Lib.hid hAll
              have hk1 := HK.out
              have HWt : Hid (weight (kids ita itb L p) < gk ∧ weight (kids ita itb L p) ≤ 1048577) := by
                rw [hsum, hk1.1]; simp only [weight, nodes_mk] at hw1 ⊢
                exact ⟨by omega, by omega⟩
              clear hown hsum hAll hk1 hw1
              go_wp2
              go_roundg (weight (kids ita itb L p))
              case measure => exact HWt.out.1
              case rel =>
                refine ⟨kids ita itb L p, xs, g, cap, rfl, HWt.out.2, ?_, ?_, hst, HAl.out, hbel⟩
                · rw [HL.out, HK.out.2]
                · rw [HL.out, HK.out.2]; exact HO.out
end Va
end Go.Proofs.Ytjbagkoggmmnfaa
