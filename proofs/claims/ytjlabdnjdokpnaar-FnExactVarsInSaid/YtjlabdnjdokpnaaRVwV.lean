/- What is proved: the law of VarsIn, walked: the program's answer is the model's, in memory of its own, and nothing that was handed in has turned. -/
import Derived.Test.YtjlabdnjdokpnaaRVj
import Derived.Test.YtjlabdnjdokpnaaRVt
import Derived.Test.YtjlabdnjdokpnaaRVh
import Derived.Deep.DeepCutAuto
import Derived.Deep.CutBlock
namespace Go.Proofs.YtjlabdnjdokpnaaR
namespace Va
open Go.RowKit
attribute [local go_sem ↓] Go.wp_at_zero Go.wp_at_succ

theorem strCB (N : List ByteArray) : Tx.strC (N.map fun b => b.data.toList) = strB N := by
  simp [Tx.strC, strB]
theorem row_same {w w' : World} {B g c : Nat} {N : List ByteArray} (h : Row w B g c N) (hb : w'.heap[g]? = w.heap[g]?) : Row w' B g c N := by
  refine ⟨h.1, ?_⟩
  rcases h.2 with ⟨h0, -⟩ | ⟨g', cap, cur, hv, hB, hg, hr⟩
  · cases h0
  · have e : g = g' := by simp only [Value.slice.injEq, Option.some.injEq, Addr.mk.injEq, and_true] at hv; exact hv.1
    subst e
    exact .inr ⟨g, cap, cur, hv, hB, hb.trans hg, hr⟩
theorem row_cap {w : World} {B e g n c : Nat} {xs : List Value} (h : w.ownsRow B e 1 (.slice (some ⟨g, 0, none⟩) n c) n xs) : n ≤ c ∧ c ≤ maxLen := by
  rcases h.2 with ⟨h, -⟩ | ⟨g', cap', cur, hv, hB, hg, h1, h2, h3, h4⟩
  · cases h
  · simp only [Value.slice.injEq, Option.some.injEq, Addr.mk.injEq, true_and, and_true] at hv
    omega
theorem eqR {w : World} {B1 B2 g1 g2 c1 c2 : Nat} {N : List ByteArray} (hs : N.length ≤ 2097152) (h1 : Row w B1 g1 c1 N) (h2 : Row w B2 g2 c2 N) :
    Calls Try.prog 15 #[.slice (some ⟨g1, 0, none⟩) N.length c1, .slice (some ⟨g2, 0, none⟩) N.length c2] w fun e w' => e = .returned (.bool true) ∧ Below w.heap.size w w' :=
  (Tx.eqC (N.map fun b => b.data.toList) N.length B1 B2 g1 g2 c1 c2 w (by simp) hs (by rw [strCB]; exact h1) (by rw [strCB]; exact h2)).mono fun e w' ⟨he, k, hk⟩ => ⟨he, by rw [hk]; exact below_drewN _ _⟩

set_option maxHeartbeats 8000000 in
theorem walkFnExactVarsIn (v : V) (w : World) (c0 c1 c2 c3 : Value) (h : At w v c0 c1 c2 c3) :
    Calls Try.prog 5 #[.agg #[c0, c1, c2, c3]] w fun e w' => e = .returned (.bool true) ∧ Below w.heap.size w w' := by
  obtain ⟨W1, hW1⟩ : ∃ W1, w.alloc (Obj.cells #[c0, c1, c2, c3] 25) = W1 := ⟨_, rfl⟩
  have ba : Below w.heap.size w W1 := by rw [← hW1]; exact below_alloc _ _
  have hB0 : W1.heap[w.heap.size]? = some (Obj.cells #[c0, c1, c2, c3] 25) := by rw [← hW1]; exact heap_alloc_new w _
  have HA := Lib.hid h
  have cz : Calls Try.prog 6 #[.agg #[c0, c1, c2, c3], .int .i64 1048576] W1 fun e w' => e = .returned (.int .i64 (left 1048576 (sz v))) ∧ Below W1.heap.size W1 w' := szV v W1 1048576 c0 c1 c2 c3 (Nat.le_refl _) (At.below ba v h)
  have K0 := Lib.hid hB0
  have kl := lt_of hB0
  clear h hB0
  obtain ⟨p0, p1, p2, p3⟩ := keep4 (Below.refl _ _) K0.out
  go_enter Try.func5, Try.ntmps5
  go_wp2_with fail
  clear hW1 p0 p1 p2 p3
  refine cz.mono ?_
  rintro e w1 ⟨rfl, hb1⟩
  clear cz
  by_cases hv : sz v ≤ 1048576
  case neg =>
    rw [show left 1048576 (sz v) = -1 from by rw [left, if_neg hv]]
    go_wp2
    go_ret
    exact ⟨rfl, below_trans ba hb1⟩
  obtain ⟨L, hL⟩ : ∃ L : Nat, ((1048576 : Nat) : Int) - (sz v : Int) = (L : Int) := ⟨1048576 - sz v, by omega⟩
  rw [show left 1048576 (sz v) = (L : Int) from by rw [left, if_pos hv, hL]]
  have hL0 : ¬ (L : Int) < 0 := by omega
  clear hL
  have cT : ∀ x, Below w.heap.size w x → Calls Try.prog 8 #[.agg #[c0, c1, c2, c3]] x fun e w' => ∃ d0 d1 d2 d3, e = .returned (.agg #[d0, d1, d2, d3]) ∧ Own w' v x.heap.size w'.heap.size d0 d1 d2 d3 ∧ Below x.heap.size x w' :=
    fun x hx => toV v x c0 c1 c2 c3 hv (At.below hx v HA.out)
  obtain ⟨N, hN⟩ : ∃ N, vars v [] = N := ⟨_, rfl⟩
  have hNl : N.length ≤ 1048577 := by
    have h1 := (vars_length v []).1
    have h2 := nodes_sz v
    rw [hN] at h1; simp at h1; omega
  have cS : ∀ (x : World) (d0 d1 d2 d3 : Value), At x v d0 d1 d2 d3 → Calls Try.prog 13 #[.agg #[d0, d1, d2, d3]] x fun e w' => ∃ g c, e = .returned (.slice (some ⟨g, 0, none⟩) N.length c) ∧ Row w' x.heap.size g c N ∧ Below x.heap.size x w' :=
    fun x d0 d1 d2 d3 hat => by rw [← hN]; exact varsS v x d0 d1 d2 d3 (by have := nodes_sz v; omega) hat
  have cI : ∀ (x : World) (d0 d1 d2 d3 : Value), At x v d0 d1 d2 d3 → Calls Try.prog 14 #[.agg #[d0, d1, d2, d3]] x fun e w' => ∃ g c, e = .returned (.slice (some ⟨g, 0, none⟩) N.length c) ∧ Row w' x.heap.size g c N ∧ Below x.heap.size x w' :=
    fun x d0 d1 d2 d3 hat => by rw [← hN]; exact varsI v x d0 d1 d2 d3 hv hat
  clear hN
  obtain ⟨p0, p1, p2, p3⟩ := keep4 hb1 K0.out
  have bb1 := below_trans ba hb1
  go_wp2_with fail
  refine (cT w1 bb1).mono ?_
  rintro e w2 ⟨i0, i1, i2, i3, rfl, hown2, hb2⟩
  clear p0 p1 p2 p3
  go_wp2_with fail
  refine (cS w2 _ _ _ _ (Own.at v hown2)).mono ?_
  rintro e w3 ⟨g0, k0, rfl, hrow0, hb3⟩
  clear hown2
  have hg0 : w2.heap.size ≤ g0 ∧ g0 < w3.heap.size := by obtain ⟨h1, cur, h2⟩ := own_block hrow0; exact ⟨h1, lt_of h2⟩
  have hcap0 := row_cap hrow0
  have hb13 := below_trans hb1 (below_trans hb2 hb3)
  have bb3 := below_trans ba hb13
  obtain ⟨p0, p1, p2, p3⟩ := keep4 hb13 K0.out
  go_wp2_with fail
  refine (cT w3 bb3).mono ?_
  rintro e w4 ⟨j0, j1, j2, j3, rfl, hown, hb4⟩
  clear p0 p1 p2 p3
  have hb14 := below_trans hb13 hb4
  have bb4 := below_trans bb3 hb4
  have hrow4 : Row w4 w2.heap.size g0 k0 N := own_below hrow0 hb4
  obtain ⟨s0, s1, s2, s3, s4, s5, s6, s7, rfl, rfl, rfl, rfl⟩ := At.form (Own.at v hown)
  have aa4 := below_alloc w4 (Obj.cells #[Value.int .i64 s0, .string s1, .slice s2 s4 s5, .slice s3 s6 s7] 30)
  have hat4 := At.below aa4 v (Own.at v hown)
  go_wp2_with fail
  refine (cI _ _ _ _ _ hat4).mono ?_
  rintro e w5 ⟨g1, k1, rfl, hrow1, hb5⟩
  have h45 := below_trans aa4 hb5
  have hrow05 : Row w5 w2.heap.size g0 k0 N := own_below hrow4 h45
  have X5 : Hid (w5.heap[w4.heap.size]? = some (Obj.cells #[Value.int .i64 s0, .string s1, .slice s2 s4 s5, .slice s3 s6 s7] 30)) := (hb5.block _ (by simp)).trans (heap_alloc_new w4 _)
  have hg1 : w4.heap.size < g1 := by obtain ⟨h1, -⟩ := own_block hrow1; simp at h1; omega
  have hcap1 := row_cap hrow1
  have hb15 := below_trans hb14 h45
  have bb5 := below_trans bb4 h45
  clear hrow0 hrow4 hat4
  go_wp2_with fail
  refine (eqR (by omega) hrow1 hrow05).mono ?_
  rintro e w6 ⟨rfl, hb6⟩
  have hs12 := hb2.size
  have hs34 := hb4.size
  have hs56 := hb6.size
  have h46 := below_trans h45 hb6
  have hs46 : w4.heap.size < w5.heap.size := lt_of X5.out
  have own6 : Hid (Own w6 v w3.heap.size w4.heap.size (.int .i64 s0) (.string s1) (.slice s2 s4 s5) (.slice s3 s6 s7)) := Own.same v hown fun b b1 b2 => h46.block b b2
  have row06 : Hid (Row w6 w2.heap.size g0 k0 N) := own_below hrow05 hb6
  have row16 := Lib.hid (own_below hrow1 hb6)
  have X6 := Lib.hid ((hb6.block _ (lt_of X5.out)).trans X5.out)
  have hb16 := below_trans hb15 hb6
  have bb6 := below_trans bb5 hb6
  have hg1l : g1 < w5.heap.size := by obtain ⟨-, cur, h2⟩ := own_block hrow1; exact lt_of h2
  have hlw : w.heap.size < w3.heap.size := by have := hb13.size; omega
  clear hrow05 hrow1 hown X5 h45 h46 hb15 bb5 hb14 bb4 hb6
  obtain ⟨p0, p1, p2, p3⟩ := keep4 hb16 K0.out
  obtain ⟨q0, q1, q2, q3⟩ := keep4 (Below.refl _ w6) X6.out
  go_upto_region 10 with fail
  go_cut [31] (fun r wc => r = .bool false ∧ Below w6.heap.size w6 wc)
  case first =>
    go_region_with (first
      | (go_at_call 10; refine (eqV v _ _ _ _ _ _ _ _ _ (At.below hx2 v (Own.at v own6.out)) (Own.at v hx0)).mono ?_; rintro e x3 ⟨rfl, hx3⟩)
      | (go_at_call_of 8 c0; refine (cT _ bb6.drew).mono ?_; rintro e x1 ⟨i0, i1, i2, i3, rfl, hx0, hx1⟩; have hx2 := below_trans (below_drew _) hx1; obtain ⟨m0, m1, m2, m3⟩ := keep4 hx2 X6.out))
    all_goals go_wp2
    all_goals go_meet
    all_goals exact ⟨rfl, below_trans hx2 hx3⟩
  case rest =>
    obtain ⟨hr0, hb7⟩ := hcut
    subst hr0
    rename World => w7
    clear p0 p1 p2 p3 q0 q1 q2 q3
    have hs67 := hb7.size
    have own7 : Own w7 v w3.heap.size w4.heap.size (.int .i64 s0) (.string s1) (.slice s2 s4 s5) (.slice s3 s6 s7) := Own.same v own6.out fun b b1 b2 => hb7.block b (by omega)
    obtain ⟨q0, q1, q2, q3⟩ := keep4 hb7 X6.out
    have cM := markV v w7 w3.heap.size w4.heap.size _ _ _ _ hv (by omega) own7
    go_wp2_with fail
    refine cM.mono ?_
    rintro e w8 ⟨rfl, ho8⟩
    clear cM q0 q1 q2 q3 own7 own6
    have hs78 := ho8.size
    have row08 : Row w8 w2.heap.size g0 k0 N := row_same (row_same row06.out (hb7.block g0 (by omega))) (ho8.block g0 (by omega) (.inl hg0.2))
    have row18 : Row w8 _ g1 k1 N := row_same (row_same row16.out (hb7.block g1 (by omega))) (ho8.block g1 (by omega) (.inr (by omega)))
    have bb7 := below_trans bb6 hb7
    have bb8 : Below w.heap.size w w8 := ⟨ho8.os.trans bb7.os, ho8.tape.trans bb7.tape, ho8.output.trans bb7.output, Nat.le_trans bb7.size ho8.size, fun b hb => (ho8.block b (by have := bb7.size; omega) (.inl (by omega))).trans (bb7.block b hb)⟩
    have K8 : Hid (w8.heap[w.heap.size]? = some (Obj.cells #[c0, c1, c2, c3] 25)) := (ho8.block _ (by omega) (.inl hlw)).trans (((below_trans hb16 hb7).block _ kl).trans K0.out)
    have hmk : ¬ ((1 + mkv v : Nat) : Int) < 0 := by omega
    have hmk2 : ((1 + mkv v : Nat) : Int) ≤ 9000000 := by have := mkv_sz v; omega
    obtain ⟨M, hM⟩ : ∃ M : Nat, 1 + mkv v = M := ⟨_, rfl⟩
    rw [hM] at hmk hmk2 ⊢
    clear hM
    have cE := eqR (by omega) row18 row08
    go_wp2_with fail
    refine cE.mono ?_
    rintro e w9 ⟨rfl, hb9⟩
    clear cE
    have hs89 := hb9.size
    have row09 : Row w9 w2.heap.size g0 k0 N := own_below row08 hb9
    have row19 := own_below row18 hb9
    have cG : Calls Try.prog 17 #[.slice (some ⟨g1, 0, none⟩) N.length k1, .int .i64 1] w9 fun e w' => e = .returned (.int .i64 (1 + (N.length : Int))) ∧ w'.ownsRow _ 9 1 (.slice (some ⟨g1, 0, none⟩) N.length k1) N.length (Tx.marks 1 N.length) ∧ w9.grownBy w' (some g1) := marksG _ N.length 1 _ g1 k1 w9 (Nat.le_refl _) (by omega) row19
    go_wp2_with fail
    refine cG.mono ?_
    rintro e w10 ⟨rfl, hm10, hgr⟩
    clear cG row08 row18 row19
    have hs910 := hgr.size
    have row010 : Row w10 w2.heap.size g0 k0 N := row_same row09 (hgr.block g0 (by omega) (fun e => by have := Option.some.inj e; omega))
    have bb9 := below_trans bb8 hb9
    have bb10 : Below w.heap.size w w10 := bb9.grown hgr bb9.size (fun k hk => by have := Option.some.inj hk; omega)
    have K10 : Hid (w10.heap[w.heap.size]? = some (Obj.cells #[c0, c1, c2, c3] 25)) := (hgr.block _ (by omega) (fun e => by have := Option.some.inj e; omega)).trans ((hb9.block _ (by omega)).trans K8.out)
    have cH : Calls Try.prog 18 #[.slice (some ⟨g1, 0, none⟩) N.length k1, .int .i64 1] w10 fun e w' => e = .returned (.int .i64 (1 + (N.length : Int))) ∧ Below w10.heap.size w10 w' := Tx.heldC N.length 1 _ g1 k1 w10 (by omega) (Nat.le_refl _) (by omega) hm10
    clear row09 hgr K8
    go_wp2_with fail
    refine cH.mono ?_
    rintro e w11 ⟨rfl, hb11⟩
    clear cH
    have hq : ¬ 1 + (N.length : Int) < 0 := by omega
    have hqq : ((1 + (N.length : Int)) != (1 + (N.length : Int))) = false := by simp
    have bb11 := below_trans bb10 hb11
    obtain ⟨p0, p1, p2, p3⟩ := keep4 hb11 K10.out
    go_wp2_with fail
    refine (cT w11 bb11).mono ?_
    rintro e w12 ⟨m0, m1, m2, m3, rfl, hown12, hb12⟩
    clear p0 p1 p2 p3
    go_wp2_with fail
    refine (cI w12 _ _ _ _ (Own.at v hown12)).mono ?_
    rintro e w13 ⟨g3, k3, rfl, hrow3, hb13'⟩
    have hcap3 := row_cap hrow3
    have h1013 := below_trans hb11 (below_trans hb12 hb13')
    have row013 : Row w13 w2.heap.size g0 k0 N := own_below row010 h1013
    have hm13 := own_below hm10 h1013
    have bb13 := below_trans bb10 h1013
    go_wp2_with fail
    refine (eqR (by omega) hrow3 row013).mono ?_
    rintro e w14 ⟨rfl, hb14⟩
    have hm14 := own_below hm13 hb14
    have cH : Calls Try.prog 18 #[.slice (some ⟨g1, 0, none⟩) N.length k1, .int .i64 1] w14 fun e w' => e = .returned (.int .i64 (1 + (N.length : Int))) ∧ Below w14.heap.size w14 w' := Tx.heldC N.length 1 _ g1 k1 w14 (by omega) (Nat.le_refl _) (by omega) hm14
    go_wp2_with fail
    refine cH.mono ?_
    rintro e w15 ⟨rfl, hb15⟩
    clear cH
    go_wp2
    go_ret
    exact ⟨rfl, below_trans bb13 (below_trans hb14 hb15)⟩
end Va
end Go.Proofs.YtjlabdnjdokpnaaR
