/- What is proved: the program's BlockValue answers the plain function bv at every text of at most one million bytes. -/
import Derived.Test.YtaafgcnkedaonaaDoorMo
namespace Go.Proofs.YtaafgcnkedaonaaDoor
open Go.RowKit
attribute [local go_sem ↓] Go.wp_at_zero Go.wp_at_succ

/-- How long a list is: for a loop's measure. -/
def lenOf : Value → Nat | .slice _ l _ => l | _ => 0
theorem own_cap {w : World} {B e size g n c : Nat} {xs : List Value} (h : w.ownsRow B e size (.slice (some ⟨g, 0, none⟩) n c) n xs) : n ≤ c := by
  rcases h.2 with h0 | ⟨g', cap, cur, hv, -, -, h1, -⟩
  · cases h0.1
  · cases hv; exact h1
theorem own_lt {w : World} {B e size g n c : Nat} {xs : List Value} (h : w.ownsRow B e size (.slice (some ⟨g, 0, none⟩) n c) n xs) : g < w.heap.size := by
  rcases h.2 with h0 | ⟨g', cap, cur, hv, -, hg, -⟩
  · cases h0.1
  · cases hv
    rcases Nat.lt_or_ge g w.heap.size with hlt | hge
    · exact hlt
    · rw [Array.getElem?_eq_none hge] at hg; cases hg

set_option maxHeartbeats 4000000 in
set_option maxRecDepth 100000 in
theorem bvI (s : ByteArray) (w : World) (hz : s.size ≤ 1048576) (hml : Ml w) :
    Calls Tryd.prog 16 #[.string s] w fun e w' => e = .returned (.string ⟨(bv (ls s)).toArray⟩) ∧ Below w.heap.size w w' := by
  obtain ⟨L, HL⟩ : ∃ L, Hid (ln (ls s) = L) := ⟨_, rfl⟩
  have c0 := linI s w hz hml
  have HB : Hid (bv (ls s) = Lib.join (strip (cutAll (cutI (least L.tail)) L)) [10]) := by show _ = _; rw [bv_I, HL.out]
  have HM : Hid (∀ x ∈ L, x.length ≤ 1048576) := by
    intro x hx
    have := ln_mem_len (ls s) x (by rw [HL.out]; exact hx)
    rw [ls_len] at this; omega
  have HN0 : 1 ≤ L.length := by
    have := ln_ne (ls s); rw [HL.out] at this
    cases L with
    | nil => exact absurd rfl this
    | cons _ _ => simp
  have HN1 : L.length ≤ 1048577 := by have h := ln_len (ls s); rw [HL.out, ls_len] at h; omega
  rw [HB.out, HL.out] at *
  obtain ⟨n, hn⟩ : ∃ n, L.length = n := ⟨_, rfl⟩
  rw [hn] at c0 HN0 HN1
  have HN := Lib.hid hn
  clear hn HL HB
  obtain ⟨T, hT⟩ : ∃ T, L.tail = T := ⟨_, rfl⟩
  rw [hT]
  have hTn : T.length = n - 1 := by rw [← hT, List.length_tail, HN.out]
  have HTx : Hid (∀ (j : Nat) (h : j < T.length) (h2 : 1 + j < L.length), T[j] = L[1 + j]) := by
    intro j h h2; subst hT; simp [Nat.add_comm 1 j]
  have HTm : Hid (∀ x ∈ T, x.length ≤ 1048576) := by subst hT; exact fun x hx => HM.out x (List.mem_of_mem_tail hx)
  clear hT
  obtain ⟨o, HLs⟩ : ∃ o, Hid (least T = o) := ⟨_, rfl⟩
  rw [HLs.out]
  obtain ⟨R, HR⟩ : ∃ R, Hid (Lib.join (strip (cutAll (cutI o) L)) [10] = R) := ⟨_, rfl⟩
  rw [HR.out]
  go_enter Tryd.func16, Tryd.ntmps16
  go_wp2_with fail
  refine c0.mono ?_
  rintro e w1 ⟨g, cap, rfl, hg, ho, hb1⟩
  clear c0
  have hnc := own_cap ho
  have hgl := own_lt ho
  have hs1 := hb1.size
  go_upto_region 2 with fail
  go_cut [4] (fun mv wc => ∃ p : Nat, mv = .func (.func 49) #[] #[.pointer (some ⟨p, 0, none⟩)] ∧ w1.heap.size ≤ p ∧ p < wc.heap.size ∧ wc.cell? ⟨p, 0, none⟩ = some (.int .i64 (lM o)) ∧ Below w1.heap.size w1 wc)
  case first =>
    by_cases hc : cap = 1
    · subst hc
      obtain rfl : n = 1 := by omega
      have hT0 : T = [] := List.length_eq_zero_iff.1 (by omega)
      subst hT0
      go_wp2_with fail
      refine (moI0 _ _ _).mono ?_
      rintro e w2 ⟨p, rfl, hp1, hp2, hp3, hb2⟩
      rw [HLs.out] at hp3
      go_wp2_with fail
      go_meet
      exact ⟨p, rfl, hp1, hp2, hp3, hb2⟩
    · have h10 : (1 : Int) ≤ (n : Int) := by omega
      have hc2 : ¬ (1 : Nat) = cap := by omega
      have HTc : Hid (∀ (j : Nat) (h : j < T.length), w1.cell? ⟨g, 1 + j, none⟩ = some (.string ⟨(T[j]).toArray⟩)) := by
        intro j h
        have h2 : 1 + j < L.length := by have := HN.out; omega
        rw [HTx.out j h h2]; exact row_at ho (1 + j) h2
      have cM := moI T g 1 (cap - 1) (n - 1) w1 hTn (by omega) hgl HTm HTc
      clear HTc
      go_wp2_with fail
      refine cM.mono ?_
      rintro e w2 ⟨p, rfl, hp1, hp2, hp3, hb2⟩
      rw [HLs.out] at hp3
      go_wp2_with fail
      go_meet
      exact ⟨p, rfl, hp1, hp2, hp3, hb2⟩
  case rest =>
    obtain ⟨p, hmv, hp1, hp2, hp3, hb2⟩ := hcut
    subst hmv
    have ho2 := Tx.own_below ho hb2
    have hb02 := hb1.trans (hb2.mono hs1)
    clear ho hb1 hb2 HTx HTm hTn HLs
    go_wp2_with fail
    -- the cut
    go_loopw [5] (fun i wr => ∃ (j : Nat) (M : List Bs), 1 ≤ j ∧ j ≤ n ∧ i = .int .i64 (j : Int) ∧ wr.ownsRow w.heap.size 9 1 (.slice (some ⟨g, 0, none⟩) n cap) n (Tx.strC M) ∧ Below w.heap.size w wr ∧ wr.cell? ⟨p, 0, none⟩ = some (.int .i64 (lM o)) ∧ Hid (Cut (cutI o) j L M)) (fun i _ => n - (intOf i).toNat)
    case atStart => exact ⟨1, L, Nat.le_refl _, HN0, rfl, ho2, hb02, hp3, cut_start _ _⟩
    case round =>
      obtain ⟨j, M, hj1, hj2, rfl, hoM, hbM, hpM, HC⟩ := hrel
      clear ho2 hb02 hp3
      by_cases hlt : j < n
      · have hk0 : (0 : Int) ≤ (j : Int) := by omega
        have hk3' : (j : Int) < (n : Int) := by omega
        have hkl : j < L.length := by rw [HN.out]; exact hlt
        have hkm : j < M.length := by rw [HC.out.1]; exact hkl
        have hcell := row_at hoM j hkm
        have hML := cut_at HC.out hkl hkm
        rw [hML] at hcell
        have hlx : L[j].length ≤ 1048576 := HM.out _ (List.getElem_mem hkl)
        obtain ⟨X, hX⟩ : ∃ X : ByteArray, ByteArray.mk (L[j]).toArray = X := ⟨_, rfl⟩
        have hXl : ls X = L[j] := by rw [← hX, mk_ls]
        have hXs : X.size = L[j].length := by rw [← hX, mk_size]
        rw [hX] at hcell
        have hXb : X.size ≤ 1048576 := by omega
        have cC := cutC X p o wr hXb hpM
        rw [hXl] at cC
        obtain ⟨Y, hY⟩ : ∃ Y : ByteArray, ByteArray.mk (cutI o L[j]).toArray = Y := ⟨_, rfl⟩
        rw [hY] at cC
        have hfz := hoM.frozenAt j
        have hst := hoM.stored j (.string Y)
        have e1 : Tx.strC (M.set j (cutI o L[j])) = (Tx.strC M).set j (.string Y) := by
          rw [← hY, Tx.strC, Tx.strC, List.map_set]
        have H1 : Hid ((wr.setCell ⟨g, j, none⟩ (.string Y)).ownsRow w.heap.size 9 1 (.slice (some ⟨g, 0, none⟩) n cap) n (Tx.strC (M.set j (cutI o L[j])))) := by rw [e1]; exact hst.1
        have H2 : Hid (Below w.heap.size w (wr.setCell ⟨g, j, none⟩ (.string Y))) := hbM.setCell hg _
        have H3 : Hid ((wr.setCell ⟨g, j, none⟩ (.string Y)).cell? ⟨p, 0, none⟩ = some (.int .i64 (lM o))) := by
          show _ = _
          rw [World.cell?_setCell_other _ _ _ _ (by intro e; have := congrArg Addr.block e; simp at this; omega)]; exact hpM
        have HC2 := Lib.hid (cut_step HC.out hj1 hkl)
        clear hX hML HC hoM hbM hXs hlx hst e1 hY hXl hpM
        go_wp2_with fail
        refine cC.mono ?_
        rintro e w2 ⟨rfl, rfl⟩
        go_wp2_with fail
        go_roundw
        case rel => exact ⟨j + 1, _, by omega, by omega, by go_num, H1.out, H2.out, H3.out, HC2⟩
        case measure => simp [intOf]; omega
      · obtain rfl : j = n := by omega
        have hMC : M = cutAll (cutI o) L := cut_end HC.out (by rw [HN.out]; exact Nat.le_refl _)
        have HMm : Hid (∀ x ∈ M, x.length ≤ 1048576) := by rw [hMC]; exact cutAll_small (cutI_len o) HM.out
        have HMn : Hid (M.length = j) := by show _ = _; rw [HC.out.1]; exact HN.out
        have HR2 : Hid (Lib.join (rstrip (M.dropWhile blank)) [10] = R) := by rw [hMC, ← strip_eq]; exact HR
        clear HC HR HM HN hMC hpM
        have hj3 : ¬ (j : Int) < (j : Int) := by omega
        go_upto_block 2 with fail
        -- blank lines ahead
        go_cut [3] (fun v wc => ∃ (f l c : Nat) (a : Option Addr), v = .slice a l c ∧ f + l = j ∧ l ≤ c ∧ (0 < l → a = some ⟨g, f, none⟩) ∧ wc.ownsRow w.heap.size 9 1 (.slice (some ⟨g, 0, none⟩) j cap) j (Tx.strC M) ∧ Below w.heap.size w wc ∧ Hid (Lib.join (rstrip (M.drop f)) [10] = R))
        case first =>
          go_wp2_with fail
          go_loopw [3] (fun v wr => ∃ (f l c : Nat) (a : Option Addr), v = .slice a l c ∧ f + l = j ∧ l ≤ c ∧ (0 < l → a = some ⟨g, f, none⟩) ∧ wr.ownsRow w.heap.size 9 1 (.slice (some ⟨g, 0, none⟩) j cap) j (Tx.strC M) ∧ Below w.heap.size w wr ∧ Hid (Lib.join (rstrip ((M.drop f).dropWhile blank)) [10] = R)) (fun v _ => lenOf v)
          case atStart => exact ⟨0, j, cap, _, rfl, by omega, hnc, fun _ => rfl, hoM, hbM, HR2⟩
          case round =>
            obtain ⟨f, l, c, a, rfl, hfl, hlc, ha, hoM2, hbM2, HR3⟩ := hrel
            clear HR2 hoM hbM
            have hs2 := hbM2.size
            cases l with
            | zero =>
              have HR4 := Lib.hid (by have := HR3.out; rw [show (M.drop f).dropWhile blank = M.drop f by rw [List.drop_eq_nil_of_le (by have := HMn.out; omega)]; rfl] at this; exact this)
              clear HR3
              go_wp2_with fail
              go_meet
              exact ⟨f, 0, c, a, rfl, hfl, hlc, fun h => absurd h (by omega), hoM2, hbM2, HR4⟩
            | succ l =>
              obtain rfl : a = some ⟨g, f, none⟩ := ha (by omega)
              clear ha
              have hl0 : (0 : Int) < (l : Int) + 1 := by omega
              have hl1 : (1 : Int) ≤ (l : Int) + 1 := by omega
              have hkm : f < M.length := by have := HMn.out; omega
              have hcell := row_at hoM2 f hkm
              have hlx : M[f].length ≤ 1048576 := HMm.out _ (List.getElem_mem hkm)
              obtain ⟨X, hX⟩ : ∃ X : ByteArray, ByteArray.mk (M[f]).toArray = X := ⟨_, rfl⟩
              have hXl : ls X = M[f] := by rw [← hX, mk_ls]
              have hXs : X.size = M[f].length := by rw [← hX, mk_size]
              rw [hX] at hcell
              have hXb : X.size ≤ 2097152 := by omega
              have cB := onlyI X wr hXb
              rw [hXl] at cB
              cases hbl : blank M[f] with
              | true =>
                rw [hbl] at cB
                have HR4 := Lib.hid (by have := HR3.out; rw [dw_step hkm hbl] at this; exact this)
                clear HR3 hbl hX hXl hXs hlx
                go_wp2_with fail
                refine cB.mono ?_
                rintro e w2 ⟨rfl, hb2⟩
                have hoM3 := Tx.own_below hoM2 hb2
                have hbM3 := hbM2.trans (hb2.mono hs2)
                clear hoM2 hbM2 hb2 hcell
                by_cases hc : c = 1
                · subst hc
                  obtain rfl : l = 0 := by omega
                  go_wp2_with fail
                  go_roundw
                  case rel => exact ⟨f + 1, 0, 0, _, rfl, by omega, by omega, fun h => absurd h (by omega), hoM3, hbM3, HR4⟩
                  case measure => simp [lenOf]
                · have hc2 : ¬ (1 : Nat) = c := by omega
                  go_wp2_with fail
                  go_roundw
                  case rel => exact ⟨f + 1, l, c - 1, _, by first | rfl | simp, by omega, by omega, fun _ => rfl, hoM3, hbM3, HR4⟩
                  case measure => simp [lenOf]
              | false =>
                rw [hbl] at cB
                have HR4 := Lib.hid (by have := HR3.out; rw [dw_stop hkm hbl] at this; exact this)
                clear HR3 hbl hX hXl hXs hlx
                go_wp2_with fail
                refine cB.mono ?_
                rintro e w2 ⟨rfl, hb2⟩
                have hoM3 := Tx.own_below hoM2 hb2
                have hbM3 := hbM2.trans (hb2.mono hs2)
                clear hoM2 hbM2 hb2 hcell
                go_wp2_with fail
                go_meet
                exact ⟨f, l + 1, c, _, rfl, hfl, hlc, fun _ => rfl, hoM3, hbM3, HR4⟩
        case rest =>
          obtain ⟨f, l0, c, a, hv, hfl, hlc, ha, hoM2, hbM2, HR3⟩ := hcut
          subst hv
          clear hoM hbM HR2
          go_upto_block 4 with fail
          -- blank lines behind
          go_cut [3] (fun v wc => ∃ l : Nat, v = .slice a l c ∧ l ≤ l0 ∧ wc.ownsRow w.heap.size 9 1 (.slice (some ⟨g, 0, none⟩) j cap) j (Tx.strC M) ∧ Below w.heap.size w wc ∧ Hid (Lib.join ((M.take (f + l)).drop f) [10] = R))
          case first =>
            go_wp2_with fail
            go_loopw [3] (fun v wr => ∃ l : Nat, v = .slice a l c ∧ l ≤ l0 ∧ wr.ownsRow w.heap.size 9 1 (.slice (some ⟨g, 0, none⟩) j cap) j (Tx.strC M) ∧ Below w.heap.size w wr ∧ Hid (Lib.join (rstrip ((M.take (f + l)).drop f)) [10] = R)) (fun v _ => lenOf v)
            case atStart => exact ⟨l0, rfl, Nat.le_refl _, hoM2, hbM2, by show _ = _; rw [List.take_of_length_le (by have := HMn.out; omega)]; exact HR3⟩
            case round =>
              obtain ⟨l, rfl, hll, hoM3, hbM3, HR4⟩ := hrel
              clear HR3 hoM2 hbM2
              have hs2 := hbM3.size
              cases l with
              | zero =>
                have HR5 : Hid (Lib.join ((M.take (f + 0)).drop f) [10] = R) := by have := HR4.out; rw [Nat.add_zero, win_none, rstrip_nil] at this; show _ = _; rw [Nat.add_zero, win_none]; exact this
                clear HR4
                go_wp2_with fail
                go_meet
                exact ⟨0, rfl, by omega, hoM3, hbM3, HR5⟩
              | succ l =>
                obtain rfl : a = some ⟨g, f, none⟩ := ha (by omega)
                clear ha
                have hl0 : (0 : Int) < (l : Int) + 1 := by omega
                have hl1 : (l : Int) ≤ (c : Int) := by omega
                have hl2 : (0 : Int) ≤ (l : Int) := by omega
                have hkm : f + l < M.length := by have := HMn.out; omega
                have hcell := row_at hoM3 (f + l) hkm
                have hlx : M[f + l].length ≤ 1048576 := HMm.out _ (List.getElem_mem hkm)
                obtain ⟨X, hX⟩ : ∃ X : ByteArray, ByteArray.mk (M[f + l]).toArray = X := ⟨_, rfl⟩
                have hXl : ls X = M[f + l] := by rw [← hX, mk_ls]
                have hXs : X.size = M[f + l].length := by rw [← hX, mk_size]
                rw [hX] at hcell
                have hXb : X.size ≤ 2097152 := by omega
                have cB := onlyI X wr hXb
                rw [hXl] at cB
                have HW := win_next (M := M) (show f ≤ f + l by omega) hkm
                cases hbl : blank M[f + l] with
                | true =>
                  rw [hbl] at cB
                  have HR5 : Hid (Lib.join (rstrip ((M.take (f + l)).drop f)) [10] = R) := by have := HR4.out; rw [show f + (l + 1) = f + l + 1 by omega, HW, rstrip_blank1 _ _ hbl] at this; exact this
                  clear HR4 hbl hX hXl hXs hlx HW
                  go_wp2_with fail
                  refine cB.mono ?_
                  rintro e w2 ⟨rfl, hb2⟩
                  have hoM4 := Tx.own_below hoM3 hb2
                  have hbM4 := hbM3.trans (hb2.mono hs2)
                  clear hoM3 hbM3 hb2 hcell
                  go_wp2_with fail
                  go_roundw
                  case rel => exact ⟨l, by first | rfl | simp, by omega, hoM4, hbM4, HR5⟩
                  case measure => simp [lenOf]
                | false =>
                  rw [hbl] at cB
                  have HR5 : Hid (Lib.join ((M.take (f + (l + 1))).drop f) [10] = R) := by have := HR4.out; rw [show f + (l + 1) = f + l + 1 by omega, HW, rstrip_full _ _ hbl] at this; show _ = _; rw [show f + (l + 1) = f + l + 1 by omega, HW]; exact this
                  clear HR4 hbl hX hXl hXs hlx HW
                  go_wp2_with fail
                  refine cB.mono ?_
                  rintro e w2 ⟨rfl, hb2⟩
                  have hoM4 := Tx.own_below hoM3 hb2
                  have hbM4 := hbM3.trans (hb2.mono hs2)
                  clear hoM3 hbM3 hb2 hcell
                  go_wp2_with fail
                  go_meet
                  exact ⟨l + 1, rfl, hll, hoM4, hbM4, HR5⟩
          case rest =>
            obtain ⟨l, hv, hll, hoM3, hbM3, HR4⟩ := hcut
            subst hv
            clear hoM2 hbM2 HR3
            cases l with
            | zero =>
              have HE : Hid (R = []) := by have := HR4.out; rw [Nat.add_zero, win_none] at this; exact this.symm
              go_wp2_with fail
              refine (Tryd.strings_Join_none _ _ _ _).mono ?_
              rintro e w2 ⟨rfl, rfl⟩
              go_wp2_with fail
              go_ret
              exact ⟨by rw [HE.out]; rfl, hbM3⟩
            | succ l =>
              obtain rfl : a = some ⟨g, f, none⟩ := ha (by omega)
              have hml := HMn.out
              obtain ⟨P, hP⟩ : ∃ P, (M.take (f + (l + 1))).drop f = P := ⟨_, rfl⟩
              have hPl : P.length = l + 1 := by rw [← hP, List.length_drop, List.length_take]; omega
              have hPs : ∀ x ∈ P, x.length ≤ 1048576 := fun x hx => HMm.out x (List.mem_of_mem_take (List.mem_of_mem_drop (by rw [hP]; exact hx)))
              have hjs := join_small 1048576 P hPs
              rw [hPl] at hjs
              have hmm : (P.map fun l => ByteArray.mk l.toArray).map (·.data.toList) = P := by rw [List.map_map, List.map_congr_left (g := id) (fun x _ => by simp), List.map_id]
              have hxl : (P.map fun l => ByteArray.mk l.toArray).length = l + 1 := by rw [List.length_map, hPl]
              have cJ := Tryd.strings_Join g f c (P.map fun l => ByteArray.mk l.toArray) ⟨#[10]⟩ wc (by
                intro i x hx
                rw [List.getElem?_map] at hx
                obtain ⟨y, hy, rfl⟩ := Option.map_eq_some_iff.1 hx
                have hi : i < P.length := (List.getElem?_eq_some_iff.1 hy).1
                have hyM : M[f + i]? = some y := by
                  rw [← hP, List.getElem?_drop, List.getElem?_take, if_pos (by omega)] at hy; exact hy
                obtain ⟨h1, h2⟩ := List.getElem?_eq_some_iff.1 hyM
                have := row_at hoM3 (f + i) h1
                rw [h2] at this; exact this) (own_lt hoM3) (by omega) (by omega) (by rw [hmm]; show (Lib.join P [10]).length ≤ _; omega)
              rw [hmm, hxl, show (ByteArray.mk #[10]).data.toList = [10] from rfl, ← hP, HR4.out] at cJ
              clear hmm hxl hjs hPs hPl hP HR4 hml
              go_wp2_with fail
              refine cJ.mono ?_
              rintro e w2 ⟨rfl, hb2⟩
              go_wp2_with fail
              go_ret
              exact ⟨rfl, hbM3.trans (hb2.mono hbM3.size)⟩
end Go.Proofs.YtaafgcnkedaonaaDoor
