/- What is proved: the model's BlockValue answers the plain function bv at every text of at most one million bytes. -/
import Derived.Test.YtaafgcnkedaonaaDoorBw
import Derived.Lib.AppendStr
import Derived.Deep.CutBlock
import Derived.Deep.DeepCutAuto
namespace Go.Proofs.YtaafgcnkedaonaaDoor
open Go.RowKit
attribute [local go_sem ↓] Go.wp_at_zero Go.wp_at_succ

theorem row_at {w : World} {B g n c : Nat} {L : List Bs} (h : w.ownsRow B 9 1 (.slice (some ⟨g, 0, none⟩) n c) n (Tx.strC L)) (k : Nat) (hk : k < L.length) : w.cell? ⟨g, k, none⟩ = some (.string ⟨(L[k]).toArray⟩) := by
  have hl := h.1; rw [Tx.strC_length, Nat.mul_one] at hl
  exact (h.cellAt k (by omega)).trans (Tx.strC_at L k hk)
theorem own_conv {w : World} {B g cap : Nat} {l : Bs} (h : w.ownsRow B 5 1 (.slice (some ⟨g, 0, none⟩) l.length cap) l.length (Lib.byteCells l)) :
    (convert 22 9 (.slice (some ⟨g, 0, none⟩) l.length cap)).run Tryd.prog w = .ok (.string ⟨l.toArray⟩) w := by
  refine run_convert_bytes_back (P := Tryd.prog) w 22 9 5 ⟨g, 0, none⟩ cap l Tryd.underlying22 Tryd.underlying5 Tryd.underlying9 fun j hj => ?_
  have := h.cellAt j (by omega)
  rw [show (⟨g, 0, none⟩ : Addr).add j = ⟨g, j, none⟩ by cases j <;> simp [Addr.add], this]; simp [Lib.byteCells, hj]
theorem bytes_step {w wr w2 : World} {o : Obj} {v v2 : Value} {l : Bs} {b : UInt8} {B : Nat} (hB : B ≤ wr.heap.size) (hnx : Below B w wr)
    (hown : wr.ownsRow B 5 1 v l.length (Lib.byteCells l)) (hown2 : w2.ownsRow B 5 1 v2 (l.length + 1) (Lib.byteCells l ++ [.int .u8 (b.toNat : Int)])) (hgrow : (wr.alloc o).grownBy w2 v.ownBlock) :
    w2.ownsRow B 5 1 v2 (l ++ [b]).length (Lib.byteCells (l ++ [b])) ∧ Below B w w2 := by
  refine ⟨?_, ?_⟩
  · simpa [Lib.byteCells] using hown2
  · exact (hnx.alloc hB _).grown hgrow (by simp; omega) (fun k hk => (hown.lt k hk).1)
theorem text_step {w wr w2 : World} {v v2 : Value} {l : Bs} {x : ByteArray} {B : Nat} (hB : B ≤ wr.heap.size) (hnx : Below B w wr)
    (hown : wr.ownsRow B 5 1 v l.length (Lib.byteCells l)) (hown2 : w2.ownsRow B 5 1 v2 (l.length + x.size) (Lib.byteCells l ++ Lib.strCells x)) (hgrow : wr.grownBy w2 v.ownBlock) :
    w2.ownsRow B 5 1 v2 (l ++ ls x).length (Lib.byteCells (l ++ ls x)) ∧ Below B w w2 := by
  refine ⟨?_, ?_⟩
  · rw [List.length_append, ls_len, show Lib.byteCells (l ++ ls x) = Lib.byteCells l ++ Lib.strCells x by simp [Lib.byteCells, Lib.strCells]]; exact hown2
  · exact hnx.grown hgrow hB (fun k hk => (hown.lt k hk).1)
theorem own_form {w : World} {B n : Nat} {v : Value} {xs : List Value} (h : w.ownsRow B 5 1 v n xs) (hn : v ≠ .slice none 0 0) : ∃ g c : Nat, v = .slice (some ⟨g, 0, none⟩) n c ∧ B ≤ g := by
  rcases h.2 with h0 | ⟨g, cap, cur, hv, hB, -⟩
  · exact absurd h0.1 hn
  · exact ⟨g, cap, hv, hB⟩
theorem mk_size (l : Bs) : (ByteArray.mk l.toArray).size = l.length := by simp [ByteArray.size]

set_option maxHeartbeats 4000000 in
set_option maxRecDepth 100000 in
theorem bvS (s : ByteArray) (w : World) (hz : s.size ≤ 1048576) :
    Calls Tryd.prog 42 #[.string s] w fun e w' => e = .returned (.string ⟨(bv (ls s)).toArray⟩) ∧ Below w.heap.size w w' := by
  obtain ⟨L, HL⟩ : ∃ L, Hid (ln (ls s) = L) := ⟨_, rfl⟩
  have c0 := linS s w hz
  have HB : Hid (bv (ls s) = Lib.join (strip (cutAll (cutS (least L.tail)) L)) [10]) := by show _ = _; rw [bv, HL.out]
  have HM : Hid (∀ x ∈ L, x.length ≤ 1048576) := by
    intro x hx
    have := ln_mem_len (ls s) x (by rw [HL.out]; exact hx)
    rw [ls_len] at this; omega
  have HN0 : 1 ≤ L.length := by
    have := ln_ne (ls s); rw [HL.out] at this
    cases L with
    | nil => exact absurd rfl this
    | cons _ _ => simp
  have HN1 : L.length ≤ 1048577 := by have h := ln_len (ls s); rw [HL.out, ls_len] at h; omega
  rw [HB.out, HL.out] at *
  obtain ⟨n, hn⟩ : ∃ n, L.length = n := ⟨_, rfl⟩
  rw [hn] at c0 HN0 HN1
  have HN := Lib.hid hn
  clear hn HL HB
  obtain ⟨T, hT⟩ : ∃ T, L.tail = T := ⟨_, rfl⟩
  rw [hT]
  have HT : Hid (T.length = n - 1) := by show _ = _; rw [← hT, List.length_tail, HN.out]
  have HTx : Hid (∀ (j : Nat) (h : j < T.length) (h2 : j + 1 < L.length), T[j] = L[j + 1]) := by
    intro j h h2; subst hT; simp
  clear hT
  obtain ⟨lst, HLs⟩ : ∃ lst, Hid (least T = lst) := ⟨_, rfl⟩
  rw [HLs.out]
  obtain ⟨R, HR⟩ : ∃ R, Hid (Lib.join (strip (cutAll (cutS lst) L)) [10] = R) := ⟨_, rfl⟩
  rw [HR.out]
  go_enter Tryd.func42, Tryd.ntmps42
  go_wp2_with fail
  refine c0.mono ?_
  rintro e w1 ⟨g, cap, rfl, hg, ho, hb1⟩
  clear c0
  go_wp2_with fail
  -- the least
  go_loopw [4, 5] (fun lv i wr => ∃ (k : Nat) (o : Option Nat), 1 ≤ k ∧ k ≤ n ∧ i = .int .i64 (k : Int) ∧ lv = .int .i64 (lI o) ∧ Hid ((T.drop (k - 1)).foldl lo o = lst) ∧ w1 = wr) (fun _ i _ => n - (intOf i).toNat)
  case atStart => exact ⟨1, none, Nat.le_refl _, HN0, rfl, rfl, HLs, rfl⟩
  case round =>
    obtain ⟨k, o, hk1, hk2, rfl, rfl, HO, rfl⟩ := hrel
    by_cases hlt : k < n
    · have hk0 : (0 : Int) ≤ (k : Int) := by omega
      have hk3 : (k : Int) < (n : Int) := by omega
      have hkl : k < L.length := by rw [HN.out]; exact hlt
      have hkt : k - 1 < T.length := by have := HT.out; omega
      have hcell := row_at ho k hkl
      have hlx : L[k].length ≤ 1048576 := HM.out _ (List.getElem_mem hkl)
      have hTL : T[k - 1] = L[k] := by
        have := HTx.out (k - 1) hkt (by omega)
        rw [this]; congr 1; omega
      have HF := HO.out
      rw [fold_step hkt, hTL, show k - 1 + 1 = k + 1 - 1 by omega] at HF
      obtain ⟨X, hX⟩ : ∃ X : ByteArray, ByteArray.mk (L[k]).toArray = X := ⟨_, rfl⟩
      have hXl : ls X = L[k] := by rw [← hX, mk_ls]
      have hXs : X.size = L[k].length := by rw [← hX, mk_size]
      rw [hX] at hcell
      have cI := indS X w1 (by omega)
      obtain ⟨m, hm⟩ : ∃ m, ind (ls X) = m := ⟨_, rfl⟩
      have hmx : ind L[k] = m := by rw [← hXl]; exact hm
      rw [hm] at cI
      clear hX hTL hm hXl HO
      by_cases hlo : m < X.size
      · have hlo' : (m : Int) < (X.size : Int) := by omega
        cases o with
        | none =>
          rw [lo_none (by omega), hmx] at HF
          have HF2 := Lib.hid HF
          clear HF hmx
          simp only [lI]
          go_wp2_with fail
          refine cI.mono ?_
          rintro e w2 ⟨rfl, rfl⟩
          go_wp2_with fail
          go_roundw
          case rel => exact ⟨k + 1, some m, by omega, by omega, by go_num, rfl, HF2, by trivial⟩
          case measure => simp [intOf]; omega
        | some q =>
          simp only [lI]
          have q0 : ¬ (q : Int) < 0 := by omega
          by_cases hq : m < q
          · have hq' : (m : Int) < (q : Int) := by omega
            rw [lo_less (by omega) (by omega), hmx] at HF
            have HF2 := Lib.hid HF
            clear HF hmx
            go_wp2_with fail
            refine cI.mono ?_
            rintro e w2 ⟨rfl, rfl⟩
            go_wp2_with fail
            go_roundw
            case rel => exact ⟨k + 1, some m, by omega, by omega, by go_num, rfl, HF2, by trivial⟩
            case measure => simp [intOf]; omega
          · have hq' : ¬ (m : Int) < (q : Int) := by omega
            rw [lo_more (by omega)] at HF
            have HF2 := Lib.hid HF
            clear HF hmx
            go_wp2_with fail
            refine cI.mono ?_
            rintro e w2 ⟨rfl, rfl⟩
            go_wp2_with fail
            go_roundw
            case rel => exact ⟨k + 1, some q, by omega, by omega, by go_num, rfl, HF2, by trivial⟩
            case measure => simp [intOf]; omega
      · have hlo' : ¬ (m : Int) < (X.size : Int) := by omega
        rw [lo_blank (by omega)] at HF
        have HF2 := Lib.hid HF
        clear HF hmx
        obtain ⟨q, hq⟩ : ∃ q, lI o = q := ⟨_, rfl⟩
        have HQ := Lib.hid hq
        rw [hq]
        clear hq
        go_wp2_with fail
        refine cI.mono ?_
        rintro e w2 ⟨rfl, rfl⟩
        go_wp2_with fail
        go_roundw
        case rel => exact ⟨k + 1, o, by omega, by omega, by go_num, by rw [HQ.out], HF2, by trivial⟩
        case measure => simp [intOf]; omega
    · obtain rfl : k = n := by omega
      have hk3 : ¬ (k : Int) < (k : Int) := by omega
      have HF := HO.out
      rw [List.drop_eq_nil_of_le (by have := HT.out; omega), List.foldl_nil] at HF
      subst HF
      clear HO HLs HTx HT
      go_wp2_with fail
      -- the cut
      go_loopw [7] (fun i wr => ∃ (j : Nat) (M : List Bs), 1 ≤ j ∧ j ≤ k ∧ i = .int .i64 (j : Int) ∧ wr.ownsRow w.heap.size 9 1 (.slice (some ⟨g, 0, none⟩) k cap) k (Tx.strC M) ∧ Below w.heap.size w wr ∧ Hid (Cut (cutS o) j L M)) (fun i _ => k - (intOf i).toNat)
      case atStart => exact ⟨1, L, Nat.le_refl _, HN0, rfl, ho, hb1, cut_start _ _⟩
      case round =>
        obtain ⟨j, M, hj1, hj2, rfl, hoM, hbM, HC⟩ := hrel
        clear ho hb1
        by_cases hlt : j < k
        · have hk0 : (0 : Int) ≤ (j : Int) := by omega
          have hk3' : (j : Int) < (k : Int) := by omega
          have hkl : j < L.length := by rw [HN.out]; exact hlt
          have hkm : j < M.length := by rw [HC.out.1]; exact hkl
          have hcell := row_at hoM j hkm
          have hML := cut_at HC.out hkl hkm
          rw [hML] at hcell
          have hlx : L[j].length ≤ 1048576 := HM.out _ (List.getElem_mem hkl)
          obtain ⟨X, hX⟩ : ∃ X : ByteArray, ByteArray.mk (L[j]).toArray = X := ⟨_, rfl⟩
          have hXl : ls X = L[j] := by rw [← hX, mk_ls]
          have hXs : X.size = L[j].length := by rw [← hX, mk_size]
          rw [hX] at hcell
          have cI := indS X wr (by omega)
          obtain ⟨m, hm⟩ : ∃ m, ind (ls X) = m := ⟨_, rfl⟩
          have hmx : ind L[j] = m := by rw [← hXl]; exact hm
          have hmle : m ≤ X.size := by have := ind_le L[j]; omega
          rw [hm] at cI
          have hfz := hoM.frozenAt j
          have hst : ∀ q, q ≤ X.size → cutS o L[j] = (ls X).drop q → Hid ((wr.setCell ⟨g, j, none⟩ (.string (X.extract q X.size))).ownsRow w.heap.size 9 1 (.slice (some ⟨g, 0, none⟩) k cap) k (Tx.strC (M.set j (cutS o L[j]))) ∧ Below w.heap.size w (wr.setCell ⟨g, j, none⟩ (.string (X.extract q X.size)))) := by
            intro q hq hc
            have h1 := hoM.stored j (.string (X.extract q X.size))
            have e : Tx.strC (M.set j (cutS o L[j])) = (Tx.strC M).set j (.string (X.extract q X.size)) := by
              rw [hc, Tx.strC, Tx.strC, List.map_set]
              congr 2
              apply ByteArray.ext
              apply Array.toList_inj.1
              rw [Lib.extract_to_end]
            refine ⟨by rw [e]; exact h1.1, hbM.setCell hg _⟩
          have HC2 := Lib.hid (cut_step HC.out hj1 hkl)
          have hXb : X.size ≤ 1048576 := by omega
          clear hX hm hML HC hoM hbM hXs hlx
          cases o with
          | none =>
            have H := hst 0 (Nat.zero_le _) (by rw [List.drop_zero, hXl]; rfl)
            rw [show X.extract 0 X.size = X by simp] at H
            clear hst hmx hXl
            simp only [lI]
            have x0 : (0 : Int) ≤ (X.size : Int) := by omega
            go_wp2_with fail
            refine cI.mono ?_
            rintro e w2 ⟨rfl, rfl⟩
            go_wp2_with fail
            go_roundw
            case rel => exact ⟨j + 1, _, by omega, by omega, by go_num, H.out.1, H.out.2, HC2⟩
            case measure => simp [intOf]; omega
          | some q =>
            simp only [lI]
            have q0 : (0 : Int) ≤ (q : Int) := by omega
            have q1 : ¬ (q : Int) < 0 := by omega
            by_cases hq : q < m
            · have hq' : (q : Int) < (m : Int) := by omega
              have hq2 : (q : Int) ≤ (X.size : Int) := by omega
              have H := hst q (by omega) (by rw [cutS, hmx, hXl, Nat.min_eq_right (by omega)])
              clear hst hmx hXl
              go_wp2_with fail
              refine cI.mono ?_
              rintro e w2 ⟨rfl, rfl⟩
              go_wp2_with fail
              go_roundw
              case rel => exact ⟨j + 1, _, by omega, by omega, by go_num, H.out.1, H.out.2, HC2⟩
              case measure => simp [intOf]; omega
            · have hq' : ¬ (q : Int) < (m : Int) := by omega
              have hq2 : (m : Int) ≤ (X.size : Int) := by omega
              have hq3 : (0 : Int) ≤ (m : Int) := by omega
              have H := hst m (by omega) (by rw [cutS, hmx, hXl, Nat.min_eq_left (by omega)])
              clear hst hmx hXl
              go_wp2_with fail
              refine cI.mono ?_
              rintro e w2 ⟨rfl, rfl⟩
              go_wp2_with fail
              go_roundw
              case rel => exact ⟨j + 1, _, by omega, by omega, by go_num, H.out.1, H.out.2, HC2⟩
              case measure => simp [intOf]; omega
        · obtain rfl : j = k := by omega
          have hMC : M = cutAll (cutS o) L := cut_end HC.out (by rw [HN.out]; exact Nat.le_refl _)
          have HMm : Hid (∀ x ∈ M, x.length ≤ 1048576) := by rw [hMC]; exact cutAll_small (cutS_len o) HM.out
          have HMn : Hid (M.length = j) := by show _ = _; rw [HC.out.1]; exact HN.out
          have HR2 : Hid (Lib.join (rstrip (M.dropWhile blank)) [10] = R) := by rw [hMC, ← strip_eq]; exact HR
          clear HC HR HM HN hMC hk3
          generalize lI o = q9
          have hj3 : ¬ (j : Int) < (j : Int) := by omega
          go_upto_block 4 with fail
          -- the first line that has something else
          go_cut [9] (fun fv wc => ∃ f : Nat, fv = .int .i64 (f : Int) ∧ f ≤ j ∧ wc.ownsRow w.heap.size 9 1 (.slice (some ⟨g, 0, none⟩) j cap) j (Tx.strC M) ∧ Below w.heap.size w wc ∧ Hid (Lib.join (rstrip (M.drop f)) [10] = R))
          case first =>
            go_wp2_with fail
            go_loopw [9] (fun i wr => ∃ (f : Nat), f ≤ j ∧ i = .int .i64 (f : Int) ∧ wr.ownsRow w.heap.size 9 1 (.slice (some ⟨g, 0, none⟩) j cap) j (Tx.strC M) ∧ Below w.heap.size w wr ∧ Hid (Lib.join (rstrip ((M.drop f).dropWhile blank)) [10] = R)) (fun i _ => j - (intOf i).toNat)
            case atStart => exact ⟨0, Nat.zero_le _, rfl, hoM, hbM, HR2⟩
            case round =>
              obtain ⟨f, hf, rfl, hoM2, hbM2, HR3⟩ := hrel
              clear HR2 hoM hbM
              by_cases hlt : f < j
              · have hf0 : (0 : Int) ≤ (f : Int) := by omega
                have hf1 : (f : Int) < (j : Int) := by omega
                have hd : decide ((f : Int) < (j : Int)) = true := decide_eq_true hf1
                have hkm : f < M.length := by rw [HMn.out]; exact hlt
                have hcell := row_at hoM2 f hkm
                have hlx : M[f].length ≤ 1048576 := HMm.out _ (List.getElem_mem hkm)
                obtain ⟨X, hX⟩ : ∃ X : ByteArray, ByteArray.mk (M[f]).toArray = X := ⟨_, rfl⟩
                have hXl : ls X = M[f] := by rw [← hX, mk_ls]
                have hXs : X.size = M[f].length := by rw [← hX, mk_size]
                rw [hX] at hcell
                have hXb : X.size ≤ 2097152 := by omega
                obtain ⟨m, hm⟩ : ∃ m, ind (ls X) = m := ⟨_, rfl⟩
                have cI : ∀ w, Calls Tryd.prog 60 #[.string X] w fun e w' => e = .returned (.int .i64 (m : Int)) ∧ w' = w := fun w => by rw [← hm]; exact (indS X w hXb).mono fun e w' h => ⟨h.1, h.2.symm⟩
                have hbl : blank M[f] = decide (m = X.size) := by rw [blank, ← hXl, hm, ls_len]
                clear hX hm hXl hXs hlx
                by_cases hmx : m = X.size
                · have ht : ((m : Int) == (X.size : Int)) = true := by rw [beq_iff_eq]; omega
                  have HR4 := Lib.hid (by have := HR3.out; rw [dw_step hkm (by rw [hbl]; simp [hmx])] at this; exact this)
                  clear HR3 hbl hmx
                  go_wp2_with fail
                  go_quiet ((go_at_call 60; exact Calls.quiet_of_same (cI _)))
                  have hoM3 := Tx.own_drewN (k := nq) hoM2
                  have hbM3 := hbM2.trans ((Tx.below_drewN wr nq).mono hbM2.size)
                  clear hoM2 hbM2 hcell
                  go_wp2_with fail
                  go_roundw
                  case rel => exact ⟨f + 1, by omega, by go_num, hoM3, hbM3, HR4⟩
                  case measure => simp [intOf]; omega
                · have ht : ((m : Int) == (X.size : Int)) = false := by rw [beq_eq_false_iff_ne]; omega
                  have HR4 := Lib.hid (by have := HR3.out; rw [dw_stop hkm (by rw [hbl]; simp [hmx])] at this; exact this)
                  clear HR3 hbl hmx
                  go_wp2_with fail
                  go_quiet ((go_at_call 60; exact Calls.quiet_of_same (cI _)))
                  have hoM3 := Tx.own_drewN (k := nq) hoM2
                  have hbM3 := hbM2.trans ((Tx.below_drewN wr nq).mono hbM2.size)
                  clear hoM2 hbM2 hcell
                  go_wp2_with fail
                  go_meet
                  exact ⟨f, rfl, by omega, hoM3, hbM3, HR4⟩
              · have hd : decide ((f : Int) < (j : Int)) = false := decide_eq_false (by omega)
                have HR4 := Lib.hid (by have := HR3.out; rw [show (M.drop f).dropWhile blank = M.drop f by rw [List.drop_eq_nil_of_le (by have := HMn.out; omega)]; rfl] at this; exact this)
                clear HR3
                go_wp2_with fail
                go_quiet (fail)
                have hoM3 := Tx.own_drewN (k := nq) hoM2
                have hbM3 := hbM2.trans ((Tx.below_drewN wr nq).mono hbM2.size)
                clear hoM2 hbM2
                go_wp2_with fail
                go_meet
                exact ⟨f, rfl, by omega, hoM3, hbM3, HR4⟩
          case rest =>
            obtain ⟨f, hfv, hf, hoM2, hbM2, HR3⟩ := hcut
            subst hfv
            clear hoM hbM HR2
            go_upto_block 6 with fail
            -- the last one
            go_cut [10] (fun tv wc => ∃ t : Nat, tv = .int .i64 (t : Int) ∧ f ≤ t ∧ t ≤ j ∧ wc.ownsRow w.heap.size 9 1 (.slice (some ⟨g, 0, none⟩) j cap) j (Tx.strC M) ∧ Below w.heap.size w wc ∧ Hid (Lib.join ((M.take t).drop f) [10] = R))
            case first =>
              go_wp2_with fail
              go_loopw [10] (fun i wr => ∃ (t : Nat), f ≤ t ∧ t ≤ j ∧ i = .int .i64 (t : Int) ∧ wr.ownsRow w.heap.size 9 1 (.slice (some ⟨g, 0, none⟩) j cap) j (Tx.strC M) ∧ Below w.heap.size w wr ∧ Hid (Lib.join (rstrip ((M.take t).drop f)) [10] = R)) (fun i _ => (intOf i).toNat)
              case atStart => exact ⟨j, hf, Nat.le_refl _, rfl, hoM2, hbM2, by show _ = _; rw [List.take_of_length_le (by have := HMn.out; omega)]; exact HR3⟩
              case round =>
                obtain ⟨t, ht0, ht1, rfl, hoM3, hbM3, HR4⟩ := hrel
                clear HR3 hoM2 hbM2
                by_cases hlt : f < t
                · obtain ⟨q, rfl⟩ : ∃ q, t = q + 1 := ⟨t - 1, by omega⟩
                  have hf0 : (0 : Int) ≤ (q : Int) := by omega
                  have hf1 : (q : Int) < (j : Int) := by omega
                  have hd1 : (f : Int) < (q : Int) + 1 := by omega
                  have hd : decide ((f : Int) < (q : Int) + 1) = true := decide_eq_true hd1
                  have hkm : q < M.length := by have := HMn.out; omega
                  have hcell := row_at hoM3 q hkm
                  have hlx : M[q].length ≤ 1048576 := HMm.out _ (List.getElem_mem hkm)
                  obtain ⟨X, hX⟩ : ∃ X : ByteArray, ByteArray.mk (M[q]).toArray = X := ⟨_, rfl⟩
                  have hXl : ls X = M[q] := by rw [← hX, mk_ls]
                  have hXs : X.size = M[q].length := by rw [← hX, mk_size]
                  rw [hX] at hcell
                  have hXb : X.size ≤ 2097152 := by omega
                  obtain ⟨m, hm⟩ : ∃ m, ind (ls X) = m := ⟨_, rfl⟩
                  have cI : ∀ w, Calls Tryd.prog 60 #[.string X] w fun e w' => e = .returned (.int .i64 (m : Int)) ∧ w' = w := fun w => by rw [← hm]; exact (indS X w hXb).mono fun e w' h => ⟨h.1, h.2.symm⟩
                  have hbl : blank M[q] = decide (m = X.size) := by rw [blank, ← hXl, hm, ls_len]
                  have HW := win_next (M := M) (show f ≤ q by omega) hkm
                  clear hX hm hXl hXs hlx
                  by_cases hmx : m = X.size
                  · have ht : ((m : Int) == (X.size : Int)) = true := by rw [beq_iff_eq]; omega
                    have HR5 := Lib.hid (by have := HR4.out; rw [HW, rstrip_blank1 _ _ (by rw [hbl]; simp [hmx])] at this; exact this)
                    clear HR4 hbl hmx HW
                    go_wp2_with fail
                    go_quiet ((go_at_call 60; exact Calls.quiet_of_same (cI _)))
                    have hoM4 := Tx.own_drewN (k := nq) hoM3
                    have hbM4 := hbM3.trans ((Tx.below_drewN wr nq).mono hbM3.size)
                    clear hoM3 hbM3 hcell
                    go_wp2_with fail
                    go_roundw
                    case rel => exact ⟨q, by omega, by omega, by go_num, hoM4, hbM4, HR5⟩
                    case measure => simp [intOf]
                  · have ht : ((m : Int) == (X.size : Int)) = false := by rw [beq_eq_false_iff_ne]; omega
                    have HR5 : Hid (Lib.join ((M.take (q + 1)).drop f) [10] = R) := by have := HR4.out; rw [HW, rstrip_full _ _ (by rw [hbl]; simp [hmx])] at this; show _ = _; rw [HW]; exact this
                    clear HR4 hbl hmx HW
                    go_wp2_with fail
                    go_quiet ((go_at_call 60; exact Calls.quiet_of_same (cI _)))
                    have hoM4 := Tx.own_drewN (k := nq) hoM3
                    have hbM4 := hbM3.trans ((Tx.below_drewN wr nq).mono hbM3.size)
                    clear hoM3 hbM3 hcell
                    go_wp2_with fail
                    go_meet
                    exact ⟨q + 1, by go_num, by omega, by omega, hoM4, hbM4, HR5⟩
                · obtain rfl : t = f := by omega
                  have hd : decide ((t : Int) < (t : Int)) = false := decide_eq_false (by omega)
                  have HR5 : Hid (Lib.join ((M.take t).drop t) [10] = R) := by have := HR4.out; rw [win_none, rstrip_nil] at this; show _ = _; rw [win_none]; exact this
                  clear HR4
                  go_wp2_with fail
                  go_quiet (fail)
                  have hoM4 := Tx.own_drewN (k := nq) hoM3
                  have hbM4 := hbM3.trans ((Tx.below_drewN wr nq).mono hbM3.size)
                  clear hoM3 hbM3
                  go_wp2_with fail
                  go_meet
                  exact ⟨t, rfl, by omega, by omega, hoM4, hbM4, HR5⟩
            case rest =>
              obtain ⟨t, htv, ht0, ht1, hoM3, hbM3, HR4⟩ := hcut
              subst htv
              clear hoM2 hbM2 HR3
              obtain ⟨i0, hi, hz0, hz1, hz2⟩ := info_parts Tx.info5
              obtain ⟨B, hB⟩ : ∃ B, wc.heap.size = B := ⟨_, rfl⟩
              go_wp2_with fail
              go_loopw [11, 12] (fun ov i wr => ∃ (k g2 c2 : Nat) (acc : Bs), f ≤ k ∧ k ≤ t ∧ i = .int .i64 (k : Int) ∧ ov = .slice (some ⟨g2, 0, none⟩) acc.length c2 ∧ B ≤ g2 ∧ acc.length ≤ k * 1048577 ∧ wr.ownsRow B 5 1 (.slice (some ⟨g2, 0, none⟩) acc.length c2) acc.length (Lib.byteCells acc) ∧ Below B wc wr ∧ Hid (Lib.join ((M.take k).drop f) [10] = acc)) (fun _ i _ => t - (intOf i).toNat)
              case atStart => exact ⟨f, _, _, [], Nat.le_refl _, ht0, rfl, rfl, by omega, by simp, by rw [← hB]; exact World.ownsRow_lit wc #[] 0 (Nat.le_refl _) (Nat.zero_le _) rfl, by rw [← hB]; exact (Below.refl _ _).alloc (Nat.le_refl _) _, by show _ = _; rw [win_none]; rfl⟩
              case round =>
                obtain ⟨k, g2, c2, acc, hk0, hk1, rfl, rfl, hg2, hal, hoA, hbA, HA⟩ := hrel
                have hsz := hbA.size
                by_cases hlt : k < t
                · have hlt' : (k : Int) < (t : Int) := by omega
                  have hki : (0 : Int) ≤ (k : Int) := by omega
                  have hkj : (k : Int) < (j : Int) := by omega
                  have hkm : k < M.length := by have := HMn.out; omega
                  have hoMr := Tx.own_below hoM3 (by rw [hB]; exact hbA)
                  have hcell := row_at hoMr k hkm
                  have hlx : M[k].length ≤ 1048576 := HMm.out _ (List.getElem_mem hkm)
                  obtain ⟨X, hX⟩ : ∃ X : ByteArray, ByteArray.mk (M[k]).toArray = X := ⟨_, rfl⟩
                  have hXl : ls X = M[k] := by rw [← hX, mk_ls]
                  have hXs : X.size = M[k].length := by rw [← hX, mk_size]
                  rw [hX] at hcell
                  have hXb : X.size ≤ 1048576 := by omega
                  have HXc : Hid (∀ w', Below B wc w' → w'.cell? ⟨g, k, none⟩ = some (.string X)) := fun w' hb => by
                    have := row_at (Tx.own_below hoM3 (by rw [hB]; exact hb)) k hkm
                    rw [hX] at this; exact this
                  have HW := win_next (M := M) hk0 hkm
                  have HJ := join_more ((M.take k).drop f) M[k]
                  rw [← HW, HA.out, ← hXl] at HJ
                  clear hX hXl hXs hlx HW hoMr
                  by_cases hfk : f < k
                  · have hfk' : (f : Int) < (k : Int) := by omega
                    rw [if_neg (by intro e; have := congrArg List.length e; rw [List.length_drop, List.length_take] at this; simp at this; omega)] at HJ
                    have HJ2 := Lib.hid HJ
                    clear HJ HA
                    have n1 : ∀ u ∈ [Value.int .u8 10], u.oneCell' = true := by intro u hu; simp at hu; subst hu; rfl
                    have n2 : acc.length + 1 ≤ maxLen := by unfold maxLen; omega
                    go_wp2_with (at_builtin; refine wpList_append_lies _ rfl _ _ 22 rfl B 5 i0 (.int .u8 0) 1 1 Tryd.underlying22 hi hz0 hz1 hz2 rfl (by decide) _ _ _ rfl (hoA.alloc _) ⟨wr.heap.size, 0, none⟩ 1 1 [.int .u8 10] rfl rfl (World.news_of_block (cs := #[.int .u8 10]) (t := 5) (fr := (0, 0)) (heap_alloc_new wr _)) n1 (by decide) n2 (by omega) (by simp; omega) (wr.heap.size + 1) (by simp) ?_)
                    intro g3 c3 w3 hown3 hgrow hat hlt3
                    have S := bytes_step (b := 10) (by omega) hbA hoA hown3 hgrow
                    have hg3 : B ≤ g3 := by
                      rcases hat with h | h
                      · simp [Value.ownBlock] at h; omega
                      · omega
                    have hsz3 := S.2.size
                    have hcell3 := HXc.out w3 S.2
                    obtain ⟨ac2, hac2⟩ : ∃ ac2, acc ++ [10] = ac2 := ⟨_, rfl⟩
                    have hl2 : ac2.length = acc.length + 1 := by rw [← hac2]; simp
                    have HJ3 : Hid (Lib.join ((M.take (k + 1)).drop f) [10] = ac2 ++ ls X) := by show _ = _; rw [← hac2, HJ2.out]; simp
                    rw [hac2] at S
                    rw [← hl2] at S ⊢
                    clear hown3 hgrow hat hlt3 hoA hbA n1 n2 hcell hac2 HJ2
                    have m1 : ac2.length + X.size ≤ maxLen := by unfold maxLen; omega
                    have hl3 : ac2.length ≤ k * 1048577 + 1 := by omega
                    clear hl2 hal
                    go_wp2_with (at_builtin; refine Lib.wpList_append_own_string _ rfl _ _ 22 9 rfl B 5 i0 Tryd.underlying22 Tryd.underlying9 hi hz0 hz1 hz2 _ _ _ rfl S.1 X rfl m1 (by omega) (by omega) ?_)
                    intro v4 w4 hown4 hgrow4 hnil4
                    have S4 := text_step (by omega) S.2 S.1 hown4 hgrow4
                    obtain ⟨g4, c4, hv4, hg4⟩ := own_form S4.1 hnil4
                    subst hv4
                    clear hown4 hgrow4 hnil4 S hcell3
                    go_wp2_with fail
                    go_roundw
                    case rel => exact ⟨k + 1, g4, c4, ac2 ++ ls X, by omega, by omega, by go_num, rfl, hg4, by rw [List.length_append, ls_len]; omega, S4.1, S4.2, HJ3⟩
                    case measure => simp [intOf]; omega
                  · obtain rfl : k = f := by omega
                    have hfk' : ¬ (k : Int) < (k : Int) := by omega
                    rw [if_pos (win_none M k)] at HJ
                    have HJ2 := Lib.hid HJ
                    have hacc : acc = [] := by have := HA.out; rw [win_none] at this; exact this.symm
                    subst hacc
                    clear HJ HA
                    simp only [List.length_nil] at hoA ⊢
                    have m1 : 0 + X.size ≤ maxLen := by unfold maxLen; omega
                    go_wp2_with (at_builtin; refine Lib.wpList_append_own_string _ rfl _ _ 22 9 rfl B 5 i0 Tryd.underlying22 Tryd.underlying9 hi hz0 hz1 hz2 _ _ _ rfl hoA X rfl m1 (by omega) (by omega) ?_)
                    intro v4 w4 hown4 hgrow4 hnil4
                    have S4 := text_step (l := []) (x := X) (by omega) hbA hoA (by rw [List.length_nil, Nat.zero_add]; exact hown4) hgrow4
                    rw [List.nil_append] at S4
                    obtain ⟨g4, c4, hv4, hg4⟩ := own_form S4.1 hnil4
                    subst hv4
                    clear hown4 hgrow4 hnil4 hcell hoA
                    go_wp2_with fail
                    go_roundw
                    case rel => exact ⟨k + 1, g4, c4, ls X, by omega, by omega, by go_num, rfl, hg4, by rw [ls_len]; omega, S4.1, S4.2, HJ2⟩
                    case measure => simp [intOf]; omega
                · obtain rfl : k = t := by omega
                  have hlt' : ¬ (k : Int) < (k : Int) := by omega
                  have hcv := own_conv hoA
                  have HE := Lib.hid (HA.out.symm.trans HR4.out)
                  have hbf : Below w.heap.size w wr := hbM3.trans (hbA.mono (by rw [← hB]; exact hbM3.size))
                  clear HA HR4 hoA hbA hoM3 hbM3
                  go_wp2_with fail
                  go_ret
                  exact ⟨by rw [← HE.out]; rfl, hbf⟩
end Go.Proofs.YtaafgcnkedaonaaDoor
