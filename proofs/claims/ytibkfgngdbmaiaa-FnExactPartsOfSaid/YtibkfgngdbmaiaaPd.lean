/- What is proved: what the program's PartsOf answers at every line of at most 1048576 bytes: the same parts as the model's, and true, or nothing and false; the list lies in new memory. Used by the proof of FnExactPartsOfSaid. -/
import Derived.Test.YtibkfgngdbmaiaaPc
namespace Go.Proofs.Ytibkfgngdbmaiaa
namespace Pa
open Go.RowKit

theorem own_block {w : World} {B e size n g cap : Nat} {xs : List Value} (h : w.ownsRow B e size (.slice (some ⟨g, 0, none⟩) n cap) n xs) : ∃ cur, w.heap[g]? = some (.cells cur e (0, 0)) := by
  rcases h.2 with ⟨h0, _⟩ | ⟨g', cap', cur, hv, _, hg, _⟩
  · cases h0
  · simp only [Value.slice.injEq, Option.some.injEq, Addr.mk.injEq, and_true, true_and] at hv
    obtain ⟨rfl, rfl⟩ := hv
    exact ⟨cur, hg⟩
theorem own_ne {w : World} {B B' n m g q cap qc : Nat} {xs ys : List Value} (h : w.ownsRow B 9 1 (.slice (some ⟨g, 0, none⟩) n cap) n xs) (h' : w.ownsRow B' 5 1 (.slice (some ⟨q, 0, none⟩) m qc) m ys) : g ≠ q := by
  intro e
  subst e
  obtain ⟨c1, h1⟩ := own_block h
  obtain ⟨c2, h2⟩ := own_block h'
  rw [h1] at h2; simp at h2
theorem own_cut {w : World} {B n q qc : Nat} {ys : List Value} (h : w.ownsRow B 5 1 (.slice (some ⟨q, 0, none⟩) n qc) n ys) : w.ownsRow B 5 1 (.slice (some ⟨q, 0, none⟩) 0 qc) 0 [] := by
  rcases h.2 with ⟨h0, _⟩ | ⟨g', cap', cur, hv, h1, h2, h3, h4, h5, _⟩
  · cases h0
  · simp only [Value.slice.injEq, Option.some.injEq, Addr.mk.injEq, and_true, true_and] at hv
    obtain ⟨rfl, rfl⟩ := hv
    exact ⟨rfl, .inr ⟨q, qc, cur, rfl, h1, h2, Nat.zero_le _, h4, h5, by simp⟩⟩

set_option maxHeartbeats 800000 in
theorem withC (ps : List (List UInt8)) (cur : List UInt8) (n m B g cap q qc : Nat) (w : World) (hn : ps.length = n) (hm : cur.length = m) (hn1 : n ≤ 1000) (hB : B ≤ w.heap.size) (hg : B ≤ g)
    (hp : w.ownsRow B 9 1 (.slice (some ⟨g, 0, none⟩) n cap) n (strC ps)) (hq : w.ownsRow B 5 1 (.slice (some ⟨q, 0, none⟩) m qc) m (Lib.byteCells cur)) :
    Calls Try.prog 21 #[.slice (some ⟨g, 0, none⟩) n cap, .slice (some ⟨q, 0, none⟩) m qc] w fun e w' => ∃ g' cap' : Nat, e = .returned (.slice (some ⟨g', 0, none⟩) (addP ps cur).length cap') ∧ B ≤ g' ∧
      w'.ownsRow B 9 1 (.slice (some ⟨g', 0, none⟩) (addP ps cur).length cap') (addP ps cur).length (strC (addP ps cur)) ∧ w'.ownsRow B 5 1 (.slice (some ⟨q, 0, none⟩) m qc) m (Lib.byteCells cur) ∧ Below B w w' := by
  obtain ⟨i0, hi, hz0, hz1, hz2⟩ := info_parts info9
  have hne := own_ne hp hq
  by_cases h0 : m = 0
  · have HA : Hid (addP ps cur = ps) := addP_nil (by omega)
    have hc : ((m : Int) == 0) = true := by simp [h0]
    have HN : Hid (ps.length = n) := hn
    have HM : Hid (m = 0) := h0
    clear hn h0 hm
    go_enter Try.func21, Try.ntmps21
    go_wp2
    go_ret
    refine ⟨g, cap, ?_⟩
    rw [HA.out, HN.out]
    exact ⟨rfl, hg, hp, hq, Below.refl _ _⟩
  · have HA : Hid (addP ps cur = ps ++ [cur]) := addP_cons (by omega)
    have hc : ((m : Int) == 0) = false := by simp [h0]
    have HN : Hid (ps.length = n) := hn
    have hcv := run_convert_bytes_back (P := Try.prog) w 32 9 5 ⟨q, 0, none⟩ qc cur Try.underlying32 Try.underlying5 Try.underlying9 (fun j hj => hq.cells (g := q) rfl j _ (by simp [Lib.byteCells, hj]))
    rw [hm] at hcv
    have n1 : ∀ u ∈ [Value.string ⟨cur.toArray⟩], u.oneCell' = true := by intro u hu; simp at hu; subst hu; rfl
    have n2 : n + 1 ≤ maxLen := by unfold maxLen; omega
    clear hn hm
    go_enter Try.func21, Try.ntmps21
    go_wp2_with (at_builtin; refine wpList_append_lies _ rfl _ _ 25 rfl B 9 i0 (.string ⟨#[]⟩) 1 16 Try.underlying25 hi hz0 hz1 hz2 rfl (by decide) _ _ _ rfl (hp.alloc _) ⟨w.heap.size, 0, none⟩ 1 1 [.string ⟨cur.toArray⟩] rfl rfl (World.news_of_block (cs := #[.string ⟨cur.toArray⟩]) (t := 9) (fr := (0, 0)) (heap_alloc_new w _)) n1 (by decide) n2 (by omega) (by simp; omega) (w.heap.size + 1) (by simp) ?_)
    intro g2 cap2 w2 hown2 hgrow hat hlt2
    have hb2 : Below B w w2 := ((Below.refl _ _).alloc hB _).grown hgrow (by simp; omega) (fun k hk => by simp [Value.ownBlock] at hk; omega)
    have hq2 : w2.ownsRow B 5 1 (.slice (some ⟨q, 0, none⟩) m qc) m (Lib.byteCells cur) := (hq.alloc _).kept hgrow (.inr (by simp [Value.ownBlock]; exact fun e => hne e.symm))
    have hg2 : B ≤ g2 := by
      rcases hat with h | h
      · simp [Value.ownBlock] at h; omega
      · omega
    clear hgrow hat hlt2 hp hq n1 hcv
    go_wp2
    go_ret
    refine ⟨g2, cap2, ?_⟩
    have hlen : (addP ps cur).length = n + 1 := by rw [HA.out, List.length_append, HN.out]; rfl
    rw [hlen, HA.out]
    refine ⟨rfl, hg2, ?_, hq2, hb2⟩
    simpa [strC] using hown2

set_option maxHeartbeats 600000 in
theorem implLong (s : ByteArray) (w : World) (hs : 600 < s.size) (hm : s.size ≤ 1048576) :
    Calls Try.prog 12 #[.string s] w (Left s.data.toList w) := by
  have h1 : (600 : Int) < (s.size : Int) := by omega
  have HR : Hid (resP s.data.toList = ([], false)) := resP_long (by rw [list_len]; omega)
  go_enter Try.func12, Try.ntmps12
  go_wp2
  go_step3
  go_wp2
  rw [Exit.noGoto_ret]
  go_ret2
  exact left_none HR.out (Below.refl _ _)

set_option maxHeartbeats 1600000 in
theorem implShort (s : ByteArray) (w : World) (hs : s.size ≤ 600) :
    Calls Try.prog 12 #[.string s] w (Left s.data.toList w) := by
  obtain ⟨i5, hi, hz0, hz1, hz2⟩ := info_parts info5
  have h1 : ¬ (600 : Int) < (s.size : Int) := by omega
  have h1d : decide ((600 : Int) < (s.size : Int)) = false := by simpa using h1
  have HL : Hid (s.data.toList.length = s.size) := list_len s
  go_enter Try.func12, Try.ntmps12
  go_wp2
  go_step3
  go_wp2
  go_step3
  go_wp2
  go_loopw [4, 5, 6, 17] (fun v pv av i wr => ∃ (k g cap q qc n m : Nat) (ps : List (List UInt8)) (cur : List UInt8), k ≤ s.size ∧ i = .int .i64 (k : Int) ∧ av = .bool true ∧ v = .slice (some ⟨g, 0, none⟩) n cap ∧ pv = .slice (some ⟨q, 0, none⟩) m qc ∧
      w.heap.size ≤ g ∧ w.heap.size ≤ q ∧ n ≤ k ∧ m ≤ k ∧ wr.ownsRow w.heap.size 9 1 (.slice (some ⟨g, 0, none⟩) n cap) n (strC ps) ∧ wr.ownsRow w.heap.size 5 1 (.slice (some ⟨q, 0, none⟩) m qc) m (Lib.byteCells cur) ∧ Below w.heap.size w wr ∧ Hid (ps.length = n) ∧ Hid (cur.length = m) ∧ Hid (okL (s.data.toList.take k) = true) ∧ Hid (stP (s.data.toList.take k) = (ps, cur)))
    (fun _ _ _ i _ => s.size - (intOf i).toNat)
  case atStart =>
    exact ⟨0, w.heap.size, 0, w.heap.size + 1, 0, 0, 0, [], [], Nat.zero_le _, rfl, rfl, rfl, rfl, Nat.le_refl _, Nat.le_succ _, Nat.le_refl _, Nat.le_refl _,
      (World.ownsRow_lit w #[] 0 (Nat.le_refl _) (Nat.zero_le _) rfl).alloc _, by
        have := World.ownsRow_lit (base := w.heap.size) (e := 5) (size := 1) (w.alloc (.cells #[] 9)) #[] 0 (by simp) (Nat.zero_le _) rfl
        simpa [Lib.byteCells] using this, ((Below.refl _ _).alloc (Nat.le_refl _) _).alloc (by simp) _, rfl, rfl, by show okL _ = true; simp [okL], by show stP _ = _; simp [stP]⟩
  case round =>
    obtain ⟨k, g, cap, q, qc, n, m, ps, cur, hk, rfl, rfl, rfl, rfl, hg, hqb, hnk, hmk, hp, hq, hnx, HN, HM, HO, HS⟩ := hrel
    have hsz := hnx.size
    by_cases hlt : k < s.size
    · have hi0 : (0 : Int) ≤ (k : Int) := by omega
      have hi1 : (k : Int) < (s.size : Int) := by omega
      by_cases hc1 : (s[k].toNat : Int) < 32
      · have HR : Hid (resP s.data.toList = ([], false)) := resP_bad (okL_bad _ k (by rw [HL.out]; exact hlt) (by show ¬ (32 ≤ s[k].toNat ∧ s[k].toNat ≤ 126); omega))
        go_wp2_with fail
        refine (withC ps cur n m w.heap.size g cap q qc _ HN.out HM.out (by omega) hsz hg hp hq).mono ?_
        rintro e w1 ⟨g1, cap1, rfl, hg1, hp1, hq1, hb1⟩
        have hnx1 := hnx.trans hb1
        clear hp hq hp1 hq1 hb1
        go_wp2
        first | (rw [Exit.noGoto_ret]; go_ret2) | go_ret2
        exact left_none HR.out hnx1
      · by_cases hc2 : 126 < (s[k].toNat : Int)
        · have HR : Hid (resP s.data.toList = ([], false)) := resP_bad (okL_bad _ k (by rw [HL.out]; exact hlt) (by show ¬ (32 ≤ s[k].toNat ∧ s[k].toNat ≤ 126); omega))
          go_wp2_with fail
          refine (withC ps cur n m w.heap.size g cap q qc _ HN.out HM.out (by omega) hsz hg hp hq).mono ?_
          rintro e w1 ⟨g1, cap1, rfl, hg1, hp1, hq1, hb1⟩
          have hnx1 := hnx.trans hb1
          clear hp hq hp1 hq1 hb1
          go_wp2
          first | (rw [Exit.noGoto_ret]; go_ret2) | go_ret2
          exact left_none HR.out hnx1
        · by_cases hc3 : s[k].toNat = 32
          · have hn : ((s[k].toNat : Int) == 32) = true := by simp; omega
            have HO2 : Hid (okL (s.data.toList.take (k + 1)) = true) := by
              show _ = _
              rw [take_snoc _ k (by rw [HL.out]; exact hlt), okL_snoc, HO.out]
              show (true && decide (32 ≤ s[k].toNat ∧ s[k].toNat ≤ 126)) = true
              rw [Bool.true_and, decide_eq_true_iff]; omega
            have HS2 : Hid (stP (s.data.toList.take (k + 1)) = (addP ps cur, [])) := by
              show _ = _
              rw [take_snoc _ k (by rw [HL.out]; exact hlt), stP_snoc, HS.out, stepP, if_pos (UInt8.toNat_inj.1 hc3)]
            have hal := addP_length ps cur
            have HAL : Hid ((addP ps cur).length ≤ n + 1) := by have := HN.out; show _ ≤ _; omega
            clear hal
            go_wp2_with fail
            refine (withC ps cur n m w.heap.size g cap q qc _ HN.out HM.out (by omega) hsz hg hp hq).mono ?_
            rintro e w1 ⟨g1, cap1, rfl, hg1, hp1, hq1, hb1⟩
            have hnx1 := hnx.trans hb1
            have hq2 := own_cut hq1
            clear hp hq hq1 hb1
            go_wp2
            go_roundw
            case rel => exact ⟨k + 1, g1, cap1, q, qc, (addP ps cur).length, 0, addP ps cur, [], by omega, by go_num, rfl, rfl, rfl, hg1, hqb, by have := HAL.out; omega, Nat.zero_le _, hp1, by simpa [Lib.byteCells] using hq2, hnx1, rfl, rfl, HO2, HS2⟩
            case measure => simp [intOf]; omega
          · have hn : ((s[k].toNat : Int) == 32) = false := by simp; omega
            have HO2 : Hid (okL (s.data.toList.take (k + 1)) = true) := by
              show _ = _
              rw [take_snoc _ k (by rw [HL.out]; exact hlt), okL_snoc, HO.out]
              show (true && decide (32 ≤ s[k].toNat ∧ s[k].toNat ≤ 126)) = true
              rw [Bool.true_and, decide_eq_true_iff]; omega
            have HS2 : Hid (stP (s.data.toList.take (k + 1)) = (ps, cur ++ [s[k]])) := by
              show _ = _
              rw [take_snoc _ k (by rw [HL.out]; exact hlt), stP_snoc, HS.out, stepP, if_neg (fun e => hc3 (by show (s.data.toList[k]'(by rw [HL.out]; exact hlt)).toNat = 32; rw [e]; rfl))]
              rfl
            have hne := own_ne hp hq
            have n1 : ∀ u ∈ [Value.int .u8 (s[k].toNat : Int)], u.oneCell' = true := by intro u hu; simp at hu; subst hu; rfl
            have n2 : m + 1 ≤ maxLen := by unfold maxLen; omega
            go_wp2_with (at_builtin; refine wpList_append_lies _ rfl _ _ 32 rfl w.heap.size 5 i5 (.int .u8 0) 1 1 Try.underlying32 hi hz0 hz1 hz2 rfl (by decide) _ _ _ rfl (hq.alloc _) ⟨wr.heap.size, 0, none⟩ 1 1 [.int .u8 (s[k].toNat : Int)] rfl rfl (World.news_of_block (cs := #[.int .u8 (s[k].toNat : Int)]) (t := 5) (fr := (0, 0)) (heap_alloc_new wr _)) n1 (by decide) n2 (by omega) (by simp; omega) (wr.heap.size + 1) (by simp) ?_)
            intro q2 qc2 w2 hq2 hgrow hat hlt2
            have hnx2 : Below w.heap.size w w2 := (hnx.alloc hsz _).grown hgrow (by simp; omega) (fun k' hk' => by simp [Value.ownBlock] at hk'; omega)
            have hp2 : w2.ownsRow w.heap.size 9 1 (.slice (some ⟨g, 0, none⟩) n cap) n (strC ps) := (hp.alloc _).kept hgrow (.inr (by simp [Value.ownBlock]; exact hne))
            have hqb2 : w.heap.size ≤ q2 := by
              rcases hat with h | h
              · simp [Value.ownBlock] at h; omega
              · omega
            have hq3 : w2.ownsRow w.heap.size 5 1 (.slice (some ⟨q2, 0, none⟩) (m + 1) qc2) (m + 1) (Lib.byteCells (cur ++ [s[k]])) := by rw [Lib.byteCells_append]; exact hq2
            have HM2 : Hid ((cur ++ [s[k]]).length = m + 1) := by have := HM.out; show _ = _; rw [List.length_append, this]; rfl
            clear hgrow hat hlt2 hp hq hq2 n1
            go_wp2
            go_roundw
            case rel => exact ⟨k + 1, g, cap, q2, qc2, n, m + 1, ps, cur ++ [s[k]], by omega, by go_num, rfl, rfl, rfl, hg, hqb2, by omega, by omega, hp2, hq3, hnx2, HN, HM2, HO2, HS2⟩
            case measure => simp [intOf]; omega
    · have HT : Hid (s.data.toList.take k = s.data.toList) := by show _ = _; exact List.take_of_length_le (by rw [HL.out]; omega)
      have HF : Hid (finP s.data.toList = addP ps cur) := by
        have h := HS.out; rw [HT.out] at h
        show finP _ = _; unfold finP; rw [h]
      have HO2 : Hid (okL s.data.toList = true) := by have h := HO.out; rw [HT.out] at h; exact h
      have hi1 : ¬ (k : Int) < (s.size : Int) := by omega
      by_cases hm : 12 < (addP ps cur).length
      · have hm1 : (12 : Int) < ((addP ps cur).length : Int) := by omega
        have HR : Hid (resP s.data.toList = ([], false)) := resP_many (by rw [HF.out]; omega)
        go_wp2_with fail
        refine (withC ps cur n m w.heap.size g cap q qc _ HN.out HM.out (by omega) hsz hg hp hq).mono ?_
        rintro e w1 ⟨g1, cap1, rfl, hg1, hp1, hq1, hb1⟩
        have hnx1 := hnx.trans hb1
        clear hp hq hp1 hq1 hb1
        go_wp2
        first | (rw [Exit.noGoto_ret]; go_ret2) | go_ret2
        exact left_none HR.out hnx1
      · have hm1 : ¬ (12 : Int) < ((addP ps cur).length : Int) := by omega
        have HR : Hid (resP s.data.toList = (addP ps cur, true)) := by
          show _ = _
          rw [← HF.out]
          exact resP_ok (by rw [HL.out]; exact hs) HO2.out (by rw [HF.out]; omega)
        go_wp2_with fail
        refine (withC ps cur n m w.heap.size g cap q qc _ HN.out HM.out (by omega) hsz hg hp hq).mono ?_
        rintro e w1 ⟨g1, cap1, rfl, hg1, hp1, hq1, hb1⟩
        have hnx1 := hnx.trans hb1
        clear hp hq hq1 hb1
        go_wp2
        first | (rw [Exit.noGoto_ret]; go_ret2) | go_ret2
        exact left_mk HR.out hg1 hp1 hnx1
end Pa
end Go.Proofs.Ytibkfgngdbmaiaa
