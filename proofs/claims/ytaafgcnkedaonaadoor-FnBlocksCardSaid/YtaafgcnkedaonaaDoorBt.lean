/- What is proved: the model's BlockText and the program's answer the same plain function at every text of at most one million bytes. -/
import Derived.Test.YtaafgcnkedaonaaDoorBi
import Derived.Test.YtaafgcnkedaonaaDoorBp
import Derived.Test.YtaafgcnkedaonaaDoorOk
namespace Go.Proofs.YtaafgcnkedaonaaDoor
open Go.RowKit
attribute [local go_sem ↓] Go.wp_at_zero Go.wp_at_succ

/-- What BlockText answers. -/
def btx (s : ByteArray) : Bs × Bool :=
  if s.size ≤ 1000 ∧ bend s 0 = s.size ∧ ok s = true ∧ (ls s).any bar = false ∧ (bv (rs ((ls s).drop 3))).length ≤ 200 then (bv (rs ((ls s).drop 3)), true) else ([], false)
theorem btx_long {s : ByteArray} (h : ¬ s.size ≤ 1000) : btx s = ([], false) := if_neg (fun x => h x.1)
theorem btx_end {s : ByteArray} (h : ¬ bend s 0 = s.size) : btx s = ([], false) := if_neg (fun x => h x.2.1)
theorem btx_not {s : ByteArray} (h : ok s = false) : btx s = ([], false) := if_neg (fun x => by rw [h] at x; exact absurd x.2.2.1 (by simp))
theorem btx_bar {s : ByteArray} (h : (ls s).any bar = true) : btx s = ([], false) := if_neg (fun x => by rw [h] at x; exact absurd x.2.2.2.1 (by simp))
theorem btx_much {s : ByteArray} (h : ¬ (bv (rs ((ls s).drop 3))).length ≤ 200) : btx s = ([], false) := if_neg (fun x => h x.2.2.2.2)
theorem btx_ok {s : ByteArray} (h1 : s.size ≤ 1000) (h2 : bend s 0 = s.size) (h3 : ok s = true) (h4 : (ls s).any bar = false) (h5 : (bv (rs ((ls s).drop 3))).length ≤ 200) : btx s = (bv (rs ((ls s).drop 3)), true) := if_pos ⟨h1, h2, h3, h4, h5⟩

theorem bend_at {s : ByteArray} (h : bend s 0 = s.size) : th s 0 = true ∧ be 0 3 ((ls s).drop 3) = ((3 : Nat) : Int) + ((ls s).drop 3).length := by
  unfold bend at h
  split at h
  · rename_i hq
    have hl := th_lt hq.2
    refine ⟨hq.2, ?_⟩
    rw [show bE s ((0 : Int).toNat + 3) = be 0 3 ((ls s).drop 3) from rfl] at h
    rw [h, List.length_drop, ls_len]
    have : (0 : Int).toNat = 0 := rfl
    omega
  · omega
theorem bend_parts {s : ByteArray} (h : bend s 0 = s.size) : 6 ≤ s.size ∧ (ls s).drop (s.size - 3) = q3 ∧ (ls s).any bar = ((ls s).drop 3).any bar := by
  obtain ⟨h1, h2⟩ := bend_at h
  have h3 := be_end _ 3 _ (Nat.le_refl _) h2
  rw [List.length_drop, ls_len, List.drop_drop] at h3
  refine ⟨by omega, ?_, ?_⟩
  · rw [← h3.2]; congr 1; omega
  · rw [th, List.drop_zero] at h1
    obtain ⟨t, ht⟩ := List.isPrefixOf_iff_prefix.1 h1
    show s.data.toList.any bar = (s.data.toList.drop 3).any bar
    rw [← ht, List.any_append, bar_q3, Bool.false_or]
    rfl
theorem any_next {s : ByteArray} {i : Nat} (h : i < s.size) (hb : barN (bt s i) = false) : ((ls s).drop i).any bar = ((ls s).drop (i + 1)).any bar := by rw [any_at h, hb, Bool.false_or]
theorem rs_next {s : ByteArray} {i : Nat} {acc : Bs} (hl : ¬ ((ls s).drop (i + 1)).length < 3) (h : i < s.size) (hb : ¬ (s[i] = 92 ∧ q3.isPrefixOf ((ls s).drop (i + 1)) = true)) : acc ++ rs ((ls s).drop i) = acc ++ [s[i]] ++ rs ((ls s).drop (i + 1)) := by
  rw [show (ls s).drop i = s[i] :: (ls s).drop (i + 1) from drop_at h, rs_keep hl hb]; simp
theorem rs_skip {s : ByteArray} {i : Nat} {acc : Bs} (hl : ¬ ((ls s).drop (i + 1)).length < 3) (h : i < s.size) (hb : s[i] = 92 ∧ th s (i + 1) = true) : acc ++ rs ((ls s).drop i) = acc ++ rs ((ls s).drop (i + 1)) := by
  rw [show (ls s).drop i = s[i] :: (ls s).drop (i + 1) from drop_at h, rs_drop hl hb]
theorem bne_t {b : UInt8} {c : Nat} (h : ¬ b.toNat = c) : ((b.toNat : Int) != (c : Int)) = true := by rw [bne_iff_ne]; omega
theorem bne_f {b : UInt8} {c : Nat} (h : b.toNat = c) : ((b.toNat : Int) != (c : Int)) = false := by simp [h]

set_option maxHeartbeats 4000000 in
set_option maxRecDepth 100000 in
theorem btS (s : ByteArray) (w : World) (hz : s.size ≤ 1048576) :
    Calls Tryd.prog 21 #[.string s] w fun e w' => e = .returned (.tuple #[.string ⟨(btx s).1.toArray⟩, .bool (btx s).2]) ∧ Below w.heap.size w w' := by
  by_cases h1 : s.size ≤ 1000
  case neg =>
    have h1' : (1000 : Int) < (s.size : Int) := by omega
    rw [btx_long h1]
    go_enter Tryd.func21, Tryd.ntmps21
    go_wp2_with fail
    go_ret2
    exact ⟨rfl, Below.refl _ _⟩
  have h1' : ¬ (1000 : Int) < (s.size : Int) := by omega
  have cE := beS s 0 w (by omega)
  by_cases h2 : bend s 0 = s.size
  case neg =>
    rw [btx_end h2]
    obtain ⟨E, hE⟩ : ∃ E, bend s 0 = E := ⟨_, rfl⟩
    rw [hE] at cE h2
    have h2' : (E != (s.size : Int)) = true := by rw [bne_iff_ne]; exact h2
    clear h2 hE
    go_enter Tryd.func21, Tryd.ntmps21
    go_wp2_with fail
    refine cE.mono ?_
    rintro e w1 ⟨rfl, rfl⟩
    go_wp2_with fail
    go_ret2
    exact ⟨rfl, Below.refl _ _⟩
  rw [h2] at cE
  have cO := okS s w (by omega)
  cases h3 : ok s with
  | false =>
    rw [btx_not h3]
    rw [h3] at cO
    clear h2 h3
    go_enter Tryd.func21, Tryd.ntmps21
    go_wp2_with fail
    refine cE.mono ?_
    rintro e w1 ⟨rfl, rfl⟩
    go_wp2_with fail
    refine cO.mono ?_
    rintro e w1 ⟨rfl, hb1⟩
    go_wp2_with fail
    go_ret2
    exact ⟨rfl, hb1⟩
  | true =>
    rw [h3] at cO
    obtain ⟨p6, pq, pa⟩ := bend_parts h2
    have H2 := Lib.hid h2
    have H3 := Lib.hid h3
    have PQ := Lib.hid pq
    have HB0 : Hid (((ls s).drop 3).any bar = (ls s).any bar) := pa.symm
    clear h2 h3 pq pa
    obtain ⟨i0, hi, hz0, hz1, hz2⟩ := info_parts Tx.info5
    go_enter Tryd.func21, Tryd.ntmps21
    go_wp2_with fail
    refine cE.mono ?_
    rintro e w1 ⟨rfl, rfl⟩
    go_wp2_with fail
    refine cO.mono ?_
    rintro e w2 ⟨rfl, hb2⟩
    have hs2 := hb2.size
    go_wp2_with fail
    go_loopw [4, 5] (fun ov iv wr => ∃ (i g2 c2 : Nat) (acc : Bs), 3 ≤ i ∧ i + 3 ≤ s.size ∧ iv = .int .i64 (i : Int) ∧ ov = .slice (some ⟨g2, 0, none⟩) acc.length c2 ∧ w.heap.size ≤ g2 ∧ acc.length ≤ i ∧ wr.ownsRow w.heap.size 5 1 (.slice (some ⟨g2, 0, none⟩) acc.length c2) acc.length (Lib.byteCells acc) ∧ Below w.heap.size w wr ∧ Hid (acc ++ rs ((ls s).drop i) = rs ((ls s).drop 3)) ∧ Hid (((ls s).drop i).any bar = (ls s).any bar)) (fun _ iv _ => s.size - (intOf iv).toNat)
    case atStart => exact ⟨3, _, _, [], Nat.le_refl _, by omega, rfl, rfl, hs2, by simp, World.ownsRow_lit w2 #[] 0 hs2 (Nat.zero_le _) rfl, hb2.alloc hs2 _, rfl, HB0⟩
    case round =>
      obtain ⟨i, g2, c2, acc, hi3, his, rfl, rfl, hg2, hal, hoA, hbA, HA, HB⟩ := hrel
      clear HB0 cE cO hb2 hs2
      have hsz := hbA.size
      by_cases hlt3 : i + 3 < s.size
      · have hlt : i < s.size := by omega
        have hlt' : (i : Int) < (s.size : Int) - 3 := by omega
        have hil : (i : Int) < (s.size : Int) := by omega
        have hi0 : (0 : Int) ≤ (i : Int) := by omega
        have hrl : ¬ ((ls s).drop (i + 1)).length < 3 := by rw [List.length_drop, ls_len]; omega
        by_cases c32 : s[i].toNat < 32
        · have t32 : ((s[i]).toNat : Int) < 32 := by omega
          by_cases c9 : s[i].toNat = 9
          · have t9 : (((s[i]).toNat : Int) != 9) = false := bne_f (c := 9) c9
            have t92 : (((s[i]).toNat : Int) == 92) = false := byte_f (c := 92) (by omega)
            have HB2 := Lib.hid ((any_next hlt (by simp [barN, bt_eq s i hlt, c9])).symm.trans HB.out)
            have HJ := Lib.hid ((rs_next hrl hlt (by intro h; have := congrArg UInt8.toNat h.1; simp at this; omega)).symm.trans HA.out)
            clear HA HB c9
            have n1 : ∀ u ∈ [Value.int .u8 ((s[i]).toNat : Int)], u.oneCell' = true := by intro u hu; simp at hu; subst hu; rfl
            have n2 : acc.length + 1 ≤ maxLen := by unfold maxLen; omega
            go_wp2_with (at_builtin; refine wpList_append_lies _ rfl _ _ 22 rfl w.heap.size 5 i0 (.int .u8 0) 1 1 Tryd.underlying22 hi hz0 hz1 hz2 rfl (by decide) _ _ _ rfl (hoA.alloc _) ⟨wr.heap.size, 0, none⟩ 1 1 [.int .u8 ((s[i]).toNat : Int)] rfl rfl (World.news_of_block (cs := #[.int .u8 ((s[i]).toNat : Int)]) (t := 5) (fr := (0, 0)) (heap_alloc_new wr _)) n1 (by decide) n2 (by omega) (by simp; omega) (wr.heap.size + 1) (by simp) ?_)
            intro g3 c3 w3 hown3 hgrow hat hlt3
            have S := bytes_step (b := s[i]) (by omega) hbA hoA hown3 hgrow
            have hg3 : w.heap.size ≤ g3 := by
              rcases hat with h | h
              · simp [Value.ownBlock] at h; omega
              · omega
            clear hown3 hgrow hat hlt3 hoA hbA n1 n2
            go_wp2_with fail
            go_roundw
            case rel => exact ⟨i + 1, g3, c3, acc ++ [s[i]], by omega, by omega, by go_num, by rw [List.length_append]; rfl, hg3, by rw [List.length_append]; simp; omega, by have h := S.1; rw [← show (acc ++ [s[i]]).length = acc.length + 1 by simp] at h; exact h, S.2, HJ, HB2⟩
            case measure => simp [intOf]; omega
          have t9 : (((s[i]).toNat : Int) != 9) = true := bne_t (c := 9) c9
          by_cases c10 : s[i].toNat = 10
          · have t10 : (((s[i]).toNat : Int) != 10) = false := bne_f (c := 10) c10
            have t92 : (((s[i]).toNat : Int) == 92) = false := byte_f (c := 92) (by omega)
            have HB2 := Lib.hid ((any_next hlt (by simp [barN, bt_eq s i hlt, c10])).symm.trans HB.out)
            have HJ := Lib.hid ((rs_next hrl hlt (by intro h; have := congrArg UInt8.toNat h.1; simp at this; omega)).symm.trans HA.out)
            clear HA HB c10 c9
            have n1 : ∀ u ∈ [Value.int .u8 ((s[i]).toNat : Int)], u.oneCell' = true := by intro u hu; simp at hu; subst hu; rfl
            have n2 : acc.length + 1 ≤ maxLen := by unfold maxLen; omega
            go_wp2_with (at_builtin; refine wpList_append_lies _ rfl _ _ 22 rfl w.heap.size 5 i0 (.int .u8 0) 1 1 Tryd.underlying22 hi hz0 hz1 hz2 rfl (by decide) _ _ _ rfl (hoA.alloc _) ⟨wr.heap.size, 0, none⟩ 1 1 [.int .u8 ((s[i]).toNat : Int)] rfl rfl (World.news_of_block (cs := #[.int .u8 ((s[i]).toNat : Int)]) (t := 5) (fr := (0, 0)) (heap_alloc_new wr _)) n1 (by decide) n2 (by omega) (by simp; omega) (wr.heap.size + 1) (by simp) ?_)
            intro g3 c3 w3 hown3 hgrow hat hlt3
            have S := bytes_step (b := s[i]) (by omega) hbA hoA hown3 hgrow
            have hg3 : w.heap.size ≤ g3 := by
              rcases hat with h | h
              · simp [Value.ownBlock] at h; omega
              · omega
            clear hown3 hgrow hat hlt3 hoA hbA n1 n2
            go_wp2_with fail
            go_roundw
            case rel => exact ⟨i + 1, g3, c3, acc ++ [s[i]], by omega, by omega, by go_num, by rw [List.length_append]; rfl, hg3, by rw [List.length_append]; simp; omega, by have h := S.1; rw [← show (acc ++ [s[i]]).length = acc.length + 1 by simp] at h; exact h, S.2, HJ, HB2⟩
            case measure => simp [intOf]; omega
          have t10 : (((s[i]).toNat : Int) != 10) = true := bne_t (c := 10) c10
          by_cases c13 : s[i].toNat = 13
          · have t13 : (((s[i]).toNat : Int) != 13) = false := bne_f (c := 13) c13
            have t92 : (((s[i]).toNat : Int) == 92) = false := byte_f (c := 92) (by omega)
            have HB2 := Lib.hid ((any_next hlt (by simp [barN, bt_eq s i hlt, c13])).symm.trans HB.out)
            have HJ := Lib.hid ((rs_next hrl hlt (by intro h; have := congrArg UInt8.toNat h.1; simp at this; omega)).symm.trans HA.out)
            clear HA HB c13 c9 c10
            have n1 : ∀ u ∈ [Value.int .u8 ((s[i]).toNat : Int)], u.oneCell' = true := by intro u hu; simp at hu; subst hu; rfl
            have n2 : acc.length + 1 ≤ maxLen := by unfold maxLen; omega
            go_wp2_with (at_builtin; refine wpList_append_lies _ rfl _ _ 22 rfl w.heap.size 5 i0 (.int .u8 0) 1 1 Tryd.underlying22 hi hz0 hz1 hz2 rfl (by decide) _ _ _ rfl (hoA.alloc _) ⟨wr.heap.size, 0, none⟩ 1 1 [.int .u8 ((s[i]).toNat : Int)] rfl rfl (World.news_of_block (cs := #[.int .u8 ((s[i]).toNat : Int)]) (t := 5) (fr := (0, 0)) (heap_alloc_new wr _)) n1 (by decide) n2 (by omega) (by simp; omega) (wr.heap.size + 1) (by simp) ?_)
            intro g3 c3 w3 hown3 hgrow hat hlt3
            have S := bytes_step (b := s[i]) (by omega) hbA hoA hown3 hgrow
            have hg3 : w.heap.size ≤ g3 := by
              rcases hat with h | h
              · simp [Value.ownBlock] at h; omega
              · omega
            clear hown3 hgrow hat hlt3 hoA hbA n1 n2
            go_wp2_with fail
            go_roundw
            case rel => exact ⟨i + 1, g3, c3, acc ++ [s[i]], by omega, by omega, by go_num, by rw [List.length_append]; rfl, hg3, by rw [List.length_append]; simp; omega, by have h := S.1; rw [← show (acc ++ [s[i]]).length = acc.length + 1 by simp] at h; exact h, S.2, HJ, HB2⟩
            case measure => simp [intOf]; omega
          have t13 : (((s[i]).toNat : Int) != 13) = true := bne_t (c := 13) c13
          have hany : (ls s).any bar = true := by
            have := HB.out; rw [any_at hlt, show barN (bt s i) = true by simp [barN, bt_eq s i hlt, c32, c9, c10, c13], Bool.true_or] at this; exact this.symm
          have HE := Lib.hid (btx_bar hany)
          clear HA HB c9 c10 c13 c32 hany
          go_wp2_with fail
          go_ret2
          exact ⟨by rw [HE.out]; rfl, hbA⟩
        · have t32 : ¬ ((s[i]).toNat : Int) < 32 := by omega
          have HB2 := Lib.hid ((any_next hlt (by simp [barN, bt_eq s i hlt]; omega)).symm.trans HB.out)
          clear HB
          by_cases c92 : s[i] = 92
          · have t92 : (((s[i]).toNat : Int) == 92) = true := byte_t (c := 92) (by rw [c92]; rfl)
            have c1 := thS s (i + 1) wr (by omega) (by omega)
            rw [show ((i + 1 : Nat) : Int) = (i : Int) + 1 by omega] at c1
            cases hq : th s (i + 1) with
            | true =>
              rw [hq] at c1
              have HJ := Lib.hid ((rs_skip hrl hlt ⟨c92, hq⟩).symm.trans HA.out)
              clear c92 hq c32
              go_wp2_with fail
              refine c1.mono ?_
              rintro e w3 ⟨rfl, rfl⟩
              go_wp2_with fail
              go_roundw
              case rel => exact ⟨i + 1, g2, c2, acc, by omega, by omega, by go_num, rfl, hg2, by omega, hoA, hbA, HJ, HB2⟩
              case measure => simp [intOf]; omega
            | false =>
              rw [hq] at c1
              have HJ := Lib.hid ((rs_next hrl hlt (fun h => by rw [show q3.isPrefixOf ((ls s).drop (i + 1)) = th s (i + 1) from rfl, hq] at h; exact absurd h.2 (by simp))).symm.trans HA.out)
              clear c92 hq c32 HA
              have n1 : ∀ u ∈ [Value.int .u8 ((s[i]).toNat : Int)], u.oneCell' = true := by intro u hu; simp at hu; subst hu; rfl
              have n2 : acc.length + 1 ≤ maxLen := by unfold maxLen; omega
              go_wp2_with fail
              refine c1.mono ?_
              rintro e w3 ⟨rfl, rfl⟩
              go_wp2_with (at_builtin; refine wpList_append_lies _ rfl _ _ 22 rfl w.heap.size 5 i0 (.int .u8 0) 1 1 Tryd.underlying22 hi hz0 hz1 hz2 rfl (by decide) _ _ _ rfl (hoA.alloc _) ⟨wr.heap.size, 0, none⟩ 1 1 [.int .u8 ((s[i]).toNat : Int)] rfl rfl (World.news_of_block (cs := #[.int .u8 ((s[i]).toNat : Int)]) (t := 5) (fr := (0, 0)) (heap_alloc_new wr _)) n1 (by decide) n2 (by omega) (by simp; omega) (wr.heap.size + 1) (by simp) ?_)
              intro g3 c3 w3 hown3 hgrow hat hlt3
              have S := bytes_step (b := s[i]) (by omega) hbA hoA hown3 hgrow
              have hg3 : w.heap.size ≤ g3 := by
                rcases hat with h | h
                · simp [Value.ownBlock] at h; omega
                · omega
              clear hown3 hgrow hat hlt3 hoA hbA n1 n2
              go_wp2_with fail
              go_roundw
              case rel => exact ⟨i + 1, g3, c3, acc ++ [s[i]], by omega, by omega, by go_num, by rw [List.length_append]; rfl, hg3, by rw [List.length_append]; simp; omega, by have h := S.1; rw [← show (acc ++ [s[i]]).length = acc.length + 1 by simp] at h; exact h, S.2, HJ, HB2⟩
              case measure => simp [intOf]; omega
          · have t92 : (((s[i]).toNat : Int) == 92) = false := byte_f (c := 92) (fun h => c92 (UInt8.toNat_inj.1 h))
            have HJ := Lib.hid ((rs_next hrl hlt (fun h => c92 h.1)).symm.trans HA.out)
            clear c92 c32 HA
            have n1 : ∀ u ∈ [Value.int .u8 ((s[i]).toNat : Int)], u.oneCell' = true := by intro u hu; simp at hu; subst hu; rfl
            have n2 : acc.length + 1 ≤ maxLen := by unfold maxLen; omega
            go_wp2_with (at_builtin; refine wpList_append_lies _ rfl _ _ 22 rfl w.heap.size 5 i0 (.int .u8 0) 1 1 Tryd.underlying22 hi hz0 hz1 hz2 rfl (by decide) _ _ _ rfl (hoA.alloc _) ⟨wr.heap.size, 0, none⟩ 1 1 [.int .u8 ((s[i]).toNat : Int)] rfl rfl (World.news_of_block (cs := #[.int .u8 ((s[i]).toNat : Int)]) (t := 5) (fr := (0, 0)) (heap_alloc_new wr _)) n1 (by decide) n2 (by omega) (by simp; omega) (wr.heap.size + 1) (by simp) ?_)
            intro g3 c3 w3 hown3 hgrow hat hlt3
            have S := bytes_step (b := s[i]) (by omega) hbA hoA hown3 hgrow
            have hg3 : w.heap.size ≤ g3 := by
              rcases hat with h | h
              · simp [Value.ownBlock] at h; omega
              · omega
            clear hown3 hgrow hat hlt3 hoA hbA n1 n2
            go_wp2_with fail
            go_roundw
            case rel => exact ⟨i + 1, g3, c3, acc ++ [s[i]], by omega, by omega, by go_num, by rw [List.length_append]; rfl, hg3, by rw [List.length_append]; simp; omega, by have h := S.1; rw [← show (acc ++ [s[i]]).length = acc.length + 1 by simp] at h; exact h, S.2, HJ, HB2⟩
            case measure => simp [intOf]; omega
      · obtain rfl : i = s.size - 3 := by omega
        have hlt' : ¬ ((s.size - 3 : Nat) : Int) < (s.size : Int) - 3 := by omega
        have hra : acc = rs ((ls s).drop 3) := by have := HA.out; rw [PQ.out, rs_end (by decide), List.append_nil] at this; exact this
        have hba : (ls s).any bar = false := by have := HB.out; rw [PQ.out, bar_q3] at this; exact this.symm
        have hcv := own_conv hoA
        have hal2 : acc.length ≤ 1000 := by omega
        have hsA : (ByteArray.mk acc.toArray).size = acc.length := mk_size acc
        have cV := bvS ⟨acc.toArray⟩ wr (by omega)
        rw [mk_ls] at cV
        have hmz : (ByteArray.mk (bv acc).toArray).size = (bv acc).length := mk_size _
        by_cases h5 : (bv acc).length ≤ 200
        · have HE : Hid (btx s = (bv acc, true)) := by rw [hra] at h5 ⊢; exact btx_ok h1 H2.out H3.out hba h5
          obtain ⟨V, hV⟩ : ∃ V, ByteArray.mk (bv acc).toArray = V := ⟨_, rfl⟩
          rw [hV] at cV hmz
          have h5' : ¬ (200 : Int) < (V.size : Int) := by omega
          have HV := Lib.hid hV
          clear hV hmz h5 hra hba HA HB hsA
          go_wp2_with fail
          refine cV.mono ?_
          rintro e w3 ⟨rfl, hb3⟩
          have hbf := hbA.trans (hb3.mono hsz)
          clear hcv hoA
          go_wp2_with fail
          go_ret2
          exact ⟨by rw [HE.out, HV.out]; rfl, hbf⟩
        · have HE : Hid (btx s = ([], false)) := by rw [hra] at h5; exact btx_much h5
          obtain ⟨V, hV⟩ : ∃ V, ByteArray.mk (bv acc).toArray = V := ⟨_, rfl⟩
          rw [hV] at cV hmz
          have h5' : (200 : Int) < (V.size : Int) := by omega
          clear hV hmz h5 hra hba HA HB hsA
          go_wp2_with fail
          refine cV.mono ?_
          rintro e w3 ⟨rfl, hb3⟩
          have hbf := hbA.trans (hb3.mono hsz)
          clear hcv hoA
          go_wp2_with fail
          go_ret2
          exact ⟨by rw [HE.out]; rfl, hbf⟩
end Go.Proofs.YtaafgcnkedaonaaDoor
