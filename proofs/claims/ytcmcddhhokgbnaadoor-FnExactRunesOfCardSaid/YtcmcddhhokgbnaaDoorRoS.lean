/- What is proved: what RunesOf of the model answers at every text of at most a million bytes: its scalars in order, in new memory; nothing where it is no such text. Used by the proof of FnExactRunesOfCardSaid. -/
import Derived.Test.YtcmcddhhokgbnaaDoorRo
namespace Go.Proofs.YtcmcddhhokgbnaaDoor
open Go.RowKit

set_option maxHeartbeats 1600000 in
set_option maxRecDepth 100000 in
theorem roS (s : ByteArray) (w : World) (hz : s.size ≤ 1048576) :
    Calls Tryd.prog 4 #[.string s] w (Left (runes s) (runes s).length w) := by
  obtain ⟨i0, hi, hz0, hz1, hz2⟩ := info_parts info3
  cases HO : ok s with
  | false =>
    go_enter Tryd.func4, Tryd.ntmps4
    go_wp2_with fail
    refine (okS s _ (by omega)).mono ?_
    rintro e w1 ⟨rfl, hb1⟩
    rw [HO]
    go_wp2
    go_ret
    exact left_none HO hb1
  | true =>
    have HI0 := Lib.hid (rinv_start HO)
    go_enter Tryd.func4, Tryd.ntmps4
    go_wp2_with fail
    refine (okS s _ (by omega)).mono ?_
    rintro e w1 ⟨rfl, hb1⟩
    rw [HO]
    have ho1 : w1.ownsRow w.heap.size 3 1 (.slice (some ⟨w.heap.size, 0, none⟩) 0 0) 0 (intC []) := own_below (World.ownsRow_lit w #[] 0 (Nat.le_refl _) (Nat.zero_le _) rfl) hb1
    have hb2 : Below w.heap.size w w1 := ((Below.refl _ _).alloc (Nat.le_refl _) _).trans (hb1.mono (by simp))
    clear HO hb1
    go_wp2
    go_loopw [3, 4] (fun v i wr => ∃ (pos g cap : Nat) (L : List Int), i = .int .i64 (pos : Int) ∧ pos ≤ s.size ∧ L.length ≤ pos ∧ v = .slice (some ⟨g, 0, none⟩) L.length cap ∧ w.heap.size ≤ g ∧ wr.ownsRow w.heap.size 3 1 (.slice (some ⟨g, 0, none⟩) L.length cap) L.length (intC L) ∧ Below w.heap.size w wr ∧ Hid (RInv s pos L))
      (fun _ i _ => s.size - (intOf i).toNat)
    case atStart => exact ⟨0, w.heap.size, 0, [], rfl, Nat.zero_le _, Nat.le_refl _, rfl, Nat.le_refl _, ho1, hb2, HI0⟩
    case round =>
      clear ho1 hb2
      obtain ⟨pos, g, cap, L, rfl, hp, hLp, rfl, hg, hown, hnx, HI⟩ := hrel
      have hsz := hnx.size
      by_cases hlt : pos < s.size
      · have hlt' : (pos : Int) < (s.size : Int) := by omega
        obtain ⟨b1, b2, b3, b4⟩ := dec_bound s pos hlt
        have hgo := rinv_go HI.out hlt
        have era := ra_good hgo.2
        have HJ := Lib.hid hgo.1
        clear hgo HI
        obtain ⟨a, ha⟩ : ∃ a, (Utf8.decode s pos).1 = a := ⟨_, rfl⟩
        obtain ⟨b, hb'⟩ : ∃ b, (Utf8.decode s pos).2 = b := ⟨_, rfl⟩
        rw [ha, hb'] at era HJ
        rw [hb'] at b2 b3 b4
        clear ha hb' b1
        go_wp2_with fail
        refine (raS s pos wr hlt (by omega)).mono ?_
        rintro e w1 ⟨rfl, hb1⟩
        rw [era]
        have hnx1 := hnx.trans (hb1.mono hsz)
        have hown1 := own_below hown hb1
        have hsz1 := hnx1.size
        clear era hb1 hnx hown
        have n1 : ∀ u ∈ [Value.int .i64 (a : Int)], u.oneCell' = true := by intro u hu; simp at hu; subst hu; rfl
        have n2 : L.length + 1 ≤ maxLen := by unfold maxLen; omega
        go_wp2_with (at_builtin; refine wpList_append_lies _ rfl _ _ 22 rfl w.heap.size 3 i0 (.int .i64 0) 1 8 Tryd.underlying22 hi hz0 hz1 hz2 rfl (by decide) _ _ _ rfl (hown1.alloc _) ⟨w1.heap.size, 0, none⟩ 1 1 [.int .i64 (a : Int)] rfl rfl (World.news_of_block (cs := #[.int .i64 (a : Int)]) (t := 3) (fr := (0, 0)) (heap_alloc_new w1 _)) n1 (by decide) n2 (by omega) (by simp; omega) (w1.heap.size + 1) (by simp) ?_)
        intro g2 cap2 w2 hown2 hgrow hat hlt2
        have R := int_step rfl hnx1 hown1 hown2 hgrow
        have hg2 : w.heap.size ≤ g2 := by
          rcases hat with h | h
          · simp [Value.ownBlock] at h; omega
          · omega
        clear hown2 hgrow hat hlt2 hown1 n1
        go_wp2
        go_roundw
        case rel => exact ⟨pos + b, g2, cap2, L ++ [(a : Int)], by go_num, b4, by rw [R.1]; omega, by rw [R.1], hg2, by rw [R.1]; exact R.2.1, R.2.2, HJ⟩
        case measure => simp [intOf]; omega
      · have hlt' : ¬ (pos : Int) < (s.size : Int) := by omega
        have HE := Lib.hid (rinv_end HI.out hlt)
        clear HI
        go_wp2
        go_ret
        exact left_mk HE.out hg hown hnx
end Go.Proofs.YtcmcddhhokgbnaaDoor
