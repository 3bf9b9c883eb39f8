/- What is proved: what RunesOf of the program answers at every text of at most a million bytes: the same as the model's, in new memory. Used by the proofs of FnExactRunesOfCardSaid and FnRunesCardSaid. -/
import Derived.Test.YtcmcddhhokgbnaaDoorRo
namespace Go.Proofs.YtcmcddhhokgbnaaDoor
open Go.RowKit

theorem own_iterAt {w : World} {B e size n k pos : Nat} {s : ByteArray} {v : Value} {xs : List Value} (h : w.ownsRow B e size v n xs) (hk : w.heap[k]? = some (.stringIter s pos)) (pos' : Nat) : (w.iterAt k s pos').ownsRow B e size v n xs := by
  refine ⟨h.1, ?_⟩
  rcases h.2 with h0 | ⟨g, cap, cur, hv, hB, hg, h1, h2, h3, h4⟩
  · exact .inl h0
  · refine .inr ⟨g, cap, cur, hv, hB, ?_, h1, h2, h3, h4⟩
    rw [Lib.iterAt_other _ _ _ _ _ (fun e => by rw [e, hk] at hg; cases hg)]
    exact hg
theorem own_not_iter {w : World} {B e size n k g c m pos : Nat} {s : ByteArray} {xs : List Value} (h : w.ownsRow B e size (.slice (some ⟨g, 0, none⟩) m c) n xs) (hk : w.heap[k]? = some (.stringIter s pos)) : g ≠ k := by
  intro e
  rcases h.2 with h0 | ⟨g', cap, cur, hv, hB, hg, _⟩
  · simp at h0
  · simp at hv
    rw [← hv.1, e, hk] at hg; cases hg

set_option maxHeartbeats 1600000 in
set_option maxRecDepth 100000 in
theorem roI (s : ByteArray) (w : World) (hz : s.size ≤ 1048576) (hT : Lib.Utf8Tabs 0 1 w) :
    Calls Tryd.prog 5 #[.string s] w (Left (runes s) (runes s).length w) := by
  obtain ⟨i0, hi, hz0, hz1, hz2⟩ := info_parts info3
  have hT1 : Lib.Utf8Tabs 0 1 (w.alloc (.cells #[] 3)) := Utf8Tabs_below hT ((Below.refl _ _).alloc (Nat.le_refl _) _)
  cases HO : ok s with
  | false =>
    go_enter Tryd.func5, Tryd.ntmps5
    go_wp2_with fail
    refine (okI s _ hT1).mono ?_
    rintro e w1 ⟨rfl, hb1⟩
    rw [HO]
    go_wp2
    go_ret
    exact left_none HO hb1
  | true =>
    have HI0 := Lib.hid (rinv_start HO)
    go_enter Tryd.func5, Tryd.ntmps5
    go_wp2_with fail
    refine (okI s _ hT1).mono ?_
    rintro e w1 ⟨rfl, hb1⟩
    rw [HO]
    have ho1 : w1.ownsRow w.heap.size 3 1 (.slice (some ⟨w.heap.size, 0, none⟩) 0 0) 0 (intC []) := own_below (World.ownsRow_lit w #[] 0 (Nat.le_refl _) (Nat.zero_le _) rfl) hb1
    have hb2 : Below w.heap.size w w1 := ((Below.refl _ _).alloc (Nat.le_refl _) _).trans (hb1.mono (by simp))
    have hs1 := hb2.size
    clear HO hb1 hT1 hT
    go_wp2
    go_loopw [3] (fun v wr => ∃ (pos g cap : Nat) (L : List Int), wr.heap[w1.heap.size]? = some (.stringIter s pos) ∧ pos ≤ s.size ∧ L.length ≤ pos ∧ v = .slice (some ⟨g, 0, none⟩) L.length cap ∧ w.heap.size ≤ g ∧ wr.ownsRow w.heap.size 3 1 (.slice (some ⟨g, 0, none⟩) L.length cap) L.length (intC L) ∧ Below w.heap.size w wr ∧ Hid (RInv s pos L))
      (fun _ wr => s.size - wr.iterPos w1.heap.size)
    case atStart => exact ⟨0, w.heap.size, 0, [], heap_alloc_new w1 _, Nat.zero_le _, Nat.le_refl _, rfl, Nat.le_refl _, ho1.alloc _, hb2.alloc hs1 _, HI0⟩
    case round =>
      clear ho1 hb2
      obtain ⟨pos, g, cap, L, hit, hp, hLp, rfl, hg, hown, hnx, HI⟩ := hrel
      have hsz := hnx.size
      by_cases hlt : pos < s.size
      · have hlt' : (pos : Int) < (s.size : Int) := by omega
        obtain ⟨b1, b2, b3, b4⟩ := dec_bound s pos hlt
        have HJ := Lib.hid (rinv_go HI.out hlt).1
        clear HI
        have hip : wr.iterPos w1.heap.size = pos := by simp [World.iterPos, hit]
        have hne := own_not_iter hown hit
        have hnxt := fun ty => Lib.run_next_any_at (P := Tryd.prog) wr w1.heap.size s pos ty hit hlt
        have hbl2 := Lib.below_iterAt hnx hs1 s (pos + (Utf8.decode s pos).2)
        have hit2 := Lib.iterAt_heap wr w1.heap.size s pos (pos + (Utf8.decode s pos).2) hit
        have hown2 := own_iterAt hown hit (pos + (Utf8.decode s pos).2)
        obtain ⟨a, ha⟩ : ∃ a, (Utf8.decode s pos).1 = a := ⟨_, rfl⟩
        obtain ⟨b, hb'⟩ : ∃ b, (Utf8.decode s pos).2 = b := ⟨_, rfl⟩
        rw [ha, hb'] at HJ
        rw [hb'] at b2 b3 b4 hbl2 hit2 hown2
        rw [ha] at b1
        simp only [ha, hb'] at hnxt
        obtain ⟨W, hW⟩ : ∃ W, wr.iterAt w1.heap.size s (pos + b) = W := ⟨_, rfl⟩
        rw [hW] at hbl2 hit2 hown2
        simp only [hW] at hnxt
        have hszW := hbl2.size
        have hltW : w1.heap.size < W.heap.size := (Array.getElem?_eq_some_iff.1 hit2).1
        have e1 : IntKind.i64.wrap (a : Int) = a := by rw [IntKind.wrap_i64]; omega
        clear ha hb' hW hnx hown hit
        have n1 : ∀ u ∈ [Value.int .i64 (a : Int)], u.oneCell' = true := by intro u hu; simp at hu; subst hu; rfl
        have n2 : L.length + 1 ≤ maxLen := by unfold maxLen; omega
        go_wp2_with (at_builtin; refine wpList_append_lies _ rfl _ _ 22 rfl w.heap.size 3 i0 (.int .i64 0) 1 8 Tryd.underlying22 hi hz0 hz1 hz2 rfl (by decide) _ _ _ rfl (hown2.alloc _) ⟨W.heap.size, 0, none⟩ 1 1 [.int .i64 (a : Int)] rfl rfl (World.news_of_block (cs := #[.int .i64 (a : Int)]) (t := 3) (fr := (0, 0)) (heap_alloc_new W _)) n1 (by decide) n2 (by omega) (by simp; omega) (W.heap.size + 1) (by simp) ?_)
        intro g2 cap2 w2 hown3 hgrow hat hlt2
        have R := int_step rfl hbl2 hown2 hown3 hgrow
        have hg2 : w.heap.size ≤ g2 := by
          rcases hat with h | h
          · simp [Value.ownBlock] at h; omega
          · omega
        have hit3 : w2.heap[w1.heap.size]? = some (.stringIter s (pos + b)) := by
          rw [hgrow.block _ (by simp; omega) (by simp [Value.ownBlock]; omega), Below.heap_alloc _ _ _ hltW]; exact hit2
        clear hown3 hgrow hat hlt2 hown2 n1 hnxt hit2 hbl2
        go_wp2
        go_roundw
        case rel => exact ⟨pos + b, g2, cap2, L ++ [(a : Int)], hit3, b4, by rw [R.1]; omega, by rw [R.1], hg2, by rw [R.1]; exact R.2.1, R.2.2, HJ⟩
        case measure => rw [hip]; simp [World.iterPos, hit3]; omega
      · have hnxt := fun ty => Lib.run_next_end_at (P := Tryd.prog) wr w1.heap.size s pos ty hit hlt
        have HE := Lib.hid (rinv_end HI.out hlt)
        clear HI
        go_wp2
        go_ret
        exact left_mk HE.out hg hown hnx
end Go.Proofs.YtcmcddhhokgbnaaDoor
