/- What is proved: what the model's PartsOf answers at every line of at most 1048576 bytes: the parts that a fold over its bytes gathers, and true, or nothing and false; the list lies in new memory. Used by the proof of FnExactPartsOfSaid. -/
import Derived.Test.YtibkfgngdbmaiaaPb
namespace Go.Proofs.Ytibkfgngdbmaiaa
namespace Pa
open Go.RowKit

def addP (ps : List (List UInt8)) (cur : List UInt8) : List (List UInt8) := if cur = [] then ps else ps ++ [cur]
def stepP (st : List (List UInt8) × List UInt8) (c : UInt8) : List (List UInt8) × List UInt8 := if c = 32 then (addP st.1 st.2, []) else (st.1, st.2 ++ [c])
def stP (l : List UInt8) : List (List UInt8) × List UInt8 := l.foldl stepP ([], [])
def finP (l : List UInt8) : List (List UInt8) := addP (stP l).1 (stP l).2
def okL (l : List UInt8) : Bool := l.all fun c => decide (32 ≤ c.toNat ∧ c.toNat ≤ 126)
def resP (l : List UInt8) : List (List UInt8) × Bool := if l.length ≤ 600 ∧ okL l = true ∧ (finP l).length ≤ 12 then (finP l, true) else ([], false)

theorem stP_snoc (l : List UInt8) (c : UInt8) : stP (l ++ [c]) = stepP (stP l) c := by simp [stP, List.foldl_append]
theorem okL_snoc (l : List UInt8) (c : UInt8) : okL (l ++ [c]) = (okL l && decide (32 ≤ c.toNat ∧ c.toNat ≤ 126)) := by simp [okL, List.all_append]
theorem addP_length (ps : List (List UInt8)) (cur : List UInt8) : (addP ps cur).length ≤ ps.length + 1 := by unfold addP; split <;> simp
theorem okL_bad (l : List UInt8) (k : Nat) (h : k < l.length) (hb : ¬ (32 ≤ (l[k]).toNat ∧ (l[k]).toNat ≤ 126)) : okL l = false := by
  unfold okL
  rw [List.all_eq_false]
  exact ⟨l[k], List.getElem_mem h, by simpa using hb⟩
theorem resP_bad {l : List UInt8} (h : okL l = false) : resP l = ([], false) := by unfold resP; rw [if_neg (by simp [h])]
theorem resP_long {l : List UInt8} (h : ¬ l.length ≤ 600) : resP l = ([], false) := by unfold resP; rw [if_neg (fun x => h x.1)]
theorem resP_many {l : List UInt8} (h : ¬ (finP l).length ≤ 12) : resP l = ([], false) := by unfold resP; rw [if_neg (fun x => h x.2.2)]
theorem resP_ok {l : List UInt8} (h0 : l.length ≤ 600) (h1 : okL l = true) (h2 : (finP l).length ≤ 12) : resP l = (finP l, true) := by unfold resP; rw [if_pos ⟨h0, h1, h2⟩]

theorem take_snoc (l : List UInt8) (k : Nat) (h : k < l.length) : l.take (k + 1) = l.take k ++ [l[k]] := by
  rw [List.take_succ_eq_append_getElem h]

/-- What holds of the model's loop at k, its beginning b, its list L. -/
def Inv (l : List UInt8) (k b : Nat) (L : List (List UInt8)) : Prop :=
  (k ≤ l.length ∧ okL (l.take k) = true ∧ (stP (l.take k)).1 = L ∧ (stP (l.take k)).2 = (l.take k).drop b) ∨ (k = l.length + 1 ∧ okL l = true ∧ L = finP l)
theorem inv_start (l : List UInt8) : Inv l 0 0 [] := .inl ⟨Nat.zero_le _, by simp [okL], by simp [stP], by simp [stP]⟩
theorem inv_go {l : List UInt8} {k b : Nat} {L : List (List UInt8)} (h : Inv l k b L) (hk : k < l.length) (hb : b ≤ k) (hc : 32 ≤ (l[k]).toNat ∧ (l[k]).toNat ≤ 126) (hn : (l[k]).toNat ≠ 32) : Inv l (k + 1) b L := by
  rcases h with ⟨_, h1, h2, h3⟩ | ⟨h1, _⟩
  · have h32 : l[k] ≠ 32 := fun e => hn (by rw [e]; rfl)
    refine .inl ⟨hk, ?_, ?_, ?_⟩
    · rw [take_snoc l k hk, okL_snoc, h1]; simp [hc]
    · rw [take_snoc l k hk, stP_snoc, stepP, if_neg h32]; exact h2
    · rw [take_snoc l k hk, stP_snoc, stepP, if_neg h32]
      show (stP (l.take k)).2 ++ [l[k]] = _
      rw [h3, List.drop_append_of_le_length (by rw [List.length_take]; omega)]
  · omega
theorem inv_blank {l : List UInt8} {k b : Nat} {L : List (List UInt8)} (h : Inv l k b L) (hk : k < l.length) (hn : (l[k]).toNat = 32) : Inv l (k + 1) (k + 1) (addP L ((l.take k).drop b)) := by
  rcases h with ⟨_, h1, h2, h3⟩ | ⟨h1, _⟩
  · have h32 : l[k] = 32 := UInt8.toNat_inj.1 hn
    refine .inl ⟨hk, ?_, ?_, ?_⟩
    · rw [take_snoc l k hk, okL_snoc, h1]; simp [hn]
    · rw [take_snoc l k hk, stP_snoc, stepP, if_pos h32]; show addP _ _ = _; rw [h2, h3]
    · rw [take_snoc l k hk, stP_snoc, stepP, if_pos h32, List.drop_of_length_le (by simp; omega)]
  · omega
theorem inv_last {l : List UInt8} {b : Nat} {L : List (List UInt8)} (h : Inv l l.length b L) : Inv l (l.length + 1) (l.length + 1) (addP L (l.drop b)) := by
  rcases h with ⟨_, h1, h2, h3⟩ | ⟨h1, _⟩
  · rw [List.take_length] at h1 h2 h3
    exact .inr ⟨rfl, h1, by unfold finP; rw [h2, h3]⟩
  · omega
theorem inv_end {l : List UInt8} {b : Nat} {L : List (List UInt8)} (h : Inv l (l.length + 1) b L) : okL l = true ∧ L = finP l := by
  rcases h with ⟨h0, _⟩ | ⟨_, h⟩
  · omega
  · exact h
theorem addP_nil {L : List (List UInt8)} {cur : List UInt8} (h : cur.length = 0) : addP L cur = L := by unfold addP; rw [if_pos (List.eq_nil_of_length_eq_zero h)]
theorem addP_cons {L : List (List UInt8)} {cur : List UInt8} (h : cur.length ≠ 0) : addP L cur = L ++ [cur] := by unfold addP; rw [if_neg (fun e => h (by rw [e]; rfl))]

theorem extract_list (s : ByteArray) (b k : Nat) : s.extract b k = ⟨((s.data.toList.take k).drop b).toArray⟩ := by
  apply ByteArray.ext
  apply Array.toList_inj.1
  simp [ByteArray.data_extract, List.drop_take]

theorem str_step {w wr w2 : World} {o : Obj} {v v2 : Value} {n : Nat} {L : List (List UInt8)} {l : List UInt8} (hn : L.length = n) (hnx : Below w.heap.size w wr)
    (hown : wr.ownsRow w.heap.size 9 1 v n (strC L)) (hown2 : w2.ownsRow w.heap.size 9 1 v2 (n + 1) (strC L ++ [.string ⟨l.toArray⟩])) (hgrow : (wr.alloc o).grownBy w2 v.ownBlock) :
    (L ++ [l]).length = n + 1 ∧ w2.ownsRow w.heap.size 9 1 v2 (n + 1) (strC (L ++ [l])) ∧ Below w.heap.size w w2 := by
  refine ⟨by simp [hn], ?_, ?_⟩
  · simpa [strC] using hown2
  · exact (hnx.alloc hnx.size _).grown hgrow (by have := hnx.size; simp; omega) (fun k hk => (hown.lt k hk).1)

/-- What a call of PartsOf leaves. -/
def Left (l : List UInt8) (w : World) (e : Ending) (w' : World) : Prop :=
  ∃ g cap : Nat, e = .returned (.tuple #[.slice (some ⟨g, 0, none⟩) (resP l).1.length cap, .bool (resP l).2]) ∧ w.heap.size ≤ g ∧ w'.ownsRow w.heap.size 9 1 (.slice (some ⟨g, 0, none⟩) (resP l).1.length cap) (resP l).1.length (strC (resP l).1) ∧ Below w.heap.size w w'
theorem left_mk {l : List UInt8} {w w' : World} {L : List (List UInt8)} {b : Bool} {g cap : Nat} (h : resP l = (L, b)) (hg : w.heap.size ≤ g) (ho : w'.ownsRow w.heap.size 9 1 (.slice (some ⟨g, 0, none⟩) L.length cap) L.length (strC L)) (hb : Below w.heap.size w w') :
    Left l w (.returned (.tuple #[.slice (some ⟨g, 0, none⟩) L.length cap, .bool b])) w' := by
  unfold Left; rw [h]; exact ⟨g, cap, rfl, hg, ho, hb⟩
theorem left_none {l : List UInt8} {w wr : World} (h : resP l = ([], false)) (hb : Below w.heap.size w wr) :
    Left l w (.returned (.tuple #[.slice (some ⟨wr.heap.size, 0, none⟩) 0 0, .bool false])) (wr.alloc (.cells #[] 9)) :=
  left_mk (L := []) h hb.size (World.ownsRow_lit wr #[] 0 hb.size (Nat.zero_le _) rfl) (hb.alloc hb.size _)

theorem list_len (s : ByteArray) : s.data.toList.length = s.size := by rw [Array.length_toList]; rfl
theorem list_at (s : ByteArray) (k : Nat) (h : k < s.size) : (s.data.toList[k]'(by rw [list_len]; exact h)) = s[k] := rfl

set_option maxHeartbeats 600000 in
theorem specLong (s : ByteArray) (w : World) (hs : 600 < s.size) (hm : s.size ≤ 1048576) :
    Calls Try.prog 11 #[.string s] w (Left s.data.toList w) := by
  have h1 : (600 : Int) < (s.size : Int) := by omega
  have HR : Hid (resP s.data.toList = ([], false)) := resP_long (by rw [list_len]; omega)
  go_enter Try.func11, Try.ntmps11
  go_wp2
  go_ret2
  exact left_none HR.out (Below.refl _ _)

set_option maxHeartbeats 1600000 in
theorem specShort (s : ByteArray) (w : World) (hs : s.size ≤ 600) :
    Calls Try.prog 11 #[.string s] w (Left s.data.toList w) := by
  obtain ⟨i0, hi, hz0, hz1, hz2⟩ := info_parts info9
  have h1 : ¬ (600 : Int) < (s.size : Int) := by omega
  have hl := list_len s
  have HL : Hid (s.data.toList.length = s.size) := hl
  clear hl
  go_enter Try.func11, Try.ntmps11
  go_wp2
  go_loopw [4, 5, 6] (fun v bv i wr => ∃ (k b g cap : Nat) (L : List (List UInt8)), k ≤ s.size + 1 ∧ b ≤ k ∧ i = .int .i64 (k : Int) ∧ bv = .int .i64 (b : Int) ∧ v = .slice (some ⟨g, 0, none⟩) L.length cap ∧ w.heap.size ≤ g ∧ L.length ≤ k ∧ wr.ownsRow w.heap.size 9 1 (.slice (some ⟨g, 0, none⟩) L.length cap) L.length (strC L) ∧ Below w.heap.size w wr ∧ Hid (Inv s.data.toList k b L))
    (fun _ _ i _ => s.size + 1 - (intOf i).toNat)
  case atStart => exact ⟨0, 0, _, _, [], Nat.zero_le _, Nat.le_refl _, rfl, rfl, rfl, Nat.le_refl _, Nat.le_refl _, World.ownsRow_lit w #[] 0 (Nat.le_refl _) (Nat.zero_le _) rfl, (Below.refl _ _).alloc (Nat.le_refl _) _, inv_start _⟩
  case round =>
    obtain ⟨k, b, g, cap, L, hk, hb, rfl, rfl, rfl, hg, hLk, hown, hnx, HI⟩ := hrel
    have hsz := hnx.size
    by_cases hlt : k < s.size
    · have hi0 : (0 : Int) ≤ (k : Int) := by omega
      have hi1 : (k : Int) < (s.size : Int) := by omega
      have hi2 : (k : Int) ≤ (s.size : Int) := by omega
      have HKL : Hid (k < s.data.toList.length) := by show k < _; rw [HL.out]; exact hlt
      have HA : Hid (∀ h : k < s.data.toList.length, s.data.toList[k]'h = s[k]) := fun _ => rfl
      by_cases hc1 : (s[k].toNat : Int) < 32
      · have HR : Hid (resP s.data.toList = ([], false)) := resP_bad (okL_bad _ k HKL.out (by rw [HA.out]; omega))
        go_wp2
        go_ret2
        exact left_none HR.out hnx
      · by_cases hc2 : 126 < (s[k].toNat : Int)
        · have HR : Hid (resP s.data.toList = ([], false)) := resP_bad (okL_bad _ k HKL.out (by rw [HA.out]; omega))
          go_wp2
          go_ret2
          exact left_none HR.out hnx
        · by_cases hc3 : s[k].toNat = 32
          · have hn : ((s[k].toNat : Int) != 32) = false := by simp; omega
            by_cases hbk : b < k
            · have HJ : Hid (Inv s.data.toList (k + 1) (k + 1) (L ++ [(s.data.toList.take k).drop b])) := by
                have := inv_blank HI.out HKL.out (by rw [HA.out]; exact hc3)
                rw [addP_cons (by rw [List.length_drop, List.length_take, HL.out]; omega)] at this; exact this
              have hbk0 : (b : Int) < (k : Int) := by omega
              have HX : Hid (s.extract b k = ⟨((s.data.toList.take k).drop b).toArray⟩) := extract_list s b k
              have hb0 : (0 : Int) ≤ (b : Int) := by omega
              have n1 : ∀ u ∈ [Value.string (s.extract b k)], u.oneCell' = true := by intro u hu; simp at hu; subst hu; rfl
              have n2 : L.length + 1 ≤ maxLen := by unfold maxLen; omega
              have hbs : (k : Int) ≤ (s.size : Int) := by omega
              go_wp2_with (at_builtin; refine wpList_append_lies _ rfl _ _ 25 rfl w.heap.size 9 i0 (.string ⟨#[]⟩) 1 16 Try.underlying25 hi hz0 hz1 hz2 rfl (by decide) _ _ _ rfl (hown.alloc _) ⟨wr.heap.size, 0, none⟩ 1 1 [.string (s.extract b k)] rfl rfl (World.news_of_block (cs := #[.string (s.extract b k)]) (t := 9) (fr := (0, 0)) (heap_alloc_new wr _)) n1 (by decide) n2 (by omega) (by simp; omega) (wr.heap.size + 1) (by simp) ?_)
              intro g2 cap2 w2 hown2 hgrow hat hlt2
              rw [HX.out] at hown2
              have R := str_step rfl hnx hown hown2 hgrow
              have hg2 : w.heap.size ≤ g2 := by
                rcases hat with h | h
                · simp [Value.ownBlock] at h; omega
                · omega
              clear hown2 hgrow hat hlt2 hown HX n1
              go_wp2
              go_roundw
              case rel => exact ⟨k + 1, k + 1, g2, cap2, L ++ [(s.data.toList.take k).drop b], by omega, by omega, by go_num, by go_num, by rw [R.1], hg2, by rw [R.1]; omega, by rw [R.1]; exact R.2.1, R.2.2, HJ⟩
              case measure => simp [intOf]; omega
            · have hbk0 : ¬ (b : Int) < (k : Int) := by omega
              have HJ : Hid (Inv s.data.toList (k + 1) (k + 1) L) := by
                have := inv_blank HI.out HKL.out (by rw [HA.out]; exact hc3)
                rw [addP_nil (by rw [List.length_drop, List.length_take, HL.out]; omega)] at this; exact this
              go_wp2
              go_roundw
              case rel => exact ⟨k + 1, k + 1, g, cap, L, by omega, by omega, by go_num, by go_num, rfl, hg, by omega, hown, hnx, HJ⟩
              case measure => simp [intOf]; omega
          · have hn : ((s[k].toNat : Int) != 32) = true := by rw [bne_iff_ne]; omega
            have HJ : Hid (Inv s.data.toList (k + 1) b L) := inv_go HI.out HKL.out hb (by rw [HA.out]; omega) (by rw [HA.out]; exact hc3)
            go_wp2
            go_roundw
            case rel => exact ⟨k + 1, b, g, cap, L, by omega, by omega, by go_num, rfl, rfl, hg, by omega, hown, hnx, HJ⟩
            case measure => simp [intOf]; omega
    · have hi1 : ¬ (k : Int) < (s.size : Int) := by omega
      have hi3 : decide ((k : Int) < (s.size : Int)) = false := by simpa using hi1
      by_cases hle : k ≤ s.size
      · have hi2 : (k : Int) ≤ (s.size : Int) := by omega
        have HK : Hid (k = s.data.toList.length) := by have := HL.out; show k = _; omega
        have HT : Hid (s.data.toList.take k = s.data.toList) := by rw [HK.out]; exact List.take_length
        have HI2 : Hid (Inv s.data.toList (k + 1) (k + 1) (addP L ((s.data.toList.take k).drop b))) := by
          have h := HI.out
          rw [HT.out]
          rw [HK.out] at h ⊢
          exact inv_last h
        by_cases hbk : b < k
        · have HJ : Hid (Inv s.data.toList (k + 1) (k + 1) (L ++ [(s.data.toList.take k).drop b])) := by
            have := HI2.out
            rw [addP_cons (by rw [List.length_drop, List.length_take, HL.out]; omega)] at this; exact this
          have hbk0 : (b : Int) < (k : Int) := by omega
          have HX : Hid (s.extract b k = ⟨((s.data.toList.take k).drop b).toArray⟩) := extract_list s b k
          have hb0 : (0 : Int) ≤ (b : Int) := by omega
          have n1 : ∀ u ∈ [Value.string (s.extract b k)], u.oneCell' = true := by intro u hu; simp at hu; subst hu; rfl
          have n2 : L.length + 1 ≤ maxLen := by unfold maxLen; omega
          have hbs : (k : Int) ≤ (s.size : Int) := by omega
          go_wp2_with (at_builtin; refine wpList_append_lies _ rfl _ _ 25 rfl w.heap.size 9 i0 (.string ⟨#[]⟩) 1 16 Try.underlying25 hi hz0 hz1 hz2 rfl (by decide) _ _ _ rfl (hown.alloc _) ⟨wr.heap.size, 0, none⟩ 1 1 [.string (s.extract b k)] rfl rfl (World.news_of_block (cs := #[.string (s.extract b k)]) (t := 9) (fr := (0, 0)) (heap_alloc_new wr _)) n1 (by decide) n2 (by omega) (by simp; omega) (wr.heap.size + 1) (by simp) ?_)
          intro g2 cap2 w2 hown2 hgrow hat hlt2
          rw [HX.out] at hown2
          have R := str_step rfl hnx hown hown2 hgrow
          have hg2 : w.heap.size ≤ g2 := by
            rcases hat with h | h
            · simp [Value.ownBlock] at h; omega
            · omega
          clear hown2 hgrow hat hlt2 hown HX n1
          go_wp2
          go_roundw
          case rel => exact ⟨k + 1, k + 1, g2, cap2, L ++ [(s.data.toList.take k).drop b], by omega, by omega, by go_num, by go_num, by rw [R.1], hg2, by rw [R.1]; omega, by rw [R.1]; exact R.2.1, R.2.2, HJ⟩
          case measure => simp [intOf]; omega
        · have hbk0 : ¬ (b : Int) < (k : Int) := by omega
          have HJ : Hid (Inv s.data.toList (k + 1) (k + 1) L) := by
            have := HI2.out
            rw [addP_nil (by rw [List.length_drop, List.length_take, HL.out]; omega)] at this; exact this
          go_wp2
          go_roundw
          case rel => exact ⟨k + 1, k + 1, g, cap, L, by omega, by omega, by go_num, by go_num, rfl, hg, by omega, hown, hnx, HJ⟩
          case measure => simp [intOf]; omega
      · have hi2 : ¬ (k : Int) ≤ (s.size : Int) := by omega
        have HE : Hid (okL s.data.toList = true ∧ L = finP s.data.toList) := by
          have h := HI.out
          rw [show k = s.data.toList.length + 1 from by have := HL.out; omega] at h
          exact inv_end h
        by_cases hm : 12 < L.length
        · have hm1 : (12 : Int) < (L.length : Int) := by omega
          have HR : Hid (resP s.data.toList = ([], false)) := resP_many (by have := HE.out; rw [← this.2]; omega)
          go_wp2
          go_ret2
          exact left_none HR.out hnx
        · have hm1 : ¬ (12 : Int) < (L.length : Int) := by omega
          have HR : Hid (resP s.data.toList = (L, true)) := by
            have h := HE.out
            show _ = _
            rw [h.2]
            exact resP_ok (by rw [HL.out]; exact hs) h.1 (by rw [← h.2]; omega)
          go_wp2
          go_ret2
          exact left_mk HR.out hg hown hnx
end Pa
end Go.Proofs.Ytibkfgngdbmaiaa
