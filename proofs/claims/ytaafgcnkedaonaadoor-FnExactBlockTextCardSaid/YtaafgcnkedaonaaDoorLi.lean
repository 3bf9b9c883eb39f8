/- What is proved: the model's LinesIn and the program's answer the lines ln of a text at every text of at most one million bytes, in new memory. -/
import Derived.Test.YtaafgcnkedaonaaDoorTab
import Derived.Test.YtaafgcnkedaonaaDoorIn
import Derived.Test.YtaafgcnkedaonaaDoorTxA
import Derived.Deep.AppendLies
namespace Go.Proofs.YtaafgcnkedaonaaDoor
open Go.RowKit

/-- A list of texts in new memory. -/
def Row (L : List Bs) (n : Nat) (w : World) (e : Ending) (w' : World) : Prop :=
  ∃ g cap : Nat, e = .returned (.slice (some ⟨g, 0, none⟩) n cap) ∧ w.heap.size ≤ g ∧ w'.ownsRow w.heap.size 9 1 (.slice (some ⟨g, 0, none⟩) n cap) n (Tx.strC L) ∧ Below w.heap.size w w'

theorem own_base {w : World} {B B' e size n : Nat} {v : Value} {xs : List Value} (h : w.ownsRow B e size v n xs) (hb : B' ≤ B) : w.ownsRow B' e size v n xs := by
  refine ⟨h.1, ?_⟩
  rcases h.2 with h0 | ⟨g, cap, cur, hv, hB, hg, h1, h2, h3, h4⟩
  · exact .inl h0
  · exact .inr ⟨g, cap, cur, hv, Nat.le_trans hb hB, hg, h1, h2, h3, h4⟩
theorem ba_ls (s : ByteArray) : ByteArray.mk (ls s).toArray = s := by cases s; simp [ls]
theorem mk_ls (l : Bs) : ls ⟨l.toArray⟩ = l := by simp [ls]
theorem map_str (xs : List ByteArray) : xs.map Value.string = Tx.strC (xs.map ls) := by
  simp only [Tx.strC, List.map_map]
  apply List.map_congr_left
  intro x _
  simp

theorem n1_len : ∀ l : Bs, (n1 l).length ≤ l.length
  | [] => Nat.le_refl _
  | b :: l => by
    have := n1_len l
    rw [n1]; split <;> simp <;> omega
theorem n2_len (l : Bs) : (n2 l).length = l.length := by simp [n2]
theorem sp_len (l : Bs) : (sp l).length ≤ l.length + 1 := by
  induction l with
  | nil => simp [sp]
  | cons b l ih =>
    rw [sp]; split
    · simp; omega
    · cases h : sp l with
      | nil => simp [glue]
      | cons x r => rw [h] at ih; simp [glue] at ih ⊢; omega
theorem ln_len (l : Bs) : (ln l).length ≤ l.length + 1 := by
  have := sp_len (nl l); have h2 := n1_len l; rw [nl, n2_len] at this; unfold ln nl; omega
theorem countB_small (s old : ByteArray) : Lib.countB s old ≤ s.size + 1 := by
  have := Lib.count_le (ls s) (ls old); rw [ls_len] at this; exact this

set_option maxHeartbeats 800000 in
theorem linI (s : ByteArray) (w : World) (hz : s.size ≤ 1048576) (hm : Ml w) :
    Calls Tryd.prog 17 #[.string s] w (Row (ln (ls s)) (ln (ls s)).length w) := by
  obtain ⟨m, hm0⟩ := hm
  have c1 := Tryd.strings_ReplaceAll s ⟨#[13, 10]⟩ ⟨#[10]⟩ m w (by omega) hm0 (by decide) (by have := countB_small s ⟨#[13, 10]⟩; show _ + _ * 1 ≤ _; omega)
  rw [show (ByteArray.mk #[13, 10]).data.toList = [13, 10] from rfl, show (ByteArray.mk #[10]).data.toList = [10] from rfl, replaceAll_n1 _ _ (Nat.le_refl _)] at c1
  obtain ⟨T, hT⟩ : ∃ T, ByteArray.mk (n1 (ls s)).toArray = T := ⟨_, rfl⟩
  rw [hT] at c1
  have hT1 : ls T = n1 (ls s) := by rw [← hT, mk_ls]
  have hTz : T.size ≤ 1048576 := by rw [← ls_len, hT1]; have := n1_len (ls s); rw [ls_len] at this; omega
  obtain ⟨U, hU⟩ : ∃ U, ByteArray.mk (n2 (ls T)).toArray = U := ⟨_, rfl⟩
  have hU1 : ls U = nl (ls s) := by rw [← hU, mk_ls, hT1]; rfl
  have hUz : U.size ≤ 1048576 := by rw [← ls_len, ← hU, mk_ls, n2_len, ls_len]; exact hTz
  have HT := Lib.hid hT
  clear hT
  go_enter Tryd.func17, Tryd.ntmps17
  go_wp2_with fail
  refine c1.mono ?_
  rintro e w1 ⟨rfl, hb1⟩
  have hm1 := ml_below ⟨m, hm0⟩ hb1
  obtain ⟨m1, hm10⟩ := hm1
  have c2 := Tryd.strings_ReplaceAll T ⟨#[13]⟩ ⟨#[10]⟩ m1 w1 (by omega) hm10 (by decide) (by have := countB_small T ⟨#[13]⟩; show _ + _ * 1 ≤ _; omega)
  rw [show (ByteArray.mk #[13]).data.toList = [13] from rfl, show (ByteArray.mk #[10]).data.toList = [10] from rfl, replaceAll_n2, show T.data.toList = ls T from rfl, hU] at c2
  clear hU c1
  have HU := Lib.hid hU1
  have HT1 := Lib.hid hT1
  clear hU1 hT1
  go_wp2_with fail
  refine c2.mono ?_
  rintro e w2 ⟨rfl, hb2⟩
  have hm2 := ml_below ⟨m1, hm10⟩ hb2
  obtain ⟨m2, hm20⟩ := hm2
  have c3 := Tryd.strings_Split U ⟨#[10]⟩ m2 w2 (by omega) hm20 (by decide)
  clear c2
  have hb12 := hb1.trans (hb2.mono hb1.size)
  have c4 : Calls Tryd.prog 36 #[.string U, .string ⟨#[10]⟩] w2 (Row (ln (ls s)) (ln (ls s)).length w2) := by
    have hlen := Lib.splitB_all ⟨#[10]⟩ (by decide) 0 _ U rfl
    have hd := Lib.splitB_data ⟨#[10]⟩ 0 (Lib.countB U ⟨#[10]⟩) U
    have hd2 : (Lib.splitB ⟨#[10]⟩ 0 (Lib.countB U ⟨#[10]⟩) U).map ls = ln (ls s) := by
      rw [show ln (ls s) = sp (ls U) by rw [HU.out]; rfl, ← split_sp]; exact hd
    refine c3.mono ?_
    rintro e w' ⟨rfl, rfl⟩
    have hn : Lib.countB U ⟨#[10]⟩ + 1 = (ln (ls s)).length := by rw [← hlen, ← hd2, List.length_map]
    have hsz : (ln (ls s)).length ≤ 1048577 := by have := ln_len (ls s); rw [ls_len] at this; omega
    rw [map_str, hd2, hn]
    refine ⟨w2.heap.size, (ln (ls s)).length, rfl, Nat.le_refl _, ?_, (Below.refl _ _).alloc (Nat.le_refl _) _⟩
    exact ⟨by rw [Tx.strC_length, Nat.mul_one], .inr ⟨w2.heap.size, (ln (ls s)).length, (Tx.strC (ln (ls s))).toArray, rfl, Nat.le_refl _, heap_alloc_new w2 _, Nat.le_refl _, by unfold maxLen; omega, by rw [List.size_toArray, Tx.strC_length, Nat.mul_one], List.take_of_length_le (by show (Tx.strC _).length ≤ _; rw [Tx.strC_length]; omega)⟩⟩
  clear c3 HU HT HT1
  go_wp2_with fail
  refine c4.mono ?_
  rintro e w3 ⟨g, cap, rfl, hg, ho, hb3⟩
  have hbs := hb12.size
  go_wp2_with fail
  go_ret
  exact ⟨g, cap, rfl, Nat.le_trans hbs hg, own_base ho hbs, hb12.trans (hb3.mono hbs)⟩

/-- What holds of the model's loop at k, its beginning b, its list L. -/
def InvL (l : Bs) (k b : Nat) (L : List Bs) : Prop := L ++ glue ((l.take k).drop b) (ln (l.drop k)) = ln l
theorem invL_start (l : Bs) : InvL l 0 0 [] := by simp [InvL, glue_nil (ln_ne l)]
theorem take_next {s : ByteArray} {k b : Nat} (h : k < s.size) (hb : b ≤ k) : ((ls s).take (k + 1)).drop b = ((ls s).take k).drop b ++ [s[k]] := by
  rw [List.take_succ_eq_append_getElem (by rw [ls_len]; exact h), List.drop_append_of_le_length (by rw [List.length_take, ls_len]; omega)]
  rfl
theorem take_none {s : ByteArray} (k : Nat) : ((ls s).take k).drop k = [] := by
  apply List.drop_eq_nil_of_le; rw [List.length_take]; omega
theorem invL_else {s : ByteArray} {k b : Nat} {L : List Bs} (h : InvL (ls s) k b L) (hk : k < s.size) (hb : b ≤ k) (h13 : s[k] ≠ 13) (h10 : s[k] ≠ 10) : InvL (ls s) (k + 1) b L := by
  unfold InvL at h ⊢
  rw [show (ls s).drop k = s[k] :: (ls s).drop (k + 1) from drop_at hk, ln_else _ h13 h10, glue_glue _ _ _ (ln_ne _)] at h
  rw [take_next hk hb, h]
theorem glue_line (a : Bs) (x : List Bs) : glue a ([] :: x) = a :: x := by simp [glue]
theorem invL_lf {s : ByteArray} {k b : Nat} {L : List Bs} (h : InvL (ls s) k b L) (hk : k < s.size) (h10 : s[k] = 10) : InvL (ls s) (k + 1) (k + 1) (L ++ [((ls s).take k).drop b]) := by
  unfold InvL at h ⊢
  rw [show (ls s).drop k = s[k] :: (ls s).drop (k + 1) from drop_at hk, h10, ln_lf, glue_line] at h
  rw [take_none, glue_nil (ln_ne _), List.append_assoc, List.singleton_append, h]
theorem invL_cr {s : ByteArray} {k b : Nat} {L : List Bs} (h : InvL (ls s) k b L) (hk : k < s.size) (h13 : s[k] = 13) (hn : ((ls s).drop (k + 1)).head? ≠ some 10) : InvL (ls s) (k + 1) (k + 1) (L ++ [((ls s).take k).drop b]) := by
  unfold InvL at h ⊢
  rw [show (ls s).drop k = s[k] :: (ls s).drop (k + 1) from drop_at hk, h13, ln_cr hn, glue_line] at h
  rw [take_none, glue_nil (ln_ne _), List.append_assoc, List.singleton_append, h]
theorem invL_crlf {s : ByteArray} {k b : Nat} {L : List Bs} (h : InvL (ls s) k b L) (hk : k + 1 < s.size) (h13 : s[k] = 13) (h10 : s[k + 1] = 10) : InvL (ls s) (k + 2) (k + 2) (L ++ [((ls s).take k).drop b]) := by
  unfold InvL at h ⊢
  rw [show (ls s).drop k = s[k] :: (ls s).drop (k + 1) from drop_at (by omega), show (ls s).drop (k + 1) = s[k + 1] :: (ls s).drop (k + 1 + 1) from drop_at hk, h13, h10, ln_crlf, glue_line] at h
  rw [take_none, glue_nil (ln_ne _), List.append_assoc, List.singleton_append, h]
theorem invL_end {s : ByteArray} {b : Nat} {L : List Bs} (h : InvL (ls s) s.size b L) : L ++ [(ls s).drop b] = ln (ls s) := by
  unfold InvL at h
  rw [show (ls s).drop s.size = [] from drop_end (Nat.le_refl _), List.take_of_length_le (by rw [ls_len]; exact Nat.le_refl _)] at h
  rw [← h]; simp [ln, nl, n1, n2, sp, glue]
theorem ext_ls (s : ByteArray) (b k : Nat) : s.extract b k = ⟨(((ls s).take k).drop b).toArray⟩ := by
  apply ByteArray.ext
  apply Array.toList_inj.1
  simp [ByteArray.data_extract, List.drop_take, ls]
theorem str_step {w wr w2 : World} {o : Obj} {v v2 : Value} {n : Nat} {L : List Bs} {l : Bs} (hn : L.length = n) (hnx : Below w.heap.size w wr)
    (hown : wr.ownsRow w.heap.size 9 1 v n (Tx.strC L)) (hown2 : w2.ownsRow w.heap.size 9 1 v2 (n + 1) (Tx.strC L ++ [.string ⟨l.toArray⟩])) (hgrow : (wr.alloc o).grownBy w2 v.ownBlock) :
    (L ++ [l]).length = n + 1 ∧ w2.ownsRow w.heap.size 9 1 v2 (n + 1) (Tx.strC (L ++ [l])) ∧ Below w.heap.size w w2 := by
  refine ⟨by simp [hn], ?_, ?_⟩
  · simpa [Tx.strC] using hown2
  · exact (hnx.alloc hnx.size _).grown hgrow (by have := hnx.size; simp; omega) (fun k hk => (hown.lt k hk).1)

set_option maxHeartbeats 1600000 in
set_option maxRecDepth 100000 in
theorem linS (s : ByteArray) (w : World) (hz : s.size ≤ 1048576) :
    Calls Tryd.prog 59 #[.string s] w (Row (ln (ls s)) (ln (ls s)).length w) := by
  obtain ⟨i0, hi, hz0, hz1, hz2⟩ := info_parts Tx.info9
  obtain ⟨R, HR⟩ : ∃ R, Hid (ln (ls s) = R) := ⟨_, rfl⟩
  rw [HR.out]
  go_enter Tryd.func59, Tryd.ntmps59
  go_wp2
  go_loopw [3, 4, 5] (fun v bv i wr => ∃ (k b g cap : Nat) (L : List Bs), k ≤ s.size ∧ b ≤ k ∧ i = .int .i64 (k : Int) ∧ bv = .int .i64 (b : Int) ∧ v = .slice (some ⟨g, 0, none⟩) L.length cap ∧ w.heap.size ≤ g ∧ L.length ≤ k ∧ wr.ownsRow w.heap.size 9 1 (.slice (some ⟨g, 0, none⟩) L.length cap) L.length (Tx.strC L) ∧ Below w.heap.size w wr ∧ Hid (InvL (ls s) k b L))
    (fun _ _ i _ => s.size - (intOf i).toNat)
  case atStart => exact ⟨0, 0, _, _, [], Nat.zero_le _, Nat.le_refl _, rfl, rfl, rfl, Nat.le_refl _, Nat.le_refl _, World.ownsRow_lit w #[] 0 (Nat.le_refl _) (Nat.zero_le _) rfl, (Below.refl _ _).alloc (Nat.le_refl _) _, invL_start _⟩
  case round =>
    obtain ⟨k, b, g, cap, L, hk, hb, rfl, rfl, rfl, hg, hLk, hown, hnx, HI⟩ := hrel
    have hsz := hnx.size
    have hb0 : (0 : Int) ≤ (b : Int) := by omega
    have hbk0 : (b : Int) ≤ (k : Int) := by omega
    have hks : (k : Int) ≤ (s.size : Int) := by omega
    have n2 : L.length + 1 ≤ maxLen := by unfold maxLen; omega
    by_cases hlt : k < s.size
    · have hi0 : (0 : Int) ≤ (k : Int) := by omega
      have hi1 : (k : Int) < (s.size : Int) := by omega
      have HX : Hid (s.extract b k = ⟨(((ls s).take k).drop b).toArray⟩) := ext_ls s b k
      have n1 : ∀ u ∈ [Value.string (s.extract b k)], u.oneCell' = true := by intro u hu; simp at hu; subst hu; rfl
      by_cases c13 : s[k].toNat = 13
      · have t13 : (((s[k]).toNat : Int) == 13) = true := byte_t (c := 13) c13
        have H13 : Hid (s[k] = 13) := UInt8.toNat_inj.1 c13
        clear c13
        go_wp2_with (at_builtin; refine wpList_append_lies _ rfl _ _ 32 rfl w.heap.size 9 i0 (.string ⟨#[]⟩) 1 16 Tryd.underlying32 hi hz0 hz1 hz2 rfl (by decide) _ _ _ rfl (hown.alloc _) ⟨wr.heap.size, 0, none⟩ 1 1 [.string (s.extract b k)] rfl rfl (World.news_of_block (cs := #[.string (s.extract b k)]) (t := 9) (fr := (0, 0)) (heap_alloc_new wr _)) n1 (by decide) n2 (by omega) (by simp; omega) (wr.heap.size + 1) (by simp) ?_)
        intro g2 cap2 w2 hown2 hgrow hat hlt2
        rw [HX.out] at hown2
        have R0 := Lib.hid (str_step rfl hnx hown hown2 hgrow)
        have hg2 : w.heap.size ≤ g2 := by
          rcases hat with h | h
          · simp [Value.ownBlock] at h; omega
          · omega
        clear hown2 hgrow hat hlt2 hown HX n1
        by_cases h2 : k + 1 < s.size
        · have h2' : (k : Int) + 1 < (s.size : Int) := by omega
          have h20 : (0 : Int) ≤ (k : Int) + 1 := by omega
          by_cases c10 : s[k + 1].toNat = 10
          · have t10 : (((s[k + 1]).toNat : Int) == 10) = true := byte_t (c := 10) c10
            have HJ := Lib.hid (invL_crlf HI.out h2 H13.out (UInt8.toNat_inj.1 c10))
            clear c10
            go_wp2
            go_roundw
            case rel =>
              have R := R0.out
              exact ⟨k + 2, k + 2, g2, cap2, L ++ [((ls s).take k).drop b], by omega, by omega, by go_num, by go_num, by rw [R.1], hg2, by rw [R.1]; omega, by rw [R.1]; exact R.2.1, R.2.2, HJ⟩
            case measure => simp [intOf]; omega
          · have t10 : (((s[k + 1]).toNat : Int) == 10) = false := byte_f (c := 10) c10
            have HJ := Lib.hid (invL_cr HI.out hlt H13.out (by rw [show (ls s).drop (k + 1) = s[k + 1] :: (ls s).drop (k + 1 + 1) from drop_at h2]; intro e; rw [List.head?_cons] at e; exact c10 (by rw [Option.some.inj e]; rfl)))
            clear c10
            go_wp2
            go_roundw
            case rel =>
              have R := R0.out
              exact ⟨k + 1, k + 1, g2, cap2, L ++ [((ls s).take k).drop b], by omega, by omega, by go_num, by go_num, by rw [R.1], hg2, by rw [R.1]; omega, by rw [R.1]; exact R.2.1, R.2.2, HJ⟩
            case measure => simp [intOf]; omega
        · have h2' : ¬ (k : Int) + 1 < (s.size : Int) := by omega
          have HJ := Lib.hid (invL_cr HI.out hlt H13.out (by rw [drop_end (by omega)]; simp))
          go_wp2
          go_roundw
          case rel =>
            have R := R0.out
            exact ⟨k + 1, k + 1, g2, cap2, L ++ [((ls s).take k).drop b], by omega, by omega, by go_num, by go_num, by rw [R.1], hg2, by rw [R.1]; omega, by rw [R.1]; exact R.2.1, R.2.2, HJ⟩
          case measure => simp [intOf]; omega
      have t13 : (((s[k]).toNat : Int) == 13) = false := byte_f (c := 13) c13
      by_cases c10 : s[k].toNat = 10
      · have t10 : (((s[k]).toNat : Int) == 10) = true := byte_t (c := 10) c10
        have HJ := Lib.hid (invL_lf HI.out hlt (UInt8.toNat_inj.1 c10))
        clear c10 c13
        go_wp2_with (at_builtin; refine wpList_append_lies _ rfl _ _ 32 rfl w.heap.size 9 i0 (.string ⟨#[]⟩) 1 16 Tryd.underlying32 hi hz0 hz1 hz2 rfl (by decide) _ _ _ rfl (hown.alloc _) ⟨wr.heap.size, 0, none⟩ 1 1 [.string (s.extract b k)] rfl rfl (World.news_of_block (cs := #[.string (s.extract b k)]) (t := 9) (fr := (0, 0)) (heap_alloc_new wr _)) n1 (by decide) n2 (by omega) (by simp; omega) (wr.heap.size + 1) (by simp) ?_)
        intro g2 cap2 w2 hown2 hgrow hat hlt2
        rw [HX.out] at hown2
        have R0 := Lib.hid (str_step rfl hnx hown hown2 hgrow)
        have hg2 : w.heap.size ≤ g2 := by
          rcases hat with h | h
          · simp [Value.ownBlock] at h; omega
          · omega
        clear hown2 hgrow hat hlt2 hown HX n1
        go_wp2
        go_roundw
        case rel =>
          have R := R0.out
          exact ⟨k + 1, k + 1, g2, cap2, L ++ [((ls s).take k).drop b], by omega, by omega, by go_num, by go_num, by rw [R.1], hg2, by rw [R.1]; omega, by rw [R.1]; exact R.2.1, R.2.2, HJ⟩
        case measure => simp [intOf]; omega
      have t10 : (((s[k]).toNat : Int) == 10) = false := byte_f (c := 10) c10
      have HJ := Lib.hid (invL_else HI.out hlt hb (fun e => c13 (by rw [e]; rfl)) (fun e => c10 (by rw [e]; rfl)))
      clear c10 c13
      go_wp2
      go_roundw
      case rel => exact ⟨k + 1, b, g, cap, L, by omega, by omega, by go_num, rfl, rfl, hg, by omega, hown, hnx, HJ⟩
      case measure => simp [intOf]; omega
    · obtain rfl : k = s.size := by omega
      have hi1 : ¬ (s.size : Int) < (s.size : Int) := by omega
      have hbs : (b : Int) ≤ (s.size : Int) := by omega
      have HX : Hid (s.extract b s.size = ⟨((ls s).drop b).toArray⟩) := by
        have := ext_ls s b s.size
        rw [List.take_of_length_le (by rw [ls_len]; exact Nat.le_refl _)] at this
        exact this
      have HE := Lib.hid (invL_end HI.out)
      have n1 : ∀ u ∈ [Value.string (s.extract b s.size)], u.oneCell' = true := by intro u hu; simp at hu; subst hu; rfl
      go_wp2_with (at_builtin; refine wpList_append_lies _ rfl _ _ 32 rfl w.heap.size 9 i0 (.string ⟨#[]⟩) 1 16 Tryd.underlying32 hi hz0 hz1 hz2 rfl (by decide) _ _ _ rfl (hown.alloc _) ⟨wr.heap.size, 0, none⟩ 1 1 [.string (s.extract b s.size)] rfl rfl (World.news_of_block (cs := #[.string (s.extract b s.size)]) (t := 9) (fr := (0, 0)) (heap_alloc_new wr _)) n1 (by decide) n2 (by omega) (by simp; omega) (wr.heap.size + 1) (by simp) ?_)
      intro g2 cap2 w2 hown2 hgrow hat hlt2
      rw [HX.out] at hown2
      have R0 := Lib.hid (str_step rfl hnx hown hown2 hgrow)
      have hg2 : w.heap.size ≤ g2 := by
        rcases hat with h | h
        · simp [Value.ownBlock] at h; omega
        · omega
      clear hown2 hgrow hat hlt2 hown HX n1
      go_wp2
      go_ret
      have R1 := R0.out
      rw [HE.out, HR.out] at R1
      exact ⟨g2, cap2, by rw [R1.1]; rfl, hg2, by rw [R1.1]; exact R1.2.1, R1.2.2⟩
end Go.Proofs.YtaafgcnkedaonaaDoor
