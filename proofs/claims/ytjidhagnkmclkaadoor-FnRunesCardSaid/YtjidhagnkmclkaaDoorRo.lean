/- What is proved: what RunesOf of the model and of the program answer at every text of at most a million bytes: its scalars in order, in new memory; nothing where it is no such text. Used by the proofs of FnExactRunesOfCardSaid and FnRunesCardSaid. -/
import Derived.Test.YtjidhagnkmclkaaDoorOk
import Derived.Test.YtjidhagnkmclkaaDoorIn
namespace Go.Proofs.YtjidhagnkmclkaaDoor
open Go.RowKit

/-- The scalars from a place on. -/
def runesF (s : ByteArray) : Nat → Nat → List Int
  | 0, _ => []
  | f + 1, pos => if pos < s.size then ((Utf8.decode s pos).1 : Int) :: runesF s f (pos + (Utf8.decode s pos).2) else []
def runes (s : ByteArray) : List Int := if ok s then runesF s s.size 0 else []

theorem runesF_end {s : ByteArray} {f pos : Nat} (h : ¬ pos < s.size) : runesF s f pos = [] := by
  cases f with
  | zero => rfl
  | succ f => simp [runesF, h]
theorem runesF_go {s : ByteArray} {f pos : Nat} (h : pos < s.size) (hf : s.size ≤ pos + f) (hok : okF s f pos = true) :
    ∃ f', okF s f' (pos + (Utf8.decode s pos).2) = true ∧ runesF s f pos = ((Utf8.decode s pos).1 : Int) :: runesF s f' (pos + (Utf8.decode s pos).2) ∧ s.size ≤ pos + (Utf8.decode s pos).2 + f' ∧ ¬ Utf8.decode s pos = (65533, 1) := by
  have hd := (dec_bound s pos h).2.1
  cases f with
  | zero => omega
  | succ f =>
    have hb : ¬ Utf8.decode s pos = (65533, 1) := fun hb => by simp [okF, h, hb] at hok
    refine ⟨f, ?_, ?_, by omega, hb⟩
    · simp only [okF] at hok; rw [if_pos h, if_neg hb] at hok; exact hok
    · simp only [runesF]; rw [if_pos h]

/-- What the loop has at a place: its list L, and what is still to come. -/
def RInv (s : ByteArray) (pos : Nat) (L : List Int) : Prop := ∃ f, okF s f pos = true ∧ s.size ≤ pos + f ∧ L ++ runesF s f pos = runes s
theorem rinv_start {s : ByteArray} (h : ok s = true) : RInv s 0 [] := ⟨s.size, h, by omega, by simp [runes, h]⟩
theorem rinv_go {s : ByteArray} {pos : Nat} {L : List Int} (hI : RInv s pos L) (h : pos < s.size) : RInv s (pos + (Utf8.decode s pos).2) (L ++ [((Utf8.decode s pos).1 : Int)]) ∧ ¬ Utf8.decode s pos = (65533, 1) := by
  obtain ⟨f, h1, h2, h3⟩ := hI
  obtain ⟨f', g1, g2, g3, g4⟩ := runesF_go h h2 h1
  exact ⟨⟨f', g1, g3, by rw [← h3, g2]; simp⟩, g4⟩
theorem rinv_end {s : ByteArray} {pos : Nat} {L : List Int} (hI : RInv s pos L) (h : ¬ pos < s.size) : L = runes s := by
  obtain ⟨f, h1, h2, h3⟩ := hI
  rw [runesF_end h, List.append_nil] at h3; exact h3

theorem int_step {w wr w2 : World} {o : Obj} {v v2 : Value} {n : Nat} {L : List Int} {x : Int} (hn : L.length = n) (hnx : Below w.heap.size w wr)
    (hown : wr.ownsRow w.heap.size 3 1 v n (intC L)) (hown2 : w2.ownsRow w.heap.size 3 1 v2 (n + 1) (intC L ++ [.int .i64 x])) (hgrow : (wr.alloc o).grownBy w2 v.ownBlock) :
    (L ++ [x]).length = n + 1 ∧ w2.ownsRow w.heap.size 3 1 v2 (n + 1) (intC (L ++ [x])) ∧ Below w.heap.size w w2 := by
  refine ⟨by simp [hn], ?_, ?_⟩
  · simpa [intC] using hown2
  · exact (hnx.alloc hnx.size _).grown hgrow (by have := hnx.size; simp; omega) (fun k hk => (hown.lt k hk).1)

/-- What a call of RunesOf leaves. -/
def Left (L : List Int) (n : Nat) (w : World) (e : Ending) (w' : World) : Prop :=
  ∃ g cap : Nat, e = .returned (.slice (some ⟨g, 0, none⟩) n cap) ∧ w.heap.size ≤ g ∧ w'.ownsRow w.heap.size 3 1 (.slice (some ⟨g, 0, none⟩) n cap) n (intC L) ∧ Below w.heap.size w w'
theorem left_mk {s : ByteArray} {w w' : World} {L : List Int} {g cap : Nat} (h : L = runes s) (hg : w.heap.size ≤ g) (ho : w'.ownsRow w.heap.size 3 1 (.slice (some ⟨g, 0, none⟩) L.length cap) L.length (intC L)) (hb : Below w.heap.size w w') :
    Left (runes s) (runes s).length w (.returned (.slice (some ⟨g, 0, none⟩) L.length cap)) w' := by
  subst h; exact ⟨g, cap, rfl, hg, ho, hb⟩
theorem left_none {s : ByteArray} {w w' : World} (h : ok s = false) (hb : Below (w.alloc (.cells #[] 3)).heap.size (w.alloc (.cells #[] 3)) w') :
    Left (runes s) (runes s).length w (.returned (.slice (some ⟨w.heap.size, 0, none⟩) 0 0)) w' := by
  have hr : runes s = [] := by simp [runes, h]
  rw [hr]
  refine ⟨w.heap.size, 0, rfl, Nat.le_refl _, own_below (World.ownsRow_lit w #[] 0 (Nat.le_refl _) (Nat.zero_le _) rfl) hb, ?_⟩
  exact ((Below.refl _ _).alloc (Nat.le_refl _) _).trans (hb.mono (by simp))

set_option maxHeartbeats 1600000 in
set_option maxRecDepth 100000 in
theorem roS (s : ByteArray) (w : World) (hz : s.size ≤ 1048576) :
    Calls Tryd.prog 16 #[.string s] w (Left (runes s) (runes s).length w) := by
  obtain ⟨i0, hi, hz0, hz1, hz2⟩ := info_parts info3
  cases HO : ok s with
  | false =>
    go_enter Tryd.func16, Tryd.ntmps16
    go_wp2_with fail
    refine (okS s _ (by omega)).mono ?_
    rintro e w1 ⟨rfl, hb1⟩
    rw [HO]
    go_wp2
    go_ret
    exact left_none HO hb1
  | true =>
    have HI0 := Lib.hid (rinv_start HO)
    go_enter Tryd.func16, Tryd.ntmps16
    go_wp2_with fail
    refine (okS s _ (by omega)).mono ?_
    rintro e w1 ⟨rfl, hb1⟩
    rw [HO]
    have ho1 : w1.ownsRow w.heap.size 3 1 (.slice (some ⟨w.heap.size, 0, none⟩) 0 0) 0 (intC []) := own_below (World.ownsRow_lit w #[] 0 (Nat.le_refl _) (Nat.zero_le _) rfl) hb1
    have hb2 : Below w.heap.size w w1 := ((Below.refl _ _).alloc (Nat.le_refl _) _).trans (hb1.mono (by simp))
    clear HO hb1
    go_wp2
    go_loopw [3, 4] (fun v i wr => ∃ (pos g cap : Nat) (L : List Int), i = .int .i64 (pos : Int) ∧ pos ≤ s.size ∧ L.length ≤ pos ∧ v = .slice (some ⟨g, 0, none⟩) L.length cap ∧ w.heap.size ≤ g ∧ wr.ownsRow w.heap.size 3 1 (.slice (some ⟨g, 0, none⟩) L.length cap) L.length (intC L) ∧ Below w.heap.size w wr ∧ Hid (RInv s pos L))
      (fun _ i _ => s.size - (intOf i).toNat)
    case atStart => exact ⟨0, w.heap.size, 0, [], rfl, Nat.zero_le _, Nat.le_refl _, rfl, Nat.le_refl _, ho1, hb2, HI0⟩
    case round =>
      clear ho1 hb2
      obtain ⟨pos, g, cap, L, rfl, hp, hLp, rfl, hg, hown, hnx, HI⟩ := hrel
      have hsz := hnx.size
      by_cases hlt : pos < s.size
      · have hlt' : (pos : Int) < (s.size : Int) := by omega
        obtain ⟨b1, b2, b3, b4⟩ := dec_bound s pos hlt
        have hgo := rinv_go HI.out hlt
        have era := ra_good hgo.2
        have HJ := Lib.hid hgo.1
        clear hgo HI
        obtain ⟨a, ha⟩ : ∃ a, (Utf8.decode s pos).1 = a := ⟨_, rfl⟩
        obtain ⟨b, hb'⟩ : ∃ b, (Utf8.decode s pos).2 = b := ⟨_, rfl⟩
        rw [ha, hb'] at era HJ
        rw [hb'] at b2 b3 b4
        clear ha hb' b1
        go_wp2_with fail
        refine (raS s pos wr hlt (by omega)).mono ?_
        rintro e w1 ⟨rfl, hb1⟩
        rw [era]
        have hnx1 := hnx.trans (hb1.mono hsz)
        have hown1 := own_below hown hb1
        have hsz1 := hnx1.size
        clear era hb1 hnx hown
        have n1 : ∀ u ∈ [Value.int .i64 (a : Int)], u.oneCell' = true := by intro u hu; simp at hu; subst hu; rfl
        have n2 : L.length + 1 ≤ maxLen := by unfold maxLen; omega
        go_wp2_with (at_builtin; refine wpList_append_lies _ rfl _ _ 25 rfl w.heap.size 3 i0 (.int .i64 0) 1 8 Tryd.underlying25 hi hz0 hz1 hz2 rfl (by decide) _ _ _ rfl (hown1.alloc _) ⟨w1.heap.size, 0, none⟩ 1 1 [.int .i64 (a : Int)] rfl rfl (World.news_of_block (cs := #[.int .i64 (a : Int)]) (t := 3) (fr := (0, 0)) (heap_alloc_new w1 _)) n1 (by decide) n2 (by omega) (by simp; omega) (w1.heap.size + 1) (by simp) ?_)
        intro g2 cap2 w2 hown2 hgrow hat hlt2
        have R := int_step rfl hnx1 hown1 hown2 hgrow
        have hg2 : w.heap.size ≤ g2 := by
          rcases hat with h | h
          · simp [Value.ownBlock] at h; omega
          · omega
        clear hown2 hgrow hat hlt2 hown1 n1
        go_wp2
        go_roundw
        case rel => exact ⟨pos + b, g2, cap2, L ++ [(a : Int)], by go_num, b4, by rw [R.1]; omega, by rw [R.1], hg2, by rw [R.1]; exact R.2.1, R.2.2, HJ⟩
        case measure => simp [intOf]; omega
      · have hlt' : ¬ (pos : Int) < (s.size : Int) := by omega
        have HE := Lib.hid (rinv_end HI.out hlt)
        clear HI
        go_wp2
        go_ret
        exact left_mk HE.out hg hown hnx
end Go.Proofs.YtjidhagnkmclkaaDoor
