/- What is proved: what TextOk of the model and of the program answer at every text of at most a million bytes: whether it is scalars one behind the other. Used by the proofs of FnExactTextOkCardSaid, FnExactRunesOfCardSaid and FnRunesCardSaid. -/
import Derived.Test.YtcmcddhhokgbnaaDoorRaI
import Derived.Test.YtcmcddhhokgbnaaDoorRaS
import Derived.WalkKit
import Derived.WalkSpells
import Derived.WalkLawsBesides
import Derived.Lib.Hide
import Derived.Lib.OthersKept
import Derived.Laws.RangeAny
import Derived.Laws.RangeString
import Derived.Below
import Derived.KernelRfl
namespace Go.Proofs.YtcmcddhhokgbnaaDoor
open Go.RowKit

/-- Whether a text is scalars one behind the other, from a place on. -/
def okF (s : ByteArray) : Nat → Nat → Bool
  | 0, _ => true
  | f + 1, pos => if pos < s.size then (if Utf8.decode s pos = (65533, 1) then false else okF s f (pos + (Utf8.decode s pos).2)) else true
def ok (s : ByteArray) : Bool := okF s s.size 0

theorem okF_end {s : ByteArray} {f pos : Nat} (h : ¬ pos < s.size) : okF s f pos = true := by
  cases f with
  | zero => rfl
  | succ f => simp [okF, h]
theorem okF_bad {s : ByteArray} {f pos : Nat} (h : pos < s.size) (hf : s.size ≤ pos + f) (hb : Utf8.decode s pos = (65533, 1)) : okF s f pos = false := by
  cases f with
  | zero => omega
  | succ f => simp [okF, h, hb]
theorem okF_go {s : ByteArray} {f pos : Nat} (h : pos < s.size) (hf : s.size ≤ pos + f) (hb : ¬ Utf8.decode s pos = (65533, 1)) : ∃ f', okF s f pos = okF s f' (pos + (Utf8.decode s pos).2) ∧ s.size ≤ pos + (Utf8.decode s pos).2 + f' := by
  have hd := (dec_bound s pos h).2.1
  cases f with
  | zero => omega
  | succ f => exact ⟨f, by simp only [okF]; rw [if_pos h, if_neg hb], by omega⟩

set_option maxHeartbeats 800000 in
set_option maxRecDepth 100000 in
theorem okS (s : ByteArray) (w : World) (hz : s.size ≤ 1152921504606846976) :
    Calls Tryd.prog 9 #[.string s] w fun e w' => e = .returned (.bool (ok s)) ∧ Below w.heap.size w w' := by
  go_enter Tryd.func9, Tryd.ntmps9
  go_wp2
  go_loopw [3] (fun i wr => ∃ pos f : Nat, i = .int .i64 pos ∧ pos ≤ s.size ∧ okF s f pos = ok s ∧ s.size ≤ pos + f ∧ Below w.heap.size w wr)
    (fun i _ => s.size - (intOf i).toNat)
  case atStart => exact ⟨0, s.size, rfl, Nat.zero_le _, rfl, by omega, Below.refl _ _⟩
  case round =>
    obtain ⟨pos, f, rfl, hp, hok, hf, hbl⟩ := hrel
    by_cases hlt : pos < s.size
    · have hlt' : (pos : Int) < (s.size : Int) := by omega
      obtain ⟨b1, b2, b3, b4⟩ := dec_bound s pos hlt
      by_cases hb : Utf8.decode s pos = (65533, 1)
      · have HO := Lib.hid ((okF_bad hlt hf hb).symm.trans hok)
        have era := ra_bad hb
        clear hok b1 b2 b3 b4 hb
        go_wp2_with fail
        refine (raS s pos wr hlt hz).mono ?_
        rintro e w1 ⟨rfl, hb1⟩
        rw [era]
        have hbl2 := hbl.trans (hb1.mono hbl.size)
        clear era hb1 hbl
        go_wp2
        go_ret
        exact ⟨by rw [← (show false = ok s from HO)]; rfl, hbl2⟩
      · obtain ⟨f', hf1, hf2⟩ := okF_go hlt hf hb
        have HO := Lib.hid (hf1.symm.trans hok)
        have era := ra_good hb
        obtain ⟨a, ha⟩ : ∃ a, (Utf8.decode s pos).1 = a := ⟨_, rfl⟩
        obtain ⟨b, hb'⟩ : ∃ b, (Utf8.decode s pos).2 = b := ⟨_, rfl⟩
        rw [ha, hb'] at era
        rw [hb'] at HO hf2 b2 b3 b4
        clear hok hf1 hf hb b1 ha hb'
        have ha0 : ¬ (a : Int) < 0 := by omega
        go_wp2_with fail
        refine (raS s pos wr hlt hz).mono ?_
        rintro e w1 ⟨rfl, hb1⟩
        rw [era]
        have hbl2 := hbl.trans (hb1.mono hbl.size)
        clear era hb1 hbl
        go_wp2
        go_roundw
        case rel => exact ⟨pos + b, f', by go_num, b4, HO, hf2, hbl2⟩
        case measure => simp [intOf]; omega
    · have hlt' : ¬ (pos : Int) < (s.size : Int) := by omega
      have HO := Lib.hid ((okF_end hlt).symm.trans hok)
      clear hok
      go_wp2
      go_ret
      exact ⟨by rw [← (show true = ok s from HO)]; rfl, hbl⟩

/-- The place from which on a text is no scalar, or its end. -/
def afF (s : ByteArray) : Nat → Nat → Nat
  | 0, _ => s.size
  | f + 1, pos => if pos < s.size then (if Utf8.decode s pos = (65533, 1) then pos else afF s f (pos + (Utf8.decode s pos).2)) else s.size
def af (s : ByteArray) : Nat := afF s s.size 0

theorem afF_end {s : ByteArray} {f pos : Nat} (h : ¬ pos < s.size) : afF s f pos = s.size := by
  cases f with
  | zero => rfl
  | succ f => simp [afF, h]
theorem afF_bad {s : ByteArray} {f pos : Nat} (h : pos < s.size) (hf : s.size ≤ pos + f) (hb : Utf8.decode s pos = (65533, 1)) : afF s f pos = pos := by
  cases f with
  | zero => omega
  | succ f => simp [afF, h, hb]
theorem afF_go {s : ByteArray} {f pos : Nat} (h : pos < s.size) (hf : s.size ≤ pos + f) (hb : ¬ Utf8.decode s pos = (65533, 1)) : ∃ f', afF s f pos = afF s f' (pos + (Utf8.decode s pos).2) ∧ s.size ≤ pos + (Utf8.decode s pos).2 + f' := by
  have hd := (dec_bound s pos h).2.1
  cases f with
  | zero => omega
  | succ f => exact ⟨f, by simp only [afF]; rw [if_pos h, if_neg hb], by omega⟩
theorem afF_ok (s : ByteArray) : ∀ f pos : Nat, okF s f pos = decide (afF s f pos = s.size) := by
  intro f
  induction f with
  | zero => intro pos; simp [okF, afF]
  | succ f ih =>
    intro pos
    by_cases h : pos < s.size
    · by_cases hb : Utf8.decode s pos = (65533, 1)
      · have : ¬ pos = s.size := by omega
        simp [okF, afF, h, hb, this]
      · have e1 : okF s (f + 1) pos = okF s f (pos + (Utf8.decode s pos).2) := by simp only [okF]; rw [if_pos h, if_neg hb]
        have e2 : afF s (f + 1) pos = afF s f (pos + (Utf8.decode s pos).2) := by simp only [afF]; rw [if_pos h, if_neg hb]
        rw [e1, e2]
        exact ih _
    · simp [okF, afF, h]
theorem af_ok (s : ByteArray) : ok s = decide (af s = s.size) := afF_ok s s.size 0
theorem af_le (s : ByteArray) : af s ≤ s.size := by
  have : ∀ f pos : Nat, afF s f pos ≤ s.size := by
    intro f
    induction f with
    | zero => intro pos; simp [afF]
    | succ f ih =>
      intro pos
      simp only [afF]
      split
      · split
        · omega
        · exact ih _
      · omega
  exact this _ _

set_option maxHeartbeats 800000 in
set_option maxRecDepth 100000 in
theorem afI (s : ByteArray) (w : World) (hT : Lib.Utf8Tabs 0 1 w) :
    Calls Tryd.prog 13 #[.string s] w fun e w' => e = .returned (.int .i64 (af s)) ∧ Below w.heap.size w w' := by
  go_enter Tryd.func13, Tryd.ntmps13
  go_wp2
  go_loopw [] (fun wr => ∃ pos f : Nat, wr.heap[w.heap.size]? = some (.stringIter s pos) ∧ afF s f pos = af s ∧ s.size ≤ pos + f ∧ Below w.heap.size w wr)
    (fun wr => s.size - wr.iterPos w.heap.size)
  case atStart => exact ⟨0, s.size, heap_alloc_new w _, rfl, by omega, (Below.refl _ _).alloc (Nat.le_refl _) _⟩
  case round =>
    obtain ⟨pos, f, hit, hok, hf, hbl⟩ := hrel
    by_cases hlt : pos < s.size
    · have hlt' : (pos : Int) < (s.size : Int) := by omega
      obtain ⟨b1, b2, b3, b4⟩ := dec_bound s pos hlt
      have hsz : w.heap.size < wr.heap.size := (Array.getElem?_eq_some_iff.1 hit).1
      have hip : wr.iterPos w.heap.size = pos := by simp [World.iterPos, hit]
      have hnx := fun ty => Lib.run_next_any_at (P := Tryd.prog) wr w.heap.size s pos ty hit hlt
      have hbl2 := Lib.below_iterAt hbl (Nat.le_refl _) s (pos + (Utf8.decode s pos).2)
      have hit2 := Lib.iterAt_heap wr w.heap.size s pos (pos + (Utf8.decode s pos).2) hit
      have hsz2 : (wr.iterAt w.heap.size s (pos + (Utf8.decode s pos).2)).heap.size = wr.heap.size := Lib.iterAt_size _ _ _ _
      by_cases hb : Utf8.decode s pos = (65533, 1)
      · have HO := Lib.hid ((afF_bad hlt hf hb).symm.trans hok)
        have era := ra_bad hb
        rw [hb] at hnx hbl2 hit2 hsz2
        clear hok b1 b2 b3 b4 hb hip hf
        go_wp2_with fail
        refine (raI s pos _ hlt (Utf8Tabs_below hT hbl2)).mono ?_
        rintro e w1 ⟨rfl, hb1⟩
        rw [era]
        have hbl3 := hbl2.trans (hb1.mono hbl2.size)
        clear era hb1 hbl2 hbl hnx hit2 hit hsz2
        go_wp2
        go_ret
        exact ⟨by rw [← (show pos = af s from HO)]; rfl, hbl3⟩
      · obtain ⟨f', hf1, hf2⟩ := afF_go hlt hf hb
        have HO := Lib.hid (hf1.symm.trans hok)
        have era := ra_good hb
        obtain ⟨a, ha⟩ : ∃ a, (Utf8.decode s pos).1 = a := ⟨_, rfl⟩
        obtain ⟨b, hb'⟩ : ∃ b, (Utf8.decode s pos).2 = b := ⟨_, rfl⟩
        rw [ha, hb'] at era
        rw [hb'] at HO hf2 b2 b3 b4 hbl2 hit2 hsz2
        rw [ha] at b1
        simp only [ha, hb'] at hnx
        clear hok hf1 hf hb ha hb'
        by_cases hA : (a : Int) = 65533
        · have hb0 : ¬ (b : Int) = 0 := by omega
          obtain rfl : a = 65533 := by omega
          go_wp2_with fail
          refine (raI s pos _ hlt (Utf8Tabs_below hT hbl2)).mono ?_
          rintro e w1 ⟨rfl, hb1⟩
          rw [era]
          have hbl3 := hbl2.trans (hb1.mono hbl2.size)
          have hit3 : w1.heap[w.heap.size]? = some (.stringIter s (pos + b)) := by rw [hb1.block _ (by omega)]; exact hit2
          clear era hb1 hbl2 hbl hnx hit2 hit hsz2
          go_wp2
          go_roundw
          case rel => exact ⟨pos + b, f', hit3, HO, hf2, hbl3⟩
          case measure => rw [hip]; simp [World.iterPos, hit3]; omega
        · go_wp2
          go_roundw
          case rel => exact ⟨pos + b, f', hit2, HO, hf2, hbl2⟩
          case measure => rw [hip]; simp [World.iterPos, hit2]; omega
    · have hnx := fun ty => Lib.run_next_end_at (P := Tryd.prog) wr w.heap.size s pos ty hit hlt
      have HO := Lib.hid ((afF_end hlt).symm.trans hok)
      clear hok
      go_wp2
      go_ret
      exact ⟨by rw [← (show s.size = af s from HO)]; rfl, hbl⟩

set_option maxHeartbeats 800000 in
set_option maxRecDepth 100000 in
theorem okI (s : ByteArray) (w : World) (hT : Lib.Utf8Tabs 0 1 w) :
    Calls Tryd.prog 11 #[.string s] w fun e w' => e = .returned (.bool (ok s)) ∧ Below w.heap.size w w' := by
  have HA := Lib.hid (af_ok s)
  go_enter Tryd.func11, Tryd.ntmps11
  go_wp2_with fail
  refine (afI s w hT).mono ?_
  rintro e w1 ⟨rfl, hb1⟩
  obtain ⟨a, ha⟩ : ∃ a, af s = a := ⟨_, rfl⟩
  rw [ha] at HA
  rw [ha]
  by_cases h : a = s.size
  · have h1 : ((a : Int) == (s.size : Int)) = true := by simp [h]
    go_wp2
    go_ret
    exact ⟨by rw [show ok s = decide (a = s.size) from HA]; simp [h], hb1⟩
  · have h1 : ((a : Int) == (s.size : Int)) = false := by simp; omega
    go_wp2
    go_ret
    exact ⟨by rw [show ok s = decide (a = s.size) from HA]; simp [h], hb1⟩
end Go.Proofs.YtcmcddhhokgbnaaDoor
