/- What is proved: what the model's DrawText and DrawPlaces give at every draw of at most a million bytes: a text of at most eight scalars; twelve numbers in 0 .. 9999. Used by the proof of FnRunesCardSaid. -/
import Derived.Test.YtjidhagnkmclkaaDoorDrB
namespace Go.Proofs.YtjidhagnkmclkaaDoor
open Go.RowKit

/-- What a drawn text is. -/
def TextLeft (w : World) (g : Nat) (e : Ending) (w' : World) : Prop :=
  ∃ ns : List Int, (∀ n ∈ ns, Utf8.valid n = true) ∧ ns.length ≤ 8 ∧ e = .returned (.string (cat ns)) ∧ Kept g w w'

set_option maxHeartbeats 800000 in
theorem textC (w : World) (g : Nat) (a : Option Addr) (len cap : Nat) (i h : Int) (c : Cur w g a len cap i h) (hi0 : 0 ≤ i) (hi1 : i ≤ len) (hl : len ≤ 1048576) (B : Nat) (hB : B ≤ g) (hcode : Code w a len B) :
    Calls Tryd.prog 20 #[.pointer (some ⟨g, 0, none⟩)] w (TextLeft w g) := by
  have hs := Nat.le_of_lt (Nat.lt_of_le_of_lt hB c.lt)
  go_enter Tryd.func20, Tryd.ntmps20
  go_wp2
  go_loopw [3, 4] (fun sv iv wr => ∃ (ns : List Int) (i h : Int), sv = .string (cat ns) ∧ iv = .int .i64 (ns.length : Int) ∧ ns.length ≤ 8 ∧ Hid (∀ n ∈ ns, Utf8.valid n = true) ∧ 0 ≤ i ∧ i ≤ len ∧ Cur wr g a len cap i h ∧ Kept g w wr) (fun _ iv _ => 8 - (intOf iv).toNat)
  case atStart => exact ⟨[], i, h, rfl, rfl, Nat.zero_le _, fun n hn => (by cases hn), hi0, hi1, c, Kept.refl _ _⟩
  case round =>
    obtain ⟨ns, i, h, rfl, rfl, hn8, HV, hi0, hi1, c, k0⟩ := hrel
    go_wp2_with fail
    refine (belowC wr g a len cap i h c hi0 hi1 hl B hB (hcode.keep (k0.below hB hs)) 8 (by omega) (by omega)).mono ?_
    rintro e w1 ⟨x, i1, h1, rfl, x0, x1, j0, j1, c1, k1⟩
    have k01 := k0.trans k1
    by_cases hlt : (ns.length : Int) < x
    · go_wp2_with fail
      refine (runeC w1 g a len cap i1 h1 c1 j0 j1 hl B hB (hcode.keep (k01.below hB hs))).mono ?_
      rintro e w2 ⟨y, i2, h2, rfl, hv, l0, l1, c2, k2⟩
      have k02 := k01.trans k2
      go_wp2_with fail
      refine (rtS y w2).mono ?_
      rintro e w3 ⟨rfl, hb3⟩
      have k03 := k02.trans (Kept.of g hb3)
      have c3 := c2.keep hb3
      have z1 := cat_size ns
      have z2 := rl_le y
      have z3 := rt_size y
      have hz : ((cat ns).size : Int) + ((rt y).size : Int) ≤ 100 := by omega
      have HC : Hid (cat (ns ++ [y]) = cat ns ++ rt y) := cat_snoc ns y
      have HV2 : Hid (∀ n ∈ ns ++ [y], Utf8.valid n = true) := fun n hn => by
        rcases List.mem_append.1 hn with h | h
        · exact HV.out n h
        · rw [List.mem_singleton.1 h]; exact hv
      clear z1 z2 z3 HV hv k0 k1 k01 k2 k02 hb3 c c1 c2
      go_wp2
      go_roundw
      case rel => exact ⟨ns ++ [y], i2, h2, by rw [HC.out], by simp, by simp; omega, HV2, l0, l1, c3, k03⟩
      case measure => simp [intOf]; omega
    · go_wp2
      go_ret
      exact ⟨ns, HV.out, hn8, rfl, k01⟩

set_option maxHeartbeats 800000 in
theorem drawTextC (w : World) (a : Option Addr) (len cap : Nat) (hl : len ≤ 1048576) (hcode : Code w a len w.heap.size) :
    Calls Tryd.prog 8 #[.slice a len cap] w fun e w' => ∃ ns : List Int, (∀ n ∈ ns, Utf8.valid n = true) ∧ ns.length ≤ 8 ∧ e = .returned (.string (cat ns)) ∧ Below w.heap.size w w' := by
  go_enter Tryd.func8, Tryd.ntmps8
  go_wp2_with fail
  refine (newC w a len cap hl hcode).mono ?_
  rintro e w1 ⟨rfl, ⟨h, c⟩, hb1⟩
  go_wp2_with fail
  refine (textC w1 w.heap.size a len cap 0 h c (by omega) (by omega) hl w.heap.size (Nat.le_refl _) (hcode.keep hb1)).mono ?_
  rintro e w2 ⟨ns, hv, hn, rfl, k2⟩
  have hb2 := hb1.trans (k2.below (Nat.le_refl _) hb1.size)
  go_wp2
  go_ret
  exact ⟨ns, hv, hn, rfl, hb2⟩

/-- What the drawn places are. -/
def PlacesLeft (w : World) (e : Ending) (w' : World) : Prop :=
  ∃ (g cap : Nat) (L : List Int), L.length = 12 ∧ (∀ x ∈ L, 0 ≤ x ∧ x < 10000) ∧ e = .returned (.slice (some ⟨g, 0, none⟩) 12 cap) ∧ w.heap.size ≤ g ∧ w'.ownsRow w.heap.size 3 1 (.slice (some ⟨g, 0, none⟩) 12 cap) 12 (intC L) ∧ Below w.heap.size w w'

set_option maxHeartbeats 1600000 in
theorem drawPlacesC (w : World) (a : Option Addr) (len cap : Nat) (hl : len ≤ 1048576) (hcode : Code w a len w.heap.size) :
    Calls Tryd.prog 10 #[.slice a len cap] w (PlacesLeft w) := by
  obtain ⟨i0, hi, hz0, hz1, hz2⟩ := info_parts info3
  go_enter Tryd.func10, Tryd.ntmps10
  go_wp2_with fail
  refine (newC w a len cap hl hcode).mono ?_
  rintro e w1 ⟨rfl, ⟨h, c⟩, hb1⟩
  go_wp2_with fail
  refine (byteC w1 w.heap.size a len cap 0 h c (by omega) (by omega) hl w.heap.size (Nat.le_refl _) (hcode.keep hb1)).mono ?_
  rintro e w2 ⟨x, i2, h2, rfl, _, _, j0, j1, c2, k2⟩
  have hb2 := hb1.trans (k2.below (Nat.le_refl _) hb1.size)
  have c3 := c2.keep ((Below.refl w2.heap.size w2).alloc (Nat.le_refl _) (.cells #[] 3))
  have ho3 : (w2.alloc (.cells #[] 3)).ownsRow w.heap.size 3 1 (.slice (some ⟨w2.heap.size, 0, none⟩) 0 0) 0 (intC []) := World.ownsRow_lit w2 #[] 0 hb2.size (Nat.zero_le _) rfl
  have hb3 := hb2.alloc hb2.size (.cells #[] 3)
  have hs2 := hb2.size
  clear hb1 c k2 c2 hb2
  go_wp2
  go_loopw [4, 5] (fun v iv wr => ∃ (k g cap2 : Nat) (L : List Int) (i h : Int), k ≤ 12 ∧ iv = .int .i64 (k : Int) ∧ v = .slice (some ⟨g, 0, none⟩) k cap2 ∧ L.length = k ∧ Hid (∀ x ∈ L, 0 ≤ x ∧ x < 10000) ∧ w.heap.size ≤ g ∧ wr.ownsRow w.heap.size 3 1 (.slice (some ⟨g, 0, none⟩) k cap2) k (intC L) ∧ 0 ≤ i ∧ i ≤ len ∧ Cur wr w.heap.size a len cap i h ∧ Below w.heap.size w wr) (fun _ iv _ => 12 - (intOf iv).toNat)
  case atStart => exact ⟨0, w2.heap.size, 0, [], i2, h2, by omega, rfl, rfl, rfl, fun x hx => (by cases hx), hs2, ho3, j0, j1, c3, hb3⟩
  case round =>
    clear ho3 c3 hb3
    obtain ⟨k, g, cap2, L, i, h, hk, rfl, rfl, hLk, HL, hg, hown, hi0, hi1, c, hnx⟩ := hrel
    have hsz := hnx.size
    by_cases hlt : k < 12
    · have hlt' : (k : Int) < 12 := by omega
      go_wp2_with fail
      refine (bigC wr w.heap.size a len cap i h c hi0 hi1 hl w.heap.size (Nat.le_refl _) (hcode.keep hnx)).mono ?_
      rintro e W ⟨x, i3, h3, rfl, x0, x1, l0, l1, c4, k4⟩
      have hownW := own_kept hown k4 c (by decide)
      have hnxW := hnx.trans (k4.below (Nat.le_refl _) hsz)
      have hszW := hnxW.size
      have hne := own_ne hownW c4 (by decide)
      have HL2 : Hid (∀ y ∈ L ++ [x], 0 ≤ y ∧ y < 10000) := fun y hy => by
        rcases List.mem_append.1 hy with h | h
        · exact HL.out y h
        · rw [List.mem_singleton.1 h]; exact ⟨x0, x1⟩
      have n1 : ∀ u ∈ [Value.int .i64 x], u.oneCell' = true := by intro u hu; simp at hu; subst hu; rfl
      have n2 : k + 1 ≤ maxLen := by unfold maxLen; omega
      clear hown k4 c hnx HL
      go_wp2_with (at_builtin; refine wpList_append_lies _ rfl _ _ 25 rfl w.heap.size 3 i0 (.int .i64 0) 1 8 Tryd.underlying25 hi hz0 hz1 hz2 rfl (by decide) _ _ _ rfl (hownW.alloc _) ⟨W.heap.size, 0, none⟩ 1 1 [.int .i64 x] rfl rfl (World.news_of_block (cs := #[.int .i64 x]) (t := 3) (fr := (0, 0)) (heap_alloc_new W _)) n1 (by decide) n2 (by omega) (by simp; omega) (W.heap.size + 1) (by simp) ?_)
      intro g2 cap3 w3 hown3 hgrow hat hlt2
      have R := int_step hLk hnxW hownW hown3 hgrow
      have hg2 : w.heap.size ≤ g2 := by
        rcases hat with h | h
        · simp [Value.ownBlock] at h; omega
        · omega
      have c5 : Cur w3 w.heap.size a len cap i3 h3 := by
        unfold Cur
        rw [hgrow.block _ (by have := c4.lt; simp; omega) (by simp [Value.ownBlock]; omega), Below.heap_alloc _ _ _ c4.lt]; exact c4
      clear hown3 hgrow hat hlt2 hownW n1 c4
      go_wp2
      go_roundw
      case rel => exact ⟨k + 1, g2, cap3, L ++ [x], i3, h3, by omega, by go_num, rfl, R.1, HL2, hg2, R.2.1, l0, l1, c5, R.2.2⟩
      case measure => simp [intOf]; omega
    · obtain rfl : k = 12 := by omega
      go_wp2
      go_ret
      exact ⟨g, cap2, L, hLk, HL.out, rfl, hg, hown, hnx⟩
end Go.Proofs.YtjidhagnkmclkaaDoor
