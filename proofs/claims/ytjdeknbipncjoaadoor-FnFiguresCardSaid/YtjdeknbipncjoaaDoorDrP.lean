/- What is proved: what the model's DrawPlaces gives at every draw of at most a million bytes: twelve numbers in 0 .. 9999; and that it writes into no memory that was there. Used by the proofs of the laws that draw. -/
import Derived.Test.YtjdeknbipncjoaaDoorDrA
namespace Go.Proofs.YtjdeknbipncjoaaDoor
open Go.RowKit

/-- What the drawn places are. -/
def PlacesLeft (w : World) (e : Ending) (w' : World) : Prop :=
  ∃ (g cap : Nat) (L : List Int), L.length = 12 ∧ (∀ x ∈ L, 0 ≤ x ∧ x < 10000) ∧ e = .returned (.slice (some ⟨g, 0, none⟩) 12 cap) ∧ w.heap.size ≤ g ∧ w'.ownsRow w.heap.size 3 1 (.slice (some ⟨g, 0, none⟩) 12 cap) 12 (intC L) ∧ Below w.heap.size w w'

set_option maxHeartbeats 1600000 in
theorem drawPlacesC (w : World) (a : Option Addr) (len cap : Nat) (hl : len ≤ 1048576) (hcode : Code w a len w.heap.size) :
    Calls Tryd.prog 5 #[.slice a len cap] w (PlacesLeft w) := by
  obtain ⟨i0, hi, hz0, hz1, hz2⟩ := info_parts info3
  go_enter Tryd.func5, Tryd.ntmps5
  go_wp2_with fail
  refine (newC w a len cap hl hcode).mono ?_
  rintro e w1 ⟨rfl, ⟨h, c⟩, hb1⟩
  go_wp2_with fail
  refine (byteC w1 w.heap.size a len cap 0 h c (by omega) (by omega) hl w.heap.size (Nat.le_refl _) (hcode.keep hb1)).mono ?_
  rintro e w2 ⟨x, i2, h2, rfl, _, _, j0, j1, c2, k2⟩
  have hb2 := hb1.trans (k2.below (Nat.le_refl _) hb1.size)
  have c3 := c2.keep ((Below.refl w2.heap.size w2).alloc (Nat.le_refl _) (.cells #[] 3))
  have ho3 : (w2.alloc (.cells #[] 3)).ownsRow w.heap.size 3 1 (.slice (some ⟨w2.heap.size, 0, none⟩) 0 0) 0 (intC []) := World.ownsRow_lit w2 #[] 0 hb2.size (Nat.zero_le _) rfl
  have hb3 := hb2.alloc hb2.size (.cells #[] 3)
  have hs2 := hb2.size
  clear hb1 c k2 c2 hb2
  go_wp2
  go_loopw [4, 5] (fun v iv wr => ∃ (k g cap2 : Nat) (L : List Int) (i h : Int), k ≤ 12 ∧ iv = .int .i64 (k : Int) ∧ v = .slice (some ⟨g, 0, none⟩) k cap2 ∧ L.length = k ∧ Hid (∀ x ∈ L, 0 ≤ x ∧ x < 10000) ∧ w.heap.size ≤ g ∧ wr.ownsRow w.heap.size 3 1 (.slice (some ⟨g, 0, none⟩) k cap2) k (intC L) ∧ 0 ≤ i ∧ i ≤ len ∧ Cur wr w.heap.size a len cap i h ∧ Below w.heap.size w wr) (fun _ iv _ => 12 - (intOf iv).toNat)
  case atStart => exact ⟨0, w2.heap.size, 0, [], i2, h2, by omega, rfl, rfl, rfl, fun x hx => (by cases hx), hs2, ho3, j0, j1, c3, hb3⟩
  case round =>
    clear ho3 c3 hb3
    obtain ⟨k, g, cap2, L, i, h, hk, rfl, rfl, hLk, HL, hg, hown, hi0, hi1, c, hnx⟩ := hrel
    have hsz := hnx.size
    by_cases hlt : k < 12
    · have hlt' : (k : Int) < 12 := by omega
      go_wp2_with fail
      refine (bigC wr w.heap.size a len cap i h c hi0 hi1 hl w.heap.size (Nat.le_refl _) (hcode.keep hnx)).mono ?_
      rintro e W ⟨x, i3, h3, rfl, x0, x1, l0, l1, c4, k4⟩
      have hownW := own_kept hown k4 c (by decide)
      have hnxW := hnx.trans (k4.below (Nat.le_refl _) hsz)
      have hszW := hnxW.size
      have hne := own_ne hownW c4 (by decide)
      have HL2 : Hid (∀ y ∈ L ++ [x], 0 ≤ y ∧ y < 10000) := fun y hy => by
        rcases List.mem_append.1 hy with h | h
        · exact HL.out y h
        · rw [List.mem_singleton.1 h]; exact ⟨x0, x1⟩
      have n1 : ∀ u ∈ [Value.int .i64 x], u.oneCell' = true := by intro u hu; simp at hu; subst hu; rfl
      have n2 : k + 1 ≤ maxLen := by unfold maxLen; omega
      clear hown k4 c hnx HL
      go_wp2_with (at_builtin; refine wpList_append_lies _ rfl _ _ 24 rfl w.heap.size 3 i0 (.int .i64 0) 1 8 Tryd.underlying24 hi hz0 hz1 hz2 rfl (by decide) _ _ _ rfl (hownW.alloc _) ⟨W.heap.size, 0, none⟩ 1 1 [.int .i64 x] rfl rfl (World.news_of_block (cs := #[.int .i64 x]) (t := 3) (fr := (0, 0)) (heap_alloc_new W _)) n1 (by decide) n2 (by omega) (by simp; omega) (W.heap.size + 1) (by simp) ?_)
      intro g2 cap3 w3 hown3 hgrow hat hlt2
      have R := int_step hLk hnxW hownW hown3 hgrow
      have hg2 : w.heap.size ≤ g2 := by
        rcases hat with h | h
        · simp [Value.ownBlock] at h; omega
        · omega
      have c5 : Cur w3 w.heap.size a len cap i3 h3 := by
        unfold Cur
        rw [hgrow.block _ (by have := c4.lt; simp; omega) (by simp [Value.ownBlock]; omega), Below.heap_alloc _ _ _ c4.lt]; exact c4
      clear hown3 hgrow hat hlt2 hownW n1 c4
      go_wp2
      go_roundw
      case rel => exact ⟨k + 1, g2, cap3, L ++ [x], i3, h3, by omega, by go_num, rfl, R.1, HL2, hg2, R.2.1, l0, l1, c5, R.2.2⟩
      case measure => simp [intOf]; omega
    · obtain rfl : k = 12 := by omega
      go_wp2
      go_ret
      exact ⟨g, cap2, L, hLk, HL.out, rfl, hg, hown, hnx⟩
end Go.Proofs.YtjdeknbipncjoaaDoor
