/- What is proved: what the model draws of bytes: a text that is a few scalars one behind the other, and twelve numbers in 0 .. 9999; and that the draws write into no memory that was there. Used by the proof of FnRunesCardSaid. -/
import Derived.Test.YtjidhagnkmclkaaDoorDrA
import Derived.Test.YtjidhagnkmclkaaDoorRo
namespace Go.Proofs.YtjidhagnkmclkaaDoor
open Go.RowKit

/-- Texts of scalars, one behind the other. -/
def cat : List Int → ByteArray
  | [] => ⟨#[]⟩
  | n :: ns => rt n ++ cat ns
theorem cat_snoc (ns : List Int) (n : Int) : cat (ns ++ [n]) = cat ns ++ rt n := by
  induction ns with
  | nil => apply ByteArray.ext; simp [cat]
  | cons m ns ih => simp only [List.cons_append, cat, ih]; apply ByteArray.ext; simp [Array.append_assoc]
theorem rl_le (n : Int) : rl n ≤ 4 := by
  unfold rl
  repeat' split
  all_goals omega
theorem cat_size (ns : List Int) : (cat ns).size ≤ 4 * ns.length := by
  induction ns with
  | nil => exact Nat.le_refl 0
  | cons n ns ih =>
    have := rl_le n
    simp only [cat, ByteArray.size_append, rt_size, List.length_cons]
    omega

set_option maxHeartbeats 800000 in
theorem newC (w : World) (a : Option Addr) (len cap : Nat) (hl : len ≤ 1048576) (hcode : Code w a len w.heap.size) :
    Calls Tryd.prog 21 #[.slice a len cap] w fun e w' => e = .returned (.pointer (some ⟨w.heap.size, 0, none⟩)) ∧ (∃ h, Cur w' w.heap.size a len cap 0 h) ∧ Below w.heap.size w w' := by
  go_enter Tryd.func21, Tryd.ntmps21
  go_wp2
  go_loopw [3, 4] (fun hv i wr => ∃ (k : Nat) (H : Int), k ≤ len ∧ i = .int .i64 k ∧ hv = .int .i64 H ∧ 0 ≤ H ∧ H ≤ 1073741823 ∧ w = wr) (fun _ i _ => len - (intOf i).toNat)
  case atStart => exact ⟨0, 94701 + len, Nat.zero_le _, rfl, by go_num, by omega, by omega, rfl⟩
  case round =>
    obtain ⟨k, H, hk, rfl, rfl, H0, H1, rfl⟩ := hrel
    by_cases hlt : k < len
    · have hlt' : (k : Int) < (len : Int) := by omega
      by_cases h4 : k < 4000
      · have h4' : (k : Int) < 4000 := by omega
        have hk0 : (0 : Int) ≤ (k : Int) := by omega
        obtain ⟨x, b, rfl, hbl, hb0, hb1, hcell⟩ := hcode k hlt
        obtain ⟨Y, hY⟩ : ∃ Y, bits .and .i64 (H * 131 + b + 7) 1073741823 = Y := ⟨_, rfl⟩
        have bY : 0 ≤ Y ∧ Y ≤ 1073741823 := by rw [← hY]; exact and_bound _ 1073741823 (by decide)
        go_wp2
        go_roundw
        case rel => exact ⟨k + 1, Y, by omega, by go_num, rfl, bY.1, bY.2, by trivial⟩
        case measure => simp [intOf]; omega
      · have h4' : ¬ (k : Int) < 4000 := by omega
        go_wp2
        go_ret
        exact ⟨rfl, ⟨H, heap_alloc_new w _⟩, (Below.refl _ _).alloc (Nat.le_refl _) _⟩
    · have hlt' : ¬ (k : Int) < (len : Int) := by omega
      go_wp2
      go_ret
      exact ⟨rfl, ⟨H, heap_alloc_new w _⟩, (Below.refl _ _).alloc (Nat.le_refl _) _⟩

theorem own_kept {w w' : World} {B e size n g : Nat} {v : Value} {xs : List Value} {cs : Array Value} {fz : Nat × Nat} (h : w.ownsRow B e size v n xs) (hk : Kept g w w') (hg : w.heap[g]? = some (.cells cs 44 fz)) (he : e ≠ 44) : w'.ownsRow B e size v n xs := by
  refine ⟨h.1, ?_⟩
  rcases h.2 with h0 | ⟨g2, cap, cur, hv, hB, hg2, h1, h2, h3, h4⟩
  · exact .inl h0
  · refine .inr ⟨g2, cap, cur, hv, hB, ?_, h1, h2, h3, h4⟩
    have hne : g2 ≠ g := fun e2 => by rw [e2, hg] at hg2; simp at hg2; exact he hg2.2.1.symm
    rw [hk.block g2 (Array.getElem?_eq_some_iff.1 hg2).1 hne]; exact hg2
theorem own_ne {w : World} {B e size n g g2 m c : Nat} {xs : List Value} {cs : Array Value} {fz : Nat × Nat} (h : w.ownsRow B e size (.slice (some ⟨g2, 0, none⟩) m c) n xs) (hg : w.heap[g]? = some (.cells cs 44 fz)) (he : e ≠ 44) : g2 ≠ g := by
  intro e2
  rcases h.2 with h0 | ⟨g', cap, cur, hv, hB, hg2, _⟩
  · simp at h0
  · simp at hv
    rw [← hv.1, e2, hg] at hg2; simp at hg2; exact he hg2.2.1.symm

set_option maxHeartbeats 800000 in
theorem pickC (w : World) (g : Nat) (a : Option Addr) (len cap : Nat) (i h : Int) (c : Cur w g a len cap i h) (hi0 : 0 ≤ i) (hi1 : i ≤ len) (hl : len ≤ 1048576) (B : Nat) (hB : B ≤ g) (hcode : Code w a len B)
    (L : List Int) (n B2 g2 c2 : Nat) (hn : L.length = n) (hn0 : 0 < n) (hn2 : n ≤ 256) (ho : w.ownsRow B2 3 1 (.slice (some ⟨g2, 0, none⟩) n c2) n (intC L)) :
    Calls Tryd.prog 30 #[.pointer (some ⟨g, 0, none⟩), .slice (some ⟨g2, 0, none⟩) n c2] w fun e w' => ∃ x i h : Int, e = .returned (.int .i64 x) ∧ x ∈ L ∧ 0 ≤ i ∧ i ≤ len ∧ Cur w' g a len cap i h ∧ Kept g w w' := by
  have HN : Hid (L.length = n) := hn
  clear hn
  go_enter Tryd.func30, Tryd.ntmps30
  go_wp2_with fail
  refine (belowC w g a len cap i h c hi0 hi1 hl B hB hcode n (by omega) (by omega)).mono ?_
  rintro e w1 ⟨x, i1, h1, rfl, x0, x1, j0, j1, c1, k1⟩
  obtain ⟨k, rfl⟩ : ∃ k : Nat, x = k := ⟨x.toNat, by omega⟩
  have hk : k < n := by omega
  have hcell : w1.cell? ⟨g2, k, none⟩ = some (.int .i64 (L[k]'(by rw [HN.out]; exact hk))) := ((own_kept ho k1 c (by decide)).cellAt k (by omega)).trans (intC_at L k (by rw [HN.out]; exact hk))
  have hmem : L[k]'(by rw [HN.out]; exact hk) ∈ L := List.getElem_mem _
  obtain ⟨y, hy⟩ : ∃ y, L[k]'(by rw [HN.out]; exact hk) = y := ⟨_, rfl⟩
  rw [hy] at hcell hmem
  clear hy
  go_wp2
  go_ret
  exact ⟨y, i1, h1, rfl, hmem, j0, j1, c1, k1⟩

def signs : List Int := [65, 97, 122, 48, 32, 10, 34, 92, 233, 2047, 2048, 8364, 65535, 65536, 128512, 1114111, 9, 127, 31]
theorem signs_valid : ∀ x ∈ signs, Utf8.valid x = true := by decide

set_option maxHeartbeats 800000 in
theorem runeC (w : World) (g : Nat) (a : Option Addr) (len cap : Nat) (i h : Int) (c : Cur w g a len cap i h) (hi0 : 0 ≤ i) (hi1 : i ≤ len) (hl : len ≤ 1048576) (B : Nat) (hB : B ≤ g) (hcode : Code w a len B) :
    Calls Tryd.prog 27 #[.pointer (some ⟨g, 0, none⟩)] w fun e w' => ∃ x i h : Int, e = .returned (.int .i64 x) ∧ Utf8.valid x = true ∧ 0 ≤ i ∧ i ≤ len ∧ Cur w' g a len cap i h ∧ Kept g w w' := by
  have hs := Nat.le_of_lt (Nat.lt_of_le_of_lt hB c.lt)
  have hb : Below w.heap.size w (w.alloc (.cells (intC signs).toArray 3)) := (Below.refl _ _).alloc (Nat.le_refl _) _
  have c1 := c.keep hb
  have hcode1 := hcode.keep (hb.mono hs)
  have ho : (w.alloc (.cells (intC signs).toArray 3)).ownsRow w.heap.size 3 1 (.slice (some ⟨w.heap.size, 0, none⟩) 19 19) 19 (intC signs) := World.ownsRow_lit w (intC signs).toArray 19 (Nat.le_refl _) (by unfold maxLen; decide) rfl
  have CP := pickC (w.alloc (.cells (intC signs).toArray 3)) g a len cap i h c1 hi0 hi1 hl B hB hcode1 signs 19 w.heap.size w.heap.size 19 rfl (by decide) (by decide) ho
  have K0 := Kept.of g hb
  clear ho c1 hcode1 hb
  go_enter Tryd.func27, Tryd.ntmps27
  go_wp2_with fail
  refine CP.mono ?_
  rintro e w1 ⟨x, i1, h1, rfl, xm, j0, j1, c2, k1⟩
  have hv := signs_valid x xm
  clear CP xm
  go_wp2
  go_ret
  exact ⟨x, i1, h1, rfl, hv, j0, j1, c2, K0.trans k1⟩
end Go.Proofs.YtjidhagnkmclkaaDoor
