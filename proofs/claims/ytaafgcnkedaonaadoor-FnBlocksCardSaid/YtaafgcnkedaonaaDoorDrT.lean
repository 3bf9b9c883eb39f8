/- What is proved: what the model's pick of a text out of a list gives: one of the list's texts; and that it writes into nothing but its cursor. Used by the proofs of the laws that draw. -/
import Derived.Test.YtaafgcnkedaonaaDoorDrA
namespace Go.Proofs.YtaafgcnkedaonaaDoor
open Go.RowKit

def strC (L : List ByteArray) : List Value := L.map fun x => Value.string x
theorem strC_at (L : List ByteArray) (k : Nat) (h : k < L.length) : (strC L)[k]? = some (.string L[k]) := by simp [strC, h]

set_option maxHeartbeats 800000 in
theorem pickS (w : World) (g : Nat) (a : Option Addr) (len cap : Nat) (i h : Int) (c : Cur w g a len cap i h) (hi0 : 0 ≤ i) (hi1 : i ≤ len) (hl : len ≤ 1048576) (B : Nat) (hB : B ≤ g) (hcode : Code w a len B)
    (L : List ByteArray) (n B2 g2 c2 : Nat) (hn : L.length = n) (hn0 : 0 < n) (hn2 : n ≤ 256) (ho : w.ownsRow B2 9 1 (.slice (some ⟨g2, 0, none⟩) n c2) n (strC L)) :
    Calls Tryd.prog 46 #[.pointer (some ⟨g, 0, none⟩), .slice (some ⟨g2, 0, none⟩) n c2] w fun e w' => ∃ (x : ByteArray) (i h : Int), e = .returned (.string x) ∧ x ∈ L ∧ 0 ≤ i ∧ i ≤ len ∧ Cur w' g a len cap i h ∧ Kept g w w' := by
  have HN : Hid (L.length = n) := hn
  clear hn
  go_enter Tryd.func46, Tryd.ntmps46
  go_wp2_with fail
  refine (belowC w g a len cap i h c hi0 hi1 hl B hB hcode n (by omega) (by omega)).mono ?_
  rintro e w1 ⟨x, i1, h1, rfl, x0, x1, j0, j1, c1, k1⟩
  obtain ⟨k, rfl⟩ : ∃ k : Nat, x = k := ⟨x.toNat, by omega⟩
  have hk : k < n := by omega
  have hcell : w1.cell? ⟨g2, k, none⟩ = some (.string (L[k]'(by rw [HN.out]; exact hk))) := ((own_kept ho k1 c (by decide)).cellAt k (by omega)).trans (strC_at L k (by rw [HN.out]; exact hk))
  have hmem : L[k]'(by rw [HN.out]; exact hk) ∈ L := List.getElem_mem _
  obtain ⟨y, hy⟩ : ∃ y, L[k]'(by rw [HN.out]; exact hk) = y := ⟨_, rfl⟩
  rw [hy] at hcell hmem
  clear hy
  go_wp2
  go_ret
  exact ⟨y, i1, h1, rfl, hmem, j0, j1, c1, k1⟩
end Go.Proofs.YtaafgcnkedaonaaDoor
