/- What is proved: what the model draws of bytes: a text that is a few scalars one behind the other; and that the draws write into no memory that was there. Used by the proofs of the laws that draw. -/
import Derived.Test.YtaafgcnkedaonaaDoorDrA
import Derived.Test.YtaafgcnkedaonaaDoorRt
import Derived.Test.YtaafgcnkedaonaaDoorCat
namespace Go.Proofs.YtaafgcnkedaonaaDoor
open Go.RowKit

set_option maxHeartbeats 800000 in
theorem pickC (w : World) (g : Nat) (a : Option Addr) (len cap : Nat) (i h : Int) (c : Cur w g a len cap i h) (hi0 : 0 ≤ i) (hi1 : i ≤ len) (hl : len ≤ 1048576) (B : Nat) (hB : B ≤ g) (hcode : Code w a len B)
    (L : List Int) (n B2 g2 c2 : Nat) (hn : L.length = n) (hn0 : 0 < n) (hn2 : n ≤ 256) (ho : w.ownsRow B2 3 1 (.slice (some ⟨g2, 0, none⟩) n c2) n (intC L)) :
    Calls Tryd.prog 62 #[.pointer (some ⟨g, 0, none⟩), .slice (some ⟨g2, 0, none⟩) n c2] w fun e w' => ∃ x i h : Int, e = .returned (.int .i64 x) ∧ x ∈ L ∧ 0 ≤ i ∧ i ≤ len ∧ Cur w' g a len cap i h ∧ Kept g w w' := by
  have HN : Hid (L.length = n) := hn
  clear hn
  go_enter Tryd.func62, Tryd.ntmps62
  go_wp2_with fail
  refine (belowC w g a len cap i h c hi0 hi1 hl B hB hcode n (by omega) (by omega)).mono ?_
  rintro e w1 ⟨x, i1, h1, rfl, x0, x1, j0, j1, c1, k1⟩
  obtain ⟨k, rfl⟩ : ∃ k : Nat, x = k := ⟨x.toNat, by omega⟩
  have hk : k < n := by omega
  have hcell : w1.cell? ⟨g2, k, none⟩ = some (.int .i64 (L[k]'(by rw [HN.out]; exact hk))) := ((own_kept ho k1 c (by decide)).cellAt k (by omega)).trans (intC_at L k (by rw [HN.out]; exact hk))
  have hmem : L[k]'(by rw [HN.out]; exact hk) ∈ L := List.getElem_mem _
  obtain ⟨y, hy⟩ : ∃ y, L[k]'(by rw [HN.out]; exact hk) = y := ⟨_, rfl⟩
  rw [hy] at hcell hmem
  clear hy
  go_wp2
  go_ret
  exact ⟨y, i1, h1, rfl, hmem, j0, j1, c1, k1⟩

def signs : List Int := [65, 97, 122, 48, 32, 10, 34, 92, 233, 2047, 2048, 8364, 65535, 65536, 128512, 1114111, 9, 127, 31]
theorem signs_valid : ∀ x ∈ signs, Utf8.valid x = true := by decide

set_option maxHeartbeats 800000 in
theorem runeC (w : World) (g : Nat) (a : Option Addr) (len cap : Nat) (i h : Int) (c : Cur w g a len cap i h) (hi0 : 0 ≤ i) (hi1 : i ≤ len) (hl : len ≤ 1048576) (B : Nat) (hB : B ≤ g) (hcode : Code w a len B) :
    Calls Tryd.prog 44 #[.pointer (some ⟨g, 0, none⟩)] w fun e w' => ∃ x i h : Int, e = .returned (.int .i64 x) ∧ Utf8.valid x = true ∧ 0 ≤ i ∧ i ≤ len ∧ Cur w' g a len cap i h ∧ Kept g w w' := by
  have hs := Nat.le_of_lt (Nat.lt_of_le_of_lt hB c.lt)
  have hb : Below w.heap.size w (w.alloc (.cells (intC signs).toArray 3)) := (Below.refl _ _).alloc (Nat.le_refl _) _
  have c1 := c.keep hb
  have hcode1 := hcode.keep (hb.mono hs)
  have ho : (w.alloc (.cells (intC signs).toArray 3)).ownsRow w.heap.size 3 1 (.slice (some ⟨w.heap.size, 0, none⟩) 19 19) 19 (intC signs) := World.ownsRow_lit w (intC signs).toArray 19 (Nat.le_refl _) (by unfold maxLen; decide) rfl
  have CP := pickC (w.alloc (.cells (intC signs).toArray 3)) g a len cap i h c1 hi0 hi1 hl B hB hcode1 signs 19 w.heap.size w.heap.size 19 rfl (by decide) (by decide) ho
  have K0 := Kept.of g hb
  clear ho c1 hcode1 hb
  go_enter Tryd.func44, Tryd.ntmps44
  go_wp2_with fail
  refine CP.mono ?_
  rintro e w1 ⟨x, i1, h1, rfl, xm, j0, j1, c2, k1⟩
  have hv := signs_valid x xm
  clear CP xm
  go_wp2
  go_ret
  exact ⟨x, i1, h1, rfl, hv, j0, j1, c2, K0.trans k1⟩
/-- What a drawn text is. -/
def TextLeft (w : World) (g : Nat) (e : Ending) (w' : World) : Prop :=
  ∃ ns : List Int, (∀ n ∈ ns, Utf8.valid n = true) ∧ ns.length ≤ 8 ∧ e = .returned (.string (cat ns)) ∧ Kept g w w'

set_option maxHeartbeats 800000 in
theorem textC (w : World) (g : Nat) (a : Option Addr) (len cap : Nat) (i h : Int) (c : Cur w g a len cap i h) (hi0 : 0 ≤ i) (hi1 : i ≤ len) (hl : len ≤ 1048576) (B : Nat) (hB : B ≤ g) (hcode : Code w a len B) :
    Calls Tryd.prog 22 #[.pointer (some ⟨g, 0, none⟩)] w (TextLeft w g) := by
  have hs := Nat.le_of_lt (Nat.lt_of_le_of_lt hB c.lt)
  go_enter Tryd.func22, Tryd.ntmps22
  go_wp2
  go_loopw [3, 4] (fun sv iv wr => ∃ (ns : List Int) (i h : Int), sv = .string (cat ns) ∧ iv = .int .i64 (ns.length : Int) ∧ ns.length ≤ 8 ∧ Hid (∀ n ∈ ns, Utf8.valid n = true) ∧ 0 ≤ i ∧ i ≤ len ∧ Cur wr g a len cap i h ∧ Kept g w wr) (fun _ iv _ => 8 - (intOf iv).toNat)
  case atStart => exact ⟨[], i, h, rfl, rfl, Nat.zero_le _, fun n hn => (by cases hn), hi0, hi1, c, Kept.refl _ _⟩
  case round =>
    obtain ⟨ns, i, h, rfl, rfl, hn8, HV, hi0, hi1, c, k0⟩ := hrel
    go_wp2_with fail
    refine (belowC wr g a len cap i h c hi0 hi1 hl B hB (hcode.keep (k0.below hB hs)) 8 (by omega) (by omega)).mono ?_
    rintro e w1 ⟨x, i1, h1, rfl, x0, x1, j0, j1, c1, k1⟩
    have k01 := k0.trans k1
    by_cases hlt : (ns.length : Int) < x
    · go_wp2_with fail
      refine (runeC w1 g a len cap i1 h1 c1 j0 j1 hl B hB (hcode.keep (k01.below hB hs))).mono ?_
      rintro e w2 ⟨y, i2, h2, rfl, hv, l0, l1, c2, k2⟩
      have k02 := k01.trans k2
      go_wp2_with fail
      refine (rtS y w2).mono ?_
      rintro e w3 ⟨rfl, hb3⟩
      have k03 := k02.trans (Kept.of g hb3)
      have c3 := c2.keep hb3
      have z1 := cat_size ns
      have z2 := rl_le y
      have z3 := rt_size y
      have hz : ((cat ns).size : Int) + ((rt y).size : Int) ≤ 100 := by omega
      have HC : Hid (cat (ns ++ [y]) = cat ns ++ rt y) := cat_snoc ns y
      have HV2 : Hid (∀ n ∈ ns ++ [y], Utf8.valid n = true) := fun n hn => by
        rcases List.mem_append.1 hn with h | h
        · exact HV.out n h
        · rw [List.mem_singleton.1 h]; exact hv
      clear z1 z2 z3 HV hv k0 k1 k01 k2 k02 hb3 c c1 c2
      go_wp2
      go_roundw
      case rel => exact ⟨ns ++ [y], i2, h2, by rw [HC.out], by simp, by simp; omega, HV2, l0, l1, c3, k03⟩
      case measure => simp [intOf]; omega
    · go_wp2
      go_ret
      exact ⟨ns, HV.out, hn8, rfl, k01⟩

set_option maxHeartbeats 800000 in
theorem drawTextC (w : World) (a : Option Addr) (len cap : Nat) (hl : len ≤ 1048576) (hcode : Code w a len w.heap.size) :
    Calls Tryd.prog 8 #[.slice a len cap] w fun e w' => ∃ ns : List Int, (∀ n ∈ ns, Utf8.valid n = true) ∧ ns.length ≤ 8 ∧ e = .returned (.string (cat ns)) ∧ Below w.heap.size w w' := by
  go_enter Tryd.func8, Tryd.ntmps8
  go_wp2_with fail
  refine (newC w a len cap hl hcode).mono ?_
  rintro e w1 ⟨rfl, ⟨h, c⟩, hb1⟩
  go_wp2_with fail
  refine (textC w1 w.heap.size a len cap 0 h c (by omega) (by omega) hl w.heap.size (Nat.le_refl _) (hcode.keep hb1)).mono ?_
  rintro e w2 ⟨ns, hv, hn, rfl, k2⟩
  have hb2 := hb1.trans (k2.below (Nat.le_refl _) hb1.size)
  go_wp2
  go_ret
  exact ⟨ns, hv, hn, rfl, hb2⟩

end Go.Proofs.YtaafgcnkedaonaaDoor
