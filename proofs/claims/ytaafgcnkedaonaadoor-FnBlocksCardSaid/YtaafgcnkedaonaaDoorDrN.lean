/- What is proved: what the model's DrawName gives at every draw of at most a million bytes: one of thirteen names; and that it writes into no memory that was there. Used by the proofs of the laws that draw. -/
import Derived.Test.YtaafgcnkedaonaaDoorDrT
namespace Go.Proofs.YtaafgcnkedaonaaDoor
open Go.RowKit

/-- The thirteen names. -/
def names : List ByteArray := [⟨#[97]⟩, ⟨#[98]⟩, ⟨#[110, 97, 109, 101]⟩, ⟨#[105, 100]⟩, ⟨#[85, 115, 101, 114]⟩, ⟨#[80, 111, 115, 116]⟩, ⟨#[78, 111, 100, 101]⟩, ⟨#[111, 110]⟩, ⟨#[116, 121, 112, 101]⟩, ⟨#[120, 49]⟩, ⟨#[95, 121]⟩, ⟨#[82, 69, 68]⟩, ⟨#[113, 117, 101, 114, 121]⟩]

def NameLeft (w : World) (g : Nat) (a : Option Addr) (len cap : Nat) (e : Ending) (w' : World) : Prop :=
  ∃ (x : ByteArray) (i h : Int), e = .returned (.string x) ∧ x ∈ names ∧ 0 ≤ i ∧ i ≤ len ∧ Cur w' g a len cap i h ∧ Kept g w w'

set_option maxHeartbeats 800000 in
theorem nameC (w : World) (g : Nat) (a : Option Addr) (len cap : Nat) (i h : Int) (c : Cur w g a len cap i h) (hi0 : 0 ≤ i) (hi1 : i ≤ len) (hl : len ≤ 1048576) (B : Nat) (hB : B ≤ g) (hcode : Code w a len B) :
    Calls Tryd.prog 29 #[.pointer (some ⟨g, 0, none⟩)] w (NameLeft w g a len cap) := by
  have hs := Nat.le_of_lt (Nat.lt_of_le_of_lt hB c.lt)
  have hb : Below w.heap.size w (w.alloc (.cells (strC names).toArray 9)) := (Below.refl _ _).alloc (Nat.le_refl _) _
  have c1 := c.keep hb
  have hcode1 := hcode.keep (hb.mono hs)
  have ho : (w.alloc (.cells (strC names).toArray 9)).ownsRow w.heap.size 9 1 (.slice (some ⟨w.heap.size, 0, none⟩) 13 13) 13 (strC names) := World.ownsRow_lit w (strC names).toArray 13 (Nat.le_refl _) (by unfold maxLen; decide) rfl
  have CP := pickS (w.alloc (.cells (strC names).toArray 9)) g a len cap i h c1 hi0 hi1 hl B hB hcode1 names 13 w.heap.size w.heap.size 13 rfl (by decide) (by decide) ho
  have K0 := Kept.of g hb
  clear ho c1 hcode1 hb
  go_enter Tryd.func29, Tryd.ntmps29
  go_wp2_with fail
  refine CP.mono ?_
  rintro e w1 ⟨x, i1, h1, rfl, xm, j0, j1, c2, k1⟩
  clear CP
  have HM := Lib.hid xm
  clear xm
  go_wp2
  go_ret
  exact ⟨x, i1, h1, rfl, HM.out, j0, j1, c2, K0.trans k1⟩

set_option maxHeartbeats 800000 in
theorem drawNameC (w : World) (a : Option Addr) (len cap : Nat) (hl : len ≤ 1048576) (hcode : Code w a len w.heap.size) :
    Calls Tryd.prog 14 #[.slice a len cap] w fun e w' => ∃ x : ByteArray, x ∈ names ∧ e = .returned (.string x) ∧ Below w.heap.size w w' := by
  go_enter Tryd.func14, Tryd.ntmps14
  go_wp2_with fail
  refine (newC w a len cap hl hcode).mono ?_
  rintro e w1 ⟨rfl, ⟨h, c⟩, hb1⟩
  go_wp2_with fail
  refine (nameC w1 w.heap.size a len cap 0 h c (by omega) (by omega) hl w.heap.size (Nat.le_refl _) (hcode.keep hb1)).mono ?_
  rintro e w2 ⟨x, i2, h2, rfl, xm, _, _, _, k2⟩
  have hb2 := hb1.trans (k2.below (Nat.le_refl _) hb1.size)
  have HM := Lib.hid xm
  clear xm
  go_wp2
  go_ret
  exact ⟨x, HM.out, rfl, hb2⟩
end Go.Proofs.YtaafgcnkedaonaaDoor
