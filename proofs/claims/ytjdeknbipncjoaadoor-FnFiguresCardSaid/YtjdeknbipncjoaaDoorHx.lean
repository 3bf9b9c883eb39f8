/- What is proved: what the program's Hex answers at every text of at most 20000 bytes: two figures for each byte, and true; and that it writes into no memory that was there. Used by the proof of FnFiguresCardSaid. -/
import Derived.Test.YtjdeknbipncjoaaDoorChecked
import Derived.WalkKit
import Derived.WalkSpells
import Derived.WalkLawsBesides
import Derived.OwnWalk
import Derived.Deep.RegionHeld3
import Derived.Deep.AppendLies
import Derived.Deep.DrawnRows
import Derived.Laws.IdiomStrings
import Derived.Lib.Slices
import Derived.Lib.Hide
import Derived.Below
import Derived.KernelRfl
namespace Go.Proofs.YtjdeknbipncjoaaDoor
namespace Hx
open Go.RowKit
attribute [local go_sem ↓] Go.wp_at_zero Go.wp_at_succ
theorem info5 : (Tryd.prog.info? 5).map (fun i => (i.zero, i.size, i.bytes)) = some (some (.int .u8 0), 1, 1) := by kernel_rfl

def fig (x : Nat) : Nat := if x < 10 then 48 + x else 87 + x
def hiB (c : UInt8) : UInt8 := UInt8.ofNat (fig (c.toNat / 16))
def loB (c : UInt8) : UInt8 := UInt8.ofNat (fig (c.toNat % 16))
def hexOf (l : List UInt8) : List UInt8 := l.flatMap fun c => [hiB c, loB c]

theorem hexOf_length (l : List UInt8) : (hexOf l).length = 2 * l.length := by
  induction l with
  | nil => rfl
  | cons c l ih => simp only [hexOf, List.flatMap_cons, List.length_append] at *; rw [ih]; simp; omega

theorem hexOf_snoc (l : List UInt8) (c : UInt8) : hexOf (l ++ [c]) = hexOf l ++ [hiB c, loB c] := by
  simp [hexOf]

theorem tab_get : ∀ x : Nat, ∀ h : x < 16, ((⟨#[48, 49, 50, 51, 52, 53, 54, 55, 56, 57, 97, 98, 99, 100, 101, 102]⟩ : ByteArray)[x]'h) = UInt8.ofNat (fig x) := by
  decide +kernel

theorem idx (x : Int) (n : Nat) (hx : x = (n : Int)) (hn : n < 16) (w : World) :
    (Instr.index 9 (.string ⟨#[48, 49, 50, 51, 52, 53, 54, 55, 56, 57, 97, 98, 99, 100, 101, 102]⟩) (.int .u8 x)).run Tryd.prog w = .ok (.int .u8 ((UInt8.ofNat (fig n)).toNat : Int)) w := by
  subst hx
  rw [run_index_string w 9 _ .u8 _ Tryd.underlying9, dif_pos ⟨by omega, by show (n : Int) < 16; omega⟩]
  have := tab_get n hn
  simp only [Int.toNat_natCast]
  rw [this]

theorem and15n : ∀ n : Nat, n < 256 → bits BinOp.and IntKind.u8 (n : Int) 15 = ((n % 16 : Nat) : Int) := by
  decide +kernel
theorem and15 (c : UInt8) : bits BinOp.and IntKind.u8 (c.toNat : Int) 15 = ((c.toNat % 16 : Nat) : Int) := and15n _ c.toNat_lt

theorem idx_hi (c : UInt8) (w : World) : (Instr.index 9 (.string ⟨#[48, 49, 50, 51, 52, 53, 54, 55, 56, 57, 97, 98, 99, 100, 101, 102]⟩) (.int .u8 ((c.toNat : Int) / 16))).run Tryd.prog w = .ok (.int .u8 ((hiB c).toNat : Int)) w :=
  idx _ (c.toNat / 16) (by omega) (by have := c.toNat_lt; omega) w
theorem idx_lo (c : UInt8) (w : World) : (Instr.index 9 (.string ⟨#[48, 49, 50, 51, 52, 53, 54, 55, 56, 57, 97, 98, 99, 100, 101, 102]⟩) (.int .u8 (bits BinOp.and IntKind.u8 (c.toNat : Int) 15))).run Tryd.prog w = .ok (.int .u8 ((loB c).toNat : Int)) w :=
  idx _ (c.toNat % 16) (and15 c) (by omega) w

theorem take_snoc (s : ByteArray) (k : Nat) (h : k < s.size) : s.data.toList.take (k + 1) = s.data.toList.take k ++ [s[k]] := by
  rw [List.take_succ_eq_append_getElem (by simpa using h)]; rfl

theorem take_all (s : ByteArray) : s.data.toList.take s.size = s.data.toList := List.take_of_length_le (by show s.data.toList.length ≤ s.data.size; rw [Array.length_toList]; exact Nat.le_refl _)
theorem hexOf_size (s : ByteArray) : (hexOf s.data.toList).length = 2 * s.size := by rw [hexOf_length, Array.length_toList]; rfl
theorem hex_step (s : ByteArray) (k : Nat) (hlt : k < s.size) {w wr w2 : World} {o : Obj} {g gg cap c0 n0 : Nat} (hg : w.heap.size ≤ g) (hnx : Below w.heap.size w wr)
    (hown2 : w2.ownsRow w.heap.size 5 1 (.slice (some ⟨gg, 0, none⟩) (2 * k + 2) cap) (2 * k + 2) (Lib.byteCells (hexOf (s.data.toList.take k)) ++ [.int .u8 ((hiB s[k]).toNat : Int), .int .u8 ((loB s[k]).toNat : Int)]))
    (hgrow : (wr.alloc o).drew.grownBy w2 (Value.slice (some ⟨g, 0, none⟩) n0 c0).ownBlock) (hat : (Value.slice (some ⟨g, 0, none⟩) n0 c0).ownBlock = some gg ∨ gg = wr.heap.size + 1) :
    w.heap.size ≤ gg ∧ w2.ownsRow w.heap.size 5 1 (.slice (some ⟨gg, 0, none⟩) (2 * (k + 1)) cap) (2 * (k + 1)) (Lib.byteCells (hexOf (s.data.toList.take (k + 1)))) ∧ Below w.heap.size w w2 := by
  have hsz := hnx.size
  refine ⟨?_, ?_, ?_⟩
  · rcases hat with h | h
    · simp [Value.ownBlock] at h; omega
    · omega
  · rw [take_snoc s k hlt, hexOf_snoc, Lib.byteCells_append]
    exact hown2
  · exact ((hnx.alloc hsz _).drew).grown hgrow (by simp; omega) (fun k' hk' => by simp [Value.ownBlock] at hk'; omega)

set_option maxHeartbeats 400000 in
theorem implHex (s : ByteArray) (w : World) (hs : s.size ≤ 20000) :
    Calls Tryd.prog 7 #[.string s] w fun e w' => e = .returned (.tuple #[.string ⟨(hexOf s.data.toList).toArray⟩, .bool true]) ∧ Below w.heap.size w w' := by
  obtain ⟨i0, hi, hz0, hz1, hz2⟩ := info_parts info5
  have h1 : ¬ (20000 : Int) < (s.size : Int) := by omega
  go_enter Tryd.func7, Tryd.ntmps7
  go_wp2_with (at_make; refine wpList_make_own _ rfl _ _ 22 rfl w.heap.size 5 i0 (.int .u8 0) 1 Tryd.underlying22 hi hz0 hz1 _ _ _ (2 * s.size) rfl rfl (by omega) (by rw [hz2]; omega) (by unfold maxLen; omega) (Nat.le_refl _) ?_)
  intro w1 hown hgrow
  go_wp2
  go_loopw [4, 15] (fun v i wr => ∃ k : Nat, k ≤ s.size ∧ i = .int .i64 k ∧ (∃ g cap, v = .slice (some ⟨g, 0, none⟩) (2 * k) cap ∧ w.heap.size ≤ g) ∧ wr.ownsRow w.heap.size 5 1 v (2 * k) (Lib.byteCells (hexOf (s.data.toList.take k))) ∧ Below w.heap.size w wr)
    (fun _ i _ => s.size - (intOf i).toNat)
  case atStart => exact ⟨0, Nat.zero_le _, rfl, ⟨_, _, rfl, Nat.le_refl _⟩, by simpa [hexOf, Lib.byteCells] using hown, (Below.refl _ _).grown hgrow (Nat.le_refl _) (by intro k hk; cases hk)⟩
  case round =>
    obtain ⟨k, hk, rfl, ⟨g, cap, rfl, hg⟩, hown1, hnx⟩ := hrel
    by_cases hlt : k < s.size
    · have hlt' : (k : Int) < (s.size : Int) := by omega
      have hk0 : (0 : Int) ≤ (k : Int) := by omega
      have hx1 := idx_hi s[k]
      have hx2 := idx_lo s[k]
      have hsz := hnx.size
      go_wp2
      go_region_held3 (fun _ => True) (exact trivial)
        ((refine step_append_lies _ (by rfl) _ _ _ (by rfl) w.heap.size 5 i0 _ 1 1 Tryd.underlying22 hi hz0 hz1 hz2 rfl (by omega) _ (2 * k) _ (by rfl) ((hown1.alloc _).drew) ⟨wr.heap.size, 0, none⟩ 2 2 [.int .u8 ((hiB s[k]).toNat : Int), .int .u8 ((loB s[k]).toNat : Int)] (by rfl) (by rfl) (World.news_of_block (cs := #[.int .u8 ((hiB s[k]).toNat : Int), .int .u8 ((loB s[k]).toNat : Int)]) (t := 5) (fr := (0, 0)) (heap_alloc_new wr _)) (by simp [Value.oneCell']) (by omega) (by unfold maxLen; omega) (by omega) (by simp; omega) (wr.heap.size + 1) (by simp) ?_; intro gg cap w2 hown2 hgrow2 hat hlt2))
      all_goals
        have R := hex_step s k hlt hg hnx hown2 hgrow2 hat
        clear hown2 hgrow2 hat hlt2 hx1 hx2 hown1
        go_wp2
        go_roundw
        case rel => exact ⟨k + 1, by omega, by go_num, ⟨gg, cap, rfl, R.1⟩, R.2.1, R.2.2⟩
        case measure => simp [intOf]; omega
    · obtain rfl : k = s.size := by omega
      rw [take_all] at hown1
      have hcv := run_convert_bytes_back (P := Tryd.prog) wr 22 9 5 ⟨g, 0, none⟩ cap (hexOf s.data.toList) Tryd.underlying22 Tryd.underlying5 Tryd.underlying9 (fun j hj => hown1.cells (g := g) rfl j _ (by simp [Lib.byteCells, hj]))
      rw [hexOf_size] at hcv
      go_wp2
      go_ret2
      exact ⟨rfl, hnx⟩
end Hx
end Go.Proofs.YtjdeknbipncjoaaDoor
