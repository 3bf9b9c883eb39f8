/- What is proved: what the model's Hex answers at every text of at most 20000 bytes: the same figures as the program's, and true; and that it writes into no memory that was there. Used by the proof of FnExactHexSaid. -/
import Derived.Test.YtibkfgngdbmaiaaHexA
import Derived.WalkKit
import Derived.WalkSpells
import Derived.WalkLawsBesides
import Derived.OwnWalk
import Derived.Deep.RegionHeld3
import Derived.Deep.AppendLies
import Derived.Deep.DrawnRows
import Derived.Laws.IdiomStrings
import Derived.Lib.Slices
import Derived.Lib.Hide
import Derived.Below
import Derived.KernelRfl
namespace Go.Proofs.Ytibkfgngdbmaiaa
open Go.RowKit
attribute [local go_sem ↓] Go.wp_at_zero Go.wp_at_succ

def figI (x : Int) : Int := ((UInt8.ofNat (fig x.toNat)).toNat : Int)
theorem figI_hi (c : UInt8) : figI ((c.toNat : Int) / 16) = ((hiB c).toNat : Int) := by
  unfold figI hiB; rw [show ((c.toNat : Int) / 16).toNat = c.toNat / 16 from by omega]
theorem figI_lo (c : UInt8) : figI ((c.toNat : Int) % 16) = ((loB c).toNat : Int) := by
  unfold figI loB; rw [show ((c.toNat : Int) % 16).toNat = c.toNat % 16 from by omega]
theorem wrapByte (c : UInt8) : IntKind.i64.wrap (c.toNat : Int) = (c.toNat : Int) := by
  have := c.toNat_lt; rw [IntKind.wrap_i64]; omega
theorem wrapQuo (c : UInt8) : IntKind.i64.wrap ((c.toNat : Int) / 16) = (c.toNat : Int) / 16 := by
  have := c.toNat_lt; rw [IntKind.wrap_i64]; omega
theorem wrapRem (c : UInt8) : IntKind.i64.wrap ((c.toNat : Int) % 16) = (c.toNat : Int) % 16 := by
  have := c.toNat_lt; rw [IntKind.wrap_i64]; omega
theorem wrapRem' (c : UInt8) : (c.toNat : Int).tmod 16 = (c.toNat : Int) % 16 := by
  rw [Int.tmod_eq_emod_of_nonneg (by omega)]
theorem figI_small (x : Int) (h0 : 0 ≤ x) (h1 : x < 10) : figI x = 48 + x := by
  unfold figI fig; rw [if_pos (by omega), UInt8.toNat_ofNat']; omega
theorem figI_big (x : Int) (h0 : 10 ≤ x) (h1 : x ≤ 15) : figI x = 87 + x := by
  unfold figI fig; rw [if_neg (by omega), UInt8.toNat_ofNat']; omega

set_option maxHeartbeats 400000 in
theorem figC (x : Int) (w : World) (h0 : 0 ≤ x) (h1 : x ≤ 15) :
    Calls Try.prog 18 #[.int .i64 x] w fun e w' => e = .returned (.int .u8 (figI x)) ∧ w' = w := by
  by_cases h : x < 10
  · rw [figI_small x h0 h]
    go_enter Try.func18, Try.ntmps18
    go_wp2
    go_ret
    exact ⟨by go_num, rfl⟩
  · rw [figI_big x (by omega) h1]
    go_enter Try.func18, Try.ntmps18
    go_wp2
    go_ret
    exact ⟨by go_num, rfl⟩

set_option maxHeartbeats 800000 in
theorem specHex (s : ByteArray) (w : World) (hs : s.size ≤ 20000) :
    Calls Try.prog 7 #[.string s] w fun e w' => e = .returned (.tuple #[.string ⟨(hexOf s.data.toList).toArray⟩, .bool true]) ∧ Below w.heap.size w w' := by
  obtain ⟨i0, hi, hz0, hz1, hz2⟩ := info_parts info5
  have h1 : ¬ (20000 : Int) < (s.size : Int) := by omega
  go_enter Try.func7, Try.ntmps7
  go_wp2
  go_loopw [4, 5] (fun v i wr => ∃ k : Nat, k ≤ s.size ∧ i = .int .i64 k ∧ (∃ g cap, v = .slice (some ⟨g, 0, none⟩) (2 * k) cap ∧ w.heap.size ≤ g) ∧ wr.ownsRow w.heap.size 5 1 v (2 * k) (Lib.byteCells (hexOf (s.data.toList.take k))) ∧ Below w.heap.size w wr)
    (fun _ i _ => s.size - (intOf i).toNat)
  case atStart => exact ⟨0, Nat.zero_le _, rfl, ⟨_, _, rfl, Nat.le_refl _⟩, World.ownsRow_lit w #[] 0 (Nat.le_refl _) (Nat.zero_le _) rfl, (Below.refl _ _).alloc (Nat.le_refl _) _⟩
  case round =>
    obtain ⟨k, hk, rfl, ⟨g, cap, rfl, hg⟩, hown1, hnx⟩ := hrel
    by_cases hlt : k < s.size
    · have hlt' : (k : Int) < (s.size : Int) := by omega
      have hk0 : (0 : Int) ≤ (k : Int) := by omega
      have hb := s[k].toNat_lt
      have hb1 : (s[k].toNat : Int) < 256 := by omega
      have hb0 : (0 : Int) ≤ (s[k].toNat : Int) := by omega
      have hsz := hnx.size
      have n1 : ∀ u ∈ [Value.int .u8 (figI ((s[k].toNat : Int) / 16)), .int .u8 (figI ((s[k].toNat : Int) % 16))], u.oneCell' = true := by simp [Value.oneCell']
      have n2 : 2 * k + 2 ≤ maxLen := by unfold maxLen; omega
      have n3 : (2 * k + 2) * 1 ≤ 140737488355328 := by omega
      have e1 := wrapByte s[k]
      have e2 := wrapQuo s[k]
      have e3 := wrapRem s[k]
      have e4 := wrapRem' s[k]
      go_wp2
      go_region_held3 (fun _ => True) (exact trivial)
        ((first | (go_at_call 18; refine (figC _ _ ?_ ?_).mono ?_; omega; omega; rintro e w' ⟨rfl, rfl⟩) | (refine step_append_lies _ ?_ (.tmp 16) (.tmp 29) 32 ?_ w.heap.size 5 i0 _ 1 1 Try.underlying32 hi hz0 hz1 hz2 rfl Nat.one_pos (.slice (some ⟨g, 0, none⟩) (2 * k) cap) (2 * k) _ ?_ ((hown1.alloc _).drew) ⟨wr.heap.size, 0, none⟩ 2 2 [.int .u8 (figI ((s[k].toNat : Int) / 16)), .int .u8 (figI ((s[k].toNat : Int) % 16))] ?_ rfl (World.news_of_block (cs := #[.int .u8 (figI ((s[k].toNat : Int) / 16)), .int .u8 (figI ((s[k].toNat : Int) % 16))]) (t := 5) (fr := (0, 0)) (heap_alloc_new wr _)) n1 Nat.two_pos n2 n3 ?_ (wr.heap.size + 1) ?_ ?_; rfl; rfl; rfl; rfl; (simp; omega); simp; intro gg cap w2 hown2 hgrow2 hat hlt2)))
      all_goals
        rw [figI_hi, figI_lo] at hown2
        have R := hex_step s k hlt hg hnx hown2 hgrow2 hat
        clear hown2 hgrow2 hat hlt2 hown1 n1 e1 e2 e3 e4
        go_wp2
        go_roundw
        case rel => exact ⟨k + 1, by omega, by go_num, ⟨gg, cap, rfl, R.1⟩, R.2.1, R.2.2⟩
        case measure => simp [intOf]; omega
    · obtain rfl : k = s.size := by omega
      rw [take_all] at hown1
      have hcv := run_convert_bytes_back (P := Try.prog) wr 32 9 5 ⟨g, 0, none⟩ cap (hexOf s.data.toList) Try.underlying32 Try.underlying5 Try.underlying9 (fun j hj => hown1.cells (g := g) rfl j _ (by simp [Lib.byteCells, hj]))
      rw [hexOf_size] at hcv
      go_wp2
      go_ret2
      exact ⟨rfl, hnx⟩
end Go.Proofs.Ytibkfgngdbmaiaa
