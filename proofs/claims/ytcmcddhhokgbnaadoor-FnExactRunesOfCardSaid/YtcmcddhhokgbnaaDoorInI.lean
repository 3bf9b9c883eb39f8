/- What is proved: that the laws' helpers for lists of ints tell two lists of the same ints equal (eqIntS), lay marks into a list (markIntS) and find them there again (heldIntS), and what they leave of memory. Used by the proofs of the laws on lists of ints. -/
import Derived.Test.YtcmcddhhokgbnaaDoorDr0
import Derived.WalkKit
import Derived.WalkSpells
import Derived.WalkLawsBesides
import Derived.OwnWalk
import Derived.Deep.AppendLies
import Derived.Deep.QuietTactic
import Derived.BigQuiet
import Derived.Deep.RegionHeld3
import Derived.Deep.DrawnRows
import Derived.Lib.Slices
import Derived.Lib.Hide
import Derived.Below
import Derived.KernelRfl
namespace Go.Proofs.YtcmcddhhokgbnaaDoor
open Go.RowKit
attribute [local go_sem ↓] Go.wp_at_zero Go.wp_at_succ

set_option maxHeartbeats 600000 in
theorem eqC (L : List Int) (n B1 B2 g1 g2 c1 c2 : Nat) (w : World) (hn : L.length = n) (hs : n ≤ 1048576)
    (h1 : w.ownsRow B1 3 1 (.slice (some ⟨g1, 0, none⟩) n c1) n (intC L)) (h2 : w.ownsRow B2 3 1 (.slice (some ⟨g2, 0, none⟩) n c2) n (intC L)) :
    Calls Tryd.prog 6 #[.slice (some ⟨g1, 0, none⟩) n c1, .slice (some ⟨g2, 0, none⟩) n c2] w fun e w' => e = .returned (.bool true) ∧ ∃ k, w' = w.drewN k := by
  have HN : Hid (L.length = n) := hn
  clear hn
  go_enter Tryd.func6, Tryd.ntmps6
  go_wp2
  go_loopw [5] (fun i wr => ∃ k d : Nat, k ≤ n ∧ i = .int .i64 k ∧ wr = w.drewN d) (fun i _ => n - (intOf i).toNat)
  case atStart => exact ⟨0, 0, Nat.zero_le _, rfl, rfl⟩
  case round =>
    obtain ⟨k, d, hk, rfl, rfl⟩ := hrel
    by_cases hlt : k < n
    · have hk0 : (0 : Int) ≤ (k : Int) := by omega
      have hk1 : (k : Int) < (n : Int) := by omega
      obtain ⟨x, hs1, hs2⟩ : ∃ x, w.cell? ⟨g1, k, none⟩ = some (.int .i64 x) ∧ w.cell? ⟨g2, k, none⟩ = some (.int .i64 x) := by
        have hn := HN.out
        exact ⟨_, (h1.cellAt k (by omega)).trans (intC_at L k (by omega)), (h2.cellAt k (by omega)).trans (intC_at L k (by omega))⟩
      go_wp2
      go_quiet (fail)
      go_wp2
      go_roundw
      case rel => exact ⟨k + 1, _, by omega, by go_num, rfl⟩
      case measure => simp [intOf]; omega
    · go_wp2
      go_ret
      exact ⟨rfl, d, rfl⟩

/-- The marks from k on, n of them. -/
def marks (k n : Nat) : List Value := (List.range n).map fun (i : Nat) => Value.int .i64 ((k : Int) + (i : Int))
theorem marks_length (k n : Nat) : (marks k n).length = n := by simp [marks]
theorem marks_at (k n j : Nat) (h : j < n) : (marks k n)[j]? = some (.int .i64 ((k : Int) + (j : Int))) := by simp [marks, h]
/-- The first j of a row marked. -/
def markTo (k j : Nat) (xs : List Value) : List Value := marks k j ++ xs.drop j
theorem markTo_zero (k : Nat) (xs : List Value) : markTo k 0 xs = xs := by simp [markTo, marks]
theorem markTo_all (k n : Nat) (xs : List Value) (h : xs.length = n) : markTo k n xs = marks k n := by
  rw [markTo, List.drop_of_length_le (by omega), List.append_nil]
theorem markTo_length (k j : Nat) (xs : List Value) (h : j ≤ xs.length) : (markTo k j xs).length = xs.length := by
  simp [markTo, marks_length]; omega
theorem markTo_set (k j : Nat) (xs : List Value) (h : j < xs.length) : (markTo k j xs).set j (.int .i64 ((k : Int) + (j : Int))) = markTo k (j + 1) xs := by
  unfold markTo
  rw [List.set_append_right _ _ (by rw [marks_length]; exact Nat.le_refl _), marks_length, Nat.sub_self, List.drop_eq_getElem_cons h, List.set_cons_zero]
  simp [marks, List.range_succ]

set_option maxHeartbeats 800000 in
theorem marksC (xs : List Value) (n k B g c : Nat) (w : World) (hs : n ≤ 1048576) (hk2 : k ≤ 1000)
    (h1 : w.ownsRow B 3 1 (.slice (some ⟨g, 0, none⟩) n c) n xs) (hg : B ≤ g) :
    Calls Tryd.prog 7 #[.slice (some ⟨g, 0, none⟩) n c, .int .i64 (k : Int)] w fun e w' => e = .returned (.int .i64 ((k : Int) + (n : Int))) ∧ w'.ownsRow B 3 1 (.slice (some ⟨g, 0, none⟩) n c) n (marks k n) ∧ Below B w w' := by
  have HX : Hid (xs.length = n) := by have := h1.1; show xs.length = n; omega
  go_enter Tryd.func7, Tryd.ntmps7
  go_wp2
  go_loopw [1, 5] (fun kv i wr => ∃ j : Nat, j ≤ n ∧ i = .int .i64 j ∧ kv = .int .i64 ((k : Int) + (j : Int)) ∧ wr.ownsRow B 3 1 (.slice (some ⟨g, 0, none⟩) n c) n (markTo k j xs) ∧ Below B w wr) (fun _ i _ => n - (intOf i).toNat)
  case atStart => exact ⟨0, Nat.zero_le _, rfl, by go_num, by rw [markTo_zero]; exact h1, Below.refl _ _⟩
  case round =>
    obtain ⟨j, hj, rfl, rfl, hown, hnx⟩ := hrel
    by_cases hlt : j < n
    · have hk0 : (0 : Int) ≤ (j : Int) := by omega
      have hk1 : (j : Int) < (n : Int) := by omega
      have HL : Hid ((markTo k j xs).length = n) := by have := HX.out; show _ = _; rw [markTo_length]; exact this; omega
      have HS : Hid ((markTo k j xs).set j (.int .i64 ((k : Int) + (j : Int))) = markTo k (j + 1) xs) := markTo_set _ _ _ (by have := HX.out; omega)
      obtain ⟨u, hu⟩ : ∃ u, wr.cell? ⟨g, j, none⟩ = some u := ⟨_, (hown.cellAt j (by omega)).trans (List.getElem?_eq_getElem (by have := HL.out; omega))⟩
      have hfz := hown.frozenAt j
      have hst := hown.stored j (.int .i64 ((k : Int) + (j : Int)))
      have R1 : Hid ((wr.setCell ⟨g, j, none⟩ (.int .i64 ((k : Int) + (j : Int)))).ownsRow B 3 1 (.slice (some ⟨g, 0, none⟩) n c) n (markTo k (j + 1) xs)) := by rw [← HS.out]; exact hst.1
      have R2 : Below B w (wr.setCell ⟨g, j, none⟩ (.int .i64 ((k : Int) + (j : Int)))) := hnx.setCell hg _
      clear hst hown
      go_wp2
      go_roundw
      case rel => exact ⟨j + 1, by omega, by go_num, by go_num, R1.out, R2⟩
      case measure => simp [intOf]; omega
    · obtain rfl : j = n := by omega
      rw [markTo_all _ _ _ HX.out] at hown
      go_wp2
      go_ret
      exact ⟨rfl, hown, hnx⟩

set_option maxHeartbeats 800000 in
theorem heldC (n k B g c : Nat) (w : World) (hs : n ≤ 1048576) (hk2 : k ≤ 1000)
    (h1 : w.ownsRow B 3 1 (.slice (some ⟨g, 0, none⟩) n c) n (marks k n)) :
    Calls Tryd.prog 8 #[.slice (some ⟨g, 0, none⟩) n c, .int .i64 (k : Int)] w fun e w' => e = .returned (.int .i64 ((k : Int) + (n : Int))) ∧ w = w' := by
  go_enter Tryd.func8, Tryd.ntmps8
  go_wp2
  go_loopw [1, 5] (fun kv i wr => ∃ j : Nat, j ≤ n ∧ i = .int .i64 j ∧ kv = .int .i64 ((k : Int) + (j : Int)) ∧ w = wr) (fun _ i _ => n - (intOf i).toNat)
  case atStart => exact ⟨0, Nat.zero_le _, rfl, by go_num, rfl⟩
  case round =>
    obtain ⟨j, hj, rfl, rfl, rfl⟩ := hrel
    by_cases hlt : j < n
    · have hk0 : (0 : Int) ≤ (j : Int) := by omega
      have hk1 : (j : Int) < (n : Int) := by omega
      have hc : w.cell? ⟨g, j, none⟩ = some (.int .i64 ((k : Int) + (j : Int))) := (h1.cellAt j (by omega)).trans (marks_at _ _ _ hlt)
      go_wp2
      go_roundw
      case rel => exact ⟨j + 1, by omega, by go_num, by go_num, by trivial⟩
      case measure => simp [intOf]; omega
    · obtain rfl : j = n := by omega
      go_wp2
      go_ret
      exact ⟨rfl, rfl⟩

theorem marks1 (xs : List Value) (n B g c : Nat) (w : World) (hs : n ≤ 1048576) (h1 : w.ownsRow B 3 1 (.slice (some ⟨g, 0, none⟩) n c) n xs) (hg : B ≤ g) :
    Calls Tryd.prog 7 #[.slice (some ⟨g, 0, none⟩) n c, .int .i64 1] w fun e w' => e = .returned (.int .i64 (1 + (n : Int))) ∧ w'.ownsRow B 3 1 (.slice (some ⟨g, 0, none⟩) n c) n (marks 1 n) ∧ Below B w w' :=
  marksC xs n 1 B g c w hs (by decide) h1 hg
theorem held1 (n B g c : Nat) (w : World) (hs : n ≤ 1048576) (h1 : w.ownsRow B 3 1 (.slice (some ⟨g, 0, none⟩) n c) n (marks 1 n)) :
    Calls Tryd.prog 8 #[.slice (some ⟨g, 0, none⟩) n c, .int .i64 1] w fun e w' => e = .returned (.int .i64 (1 + (n : Int))) ∧ w = w' :=
  heldC n 1 B g c w hs (by decide) h1
end Go.Proofs.YtcmcddhhokgbnaaDoor
