/- What is proved: what the laws' helpers that count a value answer: what is left, or -1. -/
import Derived.Test.YtngfhncdmlpjiaaVa
import Derived.WalkSpells
import Derived.WalkLawsBesides
import Derived.OwnWalk
import Derived.Deep.AppendLies
import Derived.Deep.QuietTactic
import Derived.BigQuiet
import Derived.Laws.IdiomStrings
import Derived.Lib.Slices
import Derived.Lib.Hide
import Derived.Deep.RegionHeld3
import Derived.Deep.DrawnRows
namespace Go.Proofs.Ytngfhncdmlpjiaa
namespace Va
open Go.RowKit
attribute [local go_sem ↓] Go.wp_at_zero Go.wp_at_succ

/-- What is left of l when s is taken. -/
def left (l s : Nat) : Int := if s ≤ l then (l : Int) - s else -1

theorem szN {m : Nat} {nm : Nat → ByteArray} {c : Value} (l : Nat) (hl : l ≤ 1048576) (w : World) (h : Nam w m nm c) :
    Calls Try.prog 16 #[c, .int .i64 l] w fun e w' => e = .returned (.int .i64 (left l (sznm m nm))) ∧ w' = w := by
  obtain ⟨A, cap, rfl, hm, hc⟩ := h
  unfold maxLen at hm
  have HC : Hid (∀ j, j < m → ∃ b o, A = some ⟨b, o, none⟩ ∧ w.cell? ⟨b, o + j, none⟩ = some (.string (nm j)) ∧ (nm j).size ≤ maxLen) := hc
  clear hc
  obtain ⟨R, hR⟩ : ∃ R, left l (sznm m nm) = R := ⟨_, rfl⟩
  rw [hR]
  have HR : Hid (left l (sznm m nm) = R) := hR
  clear hR
  by_cases h0 : (l : Int) - m < 0
  · go_enter Try.func16, Try.ntmps16
    go_wp2
    go_ret
    have := HR.out
    unfold left sznm at this
    rw [if_neg (by omega)] at this
    subst this; exact ⟨rfl, rfl⟩
  · go_enter Try.func16, Try.ntmps16
    go_wp2
    go_loopw [1, 5] (fun x i wr => ∃ k : Nat, k ≤ m ∧ i = .int .i64 k ∧ m + sumTo (fun j => (nm j).size) k ≤ l ∧ x = .int .i64 ((l : Int) - (m + sumTo (fun j => (nm j).size) k : Nat)) ∧ wr = w) (fun _ i _ => m - (intOf i).toNat)
    case atStart => exact ⟨0, Nat.zero_le _, rfl, by simp only [sumTo]; omega, by simp [sumTo], rfl⟩
    case round =>
      obtain ⟨k, hk, rfl, hle, rfl, rfl⟩ := hrel
      obtain ⟨T, hT⟩ : ∃ T, sumTo (fun j => (nm j).size) k = T := ⟨_, rfl⟩
      rw [hT] at hle
      rw [hT]
      have HT : Hid (sumTo (fun j => (nm j).size) k = T) := hT
      clear hT
      by_cases hlt : k < m
      · have hk0 : (0 : Int) ≤ (k : Int) := by omega
        have hk1 : (k : Int) < (m : Int) := by omega
        obtain ⟨b, o, rfl, hcell, hsz⟩ := HC.out k hlt
        unfold maxLen at hsz
        have hs2 : sumTo (fun j => (nm j).size) (k + 1) = T + (nm k).size := by rw [sumTo, HT.out]
        have HS : Hid (sumTo (fun j => (nm j).size) (k + 1) = T + (nm k).size) := hs2
        clear hs2
        by_cases h1 : (l : Int) - ((m + T : Nat) : Int) - ((nm k).size : Int) < 0
        · go_wp2
          go_ret
          have := HR.out
          have h2 := sumTo_le (fun j => (nm j).size) (i := k + 1) (n := m) hlt
          rw [HS.out] at h2
          unfold left sznm at this
          rw [if_neg (by omega)] at this
          subst this; exact ⟨rfl, rfl⟩
        · go_wp2
          go_roundw
          case rel => exact ⟨k + 1, by omega, by go_num, by rw [HS.out]; omega, by rw [HS.out]; go_num, by trivial⟩
          case measure => simp [intOf]; omega
      · go_wp2
        go_ret
        obtain rfl : k = m := by omega
        have := HR.out
        unfold left sznm at this
        rw [HT.out, if_pos (by omega)] at this
        subst this; exact ⟨rfl, rfl⟩

/-- A value in a box of its own, behind a call that writes nothing old. -/
theorem box_kept {w w1 : World} {c0 c1 c2 c3 : Value} {t : TypeId} (hb : Below (w.alloc (Obj.cells #[c0, c1, c2, c3] t)).heap.size (w.alloc (Obj.cells #[c0, c1, c2, c3] t)) w1) :
    w1.cell? ⟨w.heap.size, 0, none⟩ = some c0 ∧ w1.cell? ⟨w.heap.size, 1, none⟩ = some c1 ∧ w1.cell? ⟨w.heap.size, 2, none⟩ = some c2 ∧ w1.cell? ⟨w.heap.size, 3, none⟩ = some c3 := by
  have h : w1.heap[w.heap.size]? = some (Obj.cells #[c0, c1, c2, c3] t) := by
    rw [hb.block w.heap.size (by simp)]; exact heap_alloc_new w _
  simp [World.cell?, h]

/-- The contract of one value. -/
def SzOne (v : V) : Prop := ∀ (w : World) (l : Nat) (d0 d1 d2 d3 : Value), l ≤ 1048576 → At w v d0 d1 d2 d3 →
  Calls Try.prog 5 #[.agg #[d0, d1, d2, d3], .int .i64 l] w fun e w' => e = .returned (.int .i64 (left l (sz v))) ∧ Below w.heap.size w w'

theorem szI {n : Nat} {it : Nat → V} (hit : ∀ i, i < n → SzOne (it i)) {c : Value} (l : Nat) (hl : l ≤ 1048576) (w : World) (h : Its w n it c) :
    Calls Try.prog 15 #[c, .int .i64 l] w fun e w' => e = .returned (.int .i64 (left l (szs n it))) ∧ Below w.heap.size w w' := by
  have HI := h
  obtain ⟨A, cap, rfl, hm, -⟩ := h
  unfold maxLen at hm
  obtain ⟨R, hR⟩ : ∃ R, left l (szs n it) = R := ⟨_, rfl⟩
  rw [hR]
  have HR : Hid (left l (szs n it) = R) := hR
  clear hR
  by_cases h0 : (l : Int) - n < 0
  · go_enter Try.func15, Try.ntmps15
    go_wp2
    go_ret
    have := HR.out
    unfold left szs at this
    rw [if_neg (by omega)] at this
    subst this; exact ⟨rfl, Below.refl _ _⟩
  · go_enter Try.func15, Try.ntmps15
    go_wp2
    go_loopw [1, 5] (fun x i wr => ∃ k : Nat, k ≤ n ∧ i = .int .i64 k ∧ n + sumTo (fun j => sz (it j)) k ≤ l ∧ x = .int .i64 ((l : Int) - (n + sumTo (fun j => sz (it j)) k : Nat)) ∧ Below w.heap.size w wr) (fun _ i _ => n - (intOf i).toNat)
    case atStart => exact ⟨0, Nat.zero_le _, rfl, by simp only [sumTo]; omega, by simp [sumTo], Below.refl _ _⟩
    case round =>
      obtain ⟨k, hk, rfl, hle, rfl, hbel⟩ := hrel
      obtain ⟨T, hT⟩ : ∃ T, sumTo (fun j => sz (it j)) k = T := ⟨_, rfl⟩
      rw [hT] at hle
      rw [hT]
      have HT : Hid (sumTo (fun j => sz (it j)) k = T) := hT
      clear hT
      by_cases hlt : k < n
      · have hk0 : (0 : Int) ≤ (k : Int) := by omega
        have hk1 : (k : Int) < (n : Int) := by omega
        obtain ⟨A', cap', e1, -, hc⟩ := HI.below hbel
        obtain ⟨b, o, d0, d1, d2, d3, e2, hf, hat⟩ := hc k hlt
        simp only [Value.slice.injEq] at e1
        obtain ⟨e3, -, e4⟩ := e1
        subst e3 e4
        subst e2
        clear hc
        obtain ⟨f0, f1, f2, f3⟩ := hf
        have hs2 : sumTo (fun j => sz (it j)) (k + 1) = T + sz (it k) := by rw [sumTo, HT.out]
        have HS : Hid (sumTo (fun j => sz (it j)) (k + 1) = T + sz (it k)) := hs2
        clear hs2
        obtain ⟨L, hL⟩ : ∃ L : Nat, (l : Int) - ((n + T : Nat) : Int) = (L : Int) := ⟨l - (n + T), by omega⟩
        have cc := hit k hlt wr L d0 d1 d2 d3 (by omega) hat
        rw [hL]
        have HL : Hid ((l : Int) - ((n + T : Nat) : Int) = (L : Int)) := hL
        clear hL
        by_cases h1 : sz (it k) ≤ L
        · obtain ⟨Z, hZ⟩ : ∃ Z : Nat, (L : Int) - (sz (it k) : Int) = (Z : Int) := ⟨L - sz (it k), by omega⟩
          rw [show left L (sz (it k)) = (Z : Int) from by rw [left, if_pos h1, hZ]] at cc
          have HZ : Hid ((L : Int) - (sz (it k) : Int) = (Z : Int)) := hZ
          clear hZ
          go_wp2_with fail
          refine cc.mono ?_
          rintro e w1 ⟨rfl, hb1⟩
          have hz0 : ¬ (Z : Int) < 0 := by omega
          go_wp2
          go_roundw
          case rel => 
            have := HZ.out
            have := HL.out
            exact ⟨k + 1, by omega, by go_num, by rw [HS.out]; omega, by rw [HS.out]; congr 1; omega, below_trans hbel hb1⟩
          case measure => simp [intOf]; omega
        · rw [show left L (sz (it k)) = -1 from by rw [left, if_neg h1]] at cc
          go_wp2_with fail
          refine cc.mono ?_
          rintro e w1 ⟨rfl, hb1⟩
          go_wp2
          go_ret
          have := HR.out
          have := HL.out
          have h2 := sumTo_le (fun j => sz (it j)) (i := k + 1) (n := n) hlt
          rw [HS.out] at h2
          have h3 := HR.out
          unfold left szs at h3
          rw [if_neg (by omega)] at h3
          subst h3; exact ⟨rfl, below_trans hbel hb1⟩
      · go_wp2
        go_ret
        obtain rfl : k = n := by omega
        have := HR.out
        unfold left szs at this
        rw [HT.out, if_pos (by omega)] at this
        subst this; exact ⟨rfl, hbel⟩

theorem szV : ∀ v : V, SzOne v
  | .no => fun _ _ _ _ _ _ _ h => h.elim
  | .mk k t n it m nm => by
    intro w l d0 d1 d2 d3 hl h
    obtain ⟨rfl, rfl, ht, hI, hN⟩ := At_mk.1 h
    have hit : ∀ i, i < n → SzOne (it i) := fun i _ => szV (it i)
    unfold maxLen at ht
    obtain ⟨R, hR⟩ : ∃ R, left l (sz (.mk k t n it m nm)) = R := ⟨_, rfl⟩
    rw [hR]
    have HR : Hid (left l (sz (.mk k t n it m nm)) = R) := hR
    clear hR
    clear h
    by_cases h0 : (l : Int) - t.size < 0
    · go_enter Try.func5, Try.ntmps5
      go_wp2
      go_ret
      have h3 := HR.out
      rw [sz_mk] at h3
      unfold left at h3
      rw [if_neg (by omega)] at h3
      subst h3; exact ⟨rfl, below_alloc _ _⟩
    · obtain ⟨L, hL⟩ : ∃ L : Nat, (l : Int) - (t.size : Int) = (L : Int) := ⟨l - t.size, by omega⟩
      go_enter Try.func5, Try.ntmps5
      have HL : Hid ((l : Int) - (t.size : Int) = (L : Int)) := hL
      have hLl : (L : Int) ≤ 1048576 := by omega
      have hLn : ¬ (L : Int) < 0 := by omega
      go_wp2_with fail
      clear hL
      have ba := below_alloc w (Obj.cells #[Value.int IntKind.i64 k, Value.string t, d2, d3] 25)
      have cI := szI hit L (by omega) _ (hI.below ba)
      by_cases h1 : szs n it ≤ L
      · obtain ⟨Z, hZ⟩ : ∃ Z : Nat, (L : Int) - (szs n it : Int) = (Z : Int) := ⟨L - szs n it, by omega⟩
        rw [show left L (szs n it) = (Z : Int) from by rw [left, if_pos h1, hZ]] at cI
        have HZ : Hid ((L : Int) - (szs n it : Int) = (Z : Int)) := hZ
        clear hZ
        refine cI.mono ?_
        rintro e w1 ⟨rfl, hb1⟩
        obtain ⟨q0, q1, q2, q3⟩ := box_kept hb1
        have hz0 : ¬ (Z : Int) < 0 := by omega
        go_wp2_with fail
        have cN := szN Z (by have := HZ.out; omega) w1 (hN.below (below_trans ba hb1))
        refine cN.mono ?_
        rintro e w2 ⟨rfl, rfl⟩
        have h4 := HR.out
        rw [sz_mk] at h4
        have := HZ.out
        have := HL.out
        by_cases h2 : sznm m nm ≤ Z
        · obtain ⟨Y, hY⟩ : ∃ Y : Nat, (Z : Int) - (sznm m nm : Int) = (Y : Int) := ⟨Z - sznm m nm, by omega⟩
          rw [show left Z (sznm m nm) = (Y : Int) from by rw [left, if_pos h2, hY]]
          unfold left at h4
          rw [if_pos (by omega)] at h4
          obtain rfl : R = (Y : Int) := by omega
          clear h4 hY
          have hy0 : ¬ (Y : Int) < 0 := by omega
          go_wp2
          go_ret
          exact ⟨rfl, below_trans ba hb1⟩
        · rw [show left Z (sznm m nm) = -1 from by rw [left, if_neg h2]]
          unfold left at h4
          rw [if_neg (by omega)] at h4
          subst h4
          go_wp2
          go_ret
          exact ⟨rfl, below_trans ba hb1⟩
      · rw [show left L (szs n it) = -1 from by rw [left, if_neg h1]] at cI
        refine cI.mono ?_
        rintro e w1 ⟨rfl, hb1⟩
        go_wp2
        go_ret
        have h4 := HR.out
        have := HL.out
        rw [sz_mk] at h4
        unfold left at h4
        rw [if_neg (by omega)] at h4
        subst h4
        exact ⟨rfl, below_trans ba hb1⟩
end Va
end Go.Proofs.Ytngfhncdmlpjiaa
