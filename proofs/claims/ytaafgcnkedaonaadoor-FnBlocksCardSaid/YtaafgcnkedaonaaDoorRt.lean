/- What is proved: what the model's RuneText and the program's RuneText answer at every int: the bytes of UTF-8 of a scalar, and nothing for any other number; and that they write into no memory that was there. Used by the proofs of FnExactRuneAtCardSaid, FnExactTextOkCardSaid, FnExactRunesOfCardSaid and FnRunesCardSaid. -/
import Derived.Test.YtaafgcnkedaonaaDoorChecked
import Derived.Test.YtaafgcnkedaonaaDoorU
import Derived.WalkKit
import Derived.WalkSpells
import Derived.WalkLawsBesides
import Derived.OwnWalk
import Derived.Laws.Runes
import Derived.Laws.IdiomStrings
import Derived.Lib.Slices
import Derived.Lib.Hide
import Derived.Below
import Derived.KernelRfl
namespace Go.Proofs.YtaafgcnkedaonaaDoor
open Go.RowKit

theorem inC (x a b : Int) (w : World) : Calls Tryd.prog 71 #[.int .i64 x, .int .i64 a, .int .i64 b] w fun e w' => e = .returned (.bool (decide (a ≤ x ∧ x ≤ b))) ∧ w = w' := by
  by_cases h1 : a ≤ x
  · by_cases h2 : x ≤ b
    · rw [decide_eq_true ⟨h1, h2⟩]
      go_enter Tryd.func71, Tryd.ntmps71
      go_wp2
      go_ret
      exact ⟨rfl, rfl⟩
    · rw [decide_eq_false (by omega)]
      go_enter Tryd.func71, Tryd.ntmps71
      go_wp2
      go_ret
      exact ⟨rfl, rfl⟩
  · rw [decide_eq_false (by omega)]
    go_enter Tryd.func71, Tryd.ntmps71
    go_wp2
    go_ret
    exact ⟨rfl, rfl⟩

theorem scalarS (x : Int) (w : World) : Calls Tryd.prog 61 #[.int .i64 x] w fun e w' => e = .returned (.bool (Utf8.valid x)) ∧ w = w' := by
  rw [validRune_eq, validRune]
  by_cases h1 : 0 ≤ x ∧ x ≤ 1114111
  · by_cases h2 : 55296 ≤ x ∧ x ≤ 57343
    · rw [decide_eq_false (by omega)]
      go_enter Tryd.func61, Tryd.ntmps61
      go_wp2_with (go_at_call 71; refine (inC _ _ _ _).mono ?_; rintro e w1 ⟨rfl, rfl⟩)
      go_ret
      exact ⟨rfl, rfl⟩
    · rw [decide_eq_true (by omega)]
      go_enter Tryd.func61, Tryd.ntmps61
      go_wp2_with (go_at_call 71; refine (inC _ _ _ _).mono ?_; rintro e w1 ⟨rfl, rfl⟩)
      go_ret
      exact ⟨rfl, rfl⟩
  · rw [decide_eq_false (by omega)]
    go_enter Tryd.func61, Tryd.ntmps61
    go_wp2_with (go_at_call 71; refine (inC _ _ _ _).mono ?_; rintro e w1 ⟨rfl, rfl⟩)
    go_ret
    exact ⟨rfl, rfl⟩

theorem scalarI (x : Int) (w : World) : Calls Tryd.prog 27 #[.int .i64 x] w fun e w' => e = .returned (.bool (Utf8.valid x)) ∧ w = w' := by
  rw [validRune_eq, validRune]
  by_cases h1 : 0 ≤ x
  · by_cases h2 : x ≤ 1114111
    · by_cases h3 : x < 55296
      · rw [decide_eq_true (by omega)]
        go_enter Tryd.func27, Tryd.ntmps27
        go_wp2
        go_ret
        exact ⟨rfl, rfl⟩
      · by_cases h4 : 57343 < x
        · rw [decide_eq_true (by omega)]
          go_enter Tryd.func27, Tryd.ntmps27
          go_wp2
          go_ret
          exact ⟨rfl, rfl⟩
        · rw [decide_eq_false (by omega)]
          go_enter Tryd.func27, Tryd.ntmps27
          go_wp2
          go_ret
          exact ⟨rfl, rfl⟩
    · rw [decide_eq_false (by omega)]
      go_enter Tryd.func27, Tryd.ntmps27
      go_wp2
      go_ret
      exact ⟨rfl, rfl⟩
  · rw [decide_eq_false (by omega)]
    go_enter Tryd.func27, Tryd.ntmps27
    go_wp2
    go_ret
    exact ⟨rfl, rfl⟩

theorem rtI (x : Int) (w : World) : Calls Tryd.prog 12 #[.int .i64 x] w fun e w' => e = .returned (.string (rt x)) ∧ w = w' := by
  cases hv : Utf8.valid x with
  | true =>
    have hb := valid_bounds hv
    have e1 : IntKind.i32.wrap x = x := by rw [IntKind.wrap_i32]; omega
    rw [show rt x = Utf8.encode x from by simp [rt, hv]]
    go_enter Tryd.func12, Tryd.ntmps12
    go_wp2_with (go_at_call 27; refine (scalarI _ _).mono ?_; rintro e w1 ⟨rfl, rfl⟩; rw [hv])
    go_ret
    exact ⟨rfl, rfl⟩
  | false =>
    rw [show rt x = ⟨#[]⟩ from by simp [rt, hv]]
    go_enter Tryd.func12, Tryd.ntmps12
    go_wp2_with (go_at_call 27; refine (scalarI _ _).mono ?_; rintro e w1 ⟨rfl, rfl⟩; rw [hv])
    go_ret
    exact ⟨rfl, rfl⟩

theorem cell_new (w : World) (cs : Array Value) (t : TypeId) (j : Nat) (v : Value) (hj : cs[j]? = some v) :
    (w.alloc (.cells cs t)).cell? ((⟨w.heap.size, 0, none⟩ : Addr).add j) = some v := by
  have e : (⟨w.heap.size, 0, none⟩ : Addr).add j = ⟨w.heap.size, j, none⟩ := by simp [Addr.add]; omega
  rw [e, World.cell?_alloc_mark, hj]

theorem conv_new (w : World) (zs : List Int) (hz : ∀ z ∈ zs, 0 ≤ z ∧ z < 256) :
    (convert 22 9 (.slice (some ⟨w.heap.size, 0, none⟩) zs.length zs.length)).run Tryd.prog (w.alloc (.cells (zs.map (Value.int .u8)).toArray 5)) = .ok (.string ⟨(zs.map fun z => UInt8.ofNat z.toNat).toArray⟩) (w.alloc (.cells (zs.map (Value.int .u8)).toArray 5)) := by
  have h := run_convert_bytes_back (P := Tryd.prog) (w.alloc (.cells (zs.map (Value.int .u8)).toArray 5)) 22 9 5 ⟨w.heap.size, 0, none⟩ zs.length (zs.map fun z => UInt8.ofNat z.toNat) Tryd.underlying22 Tryd.underlying5 Tryd.underlying9 (fun j hj => by
    have hj' : j < zs.length := by simpa using hj
    refine cell_new w _ 5 j _ ?_
    have hb := hz zs[j] (List.getElem_mem hj')
    have e : (((zs[j].toNat) % 256 : Nat) : Int) = zs[j] := by omega
    simp [hj', UInt8.toNat_ofNat', e])
  simpa using h

set_option maxRecDepth 100000 in
set_option maxHeartbeats 800000 in
theorem rtS (x : Int) (w : World) : Calls Tryd.prog 43 #[.int .i64 x] w fun e w' => e = .returned (.string (rt x)) ∧ Below w.heap.size w w' := by
  cases hv : Utf8.valid x with
  | false =>
    rw [show rt x = ⟨#[]⟩ from by simp [rt, hv]]
    go_enter Tryd.func43, Tryd.ntmps43
    go_wp2_with (go_at_call 61; refine (scalarS _ _).mono ?_; rintro e w1 ⟨rfl, rfl⟩; rw [hv])
    go_ret
    exact ⟨rfl, Below.refl _ _⟩
  | true =>
    have hb := valid_bounds hv
    by_cases h1 : x < 128
    · rw [rt_one hv h1]
      have hcv := conv_new w [x] (by simp; omega)
      simp only [List.length_cons, List.length_nil, Nat.zero_add, List.map_cons, List.map_nil] at hcv
      go_enter Tryd.func43, Tryd.ntmps43
      go_wp2_with (go_at_call 61; refine (scalarS _ _).mono ?_; rintro e w1 ⟨rfl, rfl⟩; rw [hv])
      go_ret
      exact ⟨rfl, (Below.refl _ _).alloc (Nat.le_refl _) _⟩
    · by_cases h2 : x < 2048
      · rw [rt_two hv (by omega) h2]
        have hcv := conv_new w [192 + x / 64, 128 + x % 64] (by simp; omega)
        simp only [List.length_cons, List.length_nil, Nat.zero_add, Nat.reduceAdd, List.map_cons, List.map_nil] at hcv
        go_enter Tryd.func43, Tryd.ntmps43
        go_wp2_with (go_at_call 61; refine (scalarS _ _).mono ?_; rintro e w1 ⟨rfl, rfl⟩; rw [hv])
        go_ret
        exact ⟨rfl, (Below.refl _ _).alloc (Nat.le_refl _) _⟩
      · by_cases h3 : x < 65536
        · rw [rt_three hv (by omega) h3]
          have hcv := conv_new w [224 + x / 4096, 128 + x / 64 % 64, 128 + x % 64] (by simp; omega)
          simp only [List.length_cons, List.length_nil, Nat.zero_add, Nat.reduceAdd, List.map_cons, List.map_nil] at hcv
          go_enter Tryd.func43, Tryd.ntmps43
          go_wp2_with (go_at_call 61; refine (scalarS _ _).mono ?_; rintro e w1 ⟨rfl, rfl⟩; rw [hv])
          go_ret
          exact ⟨rfl, (Below.refl _ _).alloc (Nat.le_refl _) _⟩
        · rw [rt_four hv (by omega)]
          have hcv := conv_new w [240 + x / 262144, 128 + x / 4096 % 64, 128 + x / 64 % 64, 128 + x % 64] (by simp; omega)
          simp only [List.length_cons, List.length_nil, Nat.zero_add, Nat.reduceAdd, List.map_cons, List.map_nil] at hcv
          go_enter Tryd.func43, Tryd.ntmps43
          go_wp2_with (go_at_call 61; refine (scalarS _ _).mono ?_; rintro e w1 ⟨rfl, rfl⟩; rw [hv])
          go_ret
          exact ⟨rfl, (Below.refl _ _).alloc (Nat.le_refl _) _⟩
end Go.Proofs.YtaafgcnkedaonaaDoor
