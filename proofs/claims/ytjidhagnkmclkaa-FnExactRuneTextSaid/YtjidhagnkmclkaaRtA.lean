/- What is proved: what the model's RuneText and the program's RuneText answer at every int: the bytes of UTF-8 of a scalar, and nothing for any other number; and that they write into no memory that was there. Used by the proof of FnExactRuneTextSaid. -/
import Derived.Test.YtjidhagnkmclkaaChecked
import Derived.WalkKit
import Derived.WalkSpells
import Derived.WalkLawsBesides
import Derived.OwnWalk
import Derived.Laws.Runes
import Derived.Laws.IdiomStrings
import Derived.Lib.Slices
import Derived.Lib.Hide
import Derived.Below
import Derived.KernelRfl
namespace Go.Proofs.Ytjidhagnkmclkaa
open Go.RowKit

/-- The text of a scalar; nothing for another number. -/
def rt (n : Int) : ByteArray := if Utf8.valid n then Utf8.encode n else ⟨#[]⟩

theorem inC (x a b : Int) (w : World) : Calls Try.prog 8 #[.int .i64 x, .int .i64 a, .int .i64 b] w fun e w' => e = .returned (.bool (decide (a ≤ x ∧ x ≤ b))) ∧ w = w' := by
  by_cases h1 : a ≤ x
  · by_cases h2 : x ≤ b
    · rw [decide_eq_true ⟨h1, h2⟩]
      go_enter Try.func8, Try.ntmps8
      go_wp2
      go_ret
      exact ⟨rfl, rfl⟩
    · rw [decide_eq_false (by omega)]
      go_enter Try.func8, Try.ntmps8
      go_wp2
      go_ret
      exact ⟨rfl, rfl⟩
  · rw [decide_eq_false (by omega)]
    go_enter Try.func8, Try.ntmps8
    go_wp2
    go_ret
    exact ⟨rfl, rfl⟩

theorem scalarS (x : Int) (w : World) : Calls Try.prog 6 #[.int .i64 x] w fun e w' => e = .returned (.bool (Utf8.valid x)) ∧ w = w' := by
  rw [validRune_eq, validRune]
  by_cases h1 : 0 ≤ x ∧ x ≤ 1114111
  · by_cases h2 : 55296 ≤ x ∧ x ≤ 57343
    · rw [decide_eq_false (by omega)]
      go_enter Try.func6, Try.ntmps6
      go_wp2_with (go_at_call 8; refine (inC _ _ _ _).mono ?_; rintro e w1 ⟨rfl, rfl⟩)
      go_ret
      exact ⟨rfl, rfl⟩
    · rw [decide_eq_true (by omega)]
      go_enter Try.func6, Try.ntmps6
      go_wp2_with (go_at_call 8; refine (inC _ _ _ _).mono ?_; rintro e w1 ⟨rfl, rfl⟩)
      go_ret
      exact ⟨rfl, rfl⟩
  · rw [decide_eq_false (by omega)]
    go_enter Try.func6, Try.ntmps6
    go_wp2_with (go_at_call 8; refine (inC _ _ _ _).mono ?_; rintro e w1 ⟨rfl, rfl⟩)
    go_ret
    exact ⟨rfl, rfl⟩

theorem scalarI (x : Int) (w : World) : Calls Try.prog 7 #[.int .i64 x] w fun e w' => e = .returned (.bool (Utf8.valid x)) ∧ w = w' := by
  rw [validRune_eq, validRune]
  by_cases h1 : 0 ≤ x
  · by_cases h2 : x ≤ 1114111
    · by_cases h3 : x < 55296
      · rw [decide_eq_true (by omega)]
        go_enter Try.func7, Try.ntmps7
        go_wp2
        go_ret
        exact ⟨rfl, rfl⟩
      · by_cases h4 : 57343 < x
        · rw [decide_eq_true (by omega)]
          go_enter Try.func7, Try.ntmps7
          go_wp2
          go_ret
          exact ⟨rfl, rfl⟩
        · rw [decide_eq_false (by omega)]
          go_enter Try.func7, Try.ntmps7
          go_wp2
          go_ret
          exact ⟨rfl, rfl⟩
    · rw [decide_eq_false (by omega)]
      go_enter Try.func7, Try.ntmps7
      go_wp2
      go_ret
      exact ⟨rfl, rfl⟩
  · rw [decide_eq_false (by omega)]
    go_enter Try.func7, Try.ntmps7
    go_wp2
    go_ret
    exact ⟨rfl, rfl⟩

theorem valid_bounds {x : Int} (h : Utf8.valid x = true) : 0 ≤ x ∧ x ≤ 1114111 := by
  rw [validRune_eq, validRune] at h; simp at h; omega

theorem rtI (x : Int) (w : World) : Calls Try.prog 5 #[.int .i64 x] w fun e w' => e = .returned (.string (rt x)) ∧ w = w' := by
  cases hv : Utf8.valid x with
  | true =>
    have hb := valid_bounds hv
    have e1 : IntKind.i32.wrap x = x := by rw [IntKind.wrap_i32]; omega
    rw [show rt x = Utf8.encode x from by simp [rt, hv]]
    go_enter Try.func5, Try.ntmps5
    go_wp2_with (go_at_call 7; refine (scalarI _ _).mono ?_; rintro e w1 ⟨rfl, rfl⟩; rw [hv])
    go_ret
    exact ⟨rfl, rfl⟩
  | false =>
    rw [show rt x = ⟨#[]⟩ from by simp [rt, hv]]
    go_enter Try.func5, Try.ntmps5
    go_wp2_with (go_at_call 7; refine (scalarI _ _).mono ?_; rintro e w1 ⟨rfl, rfl⟩; rw [hv])
    go_ret
    exact ⟨rfl, rfl⟩

theorem cell_new (w : World) (cs : Array Value) (t : TypeId) (j : Nat) (v : Value) (hj : cs[j]? = some v) :
    (w.alloc (.cells cs t)).cell? ((⟨w.heap.size, 0, none⟩ : Addr).add j) = some v := by
  have e : (⟨w.heap.size, 0, none⟩ : Addr).add j = ⟨w.heap.size, j, none⟩ := by simp [Addr.add]; omega
  rw [e, World.cell?_alloc_mark, hj]

theorem conv_new (w : World) (zs : List Int) (hz : ∀ z ∈ zs, 0 ≤ z ∧ z < 256) :
    (convert 24 9 (.slice (some ⟨w.heap.size, 0, none⟩) zs.length zs.length)).run Try.prog (w.alloc (.cells (zs.map (Value.int .u8)).toArray 5)) = .ok (.string ⟨(zs.map fun z => UInt8.ofNat z.toNat).toArray⟩) (w.alloc (.cells (zs.map (Value.int .u8)).toArray 5)) := by
  have h := run_convert_bytes_back (P := Try.prog) (w.alloc (.cells (zs.map (Value.int .u8)).toArray 5)) 24 9 5 ⟨w.heap.size, 0, none⟩ zs.length (zs.map fun z => UInt8.ofNat z.toNat) Try.underlying24 Try.underlying5 Try.underlying9 (fun j hj => by
    have hj' : j < zs.length := by simpa using hj
    refine cell_new w _ 5 j _ ?_
    have hb := hz zs[j] (List.getElem_mem hj')
    have e : (((zs[j].toNat) % 256 : Nat) : Int) = zs[j] := by omega
    simp [hj', UInt8.toNat_ofNat', e])
  simpa using h

theorem encode_one {x : Int} (hv : Utf8.valid x = true) (h1 : x < 128) : rt x = ⟨#[UInt8.ofNat x.toNat]⟩ := by
  have hb := valid_bounds hv
  have c1 : x.toNat < 128 := by omega
  simp [rt, hv, Utf8.encode, c1]
theorem encode_two {x : Int} (hv : Utf8.valid x = true) (h0 : 128 ≤ x) (h1 : x < 2048) : rt x = ⟨#[UInt8.ofNat (192 + x / 64).toNat, UInt8.ofNat (128 + x % 64).toNat]⟩ := by
  have c0 : ¬ x.toNat < 128 := by omega
  have c1 : x.toNat < 2048 := by omega
  simp only [rt, hv, Utf8.encode, c0, c1, if_true, if_false]
  rw [show (192 + x / 64).toNat = 192 + x.toNat / 64 from by omega, show (128 + x % 64).toNat = 128 + x.toNat % 64 from by omega]
theorem encode_three {x : Int} (hv : Utf8.valid x = true) (h0 : 2048 ≤ x) (h1 : x < 65536) : rt x = ⟨#[UInt8.ofNat (224 + x / 4096).toNat, UInt8.ofNat (128 + x / 64 % 64).toNat, UInt8.ofNat (128 + x % 64).toNat]⟩ := by
  have c0 : ¬ x.toNat < 128 := by omega
  have c1 : ¬ x.toNat < 2048 := by omega
  have c2 : x.toNat < 65536 := by omega
  simp only [rt, hv, Utf8.encode, c0, c1, c2, if_true, if_false]
  rw [show (224 + x / 4096).toNat = 224 + x.toNat / 4096 from by omega, show (128 + x / 64 % 64).toNat = 128 + x.toNat / 64 % 64 from by omega, show (128 + x % 64).toNat = 128 + x.toNat % 64 from by omega]
theorem encode_four {x : Int} (hv : Utf8.valid x = true) (h0 : 65536 ≤ x) : rt x = ⟨#[UInt8.ofNat (240 + x / 262144).toNat, UInt8.ofNat (128 + x / 4096 % 64).toNat, UInt8.ofNat (128 + x / 64 % 64).toNat, UInt8.ofNat (128 + x % 64).toNat]⟩ := by
  have c0 : ¬ x.toNat < 128 := by omega
  have c1 : ¬ x.toNat < 2048 := by omega
  have c2 : ¬ x.toNat < 65536 := by omega
  simp only [rt, hv, Utf8.encode, c0, c1, c2, if_true, if_false]
  rw [show (240 + x / 262144).toNat = 240 + x.toNat / 262144 from by omega, show (128 + x / 4096 % 64).toNat = 128 + x.toNat / 4096 % 64 from by omega, show (128 + x / 64 % 64).toNat = 128 + x.toNat / 64 % 64 from by omega, show (128 + x % 64).toNat = 128 + x.toNat % 64 from by omega]

set_option maxHeartbeats 800000 in
theorem rtS (x : Int) (w : World) : Calls Try.prog 4 #[.int .i64 x] w fun e w' => e = .returned (.string (rt x)) ∧ Below w.heap.size w w' := by
  cases hv : Utf8.valid x with
  | false =>
    rw [show rt x = ⟨#[]⟩ from by simp [rt, hv]]
    go_enter Try.func4, Try.ntmps4
    go_wp2_with (go_at_call 6; refine (scalarS _ _).mono ?_; rintro e w1 ⟨rfl, rfl⟩; rw [hv])
    go_ret
    exact ⟨rfl, Below.refl _ _⟩
  | true =>
    have hb := valid_bounds hv
    by_cases h1 : x < 128
    · rw [encode_one hv h1]
      have hcv := conv_new w [x] (by simp; omega)
      simp only [List.length_cons, List.length_nil, Nat.zero_add, List.map_cons, List.map_nil] at hcv
      go_enter Try.func4, Try.ntmps4
      go_wp2_with (go_at_call 6; refine (scalarS _ _).mono ?_; rintro e w1 ⟨rfl, rfl⟩; rw [hv])
      go_ret
      exact ⟨rfl, (Below.refl _ _).alloc (Nat.le_refl _) _⟩
    · by_cases h2 : x < 2048
      · rw [encode_two hv (by omega) h2]
        have hcv := conv_new w [192 + x / 64, 128 + x % 64] (by simp; omega)
        simp only [List.length_cons, List.length_nil, Nat.zero_add, Nat.reduceAdd, List.map_cons, List.map_nil] at hcv
        go_enter Try.func4, Try.ntmps4
        go_wp2_with (go_at_call 6; refine (scalarS _ _).mono ?_; rintro e w1 ⟨rfl, rfl⟩; rw [hv])
        go_ret
        exact ⟨rfl, (Below.refl _ _).alloc (Nat.le_refl _) _⟩
      · by_cases h3 : x < 65536
        · rw [encode_three hv (by omega) h3]
          have hcv := conv_new w [224 + x / 4096, 128 + x / 64 % 64, 128 + x % 64] (by simp; omega)
          simp only [List.length_cons, List.length_nil, Nat.zero_add, Nat.reduceAdd, List.map_cons, List.map_nil] at hcv
          go_enter Try.func4, Try.ntmps4
          go_wp2_with (go_at_call 6; refine (scalarS _ _).mono ?_; rintro e w1 ⟨rfl, rfl⟩; rw [hv])
          go_ret
          exact ⟨rfl, (Below.refl _ _).alloc (Nat.le_refl _) _⟩
        · rw [encode_four hv (by omega)]
          have hcv := conv_new w [240 + x / 262144, 128 + x / 4096 % 64, 128 + x / 64 % 64, 128 + x % 64] (by simp; omega)
          simp only [List.length_cons, List.length_nil, Nat.zero_add, Nat.reduceAdd, List.map_cons, List.map_nil] at hcv
          go_enter Try.func4, Try.ntmps4
          go_wp2_with (go_at_call 6; refine (scalarS _ _).mono ?_; rintro e w1 ⟨rfl, rfl⟩; rw [hv])
          go_ret
          exact ⟨rfl, (Below.refl _ _).alloc (Nat.le_refl _) _⟩
end Go.Proofs.Ytjidhagnkmclkaa
