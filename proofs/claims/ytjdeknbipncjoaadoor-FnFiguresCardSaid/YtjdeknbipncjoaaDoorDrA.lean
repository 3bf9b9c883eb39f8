/- What is proved: what the model's cursor over the bytes of a draw does: each byte that it gives is in 0 .. 255, each number below n is in 0 .. n - 1, and it writes into nothing but itself. Used by the proofs of the laws that draw. -/
import Derived.Test.YtjdeknbipncjoaaDoorDr0
namespace Go.Proofs.YtjdeknbipncjoaaDoor
open Go.RowKit
attribute [local go_sem ↓] Go.wp_at_zero Go.wp_at_succ

/-- The cursor in block g: its bytes, its place, its number. -/
def Cur (w : World) (g : Nat) (a : Option Addr) (len cap : Nat) (i h : Int) : Prop := w.heap[g]? = some (.cells #[.slice a len cap, .int .i64 i, .int .i64 h] 44 (0, 0))
/-- The bytes of a draw can be read. -/
def Code (w : World) (a : Option Addr) (len B : Nat) : Prop := ∀ i, i < len → ∃ x b, a = some x ∧ x.block < B ∧ 0 ≤ b ∧ b < 256 ∧ w.cell? (x.add i) = some (.int .u8 b)
theorem addBlock (a : Addr) (i : Nat) : (a.add i).block = a.block := by unfold Addr.add; split <;> rfl
theorem Code.keep {w w' : World} {a : Option Addr} {len B : Nat} (h : Code w a len B) (hb : Below B w w') : Code w' a len B := fun i hi => by
  obtain ⟨x, b, h1, h2, h3, h4, h5⟩ := h i hi
  exact ⟨x, b, h1, h2, h3, h4, by rw [hb.cell (by rw [addBlock]; exact h2)]; exact h5⟩

theorem Cur.cell0 {w : World} {g : Nat} {a : Option Addr} {len cap : Nat} {i h : Int} (c : Cur w g a len cap i h) : w.cell? ⟨g, 0, none⟩ = some (.slice a len cap) := by
  unfold Cur at c; simp [World.cell?, c]
theorem Cur.cell1 {w : World} {g : Nat} {a : Option Addr} {len cap : Nat} {i h : Int} (c : Cur w g a len cap i h) : w.cell? ⟨g, 1, none⟩ = some (.int .i64 i) := by
  unfold Cur at c; simp [World.cell?, c]
theorem Cur.cell2 {w : World} {g : Nat} {a : Option Addr} {len cap : Nat} {i h : Int} (c : Cur w g a len cap i h) : w.cell? ⟨g, 2, none⟩ = some (.int .i64 h) := by
  unfold Cur at c; simp [World.cell?, c]
theorem Cur.frozen {w : World} {g : Nat} {a : Option Addr} {len cap : Nat} {i h : Int} (c : Cur w g a len cap i h) (k : Nat) : w.frozen? ⟨g, k, none⟩ = false := by
  unfold Cur at c; simp [World.frozen?, c]
theorem Cur.set1 {w : World} {g : Nat} {a : Option Addr} {len cap : Nat} {i h : Int} (c : Cur w g a len cap i h) (v : Int) : Cur (w.setCell ⟨g, 1, none⟩ (.int .i64 v)) g a len cap v h := by
  unfold Cur at *; simp [World.setCell, Array.getElem?_modify, c]
theorem Cur.set2 {w : World} {g : Nat} {a : Option Addr} {len cap : Nat} {i h : Int} (c : Cur w g a len cap i h) (v : Int) : Cur (w.setCell ⟨g, 2, none⟩ (.int .i64 v)) g a len cap i v := by
  unfold Cur at *; simp [World.setCell, Array.getElem?_modify, c]

theorem and_bound (X : Int) (m : Nat) (hm : m < 9223372036854775808) : 0 ≤ bits .and .i64 X (m : Int) ∧ bits .and .i64 X (m : Int) ≤ m := by
  have h2 : (BitVec.ofInt 64 (m : Int)).toNat = m := by
    rw [BitVec.ofInt_natCast, BitVec.toNat_ofNat]; exact Nat.mod_eq_of_lt (by omega)
  have e : bits .and .i64 X (m : Int) = IntKind.i64.wrap ((BitVec.ofInt 64 X &&& BitVec.ofInt 64 (m : Int)).toNat : Int) := rfl
  rw [e, BitVec.toNat_and, h2, IntKind.wrap_i64]
  have hx : (BitVec.ofInt 64 X).toNat &&& m ≤ m := Nat.and_le_right
  omega

/-- Of what was there nothing but block g has turned. -/
structure Kept (g : Nat) (w w' : World) : Prop where
  os : w'.os = w.os
  tape : w'.tape = w.tape
  output : w'.output = w.output
  size : w.heap.size ≤ w'.heap.size
  block : ∀ k, k < w.heap.size → k ≠ g → w'.heap[k]? = w.heap[k]?
theorem Kept.refl (g : Nat) (w : World) : Kept g w w := ⟨rfl, rfl, rfl, Nat.le_refl _, fun _ _ _ => rfl⟩
theorem Kept.trans {g : Nat} {a b c : World} (h : Kept g a b) (k : Kept g b c) : Kept g a c :=
  ⟨k.os.trans h.os, k.tape.trans h.tape, k.output.trans h.output, Nat.le_trans h.size k.size, fun i hi hg => (k.block i (Nat.lt_of_lt_of_le hi h.size) hg).trans (h.block i hi hg)⟩
theorem Kept.setCell (g j : Nat) (w : World) (v : Value) : Kept g w (w.setCell ⟨g, j, none⟩ v) :=
  ⟨rfl, rfl, rfl, by simp [World.setCell], fun k _ hk => Below.heap_setCell _ _ _ _ hk⟩
theorem Kept.drewN (g n : Nat) (w : World) : Kept g w (w.drewN n) := ⟨rfl, rfl, rfl, Nat.le_refl _, fun _ _ _ => rfl⟩
theorem Kept.of (g : Nat) {w w' : World} (h : Below w.heap.size w w') : Kept g w w' := ⟨h.os, h.tape, h.output, h.size, fun k hk _ => h.block k hk⟩
theorem Kept.below {g B : Nat} {w w' : World} (h : Kept g w w') (hB : B ≤ g) (hs : B ≤ w.heap.size) : Below B w w' := ⟨h.os, h.tape, h.output, h.size, fun k hk => h.block k (by omega) (by omega)⟩
theorem Cur.lt {w : World} {g : Nat} {a : Option Addr} {len cap : Nat} {i h : Int} (c : Cur w g a len cap i h) : g < w.heap.size := (Array.getElem?_eq_some_iff.1 c).1
theorem Cur.keep {w w' : World} {g : Nat} {a : Option Addr} {len cap : Nat} {i h : Int} (c : Cur w g a len cap i h) (hb : Below w.heap.size w w') : Cur w' g a len cap i h := (hb.block g c.lt).trans c

/-- What one byte leaves. -/
def ByteLeft (w : World) (g : Nat) (a : Option Addr) (len cap : Nat) (e : Ending) (w' : World) : Prop :=
  ∃ x i h : Int, e = .returned (.int .i64 x) ∧ 0 ≤ x ∧ x ≤ 255 ∧ 0 ≤ i ∧ i ≤ len ∧ Cur w' g a len cap i h ∧ Kept g w w'

set_option maxHeartbeats 800000 in
theorem byteC (w : World) (g : Nat) (a : Option Addr) (len cap : Nat) (i h : Int) (c : Cur w g a len cap i h) (hi0 : 0 ≤ i) (hi1 : i ≤ len) (hl : len ≤ 1048576) (B : Nat) (hB : B ≤ g) (hcode : Code w a len B) :
    Calls Tryd.prog 12 #[.pointer (some ⟨g, 0, none⟩)] w (ByteLeft w g a len cap) := by
  have c0 := c.cell0
  have c1 := c.cell1
  have c2 := c.cell2
  have f2 := c.frozen 2
  obtain ⟨h1, hh⟩ : ∃ h1, wrap64 (wrap64 (h * 6364136223846793005) + 1442695040888963407) = h1 := ⟨_, rfl⟩
  obtain ⟨X, hX⟩ : ∃ X, bits .and .i64 (bits .xor .i64 (h1 / 8589934592) (h1 / 35184372088832)) 255 = X := ⟨_, rfl⟩
  have bX : 0 ≤ X ∧ X ≤ 255 := by rw [← hX]; exact and_bound _ 255 (by decide)
  have e2 := c.set2 h1
  have d0 := e2.cell0
  have d1 := e2.cell1
  have d2 := e2.cell2
  have o2 := Kept.setCell g 2 w (.int .i64 h1)
  by_cases hlt : i < len
  · obtain ⟨k, rfl⟩ : ∃ k : Nat, i = k := ⟨i.toNat, by omega⟩
    obtain ⟨x, b, rfl, hbl, hb0, hb1, hcell⟩ := (hcode.keep (o2.below hB (Nat.le_of_lt (Nat.lt_of_le_of_lt hB c.lt)))) k (by omega)
    obtain ⟨Y, hY⟩ : ∃ Y, bits .and .i64 (X + b) 255 = Y := ⟨_, rfl⟩
    have bY : 0 ≤ Y ∧ Y ≤ 255 := by rw [← hY]; exact and_bound _ 255 (by decide)
    have f1 := e2.frozen 1
    clear hcode hbl
    go_enter Tryd.func12, Tryd.ntmps12
    go_wp2
    go_quiet (fail)
    go_wp2
    go_quiet (fail)
    go_wp2
    go_quiet (fail)
    go_wp2
    go_ret
    exact ⟨Y, (k : Int) + 1, h1, rfl, bY.1, bY.2, by omega, by omega, Cur.set1 (w := (w.setCell ⟨g, 2, none⟩ (.int .i64 h1)).drewN _) e2 _, o2.trans ((Kept.drewN _ _ _).trans (Kept.setCell _ _ _ _))⟩
  · go_enter Tryd.func12, Tryd.ntmps12
    go_wp2
    go_quiet (fail)
    go_wp2
    go_quiet (fail)
    go_wp2
    go_ret
    exact ⟨X, i, h1, rfl, bX.1, bX.2, hi0, hi1, e2, o2.trans ((Kept.drewN _ _ _).trans (Kept.drewN _ _ _))⟩

/-- What one draw below n leaves. -/
def DrawLeft (w : World) (g : Nat) (a : Option Addr) (len cap : Nat) (n : Int) (e : Ending) (w' : World) : Prop :=
  ∃ x i h : Int, e = .returned (.int .i64 x) ∧ 0 ≤ x ∧ x < n ∧ 0 ≤ i ∧ i ≤ len ∧ Cur w' g a len cap i h ∧ Kept g w w'

set_option maxHeartbeats 800000 in
theorem belowC (w : World) (g : Nat) (a : Option Addr) (len cap : Nat) (i h : Int) (c : Cur w g a len cap i h) (hi0 : 0 ≤ i) (hi1 : i ≤ len) (hl : len ≤ 1048576) (B : Nat) (hB : B ≤ g) (hcode : Code w a len B) (n : Int) (hn : 0 < n) (hn2 : n ≤ 256) :
    Calls Tryd.prog 13 #[.pointer (some ⟨g, 0, none⟩), .int .i64 n] w (DrawLeft w g a len cap n) := by
  have hn0 : ¬ n = 0 := by omega
  go_enter Tryd.func13, Tryd.ntmps13
  go_wp2_with fail
  refine (byteC w g a len cap i h c hi0 hi1 hl B hB hcode).mono ?_
  rintro e w1 ⟨x, i1, h1, rfl, x0, x1, j0, j1, c1, k1⟩
  have em : x.tmod n = x % n := by rw [Int.tmod_eq_emod_of_nonneg x0]
  have m0 : 0 ≤ x % n := Int.emod_nonneg _ hn0
  have m1 : x % n < n := Int.emod_lt_of_pos _ hn
  go_wp2
  go_ret
  exact ⟨x % n, i1, h1, by go_num, m0, m1, j0, j1, c1, k1⟩

set_option maxHeartbeats 1600000 in
theorem bigC (w : World) (g : Nat) (a : Option Addr) (len cap : Nat) (i h : Int) (c : Cur w g a len cap i h) (hi0 : 0 ≤ i) (hi1 : i ≤ len) (hl : len ≤ 1048576) (B : Nat) (hB : B ≤ g) (hcode : Code w a len B) :
    Calls Tryd.prog 13 #[.pointer (some ⟨g, 0, none⟩), .int .i64 10000] w (DrawLeft w g a len cap 10000) := by
  have hs := Nat.le_of_lt (Nat.lt_of_le_of_lt hB c.lt)
  go_enter Tryd.func13, Tryd.ntmps13
  go_wp2_with fail
  refine (byteC w g a len cap i h c hi0 hi1 hl B hB hcode).mono ?_
  rintro e w1 ⟨x, i1, h1, rfl, x0, x1, j0, j1, c1, k1⟩
  go_wp2_with fail
  refine (byteC w1 g a len cap i1 h1 c1 j0 j1 hl B hB (hcode.keep (k1.below hB hs))).mono ?_
  rintro e w2 ⟨y, i2, h2, rfl, y0, y1, l0, l1, c2, k2⟩
  have k12 := k1.trans k2
  go_wp2_with fail
  refine (byteC w2 g a len cap i2 h2 c2 l0 l1 hl B hB (hcode.keep (k12.below hB hs))).mono ?_
  rintro e w3 ⟨z, i3, h3, rfl, z0, z1, m0, m1, c3, k3⟩
  have k13 := k12.trans k3
  go_wp2_with fail
  refine (byteC w3 g a len cap i3 h3 c3 m0 m1 hl B hB (hcode.keep (k13.below hB hs))).mono ?_
  rintro e w4 ⟨t, i4, h4, rfl, t0, t1, n0, n1, c4, k4⟩
  have k14 := k13.trans k4
  go_wp2
  go_ret
  exact ⟨(x * 16777216 + y * 65536 + z * 256 + t) % 10000, i4, h4, by go_num, by omega, by omega, n0, n1, c4, k14⟩

set_option maxHeartbeats 800000 in
theorem newC (w : World) (a : Option Addr) (len cap : Nat) (hl : len ≤ 1048576) (hcode : Code w a len w.heap.size) :
    Calls Tryd.prog 11 #[.slice a len cap] w fun e w' => e = .returned (.pointer (some ⟨w.heap.size, 0, none⟩)) ∧ (∃ h, Cur w' w.heap.size a len cap 0 h) ∧ Below w.heap.size w w' := by
  go_enter Tryd.func11, Tryd.ntmps11
  go_wp2
  go_loopw [3, 4] (fun hv i wr => ∃ (k : Nat) (H : Int), k ≤ len ∧ i = .int .i64 k ∧ hv = .int .i64 H ∧ 0 ≤ H ∧ H ≤ 1073741823 ∧ w = wr) (fun _ i _ => len - (intOf i).toNat)
  case atStart => exact ⟨0, 94701 + len, Nat.zero_le _, rfl, by go_num, by omega, by omega, rfl⟩
  case round =>
    obtain ⟨k, H, hk, rfl, rfl, H0, H1, rfl⟩ := hrel
    by_cases hlt : k < len
    · have hlt' : (k : Int) < (len : Int) := by omega
      by_cases h4 : k < 4000
      · have h4' : (k : Int) < 4000 := by omega
        have hk0 : (0 : Int) ≤ (k : Int) := by omega
        obtain ⟨x, b, rfl, hbl, hb0, hb1, hcell⟩ := hcode k hlt
        obtain ⟨Y, hY⟩ : ∃ Y, bits .and .i64 (H * 131 + b + 7) 1073741823 = Y := ⟨_, rfl⟩
        have bY : 0 ≤ Y ∧ Y ≤ 1073741823 := by rw [← hY]; exact and_bound _ 1073741823 (by decide)
        go_wp2
        go_roundw
        case rel => exact ⟨k + 1, Y, by omega, by go_num, rfl, bY.1, bY.2, by trivial⟩
        case measure => simp [intOf]; omega
      · have h4' : ¬ (k : Int) < 4000 := by omega
        go_wp2
        go_ret
        exact ⟨rfl, ⟨H, heap_alloc_new w _⟩, (Below.refl _ _).alloc (Nat.le_refl _) _⟩
    · have hlt' : ¬ (k : Int) < (len : Int) := by omega
      go_wp2
      go_ret
      exact ⟨rfl, ⟨H, heap_alloc_new w _⟩, (Below.refl _ _).alloc (Nat.le_refl _) _⟩

theorem own_kept {w w' : World} {B e size n g : Nat} {v : Value} {xs : List Value} {cs : Array Value} {fz : Nat × Nat} (h : w.ownsRow B e size v n xs) (hk : Kept g w w') (hg : w.heap[g]? = some (.cells cs 44 fz)) (he : e ≠ 44) : w'.ownsRow B e size v n xs := by
  refine ⟨h.1, ?_⟩
  rcases h.2 with h0 | ⟨g2, cap, cur, hv, hB, hg2, h1, h2, h3, h4⟩
  · exact .inl h0
  · refine .inr ⟨g2, cap, cur, hv, hB, ?_, h1, h2, h3, h4⟩
    have hne : g2 ≠ g := fun e2 => by rw [e2, hg] at hg2; simp at hg2; exact he hg2.2.1.symm
    rw [hk.block g2 (Array.getElem?_eq_some_iff.1 hg2).1 hne]; exact hg2
theorem own_ne {w : World} {B e size n g g2 m c : Nat} {xs : List Value} {cs : Array Value} {fz : Nat × Nat} (h : w.ownsRow B e size (.slice (some ⟨g2, 0, none⟩) m c) n xs) (hg : w.heap[g]? = some (.cells cs 44 fz)) (he : e ≠ 44) : g2 ≠ g := by
  intro e2
  rcases h.2 with h0 | ⟨g', cap, cur, hv, hB, hg2, _⟩
  · simp at h0
  · simp at hv
    rw [← hv.1, e2, hg] at hg2; simp at hg2; exact he hg2.2.1.symm

end Go.Proofs.YtjdeknbipncjoaaDoor
