/- What is proved: what the laws' own helpers for lists of texts do: the text that a number is marked with (markText), that two lists of the same texts are told equal (eqStringS), that marks are laid into a list (markStringS) and found there again (heldStringS), and what they leave of memory. -/
import Derived.Test.YtjlabdnjdokpnaaRTxA
namespace Go.Proofs.YtjlabdnjdokpnaaR
namespace Tx
open Go.RowKit
attribute [local go_sem ↓] Go.wp_at_zero Go.wp_at_succ


/-- The figures of a number, behind which 'acc' stands. -/
def digs : Nat → Nat → List UInt8 → List UInt8
  | 0, _, acc => acc
  | f + 1, k, acc => if k = 0 then acc else digs f (k / 10) (UInt8.ofNat (48 + k % 10) :: acc)
def markL (k : Nat) : List UInt8 := 109 :: digs 20 k []

def fig (m : Nat) : UInt8 := UInt8.ofNat (48 + m % 10)
theorem fig_int (m : Nat) : ((fig m).toNat : Int) = 48 + (m : Int) % 10 := by
  unfold fig; rw [UInt8.toNat_ofNat']; omega
theorem digs_zero (f : Nat) (acc : List UInt8) : digs f 0 acc = acc := by cases f <;> simp [digs]
theorem digs_step (f m : Nat) (acc : List UInt8) (h : m ≠ 0) : digs (f + 1) m acc = digs f (m / 10) (fig m :: acc) := by rw [digs, if_neg h]; rfl
theorem cat_str (c : UInt8) (acc : List UInt8) : (({ data := #[c] } : ByteArray) ++ { data := acc.toArray }) = { data := (c :: acc).toArray } := by
  apply ByteArray.ext; simp
theorem mark_end {k : Nat} {acc : List UInt8} (h : digs 20 k [] = acc) : Ending.returned (.string (({ data := #[109] } : ByteArray) ++ { data := acc.toArray })) = .returned (.string ⟨(markL k).toArray⟩) := by
  rw [cat_str, markL, h]
theorem conv_one (w : World) (x : Int) (c : UInt8) (h : (c.toNat : Int) = x) :
    (convert 50 9 (.slice (some ⟨w.heap.size, 0, none⟩) 1 1)).run Try.prog (w.alloc (.cells #[.int .u8 x] 5)) = .ok (.string ⟨#[c]⟩) (w.alloc (.cells #[.int .u8 x] 5)) := by
  subst h
  have := run_convert_bytes_back (P := Try.prog) (w.alloc (.cells #[.int .u8 (c.toNat : Int)] 5)) 50 9 5 ⟨w.heap.size, 0, none⟩ 1 [c] Try.underlying50 Try.underlying5 Try.underlying9 (fun j hj => by
    obtain rfl : j = 0 := by simp at hj; omega
    simp [Addr.add])
  exact this

set_option maxHeartbeats 600000 in
set_option maxRecDepth 100000 in
theorem markC (k : Nat) (w : World) (h0 : 1 ≤ k) (h1 : k ≤ 9000000) :
    Calls Try.prog 29 #[.int .i64 (k : Int)] w fun e w' => e = .returned (.string ⟨(markL k).toArray⟩) ∧ Below w.heap.size w w' := by
  have hk : ¬ (k : Int) ≤ 0 := by omega
  go_enter Try.func29, Try.ntmps29
  go_wp2
  go_loopw [0, 3] (fun kv ov wr => ∃ (m f : Nat) (acc : List UInt8), m ≤ 9000000 ∧ kv = .int .i64 (m : Int) ∧ ov = .string ⟨acc.toArray⟩ ∧ acc.length + f ≤ 20 ∧ Hid (m < 10 ^ f) ∧ Below w.heap.size w wr ∧ Hid (digs f m acc = digs 20 k []))
    (fun kv _ _ => (intOf kv).toNat)
  case atStart => exact ⟨k, 20, [], h1, rfl, rfl, by simp, by show k < 10 ^ 20; omega, Below.refl _ _, rfl⟩
  case round =>
    obtain ⟨m, f, acc, hm, rfl, rfl, hf, HM, hnx, HD⟩ := hrel
    by_cases hp : m = 0
    · subst hp
      have HR : Hid (digs 20 k [] = acc) := by have := HD.out; rw [digs_zero] at this; exact this.symm
      go_wp2
      go_ret
      exact ⟨mark_end HR.out, hnx⟩
    · have hp' : (0 : Int) < (m : Int) := by omega
      have hsz := hnx.size
      have hcv := conv_one wr _ _ (fig_int m)
      obtain ⟨g, rfl⟩ : ∃ g, f = g + 1 := by
        cases f with
        | zero => have := HM.out; simp at this; omega
        | succ g => exact ⟨g, rfl⟩
      have HR : Hid (digs g (m / 10) (fig m :: acc) = digs 20 k []) := by have := HD.out; rw [digs_step _ _ _ hp] at this; exact this
      have HN : Hid (m / 10 < 10 ^ g) := by have := HM.out; rw [Nat.pow_succ] at this; show m / 10 < 10 ^ g; omega
      go_wp2
      go_roundw
      case rel => exact ⟨m / 10, g, fig m :: acc, by omega, by go_num, by rw [cat_str], by simp; omega, HN, hnx.alloc hsz _, HR⟩
      case measure => simp [intOf]; omega

set_option maxHeartbeats 600000 in
theorem eqC (L : List (List UInt8)) (n B1 B2 g1 g2 c1 c2 : Nat) (w : World) (hn : L.length = n) (hs : n ≤ 2097152)
    (h1 : w.ownsRow B1 9 1 (.slice (some ⟨g1, 0, none⟩) n c1) n (strC L)) (h2 : w.ownsRow B2 9 1 (.slice (some ⟨g2, 0, none⟩) n c2) n (strC L)) :
    Calls Try.prog 15 #[.slice (some ⟨g1, 0, none⟩) n c1, .slice (some ⟨g2, 0, none⟩) n c2] w fun e w' => e = .returned (.bool true) ∧ ∃ k, w' = w.drewN k := by
  have HN : Hid (L.length = n) := hn
  clear hn
  go_enter Try.func15, Try.ntmps15
  go_wp2
  go_loopw [5] (fun i wr => ∃ k d : Nat, k ≤ n ∧ i = .int .i64 k ∧ wr = w.drewN d) (fun i _ => n - (intOf i).toNat)
  case atStart => exact ⟨0, 0, Nat.zero_le _, rfl, rfl⟩
  case round =>
    obtain ⟨k, d, hk, rfl, rfl⟩ := hrel
    by_cases hlt : k < n
    · have hk0 : (0 : Int) ≤ (k : Int) := by omega
      have hk1 : (k : Int) < (n : Int) := by omega
      obtain ⟨s, hs1, hs2⟩ : ∃ s, w.cell? ⟨g1, k, none⟩ = some (.string s) ∧ w.cell? ⟨g2, k, none⟩ = some (.string s) := by
        have hn := HN.out
        exact ⟨_, (h1.cellAt k (by omega)).trans (strC_at L k (by omega)), (h2.cellAt k (by omega)).trans (strC_at L k (by omega))⟩
      go_wp2
      go_quiet (fail)
      go_wp2
      go_roundw
      case rel => exact ⟨k + 1, _, by omega, by go_num, rfl⟩
      case measure => simp [intOf]; omega
    · go_wp2
      go_ret
      exact ⟨rfl, d, rfl⟩

/-- The marks from k on, n of them. -/
def marks (k n : Nat) : List Value := (List.range n).map fun i => Value.string ⟨(markL (k + i)).toArray⟩
theorem marks_length (k n : Nat) : (marks k n).length = n := by simp [marks]
theorem marks_at (k n j : Nat) (h : j < n) : (marks k n)[j]? = some (.string ⟨(markL (k + j)).toArray⟩) := by simp [marks, h]
/-- The first j of a row marked. -/
def markTo (k j : Nat) (xs : List Value) : List Value := marks k j ++ xs.drop j
theorem markTo_zero (k : Nat) (xs : List Value) : markTo k 0 xs = xs := by simp [markTo, marks]
theorem markTo_all (k n : Nat) (xs : List Value) (h : xs.length = n) : markTo k n xs = marks k n := by
  rw [markTo, List.drop_of_length_le (by omega), List.append_nil]
theorem markTo_length (k j : Nat) (xs : List Value) (h : j ≤ xs.length) : (markTo k j xs).length = xs.length := by
  simp [markTo, marks_length]; omega
theorem markTo_set (k j : Nat) (xs : List Value) (h : j < xs.length) : (markTo k j xs).set j (.string ⟨(markL (k + j)).toArray⟩) = markTo k (j + 1) xs := by
  unfold markTo
  rw [List.set_append_right _ _ (by rw [marks_length]; exact Nat.le_refl _), marks_length, Nat.sub_self, List.drop_eq_getElem_cons h, List.set_cons_zero]
  simp [marks, List.range_succ]

set_option maxHeartbeats 800000 in
theorem marksC (xs : List Value) (n k B g c : Nat) (w : World) (hs : n ≤ 2097152) (hk : 1 ≤ k) (hk2 : k ≤ 1000)
    (h1 : w.ownsRow B 9 1 (.slice (some ⟨g, 0, none⟩) n c) n xs) (hB : B ≤ w.heap.size) (hg : B ≤ g) :
    Calls Try.prog 17 #[.slice (some ⟨g, 0, none⟩) n c, .int .i64 (k : Int)] w fun e w' => e = .returned (.int .i64 ((k : Int) + (n : Int))) ∧ w'.ownsRow B 9 1 (.slice (some ⟨g, 0, none⟩) n c) n (marks k n) ∧ Below B w w' := by
  have HX : Hid (xs.length = n) := by have := h1.1; show xs.length = n; omega
  go_enter Try.func17, Try.ntmps17
  go_wp2
  go_loopw [1, 5] (fun kv i wr => ∃ j : Nat, j ≤ n ∧ i = .int .i64 j ∧ kv = .int .i64 ((k : Int) + (j : Int)) ∧ wr.ownsRow B 9 1 (.slice (some ⟨g, 0, none⟩) n c) n (markTo k j xs) ∧ Below B w wr) (fun _ i _ => n - (intOf i).toNat)
  case atStart => exact ⟨0, Nat.zero_le _, rfl, by go_num, by rw [markTo_zero]; exact h1, Below.refl _ _⟩
  case round =>
    obtain ⟨j, hj, rfl, rfl, hown, hnx⟩ := hrel
    by_cases hlt : j < n
    · have hk0 : (0 : Int) ≤ (j : Int) := by omega
      have hk1 : (j : Int) < (n : Int) := by omega
      have hsz := hnx.size
      have HL : Hid ((markTo k j xs).length = n) := by have := HX.out; show _ = _; rw [markTo_length]; exact this; omega
      have HS : Hid ((markTo k j xs).set j (.string ⟨(markL (k + j)).toArray⟩) = markTo k (j + 1) xs) := markTo_set _ _ _ (by have := HX.out; omega)
      go_wp2_with fail
      rw [show (k : Int) + (j : Int) = ((k + j : Nat) : Int) from by omega]
      refine (markC (k + j) _ (by omega) (by omega)).mono ?_
      rintro e w1 ⟨rfl, hb1⟩
      have hown1 := own_below hown hb1
      obtain ⟨u, hu⟩ : ∃ u, w1.cell? ⟨g, j, none⟩ = some u := ⟨_, (hown1.cellAt j (by omega)).trans (List.getElem?_eq_getElem (by have := HL.out; omega))⟩
      have hfz := hown1.frozenAt j
      have hst := hown1.stored j (.string ⟨(markL (k + j)).toArray⟩)
      have R1 : Hid ((w1.setCell ⟨g, j, none⟩ (.string ⟨(markL (k + j)).toArray⟩)).ownsRow B 9 1 (.slice (some ⟨g, 0, none⟩) n c) n (markTo k (j + 1) xs)) := by rw [← HS.out]; exact hst.1
      have R2 : Below B w (w1.setCell ⟨g, j, none⟩ (.string ⟨(markL (k + j)).toArray⟩)) := (hnx.trans (hb1.mono (by omega))).setCell hg _
      clear hst hown1 hown
      go_wp2
      go_roundw
      case rel => exact ⟨j + 1, by omega, by go_num, by go_num, R1.out, R2⟩
      case measure => simp [intOf]; omega
    · obtain rfl : j = n := by omega
      rw [markTo_all _ _ _ HX.out] at hown
      go_wp2
      go_ret
      exact ⟨rfl, hown, hnx⟩

theorem markCI (x : Int) (m : Nat) (hx : x = (m : Int)) (w : World) (h0 : 1 ≤ m) (h1 : m ≤ 9000000) :
    Calls Try.prog 29 #[.int .i64 x] w fun e w' => e = .returned (.string ⟨(markL m).toArray⟩) ∧ Below w.heap.size w w' := by subst hx; exact markC m w h0 h1

set_option maxHeartbeats 800000 in
theorem heldC (n k B g c : Nat) (w : World) (hs : n ≤ 2097152) (hk : 1 ≤ k) (hk2 : k ≤ 1000)
    (h1 : w.ownsRow B 9 1 (.slice (some ⟨g, 0, none⟩) n c) n (marks k n)) :
    Calls Try.prog 18 #[.slice (some ⟨g, 0, none⟩) n c, .int .i64 (k : Int)] w fun e w' => e = .returned (.int .i64 ((k : Int) + (n : Int))) ∧ Below w.heap.size w w' := by
  go_enter Try.func18, Try.ntmps18
  go_wp2
  go_loopw [1, 5] (fun kv i wr => ∃ j : Nat, j ≤ n ∧ i = .int .i64 j ∧ kv = .int .i64 ((k : Int) + (j : Int)) ∧ Below w.heap.size w wr) (fun _ i _ => n - (intOf i).toNat)
  case atStart => exact ⟨0, Nat.zero_le _, rfl, by go_num, Below.refl _ _⟩
  case round =>
    obtain ⟨j, hj, rfl, rfl, hnx⟩ := hrel
    by_cases hlt : j < n
    · have hk0 : (0 : Int) ≤ (j : Int) := by omega
      have hk1 : (j : Int) < (n : Int) := by omega
      have hsz := hnx.size
      have hown := own_below h1 hnx
      have hc : wr.cell? ⟨g, j, none⟩ = some (.string ⟨(markL (k + j)).toArray⟩) := (hown.cellAt j (by omega)).trans (marks_at _ _ _ hlt)
      have e1 : (k : Int) + (j : Int) = ((k + j : Nat) : Int) := by omega
      have H1 : Hid ((k : Int) + (j : Int) = ((k + j : Nat) : Int)) := e1
      clear e1
      have m1 : 1 ≤ k + j := by omega
      have m2 : k + j ≤ 9000000 := by omega
      have hlg := World.block_lt_of_cell? wr _ hc
      go_wp2
      go_region_held3 (fun w' => w'.cell? ⟨g, j, none⟩ = some (.string ⟨(markL (k + j)).toArray⟩)) (first | go_keep | (rw [hb2.cell (by simpa using hlg)]; simpa using hc)) ((go_at_call 29; refine (markCI _ (k + j) H1.out _ m1 m2).mono ?_; rintro e w2 ⟨rfl, hb2⟩))
      have hnx2 : Below w.heap.size w w2 := hnx.drew.trans (hb2.mono (by simpa using hsz))
      clear hc hown hlg
      go_wp2
      go_roundw
      case rel => exact ⟨j + 1, by omega, by go_num, by go_num, hnx2⟩
      case measure => simp [intOf]; omega
    · obtain rfl : j = n := by omega
      go_wp2
      go_ret
      exact ⟨rfl, hnx⟩
end Tx
end Go.Proofs.YtjlabdnjdokpnaaR
