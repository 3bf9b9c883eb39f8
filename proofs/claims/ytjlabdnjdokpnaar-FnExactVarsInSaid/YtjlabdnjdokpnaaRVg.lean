/- What is proved: what the laws' marks of a value do: they are laid into its own memory, and into nothing else. -/
import Derived.Test.YtjlabdnjdokpnaaRVv
import Derived.Test.YtjlabdnjdokpnaaRTx
namespace Go.Proofs.YtjlabdnjdokpnaaR
namespace Va
open Go.RowKit
attribute [local go_sem ↓] Go.wp_at_zero Go.wp_at_succ

set_option maxHeartbeats 800000 in
theorem marksG (xs : List Value) (n k B g c : Nat) (w : World) (hk : 1 ≤ k) (hk2 : k + n ≤ 9000000)
    (h1 : w.ownsRow B 9 1 (.slice (some ⟨g, 0, none⟩) n c) n xs) :
    Calls Try.prog 17 #[.slice (some ⟨g, 0, none⟩) n c, .int .i64 (k : Int)] w fun e w' => e = .returned (.int .i64 ((k : Int) + (n : Int))) ∧ w'.ownsRow B 9 1 (.slice (some ⟨g, 0, none⟩) n c) n (Tx.marks k n) ∧ w.grownBy w' (some g) := by
  have HX : Hid (xs.length = n) := by have := h1.1; show xs.length = n; omega
  have hcn : n ≤ c ∧ c ≤ maxLen := by
    rcases h1.2 with ⟨h, -⟩ | ⟨g', cap', cur, hv, hB, hg, h1, h2, h3, h4⟩
    · cases h
    · simp only [Value.slice.injEq, Option.some.injEq, Addr.mk.injEq, true_and, and_true] at hv
      omega
  go_enter Try.func17, Try.ntmps17
  go_wp2
  go_loopw [1, 5] (fun kv i wr => ∃ j : Nat, j ≤ n ∧ i = .int .i64 j ∧ kv = .int .i64 ((k : Int) + (j : Int)) ∧ wr.ownsRow B 9 1 (.slice (some ⟨g, 0, none⟩) n c) n (Tx.markTo k j xs) ∧ w.grownBy wr (some g)) (fun _ i _ => n - (intOf i).toNat)
  case atStart => exact ⟨0, Nat.zero_le _, rfl, by go_num, by rw [Tx.markTo_zero]; exact h1, below_grown g (Below.refl _ _)⟩
  case round =>
    obtain ⟨j, hj, rfl, rfl, hown, hnx⟩ := hrel
    by_cases hlt : j < n
    · have hk0 : (0 : Int) ≤ (j : Int) := by omega
      have hk1 : (j : Int) < (n : Int) := by omega
      have HL : Hid ((Tx.markTo k j xs).length = n) := by have := HX.out; show _ = _; rw [Tx.markTo_length]; exact this; omega
      have HS : Hid ((Tx.markTo k j xs).set j (.string ⟨(Tx.markL (k + j)).toArray⟩) = Tx.markTo k (j + 1) xs) := Tx.markTo_set _ _ _ (by have := HX.out; omega)
      go_wp2_with fail
      rw [show (k : Int) + (j : Int) = ((k + j : Nat) : Int) from by omega]
      refine (Tx.markC (k + j) _ (by omega) (by omega)).mono ?_
      rintro e w1 ⟨rfl, hb1⟩
      have hown1 := own_below hown hb1
      obtain ⟨u, hu⟩ : ∃ u, w1.cell? ⟨g, j, none⟩ = some u := ⟨_, (hown1.cellAt j (by omega)).trans (List.getElem?_eq_getElem (by have := HL.out; omega))⟩
      have hfz := hown1.frozenAt j
      have hst := hown1.stored j (.string ⟨(Tx.markL (k + j)).toArray⟩)
      have R1 : Hid ((w1.setCell ⟨g, j, none⟩ (.string ⟨(Tx.markL (k + j)).toArray⟩)).ownsRow B 9 1 (.slice (some ⟨g, 0, none⟩) n c) n (Tx.markTo k (j + 1) xs)) := by rw [← HS.out]; exact hst.1
      have R2 : Hid (w.grownBy (w1.setCell ⟨g, j, none⟩ (.string ⟨(Tx.markL (k + j)).toArray⟩)) (some g)) := grown_trans hnx (grown_trans (below_grown g hb1) hst.2 (.inl rfl)) (.inl rfl)
      clear hst hown1 hown
      go_wp2
      go_roundw
      case rel => exact ⟨j + 1, by omega, by go_num, by go_num, R1.out, R2.out⟩
      case measure => simp [intOf]; omega
    · obtain rfl : j = n := by omega
      rw [Tx.markTo_all _ _ _ HX.out] at hown
      go_wp2
      go_ret
      exact ⟨rfl, hown, hnx⟩

/-- Nothing but blocks from lo up to hi is written. -/
structure Out (lo hi : Nat) (w w' : World) : Prop where
  os : w'.os = w.os
  tape : w'.tape = w.tape
  output : w'.output = w.output
  size : w.heap.size ≤ w'.heap.size
  block : ∀ b, b < w.heap.size → (b < lo ∨ hi ≤ b) → w'.heap[b]? = w.heap[b]?

/-- In the middle of a row's marks: its cells for lists stand. -/
structure MkR (w wr : World) (g a b : Nat) : Prop where
  os : wr.os = w.os
  tape : wr.tape = w.tape
  output : wr.output = w.output
  size : w.heap.size ≤ wr.heap.size
  block : ∀ k, k < w.heap.size → k ≠ g → (k < a ∨ b ≤ k) → wr.heap[k]? = w.heap[k]?
  row : ∀ cur, w.heap[g]? = some (.cells cur 30 (0, 0)) → ∃ cur' : Array Value, wr.heap[g]? = some (.cells cur' 30 (0, 0)) ∧ cur'.size = cur.size ∧ ∀ i, cur'[i * 4 + 2]? = cur[i * 4 + 2]? ∧ cur'[i * 4 + 3]? = cur[i * 4 + 3]?

theorem MkR.refl (w : World) (g a b : Nat) : MkR w w g a b := ⟨rfl, rfl, rfl, Nat.le_refl _, fun _ _ _ _ => rfl, fun cur h => ⟨cur, h, rfl, fun _ => ⟨rfl, rfl⟩⟩⟩
theorem MkR.below {w wr w' : World} {g a b : Nat} (h : MkR w wr g a b) (hg : g < w.heap.size) (hb : Below wr.heap.size wr w') : MkR w w' g a b := by
  have hs := h.size
  refine ⟨hb.os.trans h.os, hb.tape.trans h.tape, hb.output.trans h.output, Nat.le_trans h.size hb.size, fun k hk hne hr => (hb.block k (by omega)).trans (h.block k hk hne hr), fun cur hc => ?_⟩
  obtain ⟨cur', h1, h2⟩ := h.row cur hc
  exact ⟨cur', (hb.block g (by omega)).trans h1, h2⟩
theorem MkR.set {w wr : World} {g a b : Nat} (h : MkR w wr g a b) (p j : Nat) (hj : j < 2) (x : Value) : MkR w (wr.setCell ⟨g, p * 4 + j, none⟩ x) g a b := by
  refine ⟨h.os, h.tape, h.output, by simpa [World.setCell] using h.size, fun k hk hne hr => ?_, fun cur hc => ?_⟩
  · rw [Below.heap_setCell _ _ _ _ (by simpa using hne)]; exact h.block k hk hne hr
  · obtain ⟨cur', h1, h2, h3⟩ := h.row cur hc
    refine ⟨cur'.setIfInBounds (p * 4 + j) x, heap_setCell_same wr g _ cur' _ x h1, by simpa using h2, fun i => ?_⟩
    rw [Array.getElem?_setIfInBounds_ne (by omega), Array.getElem?_setIfInBounds_ne (by omega)]
    exact h3 i
theorem MkR.out {w wr w' : World} {g a b lo hi : Nat} (h : MkR w wr g a b) (hg : g < w.heap.size) (hga : g < lo) (hal : a ≤ lo) (hbh : b ≤ hi) (ho : Out lo hi wr w') : MkR w w' g a hi := by
  have hs := h.size
  refine ⟨ho.os.trans h.os, ho.tape.trans h.tape, ho.output.trans h.output, Nat.le_trans h.size ho.size, fun k hk hne hr => ?_, fun cur hc => ?_⟩
  · rw [ho.block k (by omega) (by omega)]; exact h.block k hk hne (by omega)
  · obtain ⟨cur', h1, h2⟩ := h.row cur hc
    exact ⟨cur', (ho.block g (by omega) (by omega)).trans h1, h2⟩
theorem MkR.grown {w wr w' : World} {g a b gn hi : Nat} (h : MkR w wr g a b) (hg : g < w.heap.size) (hne : gn ≠ g) (hlo : a ≤ gn) (hbh : b ≤ hi) (hgh : gn < hi) (hgr : wr.grownBy w' (some gn)) : MkR w w' g a hi := by
  have hs := h.size
  refine ⟨hgr.os.trans h.os, hgr.tape.trans h.tape, hgr.output.trans h.output, Nat.le_trans h.size hgr.size, fun k hk hne' hr => ?_, fun cur hc => ?_⟩
  · rw [hgr.block k (by omega) (fun e => by have := Option.some.inj e; omega)]; exact h.block k hk hne' (by omega)
  · obtain ⟨cur', h1, h2⟩ := h.row cur hc
    exact ⟨cur', (hgr.block g (by omega) (fun e => hne (Option.some.inj e).symm)).trans h1, h2⟩

/-- How many marks. -/
def mkv : V → Nat
  | .no => 0
  | .mk _ _ n it m _ => sumTo (fun i => 2 + mkv (it i)) n + m
def mks (n : Nat) (it : Nat → V) : Nat := sumTo (fun i => 2 + mkv (it i)) n
theorem mkv_mk (k : Int) (t : ByteArray) (n : Nat) (it : Nat → V) (m : Nat) (nm : Nat → ByteArray) : mkv (.mk k t n it m nm) = mks n it + m := rfl
theorem sumTo_two (f g : Nat → Nat) (h : ∀ i, f i ≤ 2 * g i) (n : Nat) : sumTo (fun i => 2 + f i) n ≤ 2 * (n + sumTo g n) := by
  induction n with
  | zero => simp [sumTo]
  | succ n ih => have := h n; simp only [sumTo]; omega
theorem mkv_sz : ∀ v : V, mkv v ≤ 2 * sz v
  | .no => by simp [mkv]
  | .mk k t n it m nm => by
    have := sumTo_two (fun i => mkv (it i)) (fun i => sz (it i)) (fun i => mkv_sz (it i)) n
    rw [mkv_mk, sz_mk]; unfold mks szs sznm; omega
end Va
end Go.Proofs.YtjlabdnjdokpnaaR
