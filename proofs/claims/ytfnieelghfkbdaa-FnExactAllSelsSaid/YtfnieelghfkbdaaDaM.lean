/- What is proved: the laws' marks of data: the text that a number is marked with, what data are when they are marked, and what a mark laid into one cell of data of its own leaves. -/
import Derived.Test.YtfnieelghfkbdaaDaW
namespace Go.Proofs.Ytfnieelghfkbdaa
namespace Da
set_option linter.unusedVariables false
open Go.RowKit
attribute [local go_sem ↓] Go.wp_at_zero Go.wp_at_succ

/-- The figures of a number, behind which 'acc' stands. -/
def digs : Nat → Nat → List UInt8 → List UInt8
  | 0, _, acc => acc
  | f + 1, k, acc => if k = 0 then acc else digs f (k / 10) (UInt8.ofNat (48 + k % 10) :: acc)
def markL (k : Nat) : List UInt8 := 109 :: digs 20 k []

def fig (m : Nat) : UInt8 := UInt8.ofNat (48 + m % 10)
theorem fig_int (m : Nat) : ((fig m).toNat : Int) = 48 + (m : Int) % 10 := by
  unfold fig; rw [UInt8.toNat_ofNat']; omega
theorem digs_zero (f : Nat) (acc : List UInt8) : digs f 0 acc = acc := by cases f <;> simp [digs]
theorem digs_step (f m : Nat) (acc : List UInt8) (h : m ≠ 0) : digs (f + 1) m acc = digs f (m / 10) (fig m :: acc) := by rw [digs, if_neg h]; rfl
theorem cat_str (c : UInt8) (acc : List UInt8) : (({ data := #[c] } : ByteArray) ++ { data := acc.toArray }) = { data := (c :: acc).toArray } := by
  apply ByteArray.ext; simp
theorem mark_end {k : Nat} {acc : List UInt8} (h : digs 20 k [] = acc) : Ending.returned (.string (({ data := #[109] } : ByteArray) ++ { data := acc.toArray })) = .returned (.string ⟨(markL k).toArray⟩) := by
  rw [cat_str, markL, h]
theorem conv_one (w : World) (x : Int) (c : UInt8) (h : (c.toNat : Int) = x) :
    (convert 64 9 (.slice (some ⟨w.heap.size, 0, none⟩) 1 1)).run Try.prog (w.alloc (.cells #[.int .u8 x] 5)) = .ok (.string ⟨#[c]⟩) (w.alloc (.cells #[.int .u8 x] 5)) := by
  subst h
  have := run_convert_bytes_back (P := Try.prog) (w.alloc (.cells #[.int .u8 (c.toNat : Int)] 5)) 64 9 5 ⟨w.heap.size, 0, none⟩ 1 [c] Try.underlying64 Try.underlying5 Try.underlying9 (fun j hj => by
    obtain rfl : j = 0 := by simp at hj; omega
    simp [Addr.add])
  exact this

set_option maxHeartbeats 600000 in
set_option maxRecDepth 100000 in
theorem markC (k : Nat) (w : World) (h0 : 1 ≤ k) (h1 : k ≤ 1125899906842624) :
    Calls Try.prog 21 #[.int .i64 (k : Int)] w fun e w' => e = .returned (.string ⟨(markL k).toArray⟩) ∧ Below w.heap.size w w' := by
  have hk : ¬ (k : Int) ≤ 0 := by omega
  go_enter Try.func21, Try.ntmps21
  go_wp2
  go_loopw [0, 3] (fun kv ov wr => ∃ (m f : Nat) (acc : List UInt8), m ≤ 1125899906842624 ∧ kv = .int .i64 (m : Int) ∧ ov = .string ⟨acc.toArray⟩ ∧ acc.length + f ≤ 20 ∧ Hid (m < 10 ^ f) ∧ Below w.heap.size w wr ∧ Hid (digs f m acc = digs 20 k []))
    (fun kv _ _ => (intOf kv).toNat)
  case atStart => exact ⟨k, 20, [], h1, rfl, rfl, by simp, by show k < 10 ^ 20; omega, Below.refl _ _, rfl⟩
  case round =>
    obtain ⟨m, f, acc, hm, rfl, rfl, hf, HM, hnx, HD⟩ := hrel
    by_cases hp : m = 0
    · subst hp
      have HR : Hid (digs 20 k [] = acc) := by have := HD.out; rw [digs_zero] at this; exact this.symm
      go_wp2
      go_ret
      exact ⟨mark_end HR.out, hnx⟩
    · have hp' : (0 : Int) < (m : Int) := by omega
      have hsz := hnx.size
      have hcv := conv_one wr _ _ (fig_int m)
      obtain ⟨g, rfl⟩ : ∃ g, f = g + 1 := by
        cases f with
        | zero => have := HM.out; simp at this; omega
        | succ g => exact ⟨g, rfl⟩
      have HR : Hid (digs g (m / 10) (fig m :: acc) = digs 20 k []) := by have := HD.out; rw [digs_step _ _ _ hp] at this; exact this
      have HN : Hid (m / 10 < 10 ^ g) := by have := HM.out; rw [Nat.pow_succ] at this; show m / 10 < 10 ^ g; omega
      go_wp2
      go_roundw
      case rel => exact ⟨m / 10, g, fig m :: acc, by omega, by go_num, by rw [cat_str], by simp; omega, HN, hnx.alloc hsz _, HR⟩
      case measure => simp [intOf]; omega

/-- The text that a number is marked with. -/
def mt (k : Nat) : ByteArray := ⟨(markL k).toArray⟩
theorem digs_len : ∀ (f k : Nat) (acc : List UInt8), (digs f k acc).length ≤ f + acc.length
  | 0, _, acc => by simp [digs]
  | f + 1, k, acc => by
    by_cases h : k = 0
    · rw [digs, if_pos h]; omega
    · rw [digs, if_neg h]
      have := digs_len f (k / 10) (UInt8.ofNat (48 + k % 10) :: acc)
      simp only [List.length_cons] at this
      omega
theorem mt_size (k : Nat) : (mt k).size ≤ maxLen := by
  have := digs_len 20 k []
  simp only [List.length_nil] at this
  show (markL k).toArray.size ≤ maxLen
  unfold markL maxLen
  simp only [List.size_toArray, List.length_cons]
  omega
theorem markT (k : Nat) (x : Int) (w : World) (hx : x = (k : Int)) (h0 : 1 ≤ k) (h1 : k ≤ 1125899906842624) :
    Calls Try.prog 21 #[.int .i64 x] w fun e w' => e = .returned (.string (mt k)) ∧ Below w.heap.size w w' := by
  subst hx
  exact markC k w h0 h1

/-- How many marks. -/
def mkn : D → Nat
  | .no => 0
  | .int _ => 1
  | .str _ => 1
  | .bool _ => 1
  | .list W n it => sumTo (fun i => sumTo (fun j => mkn (it i j)) W) n
/-- The number that the cell in row i, column j is marked with, the first one being k. -/
def kk (it : Nat → Nat → D) (W k i j : Nat) : Nat := k + sumTo (fun i => sumTo (fun j => mkn (it i j)) W) i + sumTo (fun j => mkn (it i j)) j
/-- Marked from k on. -/
def mkd : D → Nat → D
  | .no, _ => .no
  | .int _, k => .int k
  | .str _, k => .str (mt k)
  | .bool b, _ => .bool b
  | .list W n it, k => .list W n fun i j => mkd (it i j) (k + sumTo (fun i => sumTo (fun j => mkn (it i j)) W) i + sumTo (fun j => mkn (it i j)) j)
theorem mkd_list (W n : Nat) (it : Nat → Nat → D) (k : Nat) : mkd (.list W n it) k = .list W n fun i j => mkd (it i j) (kk it W k i j) := rfl

/-- Nothing but blocks of F is written. -/
structure Out (F : Nat → Prop) (w w' : World) : Prop where
  os : w'.os = w.os
  tape : w'.tape = w.tape
  output : w'.output = w.output
  size : w.heap.size ≤ w'.heap.size
  block : ∀ b, b < w.heap.size → ¬ F b → w'.heap[b]? = w.heap[b]?
theorem Out.refl (F : Nat → Prop) (w : World) : Out F w w := ⟨rfl, rfl, rfl, Nat.le_refl _, fun _ _ _ => rfl⟩
theorem Out.of_below {F : Nat → Prop} {w w' : World} (h : Below w.heap.size w w') : Out F w w' := ⟨h.os, h.tape, h.output, h.size, fun b hb _ => h.block b hb⟩
theorem Out.trans {F : Nat → Prop} {w w' w'' : World} (h : Out F w w') (k : Out F w' w'') : Out F w w'' :=
  ⟨k.os.trans h.os, k.tape.trans h.tape, k.output.trans h.output, Nat.le_trans h.size k.size, fun b hb hf => (k.block b (Nat.lt_of_lt_of_le hb h.size) hf).trans (h.block b hb hf)⟩
theorem Out.wide {F F' : Nat → Prop} {w w' : World} (h : Out F w w') (hF : ∀ b, F b → F' b) : Out F' w w' := ⟨h.os, h.tape, h.output, h.size, fun b hb hf => h.block b hb fun x => hf (hF b x)⟩
theorem Out.set {F : Nat → Prop} {w : World} {g p : Nat} {v : Value} (hg : F g) : Out F w (w.setCell ⟨g, p, none⟩ v) :=
  ⟨rfl, rfl, rfl, by simp [World.setCell], fun b _ hf => Below.heap_setCell _ _ _ _ (by intro e; exact hf (by simp only at e; subst e; exact hg))⟩

theorem idx_inj {W i j i' j' : Nat} (hj : j < W) (hj' : j' < W) (h : i * W + j = i' * W + j') : i = i' ∧ j = j' := by
  rcases Nat.lt_trichotomy i i' with h1 | h1 | h1
  · have := Nat.mul_le_mul_right W (show i + 1 ≤ i' from h1)
    rw [Nat.add_mul, Nat.one_mul] at this
    omega
  · subst h1; exact ⟨rfl, by omega⟩
  · have := Nat.mul_le_mul_right W (show i' + 1 ≤ i from h1)
    rw [Nat.add_mul, Nat.one_mul] at this
    omega
theorem idx_lt {W i j n : Nat} (hi : i < n) (hj : j < W) : i * W + j < n * W := by
  have := Nat.mul_le_mul_right W (show i + 1 ≤ n from hi)
  rw [Nat.add_mul, Nat.one_mul] at this
  omega
def upd (it : Nat → Nat → D) (i j : Nat) (d : D) : Nat → Nat → D := fun i' j' => if i' = i ∧ j' = j then d else it i' j'
theorem Own.congr {w : World} {W n : Nat} {it it' : Nat → Nat → D} {F : Nat → Prop} {c : Value} (h : Own w (.list W n it) F c) (he : ∀ i j, i < n → j < W → it i j = it' i j) : Own w (.list W n it') F c := by
  obtain ⟨A, cap, e, h1, h2, h3⟩ := h
  refine ⟨A, cap, e, h1, h2, fun h0 => ?_⟩
  obtain ⟨g, cur, ty, H, e2, q1, q2, q3, q4, q5⟩ := h3 h0
  refine ⟨g, cur, ty, H, e2, q1, q2, q3, q4, fun i hi j hj => ?_⟩
  rw [← he i j hi hj]
  exact q5 i hi j hj

/-- One cell: where it lies, and what a change of it makes of the whole. -/
theorem Own.focus {w : World} {W n cap : Nat} {it : Nat → Nat → D} {F : Nat → Prop} {A : Option Addr} (h : Own w (.list W n it) F (.slice A n cap)) {i j : Nat} (hi : i < n) (hj : j < W) :
    ∃ (g : Nat) (cur : Array Value) (ty : TypeId) (d : Value) (G : Nat → Prop), A = some ⟨g, 0, none⟩ ∧ F g ∧ w.heap[g]? = some (.cells cur ty (0, 0)) ∧ cur[i * W + j]? = some d ∧ Own w (it i j) G d ∧ (∀ b, G b → F b ∧ b ≠ g) ∧
      (∀ v d', (∀ w' F', Own w' d' F' v) → Own (w.setCell ⟨g, i * W + j, none⟩ v) (.list W n (upd it i j d')) F (.slice A n cap)) ∧
      (∀ w' d', (∀ b, F b → ¬ G b → w'.heap[b]? = w.heap[b]?) → Own w' d' G d → Own w' (.list W n (upd it i j d')) F (.slice A n cap)) := by
  obtain ⟨A', cap', e, h1, h2, h3⟩ := h
  simp only [Value.slice.injEq, true_and] at e
  obtain ⟨rfl, rfl⟩ := e
  obtain ⟨g, cur, ty, H, e2, q1, q2, q3, q4, q5⟩ := h3 (by omega)
  obtain ⟨d, hd, ho⟩ := q5 i hi j hj
  refine ⟨g, cur, ty, d, H i j, e2, q1, q2, hd, ho, (q4 i j hi hj).1, fun v d' hv => ?_, fun w' d' hs hv => ?_⟩
  · refine ⟨_, _, rfl, h1, h2, fun _ => ⟨g, cur.setIfInBounds (i * W + j) v, ty, H, e2, q1, heap_setCell_same w g _ cur ty v q2, by simpa using q3, q4, fun i' hi' j' hj' => ?_⟩⟩
    by_cases hij : i' = i ∧ j' = j
    · obtain ⟨rfl, rfl⟩ := hij
      refine ⟨v, Array.getElem?_setIfInBounds_self_of_lt (by have := idx_lt hi' hj'; omega), ?_⟩
      rw [upd, if_pos ⟨rfl, rfl⟩]
      exact hv _ _
    · obtain ⟨d2, hd2, ho2⟩ := q5 i' hi' j' hj'
      have hne : i * W + j ≠ i' * W + j' := fun e => hij ⟨(idx_inj hj hj' e).1.symm, (idx_inj hj hj' e).2.symm⟩
      refine ⟨d2, by rw [Array.getElem?_setIfInBounds_ne hne]; exact hd2, ?_⟩
      rw [upd, if_neg hij]
      exact Own.same _ ho2 fun b hb => Below.heap_setCell _ _ _ _ (((q4 i' j' hi' hj').1 b hb).2)
  · refine ⟨_, _, rfl, h1, h2, fun _ => ⟨g, cur, ty, H, e2, q1, (hs g q1 fun hb => ((q4 i j hi hj).1 g hb).2 rfl).trans q2, q3, q4, fun i' hi' j' hj' => ?_⟩⟩
    by_cases hij : i' = i ∧ j' = j
    · obtain ⟨rfl, rfl⟩ := hij
      exact ⟨d, hd, by rw [upd, if_pos ⟨rfl, rfl⟩]; exact hv⟩
    · obtain ⟨d2, hd2, ho2⟩ := q5 i' hi' j' hj'
      refine ⟨d2, hd2, ?_⟩
      rw [upd, if_neg hij]
      refine Own.same _ ho2 fun b hb => hs b ((q4 i' j' hi' hj').1 b hb).1 fun hG => (q4 i j hi hj).2 i' j' hi' hj' (by omega) b hG hb

/-- In the middle of the marks: the first q cells are marked. -/
def mst (it : Nat → Nat → D) (W k q : Nat) : Nat → Nat → D := fun i j => if i * W + j < q then mkd (it i j) (kk it W k i j) else it i j
theorem mst_step {it : Nat → Nat → D} {W k n p j : Nat} (hj : j < W) : ∀ i' j', i' < n → j' < W → upd (mst it W k (p * W + j)) p j (mkd (it p j) (kk it W k p j)) i' j' = mst it W k (p * W + j + 1) i' j' := by
  intro i' j' _ hj'
  unfold upd mst
  by_cases hij : i' = p ∧ j' = j
  · obtain ⟨rfl, rfl⟩ := hij
    rw [if_pos ⟨rfl, rfl⟩, if_pos (by omega)]
  · rw [if_neg hij]
    have hne : i' * W + j' ≠ p * W + j := fun e => hij (idx_inj hj' hj e)
    by_cases hlt : i' * W + j' < p * W + j
    · rw [if_pos hlt, if_pos (by omega)]
    · rw [if_neg hlt, if_neg (by omega)]
theorem mst_at {it : Nat → Nat → D} {W k p j : Nat} : mst it W k (p * W + j) p j = it p j := by unfold mst; rw [if_neg (Nat.lt_irrefl _)]
theorem Own.mst0 {w : World} {W n k : Nat} {it : Nat → Nat → D} {F : Nat → Prop} {c : Value} (h : Own w (.list W n it) F c) : Own w (.list W n (mst it W k (0 * W))) F c :=
  h.congr fun i j _ _ => by unfold mst; rw [if_neg (by omega)]
theorem Own.mst9 {w : World} {W n k : Nat} {it : Nat → Nat → D} {F : Nat → Prop} {c : Value} (h : Own w (.list W n (mst it W k (n * W))) F c) : Own w (mkd (.list W n it) k) F c := by
  rw [mkd_list]
  refine h.congr fun i j hi hj => ?_
  unfold mst; rw [if_pos (idx_lt hi hj)]
theorem Own.next {w : World} {W n p k : Nat} {it : Nat → Nat → D} {F : Nat → Prop} {c : Value} (h : Own w (.list W n (mst it W k (p * W + W))) F c) : Own w (.list W n (mst it W k ((p + 1) * W))) F c := by
  rw [Nat.add_mul, Nat.one_mul]; exact h

/-- A mark into a cell that leads nowhere. -/
theorem Own.markP {w : World} {W n cap p j k : Nat} {it : Nat → Nat → D} {F : Nat → Prop} {A : Option Addr} (h : Own w (.list W n (mst it W k (p * W + j))) F (.slice A n cap)) (hp : p < n) (hj : j < W) :
    ∃ g, A = some ⟨g, 0, none⟩ ∧ F g ∧ (∃ o, w.cell? ⟨g, p * W + j, none⟩ = some o) ∧ w.frozen? ⟨g, p * W + j, none⟩ = false ∧
      ∀ v, (∀ w' F', Own w' (mkd (it p j) (kk it W k p j)) F' v) → Own (w.setCell ⟨g, p * W + j, none⟩ v) (.list W n (mst it W k (p * W + j + 1))) F (.slice A n cap) := by
  obtain ⟨g, cur, ty, d, G, e, hF, hg, hd, ho, hG, h1, -⟩ := h.focus hp hj
  exact ⟨g, e, hF, ⟨d, by rw [cell_of hg]; exact hd⟩, frozen_no hg _, fun v hv => (h1 v _ hv).congr (mst_step hj)⟩
/-- The marks of a cell that is a list. -/
theorem Own.markL {w : World} {W n cap p j k : Nat} {it : Nat → Nat → D} {F : Nat → Prop} {A : Option Addr} (h : Own w (.list W n (mst it W k (p * W + j))) F (.slice A n cap)) (hp : p < n) (hj : j < W) :
    ∃ g d G, A = some ⟨g, 0, none⟩ ∧ w.cell? ⟨g, p * W + j, none⟩ = some d ∧ Own w (it p j) G d ∧ (∀ b, G b → F b) ∧
      ∀ w', Out G w w' → (∀ b, F b → b < w.heap.size) → Own w' (mkd (it p j) (kk it W k p j)) G d → Own w' (.list W n (mst it W k (p * W + j + 1))) F (.slice A n cap) := by
  obtain ⟨g, cur, ty, d, G, e, hF, hg, hd, ho, hG, -, h2⟩ := h.focus hp hj
  rw [mst_at] at ho
  exact ⟨g, d, G, e, by rw [cell_of hg]; exact hd, ho, fun b hb => (hG b hb).1, fun w' hO hS hv => (h2 w' _ (fun b hb hn => hO.block b (hS b hb) hn) hv).congr (mst_step hj)⟩

theorem own_int {d : D} (h : Sh d .int) {q k : Nat} {x : Int} (hk : q = k) (hx : x = (k : Int)) : ∀ w' F', Own w' (mkd d q) F' (.int .i64 x) := by
  obtain ⟨y, rfl⟩ := h.int
  subst hk hx
  exact fun _ _ => rfl
theorem own_str {d : D} (h : Sh d .str) {q k : Nat} (hk : q = k) : ∀ w' F', Own w' (mkd d q) F' (.string (mt k)) := by
  obtain ⟨y, rfl⟩ := h.str
  subst hk
  exact fun _ _ => ⟨rfl, mt_size _⟩
theorem mkn_int {d : D} (h : Sh d .int) : mkn d = 1 := by
  obtain ⟨y, rfl⟩ := h.int
  rfl
theorem mkn_str {d : D} (h : Sh d .str) : mkn d = 1 := by
  obtain ⟨y, rfl⟩ := h.str
  rfl
/-- The contract of a list that is marked. -/
def MkL (fid : Nat) (d : D) : Prop := ∀ (w : World) (k : Nat) (c : Value) (F : Nat → Prop), 1 ≤ k → k + mkn d ≤ 1125899906842624 → (∀ b, F b → b < w.heap.size) → Own w d F c →
  Calls Try.prog fid #[c, .int .i64 (k : Int)] w fun e w' => e = .returned (.int .i64 ((k + mkn d : Nat) : Int)) ∧ Own w' (mkd d k) F c ∧ Out F w w'
/-- The contract of a list that is held against its marks. -/
def HeL (fid : Nat) (d : D) : Prop := ∀ (w : World) (k : Nat) (c : Value), 1 ≤ k → k + mkn d ≤ 1125899906842624 → At w (mkd d k) c →
  Calls Try.prog fid #[c, .int .i64 (k : Int)] w fun e w' => e = .returned (.int .i64 ((k + mkn d : Nat) : Int)) ∧ Below w.heap.size w w'
theorem kk_zero (it : Nat → Nat → D) (W k i : Nat) : kk it W k i 0 = k + sumTo (fun i => sumTo (fun j => mkn (it i j)) W) i := rfl
theorem kk_next (it : Nat → Nat → D) (W k i j : Nat) : kk it W k i (j + 1) = kk it W k i j + mkn (it i j) := by unfold kk; rw [sumTo]; omega
theorem kk_row (it : Nat → Nat → D) (W k i : Nat) : kk it W k (i + 1) 0 = kk it W k i W := by unfold kk; simp only [sumTo]; omega
theorem kk_all (it : Nat → Nat → D) (W k n : Nat) : kk it W k n 0 = k + mkn (.list W n it) := rfl
theorem kk_le {it : Nat → Nat → D} {W k i j n : Nat} (hi : i < n) (hj : j ≤ W) : kk it W k i j ≤ k + mkn (.list W n it) := by
  have h1 := sumTo_lt (fun i => sumTo (fun j => mkn (it i j)) W) hi
  have h2 := sumTo_le (fun j => mkn (it i j)) hj
  simp only [mkn, kk] at *; omega
theorem kk_le0 (it : Nat → Nat → D) (W k i j : Nat) : k ≤ kk it W k i j := by unfold kk; omega
end Da
end Go.Proofs.Ytfnieelghfkbdaa
