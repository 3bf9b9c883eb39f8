/- What is proved: what the laws' copy of a value is: the same value, in new memory of its own. -/
import Derived.Test.YtngfhncdmlpjiaaVo
import Derived.Deep.OwnRows
import Derived.Handy
namespace Go.Proofs.Ytngfhncdmlpjiaa
namespace Va
open Go.RowKit
attribute [local go_sem ↓] Go.wp_at_zero Go.wp_at_succ

theorem info9 : (Try.prog.info? 9).map (fun i => (i.zero, i.size, i.bytes)) = some (some (.string ⟨#[]⟩), 1, 16) := by kernel_rfl
def zeroV : Value := .agg #[.int .i64 0, .string ⟨#[]⟩, .slice none 0 0, .slice none 0 0]
theorem infoV : (Try.prog.info? 30).map (fun i => (i.zero, i.size, i.bytes)) = some (some zeroV, 4, 72) := by kernel_rfl
theorem undS : Try.prog.underlying 28 = some (.slice 30) := by kernel_rfl

theorem makeN (m : Nat) (hm : m ≤ 1048576) : ∃ cur : Array Value, cur.size = m ∧ ∀ w : World, (Instr.makeSlice 23 (.int .i64 (m : Int)) (.int .i64 (m : Int))).run Try.prog w = .ok (.slice (some ⟨w.heap.size, 0, none⟩) m m) (w.alloc (.cells cur 9)) := by
  refine ⟨madeCells #[.string ⟨#[]⟩] m, size_madeCells _ _, fun w => ?_⟩
  exact run_make_row' (P := Try.prog) 23 9 (.string ⟨#[]⟩) 16 undN info9 rfl .i64 .i64 m (by omega) (by omega) w
theorem makeI (n : Nat) (hn : n ≤ 1048576) : ∃ cur : Array Value, cur.size = n * 4 ∧ ∀ w : World, (Instr.makeSlice 28 (.int .i64 (n : Int)) (.int .i64 (n : Int))).run Try.prog w = .ok (.slice (some ⟨w.heap.size, 0, none⟩) n n) (w.alloc (.cells cur 30)) := by
  obtain ⟨i, hi, hzz⟩ := Option.map_eq_some_iff.1 infoV
  simp only [Prod.mk.injEq] at hzz
  obtain ⟨hz, hs, hb⟩ := hzz
  refine ⟨madeCells zeroV.cells (n * 4), size_madeCells _ _, fun w => ?_⟩
  have := run_make (P := Try.prog) w 28 30 i zeroV undS hi hz .i64 .i64 n n (by omega) (by omega) (by rw [hb]; omega) (by omega)
  rw [hs] at this
  simpa using this

theorem toN {m : Nat} {nm : Nat → ByteArray} {c : Value} (hs : m ≤ 1048576) (w : World) (h : Nam w m nm c) :
    Calls Try.prog 18 #[c] w fun e w' => ∃ d, e = .returned d ∧ OwnN w' w.heap.size w'.heap.size m nm d ∧ Below w.heap.size w w' := by
  obtain ⟨A, cap, rfl, hm, hc⟩ := h
  unfold maxLen at hm
  have HC : Hid (∀ j, j < m → ∃ b o, A = some ⟨b, o, none⟩ ∧ w.cell? ⟨b, o + j, none⟩ = some (.string (nm j)) ∧ (nm j).size ≤ maxLen) := hc
  clear hc
  obtain ⟨cur0, hcur0, hmk⟩ := makeN m hs
  have HCu : Hid (cur0.size = m) := hcur0
  clear hcur0
  go_enter Try.func18, Try.ntmps18
  go_wp2
  clear hmk
  go_loopw [4] (fun i wr => ∃ (k : Nat) (cur : Array Value), k ≤ m ∧ i = .int .i64 k ∧ wr.heap[w.heap.size]? = some (.cells cur 9 (0, 0)) ∧ cur.size = m ∧ (∀ j, j < k → cur[j]? = some (.string (nm j))) ∧ Below w.heap.size w wr) (fun i _ => m - (intOf i).toNat)
  case atStart => exact ⟨0, cur0, Nat.zero_le _, rfl, heap_alloc_new w _, HCu.out, fun j hj => absurd hj (Nat.not_lt_zero _), below_alloc _ _⟩
  case round =>
    obtain ⟨k, cur, hk, rfl, hg, hcs, hdone, hbel⟩ := hrel
    have HG : Hid (wr.heap[w.heap.size]? = some (.cells cur 9 (0, 0))) := hg
    have HD : Hid (∀ j, j < k → cur[j]? = some (.string (nm j))) := hdone
    have HS : Hid (cur.size = m) := hcs
    clear hg hdone hcs
    by_cases hlt : k < m
    · have hk0 : (0 : Int) ≤ (k : Int) := by omega
      have hk1 : (k : Int) < (m : Int) := by omega
      obtain ⟨b, o, rfl, hcell, hsz⟩ := HC.out k hlt
      have hcell' : wr.cell? ⟨b, o + k, none⟩ = some (.string (nm k)) := (hbel.cell (World.block_lt_of_cell? w _ hcell)).trans hcell
      clear hcell
      obtain ⟨old, hold⟩ : ∃ old, wr.cell? ⟨w.heap.size, k, none⟩ = some old := by
        rw [cell_of HG.out]; exact ⟨_, Array.getElem?_eq_getElem (by rw [HS.out]; exact hlt)⟩
      have hfz : wr.frozen? ⟨w.heap.size, k, none⟩ = false := frozen_no HG.out k
      go_wp2
      go_roundw
      case rel =>
        refine ⟨k + 1, cur.setIfInBounds k (.string (nm k)), by omega, by go_num, heap_setCell_same wr _ k cur 9 _ HG.out, by simpa using HS.out, fun j hj => ?_, hbel.setCell (Nat.le_refl _) _⟩
        by_cases hjk : j = k
        · subst hjk; simp [HS.out, hlt]
        · rw [Array.getElem?_setIfInBounds_ne (by omega)]; exact HD.out j (by omega)
      case measure => simp [intOf]; omega
    · go_wp2
      go_ret
      obtain rfl : k = m := by omega
      refine ⟨_, rfl, ⟨w.heap.size, cur, rfl, by unfold maxLen; omega, Nat.le_refl _, lt_of HG.out, HG.out, HS.out, fun j hj => ⟨HD.out j hj, ?_⟩⟩, hbel⟩
      obtain ⟨_, _, _, _, hsz⟩ := HC.out j hj
      exact hsz

/-- The contract of one value. -/
def ToOne (v : V) : Prop := ∀ (w : World) (c0 c1 c2 c3 : Value), sz v ≤ 1048576 → At w v c0 c1 c2 c3 →
  Calls Try.prog 7 #[.agg #[c0, c1, c2, c3]] w fun e w' => ∃ d0 d1 d2 d3, e = .returned (.agg #[d0, d1, d2, d3]) ∧ Own w' v w.heap.size w'.heap.size d0 d1 d2 d3 ∧ Below w.heap.size w w'

theorem toI {n : Nat} {it : Nat → V} (hit : ∀ i, i < n → ToOne (it i)) {c : Value} (hs : szs n it ≤ 1048576) (w : World) (h : Its w n it c) :
    Calls Try.prog 17 #[c] w fun e w' => ∃ d, e = .returned d ∧ OwnI w' w.heap.size w'.heap.size n it d ∧ Below w.heap.size w w' := by
  have HI := h
  obtain ⟨A, cap, rfl, hm, -⟩ := h
  unfold maxLen at hm
  have hn : n ≤ 1048576 := by unfold szs at hs; omega
  obtain ⟨cur0, hcur0, hmk⟩ := makeI n hn
  have HCu : Hid (cur0.size = n * 4) := hcur0
  clear hcur0
  go_enter Try.func17, Try.ntmps17
  go_wp2
  clear hmk
  go_loopw [4] (fun i wr => ∃ (k : Nat) (cur : Array Value) (r : Nat → Nat), k ≤ n ∧ i = .int .i64 k ∧ w.heap.size < r 0 ∧ r k ≤ wr.heap.size ∧ (∀ i, i < k → r i ≤ r (i + 1)) ∧ wr.heap[w.heap.size]? = some (.cells cur 30 (0, 0)) ∧ cur.size = n * 4 ∧
      (∀ i, i < k → ∃ d0 d1 d2 d3, cur[i * 4]? = some d0 ∧ cur[i * 4 + 1]? = some d1 ∧ cur[i * 4 + 2]? = some d2 ∧ cur[i * 4 + 3]? = some d3 ∧ Own wr (it i) (r i) (r (i + 1)) d0 d1 d2 d3) ∧ Below w.heap.size w wr) (fun i _ => n - (intOf i).toNat)
  case atStart => exact ⟨0, cur0, fun _ => w.heap.size + 1, Nat.zero_le _, rfl, by simp only; omega, by simp, fun i hi => absurd hi (Nat.not_lt_zero _), heap_alloc_new w _, HCu.out, fun j hj => absurd hj (Nat.not_lt_zero _), below_alloc _ _⟩
  case round =>
    obtain ⟨k, cur, r, hk, rfl, hr0, hrk, hr, hg, hcs, hdone, hbel⟩ := hrel
    have HG : Hid (wr.heap[w.heap.size]? = some (.cells cur 30 (0, 0))) := hg
    have HD : Hid (∀ i, i < k → ∃ d0 d1 d2 d3, cur[i * 4]? = some d0 ∧ cur[i * 4 + 1]? = some d1 ∧ cur[i * 4 + 2]? = some d2 ∧ cur[i * 4 + 3]? = some d3 ∧ Own wr (it i) (r i) (r (i + 1)) d0 d1 d2 d3) := hdone
    have HS : Hid (cur.size = n * 4) := hcs
    have HRR : Hid (w.heap.size < r 0 ∧ r k ≤ wr.heap.size ∧ ∀ i, i < k → r i ≤ r (i + 1)) := ⟨hr0, hrk, hr⟩
    clear hg hdone hcs hr hr0 hrk
    by_cases hlt : k < n
    · have hk0 : (0 : Int) ≤ (k : Int) := by omega
      have hk1 : (k : Int) < (n : Int) := by omega
      obtain ⟨A', cap', e1, -, hc⟩ := HI.below hbel
      obtain ⟨b, o, c0, c1, c2, c3, e2, hf, hat⟩ := hc k hlt
      simp only [Value.slice.injEq] at e1
      obtain ⟨e3, -, e4⟩ := e1
      subst e3 e4
      subst e2
      clear hc
      obtain ⟨f0, f1, f2, f3⟩ := hf
      have cc := hit k hlt wr c0 c1 c2 c3 (by have := sz_item (it := it) hlt; omega) hat
      go_wp2_with fail
      refine cc.mono ?_
      rintro e w1 ⟨d0, d1, d2, d3, rfl, hown, hb1⟩
      have hg1 : w1.heap[w.heap.size]? = some (.cells cur 30 (0, 0)) := (hb1.block _ (lt_of HG.out)).trans HG.out
      have HG1 : Hid (w1.heap[w.heap.size]? = some (.cells cur 30 (0, 0))) := hg1
      clear hg1
      have each : ∀ j, j < 4 → ∃ old, w1.cell? ⟨w.heap.size, k * 4 + j, none⟩ = some old := fun j hj => by
        rw [cell_of HG1.out]; exact ⟨_, Array.getElem?_eq_getElem (by rw [HS.out]; omega)⟩
      obtain ⟨o0, p0⟩ := each 0 (by omega)
      obtain ⟨o1, p1⟩ := each 1 (by omega)
      obtain ⟨o2, p2⟩ := each 2 (by omega)
      obtain ⟨o3, p3⟩ := each 3 (by omega)
      have z0 : w1.frozen? ⟨w.heap.size, k * 4, none⟩ = false := frozen_no HG1.out _
      have z1 : w1.frozen? ⟨w.heap.size, k * 4 + 1, none⟩ = false := frozen_no HG1.out _
      have z2 : w1.frozen? ⟨w.heap.size, k * 4 + 2, none⟩ = false := frozen_no HG1.out _
      have z3 : w1.frozen? ⟨w.heap.size, k * 4 + 3, none⟩ = false := frozen_no HG1.out _
      rw [Nat.add_zero] at p0
      clear each
      obtain ⟨y0, y1, y2, y3, y4, y5, y6, y7, rfl, rfl, rfl, rfl⟩ := At.form (Own.at _ hown)
      go_wp2
      go_roundw
      case rel =>
        have s0 := heap_setCell_same w1 _ (k * 4) cur _ (.int .i64 y0) HG1.out
        have s1 := heap_setCell_same _ _ (k * 4 + 1) _ _ (.string y1) s0
        have s2 := heap_setCell_same _ _ (k * 4 + 2) _ _ (.slice y2 y4 y5) s1
        have s3 := heap_setCell_same _ _ (k * 4 + 3) _ _ (.slice y3 y6 y7) s2
        obtain ⟨hr0, hrk, hr⟩ := HRR.out
        have hsz := HS.out
        have hbb : Below w.heap.size w ((((w1.setCell ⟨w.heap.size, k * 4, none⟩ (.int .i64 y0)).setCell ⟨w.heap.size, k * 4 + 1, none⟩ (.string y1)).setCell ⟨w.heap.size, k * 4 + 2, none⟩ (.slice y2 y4 y5)).setCell ⟨w.heap.size, k * 4 + 3, none⟩ (.slice y3 y6 y7)) :=
          ((((below_trans hbel hb1).setCell (Nat.le_refl _) _).setCell (Nat.le_refl _) _).setCell (Nat.le_refl _) _).setCell (Nat.le_refl _) _
        have hkept : ∀ b, w.heap.size < b → ((((w1.setCell ⟨w.heap.size, k * 4, none⟩ (.int .i64 y0)).setCell ⟨w.heap.size, k * 4 + 1, none⟩ (.string y1)).setCell ⟨w.heap.size, k * 4 + 2, none⟩ (.slice y2 y4 y5)).setCell ⟨w.heap.size, k * 4 + 3, none⟩ (.slice y3 y6 y7)).heap[b]? = w1.heap[b]? := fun b hb => by
          rw [Below.heap_setCell _ _ _ _ (by simp only; omega), Below.heap_setCell _ _ _ _ (by simp only; omega), Below.heap_setCell _ _ _ _ (by simp only; omega), Below.heap_setCell _ _ _ _ (by simp only; omega)]
        have hb1s := hb1.size
        have rr : ∀ i, i ≤ k → w.heap.size < r i := fun i hi => Nat.lt_of_lt_of_le hr0 (r_le hr (Nat.zero_le i) hi)
        refine ⟨k + 1, _, fun i => if i ≤ k then r i else w1.heap.size, by omega, by go_num, by simpa using hr0, by simp only [if_neg (show ¬ k + 1 ≤ k by omega)]; simp [World.setCell], fun i hi => ?_, s3, by simpa using hsz, fun i hi => ?_, hbb⟩
        · by_cases hik : i < k
          · simp only [if_pos (show i ≤ k by omega), if_pos (show i + 1 ≤ k by omega)]; exact hr i hik
          · obtain rfl : i = k := by omega
            simp only [Nat.le_refl, if_true, if_neg (show ¬ i + 1 ≤ i by omega)]; omega
        · by_cases hik : i < k
          · obtain ⟨e0, e1, e2, e3, q0, q1, q2, q3, ho⟩ := HD.out i hik
            refine ⟨e0, e1, e2, e3, ?_, ?_, ?_, ?_, ?_⟩
            · rw [Array.getElem?_setIfInBounds_ne (by omega), Array.getElem?_setIfInBounds_ne (by omega), Array.getElem?_setIfInBounds_ne (by omega), Array.getElem?_setIfInBounds_ne (by omega)]; exact q0
            · rw [Array.getElem?_setIfInBounds_ne (by omega), Array.getElem?_setIfInBounds_ne (by omega), Array.getElem?_setIfInBounds_ne (by omega), Array.getElem?_setIfInBounds_ne (by omega)]; exact q1
            · rw [Array.getElem?_setIfInBounds_ne (by omega), Array.getElem?_setIfInBounds_ne (by omega), Array.getElem?_setIfInBounds_ne (by omega), Array.getElem?_setIfInBounds_ne (by omega)]; exact q2
            · rw [Array.getElem?_setIfInBounds_ne (by omega), Array.getElem?_setIfInBounds_ne (by omega), Array.getElem?_setIfInBounds_ne (by omega), Array.getElem?_setIfInBounds_ne (by omega)]; exact q3
            · simp only [if_pos (show i ≤ k by omega), if_pos (show i + 1 ≤ k by omega)]
              refine Own.same _ ho fun b p1 p2 => ?_
              have := rr i (by omega)
              have := r_le hr (i := i + 1) (j := k) hik (Nat.le_refl k)
              rw [hkept b (by omega)]
              exact hb1.block b (by omega)
          · obtain rfl : i = k := by omega
            refine ⟨.int .i64 y0, .string y1, .slice y2 y4 y5, .slice y3 y6 y7, ?_, ?_, ?_, ?_, ?_⟩
            · rw [Array.getElem?_setIfInBounds_ne (by omega), Array.getElem?_setIfInBounds_ne (by omega), Array.getElem?_setIfInBounds_ne (by omega), Array.getElem?_setIfInBounds_self_of_lt (by omega)]
            · rw [Array.getElem?_setIfInBounds_ne (by omega), Array.getElem?_setIfInBounds_ne (by omega), Array.getElem?_setIfInBounds_self_of_lt (by simp; omega)]
            · rw [Array.getElem?_setIfInBounds_ne (by omega), Array.getElem?_setIfInBounds_self_of_lt (by simp; omega)]
            · rw [Array.getElem?_setIfInBounds_self_of_lt (by simp; omega)]
            · simp only [Nat.le_refl, if_true, if_neg (show ¬ i + 1 ≤ i by omega)]
              refine Own.wide _ (Own.same _ hown fun b p1 p2 => ?_) hrk (Nat.le_refl _)
              have := rr i (Nat.le_refl i)
              exact hkept b (by omega)
      case measure => simp [intOf]; omega
    · go_wp2
      go_ret
      obtain rfl : k = n := by omega
      obtain ⟨hr0, hrk, hr⟩ := HRR.out
      exact ⟨_, rfl, ⟨w.heap.size, r, cur, rfl, by unfold maxLen; omega, Nat.le_refl _, hr0, hrk, hr, HG.out, HS.out, HD.out⟩, hbel⟩

theorem toV : ∀ v : V, ToOne v
  | .no => fun _ _ _ _ _ _ h => h.elim
  | .mk k t n it m nm => by
    intro w c0 c1 c2 c3 hs h
    obtain ⟨rfl, rfl, ht, hI, hN⟩ := At_mk.1 h
    have hit : ∀ i, i < n → ToOne (it i) := fun i _ => toV (it i)
    rw [sz_mk] at hs
    clear h
    obtain ⟨y2, y3, hy2⟩ : ∃ A c, c2 = .slice A n c := by
      obtain ⟨A, cap, e, -⟩ := hI; exact ⟨A, cap, e⟩
    obtain ⟨y4, y5, hy3⟩ : ∃ A c, c3 = .slice A m c := by
      obtain ⟨A, cap, e, -⟩ := hN; exact ⟨A, cap, e⟩
    subst hy2 hy3
    go_enter Try.func7, Try.ntmps7
    go_wp2_with fail
    obtain ⟨W1, hW1⟩ : ∃ W1, (((w.alloc (Obj.cells #[Value.int IntKind.i64 k, Value.string t, Value.slice y2 n y3, Value.slice y4 m y5] 25)).alloc (Obj.cells #[Value.int IntKind.i64 0, Value.string { data := #[] }, Value.slice none 0 0, Value.slice none 0 0] 30)).alloc (Obj.cells #[Value.int IntKind.i64 k, Value.string t, Value.slice none 0 0, Value.slice none 0 0] 30)) = W1 := ⟨_, rfl⟩
    have ba : Below w.heap.size w W1 := by rw [← hW1]; exact ((below_alloc _ _).alloc (by simp) _).alloc (by simp; omega) _
    have hz : W1.heap.size = w.heap.size + 3 := by rw [← hW1]; simp
    have hB0 : W1.heap[w.heap.size]? = some (Obj.cells #[Value.int IntKind.i64 k, Value.string t, Value.slice y2 n y3, Value.slice y4 m y5] 25) := by
      rw [← hW1, Below.heap_alloc _ _ _ (by simp; omega), Below.heap_alloc _ _ _ (by simp)]; exact heap_alloc_new w _
    have hB1 : W1.heap[w.heap.size + 1]? = some (Obj.cells #[Value.int IntKind.i64 0, Value.string { data := #[] }, Value.slice none 0 0, Value.slice none 0 0] 30) := by
      rw [← hW1, Below.heap_alloc _ _ _ (by simp)]
      have := heap_alloc_new (w.alloc (Obj.cells #[Value.int IntKind.i64 k, Value.string t, Value.slice y2 n y3, Value.slice y4 m y5] 25)) (Obj.cells #[Value.int IntKind.i64 0, Value.string { data := #[] }, Value.slice none 0 0, Value.slice none 0 0] 30)
      simpa using this
    have hB2 : W1.heap[w.heap.size + 1 + 1]? = some (Obj.cells #[Value.int IntKind.i64 k, Value.string t, Value.slice none 0 0, Value.slice none 0 0] 30) := by
      rw [← hW1]
      have := heap_alloc_new ((w.alloc (Obj.cells #[Value.int IntKind.i64 k, Value.string t, Value.slice y2 n y3, Value.slice y4 m y5] 25)).alloc (Obj.cells #[Value.int IntKind.i64 0, Value.string { data := #[] }, Value.slice none 0 0, Value.slice none 0 0] 30)) (Obj.cells #[Value.int IntKind.i64 k, Value.string t, Value.slice none 0 0, Value.slice none 0 0] 30)
      simpa using this
    rw [hW1]
    clear hW1
    refine (toI hit (by omega) W1 (hI.below ba)).mono ?_
    rintro e w1 ⟨d, rfl, hoI, hb1⟩
    obtain ⟨gi, hd⟩ : ∃ g, d = .slice (some ⟨g, 0, none⟩) n n := by obtain ⟨g, r, cur, e, -⟩ := hoI; exact ⟨g, e⟩
    subst hd
    have g0 := (hb1.block _ (by omega)).trans hB0
    have g1 := (hb1.block _ (by omega)).trans hB1
    have g2 := (hb1.block _ (by omega)).trans hB2
    have hba2 := below_trans ba hb1
    have hsz1 := hb1.size
    rw [hz] at hsz1 hoI
    clear hB0 hB1 hB2 ba hb1 hz
    have q1 : w1.cell? ⟨w.heap.size + 1 + 1, 2, none⟩ = some (.slice none 0 0) := by rw [cell_of g2]; rfl
    have q2 : w1.frozen? ⟨w.heap.size + 1 + 1, 2, none⟩ = false := frozen_no g2 _
    have q3 : w1.cell? ⟨w.heap.size, 3, none⟩ = some (.slice y4 m y5) := by rw [cell_of g0]; rfl
    have G0 : Hid (w1.heap[w.heap.size]? = some (Obj.cells #[Value.int IntKind.i64 k, Value.string t, Value.slice y2 n y3, Value.slice y4 m y5] 25)) := g0
    have G1 : Hid (w1.heap[w.heap.size + 1]? = some (Obj.cells #[Value.int IntKind.i64 0, Value.string { data := #[] }, Value.slice none 0 0, Value.slice none 0 0] 30)) := g1
    have G2 : Hid (w1.heap[w.heap.size + 1 + 1]? = some (Obj.cells #[Value.int IntKind.i64 k, Value.string t, Value.slice none 0 0, Value.slice none 0 0] 30)) := g2
    clear g0 g1 g2
    go_wp2_with fail
    obtain ⟨W2, hW2⟩ : ∃ W2, (w1.setCell ⟨w.heap.size + 1 + 1, 2, none⟩ (Value.slice (some ⟨gi, 0, none⟩) n n)) = W2 := ⟨_, rfl⟩
    have ba2 : Below w.heap.size w W2 := by rw [← hW2]; exact hba2.setCell (by simp only; omega) _
    have hz2 : W2.heap.size = w1.heap.size := by rw [← hW2]; simp [World.setCell]
    have hoI2 : OwnI W2 (w.heap.size + 3) w1.heap.size n it (.slice (some ⟨gi, 0, none⟩) n n) := hoI.same fun b p1 p2 => by
      rw [← hW2, Below.heap_setCell _ _ _ _ (by simp only; omega)]
    have hC1 : W2.heap[w.heap.size + 1]? = some (Obj.cells #[Value.int IntKind.i64 0, Value.string { data := #[] }, Value.slice none 0 0, Value.slice none 0 0] 30) := by
      rw [← hW2, Below.heap_setCell _ _ _ _ (by simp only; omega)]; exact G1.out
    have hC2 : W2.heap[w.heap.size + 1 + 1]? = some (Obj.cells #[Value.int IntKind.i64 k, Value.string t, Value.slice (some ⟨gi, 0, none⟩) n n, Value.slice none 0 0] 30) := by
      rw [← hW2]; exact heap_setCell_same w1 _ 2 _ _ _ G2.out
    rw [hW2]
    clear hW2 G0 G1 G2 q1 q2 q3 hba2 hoI
    refine (toN (by unfold sznm at hs; omega) W2 (hN.below ba2)).mono ?_
    rintro e w3 ⟨d, rfl, hoN, hb3⟩
    obtain ⟨gn, hd⟩ : ∃ g, d = .slice (some ⟨g, 0, none⟩) m m := by obtain ⟨g, cur, e, -⟩ := hoN; exact ⟨g, e⟩
    subst hd
    have g1 := (hb3.block _ (by omega)).trans hC1
    have g2 := (hb3.block _ (by omega)).trans hC2
    have hoI3 : OwnI w3 (w.heap.size + 3) w1.heap.size n it (.slice (some ⟨gi, 0, none⟩) n n) := hoI2.same fun b p1 p2 => hb3.block b (by omega)
    have ba3 := below_trans ba2 hb3
    have hsz3 := hb3.size
    rw [hz2] at hoN hsz3
    clear hC1 hC2 hoI2 hb3 ba2 hz2
    have q1 : w3.cell? ⟨w.heap.size + 1 + 1, 0, none⟩ = some (.int .i64 k) := by rw [cell_of g2]; rfl
    have q2 : w3.cell? ⟨w.heap.size + 1 + 1, 1, none⟩ = some (.string t) := by rw [cell_of g2]; rfl
    have q3 : w3.cell? ⟨w.heap.size + 1 + 1, 2, none⟩ = some (.slice (some ⟨gi, 0, none⟩) n n) := by rw [cell_of g2]; rfl
    have q4 : w3.cell? ⟨w.heap.size + 1 + 1, 3, none⟩ = some (.slice none 0 0) := by rw [cell_of g2]; rfl
    have q5 : w3.frozen? ⟨w.heap.size + 1 + 1, 3, none⟩ = false := frozen_no g2 _
    have u0 : w3.cell? ⟨w.heap.size + 1, 0, none⟩ = some (.int .i64 0) := by rw [cell_of g1]; rfl
    have u1 : w3.cell? ⟨w.heap.size + 1, 1, none⟩ = some (.string ⟨#[]⟩) := by rw [cell_of g1]; rfl
    have u2 : w3.cell? ⟨w.heap.size + 1, 2, none⟩ = some (.slice none 0 0) := by rw [cell_of g1]; rfl
    have u3 : w3.cell? ⟨w.heap.size + 1, 3, none⟩ = some (.slice none 0 0) := by rw [cell_of g1]; rfl
    have z0 : w3.frozen? ⟨w.heap.size + 1, 0, none⟩ = false := frozen_no g1 _
    have z1 : w3.frozen? ⟨w.heap.size + 1, 1, none⟩ = false := frozen_no g1 _
    have z2 : w3.frozen? ⟨w.heap.size + 1, 2, none⟩ = false := frozen_no g1 _
    have z3 : w3.frozen? ⟨w.heap.size + 1, 3, none⟩ = false := frozen_no g1 _
    have K1 : Hid (w3.heap[w.heap.size + 1]? = some (Obj.cells #[Value.int IntKind.i64 0, Value.string { data := #[] }, Value.slice none 0 0, Value.slice none 0 0] 30)) := g1
    clear g1 g2
    go_wp2
    obtain ⟨W4, hW4⟩ : ∃ W4, (((((w3.setCell ⟨w.heap.size + 1 + 1, 3, none⟩ (.slice (some ⟨gn, 0, none⟩) m m)).setCell ⟨w.heap.size + 1, 0, none⟩ (.int .i64 k)).setCell ⟨w.heap.size + 1, 1, none⟩ (.string t)).setCell ⟨w.heap.size + 1, 2, none⟩ (.slice (some ⟨gi, 0, none⟩) n n)).setCell ⟨w.heap.size + 1, 3, none⟩ (.slice (some ⟨gn, 0, none⟩) m m)) = W4 := ⟨_, rfl⟩
    have hg4 : W4.heap[w.heap.size + 1]? = some (Obj.cells #[.int .i64 k, .string t, .slice (some ⟨gi, 0, none⟩) n n, .slice (some ⟨gn, 0, none⟩) m m] 30) := by
      rw [← hW4]
      refine heap_setCell_same _ _ 3 #[.int .i64 k, .string t, .slice (some ⟨gi, 0, none⟩) n n, .slice none 0 0] _ _ ?_
      refine heap_setCell_same _ _ 2 #[.int .i64 k, .string t, .slice none 0 0, .slice none 0 0] _ _ ?_
      refine heap_setCell_same _ _ 1 #[.int .i64 k, .string ⟨#[]⟩, .slice none 0 0, .slice none 0 0] _ _ ?_
      refine heap_setCell_same _ _ 0 #[.int .i64 0, .string ⟨#[]⟩, .slice none 0 0, .slice none 0 0] _ _ ?_
      rw [Below.heap_setCell _ _ _ _ (by simp only; omega)]
      exact K1.out
    have hkept : ∀ b, w.heap.size + 2 < b → W4.heap[b]? = w3.heap[b]? := fun b hb => by
      rw [← hW4, Below.heap_setCell _ _ _ _ (by simp only; omega), Below.heap_setCell _ _ _ _ (by simp only; omega), Below.heap_setCell _ _ _ _ (by simp only; omega), Below.heap_setCell _ _ _ _ (by simp only; omega), Below.heap_setCell _ _ _ _ (by simp only; omega)]
    have hz4 : W4.heap.size = w3.heap.size := by rw [← hW4]; simp [World.setCell]
    have ba4 : Below w.heap.size w W4 := by
      rw [← hW4]; exact ((((ba3.setCell (by simp only; omega) _).setCell (by simp only; omega) _).setCell (by simp only; omega) _).setCell (by simp only; omega) _).setCell (by simp only; omega) _
    rw [hW4]
    clear hW4
    (try simp only [Exit.inBlock, Exit.then])
    refine bodyPost_ret (results_cell_row rfl _ W4 (w.heap.size + 1) _ _ _ _ rfl hg4 Try.underlying30 rfl (by kernel_rfl)) rfl ?_
    refine ⟨_, _, _, _, rfl, Own_mk.2 ⟨rfl, rfl, ht, w1.heap.size, ?_, ?_⟩, ba4⟩
    · exact (hoI3.same fun b p1 p2 => hkept b (by omega)).wide (by omega) (Nat.le_refl _)
    · rw [hz4]
      exact hoN.same fun b p1 p2 => hkept b (by omega)
theorem keep4 {W x : World} {B : Nat} {t : TypeId} {c0 c1 c2 c3 : Value} (hb : Below W.heap.size W x) (h : W.heap[B]? = some (Obj.cells #[c0, c1, c2, c3] t)) :
    x.cell? ⟨B, 0, none⟩ = some c0 ∧ x.cell? ⟨B, 1, none⟩ = some c1 ∧ x.cell? ⟨B, 2, none⟩ = some c2 ∧ x.cell? ⟨B, 3, none⟩ = some c3 := by
  have h2 := (hb.block B (lt_of h)).trans h
  exact ⟨by rw [cell_of h2]; rfl, by rw [cell_of h2]; rfl, by rw [cell_of h2]; rfl, by rw [cell_of h2]; rfl⟩

theorem keepA {W x : World} {B : Nat} {t : TypeId} {c0 c1 c2 c3 : Value} (hb : Below W.heap.size W x) (h : W.heap[B]? = some (Obj.cells #[c0, c1, c2, c3] t)) :
    (∀ o, (x.alloc o).cell? ⟨B, 0, none⟩ = some c0) ∧ (∀ o, (x.alloc o).cell? ⟨B, 1, none⟩ = some c1) ∧ (∀ o, (x.alloc o).cell? ⟨B, 2, none⟩ = some c2) ∧ ∀ o, (x.alloc o).cell? ⟨B, 3, none⟩ = some c3 :=
  ⟨fun o => (keep4 (below_trans hb (below_alloc x o)) h).1, fun o => (keep4 (below_trans hb (below_alloc x o)) h).2.1, fun o => (keep4 (below_trans hb (below_alloc x o)) h).2.2.1, fun o => (keep4 (below_trans hb (below_alloc x o)) h).2.2.2⟩
end Va
end Go.Proofs.Ytngfhncdmlpjiaa
