/- What is proved: what the laws' copy of names with values is: the same ones, in new memory of its own. -/
import Derived.Test.YtngfhncdmlpjiaaArA
import Derived.Test.YtngfhncdmlpjiaaVt
namespace Go.Proofs.Ytngfhncdmlpjiaa
namespace Va
open Go.RowKit
attribute [local go_sem ↓] Go.wp_at_zero Go.wp_at_succ

def zeroAr : Value := .agg #[.string ⟨#[]⟩, .int .i64 0, .string ⟨#[]⟩, .slice none 0 0, .slice none 0 0]
theorem infoAr : (Try.prog.info? 51).map (fun i => (i.zero, i.size, i.bytes)) = some (some zeroAr, 5, 88) := by kernel_rfl
theorem undAr : Try.prog.underlying 36 = some (.slice 51) := by kernel_rfl
theorem makeAr (n : Nat) (hn : n ≤ 1048576) : ∃ cur : Array Value, cur.size = n * 5 ∧ ∀ w : World, (Instr.makeSlice 36 (.int .i64 (n : Int)) (.int .i64 (n : Int))).run Try.prog w = .ok (.slice (some ⟨w.heap.size, 0, none⟩) n n) (w.alloc (.cells cur 51)) := by
  obtain ⟨i, hi, hzz⟩ := Option.map_eq_some_iff.1 infoAr
  simp only [Prod.mk.injEq] at hzz
  obtain ⟨hz, hs, hb⟩ := hzz
  refine ⟨madeCells zeroAr.cells (n * 5), size_madeCells _ _, fun w => ?_⟩
  have := run_make (P := Try.prog) w 36 51 i zeroAr undAr hi hz .i64 .i64 n n (by omega) (by omega) (by rw [hb]; omega) (by omega)
  rw [hs] at this
  simpa using this

set_option maxHeartbeats 4000000 in
theorem toOneArg (t : ByteArray) (v : V) (w : World) (c0 c1 c2 c3 : Value) (hs : sz v ≤ 1048576) (h : At w v c0 c1 c2 c3) :
    Calls Try.prog 25 #[.agg #[.string t, c0, c1, c2, c3]] w fun e w' => ∃ d0 d1 d2 d3, e = .returned (.agg #[.string t, d0, d1, d2, d3]) ∧ Own w' v w.heap.size w'.heap.size d0 d1 d2 d3 ∧ Below w.heap.size w w' := by
  have HA := Lib.hid h
  obtain ⟨x0, x1, x2, x3, x4, x5, x6, x7, rfl, rfl, rfl, rfl⟩ := At.form h
  clear h
  go_enter Try.func25, Try.ntmps25
  go_wp2_with fail
  obtain ⟨W1, hW1⟩ : ∃ W1, (((w.alloc (Obj.cells #[Value.string t, .int .i64 x0, .string x1, .slice x2 x4 x5, .slice x3 x6 x7] 49)).alloc (Obj.cells #[Value.string { data := #[] }, .int .i64 0, .string { data := #[] }, Value.slice none 0 0, Value.slice none 0 0] 51)).alloc (Obj.cells #[Value.string t, .int .i64 0, .string { data := #[] }, Value.slice none 0 0, Value.slice none 0 0] 51)) = W1 := ⟨_, rfl⟩
  have ba : Below w.heap.size w W1 := by rw [← hW1]; exact ((below_alloc _ _).alloc (by simp) _).alloc (by simp; omega) _
  have hz : W1.heap.size = w.heap.size + 3 := by rw [← hW1]; simp
  have hB1 : W1.heap[w.heap.size + 1]? = some (Obj.cells #[Value.string { data := #[] }, .int .i64 0, .string { data := #[] }, Value.slice none 0 0, Value.slice none 0 0] 51) := by
    rw [← hW1, Below.heap_alloc _ _ _ (by simp)]
    have := heap_alloc_new (w.alloc (Obj.cells #[Value.string t, .int .i64 x0, .string x1, .slice x2 x4 x5, .slice x3 x6 x7] 49)) (Obj.cells #[Value.string { data := #[] }, .int .i64 0, .string { data := #[] }, Value.slice none 0 0, Value.slice none 0 0] 51)
    simpa using this
  have hB2 : W1.heap[w.heap.size + 1 + 1]? = some (Obj.cells #[Value.string t, .int .i64 0, .string { data := #[] }, Value.slice none 0 0, Value.slice none 0 0] 51) := by
    rw [← hW1]
    have := heap_alloc_new ((w.alloc (Obj.cells #[Value.string t, .int .i64 x0, .string x1, .slice x2 x4 x5, .slice x3 x6 x7] 49)).alloc (Obj.cells #[Value.string { data := #[] }, .int .i64 0, .string { data := #[] }, Value.slice none 0 0, Value.slice none 0 0] 51)) (Obj.cells #[Value.string t, .int .i64 0, .string { data := #[] }, Value.slice none 0 0, Value.slice none 0 0] 51)
    simpa using this
  rw [hW1]
  clear hW1
  refine (toV v W1 _ _ _ _ hs (At.below ba v HA.out)).mono ?_
  rintro e w3 ⟨d0, d1, d2, d3, rfl, hown, hb3⟩
  obtain ⟨y0, y1, y2, y3, y4, y5, y6, y7, rfl, rfl, rfl, rfl⟩ := At.form (Own.at _ hown)
  have g1 := (hb3.block _ (by omega)).trans hB1
  have g2 := (hb3.block _ (by omega)).trans hB2
  have ba3 := below_trans ba hb3
  have hsz3 := hb3.size
  rw [hz] at hown hsz3
  clear hB1 hB2 hb3 ba hz
  have p0 : w3.cell? ⟨w.heap.size + 1 + 1, 0, none⟩ = some (.string t) := by rw [cell_of g2]; rfl
  have p1 : w3.cell? ⟨w.heap.size + 1 + 1, 1, none⟩ = some (.int .i64 0) := by rw [cell_of g2]; rfl
  have p2 : w3.cell? ⟨w.heap.size + 1 + 1, 2, none⟩ = some (.string ⟨#[]⟩) := by rw [cell_of g2]; rfl
  have p3 : w3.cell? ⟨w.heap.size + 1 + 1, 3, none⟩ = some (.slice none 0 0) := by rw [cell_of g2]; rfl
  have p4 : w3.cell? ⟨w.heap.size + 1 + 1, 4, none⟩ = some (.slice none 0 0) := by rw [cell_of g2]; rfl
  have r1 : w3.frozen? ⟨w.heap.size + 1 + 1, 1, none⟩ = false := frozen_no g2 _
  have r2 : w3.frozen? ⟨w.heap.size + 1 + 1, 2, none⟩ = false := frozen_no g2 _
  have r3 : w3.frozen? ⟨w.heap.size + 1 + 1, 3, none⟩ = false := frozen_no g2 _
  have r4 : w3.frozen? ⟨w.heap.size + 1 + 1, 4, none⟩ = false := frozen_no g2 _
  have u0 : w3.cell? ⟨w.heap.size + 1, 0, none⟩ = some (.string ⟨#[]⟩) := by rw [cell_of g1]; rfl
  have u1 : w3.cell? ⟨w.heap.size + 1, 1, none⟩ = some (.int .i64 0) := by rw [cell_of g1]; rfl
  have u2 : w3.cell? ⟨w.heap.size + 1, 2, none⟩ = some (.string ⟨#[]⟩) := by rw [cell_of g1]; rfl
  have u3 : w3.cell? ⟨w.heap.size + 1, 3, none⟩ = some (.slice none 0 0) := by rw [cell_of g1]; rfl
  have u4 : w3.cell? ⟨w.heap.size + 1, 4, none⟩ = some (.slice none 0 0) := by rw [cell_of g1]; rfl
  have z0 : w3.frozen? ⟨w.heap.size + 1, 0, none⟩ = false := frozen_no g1 _
  have z1 : w3.frozen? ⟨w.heap.size + 1, 1, none⟩ = false := frozen_no g1 _
  have z2 : w3.frozen? ⟨w.heap.size + 1, 2, none⟩ = false := frozen_no g1 _
  have z3 : w3.frozen? ⟨w.heap.size + 1, 3, none⟩ = false := frozen_no g1 _
  have z4 : w3.frozen? ⟨w.heap.size + 1, 4, none⟩ = false := frozen_no g1 _
  have K1 := Lib.hid g1
  clear g1 g2
  go_wp2
  obtain ⟨W4, hW4⟩ : ∃ W4, (((((((((w3.setCell ⟨w.heap.size + 1 + 1, 1, none⟩ (.int .i64 y0)).setCell ⟨w.heap.size + 1 + 1, 2, none⟩ (.string y1)).setCell ⟨w.heap.size + 1 + 1, 3, none⟩ (.slice y2 y4 y5)).setCell ⟨w.heap.size + 1 + 1, 4, none⟩ (.slice y3 y6 y7)).setCell ⟨w.heap.size + 1, 0, none⟩ (.string t)).setCell ⟨w.heap.size + 1, 1, none⟩ (.int .i64 y0)).setCell ⟨w.heap.size + 1, 2, none⟩ (.string y1)).setCell ⟨w.heap.size + 1, 3, none⟩ (.slice y2 y4 y5)).setCell ⟨w.heap.size + 1, 4, none⟩ (.slice y3 y6 y7)) = W4 := ⟨_, rfl⟩
  have hg4 : W4.heap[w.heap.size + 1]? = some (Obj.cells #[.string t, .int .i64 y0, .string y1, .slice y2 y4 y5, .slice y3 y6 y7] 51) := by
    rw [← hW4]
    refine heap_setCell_same _ _ 4 #[.string t, .int .i64 y0, .string y1, .slice y2 y4 y5, .slice none 0 0] _ _ ?_
    refine heap_setCell_same _ _ 3 #[.string t, .int .i64 y0, .string y1, .slice none 0 0, .slice none 0 0] _ _ ?_
    refine heap_setCell_same _ _ 2 #[.string t, .int .i64 y0, .string ⟨#[]⟩, .slice none 0 0, .slice none 0 0] _ _ ?_
    refine heap_setCell_same _ _ 1 #[.string t, .int .i64 0, .string ⟨#[]⟩, .slice none 0 0, .slice none 0 0] _ _ ?_
    refine heap_setCell_same _ _ 0 #[.string ⟨#[]⟩, .int .i64 0, .string ⟨#[]⟩, .slice none 0 0, .slice none 0 0] _ _ ?_
    rw [Below.heap_setCell _ _ _ _ (by simp only; omega), Below.heap_setCell _ _ _ _ (by simp only; omega), Below.heap_setCell _ _ _ _ (by simp only; omega), Below.heap_setCell _ _ _ _ (by simp only; omega)]
    exact K1.out
  have hkept : ∀ b, w.heap.size + 2 < b → W4.heap[b]? = w3.heap[b]? := fun b hb => by
    rw [← hW4, Below.heap_setCell _ _ _ _ (by simp only; omega), Below.heap_setCell _ _ _ _ (by simp only; omega), Below.heap_setCell _ _ _ _ (by simp only; omega), Below.heap_setCell _ _ _ _ (by simp only; omega), Below.heap_setCell _ _ _ _ (by simp only; omega), Below.heap_setCell _ _ _ _ (by simp only; omega), Below.heap_setCell _ _ _ _ (by simp only; omega), Below.heap_setCell _ _ _ _ (by simp only; omega), Below.heap_setCell _ _ _ _ (by simp only; omega)]
  have hz4 : W4.heap.size = w3.heap.size := by rw [← hW4]; simp [World.setCell]
  have ba4 : Below w.heap.size w W4 := by
    rw [← hW4]; exact ((((((((ba3.setCell (by simp only; omega) _).setCell (by simp only; omega) _).setCell (by simp only; omega) _).setCell (by simp only; omega) _).setCell (by simp only; omega) _).setCell (by simp only; omega) _).setCell (by simp only; omega) _).setCell (by simp only; omega) _).setCell (by simp only; omega) _
  rw [hW4]
  clear hW4
  (try simp only [Exit.inBlock, Exit.then])
  refine bodyPost_ret (results_cell_row rfl _ W4 (w.heap.size + 1) _ _ _ _ rfl hg4 Try.underlying51 rfl (by kernel_rfl)) rfl ?_
  refine ⟨_, _, _, _, rfl, ?_, ba4⟩
  rw [hz4]
  exact Own.wide v (Own.same v hown fun b p1 p2 => hkept b (by omega)) (by omega) (Nat.le_refl _)

set_option maxHeartbeats 4000000 in
theorem toA {n : Nat} {nm : Nat → ByteArray} {it : Nat → V} {c : Value} (hs : sza n nm it ≤ 1048576) (w : World) (h : Ars w n nm it c) :
    Calls Try.prog 12 #[c] w fun e w' => ∃ d, e = .returned d ∧ OwnA w' w.heap.size w'.heap.size n nm it d ∧ Below w.heap.size w w' := by
  have HI := h
  obtain ⟨A, cap, rfl, hm, -⟩ := h
  unfold maxLen at hm
  have hn : n ≤ 1048576 := by unfold sza at hs; omega
  obtain ⟨cur0, hcur0, hmk⟩ := makeAr n hn
  have HCu : Hid (cur0.size = n * 5) := hcur0
  clear hcur0
  go_enter Try.func12, Try.ntmps12
  go_wp2
  clear hmk
  go_loopw [4] (fun i wr => ∃ (k : Nat) (cur : Array Value) (r : Nat → Nat), k ≤ n ∧ i = .int .i64 k ∧ w.heap.size < r 0 ∧ r k ≤ wr.heap.size ∧ (∀ i, i < k → r i ≤ r (i + 1)) ∧ wr.heap[w.heap.size]? = some (.cells cur 51 (0, 0)) ∧ cur.size = n * 5 ∧
      (∀ i, i < k → ∃ d0 d1 d2 d3, cur[i * 5]? = some (.string (nm i)) ∧ (nm i).size ≤ maxLen ∧ cur[i * 5 + 1]? = some d0 ∧ cur[i * 5 + 2]? = some d1 ∧ cur[i * 5 + 3]? = some d2 ∧ cur[i * 5 + 4]? = some d3 ∧ Own wr (it i) (r i) (r (i + 1)) d0 d1 d2 d3) ∧ Below w.heap.size w wr) (fun i _ => n - (intOf i).toNat)
  case atStart => exact ⟨0, cur0, fun _ => w.heap.size + 1, Nat.zero_le _, rfl, by simp only; omega, by simp, fun i hi => absurd hi (Nat.not_lt_zero _), heap_alloc_new w _, HCu.out, fun j hj => absurd hj (Nat.not_lt_zero _), below_alloc _ _⟩
  case round =>
    obtain ⟨k, cur, r, hk, rfl, hr0, hrk, hr, hg, hcs, hdone, hbel⟩ := hrel
    have HG : Hid (wr.heap[w.heap.size]? = some (.cells cur 51 (0, 0))) := hg
    have HD := Lib.hid hdone
    have HS : Hid (cur.size = n * 5) := hcs
    have HRR : Hid (w.heap.size < r 0 ∧ r k ≤ wr.heap.size ∧ ∀ i, i < k → r i ≤ r (i + 1)) := ⟨hr0, hrk, hr⟩
    clear hg hdone hcs hr hr0 hrk
    by_cases hlt : k < n
    · have hk0 : (0 : Int) ≤ (k : Int) := by omega
      have hk1 : (k : Int) < (n : Int) := by omega
      obtain ⟨b, o, c0, c1, c2, c3, e2, hf, hns, hat⟩ := (HI.below hbel).nth hlt
      subst e2
      obtain ⟨fn, f0, f1, f2, f3⟩ := hf
      have HNS := Lib.hid hns
      clear hns
      have cc := toOneArg (nm k) (it k) wr c0 c1 c2 c3 (by have := sza_item (nm := nm) (it := it) hlt; omega) hat
      go_wp2_with fail
      refine cc.mono ?_
      rintro e w1 ⟨d0, d1, d2, d3, rfl, hown, hb1⟩
      have HG1 : Hid (w1.heap[w.heap.size]? = some (.cells cur 51 (0, 0))) := (hb1.block _ (lt_of HG.out)).trans HG.out
      have each : ∀ j, j < 5 → ∃ old, w1.cell? ⟨w.heap.size, k * 5 + j, none⟩ = some old := fun j hj => by
        rw [cell_of HG1.out]; exact ⟨_, Array.getElem?_eq_getElem (by rw [HS.out]; omega)⟩
      obtain ⟨o0, p0⟩ := each 0 (by omega)
      obtain ⟨o1, p1⟩ := each 1 (by omega)
      obtain ⟨o2, p2⟩ := each 2 (by omega)
      obtain ⟨o3, p3⟩ := each 3 (by omega)
      obtain ⟨o4, p4⟩ := each 4 (by omega)
      have z0 : w1.frozen? ⟨w.heap.size, k * 5, none⟩ = false := frozen_no HG1.out _
      have z1 : w1.frozen? ⟨w.heap.size, k * 5 + 1, none⟩ = false := frozen_no HG1.out _
      have z2 : w1.frozen? ⟨w.heap.size, k * 5 + 2, none⟩ = false := frozen_no HG1.out _
      have z3 : w1.frozen? ⟨w.heap.size, k * 5 + 3, none⟩ = false := frozen_no HG1.out _
      have z4 : w1.frozen? ⟨w.heap.size, k * 5 + 4, none⟩ = false := frozen_no HG1.out _
      rw [Nat.add_zero] at p0
      clear each
      obtain ⟨y0, y1, y2, y3, y4, y5, y6, y7, rfl, rfl, rfl, rfl⟩ := At.form (Own.at _ hown)
      go_wp2
      go_roundw
      case rel =>
        have s0 := heap_setCell_same w1 _ (k * 5) cur _ (.string (nm k)) HG1.out
        have s1 := heap_setCell_same _ _ (k * 5 + 1) _ _ (.int .i64 y0) s0
        have s2 := heap_setCell_same _ _ (k * 5 + 2) _ _ (.string y1) s1
        have s3 := heap_setCell_same _ _ (k * 5 + 3) _ _ (.slice y2 y4 y5) s2
        have s4 := heap_setCell_same _ _ (k * 5 + 4) _ _ (.slice y3 y6 y7) s3
        obtain ⟨hr0, hrk, hr⟩ := HRR.out
        have hsz := HS.out
        obtain ⟨W4, hW4⟩ : ∃ W4, (((((w1.setCell ⟨w.heap.size, k * 5, none⟩ (.string (nm k))).setCell ⟨w.heap.size, k * 5 + 1, none⟩ (.int .i64 y0)).setCell ⟨w.heap.size, k * 5 + 2, none⟩ (.string y1)).setCell ⟨w.heap.size, k * 5 + 3, none⟩ (.slice y2 y4 y5)).setCell ⟨w.heap.size, k * 5 + 4, none⟩ (.slice y3 y6 y7)) = W4 := ⟨_, rfl⟩
        have hbb : Below w.heap.size w W4 := by
          rw [← hW4]; exact (((((below_trans hbel hb1).setCell (Nat.le_refl _) _).setCell (Nat.le_refl _) _).setCell (Nat.le_refl _) _).setCell (Nat.le_refl _) _).setCell (Nat.le_refl _) _
        have hkept : ∀ b, w.heap.size < b → W4.heap[b]? = w1.heap[b]? := fun b hb => by
          rw [← hW4, Below.heap_setCell _ _ _ _ (by simp only; omega), Below.heap_setCell _ _ _ _ (by simp only; omega), Below.heap_setCell _ _ _ _ (by simp only; omega), Below.heap_setCell _ _ _ _ (by simp only; omega), Below.heap_setCell _ _ _ _ (by simp only; omega)]
        have hz4 : W4.heap.size = w1.heap.size := by rw [← hW4]; simp [World.setCell]
        rw [hW4] at s4 ⊢
        clear hW4
        have hb1s := hb1.size
        have rr : ∀ i, i ≤ k → w.heap.size < r i := fun i hi => Nat.lt_of_lt_of_le hr0 (r_le hr (Nat.zero_le i) hi)
        refine ⟨k + 1, _, fun i => if i ≤ k then r i else w1.heap.size, by omega, by go_num, by simpa using hr0, by simp only [if_neg (show ¬ k + 1 ≤ k by omega)]; omega, fun i hi => ?_, s4, by simpa using hsz, fun i hi => ?_, hbb⟩
        · by_cases hik : i < k
          · simp only [if_pos (show i ≤ k by omega), if_pos (show i + 1 ≤ k by omega)]; exact hr i hik
          · obtain rfl : i = k := by omega
            simp only [Nat.le_refl, if_true, if_neg (show ¬ i + 1 ≤ i by omega)]; omega
        · by_cases hik : i < k
          · obtain ⟨e0, e1, e2, e3, qn, qs, q0, q1, q2, q3, ho⟩ := HD.out i hik
            refine ⟨e0, e1, e2, e3, ?_, qs, ?_, ?_, ?_, ?_, ?_⟩
            · rw [Array.getElem?_setIfInBounds_ne (by omega), Array.getElem?_setIfInBounds_ne (by omega), Array.getElem?_setIfInBounds_ne (by omega), Array.getElem?_setIfInBounds_ne (by omega), Array.getElem?_setIfInBounds_ne (by omega)]; exact qn
            · rw [Array.getElem?_setIfInBounds_ne (by omega), Array.getElem?_setIfInBounds_ne (by omega), Array.getElem?_setIfInBounds_ne (by omega), Array.getElem?_setIfInBounds_ne (by omega), Array.getElem?_setIfInBounds_ne (by omega)]; exact q0
            · rw [Array.getElem?_setIfInBounds_ne (by omega), Array.getElem?_setIfInBounds_ne (by omega), Array.getElem?_setIfInBounds_ne (by omega), Array.getElem?_setIfInBounds_ne (by omega), Array.getElem?_setIfInBounds_ne (by omega)]; exact q1
            · rw [Array.getElem?_setIfInBounds_ne (by omega), Array.getElem?_setIfInBounds_ne (by omega), Array.getElem?_setIfInBounds_ne (by omega), Array.getElem?_setIfInBounds_ne (by omega), Array.getElem?_setIfInBounds_ne (by omega)]; exact q2
            · rw [Array.getElem?_setIfInBounds_ne (by omega), Array.getElem?_setIfInBounds_ne (by omega), Array.getElem?_setIfInBounds_ne (by omega), Array.getElem?_setIfInBounds_ne (by omega), Array.getElem?_setIfInBounds_ne (by omega)]; exact q3
            · simp only [if_pos (show i ≤ k by omega), if_pos (show i + 1 ≤ k by omega)]
              refine Own.same _ ho fun b p1 p2 => ?_
              have := rr i (by omega)
              have := r_le hr (i := i + 1) (j := k) hik (Nat.le_refl k)
              rw [hkept b (by omega)]
              exact hb1.block b (by omega)
          · obtain rfl : i = k := by omega
            refine ⟨.int .i64 y0, .string y1, .slice y2 y4 y5, .slice y3 y6 y7, ?_, HNS.out, ?_, ?_, ?_, ?_, ?_⟩
            · rw [Array.getElem?_setIfInBounds_ne (by omega), Array.getElem?_setIfInBounds_ne (by omega), Array.getElem?_setIfInBounds_ne (by omega), Array.getElem?_setIfInBounds_ne (by omega), Array.getElem?_setIfInBounds_self_of_lt (by omega)]
            · rw [Array.getElem?_setIfInBounds_ne (by omega), Array.getElem?_setIfInBounds_ne (by omega), Array.getElem?_setIfInBounds_ne (by omega), Array.getElem?_setIfInBounds_self_of_lt (by simp; omega)]
            · rw [Array.getElem?_setIfInBounds_ne (by omega), Array.getElem?_setIfInBounds_ne (by omega), Array.getElem?_setIfInBounds_self_of_lt (by simp; omega)]
            · rw [Array.getElem?_setIfInBounds_ne (by omega), Array.getElem?_setIfInBounds_self_of_lt (by simp; omega)]
            · rw [Array.getElem?_setIfInBounds_self_of_lt (by simp; omega)]
            · simp only [Nat.le_refl, if_true, if_neg (show ¬ i + 1 ≤ i by omega)]
              refine Own.wide _ (Own.same _ hown fun b p1 p2 => ?_) hrk (Nat.le_refl _)
              have := rr i (Nat.le_refl i)
              exact hkept b (by omega)
      case measure => simp [intOf]; omega
    · go_wp2
      go_ret
      obtain rfl : k = n := by omega
      obtain ⟨hr0, hrk, hr⟩ := HRR.out
      exact ⟨_, rfl, ⟨w.heap.size, r, cur, rfl, by unfold maxLen; omega, Nat.le_refl _, hr0, hrk, hr, HG.out, HS.out, HD.out⟩, hbel⟩
end Va
end Go.Proofs.Ytngfhncdmlpjiaa
