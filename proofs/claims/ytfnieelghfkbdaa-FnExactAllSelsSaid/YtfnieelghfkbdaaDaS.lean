/- What is proved: all selections, one behind the other: the plain function, and the model's AllSels: the same, in new memory of its own. -/
import Derived.Test.YtfnieelghfkbdaaDaV
namespace Go.Proofs.Ytfnieelghfkbdaa
namespace Da
set_option linter.unusedVariables false
open Go.RowKit
attribute [local go_sem ↓] Go.wp_at_zero Go.wp_at_succ

def listTo {α : Type} (f : Nat → List α) : Nat → List α
  | 0 => []
  | n + 1 => listTo f n ++ f n
/-- Each row, and behind it all of its seventh cell. -/
def allRows : D → List (Nat → D)
  | .list _ n it => listTo (fun i => it i :: allRows (it i 6)) n
  | _ => []
theorem allRows_list (W n : Nat) (it : Nat → Nat → D) : allRows (.list W n it) = listTo (fun i => it i :: allRows (it i 6)) n := rfl
/-- Rows as a list. -/
def listD (L : List (Nat → D)) : D := .list 7 L.length fun i => L.getD i fun _ => .no
def allD (d : D) : D := listD (allRows d)

theorem listTo_len {α : Type} (f : Nat → List α) (n : Nat) : (listTo f n).length = sumTo (fun i => (f i).length) n := by
  induction n with
  | zero => rfl
  | succ n ih => simp only [listTo, sumTo, List.length_append, ih]
theorem sumTo_mono {f g : Nat → Nat} : ∀ (n : Nat), (∀ i, i < n → f i ≤ g i) → sumTo f n ≤ sumTo g n
  | 0, _ => Nat.le_refl _
  | n + 1, h => by
    have := sumTo_mono n fun i hi => h i (by omega)
    have := h n (by omega)
    simp only [sumTo]; omega
theorem sumTo_add (f : Nat → Nat) (n : Nat) : sumTo (fun i => 1 + f i) n = n + sumTo f n := by
  induction n with
  | zero => rfl
  | succ n ih => simp only [sumTo, ih]; omega
/-- There are no more of them than the laws count. -/
theorem allRows_len : ∀ (d : D), Sh d (.lst .sel) → (allRows d).length ≤ sz d
  | .list W n it, h => by
    obtain ⟨n', it', e, hs⟩ := h.lst
    cases e
    rw [allRows_list, listTo_len]
    have h1 : sumTo (fun i => (it i :: allRows (it i 6)).length) n ≤ sumTo (fun i => 1 + sumTo (fun j => sz (it i j)) 7) n := sumTo_mono n fun i hi => by
      have := allRows_len (it i 6) (hs i hi 6 _ rfl)
      have := sumTo_lt (fun j => sz (it i j)) (i := 6) (n := 7) (by omega)
      simp only [List.length_cons]; omega
    rw [sumTo_add] at h1
    exact h1
  | .no, h => h.elim
  | .int _, h => by cases h
  | .str _, h => by cases h
  | .bool _, h => by cases h
theorem mem_listTo {α : Type} {f : Nat → List α} {n : Nat} {x : α} (h : x ∈ listTo f n) : ∃ i, i < n ∧ x ∈ f i := by
  induction n with
  | zero => cases h
  | succ n ih =>
    rcases List.mem_append.1 h with h | h
    · obtain ⟨i, hi, hx⟩ := ih h
      exact ⟨i, by omega, hx⟩
    · exact ⟨n, by omega, h⟩
/-- Each of them has a selection's shape, and is narrow. -/
theorem allRows_row : ∀ (d : D), Sh d (.lst .sel) → nar d → ∀ r ∈ allRows d, (∀ j g, (row .sel)[j]? = some g → Sh (r j) g) ∧ ∀ j, j < 7 → nar (r j)
  | .list W n it, h, hn, r, hr => by
    obtain ⟨n', it', e, hs⟩ := h.lst
    cases e
    obtain ⟨i, hi, hx⟩ := mem_listTo hr
    rcases List.mem_cons.1 hx with rfl | hx
    · exact ⟨hs i hi, hn.2 i hi⟩
    · exact allRows_row (it i 6) (hs i hi 6 _ rfl) (hn.2 i hi 6 (by simp [row])) r hx
  | .no, h, _, _, _ => h.elim
  | .int _, h, _, _, _ => by cases h
  | .str _, h, _, _, _ => by cases h
  | .bool _, h, _, _, _ => by cases h
theorem listD_sh {L : List (Nat → D)} (h : ∀ r ∈ L, ∀ j g, (row .sel)[j]? = some g → Sh (r j) g) : Sh (listD L) (.lst .sel) := by
  refine ⟨.sel, rfl, rfl, fun i hi j g hg => ?_⟩
  have e : L.getD i (fun _ => .no) = L[i] := by simp [List.getD, hi]
  show Sh (L.getD i (fun _ => .no) j) g
  rw [e]
  exact h _ (List.getElem_mem hi) j g hg
theorem listD_nar {L : List (Nat → D)} (hl : L.length ≤ 1048576) (h : ∀ r ∈ L, ∀ j, j < 7 → nar (r j)) : nar (listD L) := by
  refine ⟨hl, fun i hi j hj => ?_⟩
  have e : L.getD i (fun _ => .no) = L[i] := by simp [List.getD, hi]
  show nar (L.getD i (fun _ => .no) j)
  rw [e]
  exact h _ (List.getElem_mem hi) j hj

/-- The cells of rows, behind one another. -/
def RowsAt (w : World) : List (Nat → D) → List Value → Prop
  | [], ys => ys = []
  | r :: L, ys => ∃ vs ys', ys = vs ++ ys' ∧ vs.length = 7 ∧ (∀ j v, vs[j]? = some v → At w (r j) v) ∧ RowsAt w L ys'
theorem RowsAt.append {w : World} : ∀ {L1 L2 : List (Nat → D)} {y1 y2 : List Value}, RowsAt w L1 y1 → RowsAt w L2 y2 → RowsAt w (L1 ++ L2) (y1 ++ y2)
  | [], _, y1, _, h1, h2 => by
    obtain rfl : y1 = [] := h1
    exact h2
  | r :: L, _, _, _, h1, h2 => by
    obtain ⟨vs, ys', rfl, hl, hv, h⟩ := h1
    exact ⟨vs, ys' ++ _, by simp, hl, hv, RowsAt.append h h2⟩
theorem RowsAt.nth {w : World} : ∀ {L : List (Nat → D)} {ys : List Value}, RowsAt w L ys → ∀ {i : Nat} {r : Nat → D}, L[i]? = some r → ∀ j, j < 7 → ∃ v, ys[i * 7 + j]? = some v ∧ At w (r j) v
  | [], _, _, i, r, h, _, _ => by simp at h
  | r :: L, ys, h, 0, r', e, j, hj => by
    obtain ⟨vs, ys', rfl, hl, hv, h⟩ := h
    obtain rfl : r = r' := by simpa using e
    refine ⟨vs[j]'(by omega), ?_, hv j _ (List.getElem?_eq_getElem (by omega))⟩
    rw [List.getElem?_append_left (by omega), Nat.zero_mul, Nat.zero_add]
    exact List.getElem?_eq_getElem (by omega)
  | r :: L, ys, h, i + 1, r', e, j, hj => by
    obtain ⟨vs, ys', rfl, hl, hv, h⟩ := h
    obtain ⟨v, h1, h2⟩ := RowsAt.nth h (by simpa using e) j hj
    refine ⟨v, ?_, h2⟩
    rw [List.getElem?_append_right (by omega), hl, show (i + 1) * 7 + j - 7 = i * 7 + j from by omega]
    exact h1
theorem RowsAt.below {w w' : World} (hb : Below w.heap.size w w') : ∀ {L : List (Nat → D)} {ys : List Value}, RowsAt w L ys → RowsAt w' L ys
  | [], _, h => h
  | r :: L, _, h => by
    obtain ⟨vs, ys', rfl, hl, hv, h⟩ := h
    exact ⟨vs, ys', rfl, hl, fun j v hj => At.below hb _ (hv j v hj), RowsAt.below hb h⟩
/-- Rows in a row of its own are a list. -/
theorem RowsAt.at {w : World} {B : Nat} {ty : TypeId} {L : List (Nat → D)} {ys : List Value} {v : Value} (h : RowsAt w L ys) (ho : w.ownsRow B ty 7 v L.length ys) : At w (listD L) v := by
  rcases ho.2 with ⟨rfl, h0⟩ | ⟨g, cap, cur, rfl, hB, hg, hc1, hc2, hc3, hc4⟩
  · exact ⟨none, 0, by rw [h0], by rw [h0]; exact Nat.zero_le _, fun i hi => by omega⟩
  · refine ⟨_, _, rfl, by omega, fun i hi => ⟨g, 0, rfl, fun j hj => ?_⟩⟩
    obtain ⟨v, h1, h2⟩ := h.nth (List.getElem?_eq_getElem hi) j hj
    rw [← hc4, List.getElem?_take_of_lt (by omega)] at h1
    refine ⟨v, by rw [cell_of hg, Nat.zero_add]; simpa using h1, ?_⟩
    have e : L.getD i (fun _ => .no) = L[i] := by simp [List.getD, hi]
    show At w (L.getD i (fun _ => .no) j) v
    rw [e]
    exact h2
theorem at_row7 {w : World} {r : Nat → D} {c0 c1 c2 c3 c4 c5 c6 : Value} (a0 : At w (r 0) c0) (a1 : At w (r 1) c1) (a2 : At w (r 2) c2) (a3 : At w (r 3) c3) (a4 : At w (r 4) c4) (a5 : At w (r 5) c5) (a6 : At w (r 6) c6) : ∀ j v, [c0, c1, c2, c3, c4, c5, c6][j]? = some v → At w (r j) v
  | 0, v, h => by cases h; exact a0
  | 1, v, h => by cases h; exact a1
  | 2, v, h => by cases h; exact a2
  | 3, v, h => by cases h; exact a3
  | 4, v, h => by cases h; exact a4
  | 5, v, h => by cases h; exact a5
  | 6, v, h => by cases h; exact a6
  | j + 7, v, h => by simp at h

/-- The contract of the model's walk over all. -/
def AllS (d : D) : Prop := ∀ (w0 w : World) (c v : Value) (xs : List Value) (k : Nat), At w0 d c → Below w0.heap.size w0 w → w.ownsRow w0.heap.size 41 7 v k xs → k + (allRows d).length ≤ 1048576 →
  Calls Try.prog 16 #[c, v] w fun e w' => ∃ v' ys, e = .returned v' ∧ w'.ownsRow w0.heap.size 41 7 v' (k + (allRows d).length) (xs ++ ys) ∧ RowsAt w0 (allRows d) ys ∧ Below w0.heap.size w0 w'

set_option maxHeartbeats 8000000 in
theorem allLs (n : Nat) (it : Nat → Nat → D) (hsh : ∀ i, i < n → ∀ j g, (row .sel)[j]? = some g → Sh (it i j) g) (hit : ∀ i, i < n → AllS (it i 6)) : AllS (.list 7 n it) := by
  intro w0 w c v xs k h hbw hrow hlen
  have HI := Lib.hid h
  obtain ⟨A, cap, rfl, hm⟩ := h.slice
  clear h
  unfold maxLen at hm
  rw [allRows_list] at hlen ⊢
  obtain ⟨f, hf⟩ : ∃ f, (fun i => it i :: allRows (it i 6)) = f := ⟨_, rfl⟩
  rw [hf] at hlen ⊢
  have HF : Hid (∀ i, f i = it i :: allRows (it i 6)) := fun i => by rw [← hf]
  clear hf
  have HLN : Hid (∀ p, p ≤ n → (listTo f p).length ≤ (listTo f n).length) := fun p hp => by rw [listTo_len, listTo_len]; exact sumTo_le _ hp
  have HRW := Lib.hid hrow
  clear hrow
  go_enter Try.func16, Try.ntmps16
  go_wp2
  go_loopw [1, 5] (fun out i wr => ∃ (p : Nat) (ys : List Value), p ≤ n ∧ i = .int .i64 p ∧ wr.ownsRow w0.heap.size 41 7 out (k + (listTo f p).length) (xs ++ ys) ∧ RowsAt w0 (listTo f p) ys ∧ Below w0.heap.size w0 wr) (fun _ i _ => n - (intOf i).toNat)
  case atStart => exact ⟨0, [], Nat.zero_le _, rfl, by simpa [listTo] using HRW.out, rfl, hbw⟩
  case round =>
    obtain ⟨p, ys, hp, rfl, hrow, hrows, hbel⟩ := hrel
    have HR := Lib.hid hrow
    have HRS := Lib.hid hrows
    clear hrow hrows
    by_cases hlt : p < n
    · have hk0 : (0 : Int) ≤ (p : Int) := by omega
      have hk1 : (p : Int) < (n : Int) := by omega
      obtain ⟨b, o, e2, hf⟩ := HI.out.nth hlt
      subst e2
      obtain ⟨c0, c1, c2, c3, c4, c5, c6, ⟨f0, a0⟩, ⟨f1, a1⟩, ⟨f2, a2⟩, ⟨f3, a3⟩, ⟨f4, a4⟩, ⟨f5, a5⟩, ⟨f6, a6⟩⟩ := seven hf
      clear hf
      rw [Nat.add_zero] at f0
      have HC : Hid (∀ j v, [c0, c1, c2, c3, c4, c5, c6][j]? = some v → At w0 (it p j) v) := at_row7 a0 a1 a2 a3 a4 a5 a6
      have A6 := Lib.hid a6
      obtain ⟨xk0, rfl⟩ := At.int a0 (hsh p hlt 0 _ rfl)
      obtain ⟨xk1, rfl⟩ := At.str a1 (hsh p hlt 1 _ rfl)
      obtain ⟨xk2, rfl⟩ := At.str a2 (hsh p hlt 2 _ rfl)
      obtain ⟨xk3, rfl⟩ := At.str a3 (hsh p hlt 3 _ rfl)
      obtain ⟨xA4, xn4, xp4, rfl⟩ := At.lst a4 (hsh p hlt 4 _ rfl)
      obtain ⟨xA5, xn5, xp5, rfl⟩ := At.lst a5 (hsh p hlt 5 _ rfl)
      obtain ⟨xA6, xn6, xp6, rfl⟩ := At.lst a6 (hsh p hlt 6 _ rfl)
      clear a0 a1 a2 a3 a4 a5 a6
      have F6 := Lib.hid f6
      have f0 := (hbel.cell (World.block_lt_of_cell? w0 _ f0)).trans f0
      have f1 := (hbel.cell (World.block_lt_of_cell? w0 _ f1)).trans f1
      have f2 := (hbel.cell (World.block_lt_of_cell? w0 _ f2)).trans f2
      have f3 := (hbel.cell (World.block_lt_of_cell? w0 _ f3)).trans f3
      have f4 := (hbel.cell (World.block_lt_of_cell? w0 _ f4)).trans f4
      have f5 := (hbel.cell (World.block_lt_of_cell? w0 _ f5)).trans f5
      have f6 := (hbel.cell (World.block_lt_of_cell? w0 _ f6)).trans f6
      have hl1 : (listTo f (p + 1)).length = (listTo f p).length + (1 + (allRows (it p 6)).length) := by simp only [listTo, List.length_append, HF.out p, List.length_cons]; omega
      have hl2 := HLN.out (p + 1) hlt
      have HL1 := Lib.hid hl1
      obtain ⟨T, hT⟩ : ∃ T, (listTo f p).length = T := ⟨_, rfl⟩
      obtain ⟨M, hM⟩ : ∃ M, (allRows (it p 6)).length = M := ⟨_, rfl⟩
      rw [hT, hM] at hl1
      have hb2 : k + T + 1 + M ≤ 1048576 := by omega
      rw [hT] at HR
      have HT := Lib.hid hT
      have HM := Lib.hid hM
      clear hl1 hl2 hT hM
      have n1 : ∀ x ∈ [Value.int .i64 xk0, Value.string xk1, Value.string xk2, Value.string xk3, Value.slice xA4 xn4 xp4, Value.slice xA5 xn5 xp5, Value.slice xA6 xn6 xp6], x.oneCell' = true := by intro x hx; simp at hx; rcases hx with rfl | rfl | rfl | rfl | rfl | rfl | rfl <;> rfl
      obtain ⟨i0, hi, hzz⟩ := Option.map_eq_some_iff.1 infoSel
      simp only [Prod.mk.injEq] at hzz
      obtain ⟨hz0, hz1, hz2⟩ := hzz
      have n2 : k + T + 1 ≤ maxLen := by unfold maxLen; omega
      have hws := hbel.size
      go_wp2_with (at_builtin; refine wpList_append_lies _ rfl _ _ 24 rfl w0.heap.size 41 i0 zeroSel 7 128 Try.underlying24 hi hz0 hz1 hz2 rfl (by decide) _ (k + T) (xs ++ ys) rfl (HR.out.alloc _) ⟨wr.heap.size, 0, none⟩ 1 1 [Value.int .i64 xk0, Value.string xk1, Value.string xk2, Value.string xk3, Value.slice xA4 xn4 xp4, Value.slice xA5 xn5 xp5, Value.slice xA6 xn6 xp6] rfl rfl (World.news_of_block (cs := #[Value.int .i64 xk0, Value.string xk1, Value.string xk2, Value.string xk3, Value.slice xA4 xn4 xp4, Value.slice xA5 xn5 xp5, Value.slice xA6 xn6 xp6]) (t := 41) (fr := (0, 0)) (heap_alloc_new wr _)) n1 (by decide) n2 (by omega) (by simp; omega) (wr.heap.size + 1) (by simp) ?_)
      intro g2 cap2 w2 hown2 hgrow hat2 hlt2
      have hb9 : Below w0.heap.size w0 w2 := (hbel.alloc hws _).grown hgrow (by simp; omega) (fun x hx => (own_row_lt HR.out hx).1)
      have q6 := (hb9.cell (World.block_lt_of_cell? w0 _ F6.out)).trans F6.out
      have HO2 := Lib.hid hown2
      clear hown2 hgrow hat2 f0 f1 f2 f3 f4 f5 f6
      go_wp2_with fail
      clear q6
      refine (hit p hlt w0 w2 _ _ (xs ++ ys ++ [Value.int .i64 xk0, Value.string xk1, Value.string xk2, Value.string xk3, Value.slice xA4 xn4 xp4, Value.slice xA5 xn5 xp5, Value.slice xA6 xn6 xp6]) (k + T + 1) A6.out hb9 (by have := HO2.out; simpa using this) (by rw [HM.out]; omega)).mono ?_
      rintro e w3 ⟨v', zs, rfl, hown3, hr3, hb3⟩
      have HO3 := Lib.hid hown3
      have HR3 := Lib.hid hr3
      clear hown3 hr3
      go_wp2
      go_roundw
      case rel =>
        refine ⟨p + 1, ys ++ ([Value.int .i64 xk0, Value.string xk1, Value.string xk2, Value.string xk3, Value.slice xA4 xn4 xp4, Value.slice xA5 xn5 xp5, Value.slice xA6 xn6 xp6] ++ zs), by omega, by go_num, ?_, ?_, hb3⟩
        · rw [HL1.out, HT.out]
          have := HO3.out
          rw [show xs ++ (ys ++ ([Value.int .i64 xk0, Value.string xk1, Value.string xk2, Value.string xk3, Value.slice xA4 xn4 xp4, Value.slice xA5 xn5 xp5, Value.slice xA6 xn6 xp6] ++ zs)) = xs ++ ys ++ [Value.int .i64 xk0, Value.string xk1, Value.string xk2, Value.string xk3, Value.slice xA4 xn4 xp4, Value.slice xA5 xn5 xp5, Value.slice xA6 xn6 xp6] ++ zs from by simp, show k + (T + (1 + (allRows (it p 6)).length)) = k + T + 1 + (allRows (it p 6)).length from by omega]
          exact this
        · show RowsAt w0 (listTo f p ++ f p) _
          rw [HF.out p]
          exact RowsAt.append HRS.out ⟨_, _, rfl, rfl, HC.out, HR3.out⟩
      case measure => simp [intOf]; omega
    · obtain rfl : p = n := by omega
      go_wp2
      go_ret
      exact ⟨_, ys, rfl, HR.out, HRS.out, hbel⟩
theorem allS : ∀ (d : D), Sh d (.lst .sel) → AllS d
  | .list W n it, h => by
    obtain ⟨n', it', e, hs⟩ := h.lst
    cases e
    exact allLs n it hs fun i hi => allS (it i 6) (hs i hi 6 _ rfl)
  | .no, h => h.elim
  | .int _, h => by cases h
  | .str _, h => by cases h
  | .bool _, h => by cases h

set_option maxHeartbeats 1000000 in
/-- The model's AllSels. -/
theorem allSelsS (d : D) (hsh : Sh d (.lst .sel)) (w : World) (c : Value) (hs : sz d ≤ 1048576) (h : At w d c) :
    Calls Try.prog 6 #[c] w fun e w' => ∃ v, e = .returned v ∧ Own w' (allD d) (rng w.heap.size w'.heap.size) v ∧ Below w.heap.size w w' := by
  have hlen := allRows_len d hsh
  have hrow : ∀ r ∈ allRows d, _ := allRows_row d hsh (nar_sz d hs)
  go_enter Try.func6, Try.ntmps6
  go_wp2_with fail
  refine (allS d hsh w (w.alloc (Obj.cells #[] 41)) c (.slice (some ⟨w.heap.size, 0, none⟩) 0 0) [] 0 h (below_alloc _ _) (Lst.row (it := fun _ _ => .no) (Lst.zero (Nat.le_refl _) (heap_alloc_new w _))) (by omega)).mono ?_
  rintro e w1 ⟨v, ys, rfl, hown, hrows, hb1⟩
  rw [Nat.zero_add, List.nil_append] at hown
  have hat : At w1 (allD d) v := (hrows.below hb1).at hown
  go_wp2_with fail
  refine (cpSels (allD d) (listD_sh fun r hr => (hrow r hr).1) w1 v (listD_nar (by omega) fun r hr => (hrow r hr).2) hat).mono ?_
  rintro e w2 ⟨v2, rfl, hown2, hb2⟩
  have hs1 := hb1.size
  go_wp2
  go_ret
  exact ⟨v2, rfl, Own.wide (fun x hx => ⟨by have := hx.1; omega, hx.2⟩) _ hown2, below_trans hb1 hb2⟩
end Da
end Go.Proofs.Ytfnieelghfkbdaa
