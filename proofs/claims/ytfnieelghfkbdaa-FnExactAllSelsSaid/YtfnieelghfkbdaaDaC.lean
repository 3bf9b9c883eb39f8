/- What is proved: the model's copies of names with values and of directives: the same, in new memory of its own. -/
import Derived.Test.YtfnieelghfkbdaaDaL
import Derived.Deep.RegionWith
namespace Go.Proofs.Ytfnieelghfkbdaa
namespace Da
set_option linter.unusedVariables false
open Go.RowKit
attribute [local go_sem ↓] Go.wp_at_zero Go.wp_at_succ

/-- No list in it is longer than so. -/
def nar : D → Prop
  | .list W n it => n ≤ 1048576 ∧ ∀ i, i < n → ∀ j, j < W → nar (it i j)
  | _ => True
theorem nar_sz : ∀ (d : D), sz d ≤ 1048576 → nar d
  | .list W n it, h => ⟨by simp only [sz] at h; omega, fun i hi j hj => nar_sz (it i j) (by have := sz_cell (it := it) hi hj; omega)⟩
  | .no, _ => trivial
  | .int _, _ => trivial
  | .str _, _ => trivial
  | .bool _, _ => trivial
/-- The contract of a list's copy. -/
def CpL (fid : Nat) (d : D) : Prop := ∀ (w : World) (c : Value), nar d → At w d c →
  Calls Try.prog fid #[c] w fun e w' => ∃ v, e = .returned v ∧ Own w' d (rng w.heap.size w'.heap.size) v ∧ Below w.heap.size w w'
/-- The contract of the copy of a value. -/
def CpV (fid : Nat) (r : Nat → D) : Prop := ∀ (w : World) (c0 c1 c2 c3 : Value), (∀ j, j < 4 → nar (r j)) → At w (r 0) c0 → At w (r 1) c1 → At w (r 2) c2 → At w (r 3) c3 →
  Calls Try.prog fid #[.agg #[c0, c1, c2, c3]] w fun e w' => ∃ d0 d1 d2 d3, e = .returned (.agg #[d0, d1, d2, d3]) ∧ OwnR w' r (rng w.heap.size w'.heap.size) [d0, d1, d2, d3] ∧ Below w.heap.size w w'

set_option maxHeartbeats 4000000 in
theorem cpLsArg (n : Nat) (it : Nat → Nat → D) (hsh : ∀ i, i < n → ∀ j g, (row .arg)[j]? = some g → Sh (it i j) g) (hit : ∀ i, i < n → CpV 44 fun j => it i (j + 1)) : CpL 29 (.list 5 n it) := by
  intro w c hs h
  have HI := Lib.hid h
  obtain ⟨A, cap, rfl, hm⟩ := h.slice
  clear h
  unfold maxLen at hm
  have hn : n ≤ 1048576 := hs.1
  have HSZ := Lib.hid hs
  clear hs
  go_enter Try.func29, Try.ntmps29
  go_wp2
  go_loopw [3, 4] (fun out i wr => ∃ (k : Nat) (xs : List Value), k ≤ n ∧ i = .int .i64 k ∧ Lst wr w.heap.size 70 5 k out it xs ∧ Below w.heap.size w wr) (fun _ i _ => n - (intOf i).toNat)
  case atStart => exact ⟨0, [], Nat.zero_le _, rfl, Lst.zero (Nat.le_refl _) (heap_alloc_new w _), below_alloc _ _⟩
  case round =>
    obtain ⟨k, xs, hk, rfl, hlst, hbel⟩ := hrel
    have HL := Lib.hid hlst
    clear hlst
    by_cases hlt : k < n
    · have hk0 : (0 : Int) ≤ (k : Int) := by omega
      have hk1 : (k : Int) < (n : Int) := by omega
      obtain ⟨b, o, e2, hf⟩ := HI.out.nth hlt
      subst e2
      obtain ⟨c0, c1, c2, c3, c4, ⟨f0, a0⟩, ⟨f1, a1⟩, ⟨f2, a2⟩, ⟨f3, a3⟩, ⟨f4, a4⟩⟩ := five hf
      clear hf
      rw [Nat.add_zero] at f0
      obtain ⟨u, hu⟩ := (hsh k hlt 0 _ rfl).str
      have A0 := Lib.hid a0
      rw [hu] at a0
      obtain ⟨rfl, -⟩ := a0
      clear hu
      have HK : Hid (∀ W, Below w.heap.size w W → W.cell? ⟨b, o + k * 5, none⟩ = some (.string u) ∧ W.cell? ⟨b, o + k * 5 + 1, none⟩ = some c1 ∧ W.cell? ⟨b, o + k * 5 + 2, none⟩ = some c2 ∧ W.cell? ⟨b, o + k * 5 + 3, none⟩ = some c3 ∧ W.cell? ⟨b, o + k * 5 + 4, none⟩ = some c4) := fun W hW =>
        ⟨(hW.cell (World.block_lt_of_cell? w _ f0)).trans f0, (hW.cell (World.block_lt_of_cell? w _ f1)).trans f1, (hW.cell (World.block_lt_of_cell? w _ f2)).trans f2, (hW.cell (World.block_lt_of_cell? w _ f3)).trans f3, (hW.cell (World.block_lt_of_cell? w _ f4)).trans f4⟩
      have cd : Calls Try.prog 44 #[.agg #[c1, c2, c3, c4]] wr.drew fun e w' => ∃ d0 d1 d2 d3, e = .returned (.agg #[d0, d1, d2, d3]) ∧ OwnR w' (fun j => it k (j + 1)) (rng wr.heap.size w'.heap.size) [d0, d1, d2, d3] ∧ Below wr.heap.size wr w' :=
        (hit k hlt wr.drew c1 c2 c3 c4 (fun j hj => HSZ.out.2 k hlt (j + 1) (by omega)) (At.below hbel.drew _ a1) (At.below hbel.drew _ a2) (At.below hbel.drew _ a3) (At.below hbel.drew _ a4)).mono fun e w' ⟨d0, d1, d2, d3, he, ho, hb⟩ => ⟨d0, d1, d2, d3, he, ho, below_trans (below_drew wr) hb⟩
      have CD := Lib.hid cd
      clear cd a1 a2 a3 a4
      obtain ⟨i0, hi, hzz⟩ := Option.map_eq_some_iff.1 infoArg
      simp only [Prod.mk.injEq] at hzz
      obtain ⟨hz0, hz1, hz2⟩ := hzz
      have n2 : k + 1 ≤ maxLen := by unfold maxLen; omega
      have hsz := hbel.size
      have hbd := hbel.drew
      go_wp2
      go_region_held3 (fun W => W.cell? ⟨b, o + k * 5, none⟩ = some (.string u) ∧ W.cell? ⟨b, o + k * 5 + 1, none⟩ = some c1 ∧ W.cell? ⟨b, o + k * 5 + 2, none⟩ = some c2 ∧ W.cell? ⟨b, o + k * 5 + 3, none⟩ = some c3 ∧ W.cell? ⟨b, o + k * 5 + 4, none⟩ = some c4)
        (first | exact HK.out _ hbd | exact HK.out _ hbw | exact HK.out _ (hbw.alloc hbw.size _) | exact HK.out _ hb9 | go_keep)
        (first
          | (go_at_call 44; refine CD.out.mono ?_; rintro e w1 ⟨d0, d1, d2, d3, rfl, ho, hb1⟩; have hbw := below_trans hbel hb1; have HO := Lib.hid ho; obtain ⟨y0, e0⟩ := At.int (ho.at 0 _ rfl) (hsh k hlt 1 _ rfl); obtain ⟨y1, e1⟩ := At.str (ho.at 1 _ rfl) (hsh k hlt 2 _ rfl); obtain ⟨y2, y3, y4, e2⟩ := At.lst (ho.at 2 _ rfl) (hsh k hlt 3 _ rfl); obtain ⟨y5, y6, y7, e3⟩ := At.lst (ho.at 3 _ rfl) (hsh k hlt 4 _ rfl); subst e0 e1 e2 e3; clear ho; have HW := Lib.hid (HL.out.below hb1); have n1 : ∀ x ∈ [Value.string u, .int .i64 y0, .string y1, .slice y2 y3 y4, .slice y5 y6 y7], x.oneCell' = true := (by intro x hx; simp at hx; rcases hx with rfl | rfl | rfl | rfl | rfl <;> rfl))
          | (refine step_append_lies _ rfl (.tmp 12) (.tmp 25) 38 rfl w.heap.size 70 i0 zeroArg 5 88 Try.underlying38 hi hz0 hz1 hz2 rfl (by decide) _ k xs (by simp [Act.eval]) ((HW.out.below (below_alloc w1 _)).row) ⟨w1.heap.size, 0, none⟩ 1 1 [Value.string u, .int .i64 y0, .string y1, .slice y2 y3 y4, .slice y5 y6 y7] (by simp [Act.eval]) rfl (World.news_of_block (cs := #[Value.string u, .int .i64 y0, .string y1, .slice y2 y3 y4, .slice y5 y6 y7]) (t := 70) (fr := (0, 0)) (heap_alloc_new w1 _)) n1 (by decide) n2 (by omega) (by have := hbw.size; simp; omega) (w1.heap.size + 1) (by simp) ?_; intro g2 cap2 w2 hown2 hgrow hat2 hlt2; have hb9 := (hbw.alloc hbw.size _).grown hgrow (by have := hbw.size; simp; omega) (fun x hx => (own_row_lt HW.out.row hx).1)))
      all_goals go_wp2
      all_goals go_roundw
      all_goals first
        | (refine ⟨k + 1, _, by omega, by go_num, Lst.step HL.out (by omega) (below_trans hb1 (below_alloc w1 _)) rfl (ownR_plain (Own.plain A0.out (hsh k hlt 0 _ rfl)) ((HO.out.same fun x hx => (below_alloc w1 _).block x hx.2).wide fun x hx => ⟨hx.1, by have := hx.2; simp; omega⟩)) hown2 hgrow ?_, hb9⟩; rcases hat2 with hat2 | hat2; exact .inl hat2; exact .inr (by simpa using hat2))
        | (simp [intOf]; omega)
    · obtain rfl : k = n := by omega
      go_wp2
      go_ret
      exact ⟨_, rfl, HL.out.own, hbel⟩

set_option maxHeartbeats 4000000 in
theorem cpLsDir (n : Nat) (it : Nat → Nat → D) (hsh : ∀ i, i < n → ∀ j g, (row .dir)[j]? = some g → Sh (it i j) g) (hit : ∀ i, i < n → CpL 29 (it i 1)) : CpL 30 (.list 2 n it) := by
  intro w c hs h
  have HI := Lib.hid h
  obtain ⟨A, cap, rfl, hm⟩ := h.slice
  clear h
  unfold maxLen at hm
  have hn : n ≤ 1048576 := hs.1
  have HSZ := Lib.hid hs
  clear hs
  go_enter Try.func30, Try.ntmps30
  go_wp2
  go_loopw [3, 4] (fun out i wr => ∃ (k : Nat) (xs : List Value), k ≤ n ∧ i = .int .i64 k ∧ Lst wr w.heap.size 74 2 k out it xs ∧ Below w.heap.size w wr) (fun _ i _ => n - (intOf i).toNat)
  case atStart => exact ⟨0, [], Nat.zero_le _, rfl, Lst.zero (Nat.le_refl _) (heap_alloc_new w _), below_alloc _ _⟩
  case round =>
    obtain ⟨k, xs, hk, rfl, hlst, hbel⟩ := hrel
    have HL := Lib.hid hlst
    clear hlst
    by_cases hlt : k < n
    · have hk0 : (0 : Int) ≤ (k : Int) := by omega
      have hk1 : (k : Int) < (n : Int) := by omega
      obtain ⟨b, o, e2, hf⟩ := HI.out.nth hlt
      subst e2
      obtain ⟨c0, c1, ⟨f0, a0⟩, ⟨f1, a1⟩⟩ := two hf
      clear hf
      rw [Nat.add_zero] at f0
      obtain ⟨u, hu⟩ := (hsh k hlt 0 _ rfl).str
      have A0 := Lib.hid a0
      rw [hu] at a0
      obtain ⟨rfl, -⟩ := a0
      clear hu
      have HK : Hid (∀ W, Below w.heap.size w W → W.cell? ⟨b, o + k * 2, none⟩ = some (.string u) ∧ W.cell? ⟨b, o + k * 2 + 1, none⟩ = some c1) := fun W hW =>
        ⟨(hW.cell (World.block_lt_of_cell? w _ f0)).trans f0, (hW.cell (World.block_lt_of_cell? w _ f1)).trans f1⟩
      have cd : Calls Try.prog 29 #[c1] wr.drew fun e w' => ∃ d, e = .returned d ∧ Own w' (it k 1) (rng wr.heap.size w'.heap.size) d ∧ Below wr.heap.size wr w' :=
        (hit k hlt wr.drew c1 (HSZ.out.2 k hlt 1 (by omega)) (At.below hbel.drew _ a1)).mono fun e w' ⟨d, he, ho, hb⟩ => ⟨d, he, ho, below_trans (below_drew wr) hb⟩
      have CD := Lib.hid cd
      clear cd a1
      obtain ⟨i0, hi, hzz⟩ := Option.map_eq_some_iff.1 infoDir
      simp only [Prod.mk.injEq] at hzz
      obtain ⟨hz0, hz1, hz2⟩ := hzz
      have n2 : k + 1 ≤ maxLen := by unfold maxLen; omega
      have hsz := hbel.size
      have hbd := hbel.drew
      go_wp2
      go_region_held3 (fun W => W.cell? ⟨b, o + k * 2, none⟩ = some (.string u) ∧ W.cell? ⟨b, o + k * 2 + 1, none⟩ = some c1)
        (first | exact HK.out _ hbd | exact HK.out _ hbw | exact HK.out _ (hbw.alloc hbw.size _) | exact HK.out _ hb9 | go_keep)
        (first
          | (go_at_call 29; refine CD.out.mono ?_; rintro e w1 ⟨d, rfl, ho, hb1⟩; have hbw := below_trans hbel hb1; have HO := Lib.hid ho; obtain ⟨y2, y3, y4, e2⟩ := At.lst (Own.at _ ho) (hsh k hlt 1 _ rfl); subst e2; clear ho; have HW := Lib.hid (HL.out.below hb1); have n1 : ∀ x ∈ [Value.string u, .slice y2 y3 y4], x.oneCell' = true := (by intro x hx; simp at hx; rcases hx with rfl | rfl <;> rfl))
          | (refine step_append_lies _ rfl (.tmp 12) (.tmp 25) 39 rfl w.heap.size 74 i0 zeroDir 2 40 Try.underlying39 hi hz0 hz1 hz2 rfl (by decide) _ k xs (by simp [Act.eval]) ((HW.out.below (below_alloc w1 _)).row) ⟨w1.heap.size, 0, none⟩ 1 1 [Value.string u, .slice y2 y3 y4] (by simp [Act.eval]) rfl (World.news_of_block (cs := #[Value.string u, .slice y2 y3 y4]) (t := 74) (fr := (0, 0)) (heap_alloc_new w1 _)) n1 (by decide) n2 (by omega) (by have := hbw.size; simp; omega) (w1.heap.size + 1) (by simp) ?_; intro g2 cap2 w2 hown2 hgrow hat2 hlt2; have hb9 := (hbw.alloc hbw.size _).grown hgrow (by have := hbw.size; simp; omega) (fun x hx => (own_row_lt HW.out.row hx).1)))
      all_goals go_wp2
      all_goals go_roundw
      all_goals first
        | (refine ⟨k + 1, _, by omega, by go_num, Lst.step HL.out (by omega) (below_trans hb1 (below_alloc w1 _)) rfl (ownR_plain (Own.plain A0.out (hsh k hlt 0 _ rfl)) (ownR_cons (F2 := fun _ => False) ((Own.same _ HO.out fun x hx => (below_alloc w1 _).block x hx.2)) ownR_nil (fun _ _ h => h) (fun x hx => ⟨hx.1, by have := hx.2; simp; omega⟩) (fun _ h => h.elim))) hown2 hgrow ?_, hb9⟩; rcases hat2 with hat2 | hat2; exact .inl hat2; exact .inr (by simpa using hat2))
        | (simp [intOf]; omega)
    · obtain rfl : k = n := by omega
      go_wp2
      go_ret
      exact ⟨_, rfl, HL.out.own, hbel⟩

set_option maxHeartbeats 8000000 in
theorem cpLsSel (n : Nat) (it : Nat → Nat → D) (hsh : ∀ i, i < n → ∀ j g, (row .sel)[j]? = some g → Sh (it i j) g) (h4 : ∀ i, i < n → CpL 29 (it i 4)) (h5 : ∀ i, i < n → CpL 30 (it i 5)) (h6 : ∀ i, i < n → CpL 15 (it i 6)) : CpL 15 (.list 7 n it) := by
  intro w c hs h
  have HI := Lib.hid h
  obtain ⟨A, cap, rfl, hm⟩ := h.slice
  clear h
  unfold maxLen at hm
  have hn : n ≤ 1048576 := hs.1
  have HSZ := Lib.hid hs
  clear hs
  go_enter Try.func15, Try.ntmps15
  go_wp2
  go_loopw [3, 4] (fun out i wr => ∃ (k : Nat) (xs : List Value), k ≤ n ∧ i = .int .i64 k ∧ Lst wr w.heap.size 41 7 k out it xs ∧ Below w.heap.size w wr) (fun _ i _ => n - (intOf i).toNat)
  case atStart => exact ⟨0, [], Nat.zero_le _, rfl, Lst.zero (Nat.le_refl _) (heap_alloc_new w _), below_alloc _ _⟩
  case round =>
    obtain ⟨k, xs, hk, rfl, hlst, hbel⟩ := hrel
    have HL := Lib.hid hlst
    clear hlst
    by_cases hlt : k < n
    · have hk0 : (0 : Int) ≤ (k : Int) := by omega
      have hk1 : (k : Int) < (n : Int) := by omega
      obtain ⟨b, o, e2, hf⟩ := HI.out.nth hlt
      subst e2
      obtain ⟨c0, c1, c2, c3, c4, c5, c6, ⟨f0, a0⟩, ⟨f1, a1⟩, ⟨f2, a2⟩, ⟨f3, a3⟩, ⟨f4, a4⟩, ⟨f5, a5⟩, ⟨f6, a6⟩⟩ := seven hf
      clear hf
      rw [Nat.add_zero] at f0
      have hbl := World.block_lt_of_cell? w _ f0
      have A0 := Lib.hid a0
      have A1 := Lib.hid a1
      have A2 := Lib.hid a2
      have A3 := Lib.hid a3
      have A4 := Lib.hid a4
      have A5 := Lib.hid a5
      have A6 := Lib.hid a6
      obtain ⟨xk0, rfl⟩ := At.int a0 (hsh k hlt 0 _ rfl)
      obtain ⟨xk1, rfl⟩ := At.str a1 (hsh k hlt 1 _ rfl)
      obtain ⟨xk2, rfl⟩ := At.str a2 (hsh k hlt 2 _ rfl)
      obtain ⟨xk3, rfl⟩ := At.str a3 (hsh k hlt 3 _ rfl)
      obtain ⟨xA4, xn4, xp4, rfl⟩ := At.lst a4 (hsh k hlt 4 _ rfl)
      obtain ⟨xA5, xn5, xp5, rfl⟩ := At.lst a5 (hsh k hlt 5 _ rfl)
      obtain ⟨xA6, xn6, xp6, rfl⟩ := At.lst a6 (hsh k hlt 6 _ rfl)
      clear a0 a1 a2 a3 a4 a5 a6
      have F6 := Lib.hid f6
      have f0 := (hbel.cell (World.block_lt_of_cell? w _ f0)).trans f0
      have f1 := (hbel.cell (World.block_lt_of_cell? w _ f1)).trans f1
      have f2 := (hbel.cell (World.block_lt_of_cell? w _ f2)).trans f2
      have f3 := (hbel.cell (World.block_lt_of_cell? w _ f3)).trans f3
      have f4 := (hbel.cell (World.block_lt_of_cell? w _ f4)).trans f4
      have f5 := (hbel.cell (World.block_lt_of_cell? w _ f5)).trans f5
      have f6 := (hbel.cell (World.block_lt_of_cell? w _ f6)).trans f6
      have hsz := hbel.size
      go_wp2_with fail
      clear f0 f1 f2 f3 f4 f5 f6
      obtain ⟨W0, hW0⟩ : ∃ W0, wr.alloc (Obj.cells #[Value.int .i64 xk0, Value.string xk1, Value.string xk2, Value.string xk3, Value.slice xA4 xn4 xp4, Value.slice xA5 xn5 xp5, Value.slice xA6 xn6 xp6] 41) = W0 := ⟨_, rfl⟩
      have b0 : Below wr.heap.size wr W0 := by rw [← hW0]; exact below_alloc _ _
      have hB : W0.heap[wr.heap.size]? = some (Obj.cells #[Value.int .i64 xk0, Value.string xk1, Value.string xk2, Value.string xk3, Value.slice xA4 xn4 xp4, Value.slice xA5 xn5 xp5, Value.slice xA6 xn6 xp6] 41) := by rw [← hW0]; exact heap_alloc_new wr _
      have z0 : W0.heap.size = wr.heap.size + 1 := by rw [← hW0]; simp
      rw [hW0]
      clear hW0
      have szk : ∀ j, j < 7 → nar (it k j) := HSZ.out.2 k hlt
      have SZK := Lib.hid szk
      clear szk
      refine (h4 k hlt W0 _ (SZK.out 4 (by omega)) (At.below (below_trans hbel b0) _ A4.out)).mono ?_
      rintro e w4 ⟨v, rfl, own4, hb4⟩
      obtain ⟨yA4, yn4, yp4, rfl⟩ := At.lst (Own.at _ own4) (hsh k hlt 4 _ rfl)
      have hB := (hb4.block _ (lt_of hB)).trans hB
      have bb4 := below_trans b0 hb4
      have s4 := hb4.size
      rw [z0] at s4 own4
      clear hb4
      have q4 : w4.cell? ⟨wr.heap.size, 4, none⟩ = some (Value.slice xA4 xn4 xp4) := by rw [cell_of hB]; rfl
      have r4 : w4.frozen? ⟨wr.heap.size, 4, none⟩ = false := frozen_no hB _
      have qn : w4.cell? ⟨wr.heap.size, 5, none⟩ = some (Value.slice xA5 xn5 xp5) := by rw [cell_of hB]; rfl
      have HB := Lib.hid hB
      clear hB
      go_wp2_with fail
      clear qn q4 r4
      obtain ⟨W4, hW4⟩ : ∃ W', w4.setCell ⟨wr.heap.size, 4, none⟩ (Value.slice yA4 yn4 yp4) = W' := ⟨_, rfl⟩
      have bc4 : Below wr.heap.size wr W4 := by rw [← hW4]; exact bb4.setCell (Nat.le_refl _) _
      have sz4 : W4.heap.size = w4.heap.size := by rw [← hW4]; simp [World.setCell]
      have hB : W4.heap[wr.heap.size]? = some (Obj.cells #[Value.int .i64 xk0, Value.string xk1, Value.string xk2, Value.string xk3, Value.slice yA4 yn4 yp4, Value.slice xA5 xn5 xp5, Value.slice xA6 xn6 xp6] 41) := by rw [← hW4]; exact heap_setCell_same w4 _ 4 _ _ _ HB.out
      have own4 := Own.same (w' := W4) _ own4 fun x hx => by rw [← hW4, Below.heap_setCell _ _ _ _ (by have := hx.1; simp only; omega)]
      rw [hW4]
      clear hW4 HB
      refine (h5 k hlt W4 _ (SZK.out 5 (by omega)) (At.below (below_trans hbel bc4) _ A5.out)).mono ?_
      rintro e w5 ⟨v, rfl, own5, hb5⟩
      obtain ⟨yA5, yn5, yp5, rfl⟩ := At.lst (Own.at _ own5) (hsh k hlt 5 _ rfl)
      have hB := (hb5.block _ (lt_of hB)).trans hB
      have bb5 := below_trans bc4 hb5
      have s5 := hb5.size
      rw [sz4] at s5 own5
      have own4 := Own.below own4 hb5 (fun x hx => by have := hx.2; omega)
      clear hb5
      have q5 : w5.cell? ⟨wr.heap.size, 5, none⟩ = some (Value.slice xA5 xn5 xp5) := by rw [cell_of hB]; rfl
      have r5 : w5.frozen? ⟨wr.heap.size, 5, none⟩ = false := frozen_no hB _
      have qn : (w5.setCell ⟨wr.heap.size, 5, none⟩ (Value.slice yA5 yn5 yp5)).cell? ⟨b, o + k * 7 + 6, none⟩ = some (Value.slice xA6 xn6 xp6) := by
        have hx : Below w.heap.size w (w5.setCell ⟨wr.heap.size, 5, none⟩ (Value.slice yA5 yn5 yp5)) := (below_trans hbel bb5).setCell (by simp only; omega) _
        exact (hx.cell (World.block_lt_of_cell? w _ F6.out)).trans F6.out
      have HB := Lib.hid hB
      clear hB
      go_wp2_with fail
      clear qn q5 r5
      obtain ⟨W5, hW5⟩ : ∃ W', w5.setCell ⟨wr.heap.size, 5, none⟩ (Value.slice yA5 yn5 yp5) = W' := ⟨_, rfl⟩
      have bc5 : Below wr.heap.size wr W5 := by rw [← hW5]; exact bb5.setCell (Nat.le_refl _) _
      have sz5 : W5.heap.size = w5.heap.size := by rw [← hW5]; simp [World.setCell]
      have hB : W5.heap[wr.heap.size]? = some (Obj.cells #[Value.int .i64 xk0, Value.string xk1, Value.string xk2, Value.string xk3, Value.slice yA4 yn4 yp4, Value.slice yA5 yn5 yp5, Value.slice xA6 xn6 xp6] 41) := by rw [← hW5]; exact heap_setCell_same w5 _ 5 _ _ _ HB.out
      have own4 := Own.same (w' := W5) _ own4 fun x hx => by rw [← hW5, Below.heap_setCell _ _ _ _ (by have := hx.1; simp only; omega)]
      have own5 := Own.same (w' := W5) _ own5 fun x hx => by rw [← hW5, Below.heap_setCell _ _ _ _ (by have := hx.1; simp only; omega)]
      rw [hW5]
      clear hW5 HB
      refine (h6 k hlt W5 _ (SZK.out 6 (by omega)) (At.below (below_trans hbel bc5) _ A6.out)).mono ?_
      rintro e w6 ⟨v, rfl, own6, hb6⟩
      obtain ⟨yA6, yn6, yp6, rfl⟩ := At.lst (Own.at _ own6) (hsh k hlt 6 _ rfl)
      have hB := (hb6.block _ (lt_of hB)).trans hB
      have bb6 := below_trans bc5 hb6
      have s6 := hb6.size
      rw [sz5] at s6 own6
      have own4 := Own.below own4 hb6 (fun x hx => by have := hx.2; omega)
      have own5 := Own.below own5 hb6 (fun x hx => by have := hx.2; omega)
      clear hb6
      have q6 : w6.cell? ⟨wr.heap.size, 6, none⟩ = some (Value.slice xA6 xn6 xp6) := by rw [cell_of hB]; rfl
      have r6 : w6.frozen? ⟨wr.heap.size, 6, none⟩ = false := frozen_no hB _
      have q0 : w6.cell? ⟨wr.heap.size, 0, none⟩ = some (Value.int .i64 xk0) := by rw [cell_of hB]; rfl
      have q1 : w6.cell? ⟨wr.heap.size, 1, none⟩ = some (Value.string xk1) := by rw [cell_of hB]; rfl
      have q2 : w6.cell? ⟨wr.heap.size, 2, none⟩ = some (Value.string xk2) := by rw [cell_of hB]; rfl
      have q3 : w6.cell? ⟨wr.heap.size, 3, none⟩ = some (Value.string xk3) := by rw [cell_of hB]; rfl
      have q4 : w6.cell? ⟨wr.heap.size, 4, none⟩ = some (Value.slice yA4 yn4 yp4) := by rw [cell_of hB]; rfl
      have q5 : w6.cell? ⟨wr.heap.size, 5, none⟩ = some (Value.slice yA5 yn5 yp5) := by rw [cell_of hB]; rfl
      clear hB
      obtain ⟨W9, hW9⟩ : ∃ W9, w6.setCell ⟨wr.heap.size, 6, none⟩ (Value.slice yA6 yn6 yp6) = W9 := ⟨_, rfl⟩
      have b9 : Below wr.heap.size wr W9 := by rw [← hW9]; exact bb6.setCell (Nat.le_refl _) _
      have z9 : W9.heap.size = w6.heap.size := by rw [← hW9]; simp [World.setCell]
      have own4 := Own.same (w' := W9.alloc (Obj.cells #[Value.int .i64 xk0, Value.string xk1, Value.string xk2, Value.string xk3, Value.slice yA4 yn4 yp4, Value.slice yA5 yn5 yp5, Value.slice yA6 yn6 yp6] 41)) _ own4 fun x hx => by
        rw [(below_alloc W9 _).block x (by have := hx.2; omega), ← hW9, Below.heap_setCell _ _ _ _ (by have := hx.1; simp only; omega)]
      have own5 := Own.same (w' := W9.alloc (Obj.cells #[Value.int .i64 xk0, Value.string xk1, Value.string xk2, Value.string xk3, Value.slice yA4 yn4 yp4, Value.slice yA5 yn5 yp5, Value.slice yA6 yn6 yp6] 41)) _ own5 fun x hx => by
        rw [(below_alloc W9 _).block x (by have := hx.2; omega), ← hW9, Below.heap_setCell _ _ _ _ (by have := hx.1; simp only; omega)]
      have own6 := Own.same (w' := W9.alloc (Obj.cells #[Value.int .i64 xk0, Value.string xk1, Value.string xk2, Value.string xk3, Value.slice yA4 yn4 yp4, Value.slice yA5 yn5 yp5, Value.slice yA6 yn6 yp6] 41)) _ own6 fun x hx => by
        rw [(below_alloc W9 _).block x (by have := hx.2; omega), ← hW9, Below.heap_setCell _ _ _ _ (by have := hx.1; simp only; omega)]
      have HW := Lib.hid (HL.out.below (below_trans b9 (below_alloc W9 (Obj.cells #[Value.int .i64 xk0, Value.string xk1, Value.string xk2, Value.string xk3, Value.slice yA4 yn4 yp4, Value.slice yA5 yn5 yp5, Value.slice yA6 yn6 yp6] 41))))
      have HO := Lib.hid (show OwnR (W9.alloc (Obj.cells #[Value.int .i64 xk0, Value.string xk1, Value.string xk2, Value.string xk3, Value.slice yA4 yn4 yp4, Value.slice yA5 yn5 yp5, Value.slice yA6 yn6 yp6] 41)) (it k) (rng wr.heap.size (W9.alloc (Obj.cells #[Value.int .i64 xk0, Value.string xk1, Value.string xk2, Value.string xk3, Value.slice yA4 yn4 yp4, Value.slice yA5 yn5 yp5, Value.slice yA6 yn6 yp6] 41)).heap.size) [Value.int .i64 xk0, Value.string xk1, Value.string xk2, Value.string xk3, Value.slice yA4 yn4 yp4, Value.slice yA5 yn5 yp5, Value.slice yA6 yn6 yp6] from by
        refine OwnR.wide ?_ (F := rng (wr.heap.size + 1) w6.heap.size) (fun x hx => ⟨by have := hx.1; omega, by have := hx.2; simp; omega⟩)
        exact ownR_plain (Own.plain A0.out (hsh k hlt 0 _ rfl)) (ownR_plain (Own.plain A1.out (hsh k hlt 1 _ rfl)) (ownR_plain (Own.plain A2.out (hsh k hlt 2 _ rfl)) (ownR_plain (Own.plain A3.out (hsh k hlt 3 _ rfl))
          (ownR_cons (F1 := rng (wr.heap.size + 1) w4.heap.size) (F2 := rng w4.heap.size w6.heap.size) own4 (ownR_cons (F1 := rng w4.heap.size w5.heap.size) (F2 := rng w5.heap.size w6.heap.size) own5 (ownR_cons (F1 := rng w5.heap.size w6.heap.size) (F2 := fun _ => False) own6 ownR_nil (fun _ _ h => h) (fun _ h => h) (fun _ h => h.elim))
            (fun x h1 h2 => by have := h1.2; have := h2.1; omega) (fun x h => ⟨h.1, by have := h.2; omega⟩) (fun x h => ⟨by have := h.1; omega, h.2⟩)) (fun x h1 h2 => by have := h1.2; have := h2.1; omega) (fun x h => ⟨h.1, by have := h.2; omega⟩) (fun x h => ⟨by have := h.1; omega, h.2⟩))))))
      clear own4 own5 own6
      have n1 : ∀ x ∈ [Value.int .i64 xk0, Value.string xk1, Value.string xk2, Value.string xk3, Value.slice yA4 yn4 yp4, Value.slice yA5 yn5 yp5, Value.slice yA6 yn6 yp6], x.oneCell' = true := by intro x hx; simp at hx; rcases hx with rfl | rfl | rfl | rfl | rfl | rfl | rfl <;> rfl
      obtain ⟨i0, hi, hzz⟩ := Option.map_eq_some_iff.1 infoSel
      simp only [Prod.mk.injEq] at hzz
      obtain ⟨hz0, hz1, hz2⟩ := hzz
      have n2 : k + 1 ≤ maxLen := by unfold maxLen; omega
      have hbw := below_trans hbel b9
      have hws := hbw.size
      have HNB := Lib.hid (show (W9.alloc (Obj.cells #[Value.int .i64 xk0, Value.string xk1, Value.string xk2, Value.string xk3, Value.slice yA4 yn4 yp4, Value.slice yA5 yn5 yp5, Value.slice yA6 yn6 yp6] 41)).heap[w6.heap.size]? = some (Obj.cells #[Value.int .i64 xk0, Value.string xk1, Value.string xk2, Value.string xk3, Value.slice yA4 yn4 yp4, Value.slice yA5 yn5 yp5, Value.slice yA6 yn6 yp6] 41) from by have := heap_alloc_new W9 (Obj.cells #[Value.int .i64 xk0, Value.string xk1, Value.string xk2, Value.string xk3, Value.slice yA4 yn4 yp4, Value.slice yA5 yn5 yp5, Value.slice yA6 yn6 yp6] 41); rwa [z9] at this)
      have HB1 := Lib.hid (show w.heap.size ≤ (W9.alloc (Obj.cells #[Value.int .i64 xk0, Value.string xk1, Value.string xk2, Value.string xk3, Value.slice yA4 yn4 yp4, Value.slice yA5 yn5 yp5, Value.slice yA6 yn6 yp6] 41)).heap.size from by simp; omega)
      have HB2 := Lib.hid (show (W9.alloc (Obj.cells #[Value.int .i64 xk0, Value.string xk1, Value.string xk2, Value.string xk3, Value.slice yA4 yn4 yp4, Value.slice yA5 yn5 yp5, Value.slice yA6 yn6 yp6] 41)).heap.size = w6.heap.size + 1 from by simp; omega)
      rw [← hW9] at HW HO hws b9 z9 hbw HNB HB1 HB2
      clear hW9
      go_wp2_with (at_builtin; refine wpList_append_lies _ rfl _ _ 24 rfl w.heap.size 41 i0 zeroSel 7 128 Try.underlying24 hi hz0 hz1 hz2 rfl (by decide) _ k xs rfl HW.out.row ⟨w6.heap.size, 0, none⟩ 1 1 [Value.int .i64 xk0, Value.string xk1, Value.string xk2, Value.string xk3, Value.slice yA4 yn4 yp4, Value.slice yA5 yn5 yp5, Value.slice yA6 yn6 yp6] rfl rfl (World.news_of_block (cs := #[Value.int .i64 xk0, Value.string xk1, Value.string xk2, Value.string xk3, Value.slice yA4 yn4 yp4, Value.slice yA5 yn5 yp5, Value.slice yA6 yn6 yp6]) (t := 41) (fr := (0, 0)) HNB.out) n1 (by decide) n2 (by omega) HB1.out (w6.heap.size + 1) HB2.out ?_)
      intro g2 cap2 w2 hown2 hgrow hat2 hlt2
      have hb2 := (hbw.alloc hws _).grown hgrow HB1.out (fun x hx => (own_row_lt HW.out.row hx).1)
      have HST := Lib.hid (Lst.step HL.out (by omega) (below_trans b9 (below_alloc _ _)) rfl HO.out hown2 hgrow (by rw [HB2.out]; exact hat2))
      clear hown2 hgrow hat2
      go_wp2
      go_roundw
      case rel => exact ⟨k + 1, _, by omega, by go_num, HST.out, hb2⟩
      case measure => simp [intOf]; omega
    · obtain rfl : k = n := by omega
      go_wp2
      go_ret
      exact ⟨_, rfl, HL.out.own, hbel⟩
end Da
end Go.Proofs.Ytfnieelghfkbdaa
