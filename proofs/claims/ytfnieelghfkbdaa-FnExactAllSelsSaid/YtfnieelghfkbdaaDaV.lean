/- What is proved: the model's copy of a value: the same, in new memory of its own. -/
import Derived.Test.YtfnieelghfkbdaaDaC
import Derived.Test.YtfnieelghfkbdaaDaF
import Derived.Deep.DeepCutAuto
import Derived.Deep.RegionLaw
import Derived.Deep.CutBlock
namespace Go.Proofs.Ytfnieelghfkbdaa
namespace Da
set_option linter.unusedVariables false
open Go.RowKit
attribute [local go_sem ↓] Go.wp_at_zero Go.wp_at_succ

theorem Lst.agree {w w' : World} {B : Nat} {ty : TypeId} {W k : Nat} {v : Value} {it : Nat → Nat → D} {xs : List Value} (h : Lst w B ty W k v it xs) (hs : ∀ b, B ≤ b → b < w.heap.size → w'.heap[b]? = w.heap[b]?) (hz : w.heap.size ≤ w'.heap.size) : Lst w' B ty W k v it xs := by
  obtain ⟨H, h1, h2, h3⟩ := h
  refine ⟨H, ?_, fun i j hi hj => ⟨fun b hbb => ?_, (h2 i j hi hj).2⟩, fun i hi j hj => ?_⟩
  · refine ⟨h1.1, ?_⟩
    rcases h1.2 with h0 | ⟨g, cap, cur, hv, hB, hg, q⟩
    · exact .inl h0
    · exact .inr ⟨g, cap, cur, hv, hB, (hs g hB (lt_of hg)).trans hg, q⟩
  · obtain ⟨q1, q2, q3⟩ := (h2 i j hi hj).1 b hbb
    exact ⟨q1, by omega, q3⟩
  · obtain ⟨d, hd, ho⟩ := h3 i hi j hj
    exact ⟨d, hd, Own.same _ ho fun b hbb => hs b ((h2 i j hi hj).1 b hbb).1 ((h2 i j hi hj).1 b hbb).2.1⟩
/-- A list of texts in a row of its own. -/
theorem own_texts {w : World} {B n g c : Nat} {ty : TypeId} {it : Nat → Nat → D} {xs : List Value} (h : w.ownsRow B ty 1 (.slice (some ⟨g, 0, none⟩) n c) n xs) (hx : ∀ i, i < n → ∃ t : ByteArray, it i 0 = .str t ∧ t.size ≤ maxLen ∧ xs[i]? = some (.string t)) : Own w (.list 1 n it) (fun x => x = g) (.slice (some ⟨g, 0, none⟩) n c) := by
  rcases h.2 with ⟨h0, -⟩ | ⟨g', cap, cur, hv, hB, hg, hc1, hc2, hc3, hc4⟩
  · cases h0
  simp only [Value.slice.injEq, Option.some.injEq, Addr.mk.injEq, and_true, true_and] at hv
  obtain ⟨rfl, rfl⟩ := hv
  refine ⟨_, _, rfl, hc1, hc2, fun _ => ⟨g, cur, ty, fun _ _ _ => False, rfl, rfl, hg, by rw [hc3]; exact Nat.mul_le_mul_right 1 hc1, fun i j hi hj => ⟨fun b hb => hb.elim, fun _ _ _ _ _ b hb => hb.elim⟩, fun i hi j hj => ?_⟩⟩
  obtain rfl : j = 0 := by omega
  obtain ⟨t, e, hs, hxi⟩ := hx i hi
  rw [e]
  refine ⟨.string t, ?_, rfl, hs⟩
  rw [← hc4, List.getElem?_take_of_lt (by omega)] at hxi
  simpa using hxi

set_option maxRecDepth 100000 in
set_option maxHeartbeats 8000000 in
theorem cpV_of (r : Nat → D) (hsh : ∀ j g, (row .value)[j]? = some g → Sh (r j) g) (n : Nat) (it : Nat → Nat → D) (e2 : r 2 = .list 4 n it) (hit : ∀ i, i < n → CpV 44 (it i)) : CpV 44 r := by
  intro w c0 c1 c2 c3 hs a0 a1 a2 a3
  have A0 := Lib.hid a0
  have A1 := Lib.hid a1
  obtain ⟨xk0, rfl⟩ := At.int a0 (hsh 0 _ rfl)
  obtain ⟨xk1, rfl⟩ := At.str a1 (hsh 1 _ rfl)
  clear a0 a1
  have hs2 : nar (r 2) ∧ nar (r 3) := ⟨hs 2 (by omega), hs 3 (by omega)⟩
  clear hs
  have hshit : ∀ i, i < n → ∀ j g, (row .value)[j]? = some g → Sh (it i j) g := by
    obtain ⟨n', it', e, h⟩ := (hsh 2 _ rfl).lst
    rw [e2] at e
    cases e
    exact h
  rw [e2] at a2 hs2
  have E2 := Lib.hid e2
  obtain ⟨A, cap, rfl, hcap⟩ := a2.slice
  have HI := Lib.hid a2
  clear a2 e2
  obtain ⟨m, nm, e3, hnm⟩ := (hsh 3 _ rfl).lst
  simp only [row, List.length_cons, List.length_nil, Nat.zero_add] at e3
  rw [e3] at a3 hs2
  have E3 := Lib.hid e3
  clear e3
  obtain ⟨Bn, capn, rfl, hcapn⟩ := a3.slice
  obtain ⟨ns, hnl, hn1, hn2, hn3⟩ := a3.flat (by omega)
  have HN3 : Hid (∀ i, i < m → ∃ t : ByteArray, nm i 0 = .str t ∧ t.size ≤ maxLen ∧ ns[i]? = some (.string t)) := fun i hi => by
    obtain ⟨t, e⟩ := (hnm i hi 0 _ rfl).str
    obtain ⟨d, hd, ha⟩ := hn3 i hi 0 (by omega)
    rw [e] at ha
    obtain ⟨rfl, hs⟩ := ha
    exact ⟨t, e, hs, by simpa using hd⟩
  clear hn3 hnm
  have HSZ := Lib.hid hs2
  have hm : m ≤ 1048576 := hs2.2.1
  have hn : n ≤ 1048576 := hs2.1.1
  clear hs2 a3
  obtain ⟨Wa, hWa⟩ : ∃ Wa, (w.alloc (Obj.cells #[Value.int .i64 xk0, .string xk1, .slice A n cap, .slice Bn m capn] 68)).alloc (Obj.cells #[Value.int .i64 0, .string ⟨#[]⟩, .slice none 0 0, .slice none 0 0] 68) = Wa := ⟨_, rfl⟩
  have hza : Wa.heap.size = w.heap.size + 2 := by rw [← hWa]; simp
  have baw : Below w.heap.size w Wa := by rw [← hWa]; exact (below_alloc _ _).alloc (by simp) _
  have hP : Wa.heap[w.heap.size]? = some (Obj.cells #[Value.int .i64 xk0, .string xk1, .slice A n cap, .slice Bn m capn] 68) := by
    rw [← hWa, Below.heap_alloc _ _ _ (by simp)]; exact heap_alloc_new w _
  have hZ : Wa.heap[w.heap.size + 1]? = some (Obj.cells #[Value.int .i64 0, .string ⟨#[]⟩, .slice none 0 0, .slice none 0 0] 68) := by
    rw [← hWa]; exact heap_alloc2_new w _ _
  have HP := Lib.hid hP
  have HZ := Lib.hid hZ
  have HK : Hid (∀ W, Below Wa.heap.size Wa W → W.cell? ⟨w.heap.size, 0, none⟩ = some (.int .i64 xk0) ∧ W.cell? ⟨w.heap.size, 1, none⟩ = some (.string xk1) ∧ W.cell? ⟨w.heap.size, 3, none⟩ = some (.slice Bn m capn)) := fun W hW => by
    have h := (hW.block w.heap.size (by omega)).trans hP
    exact ⟨by rw [cell_of h]; rfl, by rw [cell_of h]; rfl, by rw [cell_of h]; rfl⟩
  clear hP hZ
  have HZA := Lib.hid hza
  clear hza
  obtain ⟨j0, hj, hzz⟩ := Option.map_eq_some_iff.1 info9
  simp only [Prod.mk.injEq] at hzz
  obtain ⟨hy0, hy1, hy2⟩ := hzz
  go_enter Try.func44, Try.ntmps44
  go_upto_region 1 with fail
  go_cut [3] (fun p wc => ∃ (ob : Nat) (nv : Value) (Fn : Nat → Prop), p = .pointer (some ⟨ob, 0, none⟩) ∧ wc.heap[ob]? = some (Obj.cells #[Value.int .i64 xk0, .string xk1, .slice none 0 0, nv] 68) ∧ Wa.heap.size ≤ ob ∧ Own wc (r 3) Fn nv ∧ (∀ x, Fn x → Wa.heap.size ≤ x ∧ x < wc.heap.size ∧ x ≠ ob) ∧ Below Wa.heap.size Wa wc)
  case first =>
    by_cases hm0 : m = 0
    · subst hm0
      have hap := Lib.hid (app_none undN hj)
      go_region_held3 (fun W => W.cell? ⟨w.heap.size, 0, none⟩ = some (.int .i64 xk0) ∧ W.cell? ⟨w.heap.size, 1, none⟩ = some (.string xk1) ∧ W.cell? ⟨w.heap.size, 3, none⟩ = some (.slice Bn 0 capn))
        ((refine HK.out _ ?_; repeat (first | exact Below.refl _ _ | refine Below.drew ?_ | refine Below.alloc ?_ (by simp) _)))
        (first
          | (refine step_app_none rfl (.tmp 9) (.tmp 11) 66 rfl (.slice (some ⟨Wa.heap.size, 0, none⟩) 0 0) (.slice Bn 0 capn) rfl (by simp [Act.eval]) (fun ty => hap.out ty _ 0 0 (Nat.le_refl _) Bn capn _) ?_)
          | (refine step_app_none rfl (.tmp 9) (.tmp 11) 66 rfl (.slice (some ⟨Wa.heap.size + 1, 0, none⟩) 0 0) (.slice Bn 0 capn) rfl (by simp [Act.eval]) (fun ty => hap.out ty _ 0 0 (Nat.le_refl _) Bn capn _) ?_))
      all_goals go_wp2
      all_goals go_meet
      all_goals first
        | exact ⟨Wa.heap.size + 1, _, fun _ => False, rfl, heap_alloc2_new Wa _ _, by omega, by rw [E3.out]; exact ⟨_, _, rfl, Nat.le_refl _, Nat.zero_le _, fun h => absurd h (Nat.lt_irrefl _)⟩, fun _ h => h.elim, ((below_alloc Wa _).alloc (by simp) _).drew⟩
        | exact ⟨Wa.heap.size, _, fun _ => False, rfl, (Below.heap_alloc _ _ _ (by simp)).trans (heap_alloc_new Wa _), Nat.le_refl _, by rw [E3.out]; exact ⟨_, _, rfl, Nat.le_refl _, Nat.zero_le _, fun h => absurd h (Nat.lt_irrefl _)⟩, fun _ h => h.elim, ((below_alloc Wa _).alloc (by simp) _).drew⟩
    · obtain ⟨b, o, rfl, hcells⟩ := hn2 (by omega)
      have HC : Hid (∀ W, Below Wa.heap.size Wa W → ∀ j u, ns[j]? = some u → W.cell? ((⟨b, o, none⟩ : Addr).add j) = some u) := fun W hW j u hu => by
        have h := hcells j u hu
        rw [Go.WideShapes.add_plain]
        exact ((below_trans baw hW).cell (World.block_lt_of_cell? w _ h)).trans h
      clear hcells hn2
      have OWN : Hid (∀ (W : World) (g c : Nat), W.ownsRow Wa.heap.size 9 1 (.slice (some ⟨g, 0, none⟩) (0 + m) c) (0 + m) ([] ++ ns) → Own W (r 3) (fun x => x = g) (.slice (some ⟨g, 0, none⟩) m c)) := fun W g c h => by
        rw [E3.out]
        rw [Nat.zero_add, List.nil_append] at h
        exact own_texts h HN3.out
      go_region_held3 (fun W => W.cell? ⟨w.heap.size, 0, none⟩ = some (.int .i64 xk0) ∧ W.cell? ⟨w.heap.size, 1, none⟩ = some (.string xk1) ∧ W.cell? ⟨w.heap.size, 3, none⟩ = some (.slice (some ⟨b, o, none⟩) m capn))
        ((refine HK.out _ ?_; repeat (first | exact Below.refl _ _ | exact hb9 | refine Below.drew ?_ | refine Below.alloc ?_ (by simp) _ | refine Below.alloc ?_ (by have := hb9.size; simp; omega) _ | refine Below.setCell ?_ (by simp) _)))
        (first
          | (refine step_append_lies _ rfl (.tmp 9) (.tmp 11) 66 rfl Wa.heap.size 9 j0 (.string ⟨#[]⟩) 1 16 Try.underlying66 hj hy0 hy1 hy2 rfl (by decide) (.slice (some ⟨Wa.heap.size, 0, none⟩) 0 0) 0 [] rfl (Lst.row (it := fun _ _ => .no) (Lst.zero (Nat.le_refl _) (heap_alloc_new Wa (Obj.cells #[] 9)))) ⟨b, o, none⟩ m capn ns (by simp [Act.eval]) hnl (HC.out _ (below_alloc Wa (Obj.cells #[] 9)).drew) hn1 (by omega) (by unfold maxLen; omega) (by omega) (by simp <;> omega) _ rfl ?_; intro g2 cap2 w2 hown2 hgrow hat2 hlt2; have tagA : True := trivial; have OW := Lib.hid (OWN.out w2 g2 cap2 hown2); have hgl := own_row_lt hown2 rfl; have hb9 := Below.grown (below_alloc Wa (Obj.cells #[] 9)).drew hgrow (by simp <;> omega) (fun x hx => (by have : Wa.heap.size = x := (by simpa [Value.ownBlock] using hx); omega)))
          | (refine step_append_lies _ rfl (.tmp 9) (.tmp 11) 66 rfl Wa.heap.size 9 j0 (.string ⟨#[]⟩) 1 16 Try.underlying66 hj hy0 hy1 hy2 rfl (by decide) (.slice (some ⟨Wa.heap.size, 0, none⟩) 0 0) 0 [] rfl (Lst.row (it := fun _ _ => .no) (Lst.zero (Nat.le_refl _) ((Below.heap_alloc _ _ _ (by simp)).trans (heap_alloc_new Wa (Obj.cells #[] 9))))) ⟨b, o, none⟩ m capn ns (by simp [Act.eval]) hnl (HC.out _ ((below_alloc Wa (Obj.cells #[] 9)).alloc (by simp) (Obj.cells #[Value.int .i64 0, .string ⟨#[]⟩, .slice none 0 0, .slice none 0 0] 68)).drew) hn1 (by omega) (by unfold maxLen; omega) (by omega) (by simp <;> omega) _ rfl ?_; intro g2 cap2 w2 hown2 hgrow hat2 hlt2; have tagB : True := trivial; have OW := Lib.hid (OWN.out w2 g2 cap2 hown2); have hgl := own_row_lt hown2 rfl; have hb9 := Below.grown ((below_alloc Wa (Obj.cells #[] 9)).alloc (by simp) (Obj.cells #[Value.int .i64 0, .string ⟨#[]⟩, .slice none 0 0, .slice none 0 0] 68)).drew hgrow (by simp <;> omega) (fun x hx => (by have : Wa.heap.size = x := (by simpa [Value.ownBlock] using hx); omega)); have hzb : w2.heap[Wa.heap.size + 1]? = some (Obj.cells #[Value.int .i64 0, .string ⟨#[]⟩, .slice none 0 0, .slice none 0 0] 68) := (hgrow.block _ (by simp <;> omega) (by simp [Value.ownBlock])).trans (heap_alloc2_new Wa _ _); have HZB := Lib.hid hzb; have u0 : w2.cell? ⟨Wa.heap.size + 1, 0, none⟩ = some (.int .i64 0) := (by rw [cell_of hzb]; rfl); have u1 : w2.cell? ⟨Wa.heap.size + 1, 1, none⟩ = some (.string ⟨#[]⟩) := (by rw [cell_of hzb]; rfl); have u2 : w2.cell? ⟨Wa.heap.size + 1, 2, none⟩ = some (.slice none 0 0) := (by rw [cell_of hzb]; rfl); have u3 : w2.cell? ⟨Wa.heap.size + 1, 3, none⟩ = some (.slice none 0 0) := (by rw [cell_of hzb]; rfl); have z0 : w2.frozen? ⟨Wa.heap.size + 1, 0, none⟩ = false := frozen_no hzb _; have z1 : w2.frozen? ⟨Wa.heap.size + 1, 1, none⟩ = false := frozen_no hzb _; have z2 : w2.frozen? ⟨Wa.heap.size + 1, 2, none⟩ = false := frozen_no hzb _; have z3 : w2.frozen? ⟨Wa.heap.size + 1, 3, none⟩ = false := frozen_no hzb _; clear hzb; have hne : g2 ≠ Wa.heap.size + 1 := (by rcases hat2 with h | h <;> simp [Value.ownBlock] at h <;> omega))
          | (refine step_append_lies _ rfl (.tmp 9) (.tmp 11) 66 rfl Wa.heap.size 9 j0 (.string ⟨#[]⟩) 1 16 Try.underlying66 hj hy0 hy1 hy2 rfl (by decide) (.slice (some ⟨Wa.heap.size + 1, 0, none⟩) 0 0) 0 [] rfl (Lst.row (it := fun _ _ => .no) (Lst.zero (by omega) (heap_alloc2_new Wa (Obj.cells #[Value.int .i64 0, .string ⟨#[]⟩, .slice none 0 0, .slice none 0 0] 68) (Obj.cells #[] 9)))) ⟨b, o, none⟩ m capn ns (by simp [Act.eval]) hnl (HC.out _ ((below_alloc Wa (Obj.cells #[Value.int .i64 0, .string ⟨#[]⟩, .slice none 0 0, .slice none 0 0] 68)).alloc (by simp) (Obj.cells #[] 9)).drew) hn1 (by omega) (by unfold maxLen; omega) (by omega) (by simp <;> omega) _ rfl ?_; intro g2 cap2 w2 hown2 hgrow hat2 hlt2; have tagC : True := trivial; have OW := Lib.hid (OWN.out w2 g2 cap2 hown2); have hgl := own_row_lt hown2 rfl; have hb9 := Below.grown ((below_alloc Wa (Obj.cells #[Value.int .i64 0, .string ⟨#[]⟩, .slice none 0 0, .slice none 0 0] 68)).alloc (by simp) (Obj.cells #[] 9)).drew hgrow (by simp <;> omega) (fun x hx => (by have : Wa.heap.size + 1 = x := (by simpa [Value.ownBlock] using hx); omega)); have hzb : w2.heap[Wa.heap.size]? = some (Obj.cells #[Value.int .i64 0, .string ⟨#[]⟩, .slice none 0 0, .slice none 0 0] 68) := (hgrow.block _ (by simp <;> omega) (by simp [Value.ownBlock])).trans ((Below.heap_alloc _ _ _ (by simp)).trans (heap_alloc_new Wa _)); have HZB := Lib.hid hzb; have u0 : w2.cell? ⟨Wa.heap.size, 0, none⟩ = some (.int .i64 0) := (by rw [cell_of hzb]; rfl); have u1 : w2.cell? ⟨Wa.heap.size, 1, none⟩ = some (.string ⟨#[]⟩) := (by rw [cell_of hzb]; rfl); have u2 : w2.cell? ⟨Wa.heap.size, 2, none⟩ = some (.slice none 0 0) := (by rw [cell_of hzb]; rfl); have u3 : w2.cell? ⟨Wa.heap.size, 3, none⟩ = some (.slice none 0 0) := (by rw [cell_of hzb]; rfl); have z0 : w2.frozen? ⟨Wa.heap.size, 0, none⟩ = false := frozen_no hzb _; have z1 : w2.frozen? ⟨Wa.heap.size, 1, none⟩ = false := frozen_no hzb _; have z2 : w2.frozen? ⟨Wa.heap.size, 2, none⟩ = false := frozen_no hzb _; have z3 : w2.frozen? ⟨Wa.heap.size, 3, none⟩ = false := frozen_no hzb _; clear hzb; have hne : g2 ≠ Wa.heap.size := (by rcases hat2 with h | h <;> simp [Value.ownBlock] at h <;> omega)))
      all_goals go_wp2
      all_goals go_meet
      all_goals first
        | (have := tagA; exact ⟨w2.heap.size, _, fun x => x = g2, rfl, heap_alloc_new w2 _, by omega, Own.same _ OW.out (fun x hx => (below_alloc w2 _).block x (by omega)), fun x hx => ⟨by omega, by simp; omega, by omega⟩, hb9.alloc (by omega) _⟩)
        | (have := tagB; exact ⟨Wa.heap.size + 1, _, fun x => x = g2, rfl, stores_heap [Value.int .i64 xk0, .string xk1, .slice none 0 0, .slice (some ⟨g2, 0, none⟩) m cap2] w2 0 _ HZB.out, by omega, Own.same _ OW.out (fun x hx => stores_other (by omega) [Value.int .i64 xk0, .string xk1, .slice none 0 0, .slice (some ⟨g2, 0, none⟩) m cap2] w2 0), fun x hx => ⟨by omega, by simp; omega, by omega⟩, stores_below (by omega) [Value.int .i64 xk0, .string xk1, .slice none 0 0, .slice (some ⟨g2, 0, none⟩) m cap2] w2 0 hb9⟩)
        | (have := tagC; exact ⟨Wa.heap.size, _, fun x => x = g2, rfl, stores_heap [Value.int .i64 xk0, .string xk1, .slice none 0 0, .slice (some ⟨g2, 0, none⟩) m cap2] w2 0 _ HZB.out, by omega, Own.same _ OW.out (fun x hx => stores_other (by omega) [Value.int .i64 xk0, .string xk1, .slice none 0 0, .slice (some ⟨g2, 0, none⟩) m cap2] w2 0), fun x hx => ⟨by omega, by simp; omega, by omega⟩, stores_below (by omega) [Value.int .i64 xk0, .string xk1, .slice none 0 0, .slice (some ⟨g2, 0, none⟩) m cap2] w2 0 hb9⟩)
  case rest =>
    obtain ⟨ob, nv, Fn, rfl, hob, hobl, hnv, hFn, hbc⟩ := hcut
    rename World => wc
    obtain ⟨yA, yn, yp, rfl⟩ := At.lst (Own.at _ hnv) (hsh 3 _ rfl)
    have hza := HZA.out
    have hzc := hbc.size
    have HPc := Lib.hid ((hbc.block _ (by omega)).trans HP.out)
    have HZc := Lib.hid ((hbc.block _ (by omega)).trans HZ.out)
    have hobs := lt_of hob
    have HOB := Lib.hid hob
    have HNV := Lib.hid hnv
    have HFN := Lib.hid hFn
    have bwc := below_trans baw hbc
    clear hob hnv hFn hWa
    have hws : w.heap.size < wc.heap.size := by omega
    go_wp2
    go_loopw [4] (fun i wr => ∃ (k : Nat) (outv : Value) (xs : List Value), k ≤ n ∧ i = .int .i64 k ∧ wr.heap[ob]? = some (Obj.cells #[Value.int .i64 xk0, .string xk1, outv, .slice yA yn yp] 68) ∧ Lst wr wc.heap.size 68 4 k outv it xs ∧ (∀ x, x < wc.heap.size → x ≠ ob → wr.heap[x]? = wc.heap[x]?) ∧ Below w.heap.size w wr ∧ wc.heap.size ≤ wr.heap.size) (fun i _ => n - (intOf i).toNat)
    case atStart => exact ⟨0, _, [], Nat.zero_le _, rfl, HOB.out, Lst.nil _ _ _ _ _, fun _ _ _ => rfl, bwc, Nat.le_refl _⟩
    case round =>
      obtain ⟨k, outv, xs, hk, rfl, hob, hlst, hkeep, hbel, hsz⟩ := hrel
      have HOW := Lib.hid hob
      have HL := Lib.hid hlst
      have HKP := Lib.hid hkeep
      have hP := (hkeep _ hws (by omega)).trans HPc.out
      have HPr := Lib.hid hP
      have p2 : wr.cell? ⟨w.heap.size, 2, none⟩ = some (.slice A n cap) := by rw [cell_of hP]; rfl
      clear hob hlst hkeep hP
      by_cases hlt : k < n
      · have hk0 : (0 : Int) ≤ (k : Int) := by omega
        have hk1 : (k : Int) < (n : Int) := by omega
        obtain ⟨b, o, e2, hf⟩ := HI.out.nth hlt
        subst e2
        obtain ⟨c0, c1, c2, c3, ⟨f0, a0⟩, ⟨f1, a1⟩, ⟨f2, a2⟩, ⟨f3, a3⟩⟩ := four hf
        clear hf
        rw [Nat.add_zero] at f0
        have HK2 : Hid (∀ W, Below wc.heap.size wr W → W.cell? ⟨ob, 2, none⟩ = some outv ∧ W.cell? ⟨w.heap.size, 2, none⟩ = some (.slice (some ⟨b, o, none⟩) n cap) ∧ W.cell? ⟨b, o + k * 4, none⟩ = some c0 ∧ W.cell? ⟨b, o + k * 4 + 1, none⟩ = some c1 ∧ W.cell? ⟨b, o + k * 4 + 2, none⟩ = some c2 ∧ W.cell? ⟨b, o + k * 4 + 3, none⟩ = some c3) := fun W hW => by
          have h1 := (hW.block ob hobs).trans HOW.out
          have h2 := (hW.block w.heap.size hws).trans HPr.out
          have hx : ∀ q v, w.cell? ⟨b, q, none⟩ = some v → W.cell? ⟨b, q, none⟩ = some v := fun q v h => by
            have hl := World.block_lt_of_cell? w _ h
            have := (hbel.cell hl).trans h
            exact (World.cell?_of_block (a := ⟨b, q, none⟩) (hW.block b (by simp only at hl; omega))).trans this
          exact ⟨by rw [cell_of h1]; rfl, by rw [cell_of h2]; rfl, hx _ _ f0, hx _ _ f1, hx _ _ f2, hx _ _ f3⟩
        have cd : Calls Try.prog 44 #[.agg #[c0, c1, c2, c3]] wr.drew fun e w' => ∃ d0 d1 d2 d3, e = .returned (.agg #[d0, d1, d2, d3]) ∧ OwnR w' (it k) (rng wr.heap.size w'.heap.size) [d0, d1, d2, d3] ∧ Below wr.heap.size wr w' :=
          (hit k hlt wr.drew c0 c1 c2 c3 (fun j hj => HSZ.out.1.2 k hlt j hj) (At.below hbel.drew _ a0) (At.below hbel.drew _ a1) (At.below hbel.drew _ a2) (At.below hbel.drew _ a3)).mono fun e w' ⟨d0, d1, d2, d3, he, ho, hb⟩ => ⟨d0, d1, d2, d3, he, ho, below_trans (below_drew wr) hb⟩
        have CD := Lib.hid cd
        clear cd a0 a1 a2 a3 f0 f1 f2 f3
        obtain ⟨i0, hi, hzz⟩ := Option.map_eq_some_iff.1 infoValue
        simp only [Prod.mk.injEq] at hzz
        obtain ⟨hz0, hz1, hz2⟩ := hzz
        have n2 : k + 1 ≤ maxLen := by unfold maxLen; omega
        have hbd : Below wc.heap.size wr wr.drew := (below_drew wr).mono hsz
        go_wp2
        obtain ⟨m0, m1, m2, m3, m4, m5⟩ := HK2.out wr (Below.refl _ _)
        go_region_law
          (first
            | (rw [if_pos (by simp [Region.wanted])]; go_simp; go_at_call 44; refine CD.out.mono ?_; rintro e w1 ⟨d0, d1, d2, d3, rfl, ho, hb1⟩; have HO := Lib.hid ho; obtain ⟨y0, e0⟩ := At.int (ho.at 0 _ rfl) (hshit k hlt 0 _ rfl); obtain ⟨y1, e1⟩ := At.str (ho.at 1 _ rfl) (hshit k hlt 1 _ rfl); obtain ⟨y2, y3, y4, e2⟩ := At.lst (ho.at 2 _ rfl) (hshit k hlt 2 _ rfl); obtain ⟨y5, y6, y7, e3⟩ := At.lst (ho.at 3 _ rfl) (hshit k hlt 3 _ rfl); subst e0 e1 e2 e3; clear ho; have HW := Lib.hid (HL.out.below hb1); have n1 : ∀ x ∈ [Value.int .i64 y0, .string y1, .slice y2 y3 y4, .slice y5 y6 y7], x.oneCell' = true := (by intro x hx; simp at hx; rcases hx with rfl | rfl | rfl | rfl <;> rfl); obtain ⟨v0, v1, v2, v3, v4, v5⟩ := HK2.out w1 (hb1.mono hsz); have v6 : ∀ ob', (w1.alloc ob').cell? ⟨ob, 2, none⟩ = some outv := (fun ob' => (HK2.out _ ((hb1.mono hsz).alloc (by have := hb1.size; omega) ob')).1))
            | (refine step_append_lies _ rfl (.tmp 22) (.tmp 29) 65 rfl wc.heap.size 68 i0 zeroValue 4 72 Try.underlying65 hi hz0 hz1 hz2 rfl (by decide) _ k xs (by simp [Act.eval]) ((HW.out.below (below_alloc w1 _)).row) ⟨w1.heap.size, 0, none⟩ 1 1 [Value.int .i64 y0, .string y1, .slice y2 y3 y4, .slice y5 y6 y7] (by simp [Act.eval]) rfl (World.news_of_block (cs := #[Value.int .i64 y0, .string y1, .slice y2 y3 y4, .slice y5 y6 y7]) (t := 68) (fr := (0, 0)) (heap_alloc_new w1 _)) n1 (by decide) n2 (by omega) (by have := hb1.size; simp; omega) (w1.heap.size + 1) (by simp) ?_; intro g2 cap2 w2 hown2 hgrow hat2 hlt2; have hb9 := ((hb1.mono hsz).alloc (by have := hb1.size; omega) _).grown hgrow (by have := hb1.size; simp; omega) (fun x hx => (own_row_lt HW.out.row hx).1); have hob2 := (hb9.block ob hobs).trans HOW.out; have HO2 := Lib.hid hob2; have u2 : w2.cell? ⟨ob, 2, none⟩ = some outv := (by rw [cell_of hob2]; rfl); have z2 : w2.frozen? ⟨ob, 2, none⟩ = false := frozen_no hob2 _; clear hob2))
        all_goals go_wp2
        all_goals go_roundw
        all_goals first
          | (simp [intOf]; omega)
          | (have hst := Lst.step HL.out hsz (below_trans hb1 (below_alloc w1 (Obj.cells #[Value.int .i64 y0, .string y1, .slice y2 y3 y4, .slice y5 y6 y7] 68))) rfl ((HO.out.same fun x hx => (below_alloc w1 (Obj.cells #[Value.int .i64 y0, .string y1, .slice y2 y3 y4, .slice y5 y6 y7] 68)).block x hx.2).wide fun x hx => ⟨hx.1, by have := hx.2; simp; omega⟩) hown2 hgrow (by rcases hat2 with hat2 | hat2; exact .inl hat2; exact .inr (by simpa using hat2))
             exact ⟨k + 1, _, _, by omega, by go_num, heap_setCell_same w2 ob 2 _ _ _ HO2.out, hst.agree (fun x hx _ => Below.heap_setCell _ _ _ _ (by simp only; omega)) (by simp [World.setCell]), fun x hx hne => (Below.heap_setCell _ _ _ _ (by simpa using hne)).trans ((hb9.block x hx).trans (HKP.out x hx hne)), (hbel.trans (hb9.mono (by omega))).setCell (by simp only; omega) _, Nat.le_trans (Nat.le_trans hsz hb9.size) (Nat.le_of_eq (by simp [World.setCell]))⟩)
      · obtain rfl : k = n := by omega
        have hit2 := HL.out.own
        obtain ⟨oA, oc, rfl, -, -⟩ := hit2.slice
        have HIT := Lib.hid hit2
        have hob := HOW.out
        have hz1 := (HKP.out (w.heap.size + 1) (by omega) (by omega)).trans HZc.out
        have q0 : wr.cell? ⟨ob, 0, none⟩ = some (.int .i64 xk0) := by rw [cell_of hob]; rfl
        have q1 : wr.cell? ⟨ob, 1, none⟩ = some (.string xk1) := by rw [cell_of hob]; rfl
        have q2 : wr.cell? ⟨ob, 2, none⟩ = some (.slice oA k oc) := by rw [cell_of hob]; rfl
        have q3 : wr.cell? ⟨ob, 3, none⟩ = some (.slice yA yn yp) := by rw [cell_of hob]; rfl
        have u0 : wr.cell? ⟨w.heap.size + 1, 0, none⟩ = some (.int .i64 0) := by rw [cell_of hz1]; rfl
        have u1 : wr.cell? ⟨w.heap.size + 1, 1, none⟩ = some (.string ⟨#[]⟩) := by rw [cell_of hz1]; rfl
        have u2 : wr.cell? ⟨w.heap.size + 1, 2, none⟩ = some (.slice none 0 0) := by rw [cell_of hz1]; rfl
        have u3 : wr.cell? ⟨w.heap.size + 1, 3, none⟩ = some (.slice none 0 0) := by rw [cell_of hz1]; rfl
        have z0 : wr.frozen? ⟨w.heap.size + 1, 0, none⟩ = false := frozen_no hz1 _
        have z1 : wr.frozen? ⟨w.heap.size + 1, 1, none⟩ = false := frozen_no hz1 _
        have z2 : wr.frozen? ⟨w.heap.size + 1, 2, none⟩ = false := frozen_no hz1 _
        have z3 : wr.frozen? ⟨w.heap.size + 1, 3, none⟩ = false := frozen_no hz1 _
        have HZ1 := Lib.hid hz1
        clear hob hz1 hit2
        go_wp2
        obtain ⟨W9, hW9⟩ : ∃ W9, ((((wr.setCell ⟨w.heap.size + 1, 0, none⟩ (.int .i64 xk0)).setCell ⟨w.heap.size + 1, 1, none⟩ (.string xk1)).setCell ⟨w.heap.size + 1, 2, none⟩ (.slice oA k oc)).setCell ⟨w.heap.size + 1, 3, none⟩ (.slice yA yn yp)) = W9 := ⟨_, rfl⟩
        have hW9' : stores wr (w.heap.size + 1) 0 [Value.int .i64 xk0, .string xk1, .slice oA k oc, .slice yA yn yp] = W9 := hW9
        rw [hW9]
        clear hW9
        have hg9 : W9.heap[w.heap.size + 1]? = some (Obj.cells #[Value.int .i64 xk0, .string xk1, .slice oA k oc, .slice yA yn yp] 68) := by
          rw [← hW9']
          exact stores_heap _ _ 0 #[.int .i64 0, .string ⟨#[]⟩, .slice none 0 0, .slice none 0 0] HZ1.out
        have hk9 : ∀ x, x ≠ w.heap.size + 1 → W9.heap[x]? = wr.heap[x]? := fun x hx => by rw [← hW9', stores_other hx]
        have hz9 : W9.heap.size = wr.heap.size := by rw [← hW9', stores_size]
        have bb9 : Below w.heap.size w W9 := by rw [← hW9']; exact stores_below (by omega) _ _ _ hbel
        clear hW9'
        (try simp only [Exit.inBlock, Exit.then])
        refine bodyPost_ret (results_cell_row rfl _ W9 (w.heap.size + 1) _ _ _ _ rfl hg9 Try.underlying68 rfl (by kernel_rfl)) rfl ?_
        refine ⟨_, _, _, _, rfl, ?_, bb9⟩
        rw [hz9]
        have own2 : Own W9 (r 2) (rng wc.heap.size wr.heap.size) (.slice oA k oc) := by
          rw [E2.out]
          exact Own.same _ HIT.out fun x hx => hk9 x (by have := hx.1; omega)
        have own3 : Own W9 (r 3) Fn (.slice yA yn yp) := Own.same _ HNV.out fun x hx => by
          have := HFN.out x hx
          exact (hk9 x (by omega)).trans (HKP.out x this.2.1 this.2.2)
        exact ownR_plain (Own.plain A0.out (hsh 0 _ rfl)) (ownR_plain (Own.plain A1.out (hsh 1 _ rfl)) (ownR_cons own2 (ownR_cons (F2 := fun _ => False) own3 ownR_nil (fun _ _ h => h) (fun _ h => h) (fun _ h => h.elim))
          (fun x h1 h2 => by have := (HFN.out x h2).2.1; have := h1.1; omega) (fun x h => ⟨by have := h.1; omega, h.2⟩) (fun x h => ⟨by have := (HFN.out x h).1; omega, by have := (HFN.out x h).2.1; omega⟩)))

theorem cpV : ∀ (d : D), Sh d (.lst .value) → ∀ n it, d = .list 4 n it → ∀ i, i < n → CpV 44 (it i)
  | .list W n it, h, n', it', e, i, hi => by
    cases e
    obtain ⟨n', it', e, hs⟩ := h.lst
    cases e
    obtain ⟨n2, it2, e2, -⟩ := (hs i hi 2 _ rfl).lst
    exact cpV_of (it i) (hs i hi) n2 it2 e2 (cpV (it i 2) (hs i hi 2 _ rfl) n2 it2 e2)
  | .no, h, _, _, e, _, _ => by cases e
  | .int _, h, _, _, e, _, _ => by cases e
  | .str _, h, _, _, e, _, _ => by cases e
  | .bool _, h, _, _, e, _, _ => by cases e
theorem cpVal {r : Nat → D} (hs : ∀ j g, (row .value)[j]? = some g → Sh (r j) g) : CpV 44 r := by
  obtain ⟨n2, it2, e2, -⟩ := (hs 2 _ rfl).lst
  exact cpV_of r hs n2 it2 e2 (cpV (r 2) (hs 2 _ rfl) n2 it2 e2)
theorem cpArgs {d : D} (h : Sh d (.lst .arg)) : CpL 29 d := by
  obtain ⟨n, it, rfl, hs⟩ := h.lst
  exact cpLsArg n it hs fun i hi => cpVal (sh_value (hs i hi))
theorem cpDirs {d : D} (h : Sh d (.lst .dir)) : CpL 30 d := by
  obtain ⟨n, it, rfl, hs⟩ := h.lst
  exact cpLsDir n it hs fun i hi => cpArgs (hs i hi 1 _ rfl)
theorem cpSels : ∀ (d : D), Sh d (.lst .sel) → CpL 15 d
  | .list W n it, h => by
    obtain ⟨n', it', e, hs⟩ := h.lst
    cases e
    exact cpLsSel n it hs (fun i hi => cpArgs (hs i hi 4 _ rfl)) (fun i hi => cpDirs (hs i hi 5 _ rfl)) (fun i hi => cpSels (it i 6) (hs i hi 6 _ rfl))
  | .no, h => h.elim
  | .int _, h => by cases h
  | .str _, h => by cases h
  | .bool _, h => by cases h
end Da
end Go.Proofs.Ytfnieelghfkbdaa
