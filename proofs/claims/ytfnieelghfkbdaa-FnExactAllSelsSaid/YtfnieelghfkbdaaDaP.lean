/- What is proved: the program's copies of a value, of names with values and of directives: the same, in new memory of their own. (Made by tools/mkdap.py.) -/
import Derived.Test.YtfnieelghfkbdaaDaJ
namespace Go.Proofs.Ytfnieelghfkbdaa
namespace Da
set_option linter.unusedVariables false
open Go.RowKit
attribute [local go_sem ↓] Go.wp_at_zero Go.wp_at_succ

/-- One row more, whatever way its cells came there. -/
theorem Laid.step2 {w w1 w9 : World} {B g W n k : Nat} {ty : TypeId} {it : Nat → Nat → D} {vs : List Value} (h : Laid w B g W n k ty it) (hk : k < n) (hgB : g < w.heap.size) (hB : B ≤ w.heap.size) (hb : Below w.heap.size w w1)
    (hvs : vs.length = W) (ho : OwnR w1 (it k) (rng w.heap.size w1.heap.size) vs)
    (h9 : ∃ cur, w1.heap[g]? = some (.cells cur ty (0, 0)) ∧ ∃ cur9, w9.heap[g]? = some (.cells cur9 ty (0, 0)) ∧ cur9.size = cur.size ∧ (∀ q, q < k * W ∨ k * W + W ≤ q → cur9[q]? = cur[q]?) ∧ ∀ j, j < W → cur9[k * W + j]? = vs[j]?)
    (hoth : ∀ b, b ≠ g → w9.heap[b]? = w1.heap[b]?) (hz : w9.heap.size = w1.heap.size) : Laid w9 B g W n (k + 1) ty it := by
  obtain ⟨cur, H, h1, h2, h3, h4⟩ := h
  obtain ⟨G, g1, g2⟩ := ho
  obtain ⟨cur1, c1, cur9, c2, c3, c4, c5⟩ := h9
  obtain rfl : cur = cur1 := by
    have := ((hb.block g hgB).trans h1).symm.trans c1
    simp only [Option.some.injEq, Obj.cells.injEq, and_true] at this
    exact this
  have hs1 := hb.size
  refine ⟨cur9, fun i j b => (i < k ∧ H i j b) ∨ (i = k ∧ G j b), c2, by omega, ?_, ?_⟩
  · intro i j hi hj
    refine ⟨fun b hbb => ?_, fun i' j' hi' hj' hne b hbb => ?_⟩
    · unfold rng
      rw [hz]
      rcases hbb with ⟨hi2, hbb⟩ | ⟨hi2, hbb⟩
      · have q := (h3 i j hi2 hj).1 b hbb
        exact ⟨⟨q.1.1, by have := q.1.2; omega⟩, q.2⟩
      · have q := (g1 j (by omega)).1 b hbb
        exact ⟨⟨by have := q.1; omega, q.2⟩, by have := q.1; omega⟩
    · rcases hbb with ⟨hi2, hbb⟩ | ⟨hi2, hbb⟩
      · have q := (h3 i j hi2 hj).1 b hbb
        rintro (⟨hi3, hcc⟩ | ⟨hi3, hcc⟩)
        · exact (h3 i j hi2 hj).2 i' j' hi3 hj' hne b hbb hcc
        · have := ((g1 j' (by omega)).1 b hcc).1
          have := q.1.2
          omega
      · have q := (g1 j (by omega)).1 b hbb
        rintro (⟨hi3, hcc⟩ | ⟨hi3, hcc⟩)
        · have := ((h3 i' j' hi3 hj').1 b hcc).1.2
          have := q.1
          omega
        · exact (g1 j (by omega)).2 j' (by omega) (by omega) b hbb hcc
  · intro i hi j hj
    by_cases hik : i < k
    · obtain ⟨d, hd, ho⟩ := h4 i hik j hj
      have hle : i * W + W ≤ k * W := by
        have := Nat.mul_le_mul_right W (show i + 1 ≤ k from hik)
        rwa [Nat.add_mul, Nat.one_mul] at this
      refine ⟨d, by rw [c4 _ (.inl (by omega))]; exact hd, Own.wide (fun b hbb => .inl ⟨hik, hbb⟩) _ (Own.same _ ho fun b hbb => ?_)⟩
      have q := (h3 i j hik hj).1 b hbb
      exact (hoth b q.2).trans (hb.block b q.1.2)
    · obtain rfl : i = k := by omega
      refine ⟨vs[j]'(by omega), by rw [c5 j hj]; exact List.getElem?_eq_getElem _, Own.wide (fun b hbb => .inr ⟨rfl, hbb⟩) _ (Own.same _ (g2 j _ (List.getElem?_eq_getElem (by omega))) fun b hbb => ?_)⟩
      have q := (g1 j (by omega)).1 b hbb
      exact hoth b (by have := q.1; omega)

/-- The contract of the program's copy of one. -/
def PcValue (r : Nat → D) : Prop := ∀ (w : World) (c0 c1 c2 c3 : Value), (∀ j, j < 4 → sz (r j) ≤ 1048576) → At w (r 0) c0 → At w (r 1) c1 → At w (r 2) c2 → At w (r 3) c3 →
  Calls Try.prog 55 #[.agg #[c0, c1, c2, c3]] w fun e w' => ∃ d0 d1 d2 d3, e = .returned (.agg #[d0, d1, d2, d3]) ∧ OwnR w' r (rng w.heap.size w'.heap.size) [d0, d1, d2, d3] ∧ Below w.heap.size w w'
set_option maxRecDepth 100000 in
set_option maxHeartbeats 4000000 in
theorem copyOfValue (r : Nat → D) (hsh : ∀ j g, (row .value)[j]? = some g → Sh (r j) g) : PcValue r := by
  intro w c0 c1 c2 c3 hz a0 a1 a2 a3
  obtain ⟨W0, hW0⟩ : ∃ W0, (w.alloc (Obj.cells #[c0, c1, c2, c3] 68)).alloc (Obj.cells #[Value.int .i64 0, Value.string ⟨#[]⟩, Value.slice none 0 0, Value.slice none 0 0] 68) = W0 := ⟨_, rfl⟩
  have b0 : Below w.heap.size w W0 := by rw [← hW0]; exact (below_alloc _ _).alloc (by simp) _
  have z0 : W0.heap.size = w.heap.size + 2 := by rw [← hW0]; simp
  have h0 : W0.heap[w.heap.size]? = some (Obj.cells #[c0, c1, c2, c3] 68) := by rw [← hW0, Below.heap_alloc _ _ _ (by simp)]; exact heap_alloc_new w _
  have h1 : W0.heap[w.heap.size + 1]? = some (Obj.cells #[Value.int .i64 0, Value.string ⟨#[]⟩, Value.slice none 0 0, Value.slice none 0 0] 68) := by rw [← hW0]; exact heap_alloc2_new w _ _
  have p0 : W0.cell? ⟨w.heap.size, 0, none⟩ = some c0 := by rw [cell_of h0]; rfl
  have p1 : W0.cell? ⟨w.heap.size, 1, none⟩ = some c1 := by rw [cell_of h0]; rfl
  have p2 : W0.cell? ⟨w.heap.size, 2, none⟩ = some c2 := by rw [cell_of h0]; rfl
  have p3 : W0.cell? ⟨w.heap.size, 3, none⟩ = some c3 := by rw [cell_of h0]; rfl
  have H1 := Lib.hid h1
  have Z0 := Lib.hid z0
  have cc := Lib.hid (inNewValue r hsh hz W0 c0 c1 c2 c3 (At.below b0 _ a0) (At.below b0 _ a1) (At.below b0 _ a2) (At.below b0 _ a3))
  clear h0 h1 z0 a0 a1 a2 a3
  go_enter Try.func55, Try.ntmps55
  go_wp2_with fail
  clear hW0 p0 p1 p2 p3
  refine cc.out.mono ?_
  rintro e w1 ⟨d0, d1, d2, d3, rfl, ho, hb1⟩
  have HO := Lib.hid ho
  have t0 := ho.at 0 _ rfl
  have t1 := ho.at 1 _ rfl
  have t2 := ho.at 2 _ rfl
  have t3 := ho.at 3 _ rfl
  clear ho cc
  obtain ⟨yk0, rfl⟩ := At.int t0 (hsh 0 _ rfl)
  obtain ⟨yk1, rfl⟩ := At.str t1 (hsh 1 _ rfl)
  obtain ⟨yA2, yn2, yp2, rfl⟩ := At.lst t2 (hsh 2 _ rfl)
  obtain ⟨yA3, yn3, yp3, rfl⟩ := At.lst t3 (hsh 3 _ rfl)
  clear t0 t1 t2 t3
  have hzb := (hb1.block _ (by have := Z0.out; omega)).trans H1.out
  have u0 : w1.cell? ⟨w.heap.size + 1, 0, none⟩ = some (Value.int .i64 0) := by rw [cell_of hzb]; rfl
  have z0 : w1.frozen? ⟨w.heap.size + 1, 0, none⟩ = false := frozen_no hzb _
  have u1 : w1.cell? ⟨w.heap.size + 1, 1, none⟩ = some (Value.string ⟨#[]⟩) := by rw [cell_of hzb]; rfl
  have z1 : w1.frozen? ⟨w.heap.size + 1, 1, none⟩ = false := frozen_no hzb _
  have u2 : w1.cell? ⟨w.heap.size + 1, 2, none⟩ = some (Value.slice none 0 0) := by rw [cell_of hzb]; rfl
  have z2 : w1.frozen? ⟨w.heap.size + 1, 2, none⟩ = false := frozen_no hzb _
  have u3 : w1.cell? ⟨w.heap.size + 1, 3, none⟩ = some (Value.slice none 0 0) := by rw [cell_of hzb]; rfl
  have z3 : w1.frozen? ⟨w.heap.size + 1, 3, none⟩ = false := frozen_no hzb _
  have HZB := Lib.hid hzb
  have hs1 := hb1.size
  clear hzb
  go_wp2
  obtain ⟨W9, hW9⟩ : ∃ W9, ((((w1.setCell ⟨w.heap.size + 1, 0, none⟩ (Value.int .i64 yk0)).setCell ⟨w.heap.size + 1, 1, none⟩ (Value.string yk1)).setCell ⟨w.heap.size + 1, 2, none⟩ (Value.slice yA2 yn2 yp2)).setCell ⟨w.heap.size + 1, 3, none⟩ (Value.slice yA3 yn3 yp3)) = W9 := ⟨_, rfl⟩
  have hW9' : stores w1 (w.heap.size + 1) 0 [Value.int .i64 yk0, Value.string yk1, Value.slice yA2 yn2 yp2, Value.slice yA3 yn3 yp3] = W9 := hW9
  rw [hW9]
  clear hW9
  have hg9 : W9.heap[w.heap.size + 1]? = some (Obj.cells #[Value.int .i64 yk0, Value.string yk1, Value.slice yA2 yn2 yp2, Value.slice yA3 yn3 yp3] 68) := by
    rw [← hW9']
    exact stores_heap _ _ 0 #[Value.int .i64 0, Value.string ⟨#[]⟩, Value.slice none 0 0, Value.slice none 0 0] HZB.out
  have hk9 : ∀ x, x ≠ w.heap.size + 1 → W9.heap[x]? = w1.heap[x]? := fun x hx => by rw [← hW9', stores_other hx]
  have hz9 : W9.heap.size = w1.heap.size := by rw [← hW9', stores_size]
  have bb9 : Below w.heap.size w W9 := by rw [← hW9']; exact stores_below (by omega) _ _ _ (below_trans b0 hb1)
  clear hW9'
  (try simp only [Exit.inBlock, Exit.then])
  refine bodyPost_ret (results_cell_row rfl _ W9 (w.heap.size + 1) _ _ _ _ rfl hg9 Try.underlying68 rfl (by kernel_rfl)) rfl ?_
  refine ⟨_, _, _, _, rfl, ?_, bb9⟩
  have := Z0.out
  exact (HO.out.same fun x hx => hk9 x (by have := hx.1; omega)).wide fun x hx => ⟨by have := hx.1; omega, by have := hx.2; omega⟩

set_option maxRecDepth 100000 in
set_option maxHeartbeats 8000000 in
theorem copyOfArgs_of (n : Nat) (it : Nat → Nat → D) (hsh : ∀ i, i < n → ∀ j g, (row .arg)[j]? = some g → Sh (it i j) g) (hit : ∀ i, i < n → PcValue fun j => it i (j + 1)) : ToL 47 (.list 5 n it) := by
  intro w c hs h
  obtain ⟨A, cap, rfl, hm⟩ := h.slice
  obtain ⟨xs, x1, x2, x3, x4⟩ := h.flat (by omega)
  have hn : n ≤ 1048576 := by simp only [sz] at hs; omega
  have cv := Lib.hid (clnArg w A n cap xs hn x1 x2 x3)
  have X4 := Lib.hid x4
  have HSZ := Lib.hid hs
  clear h hs x1 x2 x3 x4
  unfold maxLen at hm
  go_enter Try.func47, Try.ntmps47
  go_wp2_with fail
  refine cv.out.mono ?_
  rintro e w1 ⟨B, cp, rfl, hrow, hb1⟩
  obtain ⟨l1, l2, l3⟩ := row_form hrow
  unfold maxLen at l2
  clear cv hrow
  by_cases h0 : n = 0
  · subst h0
    go_wp2
    go_loopw [10] (fun i wr => i = .int .i64 0 ∧ wr = w1) (fun _ _ => 0)
    case atStart => exact ⟨rfl, rfl⟩
    case round =>
      obtain ⟨rfl, rfl⟩ := hrel
      go_wp2
      go_ret
      exact ⟨_, rfl, ⟨B, cp, rfl, l1, by unfold maxLen; omega, fun h => absurd h (Nat.lt_irrefl _)⟩, hb1⟩
  · obtain ⟨g, cur0, rfl, hgB, hgl, hg, hcs, hq⟩ := l3 (by omega)
    have LD : Hid (Laid w1 (g + 1) g 5 n 0 70 it) := Laid.zero hg hcs
    have SH : Hid (∀ cur, w1.heap[g]? = some (.cells cur 70 (0, 0)) → ∀ i, 0 ≤ i → i < n → ∀ j, j < 5 → ∃ d, cur[i * 5 + j]? = some d ∧ At w (it i j) d) := fun cur hcur i _ hi j hj => by
      rw [hg] at hcur
      simp only [Option.some.injEq, Obj.cells.injEq, and_true] at hcur
      obtain ⟨rfl, -⟩ := hcur
      obtain ⟨d, hd, ha⟩ := X4.out i hi j hj
      exact ⟨d, by rw [hq _ (by omega)]; exact hd, ha⟩
    clear l3 hg hcs hq
    go_wp2
    go_loopw [10] (fun i wr => ∃ k : Nat, k ≤ n ∧ i = .int .i64 k ∧ Laid wr (g + 1) g 5 n k 70 it ∧ (∀ cur, wr.heap[g]? = some (.cells cur 70 (0, 0)) → ∀ i, k ≤ i → i < n → ∀ j, j < 5 → ∃ d, cur[i * 5 + j]? = some d ∧ At w (it i j) d) ∧ g < wr.heap.size ∧ Below w.heap.size w wr) (fun i _ => n - (intOf i).toNat)
    case atStart => exact ⟨0, Nat.zero_le _, rfl, LD.out, SH.out, hgl, hb1⟩
    case round =>
      clear LD SH
      obtain ⟨k, hk, rfl, hlaid, hshal, hgs, hbel⟩ := hrel
      have HLD := Lib.hid hlaid
      have HSH := Lib.hid hshal
      obtain ⟨cur, hg, hcs⟩ := hlaid.heap
      have HG := Lib.hid hg
      have HCS := Lib.hid hcs
      clear hlaid hshal
      by_cases hlt : k < n
      · have hk0 : (0 : Int) ≤ (k : Int) := by omega
        have hk1 : (k : Int) < (n : Int) := by omega
        obtain ⟨c0, c1, c2, c3, c4, ⟨f0, a0⟩, ⟨f1, a1⟩, ⟨f2, a2⟩, ⟨f3, a3⟩, ⟨f4, a4⟩⟩ := five (HSH.out cur hg k (Nat.le_refl _) hlt)
        rw [Nat.add_zero] at f0
        have A0 := Lib.hid a0
        have A1 := Lib.hid a1
        have A2 := Lib.hid a2
        have A3 := Lib.hid a3
        have A4 := Lib.hid a4
        obtain ⟨xk0, rfl⟩ := At.str a0 (hsh k hlt 0 _ rfl)
        obtain ⟨xk1, rfl⟩ := At.int a1 (hsh k hlt 1 _ rfl)
        obtain ⟨xk2, rfl⟩ := At.str a2 (hsh k hlt 2 _ rfl)
        obtain ⟨xA3, xn3, xp3, rfl⟩ := At.lst a3 (hsh k hlt 3 _ rfl)
        obtain ⟨xA4, xn4, xp4, rfl⟩ := At.lst a4 (hsh k hlt 4 _ rfl)
        have q0 : wr.cell? ⟨g, k * 5, none⟩ = some (Value.string xk0) := by rw [cell_of hg]; exact f0
        have q1 : wr.cell? ⟨g, k * 5 + 1, none⟩ = some (Value.int .i64 xk1) := by rw [cell_of hg]; exact f1
        have q2 : wr.cell? ⟨g, k * 5 + 2, none⟩ = some (Value.string xk2) := by rw [cell_of hg]; exact f2
        have q3 : wr.cell? ⟨g, k * 5 + 3, none⟩ = some (Value.slice xA3 xn3 xp3) := by rw [cell_of hg]; exact f3
        have q4 : wr.cell? ⟨g, k * 5 + 4, none⟩ = some (Value.slice xA4 xn4 xp4) := by rw [cell_of hg]; exact f4
        have F0 := Lib.hid f0
        have F1 := Lib.hid f1
        have F2 := Lib.hid f2
        have F3 := Lib.hid f3
        have F4 := Lib.hid f4
        have bal : Below w.heap.size w (wr.alloc (Obj.cells #[Value.string xk0, Value.int .i64 xk1, Value.string xk2, Value.slice xA3 xn3 xp3, Value.slice xA4 xn4 xp4] 70)) := hbel.alloc hbel.size _
        have cc := Lib.hid (hit k hlt (wr.alloc (Obj.cells #[Value.string xk0, Value.int .i64 xk1, Value.string xk2, Value.slice xA3 xn3 xp3, Value.slice xA4 xn4 xp4] 70)) (Value.int .i64 xk1) (Value.string xk2) (Value.slice xA3 xn3 xp3) (Value.slice xA4 xn4 xp4) (fun j hj => Nat.le_trans (Nat.le_of_succ_le (sz_cell (W := 5) (it := it) (j := j + 1) hlt (by omega))) HSZ.out) (At.below bal _ A1.out) (At.below bal _ A2.out) (At.below bal _ A3.out) (At.below bal _ A4.out))
        clear f0 f1 f2 f3 f4 a0 a1 a2 a3 a4 hg hcs
        go_wp2_with fail
        clear q0 q1 q2 q3 q4
        refine cc.out.mono ?_
        rintro e w2 ⟨d1, d2, d3, d4, rfl, ho, hb2⟩
        have t1 := ho.at 0 _ rfl
        have t2 := ho.at 1 _ rfl
        have t3 := ho.at 2 _ rfl
        have t4 := ho.at 3 _ rfl
        have HO := Lib.hid ho
        clear ho cc
        obtain ⟨yk1, rfl⟩ := At.int t1 (hsh k hlt 1 _ rfl)
        obtain ⟨yk2, rfl⟩ := At.str t2 (hsh k hlt 2 _ rfl)
        obtain ⟨yA3, yn3, yp3, rfl⟩ := At.lst t3 (hsh k hlt 3 _ rfl)
        obtain ⟨yA4, yn4, yp4, rfl⟩ := At.lst t4 (hsh k hlt 4 _ rfl)
        have hs2 := hb2.size
        rw [World.size_alloc] at hs2
        have b2 : Below wr.heap.size wr w2 := below_trans (below_alloc wr _) hb2
        have hg2 := (b2.block g hgs).trans HG.out
        have hcs := HCS.out
        obtain ⟨o1, p1⟩ : ∃ old, w2.cell? ⟨g, k * 5 + 1, none⟩ = some old := by rw [cell_of hg2]; exact ⟨_, F1.out⟩
        have z1 : w2.frozen? ⟨g, k * 5 + 1, none⟩ = false := frozen_no hg2 _
        obtain ⟨o2, p2⟩ : ∃ old, w2.cell? ⟨g, k * 5 + 2, none⟩ = some old := by rw [cell_of hg2]; exact ⟨_, F2.out⟩
        have z2 : w2.frozen? ⟨g, k * 5 + 2, none⟩ = false := frozen_no hg2 _
        obtain ⟨o3, p3⟩ : ∃ old, w2.cell? ⟨g, k * 5 + 3, none⟩ = some old := by rw [cell_of hg2]; exact ⟨_, F3.out⟩
        have z3 : w2.frozen? ⟨g, k * 5 + 3, none⟩ = false := frozen_no hg2 _
        obtain ⟨o4, p4⟩ : ∃ old, w2.cell? ⟨g, k * 5 + 4, none⟩ = some old := by rw [cell_of hg2]; exact ⟨_, F4.out⟩
        have z4 : w2.frozen? ⟨g, k * 5 + 4, none⟩ = false := frozen_no hg2 _
        have HG2 := Lib.hid hg2
        clear hg2 hcs
        go_wp2
        go_roundw
        case rel =>
          have hcs := HCS.out
          have hst := stores_heap [Value.int .i64 yk1, Value.string yk2, Value.slice yA3 yn3 yp3, Value.slice yA4 yn4 yp4] w2 (k * 5 + 1) _ HG2.out
          have hoth : ∀ b, b ≠ g → (stores w2 g (k * 5 + 1) [Value.int .i64 yk1, Value.string yk2, Value.slice yA3 yn3 yp3, Value.slice yA4 yn4 yp4]).heap[b]? = w2.heap[b]? := fun b hb => stores_other hb _ _ _
          have hzs := stores_size (g := g) [Value.int .i64 yk1, Value.string yk2, Value.slice yA3 yn3 yp3, Value.slice yA4 yn4 yp4] w2 (k * 5 + 1)
          have hbb : Below w.heap.size w (stores w2 g (k * 5 + 1) [Value.int .i64 yk1, Value.string yk2, Value.slice yA3 yn3 yp3, Value.slice yA4 yn4 yp4]) := stores_below hgB _ _ _ (below_trans bal hb2)
          have hor : OwnR w2 (it k) (rng wr.heap.size w2.heap.size) [Value.string xk0, Value.int .i64 yk1, Value.string yk2, Value.slice yA3 yn3 yp3, Value.slice yA4 yn4 yp4] := ownR_plain (Own.plain A0.out (hsh k hlt 0 _ rfl)) (HO.out.wide fun x hx => ⟨by have := hx.1; rw [World.size_alloc] at this; omega, hx.2⟩)
          have hin := setRow_in [Value.int .i64 yk1, Value.string yk2, Value.slice yA3 yn3 yp3, Value.slice yA4 yn4 yp4] cur (k * 5 + 1)
          have hout : ∀ q, q < k * 5 + 1 ∨ k * 5 + 5 ≤ q → (setRow cur (k * 5 + 1) [Value.int .i64 yk1, Value.string yk2, Value.slice yA3 yn3 yp3, Value.slice yA4 yn4 yp4])[q]? = cur[q]? := fun q hq => setRow_out _ _ _ (by simp only [List.length_cons, List.length_nil]; omega)
          have hld := Laid.step2 (w9 := stores w2 g (k * 5 + 1) [Value.int .i64 yk1, Value.string yk2, Value.slice yA3 yn3 yp3, Value.slice yA4 yn4 yp4]) HLD.out hlt hgs (by omega) b2 rfl hor ⟨_, HG2.out, _, hst, setRow_size _ _ _, fun q hq => hout q (by omega), fun j hj => ?_⟩ hoth hzs
          · refine ⟨k + 1, by omega, by go_num, hld, fun cur' hcur i hi hin2 j hj => ?_, Nat.lt_of_lt_of_eq (by omega) hzs.symm, hbb⟩
            have e := hst.symm.trans hcur
            simp only [Option.some.injEq, Obj.cells.injEq, and_true] at e
            subst e
            obtain ⟨d, hd, ha⟩ := HSH.out cur HG.out i (by omega) hin2 j hj
            exact ⟨d, by rw [hout _ (by omega)]; exact hd, ha⟩
          · match j, hj with
            | 0, _ => rw [hout _ (by omega)]; exact F0.out
            | 1, _ => exact hin 0 (by simp) (by simp; omega)
            | 2, _ => exact hin 1 (by simp) (by simp; omega)
            | 3, _ => exact hin 2 (by simp) (by simp; omega)
            | 4, _ => exact hin 3 (by simp) (by simp; omega)
        case measure => simp [intOf]; omega
      · obtain rfl : k = n := by omega
        go_wp2
        go_ret
        exact ⟨_, rfl, HLD.out.own hgB l1 (by unfold maxLen; omega) hgs, hbel⟩

set_option maxRecDepth 100000 in
set_option maxHeartbeats 8000000 in
theorem copyOfDirs_of (n : Nat) (it : Nat → Nat → D) (hsh : ∀ i, i < n → ∀ j g, (row .dir)[j]? = some g → Sh (it i j) g) (hit : ∀ i, i < n → ToL 47 (it i 1)) : ToL 48 (.list 2 n it) := by
  intro w c hs h
  obtain ⟨A, cap, rfl, hm⟩ := h.slice
  obtain ⟨xs, x1, x2, x3, x4⟩ := h.flat (by omega)
  have hn : n ≤ 1048576 := by simp only [sz] at hs; omega
  have cv := Lib.hid (clnDir w A n cap xs hn x1 x2 x3)
  have X4 := Lib.hid x4
  have HSZ := Lib.hid hs
  clear h hs x1 x2 x3 x4
  unfold maxLen at hm
  go_enter Try.func48, Try.ntmps48
  go_wp2_with fail
  refine cv.out.mono ?_
  rintro e w1 ⟨B, cp, rfl, hrow, hb1⟩
  obtain ⟨l1, l2, l3⟩ := row_form hrow
  unfold maxLen at l2
  clear cv hrow
  by_cases h0 : n = 0
  · subst h0
    go_wp2
    go_loopw [10] (fun i wr => i = .int .i64 0 ∧ wr = w1) (fun _ _ => 0)
    case atStart => exact ⟨rfl, rfl⟩
    case round =>
      obtain ⟨rfl, rfl⟩ := hrel
      go_wp2
      go_ret
      exact ⟨_, rfl, ⟨B, cp, rfl, l1, by unfold maxLen; omega, fun h => absurd h (Nat.lt_irrefl _)⟩, hb1⟩
  · obtain ⟨g, cur0, rfl, hgB, hgl, hg, hcs, hq⟩ := l3 (by omega)
    have LD : Hid (Laid w1 (g + 1) g 2 n 0 74 it) := Laid.zero hg hcs
    have SH : Hid (∀ cur, w1.heap[g]? = some (.cells cur 74 (0, 0)) → ∀ i, 0 ≤ i → i < n → ∀ j, j < 2 → ∃ d, cur[i * 2 + j]? = some d ∧ At w (it i j) d) := fun cur hcur i _ hi j hj => by
      rw [hg] at hcur
      simp only [Option.some.injEq, Obj.cells.injEq, and_true] at hcur
      obtain ⟨rfl, -⟩ := hcur
      obtain ⟨d, hd, ha⟩ := X4.out i hi j hj
      exact ⟨d, by rw [hq _ (by omega)]; exact hd, ha⟩
    clear l3 hg hcs hq
    go_wp2
    go_loopw [10] (fun i wr => ∃ k : Nat, k ≤ n ∧ i = .int .i64 k ∧ Laid wr (g + 1) g 2 n k 74 it ∧ (∀ cur, wr.heap[g]? = some (.cells cur 74 (0, 0)) → ∀ i, k ≤ i → i < n → ∀ j, j < 2 → ∃ d, cur[i * 2 + j]? = some d ∧ At w (it i j) d) ∧ g < wr.heap.size ∧ Below w.heap.size w wr) (fun i _ => n - (intOf i).toNat)
    case atStart => exact ⟨0, Nat.zero_le _, rfl, LD.out, SH.out, hgl, hb1⟩
    case round =>
      clear LD SH
      obtain ⟨k, hk, rfl, hlaid, hshal, hgs, hbel⟩ := hrel
      have HLD := Lib.hid hlaid
      have HSH := Lib.hid hshal
      obtain ⟨cur, hg, hcs⟩ := hlaid.heap
      have HG := Lib.hid hg
      have HCS := Lib.hid hcs
      clear hlaid hshal
      by_cases hlt : k < n
      · have hk0 : (0 : Int) ≤ (k : Int) := by omega
        have hk1 : (k : Int) < (n : Int) := by omega
        obtain ⟨c0, c1, ⟨f0, a0⟩, ⟨f1, a1⟩⟩ := two (HSH.out cur hg k (Nat.le_refl _) hlt)
        rw [Nat.add_zero] at f0
        have A0 := Lib.hid a0
        have A1 := Lib.hid a1
        obtain ⟨xk0, rfl⟩ := At.str a0 (hsh k hlt 0 _ rfl)
        obtain ⟨xA1, xn1, xp1, rfl⟩ := At.lst a1 (hsh k hlt 1 _ rfl)
        have q0 : wr.cell? ⟨g, k * 2, none⟩ = some (Value.string xk0) := by rw [cell_of hg]; exact f0
        have q1 : wr.cell? ⟨g, k * 2 + 1, none⟩ = some (Value.slice xA1 xn1 xp1) := by rw [cell_of hg]; exact f1
        have F0 := Lib.hid f0
        have F1 := Lib.hid f1
        have bal : Below w.heap.size w (wr.alloc (Obj.cells #[Value.string xk0, Value.slice xA1 xn1 xp1] 74)) := hbel.alloc hbel.size _
        have cc := Lib.hid (hit k hlt (wr.alloc (Obj.cells #[Value.string xk0, Value.slice xA1 xn1 xp1] 74)) (Value.slice xA1 xn1 xp1) (by have := sz_cell (W := 2) (it := it) (j := 1) hlt (by omega); have := HSZ.out; omega) (At.below bal _ A1.out))
        clear f0 f1 a0 a1 hg hcs
        go_wp2_with fail
        clear q0 q1
        refine cc.out.mono ?_
        rintro e w2 ⟨d1, rfl, ho, hb2⟩
        have t1 := Own.at _ ho
        have HO := Lib.hid ho
        clear ho cc
        obtain ⟨yA1, yn1, yp1, rfl⟩ := At.lst t1 (hsh k hlt 1 _ rfl)
        have hs2 := hb2.size
        rw [World.size_alloc] at hs2
        have b2 : Below wr.heap.size wr w2 := below_trans (below_alloc wr _) hb2
        have hg2 := (b2.block g hgs).trans HG.out
        have hcs := HCS.out
        obtain ⟨o1, p1⟩ : ∃ old, w2.cell? ⟨g, k * 2 + 1, none⟩ = some old := by rw [cell_of hg2]; exact ⟨_, F1.out⟩
        have z1 : w2.frozen? ⟨g, k * 2 + 1, none⟩ = false := frozen_no hg2 _
        have HG2 := Lib.hid hg2
        clear hg2 hcs
        go_wp2
        go_roundw
        case rel =>
          have hcs := HCS.out
          have hst := stores_heap [Value.slice yA1 yn1 yp1] w2 (k * 2 + 1) _ HG2.out
          have hoth : ∀ b, b ≠ g → (stores w2 g (k * 2 + 1) [Value.slice yA1 yn1 yp1]).heap[b]? = w2.heap[b]? := fun b hb => stores_other hb _ _ _
          have hzs := stores_size (g := g) [Value.slice yA1 yn1 yp1] w2 (k * 2 + 1)
          have hbb : Below w.heap.size w (stores w2 g (k * 2 + 1) [Value.slice yA1 yn1 yp1]) := stores_below hgB _ _ _ (below_trans bal hb2)
          have hor : OwnR w2 (it k) (rng wr.heap.size w2.heap.size) [Value.string xk0, Value.slice yA1 yn1 yp1] := ownR_plain (Own.plain A0.out (hsh k hlt 0 _ rfl)) (ownR_cons (F2 := fun _ => False) (Own.wide (fun x hx => (⟨by have := hx.1; rw [World.size_alloc] at this; omega, hx.2⟩ : rng wr.heap.size w2.heap.size x)) _ HO.out) ownR_nil (fun _ _ h => h) (fun _ h => h) (fun _ h => h.elim))
          have hin := setRow_in [Value.slice yA1 yn1 yp1] cur (k * 2 + 1)
          have hout : ∀ q, q < k * 2 + 1 ∨ k * 2 + 2 ≤ q → (setRow cur (k * 2 + 1) [Value.slice yA1 yn1 yp1])[q]? = cur[q]? := fun q hq => setRow_out _ _ _ (by simp only [List.length_cons, List.length_nil]; omega)
          have hld := Laid.step2 (w9 := stores w2 g (k * 2 + 1) [Value.slice yA1 yn1 yp1]) HLD.out hlt hgs (by omega) b2 rfl hor ⟨_, HG2.out, _, hst, setRow_size _ _ _, fun q hq => hout q (by omega), fun j hj => ?_⟩ hoth hzs
          · refine ⟨k + 1, by omega, by go_num, hld, fun cur' hcur i hi hin2 j hj => ?_, Nat.lt_of_lt_of_eq (by omega) hzs.symm, hbb⟩
            have e := hst.symm.trans hcur
            simp only [Option.some.injEq, Obj.cells.injEq, and_true] at e
            subst e
            obtain ⟨d, hd, ha⟩ := HSH.out cur HG.out i (by omega) hin2 j hj
            exact ⟨d, by rw [hout _ (by omega)]; exact hd, ha⟩
          · match j, hj with
            | 0, _ => rw [hout _ (by omega)]; exact F0.out
            | 1, _ => exact hin 0 (by simp) (by simp; omega)
        case measure => simp [intOf]; omega
      · obtain rfl : k = n := by omega
        go_wp2
        go_ret
        exact ⟨_, rfl, HLD.out.own hgB l1 (by unfold maxLen; omega) hgs, hbel⟩

theorem copyArgs {d : D} (h : Sh d (.lst .arg)) : ToL 47 d := by
  obtain ⟨n, it, rfl, hs⟩ := h.lst
  exact copyOfArgs_of n it hs fun i hi => copyOfValue _ (sh_value (hs i hi))
theorem copyDirs {d : D} (h : Sh d (.lst .dir)) : ToL 48 d := by
  obtain ⟨n, it, rfl, hs⟩ := h.lst
  exact copyOfDirs_of n it hs fun i hi => copyArgs (hs i hi 1 _ rfl)
end Da
end Go.Proofs.Ytfnieelghfkbdaa
