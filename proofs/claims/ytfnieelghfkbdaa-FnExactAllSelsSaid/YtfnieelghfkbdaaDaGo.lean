/- What is proved: what the program's AllSels answers: all of them, in memory of its own. -/
import Derived.Test.YtfnieelghfkbdaaDaGb
import Derived.Test.YtfnieelghfkbdaaDaY
namespace Go.Proofs.Ytfnieelghfkbdaa
namespace Da
set_option linter.unusedVariables false
open Go.RowKit Go.Shelf
attribute [local go_sem] Oper.semAt_some

/-- The region of the body of AllSels. -/
def regOf : Code → Array Oper
  | .seq _ (.seq _ (.seq (.seq _ (.block _ (.rangeFunc _ _ _ (.block _ (.region _ ops _))))) _)) => ops
  | _ => #[]
/-- Which of its operations may come up, as long as nothing is appended. -/
def rcond (b0 b1 b2 b3 b4 : Bool) (i : Nat) : Bool := (i == 0 && !b0) || ((i == 1 && !b1) || ((i == 2 && (b1 && !b2)) || ((i == 3 && (b0 && !b3)) || ((i == 4 && !b4) || (i == 5 && (b0 && (b1 && (b2 && (b3 && b4)))))))))
theorem rdyB : ∀ b0 b1 b2 b3 b4 : Bool, (Region.ready .any (regOf (Try.f8.body.getD .skip)) #[b0, b1, b2, b3, b4, false, false, false, false]).all (rcond b0 b1 b2 b3 b4) = true := by decide +kernel
theorem rdyE : ∀ b0 b1 b2 b3 b4 : Bool, (Region.ready .any (regOf (Try.f8.body.getD .skip)) #[b0, b1, b2, b3, b4, false, false, false, false]).isEmpty = false := by decide +kernel
theorem rdyP {b0 b1 b2 b3 b4 : Bool} {i : Nat} (h : i ∈ Region.ready .any (regOf (Try.f8.body.getD .skip)) #[b0, b1, b2, b3, b4, false, false, false, false]) :
    (i = 0 ∧ b0 = false) ∨ (i = 1 ∧ b1 = false) ∨ (i = 2 ∧ b1 = true ∧ b2 = false) ∨ (i = 3 ∧ b0 = true ∧ b3 = false) ∨ (i = 4 ∧ b4 = false) ∨ (i = 5 ∧ b0 = true ∧ b1 = true ∧ b2 = true ∧ b3 = true ∧ b4 = true) := by
  have := List.all_eq_true.1 (rdyB b0 b1 b2 b3 b4) i h
  simpa [rcond] using this
def cnt (b0 b1 b2 b3 b4 : Bool) : Nat := (!b0).toNat + (!b1).toNat + (!b2).toNat + (!b3).toNat + (!b4).toNat
def zero7 : List Value := [Value.int .i64 0, Value.string ⟨#[]⟩, Value.string ⟨#[]⟩, Value.string ⟨#[]⟩, Value.slice none 0 0, Value.slice none 0 0, Value.slice none 0 0]

/-- Between two rounds: k of them have been copied; v is the row of the walk. -/
def InvS (w : World) (d : D) (k : Nat) (v : Value) (W : World) : Prop :=
  ∃ va xs, W.heap[w.heap.size + 1]? = some (.cells #[va] 24 (0, 0)) ∧
    LstX W w.heap.size (fun b => b = w.heap.size + 1 ∨ b = w.heap.size + 3 ∨ b = w.heap.size + 4 ∨ isBlk v b) 41 7 k va (fun i => (allRows d).getD i fun _ => .no) xs ∧
    (∀ b, isBlk v b → w.heap.size + 3 ≤ b ∧ b < W.heap.size) ∧ Below w.heap.size w W ∧ w.heap.size + 3 ≤ W.heap.size

theorem InvS.turn {w : World} {d : D} {k : Nat} {v v' : Value} {A B : World} {row : Option Nat} (h : InvS w d k v A) (hg : A.grownBy B row) (hr : ∀ r, row = some r → isBlk v r ∨ r = w.heap.size + 3 ∨ r = w.heap.size + 4)
    (hv : ∀ r, isBlk v' r → (isBlk v r ∨ A.heap.size ≤ r) ∧ r < B.heap.size) : InvS w d k v' B := by
  obtain ⟨va, xs, h1, h2, h3, h4, h5⟩ := h
  have hz := hg.size
  have row_ge : ∀ r, row = some r → w.heap.size + 3 ≤ r := fun r e => by
    rcases hr r e with h | h | h
    · exact (h3 r h).1
    · omega
    · omega
  refine ⟨va, xs, (hg.block _ (by omega) fun e => by have := row_ge _ e.symm; omega).trans h1, h2.agree (fun b hb hx => hg.block b hb fun e => hx ?_) hz (fun b hb => ?_), fun b hb => ?_, h4.grown hg (by omega) (fun r e => by have := row_ge r e; omega), by omega⟩
  · rcases hr b e.symm with h | h | h
    · exact .inr (.inr (.inr h))
    · exact .inr (.inl h)
    · exact .inr (.inr (.inl h))
  · rcases hb with h | h | h | h
    · exact .inl (.inl h)
    · exact .inl (.inr (.inl h))
    · exact .inl (.inr (.inr (.inl h)))
    · rcases (hv b h).1 with h | h
      · exact .inl (.inr (.inr (.inr h)))
      · exact .inr h
  · have := (hv b hb).2
    rcases (hv b hb).1 with h | h
    · exact ⟨(h3 b h).1, this⟩
    · exact ⟨by omega, this⟩

/-- One round more. -/
theorem InvS.more {w V x y z : World} {d : D} {k g2 cap2 : Nat} {v va : Value} {xs zs ds : List Value}
    (hl : LstX V w.heap.size (fun b => b = w.heap.size + 1 ∨ b = w.heap.size + 3 ∨ b = w.heap.size + 4 ∨ isBlk v b) 41 7 k va (fun i => (allRows d).getD i fun _ => .no) xs)
    (hv : ∀ b, isBlk v b → w.heap.size + 3 ≤ b ∧ b < V.heap.size) (hb : Below w.heap.size w V) (hsz : w.heap.size + 5 ≤ V.heap.size) (hx : Below V.heap.size V x) (hds : ds.length = 7)
    (ho : OwnR x ((allRows d).getD k fun _ => .no) (rng V.heap.size x.heap.size) ds)
    (hy : y.ownsRow w.heap.size 41 7 (.slice (some ⟨g2, 0, none⟩) (k + 1) cap2) (k + 1) (xs ++ zs)) (hgr : x.grownBy y va.ownBlock) (hor : va.ownBlock = some g2 ∨ g2 = x.heap.size)
    (z1 : z.heap[w.heap.size + 1]? = some (.cells #[.slice (some ⟨g2, 0, none⟩) (k + 1) cap2] 24 (0, 0))) (z2 : z.heap[g2]? = (stores y g2 (k * 7) ds).heap[g2]?)
    (z3 : ∀ b, b ≠ w.heap.size + 1 → b ≠ g2 → z.heap[b]? = y.heap[b]?) (z4 : z.os = y.os ∧ z.tape = y.tape ∧ z.output = y.output ∧ z.heap.size = y.heap.size) :
    (∀ r, r = w.heap.size + 3 ∨ r = w.heap.size + 4 ∨ isBlk v r → z.heap[r]? = V.heap[r]?) ∧ Below w.heap.size V z ∧ InvS w d (k + 1) v z := by
  obtain ⟨H, r1, rX, -, -⟩ := id hl
  have hxs := hx.size
  have hgs0 := hgr.size
  have hst := stores_below (B := 0) (Nat.zero_le g2) ds y (k * 7) (Below.refl 0 y)
  have hss : (stores y g2 (k * 7) ds).heap.size = y.heap.size := stores_size ds y _
  have hs := own_stores hy r1.1 hds
  have hgs : x.grownBy (stores y g2 (k * 7) ds) va.ownBlock := ⟨hst.os.trans hgr.os, hst.tape.trans hgr.tape, hst.output.trans hgr.output, by omega, fun b hb' hne => by
    refine (stores_other ?_ ds y _).trans (hgr.block b hb' hne)
    rcases hor with h | h
    · intro e; rw [e] at hne; exact hne h.symm
    · omega⟩
  have hXlt : ∀ b, (b = w.heap.size + 1 ∨ b = w.heap.size + 3 ∨ b = w.heap.size + 4 ∨ isBlk v b) → b < V.heap.size := fun b h => by
    rcases h with h | h | h | h
    · omega
    · omega
    · omega
    · exact (hv b h).2
  have L1 := hl.step hb.size hXlt hx hds ho hs hgs hor
  have hg2 : ¬ (g2 = w.heap.size + 1 ∨ g2 = w.heap.size + 3 ∨ g2 = w.heap.size + 4 ∨ isBlk v g2) := by
    obtain ⟨-, -, q, -, -⟩ := id L1
    exact q g2 rfl
  have L2 := L1.agree (w' := z) (X' := fun b => b = w.heap.size + 1 ∨ b = w.heap.size + 3 ∨ b = w.heap.size + 4 ∨ isBlk v b) (fun b _ hxb => by
    by_cases e : b = g2
    · subst e; exact z2
    · exact (z3 b (fun e' => hxb (.inl e')) e).trans (stores_other e ds y _).symm) (by omega) (fun b h => .inl h)
  have same : ∀ r, r ≠ w.heap.size + 1 → r ≠ g2 → r < V.heap.size → va.ownBlock ≠ some r → z.heap[r]? = V.heap[r]? := fun r q1 q2 q3 q4 =>
    (z3 r q1 q2).trans ((hgr.block r (by omega) (fun e => q4 e.symm)).trans (hx.block r q3))
  have hbz : Below w.heap.size V z := by
    refine ⟨z4.1.trans (hgr.os.trans hx.os), z4.2.1.trans (hgr.tape.trans hx.tape), z4.2.2.1.trans (hgr.output.trans hx.output), by omega, fun b hb' => same b (by omega) ?_ (by omega) ?_⟩
    · have := (own_blk hy).1; omega
    · intro e; have := (own_row_lt r1 e).1; omega
  refine ⟨fun r h => same r ?_ ?_ (hXlt r (.inr h)) (fun e => rX r e (.inr h)), hbz, _, _, z1, L2, fun b h => ⟨(hv b h).1, by have := (hv b h).2; omega⟩, hb.trans hbz, by omega⟩
  · rcases h with h | h | h
    · omega
    · omega
    · have := (hv r h).1; omega
  · intro e; rw [e] at h; exact hg2 (.inr h)

/-- What lies where, behind the two stores, in either order. -/
def StoredAt (y z : World) (Bx g2 p : Nat) (v14 : Value) (ds : List Value) (t : TypeId) : Prop :=
  z.heap[Bx]? = some (.cells #[v14] t (0, 0)) ∧ z.heap[g2]? = (stores y g2 p ds).heap[g2]? ∧ (∀ b, b ≠ Bx → b ≠ g2 → z.heap[b]? = y.heap[b]?) ∧ (z.os = y.os ∧ z.tape = y.tape ∧ z.output = y.output ∧ z.heap.size = y.heap.size)
theorem storeA {y : World} {Bx g2 : Nat} {va v14 : Value} {t te : TypeId} {cur : Array Value} (p : Nat) (ds : List Value) (hby : y.heap[Bx]? = some (.cells #[va] t (0, 0))) (hcur : y.heap[g2]? = some (.cells cur te (0, 0))) (hne : Bx ≠ g2) :
    StoredAt y ((stores y g2 p ds).setCell ⟨Bx, 0, none⟩ v14) Bx g2 p v14 ds t := by
  have hst := stores_below (B := 0) (Nat.zero_le g2) ds y p (Below.refl 0 y)
  have h1 := heap_setCell_same (stores y g2 p ds) Bx 0 #[va] t v14 ((stores_other hne ds y p).trans hby)
  refine ⟨by simpa using h1, Below.heap_setCell _ _ _ _ (Ne.symm hne), fun b q1 q2 => (Below.heap_setCell _ _ _ _ q1).trans (stores_other q2 ds y p), hst.os, hst.tape, hst.output, ?_⟩
  simp only [World.setCell, Array.size_modify]
  exact stores_size ds y p
theorem storeB {y : World} {Bx g2 : Nat} {va v14 : Value} {t te : TypeId} {cur : Array Value} (p : Nat) (ds : List Value) (hby : y.heap[Bx]? = some (.cells #[va] t (0, 0))) (hcur : y.heap[g2]? = some (.cells cur te (0, 0))) (hne : Bx ≠ g2) :
    StoredAt y (stores (y.setCell ⟨Bx, 0, none⟩ v14) g2 p ds) Bx g2 p v14 ds t := by
  have hst := stores_below (B := 0) (Nat.zero_le g2) ds (y.setCell ⟨Bx, 0, none⟩ v14) p (Below.refl 0 _)
  have h1 := heap_setCell_same y Bx 0 #[va] t v14 hby
  refine ⟨(stores_other hne ds _ p).trans (by simpa using h1), ?_, fun b q1 q2 => (stores_other q2 ds _ p).trans (Below.heap_setCell _ _ _ _ q1), hst.os, hst.tape, hst.output, ?_⟩
  · rw [stores_heap ds y p cur hcur, stores_heap ds _ p cur ((Below.heap_setCell _ _ _ _ (Ne.symm hne)).trans hcur)]
  · rw [stores_size]; simp [World.setCell]

set_option maxRecDepth 100000 in
set_option maxHeartbeats 4000000 in
theorem allSelsI (d : D) (hsh : Sh d (.lst .sel)) (hs : sz d ≤ 1048576) (w : World) (c : Value) (hd : AtC w d c) :
    Calls Try.prog 8 #[c] w fun e w' => ∃ v, e = .returned v ∧ Own w' (allD d) (rng w.heap.size w'.heap.size) v ∧ Below w.heap.size w w' := by
  have hlen := allRows_len d hsh
  obtain ⟨A, n, cap, rfl⟩ := At.lst (AtC.at _ hd) hsh
  have HD := Lib.hid hd
  have ce : ∀ W : World, CallsIn Fence.wide (8 - 1) Try.prog 18 #[.slice A n cap] W fun e w' => e = .returned (.func (.func 33) #[] #[.pointer (some ⟨W.heap.size, 0, none⟩)]) ∧ W.alloc (.cells #[.slice A n cap] 24) = w' := fun W => callsIn_wide.2 (eachSelI W A n cap)
  clear hd
  refine (callsIn_wide (n := 8)).1 ?_
  refine callsIn_of_wp_marks Try.func8 rfl trivial ?_
  simp only [Try.ntmps8, List.size_toArray, List.length_cons, List.length_nil, Nat.reduceAdd, Nat.reduceSub, Array.replicate_succ, Array.replicate_zero, List.push_toArray, List.append_toArray, List.nil_append, List.cons_append]
  gi_wp2_with ((try refine ⟨trivial, ?_⟩); gi_at_call 18; refine (ce _).mono ?_; rintro e w' ⟨rfl, rfl⟩)
  clear ce
  obtain ⟨WL, hWL⟩ : ∃ WL, (((w.alloc (Obj.cells #[] 41)).alloc (Obj.cells #[Value.slice (some { block := w.heap.size, off := 0 }) 0 0] 24)).alloc (Obj.cells #[Value.slice A n cap] 24)) = WL := ⟨_, rfl⟩
  have zL : WL.heap.size = w.heap.size + 3 := by rw [← hWL]; simp
  have bL : Below w.heap.size w WL := by rw [← hWL]; exact ((below_alloc _ _).alloc (by simp) _).alloc (by simp; omega) _
  have gL0 : WL.heap[w.heap.size]? = some (.cells #[] 41 (0, 0)) := by
    rw [← hWL, Below.heap_alloc _ _ _ (by simp; omega), Below.heap_alloc _ _ _ (by simp)]; exact heap_alloc_new w _
  have gL1 : WL.heap[w.heap.size + 1]? = some (.cells #[Value.slice (some { block := w.heap.size, off := 0 }) 0 0] 24 (0, 0)) := by
    rw [← hWL, Below.heap_alloc _ _ _ (by simp)]; exact heap_alloc2_new w _ _
  have gL2 : WL.cell? ⟨w.heap.size + 1 + 1, 0, none⟩ = some (.slice A n cap) := by
    have : WL.heap[w.heap.size + 1 + 1]? = some (.cells #[Value.slice A n cap] 24 (0, 0)) := by
      rw [← hWL]
      have := heap_alloc_new ((w.alloc (Obj.cells #[] 41)).alloc (Obj.cells #[Value.slice (some { block := w.heap.size, off := 0 }) 0 0] 24)) (Obj.cells #[Value.slice A n cap] 24)
      simpa using this
    rw [cell_of this]; rfl
  rw [hWL]
  clear hWL
  have hseq := eachSel1 Fence.wide (8 - 1) trivial rfl (by decide) w WL d hsh (by omega) (.slice A n cap) HD.out bL (w.heap.size + 1 + 1) gL2
  refine wpIn_rangeFunc_self rfl (by decide) (gf := 33) rfl trivial (enters_of Try.func33 (by kernel_rfl) rfl) hseq (by omega) (fun k args h => by obtain ⟨c0, c1, c2, c3, c4, c5, c6, r, rfl, -, -⟩ := h; rfl) (InvS w d) ?turn ?h0 ?round ?done
  case turn =>
    intro k v A B row v' hi hg hr hv
    refine hi.turn hg (fun r e => ?_) hv
    rcases hr r e with h | h | h
    · exact .inl h
    · exact .inr (.inl (by omega))
    · exact .inr (.inr (by omega))
  case h0 =>
    refine ⟨_, [], gL1, LstX.zero (Nat.le_refl _) gL0 ?_, fun b h => absurd h (isBlk_nil _ _ _), bL, by omega⟩
    intro h0
    rcases h0 with h | h | h | h
    · omega
    · omega
    · omega
    · exact absurd h (isBlk_nil _ _ _)
  case done =>
    clear gL0 gL1 gL2
    rintro v W ⟨va, xs, h1, h2, h3, h4, h5⟩ hK
    have hcell : W.cell? ⟨w.heap.size + 1, 0, none⟩ = some va := by rw [cell_of h1]; rfl
    have HL := Lib.hid h2
    have H4 := Lib.hid h4
    clear h1 h2 h3 h4
    gi_wp2
    refine ⟨by simp, .inl ⟨_, _, rfl, run_takeDeferred hK, ?_⟩⟩
    refine ⟨_, results_tmp rfl _ _ _, va, rfl, (HL.out.agree (w' := W.putObj WL.heap.size (.deferred none)) (X' := fun b => b = w.heap.size + 1 ∨ b = w.heap.size + 3 ∨ b = w.heap.size + 4 ∨ isBlk v b) (fun b hb hx => World.putObj_heap_other (fun e => hx (.inr (.inl (by omega))))) (by simp) (fun b h => .inl h)).lst.own, H4.out.grown (grownBy_putObj' W WL.heap.size (.deferred none)) (by omega) (fun r e => by cases e; omega)⟩
  case round =>
    clear gL0 gL1 gL2 hseq
    rintro k v args W hi ⟨c0, c1, c2, c3, c4, c5, c6, r, rfl, hr, hat⟩ hsz2 hv
    have hmem : r ∈ allRows d := List.mem_of_getElem? hr
    have hshr := (allRows_row d hsh (nar_sz d hs) r hmem).1
    have hszr : ∀ j, j < 7 → sz (r j) ≤ 1048576 := fun j hj => by
      have h1 := allRows_sz d hsh r hmem
      have h2 := sumTo_lt (fun j => sz (r j)) hj
      omega
    have hcp := Lib.hid (copyOfSel r hshr)
    have hrk : (allRows d).getD k (fun _ => .no) = r := by simp [List.getD, hr]
    have hkN : k < (allRows d).length := (List.getElem?_eq_some_iff.1 hr).1
    have a0 := hat 0 _ rfl
    have a1 := hat 1 _ rfl
    have a2 := hat 2 _ rfl
    have a3 := hat 3 _ rfl
    have a4 := hat 4 _ rfl
    have a5 := hat 5 _ rfl
    have a6 := hat 6 _ rfl
    obtain ⟨xk0, rfl⟩ := At.int a0 (hshr 0 _ rfl)
    obtain ⟨xk1, rfl⟩ := At.str a1 (hshr 1 _ rfl)
    obtain ⟨xk2, rfl⟩ := At.str a2 (hshr 2 _ rfl)
    obtain ⟨xk3, rfl⟩ := At.str a3 (hshr 3 _ rfl)
    obtain ⟨xA4, xn4, xp4, rfl⟩ := At.lst a4 (hshr 4 _ rfl)
    obtain ⟨xA5, xn5, xp5, rfl⟩ := At.lst a5 (hshr 5 _ rfl)
    obtain ⟨xA6, xn6, xp6, rfl⟩ := At.lst a6 (hshr 6 _ rfl)
    have hcc : Hid (∀ x, Below w.heap.size w x → Calls Try.prog 19 #[.agg #[Value.int .i64 xk0, Value.string xk1, Value.string xk2, Value.string xk3, Value.slice xA4 xn4 xp4, Value.slice xA5 xn5 xp5, Value.slice xA6 xn6 xp6]] x fun e w' =>
        ∃ d0 d1 d2 d3 d4 d5 d6, e = .returned (.agg #[d0, d1, d2, d3, d4, d5, d6]) ∧ OwnR w' r (rng x.heap.size w'.heap.size) [d0, d1, d2, d3, d4, d5, d6] ∧ Below x.heap.size x w') := fun x hx =>
      hcp.out x _ _ _ _ _ _ _ hszr (At.below hx _ a0) (At.below hx _ a1) (At.below hx _ a2) (At.below hx _ a3) (At.below hx _ a4) (At.below hx _ a5) (At.below hx _ a6)
    clear a0 a1 a2 a3 a4 a5 a6 hat hcp hmem hr hszr
    have HI := Lib.hid hi
    clear hi
    rw [zL] at hsz2 hv ⊢
    refine wpIn_thenK fun K' hK' => ?_
    gi_wp2
    have hWw : w.heap.size ≤ W.heap.size := by omega
    refine ⟨fun q hq => ?_, (Below.refl _ W).alloc hWw _, fun W2 hg2 hz2 => ?_⟩
    · refine Below.heap_alloc _ _ _ ?_
      rcases hq with h | h | h
      · omega
      · omega
      · exact (hv q h).2
    have hb2 : W2.heap[W.heap.size]? = some (.cells #[Value.int .i64 xk0, Value.string xk1, Value.string xk2, Value.string xk3, Value.slice xA4 xn4 xp4, Value.slice xA5 xn5 xp5, Value.slice xA6 xn6 xp6] 41 (0, 0)) :=
      (hg2.block _ (by simp) (fun e => by simp at e; omega)).trans (heap_alloc_new W _)
    simp only [World.size_alloc] at hz2
    have hinv : InvS w d k v W2 := (HI.out.turn (World.grownBy_alloc W _ none) (fun r e => by cases e) (fun r h => ⟨.inl h, by have := (hv r h).2; simp; omega⟩)).turn hg2 (fun r e => by cases e; exact .inr (.inr rfl)) (fun r h => ⟨.inl h, by have := (hv r h).2; omega⟩)
    clear hg2 HI
    obtain ⟨va, xs, hbox, hl, hvb, hbV, -⟩ := hinv
    obtain ⟨vA, vc, rfl⟩ : ∃ vA vc, va = .slice vA k vc := by
      rcases hl.row.2 with ⟨rfl, h0⟩ | ⟨g, cp, cur, rfl, -⟩
      · exact ⟨none, 0, by rw [h0]⟩
      · exact ⟨_, _, rfl⟩
    have HL := Lib.hid hl
    clear hl hv
    gi_wp2
    refine wpIn_region_any (by kernel_rfl) ?_
    refine wpAnyIn_inv (fun fuel listed a x => ∃ b0 b1 b2 b3 b4 v9 v10 v11 v12 v13, fuel = 4 + cnt b0 b1 b2 b3 b4 ∧ listed = #[b0, b1, b2, b3, b4, false, false, false, false] ∧
      a = { tmps := #[Value.slice A n cap, undef, Value.slice none 0 0, Value.pointer (some ⟨w.heap.size + 1, 0, none⟩), Value.pointer (some ⟨W.heap.size, 0, none⟩), Value.slice (some ⟨w.heap.size, 0, none⟩) 0 0, Value.slice A n cap,
        Value.func (Fn.func 33) #[] #[Value.pointer (some ⟨w.heap.size + 1 + 1, 0, none⟩)],
        Value.agg #[Value.int .i64 xk0, Value.string xk1, Value.string xk2, Value.string xk3, Value.slice xA4 xn4 xp4, Value.slice xA5 xn5 xp5, Value.slice xA6 xn6 xp6], v9, v10, v11, v12, v13, undef, undef, undef], defers := [] } ∧
      (b0 = true → v9 = .slice vA k vc) ∧
      (b1 = true → v10 = Value.agg #[Value.int .i64 xk0, Value.string xk1, Value.string xk2, Value.string xk3, Value.slice xA4 xn4 xp4, Value.slice xA5 xn5 xp5, Value.slice xA6 xn6 xp6]) ∧
      (b2 = true → ∃ d0 d1 d2 d3 d4 d5 d6, v11 = .agg #[d0, d1, d2, d3, d4, d5, d6] ∧ OwnR x r (rng W2.heap.size x.heap.size) [d0, d1, d2, d3, d4, d5, d6]) ∧
      (b3 = true → v12 = .int .i64 k) ∧
      (b4 = true → ∃ gz, v13 = .slice (some ⟨gz, 0, none⟩) 1 1 ∧ x.heap[gz]? = some (.cells zero7.toArray 41 (0, 0))) ∧
      Below W2.heap.size W2 x) ?_ ?_ ?_ _ _ _ _ ?_
    · rintro listed a x ⟨b0, b1, b2, b3, b4, v9, v10, v11, v12, v13, h, -⟩
      omega
    · rintro fuel listed a x ⟨b0, b1, b2, b3, b4, v9, v10, v11, v12, v13, -, rfl, -⟩ he
      have h1 : (Region.ready .any (regOf (Try.f8.body.getD .skip)) #[b0, b1, b2, b3, b4, false, false, false, false]) = [] := he
      have h2 := rdyE b0 b1 b2 b3 b4
      rw [h1] at h2
      cases h2
    · rintro fuel listed a x i ⟨b0, b1, b2, b3, b4, v9, v10, v11, v12, v13, hf, rfl, rfl, p0, p1, p2, p3, p4, hbx⟩ hi
      have hbx1 : x.heap[w.heap.size + 1]? = some (.cells #[.slice vA k vc] 24 (0, 0)) := (hbx.block _ (by omega)).trans hbox
      have hbx2 := (hbx.block _ (by omega)).trans hb2
      have hxs := hbx.size
      have hi' := rdyP hi
      clear hi
      rcases hi' with ⟨rfl, rfl⟩ | ⟨rfl, rfl⟩ | ⟨rfl, rfl, rfl⟩ | ⟨rfl, rfl, rfl⟩ | ⟨rfl, rfl⟩ | ⟨rfl, rfl, rfl, rfl, rfl, rfl⟩
      · have c0 : x.cell? ⟨w.heap.size + 1, 0, none⟩ = some (.slice vA k vc) := by rw [cell_of hbx1]; rfl
        refine wpOpIn_step rfl (fun K hK => ?_)
        go_simp
        refine hK _ _ (.inl ⟨true, b1, b2, b3, b4, _, v10, v11, v12, v13, by simp only [cnt, Bool.not_false, Bool.not_true, Bool.toNat_true, Bool.toNat_false] at hf ⊢; omega, rfl, rfl, (fun _ => rfl), p1, p2, p3, p4, hbx⟩)
      · have c0 : x.cell? ⟨W.heap.size, 0, none⟩ = some (.int .i64 xk0) := by rw [cell_of hbx2]; rfl
        have c1 : x.cell? ⟨W.heap.size, 1, none⟩ = some (.string xk1) := by rw [cell_of hbx2]; rfl
        have c2 : x.cell? ⟨W.heap.size, 2, none⟩ = some (.string xk2) := by rw [cell_of hbx2]; rfl
        have c3 : x.cell? ⟨W.heap.size, 3, none⟩ = some (.string xk3) := by rw [cell_of hbx2]; rfl
        have c4 : x.cell? ⟨W.heap.size, 4, none⟩ = some (.slice xA4 xn4 xp4) := by rw [cell_of hbx2]; rfl
        have c5 : x.cell? ⟨W.heap.size, 5, none⟩ = some (.slice xA5 xn5 xp5) := by rw [cell_of hbx2]; rfl
        have c6 : x.cell? ⟨W.heap.size, 6, none⟩ = some (.slice xA6 xn6 xp6) := by rw [cell_of hbx2]; rfl
        refine wpOpIn_step rfl (fun K hK => ?_)
        go_simp
        refine hK _ _ (.inl ⟨b0, true, b2, b3, b4, v9, _, v11, v12, v13, by simp only [cnt, Bool.not_false, Bool.not_true, Bool.toNat_true, Bool.toNat_false] at hf ⊢; omega, rfl, rfl, p0, (fun _ => rfl), p2, p3, p4, hbx⟩)
      · obtain rfl := p1 rfl
        refine wpOpIn_step rfl (fun K hK => ?_)
        go_simp
        refine ⟨trivial, ?_⟩
        refine (CallsIn.inRound _ (callsIn_wide.2 (hcc.out x (hbV.trans (hbx.mono hbV.size))))).mono ?_
        rintro e x' ⟨d0, d1, d2, d3, d4, d5, d6, rfl, ho, hbx'⟩
        have hxs' := hbx'.size
        go_simp
        refine hK _ _ (.inl ⟨b0, true, true, b3, b4, v9, _, _, v12, v13, by simp only [cnt, Bool.not_false, Bool.not_true, Bool.toNat_true, Bool.toNat_false] at hf ⊢; omega, rfl, rfl, p0, (fun _ => rfl), (fun _ => ⟨d0, d1, d2, d3, d4, d5, d6, rfl, ho.wide fun q hq => ⟨by have := hq.1; omega, hq.2⟩⟩), p3, (fun h => ?_), below_trans hbx hbx'⟩)
        obtain ⟨gz, h1, h2⟩ := p4 h
        exact ⟨gz, h1, (hbx'.block gz (lt_of h2)).trans h2⟩
      · obtain rfl := p0 rfl
        refine wpOpIn_step rfl (fun K hK => ?_)
        go_simp
        refine hK _ _ (.inl ⟨true, b1, b2, true, b4, _, v10, v11, _, v13, by simp only [cnt, Bool.not_false, Bool.not_true, Bool.toNat_true, Bool.toNat_false] at hf ⊢; omega, rfl, rfl, (fun _ => rfl), p1, p2, (fun _ => rfl), p4, hbx⟩)
      · refine wpOpIn_step rfl (fun K hK => ?_)
        go_simp
        refine hK _ _ (.inl ⟨b0, b1, b2, b3, true, v9, v10, v11, v12, _, by simp only [cnt, Bool.not_false, Bool.not_true, Bool.toNat_true, Bool.toNat_false] at hf ⊢; omega, rfl, rfl, p0, p1, (fun h => ?_), p3, (fun _ => ⟨x.heap.size, rfl, heap_alloc_new x _⟩), hbx.alloc hbx.size _⟩)
        obtain ⟨d0, d1, d2, d3, d4, d5, d6, h1, h2⟩ := p2 h
        exact ⟨d0, d1, d2, d3, d4, d5, d6, h1, (h2.same fun q hq => Below.heap_alloc x _ q hq.2).wide fun q hq => ⟨hq.1, by have := hq.2; simp; omega⟩⟩
      · obtain rfl := p0 rfl
        obtain rfl := p1 rfl
        obtain rfl := p3 rfl
        obtain ⟨d0, d1, d2, d3, d4, d5, d6, rfl, ho⟩ := p2 rfl
        obtain ⟨gz, rfl, hgz⟩ := p4 rfl
        obtain rfl : fuel = 3 := by simp only [cnt, Bool.not_true, Bool.toNat_false] at hf; omega
        clear p0 p1 p2 p3 p4 hf
        have HO := Lib.hid ho
        have t0 := ho.at 0 _ rfl
        have t1 := ho.at 1 _ rfl
        have t2 := ho.at 2 _ rfl
        have t3 := ho.at 3 _ rfl
        have t4 := ho.at 4 _ rfl
        have t5 := ho.at 5 _ rfl
        have t6 := ho.at 6 _ rfl
        clear ho
        obtain ⟨yk0, rfl⟩ := At.int t0 (hshr 0 _ rfl)
        obtain ⟨yk1, rfl⟩ := At.str t1 (hshr 1 _ rfl)
        obtain ⟨yk2, rfl⟩ := At.str t2 (hshr 2 _ rfl)
        obtain ⟨yk3, rfl⟩ := At.str t3 (hshr 3 _ rfl)
        obtain ⟨yA4, yn4, yp4, rfl⟩ := At.lst t4 (hshr 4 _ rfl)
        obtain ⟨yA5, yn5, yp5, rfl⟩ := At.lst t5 (hshr 5 _ rfl)
        obtain ⟨yA6, yn6, yp6, rfl⟩ := At.lst t6 (hshr 6 _ rfl)
        clear t0 t1 t2 t3 t4 t5 t6
        obtain ⟨i0, hi, hzz⟩ := Option.map_eq_some_iff.1 infoSel
        simp only [Prod.mk.injEq] at hzz
        obtain ⟨hz0, hz1, hz2'⟩ := hzz
        have hrowx := (HL.out.agree (w' := x) (X' := fun b => b = w.heap.size + 1 ∨ b = w.heap.size + 3 ∨ b = w.heap.size + 4 ∨ isBlk v b) (fun b hb _ => hbx.block b hb) hbx.size (fun b h => .inl h)).row
        have hk1 : k + 1 ≤ 1048576 := by omega
        refine wpOpIn_step rfl (fun K hK => ?_)
        refine opIn_append_lies x rfl _ _ 24 rfl w.heap.size 41 i0 zeroSel 7 128 Try.underlying24 hi hz0 hz1 hz2' rfl (by decide) _ k xs rfl hrowx ⟨gz, 0, none⟩ 1 1 zero7 rfl rfl (World.news_of_block (cs := zero7.toArray) hgz) (by intro u hu; simp [zero7] at hu; rcases hu with rfl | rfl | rfl | rfl <;> rfl) (by decide) (by unfold maxLen; omega) (by omega) (by omega) ?_
        intro g2 cap2 y hown hgr hor
        have HG := Lib.hid hgr
        have HOR := Lib.hid hor
        have HOW := Lib.hid hown
        clear hgr hor hrowx hgz hi hz0 hz1 hz2'
        refine hK _ _ (.inr ?_)
        clear hK K
        have hby : y.heap[w.heap.size + 1]? = some (.cells #[.slice vA k vc] 24 (0, 0)) := by
          refine (HG.out.block _ (by omega) fun e => ?_).trans hbx1
          obtain ⟨-, -, q, -, -⟩ := id HL.out
          exact q _ e.symm (.inl rfl)
        obtain ⟨hg1, hg2, cur, hcur⟩ := own_blk HOW.out
        have hne : w.heap.size + 1 ≠ g2 := by
          intro e
          rw [← e, hby] at hcur
          simp at hcur
        obtain ⟨ds, hds⟩ : ∃ ds, [Value.int .i64 yk0, Value.string yk1, Value.string yk2, Value.string yk3, Value.slice yA4 yn4 yp4, Value.slice yA5 yn5 yp5, Value.slice yA6 yn6 yp6] = ds := ⟨_, rfl⟩
        have fin : Hid (∀ z : World, StoredAt y z (w.heap.size + 1) g2 (k * 7) (.slice (some ⟨g2, 0, none⟩) (k + 1) cap2) ds 24 →
            (∀ q, q = w.heap.size + 3 ∨ q = w.heap.size + 4 ∨ isBlk v q → z.heap[q]? = W2.heap[q]?) ∧ Below w.heap.size W2 z ∧ InvS w d (k + 1) v z) := fun z hz =>
          InvS.more HL.out hvb hbV (by omega) hbx (by rw [← hds]; rfl) (by rw [hrk, ← hds]; exact HO.out) HOW.out HG.out HOR.out hz.1 hz.2.1 hz.2.2.1 hz.2.2.2
        have finA := Lib.hid (fin.out _ (storeA (k * 7) ds hby hcur hne))
        have finB := Lib.hid (fin.out _ (storeB (k * 7) ds hby hcur hne))
        rw [← hds] at finA finB
        clear hds fin
        have i1 : (0 : Int) ≤ (k : Int) := by omega
        have i2 : (k : Int) < ((k + 1 : Nat) : Int) := by omega
        have i3 : (k : Int) < (k : Int) + 1 := by omega
        have cellj : ∀ j, j < 7 → y.cell? ⟨g2, k * 7 + j, none⟩ = zero7[j]? := fun j hj => by
          rw [HOW.out.cellAt _ (by omega), List.getElem?_append_right (by have := HL.out.row.1; omega), HL.out.row.1, Nat.add_sub_cancel_left]
        have e0 : y.cell? ⟨g2, k * 7, none⟩ = some (.int .i64 0) := cellj 0 (by omega)
        have e1 : y.cell? ⟨g2, k * 7 + 1, none⟩ = some (.string ⟨#[]⟩) := cellj 1 (by omega)
        have e2 : y.cell? ⟨g2, k * 7 + 2, none⟩ = some (.string ⟨#[]⟩) := cellj 2 (by omega)
        have e3 : y.cell? ⟨g2, k * 7 + 3, none⟩ = some (.string ⟨#[]⟩) := cellj 3 (by omega)
        have e4 : y.cell? ⟨g2, k * 7 + 4, none⟩ = some (.slice none 0 0) := cellj 4 (by omega)
        have e5 : y.cell? ⟨g2, k * 7 + 5, none⟩ = some (.slice none 0 0) := cellj 5 (by omega)
        have e6 : y.cell? ⟨g2, k * 7 + 6, none⟩ = some (.slice none 0 0) := cellj 6 (by omega)
        have z0 : ∀ j, y.frozen? ⟨g2, j, none⟩ = false := fun j => frozen_no hcur _
        have b0 : y.cell? ⟨w.heap.size + 1, 0, none⟩ = some (.slice vA k vc) := by rw [cell_of hby]; rfl
        have bz : y.frozen? ⟨w.heap.size + 1, 0, none⟩ = false := frozen_no hby _
        have HB := Lib.hid hby
        have HC := Lib.hid hcur
        clear cellj hby hcur hbx1 hbx2
        refine wpAnyIn_ready (rs := [6, 8]) (by kernel_rfl) (by simp) ?_
        refine AllReadyIn.cons rfl (fun K hK => ?_) (AllReadyIn.cons rfl (fun K hK => ?_) AllReadyIn.nil)
        · go_simp
          refine hK _ _ ?_
          clear hK K
          refine wpAnyIn_ready (rs := [7, 8]) (by kernel_rfl) (by simp) ?_
          refine AllReadyIn.cons rfl (fun K hK => ?_) (AllReadyIn.cons rfl (fun K hK => ?_) AllReadyIn.nil)
          · go_simp
            refine hK _ _ ?_
            clear hK K e0 e1 e2 e3 e4 e5 e6
            obtain ⟨Y, hY⟩ : ∃ Y, (((((((y.setCell ⟨g2, k * 7, none⟩ (Value.int .i64 yk0)).setCell ⟨g2, k * 7 + 1, none⟩ (Value.string yk1)).setCell ⟨g2, k * 7 + 2, none⟩ (Value.string yk2)).setCell ⟨g2, k * 7 + 3, none⟩ (Value.string yk3)).setCell ⟨g2, k * 7 + 4, none⟩ (Value.slice yA4 yn4 yp4)).setCell ⟨g2, k * 7 + 5, none⟩ (Value.slice yA5 yn5 yp5)).setCell ⟨g2, k * 7 + 6, none⟩ (Value.slice yA6 yn6 yp6)) = Y := ⟨_, rfl⟩
            have hY' : stores y g2 (k * 7) [Value.int .i64 yk0, Value.string yk1, Value.string yk2, Value.string yk3, Value.slice yA4 yn4 yp4, Value.slice yA5 yn5 yp5, Value.slice yA6 yn6 yp6] = Y := hY
            have b1 : Y.heap[w.heap.size + 1]? = some (.cells #[.slice vA k vc] 24 (0, 0)) := by rw [← hY']; exact (stores_other hne _ y _).trans HB.out
            have b2 : Y.cell? ⟨w.heap.size + 1, 0, none⟩ = some (.slice vA k vc) := by rw [cell_of b1]; rfl
            have b3 : Y.frozen? ⟨w.heap.size + 1, 0, none⟩ = false := frozen_no b1 _
            rw [hY]
            rw [hY'] at finA
            clear hY hY' b0 bz b1
            refine wpAnyIn_ready (rs := [8]) (by kernel_rfl) (by simp) ?_
            refine AllReadyIn.cons rfl (fun K hK => ?_) AllReadyIn.nil
            go_simp
            refine hK _ _ ?_
            clear hK K
            refine wpAnyIn_done (by kernel_rfl) ?_ _
            exact ⟨rfl, finA.out.1, finA.out.2.1, finA.out.2.2⟩
          · go_simp
            refine hK _ _ ?_
            clear hK K
            obtain ⟨Y, hY⟩ : ∃ Y, y.setCell ⟨w.heap.size + 1, 0, none⟩ (.slice (some ⟨g2, 0, none⟩) (k + 1) cap2) = Y := ⟨_, rfl⟩
            have keep : ∀ j, Y.cell? ⟨g2, j, none⟩ = y.cell? ⟨g2, j, none⟩ := fun j => by rw [← hY]; exact World.cell?_of_block (Below.heap_setCell _ _ _ _ (Ne.symm hne))
            have f0 := (keep (k * 7)).trans e0
            have f1 := (keep (k * 7 + 1)).trans e1
            have f2 := (keep (k * 7 + 2)).trans e2
            have f3 := (keep (k * 7 + 3)).trans e3
            have f4 := (keep (k * 7 + 4)).trans e4
            have f5 := (keep (k * 7 + 5)).trans e5
            have f6 := (keep (k * 7 + 6)).trans e6
            have fz : ∀ j, Y.frozen? ⟨g2, j, none⟩ = false := fun j => by rw [← hY, World.frozen?_setCell]; exact z0 j
            rw [hY] at finB ⊢
            clear e0 e1 e2 e3 e4 e5 e6 z0 b0 bz keep hY
            refine wpAnyIn_ready (rs := [7]) (by kernel_rfl) (by simp) ?_
            refine AllReadyIn.cons rfl (fun K hK => ?_) AllReadyIn.nil
            go_simp
            refine hK _ _ ?_
            clear hK K
            refine wpAnyIn_done (by kernel_rfl) ?_ _
            exact ⟨rfl, finB.out.1, finB.out.2.1, finB.out.2.2⟩
        · go_simp
          refine hK _ _ ?_
          clear hK K
          obtain ⟨Y, hY⟩ : ∃ Y, y.setCell ⟨w.heap.size + 1, 0, none⟩ (.slice (some ⟨g2, 0, none⟩) (k + 1) cap2) = Y := ⟨_, rfl⟩
          have keep : ∀ j, Y.cell? ⟨g2, j, none⟩ = y.cell? ⟨g2, j, none⟩ := fun j => by rw [← hY]; exact World.cell?_of_block (Below.heap_setCell _ _ _ _ (Ne.symm hne))
          have f0 := (keep (k * 7)).trans e0
          have f1 := (keep (k * 7 + 1)).trans e1
          have f2 := (keep (k * 7 + 2)).trans e2
          have f3 := (keep (k * 7 + 3)).trans e3
          have f4 := (keep (k * 7 + 4)).trans e4
          have f5 := (keep (k * 7 + 5)).trans e5
          have f6 := (keep (k * 7 + 6)).trans e6
          have fz : ∀ j, Y.frozen? ⟨g2, j, none⟩ = false := fun j => by rw [← hY, World.frozen?_setCell]; exact z0 j
          rw [hY] at finB ⊢
          clear e0 e1 e2 e3 e4 e5 e6 z0 b0 bz keep hY
          refine wpAnyIn_ready (rs := [6]) (by kernel_rfl) (by simp) ?_
          refine AllReadyIn.cons rfl (fun K hK => ?_) AllReadyIn.nil
          go_simp
          refine hK _ _ ?_
          clear hK K
          refine wpAnyIn_ready (rs := [7]) (by kernel_rfl) (by simp) ?_
          refine AllReadyIn.cons rfl (fun K hK => ?_) AllReadyIn.nil
          go_simp
          refine hK _ _ ?_
          clear hK K
          refine wpAnyIn_done (by kernel_rfl) ?_ _
          exact ⟨rfl, finB.out.1, finB.out.2.1, finB.out.2.2⟩
    · refine ⟨false, false, false, false, false, undef, undef, undef, undef, undef, rfl, rfl, rfl, (fun h => by cases h), (fun h => by cases h), (fun h => by cases h), (fun h => by cases h), (fun h => by cases h), below_drew W2⟩
end Da
end Go.Proofs.Ytfnieelghfkbdaa
