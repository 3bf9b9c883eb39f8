/- What is proved: a law for a range over a function whose iterator stores into a row of its own: the caller's word abides the turns of that row, a round leaves it as it lay; no round leaves the loop. -/
import Derived.RangeFuncNested
namespace Go.Proofs.Ytfnieelghfkbdaa
namespace Da
open Go.RowKit

/-- The slice v lies in the block r. -/
def isBlk (v : Value) (r : Nat) : Prop := ∃ n cap, v = .slice (some ⟨r, 0, none⟩) n cap
theorem isBlk_nil (n cap r : Nat) : ¬ isBlk (.slice none n cap) r := fun ⟨_, _, h⟩ => by simp at h

theorem isBlk_eq {g n cap r : Nat} (h : isBlk (.slice (some ⟨g, 0, none⟩) n cap) r) : r = g := by
  obtain ⟨a, b, h⟩ := h
  simp only [Value.slice.injEq, Option.some.injEq, Addr.mk.injEq, and_true] at h
  exact h.1.symm
theorem isBlk_of (g n cap : Nat) : isBlk (.slice (some ⟨g, 0, none⟩) n cap) g := ⟨n, cap, rfl⟩

/-- What an iterator gives: En k: what the k-th round is handed; N: how many rounds; v: the iterator's own row. -/
def Gives (F : Fence) (n n0 : Nat) (P : Program) (gf : Nat) (lb : Array Value) (En : Nat → Array Value → Prop) (N : Nat) (w : World) : Prop :=
  ∀ (l : Nat) (J : Nat → Value → World → Prop) (W : World), Below w.heap.size w W →
    (∀ k v A B row v', J k v A → A.grownBy B row → (∀ r, row = some r → isBlk v r) → (∀ r, isBlk v' r → (isBlk v r ∨ A.heap.size ≤ r) ∧ r < B.heap.size) → J k v' B) →
    (∀ k v args W1, J k v W1 → En k args → YieldAt F (n - 1) P l args W1 fun e W' =>
      e = .returned (.bool true) ∧ J (k + 1) v W' ∧ (∀ r, isBlk v r → W'.heap[r]? = W1.heap[r]?) ∧ Below n0 W1 W') →
    J 0 (.slice none 0 0) W →
    CallsIn F n P gf (#[.func (.yield l) #[] #[]] ++ lb) W fun e W' => (∃ u, e = .returned u) ∧ ∃ v, J N v W'

theorem wpIn_rangeFunc_self {F : Fence} {n : Nat} {P : Program} {g : Operand} {ps : Array Tmp} {assign body : Code} {Q : Exit → Act → World → Prop} {a : Act} {w : World}
    (hro : F.round = none) (h1 : 1 ≤ n) {gf : Nat} {lb : Array Value} (hg : a.eval g = .func (.func gf) #[] lb) (hFg : F.fn gf) (eg : ∀ args w, (callFunc gf args).run P w = .ok (.enter gf args) w)
    {n0 N : Nat} {En : Nat → Array Value → Prop} (hseq : Gives F (n - 1) n0 P gf lb En N w) (hn0 : n0 ≤ w.heap.size) (hps : ∀ k args, En k args → args.size = ps.size)
    (I : Nat → Value → World → Prop)
    (hI : ∀ k v A B row v', I k v A → A.grownBy B row → (∀ r, row = some r → isBlk v r ∨ r = w.heap.size ∨ r = w.heap.size + 1) → (∀ r, isBlk v' r → (isBlk v r ∨ A.heap.size ≤ r) ∧ r < B.heap.size) → I k v' B)
    (h0 : I 0 (.slice none 0 0) w)
    (hround : ∀ k v args W, I k v W → En k args → w.heap.size + 2 ≤ W.heap.size → (∀ r, isBlk v r → w.heap.size + 2 ≤ r ∧ r < W.heap.size) →
      assign.wpIn (F.inRound (w.heap.size + 1)) (n - 1 - 1) P (Exit.then (fun a₁ W1 =>
        (∀ r, r = w.heap.size ∨ r = w.heap.size + 1 ∨ isBlk v r → W1.heap[r]? = W.heap[r]?) ∧ Below n0 W W1 ∧
        ∀ W2, W1.grownBy W2 (some (w.heap.size + 1)) → W2.heap.size = W1.heap.size →
          body.wpIn (F.inRound (w.heap.size + 1)) (n - 1 - 1) P (fun e _ W3 => e = .normal ∧
            (∀ r, r = w.heap.size ∨ r = w.heap.size + 1 ∨ isBlk v r → W3.heap[r]? = W2.heap[r]?) ∧ Below n0 W2 W3 ∧ I (k + 1) v W3) a₁ W2) (fun _ _ _ => False))
        { tmps := (ps.zip args).foldl (fun t (p, v) => t.setIfInBounds p v) a.tmps, defers := [] } W)
    (hdone : ∀ v W, I N v W → W.heap[w.heap.size]? = some (.deferred (some [])) → Q .normal { a with defers := { target := .collected w.heap.size, args := #[] } :: a.defers } W) :
    (Code.rangeFunc g ps assign body).wpIn F n P Q a w := by
  refine wpIn_rangeFunc ?_
  intro fn hfn
  rw [hro]
  obtain ⟨rec, hrec⟩ : ∃ rec : LoopState → Option Code → Loop, rec = fun st pe => { state := st, pending := pe, fn, tmps := a.tmps, params := ps, assign, body, defers := w.heap.size } := ⟨_, rfl⟩
  obtain ⟨W1, hW1⟩ : ∃ W1, (w.alloc (.deferred (some []))).alloc (.loop (rec .ready none)) = W1 := ⟨_, rfl⟩
  have hL1 : W1.heap[w.heap.size + 1]? = some (.loop (rec .ready none)) := by
    rw [← hW1]; have := World.alloc_heap_new (w.alloc (.deferred (some []))) (.loop (rec .ready none)); rwa [World.size_alloc] at this
  have hK1 : W1.heap[w.heap.size]? = some (.deferred (some [])) := by
    rw [← hW1]; exact (Below.heap_alloc _ _ _ (by simp)).trans (World.alloc_heap_new w _)
  have none0 : ∀ r, ¬ isBlk (.slice none 0 0) r := isBlk_nil 0 0
  have hI1 : I 0 (.slice none 0 0) W1 := by
    rw [← hW1]
    exact hI _ _ _ _ none _ (hI _ _ _ _ none _ h0 (World.grownBy_alloc _ _ none) (fun r e => by cases e) (fun r h => absurd h (none0 r))) (World.grownBy_alloc _ _ none) (fun r e => by cases e) (fun r h => absurd h (none0 r))
  have hb1 : Below w.heap.size w W1 := by
    rw [← hW1]; exact ((Below.refl _ w).alloc (Nat.le_refl _) _).alloc (by simp) _
  refine ⟨w.heap.size + 1, [{ target := .collected w.heap.size, args := #[] }], W1, { target := .fn (.func gf) lb, args := #[.func (.yield (w.heap.size + 1)) #[] #[]] }, W1, gf,
    #[.func (.yield (w.heap.size + 1)) #[] #[]] ++ lb, W1, ?_, ?_, ?_, ?_, fun _ => h1, ?_⟩
  · rw [← hW1, hrec]; exact run_enterLoop_outer _ _ _ _ _
  · simp only [resolve, hg]
    simp [go_sem]
  · intro f' hf'; simp [Target.leads] at hf'; subst hf'; exact hFg
  · simp [invoke, go_sem, eg]
  · refine (hseq (w.heap.size + 1)
      (fun k v W => I k v W ∧ W.heap[w.heap.size + 1]? = some (.loop (rec .ready none)) ∧ W.heap[w.heap.size]? = some (.deferred (some [])) ∧ ∀ r, isBlk v r → w.heap.size + 2 ≤ r ∧ r < W.heap.size)
      W1 hb1 ?_ ?_ ⟨hI1, hL1, hK1, fun r h => absurd h (none0 r)⟩).mono ?_
    · rintro k v A B row v' ⟨hi, hl, hk, hv⟩ hgr hrow hv'
      have hlt : w.heap.size + 1 < A.heap.size := (Array.getElem?_eq_some_iff.1 hl).1
      refine ⟨hI k v A B row v' hi hgr (fun r e => .inl (hrow r e)) hv', ?_, ?_, fun r h => ?_⟩
      · refine (hgr.block _ hlt fun e => ?_).trans hl
        have := (hv _ (hrow _ e.symm)).1; omega
      · refine (hgr.block _ (by omega) fun e => ?_).trans hk
        have := (hv _ (hrow _ e.symm)).1; omega
      · refine ⟨?_, (hv' r h).2⟩
        rcases (hv' r h).1 with h | h
        · exact (hv r h).1
        · omega
    · rintro k v args W ⟨hi, hl, hk, hv⟩ he
      have hlt : w.heap.size + 1 < W.heap.size := (Array.getElem?_eq_some_iff.1 hl).1
      have hy := run_yield (P := P) (args := args) hl (by rw [hrec]; exact hps k args he)
      rw [hrec] at hy
      refine ⟨fn, _, assign, body, hy, roundIn_of_wpIn hfn (wpIn_mono (hround k v args W hi he (by omega) hv) ?_)⟩
      intro e a₁ Wa hp
      cases e with
      | normal =>
        obtain ⟨hka, hba, hbody⟩ := hp
        have hla : Wa.heap[w.heap.size + 1]? = some (.loop (rec .ready none)) := (hka _ (.inr (.inl rfl))).trans hl
        have hkk : Wa.heap[w.heap.size]? = some (.deferred (some [])) := (hka _ (.inl rfl)).trans hk
        have hlta : w.heap.size + 1 < Wa.heap.size := (Array.getElem?_eq_some_iff.1 hla).1
        refine ⟨_, run_beginRound hla (by rw [hrec]), ?_⟩
        refine wpIn_mono (hbody _ (grownBy_putObj' Wa _ _) (by simp)) ?_
        rintro e a3 W3 ⟨rfl, hk3, hb3, hi3⟩
        have hl2 : (Wa.putObj (w.heap.size + 1) (.loop { rec .ready none with state := .busy })).heap[w.heap.size + 1]? = some (.loop { rec .ready none with state := .busy }) := World.putObj_heap_same hlta
        have hl3 : W3.heap[w.heap.size + 1]? = some (.loop { rec .ready none with state := .busy }) := (hk3 _ (.inr (.inl rfl))).trans hl2
        have hkk3 : W3.heap[w.heap.size]? = some (.deferred (some [])) := (hk3 _ (.inl rfl)).trans ((World.putObj_heap_other (by omega)).trans hkk)
        have hend := run_endRound (P := P) none hl3
        rw [hrec] at hend
        have hlt3 : w.heap.size + 1 < W3.heap.size := (Array.getElem?_eq_some_iff.1 hl3).1
        have hsz3 : W.heap.size ≤ W3.heap.size := by
          have := hba.size
          have := hb3.size
          simp only [World.putObj_size] at this
          omega
        have hv3 : ∀ r, isBlk v r → r < (W3.putObj (w.heap.size + 1) (.loop { state := .ready, pending := none, fn, tmps := a.tmps, params := ps, assign, body, defers := w.heap.size })).heap.size := fun r h => by
          have := (hv r h).2
          simp only [World.putObj_size]; omega
        refine ⟨_, _, hend, rfl, ⟨hI _ _ _ _ (some (w.heap.size + 1)) v hi3 (grownBy_putObj' W3 _ _) (fun r e => by cases e; exact .inr (.inr rfl)) (fun r h => ⟨.inl h, hv3 r h⟩), ?_, ?_, fun r h => ⟨(hv r h).1, hv3 r h⟩⟩, ?_, ?_⟩
        · rw [hrec]; exact World.putObj_heap_same hlt3
        · exact (World.putObj_heap_other (by omega)).trans hkk3
        · intro r h
          have := (hv r h).1
          exact (World.putObj_heap_other (by omega)).trans ((hk3 r (.inr (.inr h))).trans ((World.putObj_heap_other (by omega)).trans (hka r (.inr (.inr h)))))
        · have keep : ∀ (X : World) (o : Obj), n0 ≤ X.heap.size → Below n0 X (X.putObj (w.heap.size + 1) o) := fun X o hX => (Below.refl n0 X).grown (grownBy_putObj' X _ o) hX (fun k e => by cases e; omega)
          exact ((hba.trans (keep _ _ (by omega))).trans hb3).trans (keep _ _ (by omega))
      | exit id => exact hp.elim
      | goto t => exact hp.elim
      | ret => exact hp.elim
      | panic ch => exact hp.elim
      | outgrown => exact hp.elim
    · rintro e W2 ⟨⟨u, rfl⟩, v, hi, hl, hk, hv⟩
      exact ⟨none, _, by have := run_endLoop (P := P) hl (by rw [hrec]; simp); rw [hrec] at this; exact this,
        hdone v _ (hI _ _ _ _ (some (w.heap.size + 1)) v hi (grownBy_putObj' W2 _ _) (fun r e => by cases e; exact .inr (.inr rfl)) (fun r h => ⟨.inl h, by have := (hv r h).2; simp only [World.putObj_size]; omega⟩)) ((World.putObj_heap_other (by omega)).trans hk)⟩
end Da
end Go.Proofs.Ytfnieelghfkbdaa
