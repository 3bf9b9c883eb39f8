/- What is proved: the program's VarsIn answers the variables in a value, in new memory. -/
import Derived.Test.YtjlabdnjdokpnaaRVv
import Derived.Deep.LoopGhost
import Derived.Maps.OwnOps
import Derived.Maps.OwnSet
namespace Go.Proofs.YtjlabdnjdokpnaaR
namespace Va
open Go.RowKit Go.Maps
attribute [local go_sem ↓] Go.wp_at_zero Go.wp_at_succ

def zeroVv : Value := .agg #[.int .i64 0, .string ⟨#[]⟩, .slice none 0 0, .slice none 0 0]
theorem infoVv : (Try.prog.info? 30).map (fun i => (i.zero, i.size, i.bytes)) = some (some zeroVv, 4, 72) := by kernel_rfl

set_option maxHeartbeats 1000000 in
theorem revI (w0 w : World) (n : Nat) (it : Nat → V) (c2 : Value) (g c : Nat) (L : List V) (xs : List Value) (hI : Its w0 n it c2) (hbel : Below w0.heap.size w0 w) (hlen : L.length + n ≤ 4194304)
    (hrow : w.ownsRow w0.heap.size 30 4 (.slice (some ⟨g, 0, none⟩) L.length c) L.length xs) (hst : StackV w0 L xs) :
    Calls Try.prog 27 #[.slice (some ⟨g, 0, none⟩) L.length c, c2] w fun e w' => ∃ g' c' xs', e = .returned (.slice (some ⟨g', 0, none⟩) (L.length + n) c') ∧ w'.ownsRow w0.heap.size 30 4 (.slice (some ⟨g', 0, none⟩) (L.length + n) c') (L.length + n) xs' ∧ StackV w0 (seg it n L n) xs' ∧ w.grownBy w' (some g) ∧ (g' = g ∨ w.heap.size ≤ g') := by
  have hI0 := hI
  obtain ⟨A, cap, rfl, hn, -⟩ := hI
  unfold maxLen at hn
  have hgB : w0.heap.size ≤ g := (own_block hrow).1
  have HRow := Lib.hid hrow
  have hs0 := hbel.size
  clear hrow
  go_enter Try.func27, Try.ntmps27
  go_wp2
  go_loopw [0, 5] (fun q i wr => ∃ (j g1 c1 : Nat) (ys : List Value), j ≤ n ∧ i = .int .i64 ((n : Int) - 1 - j) ∧ q = .slice (some ⟨g1, 0, none⟩) (L.length + j) c1 ∧ wr.ownsRow w0.heap.size 30 4 (.slice (some ⟨g1, 0, none⟩) (L.length + j) c1) (L.length + j) ys ∧ StackV w0 (seg it n L j) ys ∧ w.grownBy wr (some g) ∧ (g1 = g ∨ w.heap.size ≤ g1)) (fun _ i _ => (intOf i + 1).toNat)
  case atStart => exact ⟨0, g, c, xs, Nat.zero_le _, by simp, rfl, HRow.out, hst, below_grown g (Below.refl _ _), .inl rfl⟩
  case round =>
    clear hst HRow
    obtain ⟨j, g1, c1, ys, hj, rfl, rfl, hrow, hst, hgr, hg1⟩ := hrel
    have hbw : Below w0.heap.size w0 wr := hbel.grown hgr (by omega) (fun k hk => by have := Option.some.inj hk; omega)
    by_cases hlt : j < n
    · obtain ⟨p, hp⟩ : ∃ p : Nat, n - 1 - j = p := ⟨_, rfl⟩
      have hpi : (n : Int) - 1 - (j : Int) = (p : Int) := by omega
      have hpn : p < n := by omega
      have HP : Hid (n - 1 - j = p ∧ (n : Int) - 1 - (j : Int) = (p : Int)) := ⟨hp, hpi⟩
      rw [hpi]
      have k0 : (0 : Int) ≤ (p : Int) := by omega
      have k1 : (p : Int) < (n : Int) := by omega
      clear hp hpi
      obtain ⟨A1, cap1, e1, -, hc⟩ := hI0
      obtain ⟨b, o, d0, d1, d2, d3, e2, hf, hat⟩ := hc p hpn
      simp only [Value.slice.injEq] at e1
      obtain ⟨e3, -, e4⟩ := e1
      subst e3 e4
      subst e2
      clear hc
      obtain ⟨f0, f1, f2, f3⟩ := hf.below hbw
      obtain ⟨s0, s1, s2, s3, s4, s5, s6, s7, rfl, rfl, rfl, rfl⟩ := At.form hat
      have n1 : ∀ u ∈ [Value.int .i64 s0, .string s1, .slice s2 s4 s5, .slice s3 s6 s7], u.oneCell' = true := by
        intro u hu; simp at hu; rcases hu with rfl | rfl | rfl | rfl <;> rfl
      obtain ⟨i0, hi, hzz⟩ := Option.map_eq_some_iff.1 infoVv
      simp only [Prod.mk.injEq] at hzz
      obtain ⟨hz0, hz1, hz2⟩ := hzz
      have n2 : L.length + j + 1 ≤ maxLen := by unfold maxLen; omega
      have hsw := hbw.size
      have HST : Hid (StackV w0 (seg it n L (j + 1)) (ys ++ [.int .i64 s0, .string s1, .slice s2 s4 s5, .slice s3 s6 s7])) := ⟨ys, _, _, _, _, rfl, by rw [HP.out.1]; exact hat, hst⟩
      clear hst
      go_wp2_with (at_builtin; refine wpList_append_lies _ rfl _ _ 28 rfl w0.heap.size 30 i0 zeroVv 4 72 Try.underlying28 hi hz0 hz1 hz2 rfl (by decide) _ _ _ rfl (hrow.alloc _) ⟨wr.heap.size, 0, none⟩ 1 1 [.int .i64 s0, .string s1, .slice s2 s4 s5, .slice s3 s6 s7] rfl rfl (World.news_of_block (cs := #[.int .i64 s0, .string s1, .slice s2 s4 s5, .slice s3 s6 s7]) (t := 30) (fr := (0, 0)) (heap_alloc_new wr _)) n1 (by decide) n2 (by omega) (by simp; omega) (wr.heap.size + 1) (by simp) ?_)
      intro g2 cap2 w2 hown2 hgrow hat2 hlt2
      have HO := Lib.hid hown2
      have HG : Hid (w.grownBy w2 (some g) ∧ (g2 = g ∨ w.heap.size ≤ g2)) := by
        have h1 := hgr.size
        refine ⟨grown_trans hgr (grown_trans (below_grown g1 (below_alloc wr _)) hgrow (.inl rfl)) hg1, ?_⟩
        rcases hat2 with h | h
        · simp only [Value.ownBlock, Option.some.injEq] at h; omega
        · omega
      clear hown2 hgrow hat2 hlt2 hrow
      go_wp2
      go_roundw
      case rel => exact ⟨j + 1, g2, cap2, _, by omega, by have := HP.out.2; congr 1; omega, rfl, HO.out, HST.out, HG.out.1, HG.out.2⟩
      case measure => simp [intOf]
    · obtain rfl : j = n := by omega
      have k0 : ¬ (j : Int) - 1 - (j : Int) ≥ 0 := by omega
      go_wp2
      go_ret
      exact ⟨g1, c1, rfl, ys, hrow, hst, hgr, hg1⟩

theorem law9 : Keyed Try.prog 9 := string_keyed Try.underlying9
theorem zero3 (w : World) : (zeroValue 3).run Try.prog w = .ok (.int .i64 0) w := by kernel_rfl
theorem undM : Try.prog.underlying 46 = some (.map 9 3) := by kernel_rfl

/-- How often each name was met. -/
def Counts (D : DataW Unit) (N : List ByteArray) (r : Nat) : Prop := ∀ s : ByteArray, ∃ q : Nat, D.atKey (.string s.data.toList) (.lit (.int .i64 0)) = .lit (.int .i64 q) ∧ q ≤ r ∧ (q = 0 ↔ s ∉ N)
theorem counts_none : Counts (.map []) [] 0 := fun s => ⟨0, rfl, Nat.le_refl _, by simp⟩
theorem bytes_inj {s t : ByteArray} (h : s.data.toList = t.data.toList) : s = t := ByteArray.ext (Array.toList_inj.1 h)
theorem counts_put {D : DataW Unit} {N : List ByteArray} {r q : Nat} {t : ByteArray} (hD : IsMap D) (h : Counts D N r) (hq : D.atKey (.string t.data.toList) (.lit (.int .i64 0)) = .lit (.int .i64 q)) :
    Counts (D.put (.string t.data.toList) (.lit (.int .i64 ((q : Int) + 1)))) (add t N) (r + 1) := by
  intro s
  by_cases hst : s = t
  · subst hst
    obtain ⟨q', h1, h2, h3⟩ := h s
    have e : q' = q := by
      rw [h1] at hq
      simp only [DataW.lit.injEq, Lit.int.injEq, true_and] at hq
      omega
    subst e
    refine ⟨q' + 1, by rw [atKey_put_same hD (by trivial)]; simp, by omega, ?_⟩
    constructor
    · omega
    · intro hn; exfalso; apply hn; unfold add; split
      · assumption
      · simp
  · obtain ⟨q', h1, h2, h3⟩ := h s
    refine ⟨q', by rw [atKey_put_other (by intro hh; simp only [Lit.string.injEq] at hh; exact hst (bytes_inj hh))]; exact h1, by omega, ?_⟩
    rw [h3]
    unfold add; split
    · rfl
    · simp [hst]
theorem map_ne {w : World} {b g K e : Nat} {D : DataW Unit} {size n c : Nat} {xs : List Value} {B : Nat} (h : w.ownsMap Try.prog 9 (plainElem Try.prog 3) b K D) (hr : w.ownsRow B e size (.slice (some ⟨g, 0, none⟩) n c) n xs) : b ≠ g := by
  obtain ⟨es, clock, hb, -⟩ := h
  obtain ⟨-, cur, hg⟩ := own_block hr
  intro e; subst e; rw [hb] at hg; cases hg
theorem row_ne {w : World} {g g' B B' e e' s s' n n' c c' : Nat} {xs xs' : List Value} (hne : e ≠ e') (h : w.ownsRow B e s (.slice (some ⟨g, 0, none⟩) n c) n xs) (h' : w.ownsRow B' e' s' (.slice (some ⟨g', 0, none⟩) n' c') n' xs') : g ≠ g' := by
  obtain ⟨-, cur, hg⟩ := own_block h
  obtain ⟨-, cur', hg'⟩ := own_block h'
  intro e; subst e; rw [hg] at hg'; simp only [Option.some.injEq, Obj.cells.injEq] at hg'; exact hne hg'.2.1
theorem row_kept {w w' : World} {g B e s n c k : Nat} {xs : List Value} (h : w.ownsRow B e s (.slice (some ⟨g, 0, none⟩) n c) n xs) (hg : w.grownBy w' (some k)) (hne : g ≠ k) : w'.ownsRow B e s (.slice (some ⟨g, 0, none⟩) n c) n xs :=
  h.kept hg (.inr (by simp only [Value.ownBlock]; intro hh; exact hne (Option.some.inj hh)))
end Va
end Go.Proofs.YtjlabdnjdokpnaaR
