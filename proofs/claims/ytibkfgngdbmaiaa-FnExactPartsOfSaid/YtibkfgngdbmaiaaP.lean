/- What is proved: at every line, PartsOf of the program answers as the model's PartsOf does, every part and the flag, and its answer owns its memory, behind another call too (the given statement Rows.FnExactPartsOfSaid), with no condition. -/
import Derived.Test.YtibkfgngdbmaiaaRows
import Derived.WalkKit
import Derived.ProofKit
import Derived.OpenShut
import Derived.ShutString
import Derived.ChangeOld
import Derived.Below
import Derived.Test.YtibkfgngdbmaiaaPd
namespace Go.Proofs.Ytibkfgngdbmaiaa.fnExactPartsOf
open Go.ChangeShapes Go.WideShapes Go.ChangeAt Go.RowKit
open Go.ChangeMaps (open_string shut_string)
set_option linter.unusedVariables false      -- a walk need not use every 'w<i>' (that an integer argument fits its kind)

theorem own : ownKnob Try.prog.godebug = none := by kernel_rfl


open Pa in
/-- What PartsOf leaves, its list and its flag under letters. -/
def Left2 (L : List (List UInt8)) (b : Bool) (n : Nat) (w : World) (e : Ending) (w' : World) : Prop :=
  ∃ g cap : Nat, e = .returned (.tuple #[.slice (some ⟨g, 0, none⟩) n cap, .bool b]) ∧ w.heap.size ≤ g ∧ w'.ownsRow w.heap.size 9 1 (.slice (some ⟨g, 0, none⟩) n cap) n (strC L) ∧ Below w.heap.size w w'
theorem left2 {l : List UInt8} {L : List (List UInt8)} {b : Bool} {n : Nat} {w w' : World} {e : Ending} (h : Pa.resP l = (L, b)) (hn : L.length = n) (hl : Pa.Left l w e w') : Left2 L b n w e w' := by
  unfold Pa.Left at hl; rw [h] at hl; subst hn; exact hl
theorem resP_small (l : List UInt8) : (Pa.resP l).1.length ≤ 12 := by
  unfold Pa.resP; split
  · rename_i h; exact h.2.2
  · simp
theorem specAll (s : ByteArray) (w : World) (hm : s.size ≤ 1048576) (L : List (List UInt8)) (b : Bool) (n : Nat) (h : Pa.resP s.data.toList = (L, b)) (hn : L.length = n) : Calls Try.prog 11 #[.string s] w (Left2 L b n w) := by
  by_cases hs : 600 < s.size
  · exact (Pa.specLong s w hs hm).mono fun e w' hl => left2 h hn hl
  · exact (Pa.specShort s w (by omega)).mono fun e w' hl => left2 h hn hl
theorem implAll (s : ByteArray) (w : World) (hm : s.size ≤ 1048576) (L : List (List UInt8)) (b : Bool) (n : Nat) (h : Pa.resP s.data.toList = (L, b)) (hn : L.length = n) : Calls Try.prog 12 #[.string s] w (Left2 L b n w) := by
  by_cases hs : 600 < s.size
  · exact (Pa.implLong s w hs hm).mono fun e w' hl => left2 h hn hl
  · exact (Pa.implShort s w (by omega)).mono fun e w' hl => left2 h hn hl
theorem marks1 (xs : List Value) (n B g c : Nat) (w : World) (hs : n ≤ 1000) (h1 : w.ownsRow B 9 1 (.slice (some ⟨g, 0, none⟩) n c) n xs) (hB : B ≤ w.heap.size) (hg : B ≤ g) :
    Calls Try.prog 14 #[.slice (some ⟨g, 0, none⟩) n c, .int .i64 1] w fun e w' => e = .returned (.int .i64 (1 + (n : Int))) ∧ w'.ownsRow B 9 1 (.slice (some ⟨g, 0, none⟩) n c) n (Pa.marks 1 n) ∧ Below B w w' :=
  Pa.marksC xs n 1 B g c w hs (Nat.le_refl _) (by decide) h1 hB hg
theorem held1 (n B g c : Nat) (w : World) (hs : n ≤ 1000) (h1 : w.ownsRow B 9 1 (.slice (some ⟨g, 0, none⟩) n c) n (Pa.marks 1 n)) :
    Calls Try.prog 15 #[.slice (some ⟨g, 0, none⟩) n c, .int .i64 1] w fun e w' => e = .returned (.int .i64 (1 + (n : Int))) ∧ Below w.heap.size w w' :=
  Pa.heldC n 1 B g c w hs (Nat.le_refl _) (by decide) h1

/-! ### STEP 1: THE WALK: the Go text returns true. 'Grown w w'': the world has at most new blocks (Derived/RowKit3.lean). Part the cases AHEAD of 'go_enter' where a test parts the walk; take each callee by a contract of your own. -/
theorem walk (a0 : ByteArray) (w0 : a0.size ≤ maxLen) (w : World) :
    Calls Try.prog 5 #[.string a0] w fun e w' => e = .returned (.bool true) ∧ Below w.heap.size w w' := by
  by_cases hbig : 1048576 < a0.size
  · have h1 : (1048576 : Int) < (a0.size : Int) := by omega
    unfold maxLen at w0
    go_enter Try.func5, Try.ntmps5
    go_wp2
    go_ret
    exact ⟨rfl, Below.refl _ _⟩
  · have h1 : ¬ (1048576 : Int) < (a0.size : Int) := by omega
    obtain ⟨L, b, n, HR, HN⟩ : ∃ L b n, Hid (Pa.resP a0.data.toList = (L, b)) ∧ Hid (L.length = n) := ⟨_, _, _, rfl, rfl⟩
    have hn : n ≤ 12 := by have h := resP_small a0.data.toList; rw [HR.out] at h; have h2 := HN.out; rw [← h2]; exact h
    have hn2 : ¬ (1 + (n : Int)) < 0 := by omega
    go_enter Try.func5, Try.ntmps5
    go_wp2_with fail
    refine (specAll a0 _ (by omega) L b n HR.out HN.out).mono ?_
    rintro e w1 ⟨g0, c0, rfl, hg0, ho0, hb1⟩
    go_wp2_with fail
    refine (implAll a0 _ (by omega) L b n HR.out HN.out).mono ?_
    rintro e w2 ⟨g1, c1, rfl, hg1, ho1, hb2⟩
    have ho02 := Pa.own_below ho0 hb2
    go_wp2_with fail
    refine (Pa.eqC L n w1.heap.size w.heap.size g1 g0 c1 c0 _ HN.out (by omega) ho1 ho02).mono ?_
    rintro e w3 ⟨rfl, k3, hw3⟩
    have HW3 : Hid (w3 = w2.drewN k3) := hw3
    clear hw3
    have hb3 : Below w1.heap.size w1 w3 := by rw [HW3.out]; exact hb2.trans ((Pa.below_drewN w2 k3).mono hb2.size)
    have ho13 : w3.ownsRow w1.heap.size 9 1 (.slice (some ⟨g1, 0, none⟩) n c1) n (Pa.strC L) := by rw [HW3.out]; exact ho1
    clear ho1 ho02 hb2 HW3
    go_wp2_with fail
    refine (marks1 (Pa.strC L) n w1.heap.size g1 c1 _ (by omega) ho13 hb3.size hg1).mono ?_
    rintro e w4 ⟨rfl, ho14, hb4⟩
    have hb14 := hb3.trans hb4
    clear ho13 hb3 hb4
    go_wp2_with fail
    refine (held1 n w1.heap.size g1 c1 _ (by omega) ho14).mono ?_
    rintro e w5 ⟨rfl, hb5⟩
    go_wp2_with fail
    refine (implAll a0 _ (by omega) L b n HR.out HN.out).mono ?_
    rintro e w6 ⟨g2, c2, rfl, hg2, ho2, hb6⟩
    have hs4 := hb14.size
    have hs5 := hb5.size
    have hb46 : Below w4.heap.size w4 w6 := hb5.trans (hb6.mono hs5)
    have hb16 : Below w1.heap.size w1 w6 := hb14.trans (hb46.mono hs4)
    have ho06 := Pa.own_below ho0 hb16
    go_wp2_with fail
    refine (Pa.eqC L n w5.heap.size w.heap.size g2 g0 c2 c0 _ HN.out (by omega) ho2 ho06).mono ?_
    rintro e w7 ⟨rfl, k7, hw7⟩
    have HW7 : Hid (w7 = w6.drewN k7) := hw7
    clear hw7
    have hb47 : Below w4.heap.size w4 w7 := by rw [HW7.out]; exact hb46.trans ((Pa.below_drewN w6 k7).mono hb46.size)
    have ho17 := Pa.own_below ho14 hb47
    go_wp2_with fail
    refine (held1 n w1.heap.size g1 c1 _ (by omega) ho17).mono ?_
    rintro e w8 ⟨rfl, hb8⟩
    have hs7 := hb47.size
    have hs1 := hb1.size
    have hb18 : Below w1.heap.size w1 w8 := (hb14.trans (hb47.mono hs4)).trans (hb8.mono (by omega))
    have hb08 : Below w.heap.size w w8 := hb1.trans (hb18.mono hs1)
    clear ho0 ho14 ho2 ho06 ho17 hb1 hb14 hb5 hb6 hb46 hb16 hb47 hb8 hb18 HW7
    go_wp2
    go_ret
    exact ⟨rfl, hb08⟩

/-! ### THE ROW's STEP: WRITTEN OUT: LEAVE IT -/
set_option maxRecDepth 100000 in
theorem lifted (os : Os) (started : os.Started) (H : Type) (enc : TypeId × Value → H) :
    ReturnsInHanded {} Try.checked os 5 .any (Rows.fnExactPartsOfSpec.pre6 enc Try.prog Try.f5 Rows.fnExactPartsOfRow.domain false) (Rows.fnExactPartsOfSpec.post enc Try.prog Try.f5 false true false false) := by
  refine returnsInHanded_of_change (C := Try.checked) own started (by kernel_rfl) Try.func5
    (ChangeSpec.witness6 (enc := enc) (C := Try.checked) false ⟨#[], #[.string ByteArray.empty], []⟩ 8 (by kernel_rfl) (by kernel_rfl) (by kernel_rfl) (by kernel_rfl)) ?_
  intro W base args ds gs before hval0 hW hcnd _
  have hval : ∀ (j : Nat) t v, Try.f5.params[j]? = some t → args[j]? = some v → Value.okWide Try.prog W .any base t v := hval0
  have hW' := hW
  obtain ⟨p, q, hA0, hV, rfl, hfz, hnd⟩ := hW
  have hA : DataW.TrodAll enc Try.prog W 0 (fun _ => true) true Try.f5.params.toList args.toList ds p := hA0
  rw [Try.params5] at hA hval
  obtain ⟨v0, vs0, d0, ds0, p0, q0, hargs, rfl, rfl, h0, r0⟩ := trodAll_cons hA
  obtain ⟨rfl, rfl, rfl⟩ := trodAll_nil r0
  obtain rfl : args = #[v0] := by cases args; simp_all
  obtain ⟨rfl, rfl⟩ := trodVars_none hV
  obtain ⟨a0, rfl, rfl, rfl, w0⟩ := open_string Try.underlying9 (hval 0 9 v0 rfl rfl) h0
  clear hA0 hval0
  simp only [List.append_nil] at hW'
  refine (walk a0 w0 W).mono fun e W' ⟨he, hg⟩ => ?_
  subst he
  exact ⟨_, rfl, _, _, _, [], _, [], hW', trodAll_mk1 (shut_bool Try.underlying4 _), (trodAll_cons_mk (shut_string Try.underlying9 w0) trodAll_mk0), rfl, hg.frame _, fun h => by cases h⟩

theorem over : Rows.fnExactPartsOfRow.holds Try.pinned (OpenSpec.ofChange Rows.fnExactPartsOfSpec) :=
  OpenClaim.holds_of_wide 5 Try.f5 rfl rfl rfl rfl rfl rfl rfl ⟨rfl, rfl, rfl, rfl, rfl⟩ rfl rfl rfl rfl rfl (by kernel_rfl) Try.func5 (by kernel_rfl)
    (of_decide_eq_true (by kernel_rfl)) (by unfold Func.isWrapper; first | (rw [if_pos (by decide +kernel)]; kernel_rfl) | (rw [if_neg (by decide +kernel)]; exact ⟨rfl, rfl⟩))
    (fun os started H enc _ => lifted os started H enc)

end Go.Proofs.Ytibkfgngdbmaiaa.fnExactPartsOf

namespace Go.Proofs.Ytibkfgngdbmaiaa
/-- The statement. -/
theorem fnExactPartsOf_holds : Rows.FnExactPartsOfSaid :=
  fnExactPartsOf.over
#print axioms fnExactPartsOf_holds
end Go.Proofs.Ytibkfgngdbmaiaa
