/- What is proved: at every text, RunesOf of the program answers as the model's RunesOf does, every scalar, and its answer owns its memory, behind another call too (the given statement Rows.FnExactRunesOfCardSaid); the library's two tables that it reads hold what the program's text lays (the card ties them). -/
import Derived.Test.YtcmcddhhokgbnaaDoorCards
import Derived.Test.YtcmcddhhokgbnaaDoorTie
import Derived.Test.YtcmcddhhokgbnaaDoorTab
import Derived.Test.YtcmcddhhokgbnaaDoorRoI
import Derived.Test.YtcmcddhhokgbnaaDoorRoS
import Derived.Test.YtcmcddhhokgbnaaDoorInI
import Derived.WalkKit
import Derived.ProofKit
import Derived.OpenShut
import Derived.ShutString
import Derived.ChangeOld
import Derived.Deep.DeepHandedRow
import Derived.Stop.LaidErr
import Derived.Below
namespace Go.Proofs.YtcmcddhhokgbnaaDoor.fnExactRunesOf
open Go.ChangeShapes Go.WideShapes Go.ChangeAt Go.RowKit
open Go.ChangeMaps (open_string shut_string)
set_option linter.unusedVariables false

theorem own : ownKnob Tryd.prog.godebug = none := by kernel_rfl

theorem runes_short (s : ByteArray) : (runes s).length ≤ s.size := by
  have h : ∀ f pos, pos ≤ s.size → (runesF s f pos).length ≤ s.size - pos := by
    intro f
    induction f with
    | zero => intro pos _; simp [runesF]
    | succ f ih =>
      intro pos hp
      by_cases hlt : pos < s.size
      · obtain ⟨_, b2, _, b4⟩ := dec_bound s pos hlt
        simp only [runesF]
        rw [if_pos hlt, List.length_cons]
        have := ih _ b4
        omega
      · simp [runesF, hlt]
  unfold runes
  split
  · have := h s.size 0 (by omega); omega
  · simp

set_option maxHeartbeats 1000000 in
theorem walk (a0 : ByteArray) (w0 : a0.size ≤ maxLen) (w : World) (hT : Lib.Utf8Tabs 0 1 w) :
    Calls Tryd.prog 3 #[.string a0] w fun e w' => e = .returned (.bool true) ∧ Below w.heap.size w w' := by
  by_cases hbig : 1048576 < a0.size
  · have h1 : (1048576 : Int) < (a0.size : Int) := by omega
    unfold maxLen at w0
    go_enter Tryd.func3, Tryd.ntmps3
    go_wp2
    go_ret
    exact ⟨rfl, Below.refl _ _⟩
  · have h1 : ¬ (1048576 : Int) < (a0.size : Int) := by omega
    have CS := fun w' => roS a0 w' (by omega)
    have CI := fun w' hT' => roI a0 w' (by omega) hT'
    obtain ⟨L, n, HR, HN, hn⟩ : ∃ L n, Hid (runes a0 = L) ∧ Hid (L.length = n) ∧ n ≤ 1048576 := ⟨_, _, rfl, rfl, by have := runes_short a0; omega⟩
    rw [HR.out, HN.out] at CS CI
    have hn2 : ¬ (1 + (n : Int)) < 0 := by omega
    go_enter Tryd.func3, Tryd.ntmps3
    go_wp2_with fail
    refine (CS _).mono ?_
    rintro e w1 ⟨g0, c0, rfl, hg0, ho0, hb1⟩
    have hT1 := Utf8Tabs_below hT hb1
    go_wp2_with fail
    refine (CI _ hT1).mono ?_
    rintro e w2 ⟨g1, c1, rfl, hg1, ho1, hb2⟩
    have ho02 := own_below ho0 hb2
    go_wp2_with fail
    refine (eqC L n w1.heap.size w.heap.size g1 g0 c1 c0 _ HN.out hn ho1 ho02).mono ?_
    rintro e w3 ⟨rfl, k3, hw3⟩
    have HW3 : Hid (w3 = w2.drewN k3) := hw3
    clear hw3
    have hb3 : Below w1.heap.size w1 w3 := by rw [HW3.out]; exact hb2.trans ((below_drewN w2 k3).mono hb2.size)
    have ho13 : w3.ownsRow w1.heap.size 3 1 (.slice (some ⟨g1, 0, none⟩) n c1) n (intC L) := by rw [HW3.out]; exact ho1
    clear ho1 ho02 hb2 HW3
    go_wp2_with fail
    refine (marks1 (intC L) n w1.heap.size g1 c1 _ hn ho13 hg1).mono ?_
    rintro e w4 ⟨rfl, ho14, hb4⟩
    have hb14 := hb3.trans hb4
    clear ho13 hb3 hb4
    go_wp2_with fail
    refine (held1 n w1.heap.size g1 c1 _ hn ho14).mono ?_
    rintro e w5 ⟨rfl, rfl⟩
    have hs4 := hb14.size
    have hs1 := hb1.size
    have hT4 := Utf8Tabs_below hT (hb1.trans (hb14.mono hs1))
    go_wp2_with fail
    refine (CI _ hT4).mono ?_
    rintro e w6 ⟨g2, c2, rfl, hg2, ho2, hb6⟩
    have hb16 : Below w1.heap.size w1 w6 := hb14.trans (hb6.mono hs4)
    have ho06 := own_below ho0 hb16
    go_wp2_with fail
    refine (eqC L n w4.heap.size w.heap.size g2 g0 c2 c0 _ HN.out hn ho2 ho06).mono ?_
    rintro e w7 ⟨rfl, k7, hw7⟩
    have HW7 : Hid (w7 = w6.drewN k7) := hw7
    clear hw7
    have hb47 : Below w4.heap.size w4 w7 := by rw [HW7.out]; exact hb6.trans ((below_drewN w6 k7).mono hb6.size)
    have ho17 := own_below ho14 hb47
    go_wp2_with fail
    refine (held1 n w1.heap.size g1 c1 _ hn ho17).mono ?_
    rintro e w8 ⟨rfl, rfl⟩
    have hb17 : Below w1.heap.size w1 w7 := hb14.trans (hb47.mono hs4)
    have hb07 : Below w.heap.size w w7 := hb1.trans (hb17.mono hs1)
    clear ho0 ho14 ho2 ho06 ho17 hb1 hb14 hb6 hb16 hb47 hb17 HW7 CS CI
    go_wp2
    go_ret
    exact ⟨rfl, hb07⟩

/-- What the walk gives, for every argument and every world that holds the tables. -/
theorem contract (H : Type) (enc : TypeId × Value → H) (W : World) (base : Nat) (args : Array Value) (ds gs : List (DataW H)) (before : List MemPlace)
    (hval : ∀ (j : Nat) t v, Tryd.f3.params[j]? = some t → args[j]? = some v → Value.okWide Tryd.prog W .any base t v)
    (hW : DataW.Whole enc Tryd.prog Tryd.f3.params.toList Rows.fnExactRunesOfSpec.vars false W args.toList ds gs before) (hL : laidMetH Tryd.prog Rows.fnExactRunesOfRow.laid W) :
    Calls Tryd.prog 3 args W fun e W' => ∃ v, e = .returned v ∧ Rows.fnExactRunesOfSpec.post enc Tryd.prog Tryd.f3 false true false false W args v W' := by
  have hW' := hW
  obtain ⟨p, q, hA0, hV, rfl, hfz, hnd⟩ := hW
  have hA : DataW.TrodAll enc Tryd.prog W 0 (fun _ => true) true Tryd.f3.params.toList args.toList ds p := hA0
  rw [Tryd.params3] at hA hval
  obtain ⟨v0, vs0, d0, ds0, p0, q0, hargs0, rfl, rfl, h0, r0⟩ := trodAll_cons hA
  obtain ⟨rfl, rfl, rfl⟩ := trodAll_nil r0
  obtain rfl : args = #[v0] := by cases args; simp_all
  obtain ⟨rfl, rfl⟩ := trodVars_none hV
  obtain ⟨a0, rfl, rfl, rfl, w0⟩ := open_string Tryd.underlying9 (hval 0 9 v0 rfl rfl) h0
  clear hA0
  simp only [List.append_nil] at hW'
  refine (walk a0 w0 W (tabs hL)).mono fun e W' ⟨he, hg⟩ => ?_
  subst he
  exact ⟨_, rfl, _, _, _, [], _, [], hW', trodAll_mk1 (shut_bool Tryd.underlying4 _), (trodAll_cons_mk (shut_string Tryd.underlying9 w0) trodAll_mk0), rfl, hg.frame _, fun h => by cases h⟩

/-! One world that fits: the settled one, the two tables holding what their initialisers lay. -/
theorem laid_met (os : Os) : laidMet Tryd.prog Rows.fnExactRunesOfRow.laid (({ World.holding Tryd.prog os ⟨#[], #[], []⟩ with heap := ((World.holding Tryd.prog os ⟨#[], #[], []⟩).heap.modify 0 (fun | .cells _ t frozen => .cells (Lib.firstTab.map (Value.int .u8)).toArray t frozen | o => o)).modify 1 (fun | .cells _ t frozen => .cells (((List.range 16).flatMap fun i => [(Lib.accLo i : Int), (Lib.accHi i : Int)]).map (Value.int .u8)).toArray t frozen | o => o) } : World).forCall (fun _ _ => 0) ⟨#[], #[.string ByteArray.empty], []⟩).memory :=
  laidMet_of_run' 80 (by kernel_rfl) (by kernel_rfl)
theorem reads (os : Os) {H : Type} (enc : TypeId × Value → H) : ∃ places, DataW.whole enc Tryd.prog (({ World.holding Tryd.prog os ⟨#[], #[], []⟩ with heap := ((World.holding Tryd.prog os ⟨#[], #[], []⟩).heap.modify 0 (fun | .cells _ t frozen => .cells (Lib.firstTab.map (Value.int .u8)).toArray t frozen | o => o)).modify 1 (fun | .cells _ t frozen => .cells (((List.range 16).flatMap fun i => [(Lib.accLo i : Int), (Lib.accHi i : Int)]).map (Value.int .u8)).toArray t frozen | o => o) } : World).forCall (fun _ _ => 0) ⟨#[], #[.string ByteArray.empty], []⟩).memory Tryd.f3.params.toList Rows.fnExactRunesOfSpec.vars false (#[.string ByteArray.empty] : Array Value).toList 8 = some ([.lit (.string [])], [], places) :=
  ⟨[], by kernel_rfl⟩

set_option maxRecDepth 100000 in
theorem lifted (os : Os) (started : os.Started) (H : Type) (enc : TypeId × Value → H) (F : Stop.Interp) :
    ReturnsInHanded {} Tryd.checked os 3 .any ((OpenSpec.ofChange Rows.fnExactRunesOfSpec).preRow enc Tryd.prog Tryd.f3 Rows.fnExactRunesOfRow.domain false Rows.fnExactRunesOfRow.laid) (((OpenSpec.ofChange Rows.fnExactRunesOfSpec).at F).post enc Tryd.prog Tryd.f3 false true false false) := by
  obtain ⟨places, hx⟩ := reads os enc
  refine returnsInHanded_of_row (C := Tryd.checked) (s := OpenSpec.ofChange Rows.fnExactRunesOfSpec) own started (by kernel_rfl) Tryd.func3
    (witness_row_at (enc := enc) (C := Tryd.checked) false ({ World.holding Tryd.prog os ⟨#[], #[], []⟩ with heap := ((World.holding Tryd.prog os ⟨#[], #[], []⟩).heap.modify 0 (fun | .cells _ t frozen => .cells (Lib.firstTab.map (Value.int .u8)).toArray t frozen | o => o)).modify 1 (fun | .cells _ t frozen => .cells (((List.range 16).flatMap fun i => [(Lib.accLo i : Int), (Lib.accHi i : Int)]).map (Value.int .u8)).toArray t frozen | o => o) } : World) #[.string ByteArray.empty] rfl (by kernel_rfl) (by kernel_rfl) (by kernel_rfl)
      (OpenSpec.preRow_of_cond 8 hx (by kernel_rfl) (fun k hk => by cases hk) (by kernel_rfl) (laid_met os))) ?_
  intro W base args ds gs before hval hW _ _ _ hL _ _
  exact contract H enc W base args ds gs before hval hW hL

theorem said : Rows.FnExactRunesOfSaid :=
  OpenClaim.holds_of_cond 3 Tryd.f3 rfl rfl rfl rfl rfl rfl rfl ⟨rfl, rfl, rfl, rfl, rfl⟩ rfl rfl rfl rfl rfl (by kernel_rfl) Tryd.func3 (by kernel_rfl)
    (of_decide_eq_true (by kernel_rfl)) (by unfold Func.isWrapper; first | (rw [if_pos (by decide +kernel)]; kernel_rfl) | (rw [if_neg (by decide +kernel)]; exact ⟨rfl, rfl⟩))
    (fun os started H enc _ F => by rw [OpenClaim.pre_eq_preRow]; exact lifted os started H enc F)

/-- No parameter wants a stand-in; the looks are those of the program: what the card asks. -/
theorem plain (f : FuncId) (fn : Func) (hf : Tryd.pinned.checked.prog.funcNamed "loop.example/g00964/laws.FnExactRunesOf" = some f) (hfn : Tryd.pinned.checked.prog.funcs[f]? = some fn) :
    false = Tryd.pinned.checked.prog.looks [] ∧ ∀ (j : Nat) t, fn.params[j]? = some t → Tryd.pinned.checked.prog.wantsStandIn t = false := by
  obtain rfl : f = 3 := Option.some.inj ((show Tryd.prog.funcNamed "loop.example/g00964/laws.FnExactRunesOf" = some 3 by kernel_rfl).symm.trans hf) |>.symm
  obtain rfl : fn = Tryd.f3 := (Option.some.inj (Tryd.func3.symm.trans hfn)).symm
  refine ⟨by kernel_rfl, fun j t ht => ?_⟩
  rw [Tryd.params3] at ht
  obtain rfl : t = 9 := by simpa using Array.mem_of_getElem? ht
  exact (show Tryd.prog.wantsStandIn 9 = false by kernel_rfl)
end Go.Proofs.YtcmcddhhokgbnaaDoor.fnExactRunesOf

namespace Go.Proofs.YtcmcddhhokgbnaaDoor
/-- The statement. -/
theorem fnExactRunesOf_holds : Rows.FnExactRunesOfCardSaid :=
  Claim7.holds_tied_plain_at .later [] _ _ _ _ fnExactRunesOf.said (fun _ h => by cases h) (by kernel_rfl) (fun _ h => by cases h) fnExactRunesOf_row_tie rfl ⟨rfl, rfl⟩ (by kernel_rfl) rfl fnExactRunesOf.plain (by kernel_rfl)
#print axioms fnExactRunesOf_holds
end Go.Proofs.YtcmcddhhokgbnaaDoor
