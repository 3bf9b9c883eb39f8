/- What is proved: at every draw of at most a million bytes the law FnBlocks returns true and writes into no memory that was there. -/
import Derived.Test.YtaafgcnkedaonaaDoorBx
import Derived.Test.YtaafgcnkedaonaaDoorDrP
import Derived.Test.YtaafgcnkedaonaaDoorBf
import Derived.Deep.CutBlock
import Derived.Deep.DeepCutAuto
namespace Go.Proofs.YtaafgcnkedaonaaDoor
open Go.RowKit
attribute [local go_sem ↓] Go.wp_at_zero Go.wp_at_succ


set_option maxHeartbeats 4000000 in
set_option maxRecDepth 100000 in
theorem blocksLaw (a : Option Addr) (len cap : Nat) (w : World) (hcode : Code w a len w.heap.size) (hT : Lib.Utf8Tabs 0 1 w) (hm : Ml w) :
    Calls Tryd.prog 4 #[.slice a len cap] w fun e w' => e = .returned (.bool true) ∧ Below w.heap.size w w' := by
  by_cases hl : len ≤ 1048576
  case neg =>
    have hl' : (1048576 : Int) < (len : Int) := by omega
    go_enter Tryd.func4, Tryd.ntmps4
    go_wp2
    go_ret
    exact ⟨rfl, Below.refl _ _⟩
  have hl' : ¬ (1048576 : Int) < (len : Int) := by omega
  go_enter Tryd.func4, Tryd.ntmps4
  go_wp2_with (go_at_call 7; go_in)
  refine (drawNameC w a len cap hl hcode).mono ?_
  rintro e w1 ⟨s, hs, rfl, hb1⟩
  have HS := Lib.hid hs
  clear hs
  have hs1 := hb1.size
  have hcode1 : Code w1 a len w1.heap.size := fun i hi => by
    obtain ⟨x, b, h1, h2, h3⟩ := (hcode.keep hb1) i hi
    exact ⟨x, b, h1, by omega, h3⟩
  go_wp2_with fail
  refine (drawPlacesC w1 a len cap hl hcode1).mono ?_
  rintro e w2 ⟨g, c2, L, hL, hLx, rfl, hg, ho, hb2⟩
  have hb12 := hb1.trans (hb2.mono hs1)
  obtain ⟨x, hx, hx0, hx1⟩ : ∃ x, w2.cell? ⟨g, 0, none⟩ = some (.int .i64 x) ∧ 0 ≤ x ∧ x < 10000 := by
    have h0 : 0 < L.length := by omega
    have := hLx L[0] (List.getElem_mem h0)
    exact ⟨L[0], (ho.cellAt 0 (by omega)).trans (intC_at L 0 h0), this.1, this.2⟩
  have hlg := World.block_lt_of_cell? w2 _ hx
  clear hLx ho hb1 hb2 hcode1 hL
  go_upto_region 5 with fail
  go_cut [5] (fun v wc => ∃ i, i ∈ ins ∧ v = .string i ∧ Below w.heap.size w wc)
  case first =>
    have hx4 : x % 4 = 0 ∨ x % 4 = 1 ∨ x % 4 = 2 ∨ x % 4 = 3 := by omega
    obtain ⟨y, hy⟩ : ∃ y, x.tmod 4 = y := ⟨_, rfl⟩
    have hy4 : y = 0 ∨ y = 1 ∨ y = 2 ∨ y = 3 := by rw [← hy, Int.tmod_eq_emod_of_nonneg hx0]; exact hx4
    clear hx4
    rcases hy4 with rfl | rfl | rfl | rfl
    · go_wp2_with fail
      go_meet
      exact ⟨⟨#[32]⟩, by simp [ins], rfl, hb12.alloc hb12.size _⟩
    · go_wp2_with fail
      go_meet
      exact ⟨⟨#[32, 32]⟩, by simp [ins], rfl, hb12.alloc hb12.size _⟩
    · go_wp2_with fail
      go_meet
      exact ⟨⟨#[9]⟩, by simp [ins], rfl, hb12.alloc hb12.size _⟩
    · go_wp2_with fail
      go_meet
      exact ⟨⟨#[32, 32, 32, 32, 32, 32]⟩, by simp [ins], rfl, hb12.alloc hb12.size _⟩
  case rest =>
    obtain ⟨i, hi, hv, hbw⟩ := hcut
    subst hv
    clear hb12 hx hlg hcode
    have hs5 := name_size s HS.out
    have hi6 := in_size i hi
    obtain ⟨f1, f2⟩ := two_facts s HS.out
    obtain ⟨r1, r2, r3, r4, r5, r6, r7, r8, r9⟩ := raw_facts s HS.out i hi
    have cB : ∀ w, Lib.Utf8Tabs 0 1 w → Ml w → Calls Tryd.prog 15 #[.string (fBlock s i)] w fun e w' => e = .returned (.tuple #[.string (fWant s), .bool true]) ∧ Below w.heap.size w w' := fun w hT hm => by
      have := btI (fBlock s i) w (by omega) hT hm
      rw [r1] at this; simp only [ba_ls] at this; exact this
    have cT : ∀ w, Lib.Utf8Tabs 0 1 w → Ml w → Calls Tryd.prog 15 #[.string (fTwo s)] w fun e w' => e = .returned (.tuple #[.string (fTwoWant s), .bool true]) ∧ Below w.heap.size w w' := fun w hT hm => by
      have := btI (fTwo s) w (by omega) hT hm
      rw [f1] at this; simp only [ba_ls] at this; exact this
    have cV : ∀ w, Ml w → Calls Tryd.prog 16 #[.string (fRaw s i)] w fun e w' => e = .returned (.string (fWant s)) ∧ Below w.heap.size w w' := fun w hm => by
      have := bvI (fRaw s i) w (by omega) hm
      rw [r2, ba_ls] at this; exact this
    have cL : ∀ w, Ml w → Calls Tryd.prog 17 #[.string (fRaw s i)] w fun e w' => (∃ g cap : Nat, e = .returned (.slice (some ⟨g, 0, none⟩) 7 cap)) ∧ Below w.heap.size w w' := fun w hm => by
      have := linI (fRaw s i) w (by omega) hm
      rw [r3] at this
      exact this.mono fun e w' ⟨g, cap, h1, _, _, h2⟩ => ⟨⟨g, cap, h1⟩, h2⟩
    have cN : ∀ w, Calls Tryd.prog 18 #[.string (i ++ s)] w fun e w' => e = .returned (.int .i64 (i.size : Int)) ∧ Below w.heap.size w w' := fun w => by
      have := indI (i ++ s) w (by omega)
      rw [r4] at this; exact this
    have cE : ∀ w, Calls Tryd.prog 19 #[.string (fMore s i), .int .i64 0] w fun e w' => e = .returned (.int .i64 (((fRaw s i).size : Int) + 6)) ∧ w = w' := fun w => by
      have := beI (fMore s i) 0 w (by omega)
      rw [r5] at this; exact this
    have hRz := r7
    clear f1 f2 r1 r2 r3 r4 r5 r6 r7 r8 r9
    unfold fBlock fWant at cB
    unfold fTwo fTwoWant at cT
    unfold fWant at cV
    unfold fMore at cE
    unfold fRaw at cB cV cL cE hRz
    have hT1 := Utf8Tabs_below hT hbw
    have hm1 := ml_below hm hbw
    go_wp2_with fail
    refine (cB _ hT1 hm1).mono ?_
    rintro e w3 ⟨rfl, hb3⟩
    have hb03 := hbw.trans (hb3.mono hbw.size)
    clear hb3 hbw
    go_wp2_with fail
    refine (cT _ (Utf8Tabs_below hT hb03) (ml_below hm hb03)).mono ?_
    rintro e w4 ⟨rfl, hb4⟩
    have hb04 := hb03.trans (hb4.mono hb03.size)
    clear hb4 hb03
    go_wp2_with fail
    refine (cV _ (ml_below hm hb04)).mono ?_
    rintro e w5 ⟨rfl, hb5⟩
    have hb05 := hb04.trans (hb5.mono hb04.size)
    clear hb5 hb04
    go_wp2_with fail
    refine (cL _ (ml_below hm hb05)).mono ?_
    rintro e w6 ⟨⟨g6, c6, rfl⟩, hb6⟩
    have hb06 := hb05.trans (hb6.mono hb05.size)
    clear hb6 hb05
    go_wp2_with fail
    refine (cN _).mono ?_
    rintro e w7 ⟨rfl, hb7⟩
    have hb07 := hb06.trans (hb7.mono hb06.size)
    clear hb7 hb06
    go_wp2_with fail
    refine (cE _).mono ?_
    rintro e w8 ⟨rfl, rfl⟩
    go_wp2_with fail
    go_ret
    exact ⟨rfl, hb07⟩
end Go.Proofs.YtaafgcnkedaonaaDoor
