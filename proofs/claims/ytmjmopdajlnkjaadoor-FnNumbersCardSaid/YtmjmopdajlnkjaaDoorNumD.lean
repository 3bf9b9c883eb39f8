/- What is proved: what IntOk and FloatOk of the model and of the program answer at every text: the same two plain functions; nothing is written. Used by the proofs of FnExactIntOk, FnExactFloatOk, FnExactFits32 and FnNumbers. -/
import Derived.Test.YtmjmopdajlnkjaaDoorNumB
namespace Go.Proofs.YtmjmopdajlnkjaaDoor
open Go.RowKit

theorem eqf {a b : Int} (h : ¬ a = b) : (a == b) = false := by
  cases hc : (a == b) with
  | false => rfl
  | true => exact absurd (by simpa using hc) h
theorem eqt {a b : Int} (h : a = b) : (a == b) = true := by simpa using h
theorem fst_yes {s : ByteArray} (h : bt s 0 = 45) : fst s = 1 := by unfold fst; rw [if_pos h]
theorem fst_no {s : ByteArray} (h : ¬ bt s 0 = 45) : fst s = 0 := by unfold fst; rw [if_neg h]
theorem lI_a {s : ByteArray} (h : run s (fst s) = fst s) : lI s = 0 := by unfold lI; rw [if_pos (.inl h)]
theorem lI_b {s : ByteArray} (h : bt s (fst s) = 48) (h2 : fst s + 1 < run s (fst s)) : lI s = 0 := by unfold lI; rw [if_pos (.inr ⟨h, h2⟩)]
theorem lI_c {s : ByteArray} (h0 : ¬ run s (fst s) = fst s) (h : ¬ (bt s (fst s) = 48 ∧ fst s + 1 < run s (fst s))) : lI s = run s (fst s) := by unfold lI; rw [if_neg (fun x => x.elim h0 h)]
theorem aW_a {s : ByteArray} (h : run s (fst s) = fst s) : aW s = 0 := by unfold aW; rw [if_pos h]
theorem aW_b {s : ByteArray} (h0 : ¬ run s (fst s) = fst s) (h : bt s (fst s) = 48) : aW s = fst s + 1 := by unfold aW; rw [if_neg h0, if_pos h]
theorem aW_c {s : ByteArray} (h0 : ¬ run s (fst s) = fst s) (h : ¬ bt s (fst s) = 48) : aW s = run s (fst s) := by unfold aW; rw [if_neg h0, if_neg h]

/-- What both readers of a whole number do behind the sign. -/
theorem run_first (s : ByteArray) (f : Nat) (h : ¬ run s f = f) : f < s.size := by
  by_cases hf : f < s.size
  · exact hf
  · exact absurd (run_out (by omega)) h

set_option maxHeartbeats 1600000 in
theorem l03I (s : ByteArray) (w : World) (hs : s.size ≤ 1048576) :
    Calls Tryd.prog 30 #[.string s] w fun e w' => e = .returned (.int .i64 (lI s : Int)) ∧ w = w' := by
  obtain ⟨f, hf⟩ : ∃ f, fst s = f := ⟨_, rfl⟩
  obtain ⟨r, hr⟩ : ∃ r, run s f = r := ⟨_, rfl⟩
  have hfs : f ≤ s.size := by rw [← hf]; exact fst_le s
  have hrs : r ≤ s.size := by rw [← hr]; exact run_size s f hfs
  have CR : ∀ W : World, Calls Tryd.prog 38 #[.string s, .int .i64 (f : Int)] W fun e w' => e = .returned (.int .i64 (r : Int)) ∧ W = w' := fun W => by
    rw [← hr]; exact runS s f W hs hfs
  have HC := Lib.hid CR
  clear CR
  have HFST := Lib.hid hf
  have HRUN := Lib.hid hr
  by_cases hne : r = f
  · have HR : Hid (lI s = 0) := lI_a (by rw [HFST.out, HRUN.out]; exact hne)
    have e1 : ((r : Int) == (f : Int)) = true := eqt (by omega)
    clear hr hf hne
    by_cases h0 : 0 < s.size
    · have hp : (0 : Int) < (s.size : Int) := by omega
      have hb := bt_at s 0 h0
      by_cases h45 : (s[0].toNat : Int) = 45
      · obtain rfl : f = 1 := by rw [← HFST.out]; exact fst_yes (hb.trans h45)
        have e2 := eqt h45
        clear hb h45
        have g1 : ((r : Int) == 1) = true := e1
        clear e1
        go_enter Tryd.func30, Tryd.ntmps30
        go_wp2_with (go_at_call 38; refine (HC.out _).mono ?_; rintro e w1 ⟨rfl, rfl⟩)
        go_ret
        exact ⟨ret_i (by rw [HR.out]; rfl), rfl⟩
      · obtain rfl : f = 0 := by rw [← HFST.out]; exact fst_no (by rw [hb]; exact h45)
        have e2 := eqf h45
        clear hb h45
        have g1 : ((r : Int) == 0) = true := e1
        clear e1
        go_enter Tryd.func30, Tryd.ntmps30
        go_wp2_with (go_at_call 38; refine (HC.out _).mono ?_; rintro e w1 ⟨rfl, rfl⟩)
        go_ret
        exact ⟨ret_i (by rw [HR.out]; rfl), rfl⟩
    · have hp : ¬ (0 : Int) < (s.size : Int) := by omega
      obtain rfl : f = 0 := by omega
      have g1 : ((r : Int) == 0) = true := e1
      clear e1
      go_enter Tryd.func30, Tryd.ntmps30
      go_wp2_with (go_at_call 38; refine (HC.out _).mono ?_; rintro e w1 ⟨rfl, rfl⟩)
      go_ret
      exact ⟨ret_i (by rw [HR.out]; rfl), rfl⟩
  · have hlt : f < s.size := run_first s f (by rw [hr]; exact hne)
    have e1 : ((r : Int) == (f : Int)) = false := eqf (by omega)
    have h0 : 0 < s.size := by omega
    have hp : (0 : Int) < (s.size : Int) := by omega
    have hb := bt_at s 0 h0
    have hbf := bt_at s f hlt
    have HNE : Hid (¬ run s (fst s) = fst s) := fun x => hne (by rw [← HRUN.out, ← HFST.out]; exact x)
    have HBF : Hid (bt s (fst s) = (s[f].toNat : Int)) := by show _ = _; rw [HFST.out]; exact hbf
    clear hr hf hne hbf
    have HRR : Hid (run s (fst s) = r) := by show _ = _; rw [HFST.out]; exact HRUN.out
    by_cases h48 : (s[f].toNat : Int) = 48
    · have e3 := eqt h48
      by_cases hgt : (f : Int) + 1 < (r : Int)
      · have HR : Hid (lI s = 0) := lI_b (HBF.out.trans h48) (by rw [HRR.out, HFST.out]; omega)
        clear h48
        by_cases h45 : (s[0].toNat : Int) = 45
        · obtain rfl : f = 1 := by rw [← HFST.out]; exact fst_yes (hb.trans h45)
          have e2 := eqt h45
          clear hb h45
          have g1 : ((r : Int) == 1) = false := e1
          clear e1
          have g2 : (2 : Int) < (r : Int) := by omega
          have g3 : (1 : Int) < (s.size : Int) := by omega
          clear hgt
          go_enter Tryd.func30, Tryd.ntmps30
          go_wp2_with (go_at_call 38; refine (HC.out _).mono ?_; rintro e w1 ⟨rfl, rfl⟩)
          go_ret
          exact ⟨ret_i (by rw [HR.out]; rfl), rfl⟩
        · obtain rfl : f = 0 := by rw [← HFST.out]; exact fst_no (by rw [hb]; exact h45)
          have e2 := eqf h45
          clear hb h45
          have g1 : ((r : Int) == 0) = false := e1
          clear e1
          have g2 : (1 : Int) < (r : Int) := by omega
          have g3 : (0 : Int) < (s.size : Int) := by omega
          clear hgt
          go_enter Tryd.func30, Tryd.ntmps30
          go_wp2_with (go_at_call 38; refine (HC.out _).mono ?_; rintro e w1 ⟨rfl, rfl⟩)
          go_ret
          exact ⟨ret_i (by rw [HR.out]; rfl), rfl⟩
      · have HR : Hid (lI s = r) := by
          show _ = _
          rw [lI_c HNE.out (fun x => hgt (by rw [HRR.out, HFST.out] at x; omega)), HRR.out]
        clear h48
        by_cases h45 : (s[0].toNat : Int) = 45
        · obtain rfl : f = 1 := by rw [← HFST.out]; exact fst_yes (hb.trans h45)
          have e2 := eqt h45
          clear hb h45
          have g1 : ((r : Int) == 1) = false := e1
          clear e1
          have g2 : ¬ (2 : Int) < (r : Int) := by omega
          have g3 : (1 : Int) < (s.size : Int) := by omega
          clear hgt
          go_enter Tryd.func30, Tryd.ntmps30
          go_wp2_with (go_at_call 38; refine (HC.out _).mono ?_; rintro e w1 ⟨rfl, rfl⟩)
          go_ret
          exact ⟨ret_i (by rw [HR.out]), rfl⟩
        · obtain rfl : f = 0 := by rw [← HFST.out]; exact fst_no (by rw [hb]; exact h45)
          have e2 := eqf h45
          clear hb h45
          have g1 : ((r : Int) == 0) = false := e1
          clear e1
          have g2 : ¬ (1 : Int) < (r : Int) := by omega
          have g3 : (0 : Int) < (s.size : Int) := by omega
          clear hgt
          go_enter Tryd.func30, Tryd.ntmps30
          go_wp2_with (go_at_call 38; refine (HC.out _).mono ?_; rintro e w1 ⟨rfl, rfl⟩)
          go_ret
          exact ⟨ret_i (by rw [HR.out]), rfl⟩
    · have e3 := eqf h48
      have HR : Hid (lI s = r) := by
        show _ = _
        rw [lI_c HNE.out (fun x => h48 (by rw [← HBF.out]; exact x.1)), HRR.out]
      clear h48
      by_cases h45 : (s[0].toNat : Int) = 45
      · obtain rfl : f = 1 := by rw [← HFST.out]; exact fst_yes (hb.trans h45)
        have e2 := eqt h45
        clear hb h45
        have g1 : ((r : Int) == 1) = false := e1
        clear e1
        have g3 : (1 : Int) < (s.size : Int) := by omega
        go_enter Tryd.func30, Tryd.ntmps30
        go_wp2_with (go_at_call 38; refine (HC.out _).mono ?_; rintro e w1 ⟨rfl, rfl⟩)
        go_ret
        exact ⟨ret_i (by rw [HR.out]), rfl⟩
      · obtain rfl : f = 0 := by rw [← HFST.out]; exact fst_no (by rw [hb]; exact h45)
        have e2 := eqf h45
        clear hb h45
        have g1 : ((r : Int) == 0) = false := e1
        clear e1
        have g3 : (0 : Int) < (s.size : Int) := by omega
        go_enter Tryd.func30, Tryd.ntmps30
        go_wp2_with (go_at_call 38; refine (HC.out _).mono ?_; rintro e w1 ⟨rfl, rfl⟩)
        go_ret
        exact ⟨ret_i (by rw [HR.out]), rfl⟩
end Go.Proofs.YtmjmopdajlnkjaaDoor
