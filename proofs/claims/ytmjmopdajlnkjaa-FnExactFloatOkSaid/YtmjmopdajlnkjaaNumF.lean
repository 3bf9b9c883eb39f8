/- What is proved: what FloatOk of the model answers at every text: the same plain function as the program's; nothing is written. Used by the proof of FnExactFloatOkSaid. -/
import Derived.Test.YtmjmopdajlnkjaaNumS
namespace Go.Proofs.Ytmjmopdajlnkjaa
open Go.RowKit

theorem dec_int (a b : Nat) : decide (a = b) = ((a : Int) == (b : Int)) := by
  by_cases h : a = b
  · rw [decide_eq_true h, eqt (by omega)]
  · rw [decide_eq_false h, eqf (by omega)]
theorem eS_size (s : ByteArray) (b : Nat) (h : b < s.size) : eS s b ≤ s.size := by
  unfold eS
  split
  · next h => have := bt_lt (s := s) (k := b + 1) (by omega); omega
  · omega
theorem fOk_no {s : ByteArray} (h : ¬ (s.size ≤ 40 ∧ lI s ≠ 0 ∧ lI s ≠ s.size)) : fOk s = false := decide_eq_false (fun x => h ⟨x.1, x.2.1, x.2.2.1⟩)
theorem fOk_on {s : ByteArray} (h0 : s.size ≤ 40) (h1 : lI s ≠ 0) (h2 : lI s ≠ s.size) : fOk s = decide (aE s (aF s (lI s)) = s.size) := by
  unfold fOk
  by_cases h : aE s (aF s (lI s)) = s.size
  · rw [decide_eq_true h, decide_eq_true ⟨h0, h1, h2, h⟩]
  · rw [decide_eq_false h, decide_eq_false (fun x => h x.2.2.2)]

set_option maxHeartbeats 16000000 in
theorem floatS (s : ByteArray) (w : World) (hs : s.size ≤ 1048576) :
    Calls Try.prog 11 #[.string s] w fun e w' => e = .returned (.bool (fOk s)) ∧ w = w' := by
  have C0 := l03I s w hs
  have has := lI_size s
  by_cases h40 : (40 : Int) < (s.size : Int)
  · have HR := Lib.hid (fOk_no (s := s) (fun x => by omega))
    go_enter Try.func11, Try.ntmps11
    go_wp2_with (go_at_call 19; refine C0.mono ?_; rintro e w1 ⟨rfl, rfl⟩)
    go_ret
    exact ⟨ret_b (by rw [HR.out]), rfl⟩
  by_cases h0 : lI s = 0
  · have HR := Lib.hid (fOk_no (s := s) (fun x => x.2.1 h0))
    rw [h0] at C0
    clear h0
    go_enter Try.func11, Try.ntmps11
    go_wp2_with (go_at_call 19; refine C0.mono ?_; rintro e w1 ⟨rfl, rfl⟩)
    go_ret
    exact ⟨ret_b (by rw [HR.out]), rfl⟩
  by_cases h1 : lI s = s.size
  · have HR := Lib.hid (fOk_no (s := s) (fun x => x.2.2 h1))
    have n0 : ((s.size : Int) == 0) = false := eqf (by omega)
    rw [h1] at C0
    clear h1 h0
    go_enter Try.func11, Try.ntmps11
    go_wp2_with (go_at_call 19; refine C0.mono ?_; rintro e w1 ⟨rfl, rfl⟩)
    go_ret
    exact ⟨ret_b (by rw [HR.out]), rfl⟩
  have HF := Lib.hid (fOk_on (by omega) h0 h1)
  obtain ⟨a, ha⟩ : ∃ a, lI s = a := ⟨_, rfl⟩
  rw [ha] at C0 has h0 h1 HF
  clear ha
  have n0 : ((a : Int) == 0) = false := eqf (by omega)
  have n1 : ((a : Int) == (s.size : Int)) = false := eqf (by omega)
  have hlta : a < s.size := by omega
  have ha0 : (0 : Int) ≤ (a : Int) := by omega
  have ha1 : (a : Int) < (s.size : Int) := by omega
  have hba := bt_at s a hlta
  by_cases h46 : (s[a].toNat : Int) = 46
  · have HAF : Hid (aF s a = if run s (a + 1) = a + 1 then a else run s (a + 1)) := by show _ = _; unfold aF; rw [if_pos (hba.trans h46)]
    have R := runS s (a + 1) w hs hlta
    have hbs := run_size s (a + 1) hlta
    obtain ⟨b, hb⟩ : ∃ b, run s (a + 1) = b := ⟨_, rfl⟩
    rw [hb] at R HAF hbs
    have R1 : Calls Try.prog 21 #[.string s, .int .i64 ((a : Int) + 1)] w fun e w' => e = .returned (.int .i64 (b : Int)) ∧ w = w' := R
    have p46 := eqt h46
    by_cases hb1 : b = a + 1
    · have HR : Hid (fOk s = false) := by
        show _ = _
        rw [HF.out, HAF.out, if_pos hb1]
        unfold aE
        rw [if_neg (by rw [hba]; omega)]
        exact decide_eq_false h1
      have p1 : ((b : Int) == (a : Int) + 1) = true := eqt (by omega)
      clear hb R hb1 h46 hba HAF HF h0 h1
      go_enter Try.func11, Try.ntmps11
      go_wp2_with fail
      refine C0.mono ?_
      rintro e w1 ⟨rfl, rfl⟩
      go_wp2_with fail
      refine R1.mono ?_
      rintro e w1 ⟨rfl, rfl⟩
      go_wp2
      go_ret
      exact ⟨ret_b (by rw [HR.out]), rfl⟩
    · have p1 : ((b : Int) == (a : Int) + 1) = false := eqf (by omega)
      have HF : Hid (fOk s = decide (aE s b = s.size)) := by show _ = _; rw [HF.out, HAF.out, if_neg hb1]
      clear hb R hb1 h46 hba HAF h0 h1
      by_cases hlt : b < s.size
      · have hi0 : (0 : Int) ≤ (b : Int) := by omega
        have hi1 : (b : Int) < (s.size : Int) := by omega
        have hbb := bt_at s b hlt
        by_cases hE : (s[b].toNat : Int) = 101 ∨ (s[b].toNat : Int) = 69
        · have HAE : Hid (aE s b = if run s (eS s b) = eS s b then b else run s (eS s b)) := by show _ = _; unfold aE; rw [if_pos (by rw [hbb]; exact hE)]
          have hes := eS_size s b hlt
          obtain ⟨c, hc⟩ : ∃ c, eS s b = c := ⟨_, rfl⟩
          rw [hc] at HAE hes
          obtain ⟨r, hr⟩ : ∃ r, run s c = r := ⟨_, rfl⟩
          have R := runS s c w hs hes
          rw [hr] at R HAE
          have RC : ∀ (x : Int), x = (c : Int) → Hid (Calls Try.prog 21 #[.string s, .int .i64 x] w fun e w' => e = .returned (.int .i64 (r : Int)) ∧ w = w') := fun x hx => by subst hx; exact R
          have hrs : r ≤ s.size := by rw [← hr]; exact run_size s c hes
          clear hbb R hr
          by_cases hrc : r = c
          · have HR : Hid (fOk s = false) := by show _ = _; rw [HF.out, HAE.out, if_pos hrc]; exact decide_eq_false (by omega)
            have q : ((r : Int) == (c : Int)) = true := eqt (by omega)
            clear hrc HAE HF
            by_cases h2 : b + 1 < s.size
            · have hi2 : (b : Int) + 1 < (s.size : Int) := by omega
              have hi3 : (0 : Int) ≤ (b : Int) + 1 := by omega
              have hb2 := bt_at s (b + 1) h2
              by_cases h43 : (s[b + 1].toNat : Int) = 43
              · have hcv : (c : Int) = (b : Int) + 1 + 1 := by rw [← hc]; unfold eS; rw [if_pos (.inl (hb2.trans h43))]; omega
                have R2 := RC ((b : Int) + 1 + 1) hcv.symm
                rw [hcv] at q
                have e3 := eqt h43
                clear hc RC hb2 h43 hcv
                rcases hE with h | h
                · have q1 := eqt h
                  clear h
                  go_enter Try.func11, Try.ntmps11
                  go_wp2_with fail
                  refine C0.mono ?_
                  rintro e w1 ⟨rfl, rfl⟩
                  go_wp2_with fail
                  refine R1.mono ?_
                  rintro e w1 ⟨rfl, rfl⟩
                  go_wp2_with fail
                  refine R2.out.mono ?_
                  rintro e w1 ⟨rfl, rfl⟩
                  go_wp2
                  go_ret
                  exact ⟨ret_b (by rw [HR.out]), rfl⟩
                · have q1 : ((s[b].toNat : Int) == 101) = false := eqf (by omega)
                  have q2 := eqt h
                  clear h
                  go_enter Try.func11, Try.ntmps11
                  go_wp2_with fail
                  refine C0.mono ?_
                  rintro e w1 ⟨rfl, rfl⟩
                  go_wp2_with fail
                  refine R1.mono ?_
                  rintro e w1 ⟨rfl, rfl⟩
                  go_wp2_with fail
                  refine R2.out.mono ?_
                  rintro e w1 ⟨rfl, rfl⟩
                  go_wp2
                  go_ret
                  exact ⟨ret_b (by rw [HR.out]), rfl⟩
              · by_cases h45 : (s[b + 1].toNat : Int) = 45
                · have hcv : (c : Int) = (b : Int) + 1 + 1 := by rw [← hc]; unfold eS; rw [if_pos (.inr (hb2.trans h45))]; omega
                  have R2 := RC ((b : Int) + 1 + 1) hcv.symm
                  rw [hcv] at q
                  have e3 := eqf h43
                  have e4 := eqt h45
                  clear hc RC hb2 h43 h45 hcv
                  rcases hE with h | h
                  · have q1 := eqt h
                    clear h
                    go_enter Try.func11, Try.ntmps11
                    go_wp2_with fail
                    refine C0.mono ?_
                    rintro e w1 ⟨rfl, rfl⟩
                    go_wp2_with fail
                    refine R1.mono ?_
                    rintro e w1 ⟨rfl, rfl⟩
                    go_wp2_with fail
                    refine R2.out.mono ?_
                    rintro e w1 ⟨rfl, rfl⟩
                    go_wp2
                    go_ret
                    exact ⟨ret_b (by rw [HR.out]), rfl⟩
                  · have q1 : ((s[b].toNat : Int) == 101) = false := eqf (by omega)
                    have q2 := eqt h
                    clear h
                    go_enter Try.func11, Try.ntmps11
                    go_wp2_with fail
                    refine C0.mono ?_
                    rintro e w1 ⟨rfl, rfl⟩
                    go_wp2_with fail
                    refine R1.mono ?_
                    rintro e w1 ⟨rfl, rfl⟩
                    go_wp2_with fail
                    refine R2.out.mono ?_
                    rintro e w1 ⟨rfl, rfl⟩
                    go_wp2
                    go_ret
                    exact ⟨ret_b (by rw [HR.out]), rfl⟩
                · have hcv : (c : Int) = (b : Int) + 1 := by rw [← hc]; unfold eS; rw [if_neg (by rw [hb2]; exact fun x => x.elim h43 h45)]; omega
                  have R2 := RC ((b : Int) + 1) hcv.symm
                  rw [hcv] at q
                  have e3 := eqf h43
                  have e4 := eqf h45
                  clear hc RC hb2 h43 h45 hcv
                  rcases hE with h | h
                  · have q1 := eqt h
                    clear h
                    go_enter Try.func11, Try.ntmps11
                    go_wp2_with fail
                    refine C0.mono ?_
                    rintro e w1 ⟨rfl, rfl⟩
                    go_wp2_with fail
                    refine R1.mono ?_
                    rintro e w1 ⟨rfl, rfl⟩
                    go_wp2_with fail
                    refine R2.out.mono ?_
                    rintro e w1 ⟨rfl, rfl⟩
                    go_wp2
                    go_ret
                    exact ⟨ret_b (by rw [HR.out]), rfl⟩
                  · have q1 : ((s[b].toNat : Int) == 101) = false := eqf (by omega)
                    have q2 := eqt h
                    clear h
                    go_enter Try.func11, Try.ntmps11
                    go_wp2_with fail
                    refine C0.mono ?_
                    rintro e w1 ⟨rfl, rfl⟩
                    go_wp2_with fail
                    refine R1.mono ?_
                    rintro e w1 ⟨rfl, rfl⟩
                    go_wp2_with fail
                    refine R2.out.mono ?_
                    rintro e w1 ⟨rfl, rfl⟩
                    go_wp2
                    go_ret
                    exact ⟨ret_b (by rw [HR.out]), rfl⟩
            · have hi2 : ¬ (b : Int) + 1 < (s.size : Int) := by omega
              have hcv : (c : Int) = (b : Int) + 1 := by rw [← hc]; unfold eS; rw [if_neg (by rw [bt_out s (b + 1) (by omega)]; decide)]; omega
              have R2 := RC ((b : Int) + 1) hcv.symm
              rw [hcv] at q
              clear hc RC hcv
              rcases hE with h | h
              · have q1 := eqt h
                clear h
                go_enter Try.func11, Try.ntmps11
                go_wp2_with fail
                refine C0.mono ?_
                rintro e w1 ⟨rfl, rfl⟩
                go_wp2_with fail
                refine R1.mono ?_
                rintro e w1 ⟨rfl, rfl⟩
                go_wp2_with fail
                refine R2.out.mono ?_
                rintro e w1 ⟨rfl, rfl⟩
                go_wp2
                go_ret
                exact ⟨ret_b (by rw [HR.out]), rfl⟩
              · have q1 : ((s[b].toNat : Int) == 101) = false := eqf (by omega)
                have q2 := eqt h
                clear h
                go_enter Try.func11, Try.ntmps11
                go_wp2_with fail
                refine C0.mono ?_
                rintro e w1 ⟨rfl, rfl⟩
                go_wp2_with fail
                refine R1.mono ?_
                rintro e w1 ⟨rfl, rfl⟩
                go_wp2_with fail
                refine R2.out.mono ?_
                rintro e w1 ⟨rfl, rfl⟩
                go_wp2
                go_ret
                exact ⟨ret_b (by rw [HR.out]), rfl⟩
          · have HR : Hid (fOk s = ((r : Int) == (s.size : Int))) := by show _ = _; rw [HF.out, HAE.out, if_neg hrc]; exact dec_int r s.size
            have q : ((r : Int) == (c : Int)) = false := eqf (by omega)
            clear hrc HAE HF
            by_cases h2 : b + 1 < s.size
            · have hi2 : (b : Int) + 1 < (s.size : Int) := by omega
              have hi3 : (0 : Int) ≤ (b : Int) + 1 := by omega
              have hb2 := bt_at s (b + 1) h2
              by_cases h43 : (s[b + 1].toNat : Int) = 43
              · have hcv : (c : Int) = (b : Int) + 1 + 1 := by rw [← hc]; unfold eS; rw [if_pos (.inl (hb2.trans h43))]; omega
                have R2 := RC ((b : Int) + 1 + 1) hcv.symm
                rw [hcv] at q
                have e3 := eqt h43
                clear hc RC hb2 h43 hcv
                rcases hE with h | h
                · have q1 := eqt h
                  clear h
                  go_enter Try.func11, Try.ntmps11
                  go_wp2_with fail
                  refine C0.mono ?_
                  rintro e w1 ⟨rfl, rfl⟩
                  go_wp2_with fail
                  refine R1.mono ?_
                  rintro e w1 ⟨rfl, rfl⟩
                  go_wp2_with fail
                  refine R2.out.mono ?_
                  rintro e w1 ⟨rfl, rfl⟩
                  go_wp2
                  go_ret
                  exact ⟨ret_b (by rw [HR.out]), rfl⟩
                · have q1 : ((s[b].toNat : Int) == 101) = false := eqf (by omega)
                  have q2 := eqt h
                  clear h
                  go_enter Try.func11, Try.ntmps11
                  go_wp2_with fail
                  refine C0.mono ?_
                  rintro e w1 ⟨rfl, rfl⟩
                  go_wp2_with fail
                  refine R1.mono ?_
                  rintro e w1 ⟨rfl, rfl⟩
                  go_wp2_with fail
                  refine R2.out.mono ?_
                  rintro e w1 ⟨rfl, rfl⟩
                  go_wp2
                  go_ret
                  exact ⟨ret_b (by rw [HR.out]), rfl⟩
              · by_cases h45 : (s[b + 1].toNat : Int) = 45
                · have hcv : (c : Int) = (b : Int) + 1 + 1 := by rw [← hc]; unfold eS; rw [if_pos (.inr (hb2.trans h45))]; omega
                  have R2 := RC ((b : Int) + 1 + 1) hcv.symm
                  rw [hcv] at q
                  have e3 := eqf h43
                  have e4 := eqt h45
                  clear hc RC hb2 h43 h45 hcv
                  rcases hE with h | h
                  · have q1 := eqt h
                    clear h
                    go_enter Try.func11, Try.ntmps11
                    go_wp2_with fail
                    refine C0.mono ?_
                    rintro e w1 ⟨rfl, rfl⟩
                    go_wp2_with fail
                    refine R1.mono ?_
                    rintro e w1 ⟨rfl, rfl⟩
                    go_wp2_with fail
                    refine R2.out.mono ?_
                    rintro e w1 ⟨rfl, rfl⟩
                    go_wp2
                    go_ret
                    exact ⟨ret_b (by rw [HR.out]), rfl⟩
                  · have q1 : ((s[b].toNat : Int) == 101) = false := eqf (by omega)
                    have q2 := eqt h
                    clear h
                    go_enter Try.func11, Try.ntmps11
                    go_wp2_with fail
                    refine C0.mono ?_
                    rintro e w1 ⟨rfl, rfl⟩
                    go_wp2_with fail
                    refine R1.mono ?_
                    rintro e w1 ⟨rfl, rfl⟩
                    go_wp2_with fail
                    refine R2.out.mono ?_
                    rintro e w1 ⟨rfl, rfl⟩
                    go_wp2
                    go_ret
                    exact ⟨ret_b (by rw [HR.out]), rfl⟩
                · have hcv : (c : Int) = (b : Int) + 1 := by rw [← hc]; unfold eS; rw [if_neg (by rw [hb2]; exact fun x => x.elim h43 h45)]; omega
                  have R2 := RC ((b : Int) + 1) hcv.symm
                  rw [hcv] at q
                  have e3 := eqf h43
                  have e4 := eqf h45
                  clear hc RC hb2 h43 h45 hcv
                  rcases hE with h | h
                  · have q1 := eqt h
                    clear h
                    go_enter Try.func11, Try.ntmps11
                    go_wp2_with fail
                    refine C0.mono ?_
                    rintro e w1 ⟨rfl, rfl⟩
                    go_wp2_with fail
                    refine R1.mono ?_
                    rintro e w1 ⟨rfl, rfl⟩
                    go_wp2_with fail
                    refine R2.out.mono ?_
                    rintro e w1 ⟨rfl, rfl⟩
                    go_wp2
                    go_ret
                    exact ⟨ret_b (by rw [HR.out]), rfl⟩
                  · have q1 : ((s[b].toNat : Int) == 101) = false := eqf (by omega)
                    have q2 := eqt h
                    clear h
                    go_enter Try.func11, Try.ntmps11
                    go_wp2_with fail
                    refine C0.mono ?_
                    rintro e w1 ⟨rfl, rfl⟩
                    go_wp2_with fail
                    refine R1.mono ?_
                    rintro e w1 ⟨rfl, rfl⟩
                    go_wp2_with fail
                    refine R2.out.mono ?_
                    rintro e w1 ⟨rfl, rfl⟩
                    go_wp2
                    go_ret
                    exact ⟨ret_b (by rw [HR.out]), rfl⟩
            · have hi2 : ¬ (b : Int) + 1 < (s.size : Int) := by omega
              have hcv : (c : Int) = (b : Int) + 1 := by rw [← hc]; unfold eS; rw [if_neg (by rw [bt_out s (b + 1) (by omega)]; decide)]; omega
              have R2 := RC ((b : Int) + 1) hcv.symm
              rw [hcv] at q
              clear hc RC hcv
              rcases hE with h | h
              · have q1 := eqt h
                clear h
                go_enter Try.func11, Try.ntmps11
                go_wp2_with fail
                refine C0.mono ?_
                rintro e w1 ⟨rfl, rfl⟩
                go_wp2_with fail
                refine R1.mono ?_
                rintro e w1 ⟨rfl, rfl⟩
                go_wp2_with fail
                refine R2.out.mono ?_
                rintro e w1 ⟨rfl, rfl⟩
                go_wp2
                go_ret
                exact ⟨ret_b (by rw [HR.out]), rfl⟩
              · have q1 : ((s[b].toNat : Int) == 101) = false := eqf (by omega)
                have q2 := eqt h
                clear h
                go_enter Try.func11, Try.ntmps11
                go_wp2_with fail
                refine C0.mono ?_
                rintro e w1 ⟨rfl, rfl⟩
                go_wp2_with fail
                refine R1.mono ?_
                rintro e w1 ⟨rfl, rfl⟩
                go_wp2_with fail
                refine R2.out.mono ?_
                rintro e w1 ⟨rfl, rfl⟩
                go_wp2
                go_ret
                exact ⟨ret_b (by rw [HR.out]), rfl⟩
        · have HR : Hid (fOk s = false) := by show _ = _; rw [HF.out]; unfold aE; rw [if_neg (by rw [hbb]; exact hE)]; exact decide_eq_false (by omega)
          have q1 : ((s[b].toNat : Int) == 101) = false := eqf (by omega)
          have q2 : ((s[b].toNat : Int) == 69) = false := eqf (by omega)
          have q3 : ((b : Int) == (s.size : Int)) = false := eqf (by omega)
          clear hbb hE HF
          go_enter Try.func11, Try.ntmps11
          go_wp2_with fail
          refine C0.mono ?_
          rintro e w1 ⟨rfl, rfl⟩
          go_wp2_with fail
          refine R1.mono ?_
          rintro e w1 ⟨rfl, rfl⟩
          go_wp2
          go_ret
          exact ⟨ret_b (by rw [HR.out]), rfl⟩
      · have hi1 : ¬ (b : Int) < (s.size : Int) := by omega
        have HR : Hid (fOk s = true) := by show _ = _; rw [HF.out]; unfold aE; rw [if_neg (by rw [bt_out s b (by omega)]; decide)]; exact decide_eq_true (by omega)
        have q3 : ((b : Int) == (s.size : Int)) = true := eqt (by omega)
        clear HF
        go_enter Try.func11, Try.ntmps11
        go_wp2_with fail
        refine C0.mono ?_
        rintro e w1 ⟨rfl, rfl⟩
        go_wp2_with fail
        refine R1.mono ?_
        rintro e w1 ⟨rfl, rfl⟩
        go_wp2
        go_ret
        exact ⟨ret_b (by rw [HR.out]), rfl⟩
  · have HF : Hid (fOk s = decide (aE s a = s.size)) := by show _ = _; rw [HF.out]; unfold aF; rw [if_neg (by rw [hba]; exact h46)]
    have p46 := eqf h46
    obtain ⟨b, hb⟩ : ∃ b, a = b := ⟨_, rfl⟩
    subst hb
    rename Nat => b
    have hbs : b ≤ s.size := has
    clear h46 hba h0 h1 ha1 ha0
    by_cases hlt : b < s.size
    · have hi0 : (0 : Int) ≤ (b : Int) := by omega
      have hi1 : (b : Int) < (s.size : Int) := by omega
      have hbb := bt_at s b hlt
      by_cases hE : (s[b].toNat : Int) = 101 ∨ (s[b].toNat : Int) = 69
      · have HAE : Hid (aE s b = if run s (eS s b) = eS s b then b else run s (eS s b)) := by show _ = _; unfold aE; rw [if_pos (by rw [hbb]; exact hE)]
        have hes := eS_size s b hlt
        obtain ⟨c, hc⟩ : ∃ c, eS s b = c := ⟨_, rfl⟩
        rw [hc] at HAE hes
        obtain ⟨r, hr⟩ : ∃ r, run s c = r := ⟨_, rfl⟩
        have R := runS s c w hs hes
        rw [hr] at R HAE
        have RC : ∀ (x : Int), x = (c : Int) → Hid (Calls Try.prog 21 #[.string s, .int .i64 x] w fun e w' => e = .returned (.int .i64 (r : Int)) ∧ w = w') := fun x hx => by subst hx; exact R
        have hrs : r ≤ s.size := by rw [← hr]; exact run_size s c hes
        clear hbb R hr
        by_cases hrc : r = c
        · have HR : Hid (fOk s = false) := by show _ = _; rw [HF.out, HAE.out, if_pos hrc]; exact decide_eq_false (by omega)
          have q : ((r : Int) == (c : Int)) = true := eqt (by omega)
          clear hrc HAE HF
          by_cases h2 : b + 1 < s.size
          · have hi2 : (b : Int) + 1 < (s.size : Int) := by omega
            have hi3 : (0 : Int) ≤ (b : Int) + 1 := by omega
            have hb2 := bt_at s (b + 1) h2
            by_cases h43 : (s[b + 1].toNat : Int) = 43
            · have hcv : (c : Int) = (b : Int) + 1 + 1 := by rw [← hc]; unfold eS; rw [if_pos (.inl (hb2.trans h43))]; omega
              have R2 := RC ((b : Int) + 1 + 1) hcv.symm
              rw [hcv] at q
              have e3 := eqt h43
              clear hc RC hb2 h43 hcv
              rcases hE with h | h
              · have q1 := eqt h
                clear h
                go_enter Try.func11, Try.ntmps11
                go_wp2_with fail
                refine C0.mono ?_
                rintro e w1 ⟨rfl, rfl⟩
                go_wp2_with fail
                refine R2.out.mono ?_
                rintro e w1 ⟨rfl, rfl⟩
                go_wp2
                go_ret
                exact ⟨ret_b (by rw [HR.out]), rfl⟩
              · have q1 : ((s[b].toNat : Int) == 101) = false := eqf (by omega)
                have q2 := eqt h
                clear h
                go_enter Try.func11, Try.ntmps11
                go_wp2_with fail
                refine C0.mono ?_
                rintro e w1 ⟨rfl, rfl⟩
                go_wp2_with fail
                refine R2.out.mono ?_
                rintro e w1 ⟨rfl, rfl⟩
                go_wp2
                go_ret
                exact ⟨ret_b (by rw [HR.out]), rfl⟩
            · by_cases h45 : (s[b + 1].toNat : Int) = 45
              · have hcv : (c : Int) = (b : Int) + 1 + 1 := by rw [← hc]; unfold eS; rw [if_pos (.inr (hb2.trans h45))]; omega
                have R2 := RC ((b : Int) + 1 + 1) hcv.symm
                rw [hcv] at q
                have e3 := eqf h43
                have e4 := eqt h45
                clear hc RC hb2 h43 h45 hcv
                rcases hE with h | h
                · have q1 := eqt h
                  clear h
                  go_enter Try.func11, Try.ntmps11
                  go_wp2_with fail
                  refine C0.mono ?_
                  rintro e w1 ⟨rfl, rfl⟩
                  go_wp2_with fail
                  refine R2.out.mono ?_
                  rintro e w1 ⟨rfl, rfl⟩
                  go_wp2
                  go_ret
                  exact ⟨ret_b (by rw [HR.out]), rfl⟩
                · have q1 : ((s[b].toNat : Int) == 101) = false := eqf (by omega)
                  have q2 := eqt h
                  clear h
                  go_enter Try.func11, Try.ntmps11
                  go_wp2_with fail
                  refine C0.mono ?_
                  rintro e w1 ⟨rfl, rfl⟩
                  go_wp2_with fail
                  refine R2.out.mono ?_
                  rintro e w1 ⟨rfl, rfl⟩
                  go_wp2
                  go_ret
                  exact ⟨ret_b (by rw [HR.out]), rfl⟩
              · have hcv : (c : Int) = (b : Int) + 1 := by rw [← hc]; unfold eS; rw [if_neg (by rw [hb2]; exact fun x => x.elim h43 h45)]; omega
                have R2 := RC ((b : Int) + 1) hcv.symm
                rw [hcv] at q
                have e3 := eqf h43
                have e4 := eqf h45
                clear hc RC hb2 h43 h45 hcv
                rcases hE with h | h
                · have q1 := eqt h
                  clear h
                  go_enter Try.func11, Try.ntmps11
                  go_wp2_with fail
                  refine C0.mono ?_
                  rintro e w1 ⟨rfl, rfl⟩
                  go_wp2_with fail
                  refine R2.out.mono ?_
                  rintro e w1 ⟨rfl, rfl⟩
                  go_wp2
                  go_ret
                  exact ⟨ret_b (by rw [HR.out]), rfl⟩
                · have q1 : ((s[b].toNat : Int) == 101) = false := eqf (by omega)
                  have q2 := eqt h
                  clear h
                  go_enter Try.func11, Try.ntmps11
                  go_wp2_with fail
                  refine C0.mono ?_
                  rintro e w1 ⟨rfl, rfl⟩
                  go_wp2_with fail
                  refine R2.out.mono ?_
                  rintro e w1 ⟨rfl, rfl⟩
                  go_wp2
                  go_ret
                  exact ⟨ret_b (by rw [HR.out]), rfl⟩
          · have hi2 : ¬ (b : Int) + 1 < (s.size : Int) := by omega
            have hcv : (c : Int) = (b : Int) + 1 := by rw [← hc]; unfold eS; rw [if_neg (by rw [bt_out s (b + 1) (by omega)]; decide)]; omega
            have R2 := RC ((b : Int) + 1) hcv.symm
            rw [hcv] at q
            clear hc RC hcv
            rcases hE with h | h
            · have q1 := eqt h
              clear h
              go_enter Try.func11, Try.ntmps11
              go_wp2_with fail
              refine C0.mono ?_
              rintro e w1 ⟨rfl, rfl⟩
              go_wp2_with fail
              refine R2.out.mono ?_
              rintro e w1 ⟨rfl, rfl⟩
              go_wp2
              go_ret
              exact ⟨ret_b (by rw [HR.out]), rfl⟩
            · have q1 : ((s[b].toNat : Int) == 101) = false := eqf (by omega)
              have q2 := eqt h
              clear h
              go_enter Try.func11, Try.ntmps11
              go_wp2_with fail
              refine C0.mono ?_
              rintro e w1 ⟨rfl, rfl⟩
              go_wp2_with fail
              refine R2.out.mono ?_
              rintro e w1 ⟨rfl, rfl⟩
              go_wp2
              go_ret
              exact ⟨ret_b (by rw [HR.out]), rfl⟩
        · have HR : Hid (fOk s = ((r : Int) == (s.size : Int))) := by show _ = _; rw [HF.out, HAE.out, if_neg hrc]; exact dec_int r s.size
          have q : ((r : Int) == (c : Int)) = false := eqf (by omega)
          clear hrc HAE HF
          by_cases h2 : b + 1 < s.size
          · have hi2 : (b : Int) + 1 < (s.size : Int) := by omega
            have hi3 : (0 : Int) ≤ (b : Int) + 1 := by omega
            have hb2 := bt_at s (b + 1) h2
            by_cases h43 : (s[b + 1].toNat : Int) = 43
            · have hcv : (c : Int) = (b : Int) + 1 + 1 := by rw [← hc]; unfold eS; rw [if_pos (.inl (hb2.trans h43))]; omega
              have R2 := RC ((b : Int) + 1 + 1) hcv.symm
              rw [hcv] at q
              have e3 := eqt h43
              clear hc RC hb2 h43 hcv
              rcases hE with h | h
              · have q1 := eqt h
                clear h
                go_enter Try.func11, Try.ntmps11
                go_wp2_with fail
                refine C0.mono ?_
                rintro e w1 ⟨rfl, rfl⟩
                go_wp2_with fail
                refine R2.out.mono ?_
                rintro e w1 ⟨rfl, rfl⟩
                go_wp2
                go_ret
                exact ⟨ret_b (by rw [HR.out]), rfl⟩
              · have q1 : ((s[b].toNat : Int) == 101) = false := eqf (by omega)
                have q2 := eqt h
                clear h
                go_enter Try.func11, Try.ntmps11
                go_wp2_with fail
                refine C0.mono ?_
                rintro e w1 ⟨rfl, rfl⟩
                go_wp2_with fail
                refine R2.out.mono ?_
                rintro e w1 ⟨rfl, rfl⟩
                go_wp2
                go_ret
                exact ⟨ret_b (by rw [HR.out]), rfl⟩
            · by_cases h45 : (s[b + 1].toNat : Int) = 45
              · have hcv : (c : Int) = (b : Int) + 1 + 1 := by rw [← hc]; unfold eS; rw [if_pos (.inr (hb2.trans h45))]; omega
                have R2 := RC ((b : Int) + 1 + 1) hcv.symm
                rw [hcv] at q
                have e3 := eqf h43
                have e4 := eqt h45
                clear hc RC hb2 h43 h45 hcv
                rcases hE with h | h
                · have q1 := eqt h
                  clear h
                  go_enter Try.func11, Try.ntmps11
                  go_wp2_with fail
                  refine C0.mono ?_
                  rintro e w1 ⟨rfl, rfl⟩
                  go_wp2_with fail
                  refine R2.out.mono ?_
                  rintro e w1 ⟨rfl, rfl⟩
                  go_wp2
                  go_ret
                  exact ⟨ret_b (by rw [HR.out]), rfl⟩
                · have q1 : ((s[b].toNat : Int) == 101) = false := eqf (by omega)
                  have q2 := eqt h
                  clear h
                  go_enter Try.func11, Try.ntmps11
                  go_wp2_with fail
                  refine C0.mono ?_
                  rintro e w1 ⟨rfl, rfl⟩
                  go_wp2_with fail
                  refine R2.out.mono ?_
                  rintro e w1 ⟨rfl, rfl⟩
                  go_wp2
                  go_ret
                  exact ⟨ret_b (by rw [HR.out]), rfl⟩
              · have hcv : (c : Int) = (b : Int) + 1 := by rw [← hc]; unfold eS; rw [if_neg (by rw [hb2]; exact fun x => x.elim h43 h45)]; omega
                have R2 := RC ((b : Int) + 1) hcv.symm
                rw [hcv] at q
                have e3 := eqf h43
                have e4 := eqf h45
                clear hc RC hb2 h43 h45 hcv
                rcases hE with h | h
                · have q1 := eqt h
                  clear h
                  go_enter Try.func11, Try.ntmps11
                  go_wp2_with fail
                  refine C0.mono ?_
                  rintro e w1 ⟨rfl, rfl⟩
                  go_wp2_with fail
                  refine R2.out.mono ?_
                  rintro e w1 ⟨rfl, rfl⟩
                  go_wp2
                  go_ret
                  exact ⟨ret_b (by rw [HR.out]), rfl⟩
                · have q1 : ((s[b].toNat : Int) == 101) = false := eqf (by omega)
                  have q2 := eqt h
                  clear h
                  go_enter Try.func11, Try.ntmps11
                  go_wp2_with fail
                  refine C0.mono ?_
                  rintro e w1 ⟨rfl, rfl⟩
                  go_wp2_with fail
                  refine R2.out.mono ?_
                  rintro e w1 ⟨rfl, rfl⟩
                  go_wp2
                  go_ret
                  exact ⟨ret_b (by rw [HR.out]), rfl⟩
          · have hi2 : ¬ (b : Int) + 1 < (s.size : Int) := by omega
            have hcv : (c : Int) = (b : Int) + 1 := by rw [← hc]; unfold eS; rw [if_neg (by rw [bt_out s (b + 1) (by omega)]; decide)]; omega
            have R2 := RC ((b : Int) + 1) hcv.symm
            rw [hcv] at q
            clear hc RC hcv
            rcases hE with h | h
            · have q1 := eqt h
              clear h
              go_enter Try.func11, Try.ntmps11
              go_wp2_with fail
              refine C0.mono ?_
              rintro e w1 ⟨rfl, rfl⟩
              go_wp2_with fail
              refine R2.out.mono ?_
              rintro e w1 ⟨rfl, rfl⟩
              go_wp2
              go_ret
              exact ⟨ret_b (by rw [HR.out]), rfl⟩
            · have q1 : ((s[b].toNat : Int) == 101) = false := eqf (by omega)
              have q2 := eqt h
              clear h
              go_enter Try.func11, Try.ntmps11
              go_wp2_with fail
              refine C0.mono ?_
              rintro e w1 ⟨rfl, rfl⟩
              go_wp2_with fail
              refine R2.out.mono ?_
              rintro e w1 ⟨rfl, rfl⟩
              go_wp2
              go_ret
              exact ⟨ret_b (by rw [HR.out]), rfl⟩
      · have HR : Hid (fOk s = false) := by show _ = _; rw [HF.out]; unfold aE; rw [if_neg (by rw [hbb]; exact hE)]; exact decide_eq_false (by omega)
        have q1 : ((s[b].toNat : Int) == 101) = false := eqf (by omega)
        have q2 : ((s[b].toNat : Int) == 69) = false := eqf (by omega)
        have q3 : ((b : Int) == (s.size : Int)) = false := eqf (by omega)
        clear hbb hE HF
        go_enter Try.func11, Try.ntmps11
        go_wp2_with fail
        refine C0.mono ?_
        rintro e w1 ⟨rfl, rfl⟩
        go_wp2
        go_ret
        exact ⟨ret_b (by rw [HR.out]), rfl⟩
    · exact absurd hlta hlt
end Go.Proofs.Ytmjmopdajlnkjaa
