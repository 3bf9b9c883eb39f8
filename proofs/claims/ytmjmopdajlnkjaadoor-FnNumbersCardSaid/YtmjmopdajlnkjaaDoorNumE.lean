/- What is proved: what IntOk and FloatOk of the program answer at every text: two plain functions of its bytes; nothing is written. Used by the proofs of FnExactIntOk, FnExactFloatOk, FnExactFits32 and FnNumbers. -/
import Derived.Test.YtmjmopdajlnkjaaDoorNumD
import Derived.WalkMore
import Derived.ScopeJumps
namespace Go.Proofs.YtmjmopdajlnkjaaDoor
open Go.RowKit

theorem empty_not {s : ByteArray} (h : 0 < s.size) : s.toList.isEmpty = false := by
  rw [ByteArray.toList_eq]
  cases hl : s.data.toList with
  | nil =>
    have h2 : s.data.toList.length = s.size := by rw [Array.length_toList]; rfl
    rw [hl] at h2
    simp at h2
    omega
  | cons _ _ => rfl

set_option maxHeartbeats 1600000 in
theorem aWI (s : ByteArray) (w : World) (hs : s.size ≤ 1048576) :
    Calls Tryd.prog 25 #[.string s] w fun e w' => e = .returned (.int .i64 (aW s : Int)) ∧ w = w' := by
  by_cases h00 : s.size = 0
  · obtain rfl : s = ⟨#[]⟩ := by
      apply ByteArray.ext
      exact Array.eq_empty_of_size_eq_zero h00
    clear h00
    have HC : Hid (∀ W : World, Calls Tryd.prog 31 #[.string ⟨#[]⟩, .int .i64 0] W fun e w' => e = .returned (.int .i64 0) ∧ W = w') := fun W => by
      have h := runI ⟨#[]⟩ 0 W hs (Nat.zero_le _)
      rw [show run ⟨#[]⟩ 0 = 0 from run_out (Nat.le_refl _)] at h
      exact h
    have HR : Hid (aW ⟨#[]⟩ = 0) := by
      have : fst ⟨#[]⟩ = 0 := fst_no (by decide)
      exact aW_a (by rw [this]; exact run_out (Nat.le_refl _))
    go_enter Tryd.func25, Tryd.ntmps25
    go_wp2_with (go_at_call 31; refine (HC.out _).mono ?_; rintro e w1 ⟨rfl, rfl⟩)
    go_ret
    exact ⟨ret_i (by rw [HR.out]; rfl), rfl⟩
  have h0 : 0 < s.size := by omega
  have he := empty_not h0
  have hp : (0 : Int) < (s.size : Int) := by omega
  have hb := bt_at s 0 h0
  clear h00
  obtain ⟨f, hf⟩ : ∃ f, fst s = f := ⟨_, rfl⟩
  obtain ⟨r, hr⟩ : ∃ r, run s f = r := ⟨_, rfl⟩
  have hfs : f ≤ s.size := by rw [← hf]; exact fst_le s
  have hrs : r ≤ s.size := by rw [← hr]; exact run_size s f hfs
  have CR : ∀ W : World, Calls Tryd.prog 31 #[.string s, .int .i64 (f : Int)] W fun e w' => e = .returned (.int .i64 (r : Int)) ∧ W = w' := fun W => by
    rw [← hr]; exact runI s f W hs hfs
  have HC := Lib.hid CR
  clear CR
  have HFST := Lib.hid hf
  have HRUN := Lib.hid hr
  by_cases hne : r = f
  · have HR : Hid (aW s = 0) := aW_a (by rw [HFST.out, HRUN.out]; exact hne)
    have e1 : ((r : Int) == (f : Int)) = true := eqt (by omega)
    clear hr hf hne
    by_cases h45 : (s[0].toNat : Int) = 45
    · obtain rfl : f = 1 := by rw [← HFST.out]; exact fst_yes (hb.trans h45)
      have e2 := eqt h45
      clear hb h45
      have g1 : ((r : Int) == 1) = true := e1
      clear e1
      go_enter Tryd.func25, Tryd.ntmps25
      go_wp2_with (go_at_call 31; refine (HC.out _).mono ?_; rintro e w1 ⟨rfl, rfl⟩)
      go_ret
      exact ⟨ret_i (by rw [HR.out]; rfl), rfl⟩
    · obtain rfl : f = 0 := by rw [← HFST.out]; exact fst_no (by rw [hb]; exact h45)
      have e2 := eqf h45
      clear hb h45
      have g1 : ((r : Int) == 0) = true := e1
      clear e1
      go_enter Tryd.func25, Tryd.ntmps25
      go_wp2_with (go_at_call 31; refine (HC.out _).mono ?_; rintro e w1 ⟨rfl, rfl⟩)
      go_ret
      exact ⟨ret_i (by rw [HR.out]; rfl), rfl⟩
  · have hlt : f < s.size := run_first s f (by rw [hr]; exact hne)
    have e1 : ((r : Int) == (f : Int)) = false := eqf (by omega)
    have hbf := bt_at s f hlt
    have HNE : Hid (¬ run s (fst s) = fst s) := fun x => hne (by rw [← HRUN.out, ← HFST.out]; exact x)
    have HBF : Hid (bt s (fst s) = (s[f].toNat : Int)) := by show _ = _; rw [HFST.out]; exact hbf
    clear hr hf hne hbf
    have HRR : Hid (run s (fst s) = r) := by show _ = _; rw [HFST.out]; exact HRUN.out
    by_cases h48 : (s[f].toNat : Int) = 48
    · have e3 := eqt h48
      have HR : Hid (aW s = f + 1) := by show _ = _; rw [aW_b HNE.out (HBF.out.trans h48), HFST.out]
      clear h48
      by_cases h45 : (s[0].toNat : Int) = 45
      · obtain rfl : f = 1 := by rw [← HFST.out]; exact fst_yes (hb.trans h45)
        have e2 := eqt h45
        clear hb h45
        have g1 : ((r : Int) == 1) = false := e1
        clear e1
        have g3 : (1 : Int) < (s.size : Int) := by omega
        go_enter Tryd.func25, Tryd.ntmps25
        go_wp2_with (go_at_call 31; refine (HC.out _).mono ?_; rintro e w1 ⟨rfl, rfl⟩)
        go_ret
        exact ⟨ret_i (by rw [HR.out]; rfl), rfl⟩
      · obtain rfl : f = 0 := by rw [← HFST.out]; exact fst_no (by rw [hb]; exact h45)
        have e2 := eqf h45
        clear hb h45
        have g1 : ((r : Int) == 0) = false := e1
        clear e1
        have g3 : (0 : Int) < (s.size : Int) := by omega
        go_enter Tryd.func25, Tryd.ntmps25
        go_wp2_with (go_at_call 31; refine (HC.out _).mono ?_; rintro e w1 ⟨rfl, rfl⟩)
        go_ret
        exact ⟨ret_i (by rw [HR.out]; rfl), rfl⟩
    · have e3 := eqf h48
      have HR : Hid (aW s = r) := by
        show _ = _
        rw [aW_c HNE.out (fun x => h48 (by rw [← HBF.out]; exact x)), HRR.out]
      clear h48
      by_cases h45 : (s[0].toNat : Int) = 45
      · obtain rfl : f = 1 := by rw [← HFST.out]; exact fst_yes (hb.trans h45)
        have e2 := eqt h45
        clear hb h45
        have g1 : ((r : Int) == 1) = false := e1
        clear e1
        have g3 : (1 : Int) < (s.size : Int) := by omega
        go_enter Tryd.func25, Tryd.ntmps25
        go_wp2_with (go_at_call 31; refine (HC.out _).mono ?_; rintro e w1 ⟨rfl, rfl⟩)
        go_ret
        exact ⟨ret_i (by rw [HR.out]), rfl⟩
      · obtain rfl : f = 0 := by rw [← HFST.out]; exact fst_no (by rw [hb]; exact h45)
        have e2 := eqf h45
        clear hb h45
        have g1 : ((r : Int) == 0) = false := e1
        clear e1
        have g3 : (0 : Int) < (s.size : Int) := by omega
        go_enter Tryd.func25, Tryd.ntmps25
        go_wp2_with (go_at_call 31; refine (HC.out _).mono ?_; rintro e w1 ⟨rfl, rfl⟩)
        go_ret
        exact ⟨ret_i (by rw [HR.out]), rfl⟩

theorem orI (s : ByteArray) (k : Nat) (o : Int) (w : World) (hs : s.size ≤ 1048576) (hk : k ≤ s.size) :
    Calls Tryd.prog 32 #[.string s, .int .i64 (k : Int), .int .i64 o] w fun e w' => e = .returned (.int .i64 (if run s k = k then o else (run s k : Int))) ∧ w = w' := by
  have C := runI s k w hs hk
  obtain ⟨r, hr⟩ : ∃ r, run s k = r := ⟨_, rfl⟩
  rw [hr] at C ⊢
  clear hr
  by_cases h : r = k
  · rw [if_pos h]
    have e1 : ((r : Int) == (k : Int)) = true := eqt (by omega)
    clear h
    go_enter Tryd.func32, Tryd.ntmps32
    go_wp2_with (go_at_call 31; refine C.mono ?_; rintro e w1 ⟨rfl, rfl⟩)
    go_ret
    exact ⟨rfl, rfl⟩
  · rw [if_neg h]
    have e1 : ((r : Int) == (k : Int)) = false := eqf (by omega)
    clear h
    go_enter Tryd.func32, Tryd.ntmps32
    go_wp2_with (go_at_call 31; refine C.mono ?_; rintro e w1 ⟨rfl, rfl⟩)
    go_ret
    exact ⟨rfl, rfl⟩
theorem if_int {p : Prop} [Decidable p] (a b : Nat) : (if p then (a : Int) else (b : Int)) = ((if p then a else b : Nat) : Int) := by
  split <;> rfl

theorem aFI (s : ByteArray) (k : Nat) (w : World) (hs : s.size ≤ 1048576) (hk : k ≤ s.size) :
    Calls Tryd.prog 27 #[.string s, .int .i64 (k : Int)] w fun e w' => e = .returned (.int .i64 (aF s k : Int)) ∧ w = w' := by
  by_cases hlt : k < s.size
  · have e1 : ((k : Int) == (s.size : Int)) = false := eqf (by omega)
    have hi0 : (0 : Int) ≤ (k : Int) := by omega
    have hi1 : (k : Int) < (s.size : Int) := by omega
    have hb := bt_at s k hlt
    by_cases h46 : (s[k].toNat : Int) = 46
    · have HR : Hid (aF s k = if run s (k + 1) = k + 1 then k else run s (k + 1)) := by show _ = _; unfold aF; rw [if_pos (hb.trans h46)]
      have C := orI s (k + 1) k w hs hlt
      rw [if_int] at C
      obtain ⟨r, hr⟩ : ∃ r, (if run s (k + 1) = k + 1 then k else run s (k + 1)) = r := ⟨_, rfl⟩
      rw [hr] at C HR
      have C' : Calls Tryd.prog 32 #[.string s, .int .i64 ((k : Int) + 1), .int .i64 (k : Int)] w fun e w' => e = .returned (.int .i64 (r : Int)) ∧ w = w' := C
      have e2 : ((s[k].toNat : Int) != 46) = false := by simpa using h46
      clear hr hb h46 C
      go_enter Tryd.func27, Tryd.ntmps27
      go_wp2_with (go_at_call 32; refine C'.mono ?_; rintro e w1 ⟨rfl, rfl⟩)
      go_ret
      exact ⟨ret_i (by rw [HR.out]), rfl⟩
    · have HR : Hid (aF s k = k) := by show _ = _; unfold aF; rw [if_neg (by rw [hb]; exact h46)]
      have e2 : ((s[k].toNat : Int) != 46) = true := by simpa using h46
      clear hb h46
      go_enter Tryd.func27, Tryd.ntmps27
      go_wp2
      go_ret
      exact ⟨ret_i (by rw [HR.out]), rfl⟩
  · have e1 : ((k : Int) == (s.size : Int)) = true := eqt (by omega)
    have HR : Hid (aF s k = k) := by show _ = _; unfold aF; rw [if_neg (by rw [bt_out s k (by omega)]; decide)]
    go_enter Tryd.func27, Tryd.ntmps27
    go_wp2
    go_ret
    exact ⟨ret_i (by rw [HR.out]), rfl⟩

set_option maxHeartbeats 1600000 in
theorem aEI (s : ByteArray) (k : Nat) (w : World) (hs : s.size ≤ 1048576) (hk : k ≤ s.size) :
    Calls Tryd.prog 26 #[.string s, .int .i64 (k : Int)] w fun e w' => e = .returned (.int .i64 (aE s k : Int)) ∧ w = w' := by
  by_cases hlt : k < s.size
  · have e1 : ((k : Int) == (s.size : Int)) = false := eqf (by omega)
    have hi0 : (0 : Int) ≤ (k : Int) := by omega
    have hi1 : (k : Int) < (s.size : Int) := by omega
    have hb := bt_at s k hlt
    by_cases hE : (s[k].toNat : Int) = 101 ∨ (s[k].toNat : Int) = 69
    · have HR : Hid (aE s k = if run s (eS s k) = eS s k then k else run s (eS s k)) := by show _ = _; unfold aE; rw [if_pos (by rw [hb]; exact hE)]
      have hm : (((s[k].toNat : Int) != 101) && ((s[k].toNat : Int) != 69)) = false := by
        rcases hE with h | h
        · rw [h]; rfl
        · rw [h]; rfl
      have hes : eS s k ≤ s.size := by
        unfold eS
        split
        · next h => have := bt_lt (s := s) (k := k + 1) (by omega); omega
        · omega
      have C := orI s (eS s k) k w hs hes
      rw [if_int] at C
      obtain ⟨r, hr⟩ : ∃ r, (if run s (eS s k) = eS s k then k else run s (eS s k)) = r := ⟨_, rfl⟩
      rw [hr] at C HR
      obtain ⟨c, hc⟩ : ∃ c, eS s k = c := ⟨_, rfl⟩
      rw [hc] at C
      have HC := Lib.hid C
      clear hr hb C hes
      have go : ∀ (x : Int), x = (c : Int) → Hid (Calls Tryd.prog 32 #[.string s, .int .i64 x, .int .i64 (k : Int)] w fun e w' => e = .returned (.int .i64 (r : Int)) ∧ w = w') := fun x hx => by subst hx; exact HC
      by_cases h2 : k + 1 < s.size
      · have hi2 : (k : Int) + 1 < (s.size : Int) := by omega
        have hi3 : (0 : Int) ≤ (k : Int) + 1 := by omega
        have hb2 := bt_at s (k + 1) h2
        by_cases h43 : (s[k + 1].toNat : Int) = 43
        · have D := go ((k : Int) + 1 + 1) (by rw [← hc]; unfold eS; rw [if_pos (.inl (hb2.trans h43))]; omega)
          have e3 := eqt h43
          clear hc go HC hb2 h43
          rcases hE with h | h
          · have q1 : ((s[k].toNat : Int) != 101) = false := by simpa using h
            clear h hm
            go_enter Tryd.func26, Tryd.ntmps26
            go_wp2_with (go_at_call 32; refine D.out.mono ?_; rintro e w1 ⟨rfl, rfl⟩)
            go_ret
            exact ⟨ret_i (by rw [HR.out]), rfl⟩
          · have q1 : ((s[k].toNat : Int) != 101) = true := by simp; omega
            have q2 : ((s[k].toNat : Int) != 69) = false := by simpa using h
            clear h hm
            go_enter Tryd.func26, Tryd.ntmps26
            go_wp2_with (go_at_call 32; refine D.out.mono ?_; rintro e w1 ⟨rfl, rfl⟩)
            go_ret
            exact ⟨ret_i (by rw [HR.out]), rfl⟩
        · by_cases h45 : (s[k + 1].toNat : Int) = 45
          · have D := go ((k : Int) + 1 + 1) (by rw [← hc]; unfold eS; rw [if_pos (.inr (hb2.trans h45))]; omega)
            have e3 := eqf h43
            have e4 := eqt h45
            clear hc go HC hb2 h43 h45
            rcases hE with h | h
            · have q1 : ((s[k].toNat : Int) != 101) = false := by simpa using h
              clear h hm
              go_enter Tryd.func26, Tryd.ntmps26
              go_wp2_with (go_at_call 32; refine D.out.mono ?_; rintro e w1 ⟨rfl, rfl⟩)
              go_ret
              exact ⟨ret_i (by rw [HR.out]), rfl⟩
            · have q1 : ((s[k].toNat : Int) != 101) = true := by simp; omega
              have q2 : ((s[k].toNat : Int) != 69) = false := by simpa using h
              clear h hm
              go_enter Tryd.func26, Tryd.ntmps26
              go_wp2_with (go_at_call 32; refine D.out.mono ?_; rintro e w1 ⟨rfl, rfl⟩)
              go_ret
              exact ⟨ret_i (by rw [HR.out]), rfl⟩
          · have D := go ((k : Int) + 1) (by rw [← hc]; unfold eS; rw [if_neg (by rw [hb2]; exact fun x => x.elim h43 h45)]; omega)
            have e3 := eqf h43
            have e4 := eqf h45
            clear hc go HC hb2 h43 h45
            rcases hE with h | h
            · have q1 : ((s[k].toNat : Int) != 101) = false := by simpa using h
              clear h hm
              go_enter Tryd.func26, Tryd.ntmps26
              go_wp2_with (go_at_call 32; refine D.out.mono ?_; rintro e w1 ⟨rfl, rfl⟩)
              go_ret
              exact ⟨ret_i (by rw [HR.out]), rfl⟩
            · have q1 : ((s[k].toNat : Int) != 101) = true := by simp; omega
              have q2 : ((s[k].toNat : Int) != 69) = false := by simpa using h
              clear h hm
              go_enter Tryd.func26, Tryd.ntmps26
              go_wp2_with (go_at_call 32; refine D.out.mono ?_; rintro e w1 ⟨rfl, rfl⟩)
              go_ret
              exact ⟨ret_i (by rw [HR.out]), rfl⟩
      · have hi2 : ¬ (k : Int) + 1 < (s.size : Int) := by omega
        have D := go ((k : Int) + 1) (by rw [← hc]; unfold eS; rw [if_neg (by rw [bt_out s (k + 1) (by omega)]; decide)]; omega)
        clear hc go HC
        rcases hE with h | h
        · have q1 : ((s[k].toNat : Int) != 101) = false := by simpa using h
          clear h hm
          go_enter Tryd.func26, Tryd.ntmps26
          go_wp2_with (go_at_call 32; refine D.out.mono ?_; rintro e w1 ⟨rfl, rfl⟩)
          go_ret
          exact ⟨ret_i (by rw [HR.out]), rfl⟩
        · have q1 : ((s[k].toNat : Int) != 101) = true := by simp; omega
          have q2 : ((s[k].toNat : Int) != 69) = false := by simpa using h
          clear h hm
          go_enter Tryd.func26, Tryd.ntmps26
          go_wp2_with (go_at_call 32; refine D.out.mono ?_; rintro e w1 ⟨rfl, rfl⟩)
          go_ret
          exact ⟨ret_i (by rw [HR.out]), rfl⟩
    · have HR : Hid (aE s k = k) := by show _ = _; unfold aE; rw [if_neg (by rw [hb]; exact hE)]
      have e2 : ((s[k].toNat : Int) != 101) = true := by simp; omega
      have e3 : ((s[k].toNat : Int) != 69) = true := by simp; omega
      clear hb hE
      go_enter Tryd.func26, Tryd.ntmps26
      go_wp2
      go_ret
      exact ⟨ret_i (by rw [HR.out]), rfl⟩
  · have e1 : ((k : Int) == (s.size : Int)) = true := eqt (by omega)
    have HR : Hid (aE s k = k) := by show _ = _; unfold aE; rw [if_neg (by rw [bt_out s k (by omega)]; decide)]
    go_enter Tryd.func26, Tryd.ntmps26
    go_wp2
    go_ret
    exact ⟨ret_i (by rw [HR.out]), rfl⟩

/-- A scope whose jumps go ahead to a label: what is behind the label is walked at each of them. -/
theorem scope_on {P : Program} {a : Act} {w : World} {Q : Exit → Act → World → Prop} {c rest : Code} (l : Nat) (hf : findLabel c l = some rest)
    (first : c.wp P (Exit.jump l (fun a w => rest.wp P (Exit.noGoto Q) a w) Q) a w) : (Code.scope c).wp P Q a w :=
  wp_scope_jumps l (fun a w => rest.wp P (Exit.noGoto Q) a w) (fun _ _ => 0) hf first (fun _ _ h => wp_mono h (fun e _ _ hq => by cases e <;> first | exact hq | exact hq.elim))

set_option maxHeartbeats 1600000 in
theorem kdI (s : ByteArray) (w : World) (hs : s.size ≤ 1048576) :
    Calls Tryd.prog 19 #[.string s] w fun e w' => e = .returned (.int .i64 (kd s)) ∧ w = w' := by
  by_cases h40 : (40 : Int) < (s.size : Int)
  · have HR : Hid (kd s = 0) := by show _ = _; unfold kd; rw [if_pos (by omega)]
    go_enter Tryd.func19, Tryd.ntmps19
    go_wp2
    refine scope_on 0 rfl ?_
    go_wp2
    go_step3
    refine ⟨rfl, ?_⟩
    go_wp2
    rw [Exit.noGoto_ret]
    go_ret
    exact ⟨ret_i (by rw [HR.out]), rfl⟩
  · have hn : ¬ 40 < s.size := by omega
    have HK : Hid (kd s = if aW s = 0 then 0 else if aW s = s.size then 1 else if aE s (aF s (aW s)) = s.size then 2 else 0) := by show _ = _; unfold kd; rw [if_neg hn]
    have C1 := aWI s w hs
    have hz := aW_size s
    obtain ⟨a, ha⟩ : ∃ a, aW s = a := ⟨_, rfl⟩
    rw [ha] at C1 HK hz
    have C2 := aFI s a w hs hz
    have hz2 := aF_size s a hz
    obtain ⟨b, hb⟩ : ∃ b, aF s a = b := ⟨_, rfl⟩
    rw [hb] at C2 HK hz2
    have C3 := aEI s b w hs hz2
    obtain ⟨c, hc⟩ : ∃ c, aE s b = c := ⟨_, rfl⟩
    rw [hc] at C3 HK
    clear ha hb hc hn
    by_cases h0 : a = 0
    · have e0 : ((a : Int) == 0) = true := eqt (by omega)
      have HR : Hid (kd s = 0) := by show _ = _; rw [HK.out, if_pos h0]
      clear h0
      go_enter Tryd.func19, Tryd.ntmps19
      go_wp2
      refine scope_on 0 rfl ?_
      go_wp2_with (go_at_call 25; refine C1.mono ?_; rintro e w1 ⟨rfl, rfl⟩)
      go_step3
      refine ⟨rfl, ?_⟩
      go_wp2
      rw [Exit.noGoto_ret]
      go_ret
      exact ⟨ret_i (by rw [HR.out]), rfl⟩
    · have e0 : ((a : Int) == 0) = false := eqf (by omega)
      by_cases h1 : a = s.size
      · have e1 : ((a : Int) == (s.size : Int)) = true := eqt (by omega)
        have HR : Hid (kd s = 1) := by show _ = _; rw [HK.out, if_neg h0, if_pos h1]
        clear h0 h1
        go_enter Tryd.func19, Tryd.ntmps19
        go_wp2
        refine scope_on 0 rfl ?_
        go_wp2_with (go_at_call 25; refine C1.mono ?_; rintro e w1 ⟨rfl, rfl⟩)
        go_step3
        refine ⟨rfl, ?_⟩
        go_wp2
        rw [Exit.noGoto_ret]
        go_ret
        exact ⟨ret_i (by rw [HR.out]), rfl⟩
      · have e1 : ((a : Int) == (s.size : Int)) = false := eqf (by omega)
        by_cases h2 : c = s.size
        · have e2 : ((c : Int) == (s.size : Int)) = true := eqt (by omega)
          have HR : Hid (kd s = 2) := by show _ = _; rw [HK.out, if_neg h0, if_neg h1, if_pos h2]
          clear h0 h1 h2
          go_enter Tryd.func19, Tryd.ntmps19
          go_wp2
          refine scope_on 0 rfl ?_
          go_wp2_with fail
          refine C1.mono ?_
          rintro e w1 ⟨rfl, rfl⟩
          go_wp2_with fail
          refine C2.mono ?_
          rintro e w1 ⟨rfl, rfl⟩
          go_wp2_with fail
          refine C3.mono ?_
          rintro e w1 ⟨rfl, rfl⟩
          go_wp2
          go_step3
          go_wp2
          simp only [Exit.jump]
          go_ret
          exact ⟨ret_i (by rw [HR.out]), rfl⟩
        · have e2 : ((c : Int) == (s.size : Int)) = false := eqf (by omega)
          have HR : Hid (kd s = 0) := by show _ = _; rw [HK.out, if_neg h0, if_neg h1, if_neg h2]
          clear h0 h1 h2
          go_enter Tryd.func19, Tryd.ntmps19
          go_wp2
          refine scope_on 0 rfl ?_
          go_wp2_with fail
          refine C1.mono ?_
          rintro e w1 ⟨rfl, rfl⟩
          go_wp2_with fail
          refine C2.mono ?_
          rintro e w1 ⟨rfl, rfl⟩
          go_wp2_with fail
          refine C3.mono ?_
          rintro e w1 ⟨rfl, rfl⟩
          go_wp2
          go_step3
          go_wp2
          simp only [Exit.jump]
          go_ret
          exact ⟨ret_i (by rw [HR.out]), rfl⟩

theorem intI (s : ByteArray) (w : World) (hs : s.size ≤ 1048576) :
    Calls Tryd.prog 9 #[.string s] w fun e w' => e = .returned (.bool (iOk s)) ∧ w = w' := by
  have HK := Lib.hid (kd_int s)
  go_enter Tryd.func9, Tryd.ntmps9
  go_wp2_with (go_at_call 19; refine (kdI s w hs).mono ?_; rintro e w1 ⟨rfl, rfl⟩)
  go_ret
  exact ⟨ret_b HK.out, rfl⟩
theorem floatI (s : ByteArray) (w : World) (hs : s.size ≤ 1048576) :
    Calls Tryd.prog 10 #[.string s] w fun e w' => e = .returned (.bool (fOk s)) ∧ w = w' := by
  have HK := Lib.hid (kd_float s)
  go_enter Tryd.func10, Tryd.ntmps10
  go_wp2_with (go_at_call 19; refine (kdI s w hs).mono ?_; rintro e w1 ⟨rfl, rfl⟩)
  go_ret
  exact ⟨ret_b HK.out, rfl⟩

end Go.Proofs.YtmjmopdajlnkjaaDoor
