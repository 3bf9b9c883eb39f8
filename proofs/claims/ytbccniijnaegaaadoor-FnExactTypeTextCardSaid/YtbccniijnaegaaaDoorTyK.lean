/- What is proved: what TypeOk of the model and of the program answers at every type: the same plain function; nothing that was there is written. Used by the proofs on types. -/
import Derived.Test.YtbccniijnaegaaaDoorTyA
import Derived.Test.YtbccniijnaegaaaDoorTyP
import Derived.Test.YtbccniijnaegaaaDoorNumC
import Derived.Test.YtbccniijnaegaaaDoorTabM
namespace Go.Proofs.YtbccniijnaegaaaDoor
namespace Ty
open Go.RowKit
attribute [local go_sem ↓] Go.wp_at_zero Go.wp_at_succ

/-- A right type. -/
def tOk (n s : ByteArray) : Bool := nOk n && wOk s
theorem below_drew (w : World) : Below w.heap.size w w.drew := ⟨rfl, rfl, rfl, Nat.le_refl _, fun _ _ => rfl⟩
theorem eqt {a b : Int} (h : a = b) : (a == b) = true := by simpa using h
theorem eqf {a b : Int} (h : ¬ a = b) : (a == b) = false := by simpa using h
theorem net {a b : Int} (h : ¬ a = b) : (a != b) = true := by simpa using h
theorem nef {a b : Int} (h : a = b) : (a != b) = false := by simpa using h

theorem okAt_33 {s : ByteArray} {i : Nat} (h : bt s i = 33) (h1 : i = 0 ∨ ¬ bt s (i - 1) = 33) : okAt s i = true := by
  unfold okAt
  rcases h1 with h1 | h1
  · subst h1; simp [h]
  · simp [h, h1]
theorem okAt_33_no {s : ByteArray} {i : Nat} (h : bt s i = 33) (h0 : 0 < i) (h1 : bt s (i - 1) = 33) : okAt s i = false := by
  unfold okAt; simp [h, h1, h0]
theorem okAt_93 {s : ByteArray} {i : Nat} (h : bt s i = 93) : okAt s i = true := by
  unfold okAt; simp [h]
theorem okAt_no {s : ByteArray} {i : Nat} (h : ¬ bt s i = 33) (h1 : ¬ bt s i = 93) : okAt s i = false := by
  unfold okAt; simp [h, h1]

set_option maxHeartbeats 4000000 in
theorem okS (n s : ByteArray) (w : World) (hn : n.size ≤ 1048576) (hs : s.size ≤ 1048576) :
    Calls Tryd.prog 6 #[.agg #[.string n, .string s]] w fun e w' => e = .returned (.bool (tOk n s)) ∧ Below w.heap.size w w' := by
  have ba := below_alloc w (Obj.cells #[Value.string n, Value.string s] 26)
  cases hN : nOk n with
  | false =>
    have HR : Hid (tOk n s = false) := by show _ = _; rw [tOk, hN]; rfl
    go_enter Tryd.func6, Tryd.ntmps6
    go_wp2_with (go_at_call 11; refine (nameS n _ hn).mono ?_; rintro e w1 ⟨rfl, rfl⟩; rw [hN])
    go_ret
    exact ⟨ret_b HR.out.symm, ba⟩
  | true =>
    by_cases h8 : 8 < (s.size : Int)
    · have HR : Hid (tOk n s = false) := by show _ = _; rw [tOk, hN, wOk_long (by omega)]; rfl
      go_enter Tryd.func6, Tryd.ntmps6
      go_wp2_with (go_at_call 11; refine (nameS n _ hn).mono ?_; rintro e w1 ⟨rfl, rfl⟩; rw [hN])
      go_ret
      exact ⟨ret_b HR.out.symm, ba⟩
    · have HT : Hid (tOk n s = wOk s) := by show _ = _; rw [tOk, hN]; rfl
      go_enter Tryd.func6, Tryd.ntmps6
      go_wp2_with (go_at_call 11; refine (nameS n _ hn).mono ?_; rintro e w1 ⟨rfl, rfl⟩; rw [hN])
      clear hN
      go_loop [3] (fun i => ∃ k : Nat, k ≤ s.size ∧ i = .int .i64 (k : Int) ∧ Hid (∀ j, j < k → okAt s j = true)) (fun i => s.size - (intOf i).toNat)
      case atStart => exact ⟨0, Nat.zero_le _, rfl, fun j hj => by omega⟩
      case round =>
        obtain ⟨k, hk, rfl, HR⟩ := hrel
        by_cases hlt : k < s.size
        · have hi0 : (0 : Int) ≤ (k : Int) := by omega
          have hi1 : (k : Int) < (s.size : Int) := by omega
          have hb := bt_at s k hlt
          by_cases h33 : (s[k].toNat : Int) = 33
          · have q1 := eqt h33
            have q2 := nef h33
            rcases Nat.eq_zero_or_pos k with h0 | h0
            · subst h0
              have HN : Hid (∀ j, j < 0 + 1 → okAt s j = true) := fun j hj => by
                obtain rfl : j = 0 := by omega
                exact okAt_33 (by rw [hb]; exact h33) (Or.inl rfl)
              clear hb h33
              go_wp2
              go_round
              case rel => exact ⟨0 + 1, by omega, by go_num, HN⟩
              case measure => simp [intOf]; omega
            · obtain ⟨m, rfl⟩ : ∃ m, k = m + 1 := ⟨k - 1, by omega⟩
              have hm0 : (0 : Int) ≤ (m : Int) := by omega
              have hm1 : (m : Int) < (s.size : Int) := by omega
              have hb2 := bt_at s m (by omega)
              have hpos : (0 : Int) < (m : Int) + 1 := by omega
              by_cases h2 : (s[m].toNat : Int) = 33
              · have q3 := eqt h2
                have HN := Lib.hid (wOk_bad (s := s) (m + 1) hlt (okAt_33_no (by rw [hb]; exact h33) h0 (by rw [Nat.add_sub_cancel, hb2]; exact h2)))
                clear hb hb2 h33 h2
                go_wp2
                go_ret
                exact ⟨ret_b (by rw [HT.out, HN.out]), ba⟩
              · have q3 := eqf h2
                have HN : Hid (∀ j, j < m + 1 + 1 → okAt s j = true) := fun j hj => by
                  by_cases hjk : j = m + 1
                  · rw [hjk]; exact okAt_33 (by rw [hb]; exact h33) (Or.inr (by rw [Nat.add_sub_cancel, hb2]; exact h2))
                  · exact HR.out j (by omega)
                clear hb hb2 h33 h2
                go_wp2
                go_round
                case rel => exact ⟨m + 1 + 1, by omega, by go_num, HN⟩
                case measure => simp [intOf]; omega
          · have q1 := eqf h33
            have q2 := net h33
            by_cases h93 : (s[k].toNat : Int) = 93
            · have q3 := eqt h93
              have q4 := nef h93
              have HN : Hid (∀ j, j < k + 1 → okAt s j = true) := fun j hj => by
                by_cases hjk : j = k
                · rw [hjk]; exact okAt_93 (by rw [hb]; exact h93)
                · exact HR.out j (by omega)
              clear hb h33 h93
              go_wp2
              all_goals
                go_round
                case rel => exact ⟨k + 1, by omega, by go_num, HN⟩
                case measure => simp [intOf]; omega
            · have q3 := eqf h93
              have q4 := net h93
              have HN := Lib.hid (wOk_bad (s := s) k hlt (okAt_no (by rw [hb]; exact h33) (by rw [hb]; exact h93)))
              clear hb h33 h93
              go_wp2
              go_ret
              exact ⟨ret_b (by rw [HT.out, HN.out]), ba⟩
        · have hi1 : ¬ (k : Int) < (s.size : Int) := by omega
          have HN := Lib.hid (wOk_yes (s := s) (by omega) (fun j hj => HR.out j (by omega)))
          go_wp2
          go_ret
          exact ⟨ret_b (by rw [HT.out, HN.out]), ba⟩

theorem trimI (s : ByteArray) (w : World) (hs : s.size ≤ 1048576) :
    Calls Tryd.prog 20 #[.string s, .string ⟨#[93, 33]⟩] w fun e w' => e = .returned (.string ⟨(Lib.trimS s.data.toList [93, 33]).toArray⟩) ∧ Below w.heap.size w w' :=
  Tryd.strings_Trim s ⟨#[93, 33]⟩ w (by omega) (by decide) (ascii_of_all (by decide))
theorem contI (s : ByteArray) (w : World) (hs : s.size ≤ 1048576) (hM : Ml w) :
    Calls Tryd.prog 21 #[.string s, .string ⟨#[33, 33]⟩] w fun e w' => e = .returned (.bool (Lib.contains s.data.toList [33, 33])) ∧ w = w' := by
  obtain ⟨m, hm⟩ := hM
  exact (Tryd.strings_Contains s ⟨#[33, 33]⟩ m w (by omega) hm).mono fun e w' ⟨h1, h2⟩ => ⟨h1, h2.symm⟩

set_option maxHeartbeats 4000000 in
theorem wrapsI (s : ByteArray) (w : World) (hs : s.size ≤ 1048576) (hM : Ml w) :
    Calls Tryd.prog 13 #[.string s] w fun e w' => e = .returned (.bool (wOk s)) ∧ Below w.heap.size w w' := by
  by_cases h8 : (s.size : Int) ≤ 8
  case neg =>
    have HR := Lib.hid (wOk_long (s := s) (by omega))
    go_enter Tryd.func13, Tryd.ntmps13
    go_wp2
    go_ret
    exact ⟨ret_b HR.out.symm, Below.refl _ _⟩
  have HM := Lib.hid hM
  clear hM
  by_cases ht : Lib.trimS s.data.toList [93, 33] = []
  · have ct := fun w => trimI s w hs
    rw [ht] at ct
    cases hc : Lib.contains s.data.toList [33, 33] with
    | true =>
      have HR := Lib.hid (wOk_impl_two hc)
      go_enter Tryd.func13, Tryd.ntmps13
      go_wp2_with fail
      refine (ct _).mono ?_
      rintro e w1 ⟨rfl, hb1⟩
      go_wp2_with fail
      refine (contI s w1 hs (ml_below HM.out hb1)).mono ?_
      rintro e w2 ⟨rfl, rfl⟩
      rw [hc]
      go_wp2
      go_ret
      exact ⟨ret_b HR.out.symm, hb1⟩
    | false =>
      have HR := Lib.hid (wOk_impl (by omega) ht hc)
      go_enter Tryd.func13, Tryd.ntmps13
      go_wp2_with fail
      refine (ct _).mono ?_
      rintro e w1 ⟨rfl, hb1⟩
      go_wp2_with fail
      refine (contI s w1 hs (ml_below HM.out hb1)).mono ?_
      rintro e w2 ⟨rfl, rfl⟩
      rw [hc]
      go_wp2
      go_ret
      exact ⟨ret_b HR.out.symm, hb1⟩
  · have HR := Lib.hid (wOk_impl_trim ht)
    obtain ⟨X, hX⟩ : ∃ X : ByteArray, (⟨(Lib.trimS s.data.toList [93, 33]).toArray⟩ : ByteArray) = X := ⟨_, rfl⟩
    have ct := fun w => trimI s w hs
    rw [hX] at ct
    have hx : X.toList.isEmpty = false := by
      refine empty_no ?_
      rw [← hX]
      rcases Nat.eq_zero_or_pos (Lib.trimS s.data.toList [93, 33]).length with h | h
      · exact absurd (List.length_eq_zero_iff.1 h) ht
      · simpa [ByteArray.size] using h
    clear hX ht
    go_enter Tryd.func13, Tryd.ntmps13
    go_wp2_with fail
    refine (ct _).mono ?_
    rintro e w1 ⟨rfl, hb1⟩
    go_wp2
    go_ret
    exact ⟨ret_b HR.out.symm, hb1⟩

set_option maxHeartbeats 4000000 in
theorem okI (n s : ByteArray) (w : World) (hn : n.size ≤ 1048576) (hs : s.size ≤ 1048576) (hM : Ml w) :
    Calls Tryd.prog 8 #[.agg #[.string n, .string s]] w fun e w' => e = .returned (.bool (tOk n s)) ∧ Below w.heap.size w w' := by
  have ba := below_alloc w (Obj.cells #[Value.string n, Value.string s] 26)
  have HM := Lib.hid (ml_below hM ba)
  clear hM
  cases hN : nOk n with
  | false =>
    have HR : Hid (tOk n s = false) := by show _ = _; rw [tOk, hN]; rfl
    go_enter Tryd.func8, Tryd.ntmps8
    go_wp2_with (go_at_call 12; refine (nameI n _ hn).mono ?_; rintro e w1 ⟨rfl, rfl⟩; rw [hN])
    go_ret
    exact ⟨ret_b HR.out.symm, ba⟩
  | true =>
    have HT : Hid (tOk n s = wOk s) := by show _ = _; rw [tOk, hN]; rfl
    go_enter Tryd.func8, Tryd.ntmps8
    go_wp2_with (go_at_call 12; refine (nameI n _ hn).mono ?_; rintro e w1 ⟨rfl, rfl⟩; rw [hN])
    refine (wrapsI s _ hs HM.out).mono ?_
    rintro e w2 ⟨rfl, hb2⟩
    go_wp2
    go_ret
    exact ⟨ret_b HT.out.symm, below_trans ba hb2⟩
end Ty
end Go.Proofs.YtbccniijnaegaaaDoor
