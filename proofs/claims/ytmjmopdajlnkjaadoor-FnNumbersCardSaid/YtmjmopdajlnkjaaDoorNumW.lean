/- What is proved: what Fits32 of the model and of the program answers at every text: the same plain function, where the library's errors lie as the program's text lays them; nothing that was there is written. Used by the proofs of FnExactFits32CardSaid and FnNumbersCardSaid. -/
import Derived.Test.YtmjmopdajlnkjaaDoorNumV
import Derived.Test.YtmjmopdajlnkjaaDoorNumE
import Derived.Test.YtmjmopdajlnkjaaDoorNumS
import Derived.Test.YtmjmopdajlnkjaaDoorShelf
import Derived.Lib.AtoiErrMem
namespace Go.Proofs.YtmjmopdajlnkjaaDoor
open Go.RowKit

theorem iOk_signs {s : ByteArray} (h : iOk s = true) : ∀ c ∈ s.data.toList, c.toNat = 45 ∨ isD c = true := by
  intro c hc
  obtain ⟨ds, hR, hs⟩ := iOk_shape h
  have hD := hR.1
  unfold allD at hD
  rw [List.all_eq_true] at hD
  rcases hs with ⟨hs, -⟩ | ⟨hs, -⟩
  · rw [hs] at hc; exact .inr (hD c hc)
  · rw [hs] at hc
    rcases List.mem_cons.1 hc with rfl | hc
    · exact .inl rfl
    · exact .inr (hD c hc)
theorem dg_val {l : List UInt8} (h : ∀ c ∈ l, c.toNat = 45 ∨ isD c = true) (k : Nat) (hl : l.length ≤ 11) : val 0 (dg (l.take k)) ≤ 99999999999 := by
  have hD : allD (dg (l.take k)) = true := by
    unfold allD
    rw [List.all_eq_true]
    intro c hc
    unfold dg at hc
    rw [List.mem_filter] at hc
    rcases h c (List.mem_of_mem_take hc.1) with h1 | h1
    · have := hc.2; simp [h1] at this
    · exact h1
  have h1 := val_lt _ 0 1 hD (by omega)
  have h2 : (dg (l.take k)).length ≤ 11 := by
    unfold dg
    have := List.length_filter_le (fun c : UInt8 => c.toNat != 45) (l.take k)
    have : (l.take k).length ≤ l.length := by rw [List.length_take]; omega
    omega
  have h3 : 10 ^ (dg (l.take k)).length ≤ 10 ^ 11 := Nat.pow_le_pow_right (by decide) h2
  omega
theorem at_mem (s : ByteArray) (k : Nat) (h : k < s.size) : s[k] ∈ s.data.toList := Array.mem_toList_iff.2 (Array.getElem_mem (xs := s.data) h)
theorem take_on (s : ByteArray) (k : Nat) (h : k < s.size) : s.data.toList.take (k + 1) = s.data.toList.take k ++ [s[k]] := by
  rw [List.take_succ_eq_append_getElem (by rw [list_len]; exact h)]; rfl
theorem dg_sign (s : ByteArray) (k : Nat) (h : k < s.size) (h45 : (s[k].toNat : Int) = 45) : dg (s.data.toList.take (k + 1)) = dg (s.data.toList.take k) := by
  rw [take_on s k h]
  unfold dg
  rw [List.filter_append, List.filter_cons_of_neg (by simp; omega)]
  simp
theorem dg_fig (s : ByteArray) (k : Nat) (h : k < s.size) (h45 : ¬ (s[k].toNat : Int) = 45) : dg (s.data.toList.take (k + 1)) = dg (s.data.toList.take k) ++ [s[k]] := by
  rw [take_on s k h]
  unfold dg
  rw [List.filter_append, List.filter_cons_of_pos (by simp; omega)]
  simp
theorem t32_not {s : ByteArray} (h : iOk s = false) : t32 s = false := by unfold t32; rw [h]; rfl
theorem t32_long {s : ByteArray} (h : 11 < s.size) : t32 s = false := by unfold t32; rw [decide_eq_false (by omega)]; exact Bool.and_false _
theorem t32_is {s : ByteArray} (h : iOk s = true) (h1 : s.size ≤ 11) {n m : Nat} (hn : n = val 0 (dg s.data.toList)) (hm : lim s = m) : t32 s = decide ((n : Int) ≤ (m : Int)) := by
  unfold t32
  rw [h, hm, ← hn]
  by_cases hc : n ≤ m
  · rw [decide_eq_true ⟨h1, hc⟩, decide_eq_true (by omega)]; rfl
  · rw [decide_eq_false (fun x => hc x.2), decide_eq_false (by omega)]; rfl

set_option maxHeartbeats 1600000 in
theorem fitS (s : ByteArray) (w : World) (hs : s.size ≤ 1048576) :
    Calls Tryd.prog 13 #[.string s] w fun e w' => e = .returned (.bool (t32 s)) ∧ w = w' := by
  have C := intS s w hs
  cases hi : iOk s with
  | false =>
    rw [hi] at C
    have HR := Lib.hid (t32_not hi)
    clear hi
    go_enter Tryd.func13, Tryd.ntmps13
    go_wp2_with (go_at_call 23; refine C.mono ?_; rintro e w1 ⟨rfl, rfl⟩)
    go_ret
    exact ⟨ret_b HR.out.symm, rfl⟩
  | true =>
    rw [hi] at C
    by_cases h11 : 11 < (s.size : Int)
    · have HR := Lib.hid (t32_long (s := s) (by omega))
      clear hi
      go_enter Tryd.func13, Tryd.ntmps13
      go_wp2_with (go_at_call 23; refine C.mono ?_; rintro e w1 ⟨rfl, rfl⟩)
      go_ret
      exact ⟨ret_b HR.out.symm, rfl⟩
    · have hpos : 0 < s.size := by
        unfold iOk at hi
        simp only [decide_eq_true_eq] at hi
        exact hi.2.1
      have HI := Lib.hid hi
      have HS := Lib.hid (iOk_signs hi)
      clear hi
      go_enter Tryd.func13, Tryd.ntmps13
      go_wp2_with (go_at_call 23; refine C.mono ?_; rintro e w1 ⟨rfl, rfl⟩)
      clear C
      go_loop [3, 4] (fun nv i => ∃ (k n : Nat), k ≤ s.size ∧ i = .int .i64 (k : Int) ∧ nv = .int .i64 (n : Int) ∧ n ≤ 99999999999 ∧ Hid (n = val 0 (dg (s.data.toList.take k)))) (fun _ i => s.size - (intOf i).toNat)
      case atStart => exact ⟨0, 0, Nat.zero_le _, rfl, rfl, by omega, by show 0 = _; rfl⟩
      case round =>
        obtain ⟨k, n, hk, rfl, rfl, hn, HN⟩ := hrel
        by_cases hlt : k < s.size
        · have hi0 : (0 : Int) ≤ (k : Int) := by omega
          have hi1 : (k : Int) < (s.size : Int) := by omega
          by_cases h45 : (s[k].toNat : Int) = 45
          · have HN2 : Hid (n = val 0 (dg (s.data.toList.take (k + 1)))) := by show _ = _; rw [dg_sign s k hlt h45]; exact HN.out
            have e1 : ((s[k].toNat : Int) != 45) = false := by simpa using h45
            clear h45
            go_wp2
            go_round
            case rel => exact ⟨k + 1, n, by omega, by go_num, rfl, hn, HN2⟩
            case measure => simp [intOf]; omega
          · have e1 : ((s[k].toNat : Int) != 45) = true := by simpa using h45
            have hb : 48 ≤ s[k].toNat ∧ s[k].toNat ≤ 57 := by
              rcases HS.out s[k] (at_mem s k hlt) with h | h
              · omega
              · simpa [isD] using h
            have HN2 : Hid (10 * n + (s[k].toNat - 48) = val 0 (dg (s.data.toList.take (k + 1)))) := by
              show _ = _
              rw [dg_fig s k hlt h45, val_snoc, ← HN.out]
            have HB := Lib.hid (dg_val HS.out (k + 1) (by rw [list_len]; omega))
            have hn2 : 10 * n + (s[k].toNat - 48) ≤ 99999999999 := by have h1 := HN2.out; have h2 := HB.out; omega
            have hx : (n : Int) * 10 + (s[k].toNat : Int) - 48 = ((10 * n + (s[k].toNat - 48) : Nat) : Int) := by omega
            clear h45
            go_wp2
            go_round
            case rel => exact ⟨k + 1, 10 * n + (s[k].toNat - 48), by omega, by go_num, by first | rw [hx] | (rw [← hx]; go_num), hn2, HN2⟩
            case measure => simp [intOf]; omega
        · have hi1 : ¬ (k : Int) < (s.size : Int) := by omega
          have HT : Hid (n = val 0 (dg s.data.toList)) := by
            have h := HN.out
            rw [List.take_of_length_le (by rw [list_len]; omega)] at h
            exact h
          have hp : (0 : Int) < (s.size : Int) := by omega
          have hb := bt_at s 0 hpos
          by_cases h45 : (s[0].toNat : Int) = 45
          · have HR := Lib.hid (t32_is HI.out (by omega) HT.out (lim_yes (hb.trans h45)))
            have e1 := eqt h45
            clear h45 hb
            go_wp2
            go_ret
            exact ⟨ret_b (by rw [HR.out]; rfl), rfl⟩
          · have HR := Lib.hid (t32_is HI.out (by omega) HT.out (lim_no (by rw [hb]; exact h45)))
            have e1 := eqf h45
            clear h45 hb
            go_wp2
            go_ret
            exact ⟨ret_b (by rw [HR.out]; rfl), rfl⟩

set_option maxHeartbeats 1600000 in
theorem fitI (s : ByteArray) (w : World) (hs : s.size ≤ 1048576) (t2 : TypeId) (p2 : Value) (hER : w.var? Tryd.prog "strconv.ErrRange" = some #[.iface t2 p2]) :
    Calls Tryd.prog 11 #[.string s] w fun e w' => e = .returned (.bool (t32 s)) ∧ Below w.heap.size w w' := by
  have C := intI s w hs
  have HER := Lib.hid hER
  clear hER
  cases hi : iOk s with
  | false =>
    rw [hi] at C
    have HR := Lib.hid (t32_not hi)
    clear hi
    go_enter Tryd.func11, Tryd.ntmps11
    go_wp2_with (go_at_call 9; refine C.mono ?_; rintro e w1 ⟨rfl, rfl⟩)
    go_ret
    exact ⟨ret_b HR.out.symm, Below.refl _ _⟩
  | true =>
    rw [hi] at C
    rcases parse_t32 hi with ⟨⟨v, hv⟩, hr⟩ | ⟨hv, hr⟩
    · have HR := Lib.hid hr
      have HV := Lib.hid hv
      clear hi hv hr
      go_enter Tryd.func11, Tryd.ntmps11
      go_wp2_with fail
      refine C.mono ?_
      rintro e w1 ⟨rfl, rfl⟩
      go_wp2_with fail
      refine (Tryd.strconv_ParseInt_10_at32_ok s (by omega) v HV.out w).mono ?_
      rintro e w1 ⟨rfl, hw⟩
      have hb : Below w.heap.size w w1 := by
        rcases hw with hw | ⟨t, hw⟩
        · rw [hw]; exact Below.refl _ _
        · rw [hw]; exact Lib.bytesWorld_below w 5 t
      clear hw C
      go_wp2
      go_ret
      exact ⟨ret_b HR.out.symm, hb⟩
    · have HR := Lib.hid hr
      have HV := Lib.hid hv
      clear hi hv hr
      go_enter Tryd.func11, Tryd.ntmps11
      go_wp2_with fail
      refine C.mono ?_
      rintro e w1 ⟨rfl, rfl⟩
      go_wp2_with fail
      refine (Tryd.strconv_ParseInt_10_at32_range_var s (by omega) HV.out t2 p2 w HER.out).mono ?_
      rintro e w1 ⟨M, rfl, -, -, hb⟩
      clear C
      go_wp2
      go_ret
      exact ⟨ret_b HR.out.symm, hb⟩
end Go.Proofs.YtmjmopdajlnkjaaDoor
