/- What is proved: what TypeText of the model and of the program answers at every type: the same text; nothing that was there is written. Used by the proofs on types. -/
import Derived.Test.YtbccniijnaegaaaDoorTyK
namespace Go.Proofs.YtbccniijnaegaaaDoor
namespace Ty
open Go.RowKit
attribute [local go_sem ↓] Go.wp_at_zero Go.wp_at_succ

/-- As many brackets as there are lists among the first k, the name, these k. -/
def tl (n s : ByteArray) (k : Nat) : ByteArray := ⟨(List.replicate ((s.data.toList.take k).count 93) 91 ++ n.data.toList ++ s.data.toList.take k).toArray⟩
/-- The text of a type. -/
def tTx (n s : ByteArray) : ByteArray := if tOk n s then tl n s s.size else ⟨#[]⟩

theorem ret_s {a b : ByteArray} (h : a = b) : Ending.returned (.string a) = .returned (.string b) := by rw [h]
theorem tl_zero (n s : ByteArray) : tl n s 0 = n := by
  apply ByteArray.ext; apply Array.ext'; simp [tl]
theorem take_at {s : ByteArray} {k : Nat} (hk : k < s.size) : s.data.toList.take (k + 1) = s.data.toList.take k ++ [s[k]] := by
  rw [List.take_add_one, List.getElem?_eq_getElem (by simpa using hk)]; rfl
theorem tl_33 {n s : ByteArray} {k : Nat} (hk : k < s.size) (h : s[k] = 33) : tl n s k ++ ⟨#[33]⟩ = tl n s (k + 1) := by
  apply ByteArray.ext; apply Array.ext'
  unfold tl
  rw [take_at hk, h]
  simp [ByteArray.data_append, List.count_append]
theorem tl_93 {n s : ByteArray} {k : Nat} (hk : k < s.size) (h : s[k] = 93) : (⟨#[91]⟩ ++ tl n s k) ++ ⟨#[93]⟩ = tl n s (k + 1) := by
  apply ByteArray.ext; apply Array.ext'
  unfold tl
  rw [take_at hk, h, List.count_append, show List.count (93 : UInt8) [93] = 1 from rfl, List.replicate_succ]
  rw [ByteArray.data_append, ByteArray.data_append, Array.toList_append, Array.toList_append]
  simp only [List.cons_append, List.append_assoc, List.nil_append]
theorem tl_size (n s : ByteArray) (k : Nat) (hs : s.size ≤ 8) : (tl n s k).size ≤ n.size + 16 := by
  have h1 : (tl n s k).size = (s.data.toList.take k).count 93 + n.data.toList.length + (s.data.toList.take k).length := by
    show (List.replicate ((s.data.toList.take k).count 93) (91 : UInt8) ++ n.data.toList ++ s.data.toList.take k).toArray.size = _
    rw [List.size_toArray, List.length_append, List.length_append, List.length_replicate]
  have h2 := List.count_le_length (a := (93 : UInt8)) (l := s.data.toList.take k)
  have h3 : (s.data.toList.take k).length ≤ 8 := by
    have : s.data.toList.length = s.size := by simp
    rw [List.length_take]; omega
  have h4 : n.data.toList.length = n.size := by simp
  omega
theorem okAt_or {s : ByteArray} {i : Nat} (hi : i < s.size) (h : okAt s i = true) : s[i] = 33 ∨ s[i] = 93 := by
  have hb := bt_at s i hi
  unfold okAt at h
  simp only [Bool.and_eq_true, Bool.or_eq_true, decide_eq_true_eq] at h
  rw [hb] at h
  have e33 : (33 : UInt8).toNat = 33 := rfl
  have e93 : (93 : UInt8).toNat = 93 := rfl
  rcases h.1 with h | h
  · left; apply UInt8.toNat_inj.1; omega
  · right; apply UInt8.toNat_inj.1; omega
theorem tOk_or {n s : ByteArray} (h : tOk n s = true) : s.size ≤ 8 ∧ ∀ i, (hi : i < s.size) → s[i] = 33 ∨ s[i] = 93 := by
  rw [tOk, Bool.and_eq_true, wOk, decide_eq_true_iff] at h
  exact ⟨h.2.1, fun i hi => okAt_or hi (h.2.2 i hi)⟩

set_option maxHeartbeats 4000000 in
theorem txS (n s : ByteArray) (w : World) (hn : n.size ≤ 1048576) (hs : s.size ≤ 1048576) :
    Calls Tryd.prog 9 #[.agg #[.string n, .string s]] w fun e w' => e = .returned (.string (tTx n s)) ∧ Below w.heap.size w w' := by
  have ba := below_alloc w (Obj.cells #[Value.string n, Value.string s] 26)
  have G := Lib.hid (heap_alloc_new w (Obj.cells #[Value.string n, Value.string s] 26))
  go_enter Tryd.func9, Tryd.ntmps9
  go_wp2_with fail
  refine (okS n s _ hn hs).mono ?_
  rintro e w1 ⟨rfl, hb1⟩
  obtain ⟨p0, p1⟩ := keep2 hb1 G.out
  have bb := below_trans ba hb1
  cases hT : tOk n s with
  | false =>
    have HR : Hid (tTx n s = ⟨#[]⟩) := by show _ = _; rw [tTx, hT]; rfl
    go_wp2
    go_ret
    exact ⟨ret_s HR.out.symm, bb⟩
  | true =>
    have HR : Hid (tTx n s = tl n s s.size) := by show _ = _; rw [tTx, hT]; rfl
    obtain ⟨h8, hO⟩ := tOk_or hT
    have HO := Lib.hid hO
    clear hT hO
    go_wp2
    go_loop [3, 4] (fun x i => ∃ k : Nat, k ≤ s.size ∧ i = .int .i64 (k : Int) ∧ x = .string (tl n s k)) (fun _ i => s.size - (intOf i).toNat)
    case atStart => exact ⟨0, Nat.zero_le _, rfl, by rw [tl_zero]⟩
    case round =>
      obtain ⟨k, hk, rfl, rfl⟩ := hrel
      by_cases hlt : k < s.size
      · have hi0 : (0 : Int) ≤ (k : Int) := by omega
        have hi1 : (k : Int) < (s.size : Int) := by omega
        have hz := tl_size n s k h8
        rcases HO.out k hlt with h | h
        · have HN := Lib.hid (tl_33 (n := n) hlt h)
          have q1 : ((s[k].toNat : Int) == 33) = true := by rw [h]; rfl
          clear h
          obtain ⟨X, hX⟩ : ∃ X, tl n s k = X := ⟨_, rfl⟩
          have HX := Lib.hid hX
          rw [hX] at hz ⊢
          clear hX
          go_wp2
          go_round
          case rel => exact ⟨k + 1, by omega, by go_num, by rw [← HX.out, HN.out]⟩
          case measure => simp [intOf]; omega
        · have HN := Lib.hid (tl_93 (n := n) hlt h)
          have q1 : ((s[k].toNat : Int) == 33) = false := by rw [h]; rfl
          clear h
          obtain ⟨X, hX⟩ : ∃ X, tl n s k = X := ⟨_, rfl⟩
          have HX := Lib.hid hX
          rw [hX] at hz ⊢
          clear hX
          go_wp2
          go_round
          case rel => exact ⟨k + 1, by omega, by go_num, by rw [← HX.out, HN.out]⟩
          case measure => simp [intOf]; omega
      · have hi1 : ¬ (k : Int) < (s.size : Int) := by omega
        obtain rfl : k = s.size := by omega
        go_wp2
        go_ret
        exact ⟨ret_s HR.out.symm, bb⟩

theorem countI (s : ByteArray) (w : World) :
    Calls Tryd.prog 15 #[.string s, .string ⟨#[93]⟩] w fun e w' => e = .returned (.int .i64 ((s.data.toList.count 93 : Nat) : Int)) ∧ w = w' :=
  (Tryd.strings_Count_one s 93 w).mono fun _ _ ⟨h1, h2⟩ => ⟨h1, h2.symm⟩
theorem rep_is (c : Nat) : Lib.repeatL [91] c = List.replicate c 91 := by
  induction c with
  | zero => rfl
  | succ c ih => rw [Lib.repeatL, ih, List.replicate_succ]; rfl
theorem repI (c : Nat) (w : World) (hc : c ≤ 1048576) :
    Calls Tryd.prog 14 #[.string ⟨#[91]⟩, .int .i64 (c : Int)] w fun e w' => e = .returned (.string ⟨(List.replicate c 91).toArray⟩) ∧ Below w.heap.size w w' := by
  have := Tryd.strings_Repeat ⟨#[91]⟩ c w (by omega) (by show 1 * c ≤ _; omega)
  rw [show (⟨#[91]⟩ : ByteArray).data.toList = [91] from rfl, rep_is] at this
  exact this
theorem tl_full (n s : ByteArray) : ((⟨(List.replicate (s.data.toList.count 93) 91).toArray⟩ : ByteArray) ++ n) ++ s = tl n s s.size := by
  apply ByteArray.ext; apply Array.ext'
  unfold tl
  rw [List.take_of_length_le (by simp)]
  simp [ByteArray.data_append]

set_option maxHeartbeats 4000000 in
theorem txI (n s : ByteArray) (w : World) (hn : n.size ≤ 1048576) (hs : s.size ≤ 1048576) (hM : Ml w) :
    Calls Tryd.prog 10 #[.agg #[.string n, .string s]] w fun e w' => e = .returned (.string (tTx n s)) ∧ Below w.heap.size w w' := by
  have ba := below_alloc w (Obj.cells #[Value.string n, Value.string s] 26)
  have G := Lib.hid (heap_alloc_new w (Obj.cells #[Value.string n, Value.string s] 26))
  go_enter Tryd.func10, Tryd.ntmps10
  go_wp2_with fail
  refine (okI n s _ hn hs (ml_below hM ba)).mono ?_
  rintro e w1 ⟨rfl, hb1⟩
  obtain ⟨p0, p1⟩ := keep2 hb1 G.out
  have bb := below_trans ba hb1
  have K := Lib.hid ((hb1.block w.heap.size (by simp)).trans G.out)
  cases hT : tOk n s with
  | false =>
    have HR : Hid (tTx n s = ⟨#[]⟩) := by show _ = _; rw [tTx, hT]; rfl
    go_wp2
    go_ret
    exact ⟨ret_s HR.out.symm, bb⟩
  | true =>
    have HR : Hid (tTx n s = tl n s s.size) := by show _ = _; rw [tTx, hT]; rfl
    obtain ⟨h8, -⟩ := tOk_or hT
    clear hT hM
    have hcl : s.data.toList.count 93 ≤ 8 := Nat.le_trans List.count_le_length (by simpa using h8)
    have cC := fun w => countI s w
    have HF := Lib.hid (tl_full n s)
    obtain ⟨c, hc⟩ : ∃ c, s.data.toList.count 93 = c := ⟨_, rfl⟩
    rw [hc] at cC hcl
    have HF2 : Hid (((⟨(List.replicate c 91).toArray⟩ : ByteArray) ++ n) ++ s = tl n s s.size) := by rw [← hc]; exact HF
    have cR := fun w => repI c w (by omega)
    have hsz : (⟨(List.replicate c 91).toArray⟩ : ByteArray).size = c := by simp [ByteArray.size]
    obtain ⟨X, hX⟩ : ∃ X : ByteArray, (⟨(List.replicate c 91).toArray⟩ : ByteArray) = X := ⟨_, rfl⟩
    rw [hX] at cR HF2 hsz
    clear hX hc HF
    go_wp2_with fail
    go_region_with (first
      | (go_at_call 15; refine (cC _).mono ?_; rintro e x1 ⟨rfl, rfl⟩)
      | (go_at_call 14; refine (cR _).mono ?_; rintro e x2 ⟨rfl, hx2⟩; obtain ⟨k0, k1⟩ := keep2 (below_trans (below_drew _) hx2) K.out))
    all_goals go_wp2
    all_goals go_ret
    all_goals exact ⟨ret_s (by rw [HF2.out, HR.out]), below_trans bb (below_trans (below_drew _) hx2)⟩
end Ty
end Go.Proofs.YtbccniijnaegaaaDoor
