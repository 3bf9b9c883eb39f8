/- What is proved: the program's SameValue says whether two values are the same. (Made by tools/mkdc.py.) -/
import Derived.Test.YtngfhncdmlpjiaaDcPe2
import Derived.Test.YtngfhncdmlpjiaaDcPe3
namespace Go.Proofs.Ytngfhncdmlpjiaa
namespace Dc
set_option linter.unusedVariables false
open Go.RowKit Da
attribute [local go_sem ↓] Go.wp_at_zero Go.wp_at_succ

/-- The program's SameValue. -/
theorem valueI {r r' : Nat → D} (hs : ∀ j g, (row .value)[j]? = some g → Sh (r j) g) (hs' : ∀ j g, (row .value)[j]? = some g → Sh (r' j) g) (hz : sumTo (fun j => sz (r j)) 4 ≤ 1048576) : CmpR 8 4 (smR 4 r r') r r' := by
  intro w cs ds hcl hdl ha hb
  obtain ⟨c0, c1, c2, c3, rfl⟩ := len4 hcl
  obtain ⟨d0, d1, d2, d3, rfl⟩ := len4 hdl
  have cD := depthV (fun r r' h h' hq => besideV (r := r) (r' := r') h h') (.list 4 1 fun _ => r) (.list 4 1 fun _ => r') ⟨.value, rfl, rfl, fun _ _ => hs⟩ ⟨.value, rfl, rfl, fun _ _ => hs'⟩ (by simp only [sz, sumTo] at hz ⊢; omega)
  rw [show sm (.list 4 1 fun _ => r) (.list 4 1 fun _ => r') = smR 4 r r' from by rw [sm_list]; simp [allB]] at cD
  have HA := Lib.hid ha
  have HB := Lib.hid hb
  have CD := Lib.hid cD
  obtain ⟨k0, e0⟩ := (hs 0 _ rfl).int
  have a0 := ha 0 _ rfl
  rw [e0] at a0
  obtain rfl : c0 = Value.int .i64 k0 := a0
  obtain ⟨k0', e0'⟩ := (hs' 0 _ rfl).int
  have b0 := hb 0 _ rfl
  rw [e0'] at b0
  obtain rfl : d0 = Value.int .i64 k0' := b0
  obtain ⟨t1, e1⟩ := (hs 1 _ rfl).str
  have a1 := ha 1 _ rfl
  rw [e1] at a1
  obtain ⟨rfl, -⟩ := a1
  obtain ⟨t1', e1'⟩ := (hs' 1 _ rfl).str
  have b1 := hb 1 _ rfl
  rw [e1'] at b1
  obtain ⟨rfl, -⟩ := b1
  obtain ⟨A2, n2, q2, rfl⟩ := atLst (ha 2 _ rfl) (hs 2 _ rfl)
  obtain ⟨A2', n2', q2', rfl⟩ := atLst (hb 2 _ rfl) (hs' 2 _ rfl)
  obtain ⟨A3, n3, q3, rfl⟩ := atLst (ha 3 _ rfl) (hs 3 _ rfl)
  obtain ⟨A3', n3', q3', rfl⟩ := atLst (hb 3 _ rfl) (hs' 3 _ rfl)
  obtain ⟨S, hS⟩ : ∃ S, smR 4 r r' = S := ⟨_, rfl⟩
  rw [hS] at CD ⊢
  clear hS e0 e0' e1 e1' ha hb cD
  have four := fourNew w (Obj.cells #[Value.int .i64 k0, Value.string t1, Value.slice A2 n2 q2, Value.slice A3 n3 q3] 30) (Obj.cells #[Value.int .i64 k0', Value.string t1', Value.slice A2' n2' q2', Value.slice A3' n3' q3'] 30) (Obj.cells #[Value.int .i64 k0, Value.string t1, Value.slice A2 n2 q2, Value.slice A3 n3 q3] 30) (Obj.cells #[Value.int .i64 k0', Value.string t1', Value.slice A2' n2' q2', Value.slice A3' n3' q3'] 30)
  have HF := Lib.hid four
  clear four
  go_enter Try.func8, Try.ntmps8
  go_wp2_with fail
  refine (CD.out _ _ _ (atOne HF.out.1 rfl (atl_below HF.out.2.2 HA.out)) (atOne HF.out.2.1 rfl (atl_below HF.out.2.2 HB.out))).mono ?_
  rintro e w1 ⟨rfl, hb1⟩
  have hb2 := below_trans HF.out.2.2 hb1
  go_wp2
  go_ret
  exact ⟨rfl, hb2⟩

end Dc
end Go.Proofs.Ytngfhncdmlpjiaa
