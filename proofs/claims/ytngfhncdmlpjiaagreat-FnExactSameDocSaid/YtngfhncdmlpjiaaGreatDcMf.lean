/- What is proved: the model's test whether two definitions are the same. (Made by tools/mkdc.py.) -/
import Derived.Test.YtngfhncdmlpjiaaGreatDcMi
import Derived.Test.YtngfhncdmlpjiaaGreatDcB
namespace Go.Proofs.YtngfhncdmlpjiaaGreat
namespace Dc
set_option linter.unusedVariables false
set_option linter.unusedSimpArgs false
open Go.RowKit Da
attribute [local go_sem ↓] Go.wp_at_zero Go.wp_at_succ

set_option maxRecDepth 100000 in
set_option maxHeartbeats 8000000 in
theorem defS {r r' : Nat → D} (hs : ∀ j g, (row .defn)[j]? = some g → Sh (r j) g) (hs' : ∀ j g, (row .defn)[j]? = some g → Sh (r' j) g) : CmpR 13 11 (smR 11 r r') r r' := by
  intro w cs ds hcl hdl ha hb
  obtain ⟨c0, c1, c2, c3, c4, c5, c6, c7, c8, c9, c10, rfl⟩ := lnB11 hcl
  obtain ⟨d0, d1, d2, d3, d4, d5, d6, d7, d8, d9, d10, rfl⟩ := lnB11 hdl
  have a0 := ha 0 _ rfl
  have b0 := hb 0 _ rfl
  have a1 := ha 1 _ rfl
  have b1 := hb 1 _ rfl
  have a2 := ha 2 _ rfl
  have b2 := hb 2 _ rfl
  have a3 := ha 3 _ rfl
  have b3 := hb 3 _ rfl
  have a4 := ha 4 _ rfl
  have b4 := hb 4 _ rfl
  have a5 := ha 5 _ rfl
  have b5 := hb 5 _ rfl
  have a6 := ha 6 _ rfl
  have b6 := hb 6 _ rfl
  have a7 := ha 7 _ rfl
  have b7 := hb 7 _ rfl
  have a8 := ha 8 _ rfl
  have b8 := hb 8 _ rfl
  have a9 := ha 9 _ rfl
  have b9 := hb 9 _ rfl
  have a10 := ha 10 _ rfl
  have b10 := hb 10 _ rfl
  clear ha hb hcl hdl
  obtain ⟨k0, e0⟩ := (hs 0 _ rfl).int
  rw [e0] at a0
  obtain rfl : c0 = Value.int .i64 k0 := a0
  obtain ⟨k0', e0'⟩ := (hs' 0 _ rfl).int
  rw [e0'] at b0
  obtain rfl : d0 = Value.int .i64 k0' := b0
  obtain ⟨p1, e1⟩ := (hs 1 _ rfl).bool
  rw [e1] at a1
  obtain rfl : c1 = Value.bool p1 := a1
  obtain ⟨p1', e1'⟩ := (hs' 1 _ rfl).bool
  rw [e1'] at b1
  obtain rfl : d1 = Value.bool p1' := b1
  obtain ⟨t2, e2⟩ := (hs 2 _ rfl).str
  rw [e2] at a2
  obtain ⟨rfl, -⟩ := a2
  obtain ⟨t2', e2'⟩ := (hs' 2 _ rfl).str
  rw [e2'] at b2
  obtain ⟨rfl, -⟩ := b2
  obtain ⟨t3, e3⟩ := (hs 3 _ rfl).str
  rw [e3] at a3
  obtain ⟨rfl, -⟩ := a3
  obtain ⟨t3', e3'⟩ := (hs' 3 _ rfl).str
  rw [e3'] at b3
  obtain ⟨rfl, -⟩ := b3
  obtain ⟨n4, it4, e4, ss4⟩ := (hs 4 _ rfl).lst
  have e4 : r 4 = .list 1 n4 it4 := e4
  rw [e4] at a4
  have Ha4 := Lib.hid a4
  obtain ⟨A4, f4, rfl, m4⟩ := a4.slice
  clear a4
  unfold maxLen at m4
  obtain ⟨n4', it4', e4', ss4'⟩ := (hs' 4 _ rfl).lst
  have e4' : r' 4 = .list 1 n4' it4' := e4'
  rw [e4'] at b4
  have Hb4 := Lib.hid b4
  obtain ⟨A4', f4', rfl, m4'⟩ := b4.slice
  clear b4
  unfold maxLen at m4'
  obtain ⟨n5, it5, e5, ss5⟩ := (hs 5 _ rfl).lst
  have e5 : r 5 = .list 6 n5 it5 := e5
  rw [e5] at a5
  have Ha5 := Lib.hid a5
  obtain ⟨A5, f5, rfl, m5⟩ := a5.slice
  clear a5
  unfold maxLen at m5
  obtain ⟨n5', it5', e5', ss5'⟩ := (hs' 5 _ rfl).lst
  have e5' : r' 5 = .list 6 n5' it5' := e5'
  rw [e5'] at b5
  have Hb5 := Lib.hid b5
  obtain ⟨A5', f5', rfl, m5'⟩ := b5.slice
  clear b5
  unfold maxLen at m5'
  obtain ⟨n7, it7, e7, ss7⟩ := (hs 7 _ rfl).lst
  have e7 : r 7 = .list 3 n7 it7 := e7
  rw [e7] at a7
  have Ha7 := Lib.hid a7
  obtain ⟨A7, f7, rfl, m7⟩ := a7.slice
  clear a7
  unfold maxLen at m7
  obtain ⟨n7', it7', e7', ss7'⟩ := (hs' 7 _ rfl).lst
  have e7' : r' 7 = .list 3 n7' it7' := e7'
  rw [e7'] at b7
  have Hb7 := Lib.hid b7
  obtain ⟨A7', f7', rfl, m7'⟩ := b7.slice
  clear b7
  unfold maxLen at m7'
  obtain ⟨n8, it8, e8, ss8⟩ := (hs 8 _ rfl).lst
  have e8 : r 8 = .list 2 n8 it8 := e8
  rw [e8] at a8
  have Ha8 := Lib.hid a8
  obtain ⟨A8, f8, rfl, m8⟩ := a8.slice
  clear a8
  unfold maxLen at m8
  obtain ⟨n8', it8', e8', ss8'⟩ := (hs' 8 _ rfl).lst
  have e8' : r' 8 = .list 2 n8' it8' := e8'
  rw [e8'] at b8
  have Hb8 := Lib.hid b8
  obtain ⟨A8', f8', rfl, m8'⟩ := b8.slice
  clear b8
  unfold maxLen at m8'
  obtain ⟨p9, e9⟩ := (hs 9 _ rfl).bool
  rw [e9] at a9
  obtain rfl : c9 = Value.bool p9 := a9
  obtain ⟨p9', e9'⟩ := (hs' 9 _ rfl).bool
  rw [e9'] at b9
  obtain rfl : d9 = Value.bool p9' := b9
  have hrow : smR 11 r r' = ((k0 == k0') && ((p1 == p1') && ((t2.toList == t2'.toList) && ((t3.toList == t3'.toList) && (sm (r 4) (r' 4) && (sm (r 5) (r' 5) && (sm (r 6) (r' 6) && (sm (r 7) (r' 7) && (sm (r 8) (r' 8) && ((p9 == p9') && sm (r 10) (r' 10))))))))))) := by simp only [smR, allB, Bool.true_and, Bool.and_assoc, e0, e0', e1, e1', e2, e2', e3, e3', e9, e9', sm_int, sm_str, sm_bool]
  have HR := Lib.hid hrow
  clear hrow
  have HC6 := insS (hs 6 _ rfl) (hs' 6 _ rfl)
  obtain ⟨x6, hx6⟩ : ∃ x, sm (r 6) (r' 6) = x := ⟨_, rfl⟩
  unfold CmpL at HC6
  rw [hx6] at HR HC6
  replace HC6 := Lib.hid HC6
  have HC10 := dirsS (hs 10 _ rfl) (hs' 10 _ rfl)
  obtain ⟨x10, hx10⟩ : ∃ x, sm (r 10) (r' 10) = x := ⟨_, rfl⟩
  unfold CmpL at HC10
  rw [hx10] at HR HC10
  replace HC10 := Lib.hid HC10
  obtain ⟨y4, hy4⟩ : ∃ y, sm (r 4) (r' 4) = y := ⟨_, rfl⟩
  rw [hy4] at HR
  rw [e4, e4', sm_list] at hy4
  have Hy4 := Lib.hid hy4
  clear hy4
  obtain ⟨y5, hy5⟩ : ∃ y, sm (r 5) (r' 5) = y := ⟨_, rfl⟩
  rw [hy5] at HR
  rw [e5, e5', sm_list] at hy5
  have Hy5 := Lib.hid hy5
  clear hy5
  obtain ⟨y7, hy7⟩ : ∃ y, sm (r 7) (r' 7) = y := ⟨_, rfl⟩
  rw [hy7] at HR
  rw [e7, e7', sm_list] at hy7
  have Hy7 := Lib.hid hy7
  clear hy7
  obtain ⟨y8, hy8⟩ : ∃ y, sm (r 8) (r' 8) = y := ⟨_, rfl⟩
  rw [hy8] at HR
  rw [e8, e8', sm_list] at hy8
  have Hy8 := Lib.hid hy8
  clear hy8
  obtain ⟨S, hS⟩ : ∃ S, smR 11 r r' = S := ⟨_, rfl⟩
  rw [hS]
  have HS := Lib.hid hS
  clear hS
  clear e0 e0' e1 e1' e2 e2' e3 e3' e9 e9'
  go_enter Tryz.func13, Tryz.ntmps13
  go_upto_region 1 with fail
  dsimp only [List.append]
  obtain ⟨W1, hW1⟩ : ∃ W1, ((w.alloc (Obj.cells #[Value.int .i64 k0, Value.bool p1, Value.string t2, Value.string t3, Value.slice A4 n4 f4, Value.slice A5 n5 f5, c6, Value.slice A7 n7 f7, Value.slice A8 n8 f8, Value.bool p9, c10] 46)).alloc (Obj.cells #[Value.int .i64 k0', Value.bool p1', Value.string t2', Value.string t3', Value.slice A4' n4' f4', Value.slice A5' n5' f5', d6, Value.slice A7' n7' f7', Value.slice A8' n8' f8', Value.bool p9', d10] 46)) = W1 := ⟨_, rfl⟩
  have ba : Below w.heap.size w W1 := by rw [← hW1]; exact (twoNew w _ _).2.2
  have B0 : W1.heap[w.heap.size]? = some (Obj.cells #[Value.int .i64 k0, Value.bool p1, Value.string t2, Value.string t3, Value.slice A4 n4 f4, Value.slice A5 n5 f5, c6, Value.slice A7 n7 f7, Value.slice A8 n8 f8, Value.bool p9, c10] 46) := by rw [← hW1]; exact (twoNew w _ _).1
  have B1 : W1.heap[w.heap.size + 1]? = some (Obj.cells #[Value.int .i64 k0', Value.bool p1', Value.string t2', Value.string t3', Value.slice A4' n4' f4', Value.slice A5' n5' f5', d6, Value.slice A7' n7' f7', Value.slice A8' n8' f8', Value.bool p9', d10] 46) := by rw [← hW1]; exact (twoNew w _ _).2.1
  rw [hW1]
  clear hW1
  have P0 := fun X : Gr W1 => X.cell (show W1.cell? ⟨w.heap.size, 0, none⟩ = some (Value.int .i64 k0) by rw [cellOf B0]; rfl)
  have Q0 := fun X : Gr W1 => X.cell (show W1.cell? ⟨w.heap.size + 1, 0, none⟩ = some (Value.int .i64 k0') by rw [cellOf B1]; rfl)
  have P1 := fun X : Gr W1 => X.cell (show W1.cell? ⟨w.heap.size, 1, none⟩ = some (Value.bool p1) by rw [cellOf B0]; rfl)
  have Q1 := fun X : Gr W1 => X.cell (show W1.cell? ⟨w.heap.size + 1, 1, none⟩ = some (Value.bool p1') by rw [cellOf B1]; rfl)
  have P2 := fun X : Gr W1 => X.cell (show W1.cell? ⟨w.heap.size, 2, none⟩ = some (Value.string t2) by rw [cellOf B0]; rfl)
  have Q2 := fun X : Gr W1 => X.cell (show W1.cell? ⟨w.heap.size + 1, 2, none⟩ = some (Value.string t2') by rw [cellOf B1]; rfl)
  have P3 := fun X : Gr W1 => X.cell (show W1.cell? ⟨w.heap.size, 3, none⟩ = some (Value.string t3) by rw [cellOf B0]; rfl)
  have Q3 := fun X : Gr W1 => X.cell (show W1.cell? ⟨w.heap.size + 1, 3, none⟩ = some (Value.string t3') by rw [cellOf B1]; rfl)
  have P4 := fun X : Gr W1 => X.cell (show W1.cell? ⟨w.heap.size, 4, none⟩ = some (Value.slice A4 n4 f4) by rw [cellOf B0]; rfl)
  have Q4 := fun X : Gr W1 => X.cell (show W1.cell? ⟨w.heap.size + 1, 4, none⟩ = some (Value.slice A4' n4' f4') by rw [cellOf B1]; rfl)
  have P5 := fun X : Gr W1 => X.cell (show W1.cell? ⟨w.heap.size, 5, none⟩ = some (Value.slice A5 n5 f5) by rw [cellOf B0]; rfl)
  have Q5 := fun X : Gr W1 => X.cell (show W1.cell? ⟨w.heap.size + 1, 5, none⟩ = some (Value.slice A5' n5' f5') by rw [cellOf B1]; rfl)
  have P6 := fun X : Gr W1 => X.cell (show W1.cell? ⟨w.heap.size, 6, none⟩ = some (c6) by rw [cellOf B0]; rfl)
  have Q6 := fun X : Gr W1 => X.cell (show W1.cell? ⟨w.heap.size + 1, 6, none⟩ = some (d6) by rw [cellOf B1]; rfl)
  have P7 := fun X : Gr W1 => X.cell (show W1.cell? ⟨w.heap.size, 7, none⟩ = some (Value.slice A7 n7 f7) by rw [cellOf B0]; rfl)
  have Q7 := fun X : Gr W1 => X.cell (show W1.cell? ⟨w.heap.size + 1, 7, none⟩ = some (Value.slice A7' n7' f7') by rw [cellOf B1]; rfl)
  have P8 := fun X : Gr W1 => X.cell (show W1.cell? ⟨w.heap.size, 8, none⟩ = some (Value.slice A8 n8 f8) by rw [cellOf B0]; rfl)
  have Q8 := fun X : Gr W1 => X.cell (show W1.cell? ⟨w.heap.size + 1, 8, none⟩ = some (Value.slice A8' n8' f8') by rw [cellOf B1]; rfl)
  have P9 := fun X : Gr W1 => X.cell (show W1.cell? ⟨w.heap.size, 9, none⟩ = some (Value.bool p9) by rw [cellOf B0]; rfl)
  have Q9 := fun X : Gr W1 => X.cell (show W1.cell? ⟨w.heap.size + 1, 9, none⟩ = some (Value.bool p9') by rw [cellOf B1]; rfl)
  have P10 := fun X : Gr W1 => X.cell (show W1.cell? ⟨w.heap.size, 10, none⟩ = some (c10) by rw [cellOf B0]; rfl)
  have Q10 := fun X : Gr W1 => X.cell (show W1.cell? ⟨w.heap.size + 1, 10, none⟩ = some (d10) by rw [cellOf B1]; rfl)
  have PW0 : W1.cell? ⟨w.heap.size, 0, none⟩ = some (Value.int .i64 k0) := P0 ⟨W1, Below.refl _ _⟩
  have QW0 : W1.cell? ⟨w.heap.size + 1, 0, none⟩ = some (Value.int .i64 k0') := Q0 ⟨W1, Below.refl _ _⟩
  have PW1 : W1.cell? ⟨w.heap.size, 1, none⟩ = some (Value.bool p1) := P1 ⟨W1, Below.refl _ _⟩
  have QW1 : W1.cell? ⟨w.heap.size + 1, 1, none⟩ = some (Value.bool p1') := Q1 ⟨W1, Below.refl _ _⟩
  have PW2 : W1.cell? ⟨w.heap.size, 2, none⟩ = some (Value.string t2) := P2 ⟨W1, Below.refl _ _⟩
  have QW2 : W1.cell? ⟨w.heap.size + 1, 2, none⟩ = some (Value.string t2') := Q2 ⟨W1, Below.refl _ _⟩
  have PW3 : W1.cell? ⟨w.heap.size, 3, none⟩ = some (Value.string t3) := P3 ⟨W1, Below.refl _ _⟩
  have QW3 : W1.cell? ⟨w.heap.size + 1, 3, none⟩ = some (Value.string t3') := Q3 ⟨W1, Below.refl _ _⟩
  have PW4 : W1.cell? ⟨w.heap.size, 4, none⟩ = some (Value.slice A4 n4 f4) := P4 ⟨W1, Below.refl _ _⟩
  have QW4 : W1.cell? ⟨w.heap.size + 1, 4, none⟩ = some (Value.slice A4' n4' f4') := Q4 ⟨W1, Below.refl _ _⟩
  have PW5 : W1.cell? ⟨w.heap.size, 5, none⟩ = some (Value.slice A5 n5 f5) := P5 ⟨W1, Below.refl _ _⟩
  have QW5 : W1.cell? ⟨w.heap.size + 1, 5, none⟩ = some (Value.slice A5' n5' f5') := Q5 ⟨W1, Below.refl _ _⟩
  have PW6 : W1.cell? ⟨w.heap.size, 6, none⟩ = some (c6) := P6 ⟨W1, Below.refl _ _⟩
  have QW6 : W1.cell? ⟨w.heap.size + 1, 6, none⟩ = some (d6) := Q6 ⟨W1, Below.refl _ _⟩
  have PW7 : W1.cell? ⟨w.heap.size, 7, none⟩ = some (Value.slice A7 n7 f7) := P7 ⟨W1, Below.refl _ _⟩
  have QW7 : W1.cell? ⟨w.heap.size + 1, 7, none⟩ = some (Value.slice A7' n7' f7') := Q7 ⟨W1, Below.refl _ _⟩
  have PW8 : W1.cell? ⟨w.heap.size, 8, none⟩ = some (Value.slice A8 n8 f8) := P8 ⟨W1, Below.refl _ _⟩
  have QW8 : W1.cell? ⟨w.heap.size + 1, 8, none⟩ = some (Value.slice A8' n8' f8') := Q8 ⟨W1, Below.refl _ _⟩
  have PW9 : W1.cell? ⟨w.heap.size, 9, none⟩ = some (Value.bool p9) := P9 ⟨W1, Below.refl _ _⟩
  have QW9 : W1.cell? ⟨w.heap.size + 1, 9, none⟩ = some (Value.bool p9') := Q9 ⟨W1, Below.refl _ _⟩
  have PW10 : W1.cell? ⟨w.heap.size, 10, none⟩ = some (c10) := P10 ⟨W1, Below.refl _ _⟩
  have QW10 : W1.cell? ⟨w.heap.size + 1, 10, none⟩ = some (d10) := Q10 ⟨W1, Below.refl _ _⟩
  have HB0 := Lib.hid B0
  have HB1 := Lib.hid B1
  clear B0 B1
  by_cases h0 : k0 = k0'
  case neg =>
    have hx : (k0 == k0') = false := by simp [h0]
    have hn : smR 11 r r' = false := by rw [HR.out, hx]; simp
    obtain rfl : S = false := HS.out.symm.trans hn
    clear hn
    go_wp2
    go_ret
    exact ⟨rfl, ba⟩
  subst h0
  by_cases h1 : p1 = p1'
  case neg =>
    have hx : (p1 == p1') = false := by simp [h1]
    have hn : smR 11 r r' = false := by rw [HR.out, hx]; simp
    obtain rfl : S = false := HS.out.symm.trans hn
    clear hn
    go_wp2
    go_ret
    exact ⟨rfl, ba⟩
  subst h1
  by_cases h2 : t2 = t2'
  case neg =>
    have hx := str_ne h2
    have hn : smR 11 r r' = false := by rw [HR.out, hx]; simp
    obtain rfl : S = false := HS.out.symm.trans hn
    clear hn
    go_wp2
    go_ret
    exact ⟨rfl, ba⟩
  subst h2
  by_cases h3 : t3 = t3'
  case neg =>
    have hx := str_ne h3
    have hn : smR 11 r r' = false := by rw [HR.out, hx]; simp
    obtain rfl : S = false := HS.out.symm.trans hn
    clear hn
    go_wp2
    go_ret
    exact ⟨rfl, ba⟩
  subst h3
  by_cases h9 : p9 = p9'
  case neg =>
    have hx : (p9 == p9') = false := by simp [h9]
    have hn : smR 11 r r' = false := by rw [HR.out, hx]; simp
    obtain rfl : S = false := HS.out.symm.trans hn
    clear hn
    go_wp2
    go_ret
    exact ⟨rfl, ba⟩
  subst h9
  by_cases h4 : n4 = n4'
  case neg =>
    have hx := int_ne h4
    have hn : smR 11 r r' = false := by rw [HR.out, show y4 = false from by rw [← Hy4.out, nat_ne h4]; simp]; simp
    obtain rfl : S = false := HS.out.symm.trans hn
    clear hn
    go_wp2
    go_ret
    exact ⟨rfl, ba⟩
  subst h4
  by_cases h5 : n5 = n5'
  case neg =>
    have hx := int_ne h5
    have hn : smR 11 r r' = false := by rw [HR.out, show y5 = false from by rw [← Hy5.out, nat_ne h5]; simp]; simp
    obtain rfl : S = false := HS.out.symm.trans hn
    clear hn
    go_wp2
    go_ret
    exact ⟨rfl, ba⟩
  subst h5
  by_cases h7 : n7 = n7'
  case neg =>
    have hx := int_ne h7
    have hn : smR 11 r r' = false := by rw [HR.out, show y7 = false from by rw [← Hy7.out, nat_ne h7]; simp]; simp
    obtain rfl : S = false := HS.out.symm.trans hn
    clear hn
    go_wp2
    go_ret
    exact ⟨rfl, ba⟩
  subst h7
  by_cases h8 : n8 = n8'
  case neg =>
    have hx := int_ne h8
    have hn : smR 11 r r' = false := by rw [HR.out, show y8 = false from by rw [← Hy8.out, nat_ne h8]; simp]; simp
    obtain rfl : S = false := HS.out.symm.trans hn
    clear hn
    go_wp2
    go_ret
    exact ⟨rfl, ba⟩
  subst h8
  go_wp2_with fail
  refine (gr_call (X := (⟨W1, Below.refl _ _⟩ : Gr W1)) (HC6.out W1 _ _ (At.below ba _ a6) (At.below ba _ b6))).mono ?_
  rintro e _ ⟨rfl, X6, rfl⟩
  cases x6
  case false =>
    have hn : smR 11 r r' = false := by rw [HR.out]; simp
    obtain rfl : S = false := HS.out.symm.trans hn
    clear hn
    go_wp2
    go_ret
    exact ⟨rfl, (below_trans ba X6.below)⟩
  go_wp2_with fail
  refine (gr_call (X := X6) (HC10.out X6.W _ _ (At.below (below_trans ba X6.below) _ a10) (At.below (below_trans ba X6.below) _ b10))).mono ?_
  rintro e _ ⟨rfl, X10, rfl⟩
  cases x10
  case false =>
    have hn : smR 11 r r' = false := by rw [HR.out]; simp
    obtain rfl : S = false := HS.out.symm.trans hn
    clear hn
    go_wp2
    go_ret
    exact ⟨rfl, (below_trans ba X10.below)⟩
  go_wp2
  have HRo := HR
  clear HR
  go_loopw [5] (fun i wr => ∃ k : Nat, k ≤ n4 ∧ i = .int .i64 k ∧ Below W1.heap.size W1 wr ∧ ∀ j, j < k → smR 1 (it4 j) (it4' j) = true) (fun i _ => n4 - (intOf i).toNat)
  case atStart => exact ⟨0, Nat.zero_le _, rfl, X10.below, fun j hj => absurd hj (Nat.not_lt_zero _)⟩
  case round =>
    obtain ⟨p, hp, rfl, hbel, hsame⟩ := hrel
    have HSi := Lib.hid hsame
    clear hsame
    have q0 : wr.cell? ⟨w.heap.size, 4, none⟩ = some (Value.slice A4 n4 f4) := P4 ⟨wr, hbel⟩
    have q1 : wr.cell? ⟨w.heap.size + 1, 4, none⟩ = some (Value.slice A4' n4 f4') := Q4 ⟨wr, hbel⟩
    have bb := below_trans ba hbel
    by_cases hlt : p < n4
    case neg =>
      obtain rfl : p = n4 := by omega
      obtain rfl : y4 = true := by rw [← Hy4.out, allB_yes (f := fun i => smR 1 (it4 i) (it4' i)) HSi.out]; simp
      go_wp2
      clear q0 q1 bb
      go_loopw [6] (fun i wr => ∃ k : Nat, k ≤ n5 ∧ i = .int .i64 k ∧ Below W1.heap.size W1 wr ∧ ∀ j, j < k → smR 6 (it5 j) (it5' j) = true) (fun i _ => n5 - (intOf i).toNat)
      case atStart => exact ⟨0, Nat.zero_le _, rfl, hbel, fun j hj => absurd hj (Nat.not_lt_zero _)⟩
      case round =>
        obtain ⟨p, hp, rfl, hbel, hsame⟩ := hrel
        have HSi := Lib.hid hsame
        clear hsame
        have q0 : wr.cell? ⟨w.heap.size, 5, none⟩ = some (Value.slice A5 n5 f5) := P5 ⟨wr, hbel⟩
        have q1 : wr.cell? ⟨w.heap.size + 1, 5, none⟩ = some (Value.slice A5' n5 f5') := Q5 ⟨wr, hbel⟩
        have bb := below_trans ba hbel
        by_cases hlt : p < n5
        case neg =>
          obtain rfl : p = n5 := by omega
          obtain rfl : y5 = true := by rw [← Hy5.out, allB_yes (f := fun i => smR 6 (it5 i) (it5' i)) HSi.out]; simp
          go_wp2
          clear q0 q1 bb
          go_loopw [9] (fun i wr => ∃ k : Nat, k ≤ n7 ∧ i = .int .i64 k ∧ Below W1.heap.size W1 wr ∧ ∀ j, j < k → smR 3 (it7 j) (it7' j) = true) (fun i _ => n7 - (intOf i).toNat)
          case atStart => exact ⟨0, Nat.zero_le _, rfl, hbel, fun j hj => absurd hj (Nat.not_lt_zero _)⟩
          case round =>
            obtain ⟨p, hp, rfl, hbel, hsame⟩ := hrel
            have HSi := Lib.hid hsame
            clear hsame
            have q0 : wr.cell? ⟨w.heap.size, 7, none⟩ = some (Value.slice A7 n7 f7) := P7 ⟨wr, hbel⟩
            have q1 : wr.cell? ⟨w.heap.size + 1, 7, none⟩ = some (Value.slice A7' n7 f7') := Q7 ⟨wr, hbel⟩
            have bb := below_trans ba hbel
            by_cases hlt : p < n7
            case neg =>
              obtain rfl : p = n7 := by omega
              obtain rfl : y7 = true := by rw [← Hy7.out, allB_yes (f := fun i => smR 3 (it7 i) (it7' i)) HSi.out]; simp
              go_wp2
              clear q0 q1 bb
              go_loopw [10] (fun i wr => ∃ k : Nat, k ≤ n8 ∧ i = .int .i64 k ∧ Below W1.heap.size W1 wr ∧ ∀ j, j < k → smR 2 (it8 j) (it8' j) = true) (fun i _ => n8 - (intOf i).toNat)
              case atStart => exact ⟨0, Nat.zero_le _, rfl, hbel, fun j hj => absurd hj (Nat.not_lt_zero _)⟩
              case round =>
                obtain ⟨p, hp, rfl, hbel, hsame⟩ := hrel
                have HSi := Lib.hid hsame
                clear hsame
                have q0 : wr.cell? ⟨w.heap.size, 8, none⟩ = some (Value.slice A8 n8 f8) := P8 ⟨wr, hbel⟩
                have q1 : wr.cell? ⟨w.heap.size + 1, 8, none⟩ = some (Value.slice A8' n8 f8') := Q8 ⟨wr, hbel⟩
                have bb := below_trans ba hbel
                by_cases hlt : p < n8
                case neg =>
                  obtain rfl : p = n8 := by omega
                  obtain rfl : y8 = true := by rw [← Hy8.out, allB_yes (f := fun i => smR 2 (it8 i) (it8' i)) HSi.out]; simp
                  have hz : smR 11 r r' = true := by rw [HRo.out]; simp
                  obtain rfl : S = true := HS.out.symm.trans hz
                  clear hz
                  go_wp2
                  go_ret
                  exact ⟨rfl, bb⟩
                have hk0 : (0 : Int) ≤ (p : Int) := by omega
                have hk1 : (p : Int) < (n8 : Int) := by omega
                obtain ⟨b, o, e9, hfc⟩ := (At.below bb _ Ha8.out).nth hlt
                subst e9
                obtain ⟨b', o', e9, hfd⟩ := (At.below bb _ Hb8.out).nth hlt
                subst e9
                obtain ⟨c0, c1, ⟨f0, a0⟩, ⟨f1, a1⟩⟩ := two hfc
                obtain ⟨d0, d1, ⟨g0, b0⟩, ⟨g1, b1⟩⟩ := two hfd
                clear hfc hfd
                rw [Nat.add_zero] at f0 g0
                have hsp := ss8 p hlt
                have hsp' := ss8' p hlt
                obtain ⟨k0, e0⟩ := (hsp 0 _ rfl).int
                rw [e0] at a0
                obtain rfl : c0 = Value.int .i64 k0 := a0
                obtain ⟨k0', e0'⟩ := (hsp' 0 _ rfl).int
                rw [e0'] at b0
                obtain rfl : d0 = Value.int .i64 k0' := b0
                obtain ⟨t1, e1⟩ := (hsp 1 _ rfl).str
                rw [e1] at a1
                obtain ⟨rfl, -⟩ := a1
                obtain ⟨t1', e1'⟩ := (hsp' 1 _ rfl).str
                rw [e1'] at b1
                obtain ⟨rfl, -⟩ := b1
                have hrow : smR 2 (it8 p) (it8' p) = ((k0 == k0') && (t1.toList == t1'.toList)) := by simp only [smR, allB, Bool.true_and, e0, e0', e1, e1', sm_int, sm_str]
                have HR := Lib.hid hrow
                clear hrow
                have F0 := fun X : Gr wr => X.cell f0
                have G0 := fun X : Gr wr => X.cell g0
                have F1 := fun X : Gr wr => X.cell f1
                have G1 := fun X : Gr wr => X.cell g1
                have Q0X := fun X : Gr wr => X.cell q0
                have Q1X := fun X : Gr wr => X.cell q1
                clear e0 e0' e1 e1' f0 g0 f1 g1
                by_cases h0 : k0 = k0'
                case neg =>
                  have hx : (k0 == k0') = false := by simp [h0]
                  have hn : smR 2 (it8 p) (it8' p) = false := by rw [HR.out, hx]; simp
                  obtain rfl : y8 = false := by rw [← Hy8.out, allB_no (f := fun i => smR 2 (it8 i) (it8' i)) hlt hn]; simp
                  have hz : smR 11 r r' = false := by rw [HRo.out]; simp
                  obtain rfl : S = false := HS.out.symm.trans hz
                  clear hn
                  go_wp2
                  refine wp_region_gr (by kernel_rfl) (by kernel_rfl) ?_
                  repeat (go_big_quiet_step (fail))
                  refine wpQuiet_nil ?_
                  intro X
                  go_wp2
                  go_ret
                  exact ⟨rfl, below_trans bb X.below⟩
                subst h0
                by_cases h1 : t1 = t1'
                case neg =>
                  have hx := str_ne h1
                  have hn : smR 2 (it8 p) (it8' p) = false := by rw [HR.out, hx]; simp
                  obtain rfl : y8 = false := by rw [← Hy8.out, allB_no (f := fun i => smR 2 (it8 i) (it8' i)) hlt hn]; simp
                  have hz : smR 11 r r' = false := by rw [HRo.out]; simp
                  obtain rfl : S = false := HS.out.symm.trans hz
                  clear hn
                  go_wp2
                  refine wp_region_gr (by kernel_rfl) (by kernel_rfl) ?_
                  repeat (go_big_quiet_step (fail))
                  refine wpQuiet_nil ?_
                  intro X
                  go_wp2
                  go_ret
                  exact ⟨rfl, below_trans bb X.below⟩
                subst h1
                have HY := Lib.hid (yes_step HSi.out (show smR 2 (it8 p) (it8' p) = true by rw [HR.out]; simp))
                go_wp2
                refine wp_region_gr (by kernel_rfl) (by kernel_rfl) ?_
                repeat (go_big_quiet_step (fail))
                refine wpQuiet_nil ?_
                intro X
                go_wp2
                go_roundw
                case rel => exact ⟨p + 1, by omega, by go_num, below_trans hbel X.below, HY.out⟩
                case measure => simp [intOf]; omega
            have hk0 : (0 : Int) ≤ (p : Int) := by omega
            have hk1 : (p : Int) < (n7 : Int) := by omega
            obtain ⟨b, o, e9, hfc⟩ := (At.below bb _ Ha7.out).nth hlt
            subst e9
            obtain ⟨b', o', e9, hfd⟩ := (At.below bb _ Hb7.out).nth hlt
            subst e9
            obtain ⟨c0, f0, a0⟩ := hfc 0 (by omega)
            obtain ⟨c1, f1, a1⟩ := hfc 1 (by omega)
            obtain ⟨c2, f2, a2⟩ := hfc 2 (by omega)
            obtain ⟨d0, g0, b0⟩ := hfd 0 (by omega)
            obtain ⟨d1, g1, b1⟩ := hfd 1 (by omega)
            obtain ⟨d2, g2, b2⟩ := hfd 2 (by omega)
            clear hfc hfd
            rw [Nat.add_zero] at f0 g0
            have hsp := ss7 p hlt
            have hsp' := ss7' p hlt
            obtain ⟨t0, e0⟩ := (hsp 0 _ rfl).str
            rw [e0] at a0
            obtain ⟨rfl, -⟩ := a0
            obtain ⟨t0', e0'⟩ := (hsp' 0 _ rfl).str
            rw [e0'] at b0
            obtain ⟨rfl, -⟩ := b0
            obtain ⟨t1, e1⟩ := (hsp 1 _ rfl).str
            rw [e1] at a1
            obtain ⟨rfl, -⟩ := a1
            obtain ⟨t1', e1'⟩ := (hsp' 1 _ rfl).str
            rw [e1'] at b1
            obtain ⟨rfl, -⟩ := b1
            have hrow : smR 3 (it7 p) (it7' p) = ((t0.toList == t0'.toList) && ((t1.toList == t1'.toList) && sm (it7 p 2) (it7' p 2))) := by simp only [smR, allB, Bool.true_and, Bool.and_assoc, e0, e0', e1, e1', sm_str]
            have HR := Lib.hid hrow
            clear hrow
            have HC2 := dirsS (hsp 2 _ rfl) (hsp' 2 _ rfl)
            obtain ⟨x2, hx2⟩ : ∃ x, sm (it7 p 2) (it7' p 2) = x := ⟨_, rfl⟩
            unfold CmpL at HC2
            rw [hx2] at HR HC2
            replace HC2 := Lib.hid HC2
            have F0 := fun X : Gr wr => X.cell f0
            have G0 := fun X : Gr wr => X.cell g0
            have F1 := fun X : Gr wr => X.cell f1
            have G1 := fun X : Gr wr => X.cell g1
            have F2 := fun X : Gr wr => X.cell f2
            have G2 := fun X : Gr wr => X.cell g2
            have Q0X := fun X : Gr wr => X.cell q0
            have Q1X := fun X : Gr wr => X.cell q1
            clear e0 e0' e1 e1' f0 g0 f1 g1 f2 g2
            have HK2 := Lib.hid (fun X : Gr wr => gr_call (X := X) (HC2.out X.W _ _ (At.below X.below _ a2) (At.below X.below _ b2)))
            by_cases h0 : t0 = t0'
            case neg =>
              have hx := str_ne h0
              have hn : smR 3 (it7 p) (it7' p) = false := by rw [HR.out, hx]; simp
              obtain rfl : y7 = false := by rw [← Hy7.out, allB_no (f := fun i => smR 3 (it7 i) (it7' i)) hlt hn]; simp
              have hz : smR 11 r r' = false := by rw [HRo.out]; simp
              obtain rfl : S = false := HS.out.symm.trans hz
              clear hn
              go_wp2
              refine wp_region_gr (by kernel_rfl) (by kernel_rfl) ?_
              repeat (go_big_quiet_step ((go_at_call 11; exact HK2.out _)))
              refine wpQuiet_nil ?_
              intro X
              go_wp2
              go_ret
              exact ⟨rfl, below_trans bb X.below⟩
            subst h0
            by_cases h1 : t1 = t1'
            case neg =>
              have hx := str_ne h1
              have hn : smR 3 (it7 p) (it7' p) = false := by rw [HR.out, hx]; simp
              obtain rfl : y7 = false := by rw [← Hy7.out, allB_no (f := fun i => smR 3 (it7 i) (it7' i)) hlt hn]; simp
              have hz : smR 11 r r' = false := by rw [HRo.out]; simp
              obtain rfl : S = false := HS.out.symm.trans hz
              clear hn
              go_wp2
              refine wp_region_gr (by kernel_rfl) (by kernel_rfl) ?_
              repeat (go_big_quiet_step ((go_at_call 11; exact HK2.out _)))
              refine wpQuiet_nil ?_
              intro X
              go_wp2
              go_ret
              exact ⟨rfl, below_trans bb X.below⟩
            subst h1
            cases x2
            case false =>
              have hn : smR 3 (it7 p) (it7' p) = false := by rw [HR.out]; simp
              obtain rfl : y7 = false := by rw [← Hy7.out, allB_no (f := fun i => smR 3 (it7 i) (it7' i)) hlt hn]; simp
              have hz : smR 11 r r' = false := by rw [HRo.out]; simp
              obtain rfl : S = false := HS.out.symm.trans hz
              clear hn
              go_wp2
              refine wp_region_gr (by kernel_rfl) (by kernel_rfl) ?_
              repeat (go_big_quiet_step ((go_at_call 11; exact HK2.out _)))
              refine wpQuiet_nil ?_
              intro X
              go_wp2
              go_ret
              exact ⟨rfl, below_trans bb X.below⟩
            have HY := Lib.hid (yes_step HSi.out (show smR 3 (it7 p) (it7' p) = true by rw [HR.out]; simp))
            go_wp2
            refine wp_region_gr (by kernel_rfl) (by kernel_rfl) ?_
            repeat (go_big_quiet_step ((go_at_call 11; exact HK2.out _)))
            refine wpQuiet_nil ?_
            intro X
            go_wp2
            go_roundw
            case rel => exact ⟨p + 1, by omega, by go_num, below_trans hbel X.below, HY.out⟩
            case measure => simp [intOf]; omega
        have hk0 : (0 : Int) ≤ (p : Int) := by omega
        have hk1 : (p : Int) < (n5 : Int) := by omega
        obtain ⟨b, o, e9, hfc⟩ := (At.below bb _ Ha5.out).nth hlt
        subst e9
        obtain ⟨b', o', e9, hfd⟩ := (At.below bb _ Hb5.out).nth hlt
        subst e9
        obtain ⟨cs, hlc, hrc⟩ := row_of hfc
        obtain ⟨c0, c1, c2, c3, c4, c5, hec⟩ := lnB6 hlc
        have a0 := (hrc 0 _ (by rw [hec]; rfl)).2
        have a1 := (hrc 1 _ (by rw [hec]; rfl)).2
        have a2 := (hrc 2 _ (by rw [hec]; rfl)).2
        have a3 := (hrc 3 _ (by rw [hec]; rfl)).2
        have a4 := (hrc 4 _ (by rw [hec]; rfl)).2
        have a5 := (hrc 5 _ (by rw [hec]; rfl)).2
        have HOc := Lib.hid (all_one (fun j v hv => (hrc j v hv).2))
        have HZc := Lib.hid (show (Tryz.prog.info? 89).map (·.size) = some cs.length by rw [hlc]; kernel_rfl)
        have HLc := Lib.hid (show 6 = cs.toArray.size by simp [hlc])
        obtain ⟨ds, hld, hrd⟩ := row_of hfd
        obtain ⟨d0, d1, d2, d3, d4, d5, hed⟩ := lnB6 hld
        have b0 := (hrd 0 _ (by rw [hed]; rfl)).2
        have b1 := (hrd 1 _ (by rw [hed]; rfl)).2
        have b2 := (hrd 2 _ (by rw [hed]; rfl)).2
        have b3 := (hrd 3 _ (by rw [hed]; rfl)).2
        have b4 := (hrd 4 _ (by rw [hed]; rfl)).2
        have b5 := (hrd 5 _ (by rw [hed]; rfl)).2
        have HOd := Lib.hid (all_one (fun j v hv => (hrd j v hv).2))
        have HZd := Lib.hid (show (Tryz.prog.info? 89).map (·.size) = some ds.length by rw [hld]; kernel_rfl)
        have HLd := Lib.hid (show 6 = ds.toArray.size by simp [hld])
        have HCS : Hid (cs[0]? = some c0 ∧ cs[1]? = some c1 ∧ cs[2]? = some c2 ∧ cs[3]? = some c3 ∧ cs[4]? = some c4 ∧ cs[5]? = some c5) := by rw [hec]; exact ⟨rfl, rfl, rfl, rfl, rfl, rfl⟩
        have HDS : Hid (ds[0]? = some d0 ∧ ds[1]? = some d1 ∧ ds[2]? = some d2 ∧ ds[3]? = some d3 ∧ ds[4]? = some d4 ∧ ds[5]? = some d5) := by rw [hed]; exact ⟨rfl, rfl, rfl, rfl, rfl, rfl⟩
        have HCc := Lib.hid (fun j v (hv : cs[j]? = some v) => (hrc j v hv).1)
        have HCd := Lib.hid (fun (ob : Obj) j v (hv : ds[j]? = some v) => ((below_alloc wr ob).cell (World.block_lt_of_cell? wr _ (hrd j v hv).1)).trans (hrd j v hv).1)
        clear hfc hfd hrc hrd hlc hld hec hed
        have q1a := fun ob : Obj => ((below_alloc wr ob).cell (World.block_lt_of_cell? wr _ q1)).trans q1
        have hsp := ss5 p hlt
        have hsp' := ss5' p hlt
        obtain ⟨t0, e0⟩ := (hsp 0 _ rfl).str
        rw [e0] at a0
        obtain ⟨rfl, -⟩ := a0
        obtain ⟨t0', e0'⟩ := (hsp' 0 _ rfl).str
        rw [e0'] at b0
        obtain ⟨rfl, -⟩ := b0
        obtain ⟨t1, e1⟩ := (hsp 1 _ rfl).str
        rw [e1] at a1
        obtain ⟨rfl, -⟩ := a1
        obtain ⟨t1', e1'⟩ := (hsp' 1 _ rfl).str
        rw [e1'] at b1
        obtain ⟨rfl, -⟩ := b1
        obtain ⟨t3, e3⟩ := (hsp 3 _ rfl).str
        rw [e3] at a3
        obtain ⟨rfl, -⟩ := a3
        obtain ⟨t3', e3'⟩ := (hsp' 3 _ rfl).str
        rw [e3'] at b3
        obtain ⟨rfl, -⟩ := b3
        obtain ⟨t4, e4⟩ := (hsp 4 _ rfl).str
        rw [e4] at a4
        obtain ⟨rfl, -⟩ := a4
        obtain ⟨t4', e4'⟩ := (hsp' 4 _ rfl).str
        rw [e4'] at b4
        obtain ⟨rfl, -⟩ := b4
        have hrow : smR 6 (it5 p) (it5' p) = ((t0.toList == t0'.toList) && ((t1.toList == t1'.toList) && (sm (it5 p 2) (it5' p 2) && ((t3.toList == t3'.toList) && ((t4.toList == t4'.toList) && sm (it5 p 5) (it5' p 5)))))) := by simp only [smR, allB, Bool.true_and, Bool.and_assoc, e0, e0', e1, e1', e3, e3', e4, e4', sm_str]
        have HR := Lib.hid hrow
        clear hrow
        have HC2 := insS (hsp 2 _ rfl) (hsp' 2 _ rfl)
        obtain ⟨x2, hx2⟩ : ∃ x, sm (it5 p 2) (it5' p 2) = x := ⟨_, rfl⟩
        unfold CmpL at HC2
        rw [hx2] at HR HC2
        replace HC2 := Lib.hid HC2
        have HC5 := dirsS (hsp 5 _ rfl) (hsp' 5 _ rfl)
        obtain ⟨x5, hx5⟩ : ∃ x, sm (it5 p 5) (it5' p 5) = x := ⟨_, rfl⟩
        unfold CmpL at HC5
        rw [hx5] at HR HC5
        replace HC5 := Lib.hid HC5
        clear e0 e0' e1 e1' e3 e3' e4 e4'
        go_upto_region 13 with (first | refine wpList_load_cells rfl 89 _ rfl b (o + p * 6) rfl cs _ HCc.out Tryz.underlying89 rfl HZc.out ?_ | refine wpList_load_cells rfl 89 _ rfl b' (o' + p * 6) rfl ds _ (HCd.out _) Tryz.underlying89 rfl HZd.out ?_ | refine wpList_store_new rfl 89 _ _ rfl _ rfl cs.toArray _ rfl rfl HZc.out HLc.out HOc.out ?_ | refine wpList_store_new rfl 89 _ _ rfl _ (sizeNew wr _) ds.toArray _ rfl rfl HZd.out HLd.out HOd.out ?_)
        obtain ⟨W2, hW2⟩ : ∃ W2, ((wr.alloc (Obj.cells cs.toArray 89)).alloc (Obj.cells ds.toArray 89)) = W2 := ⟨_, rfl⟩
        have bw : Below wr.heap.size wr W2 := by rw [← hW2]; exact (twoNew wr _ _).2.2
        have B0 : W2.heap[wr.heap.size]? = some (Obj.cells cs.toArray 89) := by rw [← hW2]; exact (twoNew wr _ _).1
        have B1 : W2.heap[wr.heap.size + 1]? = some (Obj.cells ds.toArray 89) := by rw [← hW2]; exact (twoNew wr _ _).2.1
        rw [hW2]
        clear hW2
        have L0 : W2.cell? ⟨wr.heap.size, 0, none⟩ = some (Value.string t0) := by rw [cellOf B0, List.getElem?_toArray]; exact HCS.out.1
        have M0 : W2.cell? ⟨wr.heap.size + 1, 0, none⟩ = some (Value.string t0') := by rw [cellOf B1, List.getElem?_toArray]; exact HDS.out.1
        have LX0 := fun X : Gr W2 => X.cell L0
        have MX0 := fun X : Gr W2 => X.cell M0
        have L1 : W2.cell? ⟨wr.heap.size, 1, none⟩ = some (Value.string t1) := by rw [cellOf B0, List.getElem?_toArray]; exact HCS.out.2.1
        have M1 : W2.cell? ⟨wr.heap.size + 1, 1, none⟩ = some (Value.string t1') := by rw [cellOf B1, List.getElem?_toArray]; exact HDS.out.2.1
        have LX1 := fun X : Gr W2 => X.cell L1
        have MX1 := fun X : Gr W2 => X.cell M1
        have L2 : W2.cell? ⟨wr.heap.size, 2, none⟩ = some (c2) := by rw [cellOf B0, List.getElem?_toArray]; exact HCS.out.2.2.1
        have M2 : W2.cell? ⟨wr.heap.size + 1, 2, none⟩ = some (d2) := by rw [cellOf B1, List.getElem?_toArray]; exact HDS.out.2.2.1
        have LX2 := fun X : Gr W2 => X.cell L2
        have MX2 := fun X : Gr W2 => X.cell M2
        have L3 : W2.cell? ⟨wr.heap.size, 3, none⟩ = some (Value.string t3) := by rw [cellOf B0, List.getElem?_toArray]; exact HCS.out.2.2.2.1
        have M3 : W2.cell? ⟨wr.heap.size + 1, 3, none⟩ = some (Value.string t3') := by rw [cellOf B1, List.getElem?_toArray]; exact HDS.out.2.2.2.1
        have LX3 := fun X : Gr W2 => X.cell L3
        have MX3 := fun X : Gr W2 => X.cell M3
        have L4 : W2.cell? ⟨wr.heap.size, 4, none⟩ = some (Value.string t4) := by rw [cellOf B0, List.getElem?_toArray]; exact HCS.out.2.2.2.2.1
        have M4 : W2.cell? ⟨wr.heap.size + 1, 4, none⟩ = some (Value.string t4') := by rw [cellOf B1, List.getElem?_toArray]; exact HDS.out.2.2.2.2.1
        have LX4 := fun X : Gr W2 => X.cell L4
        have MX4 := fun X : Gr W2 => X.cell M4
        have L5 : W2.cell? ⟨wr.heap.size, 5, none⟩ = some (c5) := by rw [cellOf B0, List.getElem?_toArray]; exact HCS.out.2.2.2.2.2
        have M5 : W2.cell? ⟨wr.heap.size + 1, 5, none⟩ = some (d5) := by rw [cellOf B1, List.getElem?_toArray]; exact HDS.out.2.2.2.2.2
        have LX5 := fun X : Gr W2 => X.cell L5
        have MX5 := fun X : Gr W2 => X.cell M5
        clear B0 B1 HCS HDS
        by_cases h0 : t0 = t0'
        case neg =>
          have hx := str_ne h0
          have hn : smR 6 (it5 p) (it5' p) = false := by rw [HR.out, hx]; simp
          obtain rfl : y5 = false := by rw [← Hy5.out, allB_no (f := fun i => smR 6 (it5 i) (it5' i)) hlt hn]; simp
          have hz : smR 11 r r' = false := by rw [HRo.out]; simp
          obtain rfl : S = false := HS.out.symm.trans hz
          clear hn
          go_wp2
          go_ret
          exact ⟨rfl, below_trans bb bw⟩
        subst h0
        by_cases h1 : t1 = t1'
        case neg =>
          have hx := str_ne h1
          have hn : smR 6 (it5 p) (it5' p) = false := by rw [HR.out, hx]; simp
          obtain rfl : y5 = false := by rw [← Hy5.out, allB_no (f := fun i => smR 6 (it5 i) (it5' i)) hlt hn]; simp
          have hz : smR 11 r r' = false := by rw [HRo.out]; simp
          obtain rfl : S = false := HS.out.symm.trans hz
          clear hn
          go_wp2
          go_ret
          exact ⟨rfl, below_trans bb bw⟩
        subst h1
        by_cases h3 : t3 = t3'
        case neg =>
          have hx := str_ne h3
          have hn : smR 6 (it5 p) (it5' p) = false := by rw [HR.out, hx]; simp
          obtain rfl : y5 = false := by rw [← Hy5.out, allB_no (f := fun i => smR 6 (it5 i) (it5' i)) hlt hn]; simp
          have hz : smR 11 r r' = false := by rw [HRo.out]; simp
          obtain rfl : S = false := HS.out.symm.trans hz
          clear hn
          go_wp2
          go_ret
          exact ⟨rfl, below_trans bb bw⟩
        subst h3
        by_cases h4 : t4 = t4'
        case neg =>
          have hx := str_ne h4
          have hn : smR 6 (it5 p) (it5' p) = false := by rw [HR.out, hx]; simp
          obtain rfl : y5 = false := by rw [← Hy5.out, allB_no (f := fun i => smR 6 (it5 i) (it5' i)) hlt hn]; simp
          have hz : smR 11 r r' = false := by rw [HRo.out]; simp
          obtain rfl : S = false := HS.out.symm.trans hz
          clear hn
          go_wp2
          go_ret
          exact ⟨rfl, below_trans bb bw⟩
        subst h4
        go_wp2_with fail
        refine (gr_call (X := (⟨W2, Below.refl _ _⟩ : Gr W2)) (HC2.out W2 _ _ (At.below bw _ a2) (At.below bw _ b2))).mono ?_
        rintro e _ ⟨rfl, X2, rfl⟩
        cases x2
        case false =>
          have hn : smR 6 (it5 p) (it5' p) = false := by rw [HR.out]; simp
          obtain rfl : y5 = false := by rw [← Hy5.out, allB_no (f := fun i => smR 6 (it5 i) (it5' i)) hlt hn]; simp
          have hz : smR 11 r r' = false := by rw [HRo.out]; simp
          obtain rfl : S = false := HS.out.symm.trans hz
          clear hn
          go_wp2
          go_ret
          exact ⟨rfl, below_trans bb (below_trans bw X2.below)⟩
        go_wp2_with fail
        refine (gr_call (X := X2) (HC5.out X2.W _ _ (At.below (below_trans bw X2.below) _ a5) (At.below (below_trans bw X2.below) _ b5))).mono ?_
        rintro e _ ⟨rfl, X5, rfl⟩
        cases x5
        case false =>
          have hn : smR 6 (it5 p) (it5' p) = false := by rw [HR.out]; simp
          obtain rfl : y5 = false := by rw [← Hy5.out, allB_no (f := fun i => smR 6 (it5 i) (it5' i)) hlt hn]; simp
          have hz : smR 11 r r' = false := by rw [HRo.out]; simp
          obtain rfl : S = false := HS.out.symm.trans hz
          clear hn
          go_wp2
          go_ret
          exact ⟨rfl, below_trans bb (below_trans bw X5.below)⟩
        have hy : smR 6 (it5 p) (it5' p) = true := by rw [HR.out]; simp
        have HY := Lib.hid (yes_step HSi.out hy)
        clear hy
        go_wp2
        go_roundw
        case rel => exact ⟨p + 1, by omega, by go_num, below_trans hbel (below_trans bw X5.below), HY.out⟩
        case measure => simp [intOf]; omega
    have hk0 : (0 : Int) ≤ (p : Int) := by omega
    have hk1 : (p : Int) < (n4 : Int) := by omega
    obtain ⟨b, o, e9, hfc⟩ := (At.below bb _ Ha4.out).nth hlt
    subst e9
    obtain ⟨b', o', e9, hfd⟩ := (At.below bb _ Hb4.out).nth hlt
    subst e9
    obtain ⟨c0, f0, a0⟩ := one hfc
    obtain ⟨d0, g0, b0⟩ := one hfd
    clear hfc hfd
    rw [Nat.add_zero, Nat.mul_one] at f0 g0
    have hsp := ss4 p hlt
    have hsp' := ss4' p hlt
    obtain ⟨t0, e0⟩ := (hsp 0 _ rfl).str
    rw [e0] at a0
    obtain ⟨rfl, -⟩ := a0
    obtain ⟨t0', e0'⟩ := (hsp' 0 _ rfl).str
    rw [e0'] at b0
    obtain ⟨rfl, -⟩ := b0
    have hrow : smR 1 (it4 p) (it4' p) = (t0.toList == t0'.toList) := by simp only [smR, allB, Bool.true_and, e0, e0', sm_str]
    have HR := Lib.hid hrow
    clear hrow
    have F0 := fun X : Gr wr => X.cell f0
    have G0 := fun X : Gr wr => X.cell g0
    have Q0X := fun X : Gr wr => X.cell q0
    have Q1X := fun X : Gr wr => X.cell q1
    clear e0 e0' f0 g0
    by_cases h0 : t0 = t0'
    case neg =>
      have hx := str_ne h0
      have hn : smR 1 (it4 p) (it4' p) = false := by rw [HR.out, hx]
      obtain rfl : y4 = false := by rw [← Hy4.out, allB_no (f := fun i => smR 1 (it4 i) (it4' i)) hlt hn]; simp
      have hz : smR 11 r r' = false := by rw [HRo.out]; simp
      obtain rfl : S = false := HS.out.symm.trans hz
      clear hn
      go_wp2
      refine wp_region_gr (by kernel_rfl) (by kernel_rfl) ?_
      repeat (go_big_quiet_step (fail))
      refine wpQuiet_nil ?_
      intro X
      go_wp2
      go_ret
      exact ⟨rfl, below_trans bb X.below⟩
    subst h0
    have HY := Lib.hid (yes_step HSi.out (show smR 1 (it4 p) (it4' p) = true by rw [HR.out]; simp))
    go_wp2
    refine wp_region_gr (by kernel_rfl) (by kernel_rfl) ?_
    repeat (go_big_quiet_step (fail))
    refine wpQuiet_nil ?_
    intro X
    go_wp2
    go_roundw
    case rel => exact ⟨p + 1, by omega, by go_num, below_trans hbel X.below, HY.out⟩
    case measure => simp [intOf]; omega

end Dc
end Go.Proofs.YtngfhncdmlpjiaaGreat
