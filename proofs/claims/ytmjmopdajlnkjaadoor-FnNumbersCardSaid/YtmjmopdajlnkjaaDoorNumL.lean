/- What is proved: the law FnNumbers returns true at every draw: drawn whole numbers are written as such, and with a fraction or an exponent as others; names are no numbers. Used by the proof of FnNumbersCardSaid. -/
import Derived.Test.YtmjmopdajlnkjaaDoorDrN
import Derived.Test.YtmjmopdajlnkjaaDoorDrP
import Derived.Test.YtmjmopdajlnkjaaDoorDec
import Derived.Test.YtmjmopdajlnkjaaDoorNumW
import Derived.Test.YtmjmopdajlnkjaaDoorNumCI
import Derived.WalkSmall
namespace Go.Proofs.YtmjmopdajlnkjaaDoor
open Go.RowKit
attribute [local go_sem ↓] Go.wp_at_zero Go.wp_at_succ

theorem bigLaw (len cap : Nat) (a : Option Addr) (w : World) : Calls Tryd.prog 5 #[.slice a len cap] w fun e w' => e = .returned (.bool (decide (1048576 < (len : Int)))) ∧ w = w' := by
  go_enter Tryd.func5, Tryd.ntmps5
  go_wp2
  go_ret
  exact ⟨rfl, rfl⟩
theorem gER : Tryd.prog.globalNamed "strconv.ErrRange" = some 1 := by kernel_rfl

set_option maxHeartbeats 8000000 in
set_option maxRecDepth 100000 in
theorem numbersLaw (a : Option Addr) (len cap : Nat) (w : World) (hcode : Code w a len w.heap.size) (hH : 2 ≤ w.heap.size) (t2 : TypeId) (p2 : Value) (hER : w.var? Tryd.prog "strconv.ErrRange" = some #[.iface t2 p2]) :
    Calls Tryd.prog 3 #[.slice a len cap] w fun e w' => e = .returned (.bool true) ∧ Below w.heap.size w w' := by
  have HER := Lib.hid hER
  clear hER
  by_cases hbig : 1048576 < (len : Int)
  · go_enter Tryd.func3, Tryd.ntmps3
    go_wp2_with (go_at_call 5; refine (bigLaw _ _ _ _).mono ?_; rintro e w1 ⟨rfl, rfl⟩)
    go_ret
    exact ⟨rfl, Below.refl _ _⟩
  · have hl : len ≤ 1048576 := by omega
    go_enter Tryd.func3, Tryd.ntmps3
    go_wp2_with fail
    refine (bigLaw _ _ _ _).mono ?_
    rintro e w1 ⟨rfl, rfl⟩
    go_wp2_with fail
    refine (drawPlacesC w a len cap hl hcode).mono ?_
    rintro e w1 ⟨gp, cp, L, hL12, HLB, rfl, hgp, hop, hb1⟩
    obtain ⟨q0, q1, q2, hp0, hp1, hp2, b0, b1, b2⟩ : ∃ q0 q1 q2 : Nat, w1.cell? ⟨gp, 0, none⟩ = some (.int .i64 (q0 : Int)) ∧ w1.cell? ⟨gp, 1, none⟩ = some (.int .i64 (q1 : Int)) ∧ w1.cell? ⟨gp, 2, none⟩ = some (.int .i64 (q2 : Int)) ∧ q0 < 10000 ∧ q1 < 10000 ∧ q2 < 10000 := by
      have h0 := HLB L[0] (List.getElem_mem _)
      have h1 := HLB L[1] (List.getElem_mem _)
      have h2 := HLB L[2] (List.getElem_mem _)
      refine ⟨L[0].toNat, L[1].toNat, L[2].toNat, ?_, ?_, ?_, by omega, by omega, by omega⟩
      · rw [show ((L[0].toNat : Nat) : Int) = L[0] from by omega]; exact (hop.cellAt 0 (by omega)).trans (intC_at L 0 (by omega))
      · rw [show ((L[1].toNat : Nat) : Int) = L[1] from by omega]; exact (hop.cellAt 1 (by omega)).trans (intC_at L 1 (by omega))
      · rw [show ((L[2].toNat : Nat) : Int) = L[2] from by omega]; exact (hop.cellAt 2 (by omega)).trans (intC_at L 2 (by omega))
    have hgl : gp < w1.heap.size := World.block_lt_of_cell? w1 _ hp0
    clear HLB hop hL12
    have hz0 : (0 : Int) ≤ (q0 : Int) := by omega
    have hz1 : (q0 : Int) < 10000 := by omega
    obtain ⟨S, hS⟩ : ∃ S, ({ data := (Lib.itoa ((q0 : Int) - 5000)).toArray } : ByteArray) = S := ⟨_, rfl⟩
    obtain ⟨Y, hY⟩ : ∃ Y, ({ data := (Lib.itoa (q1 : Int)).toArray } : ByteArray) = Y := ⟨_, rfl⟩
    obtain ⟨Z, hZ⟩ : ∃ Z, ({ data := (Lib.itoa (q2 : Int)).toArray } : ByteArray) = Z := ⟨_, rfl⟩
    obtain ⟨P, hP⟩ : ∃ P, ({ data := (Lib.itoa (100000 + (q0 : Int))).toArray } : ByteArray) = P := ⟨_, rfl⟩
    have F := law_facts ((q0 : Int) - 5000) q1 q2 q0 (by omega) (by omega) b1 b2 b0
    have zS := itoa_len ((q0 : Int) - 5000) (by omega) (by omega)
    have zY := itoa_len (q1 : Int) (by omega) (by omega)
    have zZ := itoa_len (q2 : Int) (by omega) (by omega)
    have zP := dd_len 6 (100000 + q0) (by omega)
    have zP2 : P.size ≤ 7 := by
      rw [← hP, ← list_len]
      show (Lib.itoa (100000 + (q0 : Int))).length ≤ 7
      rw [show (100000 + (q0 : Int)) = ((100000 + q0 : Nat) : Int) from by omega, itoa_nat]; exact zP
    clear zP
    unfold tx at F zS zY zZ
    rw [hS] at F zS
    rw [hY] at F zY
    rw [hZ] at F zZ
    rw [hP] at F
    obtain ⟨F1, F2, F3, F4, F5, F6, F7, F8, F9, F10⟩ := F
    have D0 : ∀ W : World, Calls Tryd.prog 7 #[.int .i64 ((q0 : Int) - 5000)] W fun e w' => e = .returned (.string S) ∧ Below W.heap.size W w' := fun W => by rw [← hS]; exact Dec.specDec _ W (by omega) (by omega)
    have D1 : ∀ W : World, Calls Tryd.prog 7 #[.int .i64 (q1 : Int)] W fun e w' => e = .returned (.string Y) ∧ Below W.heap.size W w' := fun W => by rw [← hY]; exact Dec.specDec _ W (by omega) (by omega)
    have D2 : ∀ W : World, Calls Tryd.prog 7 #[.int .i64 (q2 : Int)] W fun e w' => e = .returned (.string Z) ∧ Below W.heap.size W w' := fun W => by rw [← hZ]; exact Dec.specDec _ W (by omega) (by omega)
    have D3 : ∀ W : World, Calls Tryd.prog 7 #[.int .i64 (100000 + (q0 : Int))] W fun e w' => e = .returned (.string P) ∧ Below W.heap.size W w' := fun W => by rw [← hP]; exact Dec.specDec _ W (by omega) (by omega)
    clear hS hY hZ hP
    have HD0 := Lib.hid D0
    have HD1 := Lib.hid D1
    have HD2 := Lib.hid D2
    have HD3 := Lib.hid D3
    clear D0 D1 D2 D3
    have I : ∀ (s : ByteArray) (b : Bool), iOk s = b → s.size ≤ 1000 → ∀ W : World, Calls Tryd.prog 9 #[.string s] W fun e w' => e = .returned (.bool b) ∧ W = w' := fun s b h hz W => by rw [← h]; exact intI s W (by omega)
    have O : ∀ (s : ByteArray) (b : Bool), fOk s = b → s.size ≤ 1000 → ∀ W : World, Calls Tryd.prog 10 #[.string s] W fun e w' => e = .returned (.bool b) ∧ W = w' := fun s b h hz W => by rw [← h]; exact floatI s W (by omega)
    have NM : ∀ (s : ByteArray) (b : Bool), nOk s = b → s.size ≤ 1000 → ∀ W : World, Calls Tryd.prog 12 #[.string s] W fun e w' => e = .returned (.bool b) ∧ W = w' := fun s b h hz W => by rw [← h]; exact nameI s W (by omega)
    have FT : ∀ (s : ByteArray) (b : Bool), t32 s = b → s.size ≤ 1000 → ∀ W : World, Below w.heap.size w W → Calls Tryd.prog 11 #[.string s] W fun e w' => e = .returned (.bool b) ∧ Below W.heap.size W w' := fun s b h hz W hW => by rw [← h]; exact fitI s W (by omega) t2 p2 (var?_below hW gER (by omega) HER.out)
    have s1 : (S ++ ({ data := #[46, 53] } : ByteArray)).size ≤ 1000 := by rw [app_size]; show S.size + 2 ≤ 1000; omega
    have s2 : (S ++ ({ data := #[101] } : ByteArray)).size ≤ 1000 := by rw [app_size]; show S.size + 1 ≤ 1000; omega
    have s3 : (S ++ ({ data := #[101] } : ByteArray) ++ Y).size ≤ 1000 := by rw [app_size, app_size]; show S.size + 1 + Y.size ≤ 1000; omega
    have s4 : (S ++ ({ data := #[46, 48, 69, 45] } : ByteArray) ++ Z).size ≤ 1000 := by rw [app_size, app_size]; show S.size + 4 + Z.size ≤ 1000; omega
    have s5 : (S ++ ({ data := #[46] } : ByteArray)).size ≤ 1000 := by rw [app_size]; show S.size + 1 ≤ 1000; omega
    have s6 : (({ data := #[57, 57, 57, 57, 57] } : ByteArray) ++ P).size ≤ 1000 := by rw [app_size]; show 5 + P.size ≤ 1000; omega
    have c1 := Lib.hid (I _ _ F1 (by omega))
    have c2 := Lib.hid (O _ _ F2 (by omega))
    have c3 := Lib.hid (FT _ _ F3 (by omega))
    have c4 := Lib.hid (O _ _ F4 s1)
    have c5 := Lib.hid (O _ _ F5 s3)
    have c6 := Lib.hid (O _ _ F6 s4)
    have c7 := Lib.hid (I _ _ F7 s5)
    have c8 := Lib.hid (O _ _ F8 s5)
    have c9 := Lib.hid (O _ _ F9 s2)
    have c10 := Lib.hid (FT _ _ F10 s6)
    clear F1 F2 F3 F4 F5 F6 F7 F8 F9 F10 FT O s1 s2 s3 s4 s5 s6 HER
    go_wp2_with fail
    refine (HD0.out w1).mono ?_
    rintro e w2 ⟨rfl, hb2⟩
    have hb02 := hb1.trans (hb2.mono hb1.size)
    go_wp2_with fail
    refine (drawNameC w2 a len cap hl (fun i hi => ?_)).mono ?_
    · obtain ⟨x, b, e1, e2, e3, e4, e5⟩ := hcode i hi
      exact ⟨x, b, e1, Nat.lt_of_lt_of_le e2 hb02.size, e3, e4, by rw [hb02.cell (by rw [addBlock]; exact e2)]; exact e5⟩
    rintro e w3 ⟨nm, hnm, rfl, hb3⟩
    obtain ⟨n1, n2, n3, n4, n5, n6⟩ := name_facts nm hnm
    have d1 := Lib.hid (NM _ _ n1 (by omega))
    have d2 := Lib.hid (I _ _ (name_int n3 n4) (by omega))
    have d3 := Lib.hid (NM _ _ n5 (by rw [app_size]; show 1 + nm.size ≤ 1000; omega))
    have d4 := Lib.hid (NM _ _ n6 (by rw [app_size]; show nm.size + 1 ≤ 1000; omega))
    have hb13 : Below w1.heap.size w1 w3 := hb2.trans (hb3.mono hb2.size)
    have hb03 := hb1.trans (hb13.mono hb1.size)
    have hp03 : w3.cell? ⟨gp, 0, none⟩ = some (.int .i64 (q0 : Int)) := by rw [hb13.cell hgl]; exact hp0
    have hp13 : w3.cell? ⟨gp, 1, none⟩ = some (.int .i64 (q1 : Int)) := by rw [hb13.cell hgl]; exact hp1
    have hp23 : w3.cell? ⟨gp, 2, none⟩ = some (.int .i64 (q2 : Int)) := by rw [hb13.cell hgl]; exact hp2
    clear I NM n1 n3 n4 n5 n6 hp0 hp1 hp2 hnm hcode hb2 hb3 hb02
    have hgl3 : gp < w3.heap.size := World.block_lt_of_cell? w3 _ hp03
    go_wp2_with fail
    refine (c1.out w3).mono ?_
    rintro e x1 ⟨rfl, rfl⟩
    go_wp2_with fail
    refine (c2.out w3).mono ?_
    rintro e x1 ⟨rfl, rfl⟩
    go_wp2_with fail
    refine (c3.out w3 hb03).mono ?_
    rintro e w4 ⟨rfl, hb4⟩
    have hb04 := hb03.trans (hb4.mono hb03.size)
    have hp14 : w4.cell? ⟨gp, 1, none⟩ = some (.int .i64 (q1 : Int)) := by rw [hb4.cell hgl3]; exact hp13
    have hp24 : w4.cell? ⟨gp, 2, none⟩ = some (.int .i64 (q2 : Int)) := by rw [hb4.cell hgl3]; exact hp23
    have hp04 : w4.cell? ⟨gp, 0, none⟩ = some (.int .i64 (q0 : Int)) := by rw [hb4.cell hgl3]; exact hp03
    clear hp03 hp13 hp23 hb4 hb03 c1 c2 c3
    have hgl4 : gp < w4.heap.size := World.block_lt_of_cell? w4 _ hp04
    go_wp2_with fail
    refine (c4.out w4).mono ?_
    rintro e x1 ⟨rfl, rfl⟩
    go_wp2_with fail
    refine (HD1.out w4).mono ?_
    rintro e w5 ⟨rfl, hb5⟩
    have hb05 := hb04.trans (hb5.mono hb04.size)
    have hp25 : w5.cell? ⟨gp, 2, none⟩ = some (.int .i64 (q2 : Int)) := by rw [hb5.cell hgl4]; exact hp24
    have hp05 : w5.cell? ⟨gp, 0, none⟩ = some (.int .i64 (q0 : Int)) := by rw [hb5.cell hgl4]; exact hp04
    clear hp04 hp14 hp24 hb5 hb04 c4
    have hgl5 : gp < w5.heap.size := World.block_lt_of_cell? w5 _ hp05
    go_wp2_with fail
    refine (c5.out w5).mono ?_
    rintro e x1 ⟨rfl, rfl⟩
    go_wp2_with fail
    refine (HD2.out w5).mono ?_
    rintro e w6 ⟨rfl, hb6⟩
    have hb06 := hb05.trans (hb6.mono hb05.size)
    have hp06 : w6.cell? ⟨gp, 0, none⟩ = some (.int .i64 (q0 : Int)) := by rw [hb6.cell hgl5]; exact hp05
    clear hp05 hp25 hb6 hb05 c5
    go_wp2_with fail
    refine (c6.out w6).mono ?_
    rintro e x1 ⟨rfl, rfl⟩
    go_wp2_with fail
    refine (c7.out w6).mono ?_
    rintro e x1 ⟨rfl, rfl⟩
    go_wp2_with fail
    refine (c8.out w6).mono ?_
    rintro e x1 ⟨rfl, rfl⟩
    go_wp2_with fail
    refine (c9.out w6).mono ?_
    rintro e x1 ⟨rfl, rfl⟩
    go_wp2_with fail
    refine (d1.out w6).mono ?_
    rintro e x1 ⟨rfl, rfl⟩
    go_wp2_with fail
    refine (d2.out w6).mono ?_
    rintro e x1 ⟨rfl, rfl⟩
    go_wp2_with fail
    refine (d3.out w6).mono ?_
    rintro e x1 ⟨rfl, rfl⟩
    go_wp2_with fail
    refine (d4.out w6).mono ?_
    rintro e x1 ⟨rfl, rfl⟩
    go_wp2_with fail
    refine (HD3.out w6).mono ?_
    rintro e w7 ⟨rfl, hb7⟩
    have hb07 := hb06.trans (hb7.mono hb06.size)
    go_wp2_with fail
    refine (c10.out w7 hb07).mono ?_
    rintro e w8 ⟨rfl, hb8⟩
    have hb08 := hb07.trans (hb8.mono hb07.size)
    go_wp2
    go_ret
    exact ⟨rfl, hb08⟩
end Go.Proofs.YtmjmopdajlnkjaaDoor
