/- What is proved: the law FnFigures returns true at every draw: a drawn text comes back from Hex, a drawn number in 0 .. MaxNumber from Decimal; what is brought between is between, and stays. Used by the proof of FnFiguresCardSaid. -/
import Derived.Test.YtjdeknbipncjoaaDoorFgA
import Derived.Test.YtjdeknbipncjoaaDoorRdI
import Derived.Test.YtjdeknbipncjoaaDoorDrP
import Derived.Deep.RegionHeld3
import Derived.Deep.CutBlock
import Derived.Deep.DeepCutAuto
import Derived.WalkSmall
namespace Go.Proofs.YtjdeknbipncjoaaDoor
namespace Fg
open Go.RowKit
attribute [local go_sem ↓] Go.wp_at_zero Go.wp_at_succ

theorem bigLaw (len cap : Nat) (a : Option Addr) (w : World) : Calls Tryd.prog 4 #[.slice a len cap] w fun e w' => e = .returned (.bool (decide (1048576 < (len : Int)))) ∧ w = w' := by
  go_enter Tryd.func4, Tryd.ntmps4
  go_wp2
  go_ret
  exact ⟨rfl, rfl⟩
theorem gER : Tryd.prog.globalNamed "strconv.ErrRange" = some 1 := by kernel_rfl
theorem gES : Tryd.prog.globalNamed "strconv.ErrSyntax" = some 0 := by kernel_rfl

theorem byteOf (q : Nat) : (((UInt8.ofNat q).toNat : Nat) : Int) = IntKind.u8.wrap (q : Int) := by
  rw [UInt8.toNat_ofNat', IntKind.wrap_u8]; omega

/-- Two bytes that lie in a block are a text of two bytes. -/
theorem conv_two (W : World) (N : Nat) (x y : UInt8) (h0 : W.cell? ⟨N, 0, none⟩ = some (.int .u8 (x.toNat : Int))) (h1 : W.cell? ⟨N, 1, none⟩ = some (.int .u8 (y.toNat : Int))) :
    (convert 22 9 (.slice (some ⟨N, 0, none⟩) 2 2)).run Tryd.prog W = .ok (.string ⟨#[x, y]⟩) W := by
  have := run_convert_bytes_back (P := Tryd.prog) W 22 9 5 ⟨N, 0, none⟩ 2 [x, y] Tryd.underlying22 Tryd.underlying5 Tryd.underlying9 (fun j hj => by
    have hj2 : j < 2 := by simpa using hj
    match j, hj2 with
    | 0, _ => simpa [Addr.add] using h0
    | 1, _ => simpa [Addr.add] using h1)
  exact this
theorem conv_new (W : World) (x y : UInt8) : (convert 22 9 (.slice (some ⟨W.heap.size, 0, none⟩) 2 2)).run Tryd.prog (W.alloc (.cells #[.int .u8 (x.toNat : Int), .int .u8 (y.toNat : Int)] 5)) = .ok (.string ⟨#[x, y]⟩) (W.alloc (.cells #[.int .u8 (x.toNat : Int), .int .u8 (y.toNat : Int)] 5)) :=
  conv_two _ _ x y (by simp) (by simp)

theorem conv_newD (W : World) (x y : UInt8) : (convert 22 9 (.slice (some ⟨W.heap.size, 0, none⟩) 2 2)).run Tryd.prog (W.alloc (.cells #[.int .u8 (x.toNat : Int), .int .u8 (y.toNat : Int)] 5)).drew = .ok (.string ⟨#[x, y]⟩) (W.alloc (.cells #[.int .u8 (x.toNat : Int), .int .u8 (y.toNat : Int)] 5)).drew :=
  conv_two _ _ x y (by simp) (by simp)
theorem conv_keep {W w2 : World} {x y : UInt8} (hb : Below (W.alloc (.cells #[.int .u8 (x.toNat : Int), .int .u8 (y.toNat : Int)] 5)).drew.heap.size (W.alloc (.cells #[.int .u8 (x.toNat : Int), .int .u8 (y.toNat : Int)] 5)).drew w2) :
    (convert 22 9 (.slice (some ⟨W.heap.size, 0, none⟩) 2 2)).run Tryd.prog w2 = .ok (.string ⟨#[x, y]⟩) w2 :=
  conv_two w2 W.heap.size x y (by rw [hb.cell (by simp)]; simp) (by rw [hb.cell (by simp)]; simp)

set_option maxHeartbeats 8000000 in
set_option maxRecDepth 100000 in
theorem figuresLaw (a : Option Addr) (len cap : Nat) (w : World) (hcode : Code w a len w.heap.size) (hH : 2 ≤ w.heap.size) (t1 t2 : TypeId) (p1 p2 : Value)
    (hES : w.var? Tryd.prog "strconv.ErrSyntax" = some #[.iface t1 p1]) (hER : w.var? Tryd.prog "strconv.ErrRange" = some #[.iface t2 p2]) (htab : Lib.TabIs Tryd.prog w "internal/strconv.uint64pow10" .u64 Lib.pow10Tab) :
    Calls Tryd.prog 3 #[.slice a len cap] w fun e w' => e = .returned (.bool true) ∧ Below w.heap.size w w' := by
  have HT := Lib.hid (Lib.tabBelow_of_tabIs htab)
  have HES := Lib.hid hES
  have HER := Lib.hid hER
  clear hES hER htab
  by_cases hbig : 1048576 < (len : Int)
  · go_enter Tryd.func3, Tryd.ntmps3
    go_wp2_with (go_at_call 4; refine (bigLaw _ _ _ _).mono ?_; rintro e w1 ⟨rfl, rfl⟩)
    go_ret
    exact ⟨rfl, Below.refl _ _⟩
  · have hl : len ≤ 1048576 := by omega
    go_enter Tryd.func3, Tryd.ntmps3
    go_wp2_with fail
    refine (bigLaw _ _ _ _).mono ?_
    rintro e w1 ⟨rfl, rfl⟩
    go_wp2_with fail
    refine (drawPlacesC w a len cap hl hcode).mono ?_
    rintro e w1 ⟨gp, cp, L, hL12, HLB, rfl, hgp, hop, hb1⟩
    obtain ⟨q, hq, hc⟩ : ∃ q : Nat → Nat, (∀ i, i < 12 → q i < 10000) ∧ ∀ i, i < 12 → w1.cell? ⟨gp, i, none⟩ = some (.int .i64 (q i : Int)) := by
      refine ⟨fun i => (L.getD i 0).toNat, fun i hi => ?_, fun i hi => ?_⟩
      · have e : L.getD i 0 = L[i] := by simp [List.getD_eq_getElem?_getD, hL12, hi]
        have := HLB L[i] (List.getElem_mem _)
        show (L.getD i 0).toNat < 10000
        rw [e]; omega
      · have e : L.getD i 0 = L[i] := by simp [List.getD_eq_getElem?_getD, hL12, hi]
        have := HLB L[i] (List.getElem_mem _)
        show _ = some (Value.int .i64 (((L.getD i 0).toNat : Nat) : Int))
        rw [e, show ((L[i].toNat : Nat) : Int) = L[i] from by omega]
        have h1 := (hop.cellAt i (by omega)).trans (intC_at L i (by omega))
        simpa using h1
    have hgl : gp < w1.heap.size := World.block_lt_of_cell? w1 _ (hc 0 (by omega))
    have HC : Hid (∀ W : World, Below w1.heap.size w1 W → ∀ i, i < 12 → W.cell? ⟨gp, i, none⟩ = some (.int .i64 (q i : Int))) := fun W hW i hi => by rw [hW.cell hgl]; exact hc i hi
    obtain ⟨q0, e0⟩ : ∃ x, q 0 = x := ⟨_, rfl⟩
    obtain ⟨q1, e1⟩ : ∃ x, q 1 = x := ⟨_, rfl⟩
    obtain ⟨q2, e2⟩ : ∃ x, q 2 = x := ⟨_, rfl⟩
    obtain ⟨q3, e3⟩ : ∃ x, q 3 = x := ⟨_, rfl⟩
    obtain ⟨q4, e4⟩ : ∃ x, q 4 = x := ⟨_, rfl⟩
    obtain ⟨q5, e5⟩ : ∃ x, q 5 = x := ⟨_, rfl⟩
    obtain ⟨q6, e6⟩ : ∃ x, q 6 = x := ⟨_, rfl⟩
    obtain ⟨q7, e7⟩ : ∃ x, q 7 = x := ⟨_, rfl⟩
    have K : Hid (∀ W : World, Below w1.heap.size w1 W → W.cell? ⟨gp, 0, none⟩ = some (.int .i64 (q0 : Int)) ∧ W.cell? ⟨gp, 1, none⟩ = some (.int .i64 (q1 : Int)) ∧ W.cell? ⟨gp, 2, none⟩ = some (.int .i64 (q2 : Int)) ∧ W.cell? ⟨gp, 3, none⟩ = some (.int .i64 (q3 : Int)) ∧ W.cell? ⟨gp, 4, none⟩ = some (.int .i64 (q4 : Int)) ∧ W.cell? ⟨gp, 5, none⟩ = some (.int .i64 (q5 : Int)) ∧ W.cell? ⟨gp, 6, none⟩ = some (.int .i64 (q6 : Int)) ∧ W.cell? ⟨gp, 7, none⟩ = some (.int .i64 (q7 : Int))) := fun W hW => by
      have h := HC.out W hW
      rw [← e0, ← e1, ← e2, ← e3, ← e4, ← e5, ← e6, ← e7]
      exact ⟨h 0 (by omega), h 1 (by omega), h 2 (by omega), h 3 (by omega), h 4 (by omega), h 5 (by omega), h 6 (by omega), h 7 (by omega)⟩
    have b0 : (q0 : Int) < 10000 := by have := hq 0 (by omega); omega
    have b1 : (q1 : Int) < 10000 := by have := hq 1 (by omega); omega
    have b2 : (q2 : Int) < 10000 := by have := hq 2 (by omega); omega
    have b3 : (q3 : Int) < 10000 := by have := hq 3 (by omega); omega
    have b4 : (q4 : Int) < 10000 := by have := hq 4 (by omega); omega
    have b5 : (q5 : Int) < 10000 := by have := hq 5 (by omega); omega
    clear HC hc hq e0 e1 e2 e3 e4 e5 e6 e7 HLB hop hL12 q
    obtain ⟨c6, hc6⟩ : ∃ c : UInt8, ((c.toNat : Nat) : Int) = IntKind.u8.wrap (q6 : Int) := ⟨_, byteOf q6⟩
    obtain ⟨c7, hc7⟩ : ∃ c : UInt8, ((c.toNat : Nat) : Int) = IntKind.u8.wrap (q7 : Int) := ⟨_, byteOf q7⟩
    obtain ⟨S, hS⟩ : ∃ S, ({ data := (Lib.itoa (q5 : Int)).toArray } : ByteArray) = S := ⟨_, rfl⟩
    have zS : S.size ≤ 10 := by
      rw [← hS]
      show (Lib.itoa (q5 : Int)).toArray.size ≤ 10
      rw [List.size_toArray, Lib.itoa_nonneg]
      exact Rd.dd_len 9 q5 (by omega)
    have D5 : Hid (∀ W : World, Below w1.heap.size w1 W → Calls Tryd.prog 6 #[.int .i64 (q5 : Int)] W fun e w' => e = .returned (.string S) ∧ Below W.heap.size W w' ∧ Below w1.heap.size w1 w') := fun W hW => by
      rw [← hS]
      refine (Rd.implDec _ W (by omega) (by omega) (HT.out W (hb1.trans (hW.mono hb1.size)))).mono ?_
      rintro e w' ⟨rfl, hb⟩
      exact ⟨rfl, hb, hW.trans (hb.mono hW.size)⟩
    clear hS
    obtain ⟨x0, x1, x2, x3, x4, x5, x6, x7⟩ := K.out w1 (Below.refl _ _)
    have hs1 := hb1.size
    go_upto_region 4 with fail
    go_cut [4] (fun r wc => r = .string (S ++ ⟨#[c6, c7]⟩) ∧ Below w1.heap.size w1 wc)
    case first =>
      have r6 := hc6.symm
      have r7 := hc7.symm
      clear hc6 hc7
      have hcv := conv_newD w1 c6 c7
      clear x0 x1 x2 x3 x4
      go_region_held (fun W => W.cell? ⟨gp, 5, none⟩ = some (.int .i64 (q5 : Int)) ∧ W.cell? ⟨gp, 6, none⟩ = some (.int .i64 (q6 : Int)) ∧ W.cell? ⟨gp, 7, none⟩ = some (.int .i64 (q7 : Int))) (go_keep)
        (first | (go_at_call 6; refine (D5.out _ ?_).mono ?_; (first | exact (Below.refl _ _).drew | exact ((Below.refl _ _).alloc (Nat.le_refl _) _).drew | exact ((Below.refl _ _).drew).alloc (Nat.le_refl _) _); rintro e w2 ⟨rfl, hb2, hb3⟩; obtain ⟨-, -, -, -, -, y5, y6, y7⟩ := K.out w2 hb3; have hcv2 := conv_new w2 c6 c7; try (have hcv3 : (convert 22 9 (.slice (some ⟨w1.heap.size, 0, none⟩) 2 2)).run Tryd.prog w2 = .ok (.string ⟨#[c6, c7]⟩) w2 := conv_keep hb2)))
      all_goals go_wp2
      all_goals go_meet
      all_goals first | exact ⟨rfl, hb3⟩ | exact ⟨rfl, hb3.alloc hb3.size _⟩
    case rest =>
      obtain ⟨hr, hb2⟩ := hcut
      subst hr
      rename World => w2
      clear x0 x1 x2 x3 x4 x5 x6 x7 D5 hc6 hc7 hcode
      have zT : (S ++ ({ data := #[c6, c7] } : ByteArray)).size ≤ 12 := by
        rw [ByteArray.size_append]; show S.size + 2 ≤ 12; omega
      obtain ⟨T, hT⟩ : ∃ T, S ++ ({ data := #[c6, c7] } : ByteArray) = T := ⟨_, rfl⟩
      rw [hT] at zT ⊢
      clear hT zS
      have cH := hexC T (by omega)
      have cU := unhexC T (by omega)
      have zF := figs_size T
      obtain ⟨H, hF⟩ : ∃ H, figs T = H := ⟨_, rfl⟩
      rw [hF] at cH cU zF
      clear hF
      have HH := Lib.hid cH
      have HU := Lib.hid cU
      clear cH cU
      have e1 : ((H.size : Int) == 2 * (T.size : Int)) = true := by simp; omega
      have zT' : (T.size : Int) ≤ 12 := by omega
      clear zF
      go_wp2_with fail
      refine (HH.out w2).mono ?_
      rintro e w3 ⟨rfl, hb3⟩
      have hb13 := hb2.trans (hb3.mono hb2.size)
      clear hb3 HH
      go_wp2_with fail
      refine (HU.out w3).mono ?_
      rintro e w4 ⟨rfl, hb4⟩
      have hb14 := hb13.trans (hb4.mono hb13.size)
      clear hb4 HU hb13 hb2
      obtain ⟨y0, y1, -⟩ := K.out w4 hb14
      go_wp2_with fail
      go_quiet (fail)
      clear y0 y1
      have hb15 : Below w1.heap.size w1 (w4.drewN nq) := hb14.trans ((below_drewN w4 nq).mono hb14.size)
      obtain ⟨w5, hw5⟩ : ∃ w5, w4.drewN nq = w5 := ⟨_, rfl⟩
      rw [hw5] at hb15 ⊢
      clear hw5 hb14
      obtain ⟨Z, hZ⟩ : ∃ Z, ({ data := (Lib.itoa ((q0 : Int) * 10000 + (q1 : Int))).toArray } : ByteArray) = Z := ⟨_, rfl⟩
      have hn : (q0 : Int) * 10000 + (q1 : Int) = ((q0 * 10000 + q1 : Nat) : Int) := by omega
      have zZ : Z.size ≤ 10 := by
        rw [← hZ, hn]
        show (Lib.itoa _).toArray.size ≤ 10
        rw [List.size_toArray, Lib.itoa_nonneg]
        exact Rd.dd_len 9 _ (by omega)
      have HD : Hid (∀ W : World, Below w.heap.size w W → Calls Tryd.prog 6 #[.int .i64 ((q0 : Int) * 10000 + (q1 : Int))] W fun e w' => e = .returned (.string Z) ∧ Below W.heap.size W w') := fun W hW => by
        rw [← hZ]; exact Rd.implDec _ W (by omega) (by omega) (HT.out W hW)
      have HR : Hid (∀ W : World, Below w.heap.size w W → Calls Tryd.prog 9 #[.string Z] W fun e w' => e = .returned (.tuple #[.int .i64 ((q0 : Int) * 10000 + (q1 : Int)), .bool true]) ∧ Below W.heap.size W w') := fun W hW => by
        have h := Rd.implRead Z W (by omega) t1 t2 p1 p2 (var?_below hW gES (by omega) HES.out) (var?_below hW gER (by omega) HER.out) (HT.out W hW)
        have hz : Z.data.toList = Lib.decDigits (q0 * 10000 + q1) := by rw [← hZ, hn, Lib.itoa_nonneg]
        rw [hz, Rd.R_dd _ (by omega), ← hn] at h
        exact h
      clear hZ hn zZ
      have hb05 := hb1.trans (hb15.mono hb1.size)
      go_wp2_with fail
      refine (HD.out w5 hb05).mono ?_
      rintro e w6 ⟨rfl, hb6⟩
      have hb16 := hb15.trans (hb6.mono hb15.size)
      have hb06 := hb1.trans (hb16.mono hb1.size)
      go_wp2_with fail
      refine (HR.out w6 hb06).mono ?_
      rintro e w7 ⟨rfl, hb7⟩
      have hb17 := hb16.trans (hb7.mono hb16.size)
      clear hb05 hb06 hb15 hb16 hb6 hb7 HD HR HT HES HER
      have hbd := br_bd ((q2 : Int) - 5000) (-(q3 : Int)) (q4 : Int) (by omega)
      have cB : ∀ W, Calls Tryd.prog 10 #[.int .i64 ((q2 : Int) - 5000), .int .i64 (-(q3 : Int)), .int .i64 (q4 : Int)] W fun e w' => e = .returned (.int .i64 (br ((q2 : Int) - 5000) (-(q3 : Int)) (q4 : Int))) ∧ w' = W := broughtC _ _ _ (by omega)
      have cB2 : ∀ W, Calls Tryd.prog 10 #[.int .i64 (br ((q2 : Int) - 5000) (-(q3 : Int)) (q4 : Int)), .int .i64 (-(q3 : Int)), .int .i64 (q4 : Int)] W fun e w' => e = .returned (.int .i64 (br ((q2 : Int) - 5000) (-(q3 : Int)) (q4 : Int))) ∧ w' = W := fun W => by
        have h := broughtC (br ((q2 : Int) - 5000) (-(q3 : Int)) (q4 : Int)) (-(q3 : Int)) (q4 : Int) (by omega) W
        rw [br_in _ _ _ hbd.1 hbd.2] at h
        exact h
      obtain ⟨b, hb⟩ : ∃ b, br ((q2 : Int) - 5000) (-(q3 : Int)) (q4 : Int) = b := ⟨_, rfl⟩
      rw [hb] at hbd
      simp only [hb] at cB cB2
      clear hb
      obtain ⟨l0, l1⟩ := hbd
      have HB := Lib.hid cB
      have HB2 := Lib.hid cB2
      clear cB cB2
      obtain ⟨-, -, y2, y3, y4, -⟩ := K.out w7 hb17
      go_wp2_with fail
      go_quiet ((go_at_call 10; exact Calls.quiet_of_same (HB.out _)))
      have hb18 : Below w1.heap.size w1 (w7.drewN nq) := hb17.trans ((below_drewN w7 nq).mono hb17.size)
      obtain ⟨w8, hw8⟩ : ∃ w8, w7.drewN nq = w8 := ⟨_, rfl⟩
      rw [hw8] at hb18 ⊢
      clear hw8 hb17 y2 y3 y4 HB
      obtain ⟨-, -, -, y3, y4, -⟩ := K.out w8 hb18
      go_wp2_with fail
      go_quiet ((go_at_call 10; exact Calls.quiet_of_same (HB2.out _)))
      go_wp2
      go_ret
      exact ⟨rfl, hb1.trans ((hb18.trans ((below_drewN w8 nq).mono hb18.size)).mono hb1.size)⟩
end Fg
end Go.Proofs.YtjdeknbipncjoaaDoor
