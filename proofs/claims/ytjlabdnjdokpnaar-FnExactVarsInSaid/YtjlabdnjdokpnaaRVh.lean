/- What is proved: the laws' marks of a value, walked: how many there are, and what is written. -/
import Derived.Test.YtjlabdnjdokpnaaRVg
namespace Go.Proofs.YtjlabdnjdokpnaaR
namespace Va
open Go.RowKit
attribute [local go_sem ↓] Go.wp_at_zero Go.wp_at_succ

theorem ownN_row {w : World} {lo hi m : Nat} {nm : Nat → ByteArray} {c : Value} (h : OwnN w lo hi m nm c) : ∃ g xs, c = .slice (some ⟨g, 0, none⟩) m m ∧ lo ≤ g ∧ g < hi ∧ w.ownsRow 0 9 1 (.slice (some ⟨g, 0, none⟩) m m) m xs := by
  obtain ⟨g, cur, e, hm, h1, h2, hg, hs, hc⟩ := h
  refine ⟨g, cur.toList, e, h1, h2, by simp [hs], .inr ⟨g, m, cur, rfl, Nat.zero_le _, hg, Nat.le_refl _, hm, by omega, ?_⟩⟩
  rw [Nat.mul_one, ← hs, ← Array.length_toList, List.take_length]

/-- The contract of a value's items. -/
def MkOne : V → Prop
  | .no => True
  | .mk _ _ n it _ _ => ∀ (w : World) (lo hi k : Nat) (c : Value), 1 ≤ k → k + mks n it ≤ 8000000 → hi ≤ w.heap.size → OwnI w lo hi n it c →
    Calls Try.prog 28 #[c, .int .i64 (k : Int)] w fun e w' => e = .returned (.int .i64 ((k : Int) + (mks n it : Int))) ∧ Out lo hi w w'

set_option maxHeartbeats 4000000 in
theorem mkStep (kk : Int) (t : ByteArray) (n : Nat) (it : Nat → V) (m : Nat) (nm : Nat → ByteArray) (hit : ∀ i, i < n → MkOne (it i)) : MkOne (.mk kk t n it m nm) := by
  intro w lo hi k c hk hkb hhi h
  obtain ⟨g, r, cur, rfl, hn, hlo, hr0, hrn, hr, hg, hcs, hc⟩ := h
  unfold maxLen at hn
  have hgl := lt_of hg
  have HG := Lib.hid hg
  have HC := Lib.hid hc
  have HCS := Lib.hid hcs
  have HRR := Lib.hid hr
  have hgn : g < r n := by have := r_le hr (Nat.zero_le n) (Nat.le_refl n); omega
  clear hg hc hcs hr
  go_enter Try.func28, Try.ntmps28
  go_wp2
  go_loopw [1, 5] (fun kv i wr => ∃ p : Nat, p ≤ n ∧ i = .int .i64 p ∧ kv = .int .i64 ((k + sumTo (fun i => 2 + mkv (it i)) p : Nat) : Int) ∧ MkR w wr g (r 0) (r p)) (fun _ i _ => n - (intOf i).toNat)
  case atStart => exact ⟨0, Nat.zero_le _, rfl, by simp [sumTo], MkR.refl _ _ _ _⟩
  case round =>
    obtain ⟨p, hp, rfl, rfl, hmk⟩ := hrel
    obtain ⟨T, hT⟩ : ∃ T, k + sumTo (fun i => 2 + mkv (it i)) p = T := ⟨_, rfl⟩
    rw [hT]
    have HT := Lib.hid hT
    have hTb : T ≤ 8000000 := by
      have := sumTo_le (fun i => 2 + mkv (it i)) hp
      unfold mks at hkb; omega
    have hT1 : 1 ≤ T := by omega
    clear hT
    by_cases hlt : p < n
    · have k0 : (0 : Int) ≤ (p : Int) := by omega
      have k1 : (p : Int) < (n : Int) := by omega
      have HS : Hid (k + sumTo (fun i => 2 + mkv (it i)) (p + 1) = T + 2 + mkv (it p)) := by show _ = _; rw [sumTo, ← HT.out]; omega
      have hTm : T + 2 + mkv (it p) ≤ 8000000 := by
        have h1 := sumTo_le (fun i => 2 + mkv (it i)) (i := p + 1) (n := n) hlt
        have h2 := HS.out
        unfold mks at hkb; omega
      obtain ⟨d0, d1, d2, d3, q0, q1, q2, q3, ho⟩ := HC.out p hlt
      have hr0p := r_le HRR.out (Nat.zero_le p) hp
      have hrpn := r_le HRR.out (i := p + 1) (j := n) hlt (Nat.le_refl n)
      have hrpp := HRR.out p hlt
      have hitp := hit p hlt
      match hv : it p, ho, hitp, HS, hTm with
      | .no, ho, _, _, _ => exact ho.elim
      | .mk ka ta na ita ma nma, ho, hitp, HS, hTm =>
      obtain ⟨-, -, -, mid, hoI, hoN⟩ := Own_mk.1 ho
      rw [mkv_mk] at HS hTm
      have hmid : r p ≤ mid ∧ mid < r (p + 1) := by
        obtain ⟨g', r', cur', -, -, a1, a2, a3, a4, -⟩ := hoI
        obtain ⟨g2, cur2, -, -, b1, b2, -⟩ := hoN
        have := r_le a4 (Nat.zero_le na) (Nat.le_refl na)
        omega
      obtain ⟨cur1, hg1, hs1, hq1⟩ := hmk.row cur HG.out
      have hcs := HCS.out
      obtain ⟨o0, p0⟩ : ∃ o0, wr.cell? ⟨g, p * 4, none⟩ = some o0 := by rw [cell_of hg1]; exact ⟨_, Array.getElem?_eq_getElem (by omega)⟩
      have z0 : wr.frozen? ⟨g, p * 4, none⟩ = false := frozen_no hg1 _
      have HMK := Lib.hid hmk
      have HG1 := Lib.hid hg1
      have HQ1 := Lib.hid hq1
      have hwr := hmk.size
      clear hmk hg1 hq1 ho
      go_wp2_with fail
      have mA : MkR w (wr.setCell ⟨g, p * 4, none⟩ (.int .i64 (T : Int))) g (r 0) (r p) := HMK.out.set p 0 (by omega) _
      refine (Tx.markCI ((T : Int) + 1) (T + 1) (by omega) _ (by omega) (by omega)).mono ?_
      rintro e wB ⟨rfl, hbB⟩
      have mB := mA.below hgl hbB
      clear mA HMK HG1 HQ1 p0 z0
      obtain ⟨S, hS⟩ : ∃ S : ByteArray, (⟨(Tx.markL (T + 1)).toArray⟩ : ByteArray) = S := ⟨_, rfl⟩
      rw [hS]
      clear hS
      obtain ⟨curB, hgB, hsB, hqB⟩ := mB.row cur HG.out
      obtain ⟨oB, pB⟩ : ∃ oB, wB.cell? ⟨g, p * 4 + 1, none⟩ = some oB := by rw [cell_of hgB]; exact ⟨_, Array.getElem?_eq_getElem (by omega)⟩
      have zB : wB.frozen? ⟨g, p * 4 + 1, none⟩ = false := frozen_no hgB _
      have mC : Hid (MkR w (wB.setCell ⟨g, p * 4 + 1, none⟩ (.string S)) g (r 0) (r p)) := mB.set p 1 (by omega) _
      have pC : (wB.setCell ⟨g, p * 4 + 1, none⟩ (.string S)).cell? ⟨g, p * 4 + 2, none⟩ = some d2 := by
        obtain ⟨curC, hgC, hsC, hqC⟩ := mC.out.row cur HG.out
        rw [cell_of hgC, (hqC p).1]; exact q2
      have HmB := Lib.hid mB
      clear hgB hqB mB
      go_wp2_with fail
      obtain ⟨wC, hwC⟩ : ∃ wC, wB.setCell ⟨g, p * 4 + 1, none⟩ (.string S) = wC := ⟨_, rfl⟩
      rw [hwC] at mC ⊢
      clear hwC pC HmB
      have hCs := mC.out.size
      have hoC : OwnI wC (r p) mid na ita d2 := hoI.same fun b b1 b2 => mC.out.block b (by omega) (by omega) (.inr b1)
      rw [show (T : Int) + 1 + 1 = ((T + 2 : Nat) : Int) from by omega]
      refine (hitp wC (r p) mid (T + 2) d2 (by omega) (by omega) (by omega) hoC).mono ?_
      rintro e wD ⟨rfl, hoD⟩
      have mD := mC.out.out hgl (by omega) hr0p hmid.1 hoD
      clear hoC hoD mC
      have pD : wD.cell? ⟨g, p * 4 + 3, none⟩ = some d3 := by
        obtain ⟨curD, hgD, hsD, hqD⟩ := mD.row cur HG.out
        rw [cell_of hgD, (hqD p).2]; exact q3
      have hND : OwnN wD mid (r (p + 1)) ma nma d3 := hoN.same fun b b1 b2 => mD.block b (by omega) (by omega) (.inr b1)
      obtain ⟨gn, ns, hd3, hgn1, hgn2, hrowD⟩ := ownN_row hND
      subst hd3
      have HmD := Lib.hid mD
      clear hND mD
      rw [show ((T + 2 : Nat) : Int) + ((mks na ita : Nat) : Int) = ((T + 2 + mks na ita : Nat) : Int) from by omega]
      go_wp2_with fail
      refine (marksG ns ma (T + 2 + mks na ita) 0 gn ma wD (by omega) (by omega) hrowD).mono ?_
      rintro e wE ⟨rfl, -, hgrE⟩
      have HmE : Hid (MkR w wE g (r 0) (r (p + 1))) := HmD.out.grown hgl (by omega) (by omega) (by omega) hgn2 hgrE
      clear hgrE hrowD HmD pD
      go_wp2
      go_roundw
      case rel => exact ⟨p + 1, by omega, by go_num, by rw [HS.out]; congr 1; omega, HmE.out⟩
      case measure => simp [intOf]; omega
    · obtain rfl : p = n := by omega
      go_wp2
      go_ret
      refine ⟨by rw [← HT.out]; unfold mks; simp, hmk.os, hmk.tape, hmk.output, hmk.size, fun b hb hr => hmk.block b hb (by omega) (by omega)⟩

theorem mkV : ∀ v : V, MkOne v
  | .no => trivial
  | .mk k t n it m nm => mkStep k t n it m nm fun i _ => mkV (it i)

set_option maxHeartbeats 1000000 in
/-- The marks of a whole value. -/
theorem markV (v : V) (w : World) (lo hi : Nat) (c0 c1 c2 c3 : Value) (hs : sz v ≤ 1048576) (hhi : hi ≤ w.heap.size) (h : Own w v lo hi c0 c1 c2 c3) :
    Calls Try.prog 16 #[.agg #[c0, c1, c2, c3], .int .i64 1] w fun e w' => e = .returned (.int .i64 ((1 + mkv v : Nat) : Int)) ∧ Out lo hi w w' := by
  match v, h, hs with
  | .mk k t n it m nm, h, hs =>
  have hb := mkv_sz (.mk k t n it m nm)
  rw [mkv_mk] at hb ⊢
  obtain ⟨rfl, rfl, -, mid, hoI, hoN⟩ := Own_mk.1 h
  have hmid : lo ≤ mid ∧ mid < hi := by
    obtain ⟨g', r', cur', -, -, a1, a2, a3, a4, -⟩ := hoI
    obtain ⟨g2, cur2, -, -, b1, b2, -⟩ := hoN
    have := r_le a4 (Nat.zero_le n) (Nat.le_refl n)
    omega
  obtain ⟨gi, hd2⟩ : ∃ g, c2 = .slice (some ⟨g, 0, none⟩) n n := by obtain ⟨g, r, cur, e, -⟩ := hoI; exact ⟨g, e⟩
  obtain ⟨gn, hd3⟩ : ∃ g, c3 = .slice (some ⟨g, 0, none⟩) m m := by obtain ⟨g, cur, e, -⟩ := hoN; exact ⟨g, e⟩
  clear h
  subst hd2 hd3
  obtain ⟨W1, hW1⟩ : ∃ W1, w.alloc (Obj.cells #[.int .i64 k, .string t, .slice (some ⟨gi, 0, none⟩) n n, .slice (some ⟨gn, 0, none⟩) m m] 30) = W1 := ⟨_, rfl⟩
  have ba : Below w.heap.size w W1 := by rw [← hW1]; exact below_alloc _ _
  have hb0 : W1.heap[w.heap.size]? = some (Obj.cells #[.int .i64 k, .string t, .slice (some ⟨gi, 0, none⟩) n n, .slice (some ⟨gn, 0, none⟩) m m] 30) := by rw [← hW1]; exact heap_alloc_new w _
  have hz : W1.heap.size = w.heap.size + 1 := by rw [← hW1]; simp
  have HZ := Lib.hid hz
  have HB0 := Lib.hid hb0
  have p2 : W1.cell? ⟨w.heap.size, 2, none⟩ = some (.slice (some ⟨gi, 0, none⟩) n n) := by rw [cell_of hb0]; rfl
  clear hb0 hz
  have cI : Calls Try.prog 28 #[.slice (some ⟨gi, 0, none⟩) n n, .int .i64 1] W1 fun e w' => e = .returned (.int .i64 ((1 + mks n it : Nat) : Int)) ∧ Out lo mid W1 w' :=
    (mkV (.mk k t n it m nm) W1 lo mid 1 _ (Nat.le_refl _) (by omega) (by have := ba.size; omega) (hoI.same fun b b1 b2 => ba.block b (by omega))).mono fun e w' ⟨he, ho⟩ => ⟨by rw [he]; simp, ho⟩
  go_enter Try.func16, Try.ntmps16
  go_wp2_with fail
  clear p2 hW1
  refine cI.mono ?_
  rintro e w1 ⟨rfl, ho1⟩
  have hz := HZ.out
  have s1 := ho1.size
  have hbx : w1.heap[w.heap.size]? = some (Obj.cells #[.int .i64 k, .string t, .slice (some ⟨gi, 0, none⟩) n n, .slice (some ⟨gn, 0, none⟩) m m] 30) := (ho1.block _ (by omega) (by omega)).trans HB0.out
  have p3 : w1.cell? ⟨w.heap.size, 3, none⟩ = some (.slice (some ⟨gn, 0, none⟩) m m) := by rw [cell_of hbx]; rfl
  have hN1 : OwnN w1 mid hi m nm (.slice (some ⟨gn, 0, none⟩) m m) := hoN.same fun b b1 b2 => (ho1.block b (by omega) (by omega)).trans (ba.block b (by omega))
  obtain ⟨gn', ns, e1, hg1, hg2, hrow⟩ := ownN_row hN1
  obtain rfl : gn = gn' := by simp only [Value.slice.injEq, Option.some.injEq, Addr.mk.injEq, and_true] at e1; exact e1
  clear hbx cI hN1 hz
  go_wp2_with fail
  refine (marksG ns m (1 + mks n it) 0 gn m w1 (by omega) (by omega) hrow).mono ?_
  rintro e w2 ⟨rfl, -, hgr⟩
  go_wp2
  go_ret
  refine ⟨congrArg (fun x => Ending.returned (Value.int .i64 x)) (show ((1 + mks n it : Nat) : Int) + (m : Int) = ((1 + (mks n it + m) : Nat) : Int) from by omega), hgr.os.trans (ho1.os.trans ba.os), hgr.tape.trans (ho1.tape.trans ba.tape), hgr.output.trans (ho1.output.trans ba.output), ?_, fun b hb hr => ?_⟩
  · have := hgr.size; have := ba.size; omega
  · have := HZ.out
    rw [hgr.block b (by omega) (fun e => by have := Option.some.inj e; omega), ho1.block b (by omega) (by omega)]
    exact ba.block b hb
end Va
end Go.Proofs.YtjlabdnjdokpnaaR
