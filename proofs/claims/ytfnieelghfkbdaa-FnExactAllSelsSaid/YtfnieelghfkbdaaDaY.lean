/- What is proved: the law of AllSels, walked, from what the program's AllSels answers: that is the model's answer, in memory of its own, and nothing that was handed in has turned. -/
import Derived.Test.YtfnieelghfkbdaaDaGa
import Derived.Test.YtfnieelghfkbdaaDaE
import Derived.Test.YtfnieelghfkbdaaDaN
import Derived.Test.YtfnieelghfkbdaaDaH
namespace Go.Proofs.Ytfnieelghfkbdaa
namespace Da
set_option linter.unusedVariables false
open Go.RowKit
attribute [local go_sem ↓] Go.wp_at_zero Go.wp_at_succ

theorem row_len (k : K) : (row k).length ≤ 7 := by cases k <;> simp [row]
theorem sumTo_lin (f g : Nat → Nat) (c : Nat) (h : ∀ j, f j ≤ 1 + c * g j) (n : Nat) : sumTo f n ≤ n + c * sumTo g n := by
  induction n with
  | zero => simp [sumTo]
  | succ n ih =>
    have := h n
    simp only [sumTo, Nat.mul_add]; omega
theorem sumTo_lin2 (f g : Nat → Nat) : ∀ (n : Nat), (∀ i, i < n → f i ≤ 7 + 7 * g i) → sumTo f n ≤ 7 * n + 7 * sumTo g n
  | 0, _ => by simp [sumTo]
  | n + 1, h => by
    have h1 := sumTo_lin2 f g n fun i hi => h i (by omega)
    have h2 := h n (by omega)
    simp only [sumTo, Nat.mul_add]; omega
theorem sumTo_linW (f g : Nat → Nat) : ∀ (W : Nat), W ≤ 7 → (∀ j, j < W → f j ≤ 1 + 7 * g j) → sumTo f W ≤ W + 7 * sumTo g W
  | 0, _, _ => by simp [sumTo]
  | W + 1, hW, h => by
    have h1 := sumTo_linW f g W (by omega) fun j hj => h j (by omega)
    have h2 := h W (by omega)
    simp only [sumTo, Nat.mul_add]; omega
/-- How many marks there are. -/
theorem mkn_sz : ∀ (d : D) (f : F), Sh d f → mkn d ≤ 1 + 7 * sz d
  | .no, _, h => h.elim
  | .int _, _, _ => by simp [mkn]
  | .str _, _, _ => by simp [mkn]
  | .bool _, _, _ => by simp [mkn]
  | .list W n it, f, h => by
    obtain ⟨k, rfl, rfl, hs⟩ := h
    have hW := row_len k
    have h1 : sumTo (fun i => sumTo (fun j => mkn (it i j)) (row k).length) n ≤ 7 * n + 7 * sumTo (fun i => sumTo (fun j => sz (it i j)) (row k).length) n := sumTo_lin2 _ _ n fun i hi => by
      have := sumTo_linW (fun j => mkn (it i j)) (fun j => sz (it i j)) (row k).length hW fun j hj => mkn_sz (it i j) _ (hs i hi j _ (List.getElem?_eq_getElem hj))
      omega
    simp only [mkn, sz] at h1 ⊢
    omega
theorem allRows_sz : ∀ (d : D), Sh d (.lst .sel) → ∀ r ∈ allRows d, sumTo (fun j => sz (r j)) 7 + 1 ≤ sz d
  | .list W n it, h, r, hr => by
    obtain ⟨n', it', e, hs⟩ := h.lst
    cases e
    obtain ⟨i, hi, hx⟩ := mem_listTo hr
    rcases List.mem_cons.1 hx with rfl | hx
    · exact sz_row (W := 7) (it := it) hi
    · have h1 := allRows_sz (it i 6) (hs i hi 6 _ rfl) r hx
      have h2 := sz_cell (W := 7) (it := it) hi (show 6 < 7 by omega)
      have h3 : sz (.list 7 n it) = sz (.list (row .sel).length n it) := rfl
      omega
  | .no, h, _, _ => h.elim
  | .int _, h, _, _ => by cases h
  | .str _, h, _, _ => by cases h
  | .bool _, h, _, _ => by cases h
theorem mkn_all (d : D) (h : Sh d (.lst .sel)) (hs : sz d ≤ 1048576) : mkn (allD d) ≤ 7696581394432 := by
  have hl := allRows_len d h
  have hn := allRows_row d h (nar_sz d hs)
  have key : ∀ i, i < (allRows d).length → sumTo (fun j => mkn ((allRows d).getD i (fun _ => .no) j)) 7 ≤ 7340032 := fun i hi => by
    have e : (allRows d).getD i (fun _ => .no) = (allRows d)[i] := by simp [List.getD, hi]
    rw [e]
    have h1 := allRows_sz d h _ (List.getElem_mem hi)
    have h2 := sumTo_linW (fun j => mkn ((allRows d)[i] j)) (fun j => sz ((allRows d)[i] j)) 7 (Nat.le_refl _) fun j hj => mkn_sz _ _ ((hn _ (List.getElem_mem hi)).1 j _ (List.getElem?_eq_getElem (show j < (row .sel).length from hj)))
    omega
  have sum : ∀ m, m ≤ (allRows d).length → sumTo (fun i => sumTo (fun j => mkn ((allRows d).getD i (fun _ => .no) j)) 7) m ≤ 7340032 * m := by
    intro m hm
    induction m with
    | zero => simp [sumTo]
    | succ m ih =>
      have h1 := ih (by omega)
      have h2 := key m (by omega)
      rw [sumTo]; omega
  have h1 := sum _ (Nat.le_refl _)
  show sumTo (fun i => sumTo (fun j => mkn ((allRows d).getD i (fun _ => .no) j)) 7) (allRows d).length ≤ _
  omega

/-- What the program's AllSels answers. -/
def AllI (d : D) : Prop := ∀ (w : World) (c : Value), sz d ≤ 1048576 → AtC w d c →
  Calls Try.prog 8 #[c] w fun e w' => ∃ v, e = .returned v ∧ Own w' (allD d) (rng w.heap.size w'.heap.size) v ∧ Below w.heap.size w w'
/-- Nothing that lay there at first is written. -/
theorem Out.keeps {F : Nat → Prop} {w0 w w' : World} (h : Out F w w') (hb : Below w0.heap.size w0 w) (hF : ∀ b, F b → w0.heap.size ≤ b) : Below w0.heap.size w0 w' :=
  ⟨h.os.trans hb.os, h.tape.trans hb.tape, h.output.trans hb.output, Nat.le_trans hb.size h.size, fun b hl => (h.block b (Nat.lt_of_lt_of_le hl hb.size) fun hf => absurd (hF b hf) (by omega)).trans (hb.block b hl)⟩
theorem Own.out {F G : Nat → Prop} {w w' : World} {d : D} {c : Value} (h : Own w d G c) (ho : Out F w w') (hG : ∀ b, G b → b < w.heap.size ∧ ¬ F b) : Own w' d G c :=
  Own.same d h fun b hb => ho.block b (hG b hb).1 (hG b hb).2

set_option maxRecDepth 100000 in
set_option maxHeartbeats 8000000 in
theorem walkAllSels (hI : ∀ d, Sh d (.lst .sel) → AllI d) (d : D) (hsh : Sh d (.lst .sel)) (w : World) (c : Value) (h : At w d c) :
    Calls Try.prog 3 #[c] w fun e w' => e = .returned (.bool true) ∧ Below w.heap.size w w' := by
  have HA := Lib.hid h
  obtain ⟨A, n, cap, rfl⟩ := At.lst h hsh
  clear h
  obtain ⟨Z, hZ⟩ : ∃ Z, sz d = Z := ⟨_, rfl⟩
  have cz : Calls Try.prog 5 #[.slice A n cap, .int .i64 1048576] w fun e w' => e = .returned (.int .i64 (left 1048576 Z)) ∧ Below w.heap.size w w' := by
    rw [← hZ]
    exact szSels d hsh w 1048576 _ (Nat.le_refl _) HA.out
  have HZ := Lib.hid hZ
  clear hZ
  go_enter Try.func3, Try.ntmps3
  go_wp2_with fail
  refine cz.mono ?_
  rintro e w1 ⟨rfl, b1⟩
  clear cz
  by_cases hv : Z ≤ 1048576
  case neg =>
    rw [left_neg hv]
    go_wp2
    go_ret
    exact ⟨rfl, b1⟩
  rw [left_pos hv]
  have hL0 : ¬ ((1048576 - Z : Nat) : Int) < 0 := by omega
  have hsz : sz d ≤ 1048576 := by rw [HZ.out]; exact hv
  have HSZ := Lib.hid hsz
  clear hsz HZ
  have cT : Hid (∀ x, Below w.heap.size w x → Calls Try.prog 7 #[.slice A n cap] x fun e w' => ∃ v, e = .returned v ∧ Own w' d (rng x.heap.size w'.heap.size) v ∧ Below x.heap.size x w') := fun x hx => toSels d hsh x _ HSZ.out (At.below hx _ HA.out)
  have shA : Hid (Sh (allD d) (.lst .sel)) := listD_sh fun r hr => (allRows_row d hsh (nar_sz d HSZ.out) r hr).1
  have mkA := Lib.hid (mkn_all d hsh HSZ.out)
  have cI := Lib.hid (hI d hsh)
  obtain ⟨E, hE⟩ : ∃ E, allD d = E := ⟨_, rfl⟩
  have cS : Hid (∀ (x : World) (v : Value), At x d v → Calls Try.prog 6 #[v] x fun e w' => ∃ v, e = .returned v ∧ Own w' E (rng x.heap.size w'.heap.size) v ∧ Below x.heap.size x w') := fun x v hat => by rw [← hE]; exact allSelsS d hsh x v HSZ.out hat
  have cP : Hid (∀ (x : World) (v : Value), AtC x d v → Calls Try.prog 8 #[v] x fun e w' => ∃ v, e = .returned v ∧ Own w' E (rng x.heap.size w'.heap.size) v ∧ Below x.heap.size x w') := fun x v hat => by rw [← hE]; exact cI.out x v HSZ.out hat
  rw [hE] at shA mkA
  clear hE cI hI
  go_wp2_with fail
  refine (cT.out w1 b1).mono ?_
  rintro e w2 ⟨v2, rfl, o2, b2⟩
  have bb2 := below_trans b1 b2
  go_wp2_with fail
  refine (cS.out w2 v2 (Own.at _ o2)).mono ?_
  rintro e w3 ⟨v3, rfl, o3, b3⟩
  have bb3 := below_trans bb2 b3
  clear o2
  go_wp2_with fail
  refine (cT.out w3 bb3).mono ?_
  rintro e w4 ⟨v4, rfl, o4, b4⟩
  have bb4 := below_trans bb3 b4
  go_wp2_with fail
  refine (cP.out w4 v4 (Own.atC _ o4)).mono ?_
  rintro e w5 ⟨v5, rfl, o5, b5⟩
  have bb5 := below_trans bb4 b5
  have s2 := b2.size
  have s3 := b3.size
  have s4 := b4.size
  have s5 := b5.size
  have sw := bb2.size
  have o35 := Own.below o3 (below_trans b4 b5) (fun b hb => hb.2)
  have o45 := Own.below o4 b5 (fun b hb => hb.2)
  go_wp2_with fail
  refine (eqSels E shA.out w5 v5 v3 (Own.at _ o5) (Own.at _ o35)).mono ?_
  rintro e w6 ⟨rfl, b6⟩
  have bb6 := below_trans bb5 b6
  go_wp2_with fail
  refine (cT.out w6 bb6).mono ?_
  rintro e w7 ⟨v7, rfl, o7, b7⟩
  have bb7 := below_trans bb6 b7
  have b57 := below_trans b6 b7
  go_wp2_with fail
  refine (eqSels d hsh w7 v4 v7 (At.below b57 _ (Own.at _ o45)) (Own.at _ o7)).mono ?_
  rintro e w8 ⟨rfl, b8⟩
  have b58 := below_trans b57 b8
  have bb8 := below_trans bb7 b8
  have s8 := b58.size
  have O3 := Lib.hid (Own.below o35 b58 (fun b hb => by have := hb.2; omega))
  have O4 := Lib.hid (Own.below o45 b58 (fun b hb => by have := hb.2; omega))
  have O5 := Lib.hid (Own.below o5 b58 (fun b hb => hb.2))
  clear o3 o4 o5 o35 o45 o7
  have mkd0 : mkn d ≤ 1 + 7 * sz d := mkn_sz d _ hsh
  have hsz := HSZ.out
  have cM : Calls Try.prog 10 #[v4, .int .i64 1] w8 fun e w' => e = .returned (.int .i64 ((1 + mkn d : Nat) : Int)) ∧ Own w' (mkd d 1) (rng w3.heap.size w4.heap.size) v4 ∧ Out (rng w3.heap.size w4.heap.size) w8 w' :=
    mkSels d hsh w8 1 v4 _ (Nat.le_refl _) (by omega) (fun b hb => by have := hb.2; omega) O4.out
  go_wp2_with fail
  refine cM.mono ?_
  rintro e w9 ⟨rfl, -, ho9⟩
  clear cM O4
  have s9 := ho9.size
  have bb9 : Below w.heap.size w w9 := ho9.keeps bb8 (fun b hb => by have := hb.1; omega)
  have O3' := Lib.hid (O3.out.out ho9 (fun b hb => ⟨by have := hb.2; omega, fun hf => by have := hb.2; have := hf.1; omega⟩))
  have O5' := Lib.hid (O5.out.out ho9 (fun b hb => ⟨by have := hb.2; omega, fun hf => by have := hb.1; have := hf.2; omega⟩))
  have hk0 : ¬ ((1 + mkn d : Nat) : Int) < 0 := by omega
  have hk1 : ((1 + mkn d : Nat) : Int) ≤ 1125899906842624 := by omega
  obtain ⟨M0, hM0⟩ : ∃ M0 : Nat, 1 + mkn d = M0 := ⟨_, rfl⟩
  rw [hM0] at hk0 hk1 ⊢
  clear hM0 mkd0 hsz O3 O5 ho9
  go_wp2_with fail
  refine (eqSels E shA.out w9 v5 v3 (Own.at _ O5'.out) (Own.at _ O3'.out)).mono ?_
  rintro e w10 ⟨rfl, b10⟩
  have bb10 := below_trans bb9 b10
  have s10 := b10.size
  have O3 := Lib.hid (Own.below O3'.out b10 (fun b hb => by have := hb.2; omega))
  have O5 := Own.below O5'.out b10 (fun b hb => by have := hb.2; omega)
  clear O3' O5'
  have hmE := mkA.out
  have cM : Calls Try.prog 10 #[v5, .int .i64 1] w10 fun e w' => e = .returned (.int .i64 ((1 + mkn E : Nat) : Int)) ∧ Own w' (mkd E 1) (rng w4.heap.size w5.heap.size) v5 ∧ Out (rng w4.heap.size w5.heap.size) w10 w' :=
    mkSels E shA.out w10 1 v5 _ (Nat.le_refl _) (by omega) (fun b hb => by have := hb.2; omega) O5
  go_wp2_with fail
  refine cM.mono ?_
  rintro e w11 ⟨rfl, om, ho11⟩
  clear cM O5
  have s11 := ho11.size
  have bb11 : Below w.heap.size w w11 := ho11.keeps bb10 (fun b hb => by have := hb.1; omega)
  have O3' := Lib.hid (O3.out.out ho11 (fun b hb => ⟨by have := hb.2; omega, fun hf => by have := hb.2; have := hf.1; omega⟩))
  have OM := Lib.hid om
  have hq0 : ¬ ((1 + mkn E : Nat) : Int) < 0 := by omega
  have hq1 : ((1 + mkn E : Nat) : Int) ≤ 1125899906842624 := by omega
  have cH : Hid (∀ x, At x (mkd E 1) v5 → Calls Try.prog 11 #[v5, .int .i64 1] x fun e w' => e = .returned (.int .i64 ((1 + mkn E : Nat) : Int)) ∧ Below x.heap.size x w') := fun x hat => heSels E shA.out x 1 v5 (Nat.le_refl _) (by omega) hat
  obtain ⟨M1, hM1⟩ : ∃ M1 : Nat, 1 + mkn E = M1 := ⟨_, rfl⟩
  rw [hM1] at hq0 hq1 cH ⊢
  have hqq : ((M1 : Int) != (M1 : Int)) = false := by simp
  clear hM1 hmE O3 ho11 om
  go_wp2_with fail
  refine (cH.out w11 (Own.at _ OM.out)).mono ?_
  rintro e w12 ⟨rfl, b12⟩
  have bb12 := below_trans bb11 b12
  have s12 := b12.size
  go_wp2_with fail
  refine (cT.out w12 bb12).mono ?_
  rintro e w13 ⟨v13, rfl, o13, b13⟩
  have bb13 := below_trans bb12 b13
  go_wp2_with fail
  refine (cP.out w13 v13 (Own.atC _ o13)).mono ?_
  rintro e w14 ⟨v14, rfl, o14, b14⟩
  have bb14 := below_trans bb13 b14
  have b1114 := below_trans b12 (below_trans b13 b14)
  go_wp2_with fail
  refine (eqSels E shA.out w14 v14 v3 (Own.at _ o14) (At.below b1114 _ (Own.at _ O3'.out))).mono ?_
  rintro e w15 ⟨rfl, b15⟩
  have bb15 := below_trans bb14 b15
  go_wp2_with fail
  refine (cH.out w15 (At.below (below_trans b1114 b15) _ (Own.at _ OM.out))).mono ?_
  rintro e w16 ⟨rfl, b16⟩
  go_wp2
  go_ret
  exact ⟨rfl, below_trans bb15 b16⟩
end Da
end Go.Proofs.Ytfnieelghfkbdaa
