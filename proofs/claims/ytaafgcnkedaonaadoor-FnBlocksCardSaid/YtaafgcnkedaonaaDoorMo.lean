/- What is proved: the program's moveOut gives a function that cuts a line by the least of what the lines are moved in by, which it keeps in a cell of its own; that function's answer. -/
import Derived.Test.YtaafgcnkedaonaaDoorBv
import Derived.Deep.Cut
import Derived.Deep.CutRange
namespace Go.Proofs.YtaafgcnkedaonaaDoor
open Go.RowKit
attribute [local go_sem ↓] Go.wp_at_zero Go.wp_at_succ

theorem lM_le (o : Option Nat) : 0 ≤ lM o := by cases o <;> simp [lM]
theorem ext_cut (X : ByteArray) (o : Option Nat) (hz : X.size ≤ 1048576) : X.extract (min (lM o) (X.size : Int)).toNat X.size = ⟨(cutI o (ls X)).toArray⟩ := by
  apply ByteArray.ext
  apply Array.toList_inj.1
  rw [Lib.extract_to_end]
  cases o with
  | none =>
    rw [show (min (lM none) (X.size : Int)).toNat = X.size by simp only [lM]; omega]
    exact drop_end (Nat.le_refl _)
  | some m =>
    rw [show (min (lM (some m)) (X.size : Int)).toNat = min m (ls X).length by rw [ls_len]; simp only [lM]; omega]
    rfl

set_option maxHeartbeats 800000 in
theorem cutC (X : ByteArray) (p : Nat) (o : Option Nat) (w : World) (hz : X.size ≤ 1048576) (hp : w.cell? ⟨p, 0, none⟩ = some (.int .i64 (lM o))) :
    Calls Tryd.prog 49 #[.string X, .pointer (some ⟨p, 0, none⟩)] w fun e w' => e = .returned (.string ⟨(cutI o (ls X)).toArray⟩) ∧ w' = w := by
  have hx0 : (0 : Int) ≤ (X.size : Int) := by omega
  have hl := lM_le o
  rw [← ext_cut X o hz]
  obtain ⟨v, hv⟩ : ∃ v, lM o = v := ⟨_, rfl⟩
  rw [hv] at hp hl ⊢
  clear hv
  have h1 : min v (X.size : Int) ≤ (X.size : Int) := by omega
  have h2 : 0 ≤ min v (X.size : Int) := by omega
  go_enter Tryd.func49, Tryd.ntmps49
  go_wp2_with fail
  go_ret
  exact ⟨rfl, rfl⟩

theorem min_lo {o : Option Nat} {l : Bs} (h : blank l = false) : min (lM o) (ind l : Int) = lM (lo o l) ∨ 1048576 < l.length := by
  by_cases hl : 1048576 < l.length
  · exact .inr hl
  · left
    have hle := ind_le l
    have hlt : ind l < l.length := by
      rw [blank, decide_eq_false_iff_not] at h; omega
    cases o with
    | none => rw [lo_none hlt]; simp only [lM]; omega
    | some m =>
      unfold lo; rw [if_pos hlt]; simp only [lM]; omega
theorem blank_lo {o : Option Nat} {l : Bs} (h : blank l = true) : lo o l = o := by
  rw [blank, decide_eq_true_eq] at h
  exact lo_blank (by omega)

/-- What moveOut leaves: a function and its cell. -/
def Moved (T : List Bs) (w : World) (e : Ending) (w' : World) : Prop :=
  ∃ p : Nat, e = .returned (.func (.func 49) #[] #[.pointer (some ⟨p, 0, none⟩)]) ∧ w.heap.size ≤ p ∧ p < w'.heap.size ∧ w'.cell? ⟨p, 0, none⟩ = some (.int .i64 (lM (least T))) ∧ Below w.heap.size w w'

set_option maxHeartbeats 800000 in
theorem moI0 (a : Option Addr) (c : Nat) (w : World) : Calls Tryd.prog 33 #[.slice a 0 c] w (Moved [] w) := by
  go_enter Tryd.func33, Tryd.ntmps33
  go_wp2_with fail
  go_loopw [8] (fun i wr => i = .int .i64 0 ∧ wr = w.alloc (.cells #[.int .i64 9223372036854775807] 3)) (fun _ _ => 0)
  case atStart => exact ⟨rfl, rfl⟩
  case round =>
    obtain ⟨rfl, rfl⟩ := hrel
    go_wp2_with fail
    go_ret
    exact ⟨w.heap.size, rfl, Nat.le_refl _, by simp, by simp [least, lM], (Below.refl _ _).alloc (Nat.le_refl _) _⟩

set_option maxHeartbeats 1600000 in
set_option maxRecDepth 100000 in
theorem moI (T : List Bs) (g o c n : Nat) (w : World) (hn : T.length = n) (hN : n ≤ 1048577) (hgw : g < w.heap.size) (HM : Hid (∀ x ∈ T, x.length ≤ 1048576))
    (HT : Hid (∀ (j : Nat) (h : j < T.length), w.cell? ⟨g, o + j, none⟩ = some (.string ⟨(T[j]).toArray⟩))) :
    Calls Tryd.prog 33 #[.slice (some ⟨g, o, none⟩) n c] w (Moved T w) := by
  obtain ⟨lst, HLs⟩ : ∃ lst, Hid (least T = lst) := ⟨_, rfl⟩
  obtain ⟨p, hp⟩ : ∃ p, w.heap.size = p := ⟨_, rfl⟩
  have HN := Lib.hid hn
  clear hn
  go_enter Tryd.func33, Tryd.ntmps33
  go_wp2_with fail
  go_loopw [8] (fun i wr => ∃ (k : Nat) (q : Option Nat), k ≤ n ∧ i = .int .i64 (k : Int) ∧ wr.ownsRow p 3 1 (.slice (some ⟨p, 0, none⟩) 1 1) 1 [.int .i64 (lM q)] ∧ Below p w wr ∧ Hid ((T.drop k).foldl lo q = lst)) (fun i _ => n - (intOf i).toNat)
  case atStart => exact ⟨0, none, Nat.zero_le _, rfl, by rw [← hp]; exact World.ownsRow_lit w #[.int .i64 9223372036854775807] 1 (Nat.le_refl _) (by decide) rfl, by rw [← hp]; exact (Below.refl _ _).alloc (Nat.le_refl _) _, HLs⟩
  case round =>
    obtain ⟨k, q, hk, rfl, ho, hb, HF⟩ := hrel
    have hsz := hb.size
    by_cases hlt : k < n
    · have hk0 : (0 : Int) ≤ (k : Int) := by omega
      have hk1 : (k : Int) < (n : Int) := by omega
      have hkt : k < T.length := by rw [HN.out]; exact hlt
      have hcell : wr.cell? ⟨g, o + k, none⟩ = some (.string ⟨(T[k]).toArray⟩) := (hb.cell (p := ⟨g, o + k, none⟩) (by show g < p; omega)).trans (HT.out k hkt)
      have hlx : T[k].length ≤ 1048576 := HM.out _ (List.getElem_mem hkt)
      obtain ⟨X, hX⟩ : ∃ X : ByteArray, ByteArray.mk (T[k]).toArray = X := ⟨_, rfl⟩
      have hXl : ls X = T[k] := by rw [← hX, mk_ls]
      have hXs : X.size = T[k].length := by rw [← hX, mk_size]
      rw [hX] at hcell
      have hXb : X.size ≤ 2097152 := by omega
      have HF1 := HF.out
      rw [fold_step hkt] at HF1
      have cB := onlyI X wr hXb
      rw [hXl] at cB
      cases hbl : blank T[k] with
      | true =>
        rw [hbl] at cB
        rw [blank_lo hbl] at HF1
        have HF2 := Lib.hid HF1
        clear HF HF1 hX hXl hXs hlx hbl
        go_wp2_with fail
        refine cB.mono ?_
        rintro e w1 ⟨rfl, hb1⟩
        have ho1 := Tx.own_below ho hb1
        have hb01 := hb.trans (hb1.mono (by omega))
        clear ho hb1 hb hcell
        go_wp2_with fail
        go_roundw
        case rel => exact ⟨k + 1, q, by omega, by go_num, ho1, hb01, HF2⟩
        case measure => simp [intOf]; omega
      | false =>
        rw [hbl] at cB
        have hmn := (min_lo (o := q) hbl).resolve_right (by omega)
        have cI : ∀ w, Calls Tryd.prog 18 #[.string X] w fun e w' => e = .returned (.int .i64 (ind T[k] : Int)) ∧ Below w.heap.size w w' := fun w => by rw [← hXl]; exact indI X w hXb
        obtain ⟨m, hm⟩ : ∃ m, ind T[k] = m := ⟨_, rfl⟩
        rw [hm] at hmn cI
        have HF2 := Lib.hid HF1
        have HMN := Lib.hid hmn
        have hl0 := lM_le q
        obtain ⟨v, hv⟩ : ∃ v, lM q = v := ⟨_, rfl⟩
        rw [hv] at HMN ho hl0
        clear HF HF1 hX hXl hXs hlx hbl hm hmn hv
        go_wp2_with fail
        refine cB.mono ?_
        rintro e w1 ⟨rfl, hb1⟩
        have ho1 := Tx.own_below ho hb1
        have hb01 := hb.trans (hb1.mono (by omega))
        clear ho hb1 hb hcell
        have hs1 := hb01.size
        have hcp : w1.cell? ⟨p, 0, none⟩ = some (.int .i64 v) := ho1.cellAt 0 (by omega)
        have hfz := ho1.frozenAt 0
        have hlp := World.block_lt_of_cell? w1 _ hcp
        have HO1 := Lib.hid ho1
        clear ho1
        go_wp2_with fail
        go_region_with (go_at_call 18; refine (cI _).mono ?_; rintro e w2 ⟨rfl, hb2⟩; have ho2 := Tx.own_below (w := w1) HO1.out ⟨hb2.os, hb2.tape, hb2.output, hb2.size, hb2.block⟩; have hcp2 := ho2.cellAt 0 (by decide); have hfz2 := ho2.frozenAt 0)
        all_goals
          have hb12 : Below w1.heap.size w1 w2 := ⟨hb2.os, hb2.tape, hb2.output, hb2.size, hb2.block⟩
          have hst := ho2.stored 0 (.int .i64 (min v (m : Int)))
          have R1 : Hid ((w2.setCell ⟨p, 0, none⟩ (.int .i64 (min v (m : Int)))).ownsRow p 3 1 (.slice (some ⟨p, 0, none⟩) 1 1) 1 [.int .i64 (lM (lo q T[k]))]) := by rw [← HMN.out]; exact hst.1
          have R2 : Hid (Below p w (w2.setCell ⟨p, 0, none⟩ (.int .i64 (min v (m : Int))))) := (hb01.trans (hb12.mono (by omega))).setCell (Nat.le_refl _) _
          clear hst ho2 hb2 hb12 hcp2 hfz2 hcp hfz
          go_wp2_with fail
          go_roundw
          case rel => exact ⟨k + 1, lo q T[k], by omega, by go_num, R1.out, R2.out, HF2⟩
          case measure => simp [intOf]; omega
    · obtain rfl : k = n := by omega
      have hk1 : ¬ (k : Int) < (k : Int) := by omega
      have hq : q = lst := by have := HF.out; rw [List.drop_eq_nil_of_le (by have := HN.out; omega)] at this; exact this
      have HQ : Hid (least T = q) := by rw [hq]; exact HLs
      have hcp : wr.cell? ⟨p, 0, none⟩ = some (.int .i64 (lM q)) := ho.cellAt 0 (by omega)
      have hlp := World.block_lt_of_cell? wr _ hcp
      clear HF ho hq HLs
      go_wp2_with fail
      go_ret
      exact ⟨p, rfl, by omega, hlp, by rw [HQ.out]; exact hcp, by rw [hp]; exact hb⟩
end Go.Proofs.YtaafgcnkedaonaaDoor
