/- What is proved: what the program's Unhex answers at every text of an even number of at most 40000 bytes: the text that the figures tell, or nothing and false; and that it writes into no memory that was there. Used by the proof of FnFiguresCardSaid. -/
import Derived.Test.YtjdeknbipncjoaaDoorChecked
import Derived.WalkKit
import Derived.WalkSpells
import Derived.WalkLawsBesides
import Derived.OwnWalk
import Derived.Deep.AppendLies
import Derived.Laws.IdiomStrings
import Derived.Lib.Slices
import Derived.Lib.Hide
import Derived.Below
import Derived.KernelRfl
namespace Go.Proofs.YtjdeknbipncjoaaDoor
namespace Un
open Go.RowKit
theorem info5 : (Tryd.prog.info? 5).map (fun i => (i.zero, i.size, i.bytes)) = some (some (.int .u8 0), 1, 1) := by kernel_rfl

def valN (c : UInt8) : Int := if 48 ≤ c.toNat ∧ c.toNat ≤ 57 then (c.toNat : Int) - 48 else if 97 ≤ c.toNat ∧ c.toNat ≤ 102 then (c.toNat : Int) - 87 else -1
theorem valN_bd (c : UInt8) : -1 ≤ valN c ∧ valN c ≤ 15 := by
  unfold valN; split
  · omega
  · split <;> omega
theorem valN_dig (c : UInt8) (h0 : 48 ≤ (c.toNat : Int)) (h1 : (c.toNat : Int) ≤ 57) : valN c = (c.toNat : Int) - 48 := by
  unfold valN; rw [if_pos (by omega)]
theorem valN_let (c : UInt8) (h0 : 97 ≤ (c.toNat : Int)) (h1 : (c.toNat : Int) ≤ 102) : valN c = (c.toNat : Int) - 87 := by
  unfold valN; rw [if_neg (by omega), if_pos (by omega)]
theorem valN_no (c : UInt8) (h : ¬ (48 ≤ (c.toNat : Int) ∧ (c.toNat : Int) ≤ 57)) (h' : ¬ (97 ≤ (c.toNat : Int) ∧ (c.toNat : Int) ≤ 102)) : valN c = -1 := by
  unfold valN; rw [if_neg (by omega), if_neg (by omega)]

def told (a b : UInt8) : UInt8 := UInt8.ofNat (16 * valN a + valN b).toNat
theorem told_int (a b : UInt8) (ha : 0 ≤ valN a) (hb : 0 ≤ valN b) : ((told a b).toNat : Int) = 16 * valN a + valN b := by
  have h1 := valN_bd a; have h2 := valN_bd b
  unfold told; rw [UInt8.toNat_ofNat']; omega

def unGo : List UInt8 → List UInt8 → List UInt8 × Bool
  | acc, a :: b :: r => if valN a < 0 ∨ valN b < 0 then ([], false) else unGo (acc ++ [told a b]) r
  | acc, _ => (acc, true)

theorem unGo_nil (acc : List UInt8) : unGo acc [] = (acc, true) := by simp [unGo]
theorem unGo_bad (acc r : List UInt8) (a b : UInt8) (h : valN a < 0 ∨ valN b < 0) : unGo acc (a :: b :: r) = ([], false) := by rw [unGo, if_pos h]
theorem unGo_ok (acc r : List UInt8) (a b : UInt8) (h : ¬ (valN a < 0 ∨ valN b < 0)) : unGo acc (a :: b :: r) = unGo (acc ++ [told a b]) r := by rw [unGo, if_neg h]
theorem un_end {l acc : List UInt8} {b : Bool} (h : unGo [] l = (acc, b)) : Ending.returned (.tuple #[.string ⟨acc.toArray⟩, .bool b]) = .returned (.tuple #[.string ⟨(unGo [] l).1.toArray⟩, .bool (unGo [] l).2]) := by rw [h]
theorem drop_two (s : ByteArray) (p : Nat) (h : p + 1 < s.size) : s.data.toList.drop p = s[p] :: s[p + 1] :: s.data.toList.drop (p + 2) := by
  have hl : s.data.toList.length = s.size := by rw [Array.length_toList]; rfl
  rw [List.drop_eq_getElem_cons (by omega), List.drop_eq_getElem_cons (i := p + 1) (by omega)]
  rfl

theorem un_step {w wr w2 : World} {o : Obj} {v v2 : Value} {n : Nat} {acc : List UInt8} {c : UInt8} (hn : acc.length = n) (hnx : Below w.heap.size w wr)
    (hown : wr.ownsRow w.heap.size 5 1 v n (Lib.byteCells acc))
    (hown2 : w2.ownsRow w.heap.size 5 1 v2 (n + 1) (Lib.byteCells acc ++ [.int .u8 (c.toNat : Int)]))
    (hgrow : (wr.alloc o).grownBy w2 v.ownBlock) :
    (acc ++ [c]).length = n + 1 ∧ w2.ownsRow w.heap.size 5 1 v2 (n + 1) (Lib.byteCells (acc ++ [c])) ∧ Below w.heap.size w w2 := by
  refine ⟨by simp [hn], ?_, ?_⟩
  · rw [Lib.byteCells_append]; exact hown2
  · exact (hnx.alloc hnx.size _).grown hgrow (by have := hnx.size; simp; omega) (fun k hk => (hown.lt k hk).1)

theorem own_form {w wr : World} {v : Value} {n : Nat} {xs : List Value} (h : wr.ownsRow w.heap.size 5 1 v n xs) (hv : v ≠ .slice none 0 0) : ∃ g cap, v = .slice (some ⟨g, 0, none⟩) n cap := by
  rcases h.2 with ⟨h0, _⟩ | ⟨g, cap, cur, hv, _⟩
  · exact absurd h0 hv
  · exact ⟨g, cap, hv⟩

def okB (c : UInt8) : Bool := decide (0 ≤ valN c)
def hvI (c : UInt8) : Int := if valN c < 0 then 0 else valN c
theorem hvI_bd (c : UInt8) : 0 ≤ hvI c ∧ hvI c ≤ 15 := by
  have := valN_bd c; unfold hvI; split <;> omega
theorem okB_yes {c : UInt8} (h : 0 ≤ valN c) : okB c = true := by simp [okB, h]
theorem okB_no {c : UInt8} (h : valN c < 0) : okB c = false := by simp [okB]; omega
theorem hvI_yes {c : UInt8} (h : 0 ≤ valN c) : hvI c = valN c := by unfold hvI; rw [if_neg (by omega)]
theorem hvI_no {c : UInt8} (h : valN c < 0) : hvI c = 0 := by unfold hvI; rw [if_pos h]
theorem fig_end {c : UInt8} {x : Int} {b : Bool} (h : hvI c = x) (h' : okB c = b) : Ending.returned (.tuple #[.int .u8 x, .bool b]) = .returned (.tuple #[.int .u8 (hvI c), .bool (okB c)]) := by rw [h, h']

theorem or_nat : ∀ a : Nat, a < 16 → ∀ b : Nat, b < 16 → bits BinOp.or IntKind.u8 ((a : Int) * 16) (b : Int) = 16 * (a : Int) + (b : Int) := by decide +kernel
theorem or_int (a b : Int) (a0 : 0 ≤ a) (a1 : a ≤ 15) (b0 : 0 ≤ b) (b1 : b ≤ 15) : bits BinOp.or IntKind.u8 (a * 16) b = 16 * a + b := by
  obtain ⟨m, rfl⟩ := Int.eq_ofNat_of_zero_le a0
  obtain ⟨n, rfl⟩ := Int.eq_ofNat_of_zero_le b0
  exact or_nat m (by omega) n (by omega)

set_option maxHeartbeats 600000 in
theorem figC (c : UInt8) (w : World) : Calls Tryd.prog 15 #[.int .u8 (c.toNat : Int)] w fun e w' => e = .returned (.tuple #[.int .u8 (hvI c), .bool (okB c)]) ∧ w = w' := by
  have hb := c.toNat_lt
  have hb1 : (c.toNat : Int) < 256 := by omega
  have hb0 : (0 : Int) ≤ (c.toNat : Int) := by omega
  by_cases h1 : 48 ≤ (c.toNat : Int)
  · by_cases h2 : (c.toNat : Int) ≤ 57
    · have HV : Hid (valN c = (c.toNat : Int) - 48) := valN_dig c h1 h2
      go_enter Tryd.func15, Tryd.ntmps15
      go_wp2
      go_ret2
      exact ⟨fig_end (by have := HV.out; rw [hvI_yes (by omega), this]) (okB_yes (by have := HV.out; omega)), rfl⟩
    · by_cases h3 : 97 ≤ (c.toNat : Int)
      · by_cases h4 : (c.toNat : Int) ≤ 102
        · have HV : Hid (valN c = (c.toNat : Int) - 87) := valN_let c h3 h4
          go_enter Tryd.func15, Tryd.ntmps15
          go_wp2
          go_ret2
          exact ⟨fig_end (by have := HV.out; rw [hvI_yes (by omega), this]; omega) (okB_yes (by have := HV.out; omega)), rfl⟩
        · have HV : Hid (valN c = -1) := valN_no c (by omega) (by omega)
          go_enter Tryd.func15, Tryd.ntmps15
          go_wp2
          go_ret2
          exact ⟨fig_end (hvI_no (by have := HV.out; omega)) (okB_no (by have := HV.out; omega)), rfl⟩
      · have HV : Hid (valN c = -1) := valN_no c (by omega) (by omega)
        go_enter Tryd.func15, Tryd.ntmps15
        go_wp2
        go_ret2
        exact ⟨fig_end (hvI_no (by have := HV.out; omega)) (okB_no (by have := HV.out; omega)), rfl⟩
  · have HV : Hid (valN c = -1) := valN_no c (by omega) (by omega)
    have h3 : ¬ 97 ≤ (c.toNat : Int) := by omega
    go_enter Tryd.func15, Tryd.ntmps15
    go_wp2
    go_ret2
    exact ⟨fig_end (hvI_no (by have := HV.out; omega)) (okB_no (by have := HV.out; omega)), rfl⟩

set_option maxHeartbeats 1000000 in
theorem implUnhex (s : ByteArray) (w : World) (hs : s.size ≤ 40000) (he : s.size % 2 = 0) :
    Calls Tryd.prog 8 #[.string s] w fun e w' => e = .returned (.tuple #[.string ⟨(unGo [] s.data.toList).1.toArray⟩, .bool (unGo [] s.data.toList).2]) ∧ Below w.heap.size w w' := by
  obtain ⟨i0, hi, hz0, hz1, hz2⟩ := info_parts info5
  have h1 : ¬ (40000 : Int) < (s.size : Int) := by omega
  have h2 : ((s.size : Int) % 2 != 0) = false := by simp; omega
  have HE : Hid (s.size % 2 = 0) := he
  clear he
  go_enter Tryd.func8, Tryd.ntmps8
  go_wp2_with (at_make; refine wpList_make_own _ rfl _ _ 22 rfl w.heap.size 5 i0 (.int .u8 0) 1 Tryd.underlying22 hi hz0 hz1 _ _ _ (s.size / 2) rfl rfl (by omega) (by rw [hz2]; omega) (by unfold maxLen; omega) (Nat.le_refl _) ?_)
  intro w1 hown hgrow0
  have hnx0 : Below w.heap.size w w1 := (Below.refl _ _).grown hgrow0 (Nat.le_refl _) (by intro k hk; cases hk)
  clear hgrow0
  go_wp2
  go_loopw [4, 5] (fun v i wr => ∃ (p : Nat) (acc : List UInt8), p ≤ s.size ∧ i = .int .i64 p ∧ (∃ g cap, v = .slice (some ⟨g, 0, none⟩) acc.length cap) ∧ wr.ownsRow w.heap.size 5 1 v acc.length (Lib.byteCells acc) ∧ Below w.heap.size w wr ∧ 2 * acc.length ≤ p ∧ Hid (p % 2 = 0) ∧ Hid (unGo acc (s.data.toList.drop p) = unGo [] s.data.toList))
    (fun _ i _ => s.size - (intOf i).toNat)
  case atStart => exact ⟨0, [], Nat.zero_le _, rfl, ⟨_, _, rfl⟩, hown, hnx0, Nat.le_refl _, rfl, rfl⟩
  case round =>
    clear hown hnx0
    obtain ⟨p, acc, hp, rfl, ⟨g, cap, rfl⟩, hown1, hnx, hacc, HP, HG⟩ := hrel
    by_cases hlt : p < s.size
    · have hp1 : p + 1 < s.size := by have a := HE.out; have b := HP.out; omega
      have hlt' : (p : Int) < (s.size : Int) := by omega
      have hlt1 : (p : Int) + 1 < (s.size : Int) := by omega
      have hk0 : (0 : Int) ≤ (p : Int) := by omega
      have HD : Hid (s.data.toList.drop p = s[p] :: s[p + 1] :: s.data.toList.drop (p + 2)) := drop_two s p hp1
      have ba := hvI_bd s[p]
      have bb := hvI_bd s[p + 1]
      by_cases ha : valN s[p] < 0
      · have HR : Hid (unGo [] s.data.toList = ([], false)) := by
          have := HG.out; rw [HD.out, unGo_bad _ _ _ _ (.inl ha)] at this; exact this.symm
        have oa := okB_no ha
        go_wp2_with (go_at_call 15; refine (figC _ _).mono ?_; rintro e w' ⟨rfl, rfl⟩)
        go_ret2
        exact ⟨un_end HR.out, hnx⟩
      · have oa := okB_yes (c := s[p]) (by omega)
        by_cases hb : valN s[p + 1] < 0
        · have HR : Hid (unGo [] s.data.toList = ([], false)) := by
            have := HG.out; rw [HD.out, unGo_bad _ _ _ _ (.inr hb)] at this; exact this.symm
          have ob := okB_no hb
          go_wp2_with (go_at_call 15; refine (figC _ _).mono ?_; rintro e w' ⟨rfl, rfl⟩)
          go_ret2
          exact ⟨un_end HR.out, hnx⟩
        · have HR : Hid (unGo (acc ++ [told s[p] s[p + 1]]) (s.data.toList.drop (p + 2)) = unGo [] s.data.toList) := by
            have := HG.out; rw [HD.out, unGo_ok _ _ _ _ (by omega)] at this; exact this
          have HT : Hid (((told s[p] s[p + 1]).toNat : Int) = 16 * valN s[p] + valN s[p + 1]) := told_int _ _ (by omega) (by omega)
          have ob := okB_yes (c := s[p + 1]) (by omega)
          have hsz := hnx.size
          have HO : Hid (bits BinOp.or IntKind.u8 (hvI s[p] * 16) (hvI s[p + 1]) = ((told s[p] s[p + 1]).toNat : Int)) := by
            show _ = _
            rw [or_int _ _ ba.1 ba.2 bb.1 bb.2, HT.out, hvI_yes (by omega), hvI_yes (by omega)]
          go_wp2_with (first | (go_at_call 15; refine (figC _ _).mono ?_; rintro e w' ⟨rfl, rfl⟩) | (at_builtin; refine wpList_append_lies _ rfl _ _ 22 rfl w.heap.size 5 i0 (.int .u8 0) 1 1 Tryd.underlying22 hi hz0 hz1 hz2 rfl (by decide) _ _ _ rfl (hown1.alloc _) ⟨wr.heap.size, 0, none⟩ 1 1 [.int .u8 (bits BinOp.or IntKind.u8 (hvI s[p] * 16) (hvI s[p + 1]))] rfl rfl ?c1 ?c2 (by decide) ?c3 ?c4 ?c5 (wr.heap.size + 1) ?c6 ?_))
          case c1 => exact World.news_of_block (cs := #[.int .u8 (bits BinOp.or IntKind.u8 (hvI s[p] * 16) (hvI s[p + 1]))]) (t := 5) (fr := (0, 0)) (heap_alloc_new wr _)
          case c2 => intro u hu; simp at hu; subst hu; rfl
          case c3 => unfold maxLen; omega
          case c4 => omega
          case c5 => simp; omega
          case c6 => simp
          intro g2 cap2 w2 hown2 hgrow hat hlt2
          rw [HO.out] at hown2
          have R := un_step rfl hnx hown1 hown2 hgrow
          clear hown2 hgrow hat hlt2 hown1
          go_wp2
          go_roundw
          case rel => exact ⟨p + 2, acc ++ [told s[p] s[p + 1]], by omega, by go_num, ⟨g2, cap2, by rw [R.1]⟩, by rw [R.1]; exact R.2.1, R.2.2, by rw [R.1]; omega, by have := HP.out; show (p + 2) % 2 = 0; omega, HR⟩
          case measure => simp [intOf]; omega
    · have HR : Hid (unGo [] s.data.toList = (acc, true)) := by
        have := HG.out; rw [List.drop_of_length_le (by rw [Array.length_toList]; show s.size ≤ p; omega), unGo_nil] at this; exact this.symm
      have hcv := run_convert_bytes_back (P := Tryd.prog) wr 22 9 5 ⟨g, 0, none⟩ cap acc Tryd.underlying22 Tryd.underlying5 Tryd.underlying9 (fun j hj => hown1.cells (g := g) rfl j _ (by simp [Lib.byteCells, hj]))
      go_wp2
      go_ret2
      exact ⟨un_end HR.out, hnx⟩
end Un
end Go.Proofs.YtjdeknbipncjoaaDoor
