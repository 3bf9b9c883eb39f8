/- What is proved: what the program's ReadDecimal answers at every text of at most 1048576 bytes: the same as the model's, where the library's table and its two errors lie as the program's text lays them; and that it writes into no memory that was there. Used by the proof of FnFiguresCardSaid. -/
import Derived.Test.YtjdeknbipncjoaaDoorRd
import Derived.Test.YtjdeknbipncjoaaDoorChecked
import Derived.WalkKit
import Derived.WalkSpells
import Derived.WalkLawsBesides
import Derived.Lib.Hide
import Derived.Below
import Derived.KernelRfl
import Derived.Test.YtjdeknbipncjoaaDoorShelf
import Derived.Lib.AppendIntMem
import Derived.Lib.AtoiErrMem
namespace Go.Proofs.YtjdeknbipncjoaaDoor
namespace Rd
open Go.RowKit

theorem list_len (s : ByteArray) : s.data.toList.length = s.size := by rw [Array.length_toList]; rfl
theorem rd_end {l : List UInt8} {x : Int} {b : Bool} (h : R l = (x, b)) : Ending.returned (.tuple #[.int .i64 x, .bool b]) = .returned (.tuple #[.int .i64 (R l).1, .bool (R l).2]) := by rw [h]
theorem cmp_no {x : Int} {s : ByteArray} (h : (!Lib.itoa x == s.toList) = true) : Lib.itoa x ≠ s.data.toList := by
  intro e; rw [e, ByteArray.toList_eq] at h; simp at h
theorem cmp_yes {x : Int} {s : ByteArray} (h : (!Lib.itoa x == s.toList) = false) : Lib.itoa x = s.data.toList := by
  rw [ByteArray.toList_eq] at h; simpa using h

set_option maxHeartbeats 400000 in
theorem implDec (x : Int) (w : World) (h0 : -9223372036854775808 ≤ x) (h1 : x ≤ 9223372036854775807) (htab : Lib.TabIs Tryd.prog w "internal/strconv.uint64pow10" .u64 Lib.pow10Tab) :
    Calls Tryd.prog 6 #[.int .i64 x] w fun e w' => e = .returned (.string ⟨(Lib.itoa x).toArray⟩) ∧ Below w.heap.size w w' := by
  go_enter Tryd.func6, Tryd.ntmps6
  go_wp2_with fail
  refine (Tryd.strconv_Itoa x h0 h1 w htab).mono ?_
  rintro e w1 ⟨rfl, k, os, hw⟩
  have hb : Below w.heap.size w w1 := by rw [hw]; exact Lib.below_grow _ w (Nat.le_refl _) k os
  clear hw
  go_wp2
  go_ret
  exact ⟨rfl, hb⟩

theorem atoiOk (s : ByteArray) (v : Int) (w : World) (hs : s.size ≤ 1048576) (h : Lib.atoiAll s.data.toList = .ok v) :
    Calls Tryd.prog 16 #[.string s] w fun e w' => e = .returned (.tuple #[.int .i64 v, .nilIface]) ∧ Below w.heap.size w w' := by
  refine (Tryd.strconv_Atoi_ok s (by omega) v h w).mono fun e w' ⟨he, hw⟩ => ⟨he, ?_⟩
  rcases hw with hw | ⟨t, hw⟩
  · rw [hw]; exact Below.refl _ _
  · rw [hw]; exact Lib.bytesWorld_below w 5 t

theorem atoiBad (s : ByteArray) (w : World) (hs : s.size ≤ 1048576) (h : ∀ v, Lib.atoiAll s.data.toList ≠ .ok v) (t1 t2 : TypeId) (p1 p2 : Value)
    (hES : w.var? Tryd.prog "strconv.ErrSyntax" = some #[.iface t1 p1]) (hER : w.var? Tryd.prog "strconv.ErrRange" = some #[.iface t2 p2]) :
    Calls Tryd.prog 16 #[.string s] w fun e w' => ∃ (x : Int) (N : Nat), e = .returned (.tuple #[.int .i64 x, .iface 50 (.pointer (some ⟨N, 0, none⟩))]) ∧ Below w.heap.size w w' := by
  cases hc : Lib.atoiAll s.data.toList with
  | ok v => exact absurd hc (h v)
  | range =>
    exact (show Calls Tryd.prog 16 #[.string s] w _ from Any.strconv_Atoi_range_var Tryd.laysC172 s (by omega) hc t2 p2 w hER).mono fun e w' ⟨N, he, _, _, hb⟩ => ⟨_, N, he, hb⟩
  | _ =>
    exact (show Calls Tryd.prog 16 #[.string s] w _ from Any.strconv_Atoi_syntax_var Tryd.laysC172 s (by omega) hc t1 p1 w hES).mono fun e w' ⟨N, he, _, _, hb⟩ => ⟨_, N, he, hb⟩

set_option maxHeartbeats 800000 in
theorem implRead (s : ByteArray) (w : World) (hs : s.size ≤ 1048576) (t1 t2 : TypeId) (p1 p2 : Value)
    (hES : w.var? Tryd.prog "strconv.ErrSyntax" = some #[.iface t1 p1]) (hER : w.var? Tryd.prog "strconv.ErrRange" = some #[.iface t2 p2]) (htab : Lib.TabIs Tryd.prog w "internal/strconv.uint64pow10" .u64 Lib.pow10Tab) :
    Calls Tryd.prog 9 #[.string s] w fun e w' => e = .returned (.tuple #[.int .i64 (R s.data.toList).1, .bool (R s.data.toList).2]) ∧ Below w.heap.size w w' := by
  have HT := Lib.hid (Lib.tabBelow_of_tabIs htab)
  have HES := Lib.hid hES
  have HER := Lib.hid hER
  clear hES hER htab
  by_cases hok : ∃ v, Lib.atoiAll s.data.toList = .ok v
  · obtain ⟨v, hv⟩ := hok
    have HV := Lib.hid hv
    clear hv
    by_cases hlo : v < 0
    · have HR : Hid (R s.data.toList = (0, false)) := R_out HV.out (.inl hlo)
      go_enter Tryd.func9, Tryd.ntmps9
      go_wp2_with fail
      refine (atoiOk s v w hs HV.out).mono ?_
      rintro e w1 ⟨rfl, hb1⟩
      go_wp2
      go_ret2
      exact ⟨rd_end HR.out, hb1⟩
    · by_cases hhi : 1000000000 < v
      · have HR : Hid (R s.data.toList = (0, false)) := R_out HV.out (.inr hhi)
        go_enter Tryd.func9, Tryd.ntmps9
        go_wp2_with fail
        refine (atoiOk s v w hs HV.out).mono ?_
        rintro e w1 ⟨rfl, hb1⟩
        go_wp2
        go_ret2
        exact ⟨rd_end HR.out, hb1⟩
      · go_enter Tryd.func9, Tryd.ntmps9
        go_wp2_with fail
        refine (atoiOk s v w hs HV.out).mono ?_
        rintro e w1 ⟨rfl, hb1⟩
        go_wp2_with fail
        refine (implDec v w1 (by omega) (by omega) (HT.out w1 hb1)).mono ?_
        rintro e w2 ⟨rfl, hb2⟩
        have hb := hb1.trans (hb2.mono hb1.size)
        clear hb1 hb2
        go_wp2
        · have h : (!Lib.itoa v == s.toList) = true := by assumption
          have HR : R s.data.toList = (0, false) := R_not HV.out (by omega) (cmp_no h)
          go_ret2
          exact ⟨rd_end HR, hb⟩
        · have h : (!Lib.itoa v == s.toList) = false := by assumption
          have HR : R s.data.toList = (v, true) := R_ok (by omega) (by omega) (cmp_yes h)
          go_ret2
          exact ⟨rd_end HR, hb⟩
  · have HN : Hid (∀ v, Lib.atoiAll s.data.toList ≠ .ok v) := fun v e => hok ⟨v, e⟩
    have HR : Hid (R s.data.toList = (0, false)) := R_bad HN.out
    clear hok
    go_enter Tryd.func9, Tryd.ntmps9
    go_wp2_with fail
    refine (atoiBad s w hs HN.out t1 t2 p1 p2 HES.out HER.out).mono ?_
    rintro e w1 ⟨x, N, rfl, hb1⟩
    go_wp2
    go_ret2
    exact ⟨rd_end HR.out, hb1⟩
end Rd
end Go.Proofs.YtjdeknbipncjoaaDoor
