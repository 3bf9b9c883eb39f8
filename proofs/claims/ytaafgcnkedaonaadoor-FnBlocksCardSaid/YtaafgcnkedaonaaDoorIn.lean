/- What is proved: the model's Indent and the program's answer the plain function ind at every text of at most two million bytes; the program's onlyIndent answers whether nothing but blanks stands in a line. -/
import Derived.Test.YtaafgcnkedaonaaDoorShelf
import Derived.Test.YtaafgcnkedaonaaDoorBe
import Derived.WalkKit
import Derived.WalkSpells
import Derived.WalkLawsBesides
import Derived.Lib.Hide
import Derived.Lib.Strings
import Derived.Below
import Derived.KernelRfl
namespace Go.Proofs.YtaafgcnkedaonaaDoor
open Go.RowKit

/-- A text as the list of its bytes. -/
abbrev ls (s : ByteArray) : Bs := s.data.toList
theorem ls_len (s : ByteArray) : (ls s).length = s.size := len_list s

theorem isb_t1 {b : UInt8} (h : b.toNat = 32) : isb b = true := by
  have : b = 32 := UInt8.toNat_inj.1 h
  subst this; rfl
theorem isb_t2 {b : UInt8} (h : b.toNat = 9) : isb b = true := by
  have : b = 9 := UInt8.toNat_inj.1 h
  subst this; rfl
theorem isb_f {b : UInt8} (h : ¬ b.toNat = 32) (h2 : ¬ b.toNat = 9) : isb b = false := by
  have h3 : b ≠ 32 := fun e => h (by subst e; rfl)
  have h4 : b ≠ 9 := fun e => h2 (by subst e; rfl)
  simp [isb, h3, h4]

set_option maxHeartbeats 800000 in
theorem indS (s : ByteArray) (w : World) (hz : s.size ≤ 2097152) :
    Calls Tryd.prog 60 #[.string s] w fun e w' => e = .returned (.int .i64 (ind (ls s) : Int)) ∧ w = w' := by
  obtain ⟨R, hR⟩ : ∃ R, ind (ls s) = R := ⟨_, rfl⟩
  rw [hR]
  have HR0 : Hid (R = 0 + ind ((ls s).drop 0)) := by rw [List.drop_zero, hR, Nat.zero_add]; exact rfl
  clear hR
  go_enter Tryd.func60, Tryd.ntmps60
  go_wp2
  go_loopw [3] (fun iv wr => ∃ (i : Nat), iv = .int .i64 (i : Int) ∧ i ≤ s.size ∧ Hid (R = i + ind ((ls s).drop i)) ∧ w = wr) (fun iv _ => s.size - (intOf iv).toNat)
  case atStart => exact ⟨0, rfl, by omega, HR0, rfl⟩
  case round =>
    obtain ⟨i, rfl, hi, HR, rfl⟩ := hrel
    clear HR0
    by_cases hlt : i < s.size
    · have hlt' : (i : Int) < (s.size : Int) := by omega
      have hi0 : (0 : Int) ≤ (i : Int) := by omega
      have hd := drop_at hlt
      by_cases c32 : s[i].toNat = 32
      · have t32 : (((s[i]).toNat : Int) == 32) = true := byte_t (c := 32) c32
        have E : Hid (R = i + 1 + ind ((ls s).drop (i + 1))) := by have := HR.out; rw [hd, ind_cons, if_pos (isb_t1 c32)] at this; show R = i + 1 + ind (s.data.toList.drop (i + 1)); omega
        clear HR c32 hd
        go_wp2
        go_roundw
        case rel => exact ⟨i + 1, by go_num, by omega, E, by trivial⟩
        case measure => simp [intOf]; omega
      have t32 : (((s[i]).toNat : Int) == 32) = false := byte_f (c := 32) c32
      by_cases c9 : s[i].toNat = 9
      · have t9 : (((s[i]).toNat : Int) == 9) = true := byte_t (c := 9) c9
        have E : Hid (R = i + 1 + ind ((ls s).drop (i + 1))) := by have := HR.out; rw [hd, ind_cons, if_pos (isb_t2 c9)] at this; show R = i + 1 + ind (s.data.toList.drop (i + 1)); omega
        clear HR c32 c9 hd
        go_wp2
        go_roundw
        case rel => exact ⟨i + 1, by go_num, by omega, E, by trivial⟩
        case measure => simp [intOf]; omega
      have t9 : (((s[i]).toNat : Int) == 9) = false := byte_f (c := 9) c9
      have E : Hid (R = i) := by have := HR.out; rw [hd, ind_cons, if_neg (by rw [isb_f c32 c9]; simp)] at this; exact this
      clear HR c32 c9 hd
      go_wp2
      go_ret
      exact ⟨by rw [E.out]; rfl, rfl⟩
    · have hlt' : ¬ (i : Int) < (s.size : Int) := by omega
      have E : Hid (R = i) := by have := HR.out; rw [drop_end (by omega)] at this; exact this
      clear HR
      go_wp2
      go_ret
      exact ⟨by rw [E.out]; rfl, rfl⟩

theorem trim_size (l : Bs) : (ByteArray.mk (Lib.trimLeftS l [32, 9]).toArray).size = l.length - ind l := by
  rw [← trim_ind l]; simp [ByteArray.size]

set_option maxHeartbeats 800000 in
theorem indI (s : ByteArray) (w : World) (hz : s.size ≤ 2097152) :
    Calls Tryd.prog 18 #[.string s] w fun e w' => e = .returned (.int .i64 (ind (ls s) : Int)) ∧ Below w.heap.size w w' := by
  have c := Tryd.strings_TrimLeft s ⟨#[32, 9]⟩ w (by decide) (ascii_of_all (by decide))
  have hsz := trim_size (ls s)
  have hle := ind_le (ls s)
  rw [ls_len] at hsz hle
  obtain ⟨T, hT⟩ : ∃ T, ByteArray.mk (Lib.trimLeftS (ls s) [32, 9]).toArray = T := ⟨_, rfl⟩
  rw [hT] at hsz
  rw [show (ByteArray.mk #[32, 9]).data.toList = [32, 9] from rfl, show s.data.toList = ls s from rfl, hT] at c
  clear hT
  have hd : (s.size : Int) - (T.size : Int) = (ind (ls s) : Int) := by omega
  obtain ⟨R, hR⟩ : ∃ R, ind (ls s) = R := ⟨_, rfl⟩
  rw [hR] at hd hle hsz ⊢
  clear hR hsz
  go_enter Tryd.func18, Tryd.ntmps18
  go_wp2_with fail
  refine c.mono ?_
  rintro e w1 ⟨rfl, hb⟩
  go_wp2_with fail
  go_ret
  exact ⟨rfl, hb⟩

set_option maxHeartbeats 800000 in
theorem onlyI (s : ByteArray) (w : World) (hz : s.size ≤ 2097152) :
    Calls Tryd.prog 34 #[.string s] w fun e w' => e = .returned (.bool (blank (ls s))) ∧ Below w.heap.size w w' := by
  have c := indI s w hz
  have hb : blank (ls s) = ((ind (ls s) : Int) == (s.size : Int)) := by
    rw [blank, ls_len, Bool.eq_iff_iff, decide_eq_true_eq, beq_iff_eq]; omega
  rw [hb]
  clear hb
  obtain ⟨R, hR⟩ : ∃ R, ind (ls s) = R := ⟨_, rfl⟩
  rw [hR] at c ⊢
  clear hR
  go_enter Tryd.func34, Tryd.ntmps34
  go_wp2_with fail
  refine c.mono ?_
  rintro e w1 ⟨rfl, hb⟩
  go_wp2_with fail
  go_ret
  exact ⟨rfl, hb⟩
end Go.Proofs.YtaafgcnkedaonaaDoor
