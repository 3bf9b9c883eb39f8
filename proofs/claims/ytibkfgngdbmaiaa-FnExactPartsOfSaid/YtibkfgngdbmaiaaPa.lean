/- What is proved: what the laws' own helpers for lists of texts do: the text that a number is marked with (markText), that two lists of the same texts are told equal (eqStringS), that marks are laid into a list (markStringS) and found there again (heldStringS). Used by the proof of FnExactPartsOfSaid. -/
import Derived.Test.YtibkfgngdbmaiaaChecked
import Derived.WalkKit
import Derived.WalkSpells
import Derived.WalkLawsBesides
import Derived.OwnWalk
import Derived.Deep.AppendLies
import Derived.Deep.QuietTactic
import Derived.BigQuiet
import Derived.Laws.IdiomStrings
import Derived.Lib.Slices
import Derived.Lib.Hide
import Derived.Below
import Derived.KernelRfl
namespace Go.Proofs.Ytibkfgngdbmaiaa
namespace Pa
open Go.RowKit
theorem info5 : (Try.prog.info? 5).map (fun i => (i.zero, i.size, i.bytes)) = some (some (.int .u8 0), 1, 1) := by kernel_rfl
theorem info9 : (Try.prog.info? 9).map (fun i => (i.zero, i.size, i.bytes)) = some (some (.string ⟨#[]⟩), 1, 16) := by kernel_rfl

/-- The figures of a number, behind which 'acc' stands. -/
def digs : Nat → Nat → List UInt8 → List UInt8
  | 0, _, acc => acc
  | f + 1, k, acc => if k = 0 then acc else digs f (k / 10) (UInt8.ofNat (48 + k % 10) :: acc)
def markL (k : Nat) : List UInt8 := 109 :: digs 20 k []

def fig (m : Nat) : UInt8 := UInt8.ofNat (48 + m % 10)
theorem fig_int (m : Nat) : ((fig m).toNat : Int) = 48 + (m : Int) % 10 := by
  unfold fig; rw [UInt8.toNat_ofNat']; omega
theorem digs_zero (f : Nat) (acc : List UInt8) : digs f 0 acc = acc := by cases f <;> simp [digs]
theorem digs_step (f m : Nat) (acc : List UInt8) (h : m ≠ 0) : digs (f + 1) m acc = digs f (m / 10) (fig m :: acc) := by rw [digs, if_neg h]; rfl
theorem cat_str (c : UInt8) (acc : List UInt8) : (({ data := #[c] } : ByteArray) ++ { data := acc.toArray }) = { data := (c :: acc).toArray } := by
  apply ByteArray.ext; simp
theorem mark_end {k : Nat} {acc : List UInt8} (h : digs 20 k [] = acc) : Ending.returned (.string (({ data := #[109] } : ByteArray) ++ { data := acc.toArray })) = .returned (.string ⟨(markL k).toArray⟩) := by
  rw [cat_str, markL, h]
theorem conv_one (w : World) (x : Int) (c : UInt8) (h : (c.toNat : Int) = x) :
    (convert 32 9 (.slice (some ⟨w.heap.size, 0, none⟩) 1 1)).run Try.prog (w.alloc (.cells #[.int .u8 x] 5)) = .ok (.string ⟨#[c]⟩) (w.alloc (.cells #[.int .u8 x] 5)) := by
  subst h
  have := run_convert_bytes_back (P := Try.prog) (w.alloc (.cells #[.int .u8 (c.toNat : Int)] 5)) 32 9 5 ⟨w.heap.size, 0, none⟩ 1 [c] Try.underlying32 Try.underlying5 Try.underlying9 (fun j hj => by
    obtain rfl : j = 0 := by simp at hj; omega
    simp [Addr.add])
  exact this

set_option maxHeartbeats 600000 in
theorem markC (k : Nat) (w : World) (h0 : 1 ≤ k) (h1 : k ≤ 1000000) :
    Calls Try.prog 22 #[.int .i64 (k : Int)] w fun e w' => e = .returned (.string ⟨(markL k).toArray⟩) ∧ Below w.heap.size w w' := by
  have hk : ¬ (k : Int) ≤ 0 := by omega
  go_enter Try.func22, Try.ntmps22
  go_wp2
  go_loopw [0, 3] (fun kv ov wr => ∃ (m f : Nat) (acc : List UInt8), m ≤ 1000000 ∧ kv = .int .i64 (m : Int) ∧ ov = .string ⟨acc.toArray⟩ ∧ acc.length + f ≤ 20 ∧ Hid (m < 10 ^ f) ∧ Below w.heap.size w wr ∧ Hid (digs f m acc = digs 20 k []))
    (fun kv _ _ => (intOf kv).toNat)
  case atStart => exact ⟨k, 20, [], h1, rfl, rfl, by simp, by show k < 10 ^ 20; omega, Below.refl _ _, rfl⟩
  case round =>
    obtain ⟨m, f, acc, hm, rfl, rfl, hf, HM, hnx, HD⟩ := hrel
    by_cases hp : m = 0
    · subst hp
      have HR : Hid (digs 20 k [] = acc) := by have := HD.out; rw [digs_zero] at this; exact this.symm
      go_wp2
      go_ret
      exact ⟨mark_end HR.out, hnx⟩
    · have hp' : (0 : Int) < (m : Int) := by omega
      have hsz := hnx.size
      have hcv := conv_one wr _ _ (fig_int m)
      obtain ⟨g, rfl⟩ : ∃ g, f = g + 1 := by
        cases f with
        | zero => have := HM.out; simp at this; omega
        | succ g => exact ⟨g, rfl⟩
      have HR : Hid (digs g (m / 10) (fig m :: acc) = digs 20 k []) := by have := HD.out; rw [digs_step _ _ _ hp] at this; exact this
      have HN : Hid (m / 10 < 10 ^ g) := by have := HM.out; rw [Nat.pow_succ] at this; show m / 10 < 10 ^ g; omega
      go_wp2
      go_roundw
      case rel => exact ⟨m / 10, g, fig m :: acc, by omega, by go_num, by rw [cat_str], by simp; omega, HN, hnx.alloc hsz _, HR⟩
      case measure => simp [intOf]; omega
end Pa
end Go.Proofs.Ytibkfgngdbmaiaa
