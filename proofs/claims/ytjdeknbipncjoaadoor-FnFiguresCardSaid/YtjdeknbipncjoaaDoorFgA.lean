/- What is proved: that a text comes back from its figures (lists alone), and what the program's Brought answers where the least is no more than the most. Used by the proof of FnFiguresCardSaid. -/
import Derived.Test.YtjdeknbipncjoaaDoorHx
import Derived.Test.YtjdeknbipncjoaaDoorUx
namespace Go.Proofs.YtjdeknbipncjoaaDoor
namespace Fg
open Go.RowKit

theorem back : ∀ n : Nat, n < 256 → 0 ≤ Un.valN (Hx.hiB (UInt8.ofNat n)) ∧ 0 ≤ Un.valN (Hx.loB (UInt8.ofNat n)) ∧ Un.told (Hx.hiB (UInt8.ofNat n)) (Hx.loB (UInt8.ofNat n)) = UInt8.ofNat n := by decide +kernel
theorem backC (c : UInt8) : 0 ≤ Un.valN (Hx.hiB c) ∧ 0 ≤ Un.valN (Hx.loB c) ∧ Un.told (Hx.hiB c) (Hx.loB c) = c := by
  have h := back c.toNat c.toNat_lt
  rw [UInt8.ofNat_toNat] at h
  exact h
theorem un_hex (l : List UInt8) : ∀ acc, Un.unGo acc (Hx.hexOf l) = (acc ++ l, true) := by
  induction l with
  | nil => intro acc; simp [Hx.hexOf, Un.unGo]
  | cons c l ih =>
    intro acc
    have h := backC c
    have e : Hx.hexOf (c :: l) = Hx.hiB c :: Hx.loB c :: Hx.hexOf l := by simp [Hx.hexOf]
    rw [e, Un.unGo_ok _ _ _ _ (by omega), h.2.2, ih]
    simp

def br (n l m : Int) : Int := if n < l then l else if m < n then m else n
theorem br_bd (n l m : Int) (h : l ≤ m) : l ≤ br n l m ∧ br n l m ≤ m := by
  unfold br; split
  · omega
  · split <;> omega
theorem br_in (b l m : Int) (h0 : l ≤ b) (h1 : b ≤ m) : br b l m = b := by
  unfold br; rw [if_neg (by omega), if_neg (by omega)]

set_option maxHeartbeats 400000 in
theorem broughtC (n l m : Int) (h : l ≤ m) (w : World) :
    Calls Tryd.prog 10 #[.int .i64 n, .int .i64 l, .int .i64 m] w fun e w' => e = .returned (.int .i64 (br n l m)) ∧ w' = w := by
  have hm : ¬ m < l := by omega
  clear h
  by_cases h1 : n < l
  · rw [show br n l m = l from by unfold br; rw [if_pos h1]]
    go_enter Tryd.func10, Tryd.ntmps10
    go_wp2
    go_ret
    exact ⟨rfl, rfl⟩
  · by_cases h2 : m < n
    · rw [show br n l m = m from by unfold br; rw [if_neg h1, if_pos h2]]
      go_enter Tryd.func10, Tryd.ntmps10
      go_wp2
      go_ret
      exact ⟨rfl, rfl⟩
    · rw [show br n l m = n from by unfold br; rw [if_neg h1, if_neg h2]]
      go_enter Tryd.func10, Tryd.ntmps10
      go_wp2
      go_ret
      exact ⟨rfl, rfl⟩

theorem ba_back (s : ByteArray) : ({ data := s.data.toList.toArray } : ByteArray) = s := by cases s; simp

/-- A text's figures, and the text from them. -/
def figs (s : ByteArray) : ByteArray := ⟨(Hx.hexOf s.data.toList).toArray⟩
theorem figs_size (s : ByteArray) : (figs s).size = 2 * s.size := by
  show (Hx.hexOf s.data.toList).toArray.size = _
  rw [List.size_toArray, Hx.hexOf_size]
theorem hexC (s : ByteArray) (hs : s.size ≤ 20000) (w : World) :
    Calls Tryd.prog 7 #[.string s] w fun e w' => e = .returned (.tuple #[.string (figs s), .bool true]) ∧ Below w.heap.size w w' := Hx.implHex s w hs
theorem unhexC (s : ByteArray) (hs : s.size ≤ 20000) (w : World) :
    Calls Tryd.prog 8 #[.string (figs s)] w fun e w' => e = .returned (.tuple #[.string s, .bool true]) ∧ Below w.heap.size w w' := by
  have h := Un.implUnhex (figs s) w (by rw [figs_size]; omega) (by rw [figs_size]; omega)
  rw [show (figs s).data.toList = Hx.hexOf s.data.toList from by simp [figs], un_hex, List.nil_append, ba_back] at h
  exact h
end Fg
end Go.Proofs.YtjdeknbipncjoaaDoor
