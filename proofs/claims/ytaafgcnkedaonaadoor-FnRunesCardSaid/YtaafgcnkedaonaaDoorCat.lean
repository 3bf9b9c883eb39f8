/- What is proved: plain facts on texts of scalars, one behind the other. Used by the proofs of the laws on texts. -/
import Derived.Test.YtaafgcnkedaonaaDoorU
namespace Go.Proofs.YtaafgcnkedaonaaDoor
open Go.Lib

/-- Texts of scalars, one behind the other. -/
def cat : List Int → ByteArray
  | [] => ⟨#[]⟩
  | n :: ns => rt n ++ cat ns
theorem cat_snoc (ns : List Int) (n : Int) : cat (ns ++ [n]) = cat ns ++ rt n := by
  induction ns with
  | nil => apply ByteArray.ext; simp [cat]
  | cons m ns ih => simp only [List.cons_append, cat, ih]; apply ByteArray.ext; simp [Array.append_assoc]
theorem rl_le (n : Int) : rl n ≤ 4 := by
  unfold rl
  repeat' split
  all_goals omega
theorem cat_size (ns : List Int) : (cat ns).size ≤ 4 * ns.length := by
  induction ns with
  | nil => exact Nat.le_refl 0
  | cons n ns ih =>
    have := rl_le n
    simp only [cat, ByteArray.size_append, rt_size, List.length_cons]
    omega

end Go.Proofs.YtaafgcnkedaonaaDoor
