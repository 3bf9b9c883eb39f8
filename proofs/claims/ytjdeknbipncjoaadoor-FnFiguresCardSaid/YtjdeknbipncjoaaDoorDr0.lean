/- What is proved: small facts on rows of ints that lie in memory. Used by the proofs of the laws that draw. -/
import Derived.Test.YtjdeknbipncjoaaDoorChecked
import Derived.WalkKit
import Derived.WalkSpells
import Derived.WalkLawsBesides
import Derived.OwnWalk
import Derived.Deep.AppendLies
import Derived.Deep.QuietTactic
import Derived.BigQuiet
import Derived.Deep.RegionHeld3
import Derived.Deep.DrawnRows
import Derived.Lib.Slices
import Derived.Lib.Hide
import Derived.Below
import Derived.KernelRfl
namespace Go.Proofs.YtjdeknbipncjoaaDoor
open Go.RowKit
attribute [local go_sem ↓] Go.wp_at_zero Go.wp_at_succ
theorem info3 : (Tryd.prog.info? 3).map (fun i => (i.zero, i.size, i.bytes)) = some (some (.int .i64 0), 1, 8) := by kernel_rfl

def intC (L : List Int) : List Value := L.map fun x => Value.int .i64 x
theorem intC_length (L : List Int) : (intC L).length = L.length := by simp [intC]
theorem intC_at (L : List Int) (k : Nat) (h : k < L.length) : (intC L)[k]? = some (.int .i64 L[k]) := by simp [intC, h]

theorem own_below {w w' : World} {B e size n : Nat} {v : Value} {xs : List Value} (h : w.ownsRow B e size v n xs) (hb : Below w.heap.size w w') : w'.ownsRow B e size v n xs := by
  refine ⟨h.1, ?_⟩
  rcases h.2 with h0 | ⟨g, cap, cur, hv, hB, hg, h1, h2, h3, h4⟩
  · exact .inl h0
  · refine .inr ⟨g, cap, cur, hv, hB, ?_, h1, h2, h3, h4⟩
    have hlt : g < w.heap.size := by
      rcases Nat.lt_or_ge g w.heap.size with hlt | hge
      · exact hlt
      · rw [Array.getElem?_eq_none hge] at hg; cases hg
    rw [hb.block g hlt]; exact hg

theorem below_drewN (w : World) (k : Nat) : Below w.heap.size w (w.drewN k) := ⟨rfl, rfl, rfl, Nat.le_refl _, fun _ _ => rfl⟩

theorem int_step {w wr w2 : World} {o : Obj} {v v2 : Value} {n : Nat} {L : List Int} {x : Int} (hn : L.length = n) (hnx : Below w.heap.size w wr)
    (hown : wr.ownsRow w.heap.size 3 1 v n (intC L)) (hown2 : w2.ownsRow w.heap.size 3 1 v2 (n + 1) (intC L ++ [.int .i64 x])) (hgrow : (wr.alloc o).grownBy w2 v.ownBlock) :
    (L ++ [x]).length = n + 1 ∧ w2.ownsRow w.heap.size 3 1 v2 (n + 1) (intC (L ++ [x])) ∧ Below w.heap.size w w2 := by
  refine ⟨by simp [hn], ?_, ?_⟩
  · simpa [intC] using hown2
  · exact (hnx.alloc hnx.size _).grown hgrow (by have := hnx.size; simp; omega) (fun k hk => (hown.lt k hk).1)

end Go.Proofs.YtjdeknbipncjoaaDoor
