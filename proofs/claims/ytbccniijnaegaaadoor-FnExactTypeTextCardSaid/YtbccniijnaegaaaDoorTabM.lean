/- What is proved: the library's number MaxLen is some int, and it stays one where nothing old is written. Used by the proofs on types. -/
import Derived.Test.YtbccniijnaegaaaDoorRows
import Derived.Test.YtbccniijnaegaaaDoorShelf
import Derived.Shelf.Vars
import Derived.Lib.LaidU8
import Derived.Lib.LaidIn
import Derived.Lib.LaidTab
import Derived.Below
namespace Go.Proofs.YtbccniijnaegaaaDoor
open Go.RowKit

/-- The library's number MaxLen is some int. -/
def Ml (w : World) : Prop := ∃ m, w.cell? ⟨0, 0, none⟩ = some (.int .i64 m)
theorem ml_of {W : World} (h : W.ShapedOpen Tryd.prog) : Ml W :=
  cell_of_shapedOpen_int (zero := #[.int .i64 0]) (t := 3) h (of_decide_eq_true (by kernel_rfl)) (by kernel_rfl) rfl (by kernel_rfl) (by kernel_rfl) Tryd.underlying3
theorem ml_below {w w' : World} (h : Ml w) (hb : Below w.heap.size w w') : Ml w' := by
  obtain ⟨m, hm⟩ := h
  have hl : (⟨0, 0, none⟩ : Addr).block < w.heap.size := by
    show 0 < w.heap.size
    rcases Nat.lt_or_ge 0 w.heap.size with h | h
    · exact h
    · simp [World.cell?, Array.getElem?_eq_none h] at hm
  exact ⟨m, (hb.cell hl).trans hm⟩
end Go.Proofs.YtbccniijnaegaaaDoor
