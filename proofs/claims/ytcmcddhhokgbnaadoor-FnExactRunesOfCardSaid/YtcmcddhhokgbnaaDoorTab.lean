/- What is proved: where the library's two tables of UTF-8 read as the rows list them, the contract of the library's decoder finds what it asks. Used by the proofs of the cards. -/
import Derived.Test.YtcmcddhhokgbnaaDoorRows
import Derived.Test.YtcmcddhhokgbnaaDoorShelf
import Derived.Shelf.Vars
import Derived.Lib.LaidU8
import Derived.Lib.LaidIn
import Derived.Lib.LaidTab
import Derived.Below
namespace Go.Proofs.YtcmcddhhokgbnaaDoor
open Go.RowKit

theorem firstD : (Rows.laid_unicode_utf8_first : DataW Unit) = Lib.firstData := by kernel_rfl
theorem acceptD : (Rows.laid_unicode_utf8_acceptRanges : DataW Unit) = Lib.acceptData := by kernel_rfl

theorem tabs {W : World} (h : laidMet Tryd.prog [("unicode/utf8.acceptRanges", Rows.laid_unicode_utf8_acceptRanges), ("unicode/utf8.first", Rows.laid_unicode_utf8_first)] W) : Lib.Utf8Tabs 0 1 W := by
  rw [firstD, acceptD] at h
  exact utf8Tabs_of_reads (ρ := Tryd.lays197_ren) { Tryd.lays197 with } ⟨by kernel_rfl, by kernel_rfl, by kernel_rfl, by kernel_rfl, by kernel_rfl, by kernel_rfl, by kernel_rfl⟩ (Lib.laidMet.reads h (.tail _ (.head _))) (Lib.laidMet.reads h (.head _))
end Go.Proofs.YtcmcddhhokgbnaaDoor
