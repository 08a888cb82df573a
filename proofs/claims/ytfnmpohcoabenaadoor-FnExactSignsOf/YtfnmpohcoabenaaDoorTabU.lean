/-
  What the row's list gives: the two tables of unicode/utf8.
-/
import Derived.Test.YtfnmpohcoabenaaDoorCards
import Derived.Test.YtfnmpohcoabenaaDoorShelfSign
import Derived.Lib.LaidU8T
import Derived.PinnedBridge
import Derived.Deep.DeepHandedRow
import Derived.Stop.LaidErr
namespace Go.Proofs.YtfnmpohcoabenaaDoor

theorem utf8_accept : (Rows.laid_unicode_utf8_acceptRanges : DataW Unit) = Lib.acceptData := by kernel_rfl
theorem utf8_first : Rows.laid_unicode_utf8_first = Lib.firstData := Go.Pinned.utf8First_eq
theorem utf8_tabs {W : World} (h : laidMet Tryd.prog [("unicode/utf8.acceptRanges", Rows.laid_unicode_utf8_acceptRanges), ("unicode/utf8.first", Rows.laid_unicode_utf8_first)] W) : Lib.Utf8Tabs 0 1 W :=
  utf8Tabs_of_readsT (ρ := Tryd.lays197_ren) ⟨Tryd.lays197.t5, Tryd.lays197.t119, Tryd.lays197.t138, Tryd.lays197.t139⟩ ⟨by kernel_rfl, by kernel_rfl, by kernel_rfl, by kernel_rfl, by kernel_rfl, by kernel_rfl, by kernel_rfl⟩
    (by rw [← utf8_first]; exact Lib.laidMet.reads h (.tail _ (.head _))) (by rw [← utf8_accept]; exact Lib.laidMet.reads h (.head _))
end Go.Proofs.YtfnmpohcoabenaaDoor
