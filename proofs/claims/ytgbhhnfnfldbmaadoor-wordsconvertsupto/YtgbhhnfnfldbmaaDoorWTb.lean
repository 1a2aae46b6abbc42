/-
  What is proved: where the two listed variables of package utf8 read as the row lists them, its tables lie as its functions read them.
  Conditions: none but these.
-/
import Derived.Test.YtgbhhnfnfldbmaaDoorRows
import Derived.Test.YtgbhhnfnfldbmaaDoorWCall
import Derived.Lib.LaidU8T
namespace Go.Proofs.YtgbhhnfnfldbmaaDoor
open Go.RowKit Go.Shelf Go.Lib

theorem first_d : (Rows.laid_unicode_utf8_first : DataW Unit) = firstData := by kernel_rfl
theorem accept_d : (Rows.laid_unicode_utf8_acceptRanges : DataW Unit) = acceptData := by kernel_rfl

theorem tb_of {l : List (String × DataW Unit)} {W : World} (h : laidMet Tryd.prog l W) (h1 : ("unicode/utf8.first", Rows.laid_unicode_utf8_first) ∈ l) (h2 : ("unicode/utf8.acceptRanges", Rows.laid_unicode_utf8_acceptRanges) ∈ l) : Tb W := by
  rw [first_d] at h1
  rw [accept_d] at h2
  exact utf8Tabs_of_readsT (U8Types.of196 Tryd.validS) ⟨by kernel_rfl, by kernel_rfl, by kernel_rfl, by kernel_rfl, by kernel_rfl, by kernel_rfl, by kernel_rfl⟩ (Lib.laidMet.reads h h1) (Lib.laidMet.reads h h2)

theorem bulk_str {H : Type} (s : ByteArray) : s.size + 1 = Rows.uptoBulk (H := H) (.lit (.string s.data.toList)) := by
  rw [Rows.uptoBulk]
  exact congrArg (· + 1) (size_len s).symm
end Go.Proofs.YtgbhhnfnfldbmaaDoor
