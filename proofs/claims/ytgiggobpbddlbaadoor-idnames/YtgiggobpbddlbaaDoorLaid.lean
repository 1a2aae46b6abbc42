/-
  What is proved: what the list of package variables gives: the table of powers of ten, and the two errors of package strconv, lie as the program's text lays them.
  Conditions: the list is met.
-/
import Derived.Test.YtgiggobpbddlbaaDoorRows
import Derived.Test.YtgiggobpbddlbaaDoorParse
import Derived.ProofKit
import Derived.LaidMore
import Derived.Stop.LaidErr
import Derived.Lib.LaidTab
namespace Go.Proofs.YtgiggobpbddlbaaDoor
open Go.ChangeShapes Go.WideShapes Go.ChangeAt Go.RowKit

theorem own : ownKnob Tryd.prog.godebug = none := by kernel_rfl
theorem laidOut : laidOutB Tryd.prog = true := by kernel_rfl
theorem pow10_t : (Tryd.prog.globals[2]?).map (·.type) = some 108 := by kernel_rfl
theorem syn_t : (Tryd.prog.globals[3]?).map (·.type) = some 27 := by kernel_rfl
theorem ran_t : (Tryd.prog.globals[4]?).map (·.type) = some 27 := by kernel_rfl
theorem cells108 : Tryd.prog.cellsOf 108 = 20 := by kernel_rfl
theorem cells72 : Tryd.prog.cellsOf 72 = 1 := by kernel_rfl
theorem cells125 : Tryd.prog.cellsOf 125 = 1 := by kernel_rfl
theorem cells9 : Tryd.prog.cellsOf 9 = 1 := by kernel_rfl
theorem cells23 : Tryd.prog.cellsOf 23 = 2 := by kernel_rfl
theorem star : "*" ++ "errors.errorString" = "*errors.errorString" := by decide
theorem row123 (u : TypeId) (h : Tryd.prog.typeName? 3 u = some "*errors.errorString") : u = 123 :=
  typeName_ptr_named (nm := "errors.errorString") (by rw [star]; kernel_rfl) (by kernel_rfl) (by decide) u (by rw [star]; exact h)
theorem pow10_d : (Rows.laid_internal_strconv_uint64pow10 : DataW Unit) = Lib.tabData .u64 Lib.pow10Tab := by kernel_rfl

/-- From the three last of the list to what the walks ask. -/
theorem env_of {W : World} (h : laidMet Tryd.prog [("internal/strconv.uint64pow10", Rows.laid_internal_strconv_uint64pow10), ("strconv.ErrRange", Rows.laid_strconv_ErrRange), ("strconv.ErrSyntax", Rows.laid_strconv_ErrSyntax)] W) : Env W := by
  rw [pow10_d] at h
  refine ⟨Lib.tabIs_of_head pow10_g pow10_t Tryd.underlying108 Tryd.underlying72 cells72 cells108 h, ?_, ?_⟩
  · obtain ⟨a, s, hv, _⟩ := laid_sentinel h.tail.tail syn_g syn_t Tryd.underlying27 row123 Tryd.underlying123 Tryd.underlying125 rfl rfl Tryd.underlying9 cells125 cells9
    exact ⟨_, _, hv⟩
  · obtain ⟨a, s, hv, _⟩ := laid_sentinel h.tail ran_g ran_t Tryd.underlying27 row123 Tryd.underlying123 Tryd.underlying125 rfl rfl Tryd.underlying9 cells125 cells9
    exact ⟨_, _, hv⟩
end Go.Proofs.YtgiggobpbddlbaaDoor
