/-
  What is proved: the law JsonGets, called with any tree and path that lie in memory, returns true, and nothing that was there has turned.
  Conditions: both lie in memory; the package variable errorType of package errors lies as the text lays it.
-/
import Derived.Test.YtjmepegckahnfaaDoorJGetJ
import Derived.Test.YtjmepegckahnfaaDoorJSame
import Derived.Test.YtjmepegckahnfaaDoorToldC
namespace Go.Proofs.YtjmepegckahnfaaDoor
open Go.RowKit Go.Sort

theorem error_any (e : Int) (w : World) (h : Et w) : Calls Tryd.prog 8 #[errV e, .int .i64 e] w fun r w' => r = .returned (.bool true) ∧ Below w.heap.size w w' := by
  unfold errV
  by_cases he : e = 0
  · subst he
    rw [if_pos rfl]
    exact error_nil w
  · rw [if_neg he]
    exact error_errno e w h

end Go.Proofs.YtjmepegckahnfaaDoor
