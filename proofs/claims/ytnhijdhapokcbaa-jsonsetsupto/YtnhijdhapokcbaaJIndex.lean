/-
  What is proved: the function index of bookref3, called with a tree and a step, answers the kid to which it leads, or -1.
  Conditions: the tree's keys lie in memory.
-/
import Derived.Test.YtnhijdhapokcbaaJFind
namespace Go.Proofs.Ytnhijdhapokcbaa
open Go.RowKit Go.Sort

/-- A kid's number, or -1. -/
def idxI : Option Nat → Int
  | some i => i
  | none => -1
theorem lookK_hit {k : ByteArray} {r : List ByteArray} {b : List UInt8} (h : k.toList = b) : lookK (k :: r) b = some 0 := by
  unfold lookK
  exact if_pos h
theorem lookK_drop {ks : List ByteArray} {b : List UInt8} (j : Nat) (h : ∀ t (ht : t < ks.length), t < j → ks[t].toList ≠ b) (hj : j ≤ ks.length) : lookK ks b = (lookK (ks.drop j) b).map (· + j) := by
  induction j with
  | zero => simp
  | succ j ih =>
    have e1 := ih (fun t ht hlt => h t ht (by omega)) (by omega)
    rw [e1, List.drop_eq_getElem_cons (show j < ks.length by omega), lookK, if_neg (h j (by omega) (by omega))]
    cases lookK (ks.drop (j + 1)) b with
    | none => rfl
    | some q => simp; omega

end Go.Proofs.Ytnhijdhapokcbaa
