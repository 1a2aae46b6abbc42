/-
  What is proved: what lies in a row behind an element that is put between, in its place or in a new row; copies between rows of elements of several cells.
  Conditions: as each theorem says.
-/
import Derived.Test.YtegbjkjeoegfbaaDoorJCopyM
import Derived.Laws.CopyRow
import Derived.Lib.Overlaps
import Derived.Lib.AppendZerosOnto
import Derived.Laws.IdiomCopy
namespace Go.Proofs.YtegbjkjeoegfbaaDoor
open Go.RowKit

/-- Elements go over from one row into another, or into their own. -/
theorem copy_rows {P : Program} (w : World) (dT sT ty e : TypeId) (i : TypeInfo) (size g o dLen dCap : Nat) (a : Addr) (sLen sCap : Nat) (cur : Array Value) (t : TypeId) (cs : List Value)
    (hu : P.underlying dT = some (.slice e)) (hi : P.info? e = some i) (hz : i.size = size) (hg : w.heap[g]? = some (.cells cur t)) (k : Nat) (hk : Nat.min sLen dLen = k) (hn : cs.length = k * size)
    (hsrc : ∀ j v, cs[j]? = some v → w.cell? (a.add j) = some v) (hfit : o + cs.length ≤ cur.size) (h1 : ∀ v ∈ cs, v.oneCell' = true) :
    (Builtin.copy_ #[dT, sT] ty #[.slice (some ⟨g, o, none⟩) dLen dCap, .slice (some a) sLen sCap]).run P w = .ok (goInt k) (w.setRow g (cur.toList.take o ++ cs ++ cur.toList.drop (o + cs.length)).toArray) := by
  have hl := run_firstCells_some (P := P) w size k a sLen sCap cs hn hsrc
  have hst := run_storeCells_at P g o t cs 0 cur w hg (by simpa using hfit) h1
  simp only [Nat.add_zero] at hst
  simp [Builtin.copy_, run_underlying hu, Builtin.lenOf, sizeOf, typeInfo, hi, hz, hk, hl, hst]

/-- A list with something put between. -/
def put1 (a : Nat) (xs ys : List Value) : List Value := xs.take a ++ (ys ++ xs.drop a)
theorem put1_len (a : Nat) (xs ys : List Value) : (put1 a xs ys).length = xs.length + ys.length := by
  unfold put1
  simp only [List.length_append, List.length_take, List.length_drop]
  omega
/-- In its place: what stands from there on goes first. -/
theorem put_in {c xs ys : List Value} {a n s : Nat} (hx : c.take n = xs) (hxl : xs.length = n) (hys : ys.length = s) (ha : a ≤ n) (hc : n + s ≤ c.length) :
    ∃ r, ((c.take (a + s) ++ xs.drop a ++ c.drop (a + s + (xs.drop a).length)).take a ++ ys ++ (c.take (a + s) ++ xs.drop a ++ c.drop (a + s + (xs.drop a).length)).drop (a + ys.length)) = put1 a xs ys ++ r ∧ r.length = c.length - (n + s) := by
  have e1 : (c.take (a + s)).length = a + s := by rw [List.length_take]; omega
  have e2 : (c.take (a + s) ++ xs.drop a ++ c.drop (a + s + (xs.drop a).length)).take a = xs.take a := by
    rw [List.append_assoc, List.take_append_of_le_length (by omega), List.take_take, Nat.min_eq_left (by omega), ← hx, List.take_take, Nat.min_eq_left ha]
  have e3 : (c.take (a + s) ++ xs.drop a ++ c.drop (a + s + (xs.drop a).length)).drop (a + ys.length) = xs.drop a ++ c.drop (a + s + (xs.drop a).length) := by
    rw [List.append_assoc, hys]
    exact List.drop_left' e1
  refine ⟨c.drop (a + s + (xs.drop a).length), ?_, ?_⟩
  · rw [e2, e3]
    unfold put1
    simp only [List.append_assoc]
  · rw [List.length_drop, List.length_drop, hxl]
    omega
/-- In a new row: what is put between goes first. -/
theorem put_new {c xs ys : List Value} {a n s : Nat} (hx : c.take a = xs.take a) (hxl : xs.length = n) (hys : ys.length = s) (ha : a ≤ n) (hc : n + s ≤ c.length) :
    ∃ r, ((c.take a ++ ys ++ c.drop (a + ys.length)).take (a + s) ++ xs.drop a ++ (c.take a ++ ys ++ c.drop (a + ys.length)).drop (a + s + (xs.drop a).length)) = put1 a xs ys ++ r ∧ r.length = c.length - (n + s) := by
  have e1 : (c.take a ++ ys).length = a + s := by rw [List.length_append, List.length_take]; omega
  have e2 : (c.take a ++ ys ++ c.drop (a + ys.length)).take (a + s) = xs.take a ++ ys := by
    rw [List.take_left' e1, hx]
  refine ⟨(c.take a ++ ys ++ c.drop (a + ys.length)).drop (a + s + (xs.drop a).length), ?_, ?_⟩
  · rw [e2]
    unfold put1
    simp only [List.append_assoc]
  · rw [List.length_drop, List.length_append, e1, List.length_drop, List.length_drop, hxl, hys]
    omega
end Go.Proofs.YtegbjkjeoegfbaaDoor
