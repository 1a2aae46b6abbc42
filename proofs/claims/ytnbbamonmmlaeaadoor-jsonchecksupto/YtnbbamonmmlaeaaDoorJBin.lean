/-
  What is proved: slices.BinarySearch of keys that rise finds where a key stands, or would stand.
  Conditions: the keys lie in memory and rise.
-/
import Derived.Test.YtnbbamonmmlaeaaDoorJFormed
namespace Go.Proofs.YtnbbamonmmlaeaaDoor
open Go.RowKit Go.Sort

theorem up_all {p : List UInt8} {l : List ByteArray} (h : upB p l = true) : ∀ i (hi : i < l.length), p < l[i].toList := by
  induction l generalizing p with
  | nil => intro i hi; simp at hi
  | cons k r ih =>
    rw [upB_cons] at h
    simp only [Bool.and_eq_true, decide_eq_true_eq] at h
    intro i hi
    cases i with
    | zero => exact h.1
    | succ i => exact List.lt_trans h.1 (ih h.2.2 i (by simpa using hi))
theorem up_pair {p : List UInt8} {l : List ByteArray} (h : upB p l = true) : ∀ i j (hi : i < j) (hj : j < l.length), l[i].toList < l[j].toList := by
  induction l generalizing p with
  | nil => intro i j hi hj; simp at hj
  | cons k r ih =>
    rw [upB_cons] at h
    simp only [Bool.and_eq_true, decide_eq_true_eq] at h
    intro i j hi hj
    cases j with
    | zero => omega
    | succ j =>
      cases i with
      | zero => exact up_all h.2.2 j (by simpa using hj)
      | succ i => exact ih h.2.2 i j (by omega) (by simpa using hj)

/-- What a search answers. -/
def Found (ks : List ByteArray) (x : List UInt8) (i : Nat) (ok : Bool) : Prop :=
  i ≤ ks.length ∧ (∀ t (h : t < ks.length), t < i → ks[t].toList < x) ∧ (∀ t (h : t < ks.length), i ≤ t → ¬ ks[t].toList < x) ∧ (ok = true ↔ ∃ h : i < ks.length, ks[i].toList = x)

/-- The same, of an ending. -/
def SearchP (ks : List ByteArray) (x : List UInt8) (e : Ending) : Prop := ∃ (i : Nat) (ok : Bool), e = .returned (.tuple #[.int .i64 i, .bool ok]) ∧ Found ks x i ok

end Go.Proofs.YtnbbamonmmlaeaaDoor
