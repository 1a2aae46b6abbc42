/-
  What is proved: the function Formed of bookref3, called with a tree that lies in memory, answers whether it is one, the same that package json's isTree answers of each tree in it.
  Conditions: the tree lies in memory.
-/
import Derived.Test.YtnmdhbejjjmdeaaGreatDoorP02
import Derived.Test.YtnmdhbejjjmdeaaGreatDoorP03
import Derived.OrdersHeld
import Derived.Deep.RegionHeld
namespace Go.Proofs.YtnmdhbejjjmdeaaGreatDoor
open Go.RowKit Go.Sort

/-- What is asked of each tree. -/
def nodeS (x : V) (ks : List ByteArray) (n : Nat) (s : Unit) : Bool × Unit := (nodeB x ks n, s)
/-- Is it a tree? -/
def formedB (T : JT) : Bool := (eachM nodeS T ()).1
/-- Are they all? -/
def formedsB (l : List JT) : Bool := (eachsM nodeS l ()).1
theorem formedB_node (x : V) (ks : List ByteArray) (ts : List JT) : formedB (.node x ks ts) = (nodeB x ks ts.length && formedsB ts) := by
  unfold formedB formedsB
  rw [eachM_node]
  cases h : nodeB x ks ts.length <;> simp [nodeS, h]
theorem formedB_eq (T : JT) : formedB T = (nodeB T.x T.ks T.ts.length && formedsB T.ts) := by
  unfold formedB formedsB
  rw [eachM_eq]
  cases h : nodeB T.x T.ks T.ts.length <;> simp [nodeS, h]
theorem formedsB_cons (t : JT) (r : List JT) : formedsB (t :: r) = (formedB t && formedsB r) := by
  unfold formedB formedsB
  rw [eachsM_cons]
  cases h : (eachM nodeS t ()).1 <;> simp
theorem formedsB_nil : formedsB [] = true := by unfold formedsB; rw [eachsM]

theorem okB_range (x : V) (h : okB x = true) : 0 ≤ x.k ∧ x.k ≤ 6 := by
  have hu : usedB x = true := by
    unfold okB at h
    exact (Bool.and_eq_true _ _ ▸ h).1
  unfold usedB at hu
  by_cases h0 : x.k = 0 ∨ x.k = 2 ∨ x.k = 4
  · omega
  · rw [if_neg h0] at hu
    by_cases h1 : x.k = 1
    · omega
    · rw [if_neg h1] at hu
      by_cases h3 : x.k = 3
      · omega
      · rw [if_neg h3] at hu
        by_cases h5 : x.k = 5 ∨ x.k = 6
        · omega
        · rw [if_neg h5] at hu; cases hu

theorem IsStrs.cells {w w' : World} {a : Option Addr} {n cap : Nat} {l : List ByteArray} (h : IsStrs w (.slice a n cap) l) (hb : Below w.heap.size w w') (hl : l ≠ []) :
    ∃ b off, a = some ⟨b, off, none⟩ ∧ b < w.heap.size ∧ ∀ i (h : i < l.length), w'.cell? ⟨b, off + i, none⟩ = some (.string l[i]) := by
  obtain ⟨a', cap', e, _, _, h3⟩ := h
  obtain ⟨b, off, e2, h4, h5⟩ := h3 hl
  simp only [Value.slice.injEq] at e
  refine ⟨b, off, e.1.trans e2, h4, fun i hi => ?_⟩
  rw [hb.cell (p := ⟨b, off + i, none⟩) h4]; exact h5 i hi

/-- The key that stands ahead of an index. -/
def prevK (ks : List ByteArray) (j : Nat) : List UInt8 := if j = 0 then [] else (ks[j - 1]?.getD (ByteArray.mk #[])).toList
theorem empty_lt (s : ByteArray) : (decide (([] : List UInt8) < s.toList)) = !s.toList.isEmpty := by
  cases s.toList with
  | nil => rfl
  | cons a r => simp

end Go.Proofs.YtnmdhbejjjmdeaaGreatDoor
