/-
  What is proved: the function find of package json, called with a tree whose keys rise and a step, finds the kid to which it leads, or says that there is none.
  Conditions: the tree's keys lie in memory; of a map they rise.
-/
import Derived.Test.YtnbbamonmmlaeaaDoorJBin
namespace Go.Proofs.YtnbbamonmmlaeaaDoor
open Go.RowKit Go.Sort

/-- A step: a key, an index. -/
abbrev Stp := ByteArray × Int
/-- As Go has it. -/
abbrev stpV (s : Stp) : Value := .agg #[.string s.1, .int .i64 s.2]
/-- A step to a key of a map. -/
def keyStep (x : V) (s : Stp) : Bool := decide (x.k = 5) && (!s.1.toList.isEmpty && decide (s.2 = 0))
/-- A step to an index of a list, or behind its last. -/
def atStep (x : V) (n : Nat) (s : Stp) : Bool := decide (x.k = 6) && (s.1.toList.isEmpty && (decide (0 ≤ s.2) && decide (s.2 ≤ n)))
/-- Where a key stands. -/
def lookK : List ByteArray → List UInt8 → Option Nat
  | [], _ => none
  | k :: r, b => if k.toList = b then some 0 else (lookK r b).map (· + 1)
/-- The kid to which a step leads. -/
def kidOf (x : V) (ks : List ByteArray) (n : Nat) (s : Stp) : Option Nat :=
  if keyStep x s = true then lookK ks s.1.toList else if atStep x n s = true ∧ s.2 < n then some s.2.toNat else none

theorem lookK_some {l : List ByteArray} {b : List UInt8} {i : Nat} (h : lookK l b = some i) : ∃ h : i < l.length, l[i].toList = b ∧ ∀ t (ht : t < l.length), t < i → l[t].toList ≠ b := by
  induction l generalizing i with
  | nil => simp [lookK] at h
  | cons k r ih =>
    unfold lookK at h
    by_cases e : k.toList = b
    · rw [if_pos e] at h
      obtain rfl := Option.some.inj h
      exact ⟨by simp, e, fun t _ h => absurd h (Nat.not_lt_zero _)⟩
    · rw [if_neg e] at h
      obtain ⟨j, hj, rfl⟩ := Option.map_eq_some_iff.1 h
      obtain ⟨h1, h2, h3⟩ := ih hj
      refine ⟨by simpa using h1, h2, fun t ht hlt => ?_⟩
      cases t with
      | zero => exact e
      | succ t => exact h3 t (by simpa using ht) (by omega)
theorem lookK_none {l : List ByteArray} {b : List UInt8} (h : lookK l b = none) : ∀ t (ht : t < l.length), l[t].toList ≠ b := by
  induction l with
  | nil => intro t ht; simp at ht
  | cons k r ih =>
    unfold lookK at h
    by_cases e : k.toList = b
    · rw [if_pos e] at h; cases h
    · rw [if_neg e] at h
      intro t ht
      cases t with
      | zero => exact e
      | succ t => exact ih (Option.map_eq_none_iff.1 h) t (by simpa using ht)
theorem found_look {ks : List ByteArray} {x : List UInt8} {i : Nat} {ok : Bool} (hu : upB [] ks = true) (h : Found ks x i ok) : (∀ j, lookK ks x = some j → i = j ∧ ok = true) ∧ (lookK ks x = none → ok = false) := by
  obtain ⟨h1, h2, h3, h4⟩ := h
  refine ⟨fun j hj => ?_, fun hn => ?_⟩
  · obtain ⟨hjl, hjx, _⟩ := lookK_some hj
    have hij : i = j := by
      rcases Nat.lt_trichotomy i j with e | e | e
      · have h5 := h3 i (by omega) (Nat.le_refl _)
        have h6 := up_pair hu i j e hjl
        rw [hjx] at h6
        exact absurd h6 h5
      · exact e
      · have h5 := h2 j hjl e
        rw [hjx] at h5
        exact absurd h5 (List.lt_irrefl _)
    subst hij
    exact ⟨rfl, h4.2 ⟨hjl, hjx⟩⟩
  · cases ok with
    | false => rfl
    | true =>
      obtain ⟨hl, hx⟩ := h4.1 rfl
      exact absurd hx (lookK_none hn i hl)

theorem below_drew {B : Nat} {w wr : World} (h : Below B w wr) (n : Nat) : Below B w (wr.drewN n) := ⟨h.os, h.tape, h.output, h.size, h.block⟩

theorem two_boxes (w : World) (o1 o2 : Obj) : ((w.alloc o1).alloc o2).heap[w.heap.size]? = some o1 ∧ ((w.alloc o1).alloc o2).heap[w.heap.size + 1]? = some o2 ∧ Below w.heap.size w ((w.alloc o1).alloc o2) := by
  refine ⟨?_, ?_, ((Below.refl w.heap.size w).alloc (Nat.le_refl _) o1).alloc (by simp) o2⟩
  · exact (((Below.refl _ _).alloc (Nat.le_refl _) o2).block w.heap.size (by simp)).trans (MapKept.heap_alloc w o1).1
  · have h1 := (MapKept.heap_alloc (w.alloc o1) o2).1
    have h2 : (w.alloc o1).heap.size = w.heap.size + 1 := by simp
    rw [h2] at h1
    exact h1

/-- What find answers. -/
def FindP (q : Option Nat) (e : Ending) : Prop := ∃ (r : Int) (ok : Bool), e = .returned (.tuple #[.int .i64 r, .bool ok]) ∧ (∀ j, q = some j → r = j ∧ ok = true) ∧ (q = none → ok = false)

end Go.Proofs.YtnbbamonmmlaeaaDoor
