/-
  What is proved: the functions Check, Less and isRoot of package id, called with any id, return what chapter 1 says, and nothing that was there has turned.
  Conditions: as each theorem says; none on the world.
-/
import Derived.Test.YtegbjkjeoegfbaaDoorProg
import Derived.WalkKit
import Derived.WalkSpells
import Derived.WalkLawsBesides
namespace Go.Proofs.YtegbjkjeoegfbaaDoor
open Go.RowKit

/-- An id that is none of the root. -/
def Real (n a : Int) : Prop := 1 ≤ n ∧ n ≤ 1000000 ∧ 1 ≤ a ∧ a ≤ 99
/-- What is no id. -/
def Bad (n a : Int) : Prop := ¬ (n = 0 ∧ a = 0) ∧ ¬ Real n a

/-- Is an id ahead of another one? -/
def lessB (n a m b : Int) : Bool := if n = m then decide (a < b) else decide (n < m)

set_option maxRecDepth 100000 in
set_option maxHeartbeats 400000 in
theorem isRoot_yes (w : World) :
    Calls Tryd.prog 66 #[.agg #[.int .i64 0, .int .i64 0]] w fun e w' => e = .returned (.bool true) ∧ Below w.heap.size w w' := by
  go_enter Tryd.func66, Tryd.ntmps66
  go_wp2
  go_ret
  exact ⟨rfl, (Below.refl _ _).alloc (Nat.le_refl _) _⟩

set_option maxRecDepth 100000 in
set_option maxHeartbeats 400000 in
theorem isRoot_no (n a : Int) (w : World) (h : ¬ (n = 0 ∧ a = 0)) :
    Calls Tryd.prog 66 #[.agg #[.int .i64 n, .int .i64 a]] w fun e w' => e = .returned (.bool false) ∧ Below w.heap.size w w' := by
  by_cases h0 : n = 0
  · have h1 : ¬ a = 0 := fun e => h ⟨h0, e⟩
    subst h0
    clear h
    go_enter Tryd.func66, Tryd.ntmps66
    go_wp2
    go_ret
    exact ⟨rfl, (Below.refl _ _).alloc (Nat.le_refl _) _⟩
  · clear h
    go_enter Tryd.func66, Tryd.ntmps66
    go_wp2
    go_ret
    exact ⟨rfl, (Below.refl _ _).alloc (Nat.le_refl _) _⟩

set_option maxRecDepth 100000 in
set_option maxHeartbeats 400000 in
theorem check_root (w : World) :
    Calls Tryd.prog 61 #[.agg #[.int .i64 0, .int .i64 0]] w fun e w' => e = .returned .nilIface ∧ Below w.heap.size w w' := by
  go_enter Tryd.func61, Tryd.ntmps61
  go_wp2
  go_ret
  exact ⟨rfl, ((Below.refl _ _).alloc (Nat.le_refl _) _).alloc (by simp) _⟩

set_option maxRecDepth 100000 in
set_option maxHeartbeats 400000 in
theorem check_real (n a : Int) (w : World) (h : Real n a) :
    Calls Tryd.prog 61 #[.agg #[.int .i64 n, .int .i64 a]] w fun e w' => e = .returned .nilIface ∧ Below w.heap.size w w' := by
  obtain ⟨h1, h2, h3, h4⟩ := h
  have h0 : ¬ n = 0 := by omega
  go_enter Tryd.func61, Tryd.ntmps61
  go_wp2
  go_ret
  exact ⟨rfl, ((Below.refl _ _).alloc (Nat.le_refl _) _).alloc (by simp) _⟩

set_option maxRecDepth 100000 in
set_option maxHeartbeats 400000 in
theorem check_bad (n a : Int) (w : World) (h : Bad n a) :
    Calls Tryd.prog 61 #[.agg #[.int .i64 n, .int .i64 a]] w fun e w' => e = .returned (.iface 59 (.int .i64 1)) ∧ Below w.heap.size w w' := by
  obtain ⟨hr, hn⟩ := h
  unfold Real at hn
  by_cases h0 : n = 0
  · have h1 : ¬ a = 0 := fun e => hr ⟨h0, e⟩
    subst h0
    clear hr hn
    go_enter Tryd.func61, Tryd.ntmps61
    go_wp2
    go_ret
    exact ⟨rfl, ((Below.refl _ _).alloc (Nat.le_refl _) _).alloc (by simp) _⟩
  · clear hr
    by_cases h1 : 1 ≤ n
    · by_cases h2 : n ≤ 1000000
      · by_cases h3 : 1 ≤ a
        · have h4 : ¬ a ≤ 99 := fun e => hn ⟨h1, h2, h3, e⟩
          clear hn
          go_enter Tryd.func61, Tryd.ntmps61
          go_wp2
          go_ret
          exact ⟨rfl, ((Below.refl _ _).alloc (Nat.le_refl _) _).alloc (by simp) _⟩
        · clear hn
          go_enter Tryd.func61, Tryd.ntmps61
          go_wp2
          go_ret
          exact ⟨rfl, ((Below.refl _ _).alloc (Nat.le_refl _) _).alloc (by simp) _⟩
      · clear hn
        go_enter Tryd.func61, Tryd.ntmps61
        go_wp2
        go_ret
        exact ⟨rfl, ((Below.refl _ _).alloc (Nat.le_refl _) _).alloc (by simp) _⟩
    · clear hn
      go_enter Tryd.func61, Tryd.ntmps61
      go_wp2
      go_ret
      exact ⟨rfl, ((Below.refl _ _).alloc (Nat.le_refl _) _).alloc (by simp) _⟩

end Go.Proofs.YtegbjkjeoegfbaaDoor
