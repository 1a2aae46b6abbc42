/-
  What is proved: the functions Told of package plain and Error of package booksame at nil and at an Errno.
  Conditions: the package variable errorType of package errors lies as the text lays it.
-/
import Derived.Test.YtgbhhnfnfldbmaaDoorAsW
namespace Go.Proofs.YtgbhhnfnfldbmaaDoor
open Go.RowKit

/-- The variable errorType holds the handle of the type error. -/
def Et (w : World) : Prop := w.cell? ⟨2, 0, none⟩ = some (.iface 71 (.agg #[.pointer (some ⟨3, 25, none⟩)]))
theorem Et.pos {w : World} (h : Et w) : 2 < w.heap.size := by
  rcases Nat.lt_or_ge 2 w.heap.size with h1 | h0
  · exact h1
  · unfold Et at h
    simp [World.cell?, Array.getElem?_eq_none h0] at h
theorem Et.below {w w' : World} (h : Et w) (hb : Below w.heap.size w w') : Et w' := (hb.cell (p := ⟨2, 0, none⟩) h.pos).trans h

theorem told_nil (w : World) : Calls Tryd.prog 16 #[.nilIface] w fun e w' => e = .returned (.int .i64 0) ∧ Below w.heap.size w w' := by
  go_enter Tryd.func16, Tryd.ntmps16
  go_wp2
  go_ret
  exact ⟨rfl, Below.refl _ _⟩

set_option maxRecDepth 100000 in
set_option maxHeartbeats 400000 in
theorem told_errno (x : Int) (w : World) (h : Et w) : Calls Tryd.prog 16 #[.iface 41 (.int .i64 x)] w fun e w' => e = .returned (.int .i64 x) ∧ Below w.heap.size w w' := by
  have h1 : Et (w.alloc (.cells #[.int .i64 0] 41)) := h.below ((Below.refl _ _).alloc (Nat.le_refl _) _)
  go_enter Tryd.func16, Tryd.ntmps16
  go_wp2_with fail
  refine (asErr.hit x ⟨w.heap.size, 0, none⟩ (.int .i64 0) (w.alloc (.cells #[.int .i64 0] 41)) h1 (by simp) (by simp)).mono ?_
  rintro e w1 ⟨rfl, rfl⟩
  go_wp2
  go_ret
  exact ⟨rfl, (((((Below.refl _ _).alloc (Nat.le_refl _) _).alloc (by simp) _).alloc (by simp; omega) _).alloc (by simp; omega) _).alloc (by simp; omega) _⟩

set_option maxRecDepth 100000 in
set_option maxHeartbeats 400000 in
theorem error_nil (w : World) : Calls Tryd.prog 7 #[.nilIface, .int .i64 0] w fun e w' => e = .returned (.bool true) ∧ Below w.heap.size w w' := by
  go_enter Tryd.func7, Tryd.ntmps7
  go_wp2_with (go_at_call 16; refine (told_nil _).mono ?_; rintro e w1 ⟨rfl, hb⟩)
  go_ret
  exact ⟨rfl, hb⟩

set_option maxRecDepth 100000 in
set_option maxHeartbeats 400000 in
theorem error_errno (x : Int) (w : World) (h : Et w) : Calls Tryd.prog 7 #[.iface 41 (.int .i64 x), .int .i64 x] w fun e w' => e = .returned (.bool true) ∧ Below w.heap.size w w' := by
  go_enter Tryd.func7, Tryd.ntmps7
  go_wp2_with (go_at_call 16; refine (told_errno x _ h).mono ?_; rintro e w1 ⟨rfl, hb⟩)
  go_ret
  exact ⟨by simp, hb⟩

end Go.Proofs.YtgbhhnfnfldbmaaDoor
