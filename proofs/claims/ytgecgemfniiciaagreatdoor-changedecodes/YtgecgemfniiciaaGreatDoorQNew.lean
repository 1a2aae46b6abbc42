/-
  What is proved: what the reference has, once it has made its boxes, is what it begins to read with.
  Conditions: none.
-/
import Derived.Test.YtgecgemfniiciaaGreatDoorQFrame
namespace Go.Proofs.YtgecgemfniiciaaGreatDoor
open Go.RowKit

theorem fr_new (w : World) (vb : Value) (b : List UInt8) : Fr w 0 0 0 (.slice none 0 0) [] (.slice none 0 0) [] (((w.alloc (.cells #[.int .i64 0, .int .i64 0, .int .i64 0, .slice none 0 0, .slice none 0 0] 26)).alloc (.cells #[vb, .int .i64 0, .bool false] 38)).alloc (.cells #[.int .i64 0, .int .i64 0, .int .i64 0, .slice none 0 0, .slice none 0 0] 26)) ∧ DAt (w.heap.size + 1) vb b (some b) (((w.alloc (.cells #[.int .i64 0, .int .i64 0, .int .i64 0, .slice none 0 0, .slice none 0 0] 26)).alloc (.cells #[vb, .int .i64 0, .bool false] 38)).alloc (.cells #[.int .i64 0, .int .i64 0, .int .i64 0, .slice none 0 0, .slice none 0 0] 26)) := by
  have A1 := (Below.refl w.heap.size w).alloc (Nat.le_refl _) (.cells #[.int .i64 0, .int .i64 0, .int .i64 0, .slice none 0 0, .slice none 0 0] 26)
  have A2 := A1.alloc A1.size (.cells #[vb, .int .i64 0, .bool false] 38)
  have A3 := A2.alloc A2.size (.cells #[.int .i64 0, .int .i64 0, .int .i64 0, .slice none 0 0, .slice none 0 0] 26)
  refine ⟨⟨A3, by simp, ?_, ?_, World.ownsRow_nil _ _ _ _, World.ownsRow_nil _ _ _ _, fun q hq => by simp at hq⟩, 0, Nat.zero_le _, Or.inr (by simp), ?_⟩
  · exact heap_below (heap_below (MapKept.heap_alloc w _).1 ((Below.refl _ _).alloc (Nat.le_refl _) _) (Nat.le_refl _)) ((Below.refl _ _).alloc (Nat.le_refl _) _) (Nat.le_refl _)
  · have h3 := (MapKept.heap_alloc ((w.alloc (.cells #[.int .i64 0, .int .i64 0, .int .i64 0, .slice none 0 0, .slice none 0 0] 26)).alloc (.cells #[vb, .int .i64 0, .bool false] 38)) (.cells #[.int .i64 0, .int .i64 0, .int .i64 0, .slice none 0 0, .slice none 0 0] 26)).1
    simpa using h3
  · have h2 := (MapKept.heap_alloc (w.alloc (.cells #[.int .i64 0, .int .i64 0, .int .i64 0, .slice none 0 0, .slice none 0 0] 26)) (.cells #[vb, .int .i64 0, .bool false] 38)).1
    have h3 := heap_below h2 ((Below.refl _ _).alloc (Nat.le_refl _) (.cells #[.int .i64 0, .int .i64 0, .int .i64 0, .slice none 0 0, .slice none 0 0] 26)) (Nat.le_refl _)
    simpa using h3
end Go.Proofs.YtgecgemfniiciaaGreatDoor
