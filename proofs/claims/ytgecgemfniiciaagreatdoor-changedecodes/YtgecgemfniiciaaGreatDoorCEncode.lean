/-
  What is proved: an op, written by package change's putOp, and a change, by its Encode.
  Conditions: they lie in memory, and their numbers and texts are not too great.
-/
import Derived.Test.YtgecgemfniiciaaGreatDoorCEncOp
namespace Go.Proofs.YtgecgemfniiciaaGreatDoor
open Go.RowKit

theorem nums1 {a : Int} (h : N63 a) : ∀ n ∈ [a], 0 ≤ n ∧ n < 9223372036854775808 := by intro n hn; simp at hn; subst hn; exact h
theorem nums2 {a b : Int} (h : N63 a) (k : N63 b) : ∀ n ∈ [a, b], 0 ≤ n ∧ n < 9223372036854775808 := by intro n hn; simp at hn; rcases hn with rfl | rfl; exact h; exact k
theorem nums3 {a b c : Int} (h : N63 a) (k : N63 b) (m : N63 c) : ∀ n ∈ [a, b, c], 0 ≤ n ∧ n < 9223372036854775808 := by intro n hn; simp at hn; rcases hn with rfl | rfl | rfl; exact h; exact k; exact m
theorem nums4 {a b c d : Int} (h : N63 a) (k : N63 b) (m : N63 c) (p : N63 d) : ∀ n ∈ [a, b, c, d], 0 ≤ n ∧ n < 9223372036854775808 := by intro n hn; simp at hn; rcases hn with rfl | rfl | rfl | rfl; exact h; exact k; exact m; exact p
theorem encN_len1 {a : Int} (h : N63 a) : (encN [a]).length ≤ 10 := by simpa using encN_len [a] (nums1 h)
theorem encN_len2 {a b : Int} (h : N63 a) (k : N63 b) : (encN [a, b]).length ≤ 20 := by simpa using encN_len [a, b] (nums2 h k)
theorem encN_len3 {a b c : Int} (h : N63 a) (k : N63 b) (m : N63 c) : (encN [a, b, c]).length ≤ 30 := by simpa using encN_len [a, b, c] (nums3 h k m)
theorem encN_len4 {a b c d : Int} (h : N63 a) (k : N63 b) (m : N63 c) (p : N63 d) : (encN [a, b, c, d]).length ≤ 40 := by simpa using encN_len [a, b, c, d] (nums4 h k m p)

end Go.Proofs.YtgecgemfniiciaaGreatDoor
