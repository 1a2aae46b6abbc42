/-
  What is proved: what package tree's upTo, toIndex and toPlace, and the functions that they make, answer.
  Conditions: as each theorem says.
-/
import Derived.Test.YtaelloedamholaaTRow
namespace Go.Proofs.Ytaelloedamholaa
open Go.RowKit

/-- Which of two numbers is ahead. -/
def cmpI (x y : Int) : Int := if x < y then -1 else if y < x then 1 else 0

set_option maxRecDepth 100000 in
set_option maxHeartbeats 1000000 in
theorem nan_any (x : Int) (w : World) : Calls Try.prog 31 #[.int .i64 x] w fun e w' => e = .returned (.bool false) ∧ w' = w := by
  go_enter Try.func31, Try.ntmps31
  go_wp2
  go_ret
  exact ⟨by simp, rfl⟩

set_option maxRecDepth 100000 in
set_option maxHeartbeats 1000000 in
theorem compare_any (x y : Int) (w : World) : Calls Try.prog 25 #[.int .i64 x, .int .i64 y] w fun e w' => e = .returned (.int .i64 (cmpI x y)) ∧ w' = w := by
  unfold cmpI
  have N1 := nan_any x w
  have N2 := nan_any y w
  by_cases h1 : x < y
  · rw [if_pos h1]
    go_enter Try.func25, Try.ntmps25
    go_wp2_with fail
    go_fit N1
    rintro e w1 ⟨rfl, rfl⟩
    go_wp2_with fail
    go_fit N2
    rintro e w1 ⟨rfl, rfl⟩
    go_wp2
    go_ret
    exact ⟨rfl, rfl⟩
  · rw [if_neg h1]
    by_cases h2 : y < x
    · rw [if_pos h2]
      go_enter Try.func25, Try.ntmps25
      go_wp2_with fail
      go_fit N1
      rintro e w1 ⟨rfl, rfl⟩
      go_wp2_with fail
      go_fit N2
      rintro e w1 ⟨rfl, rfl⟩
      go_wp2
      go_ret
      exact ⟨rfl, rfl⟩
    · rw [if_neg h2]
      go_enter Try.func25, Try.ntmps25
      go_wp2_with fail
      go_fit N1
      rintro e w1 ⟨rfl, rfl⟩
      go_wp2_with fail
      go_fit N2
      rintro e w1 ⟨rfl, rfl⟩
      go_wp2
      go_ret
      exact ⟨rfl, rfl⟩

set_option maxRecDepth 100000 in
set_option maxHeartbeats 1000000 in
theorem upTo_any (n m : Int) (w : World) : Calls Try.prog 15 #[.int .i64 n, .int .i64 m] w fun e w' => e = .returned (.bool (decide (0 ≤ n ∧ n ≤ m))) ∧ w' = w := by
  by_cases h1 : 0 ≤ n
  · by_cases h2 : n ≤ m
    · rw [decide_eq_true (show 0 ≤ n ∧ n ≤ m from ⟨h1, h2⟩)]
      go_enter Try.func15, Try.ntmps15
      go_wp2
      go_ret
      exact ⟨rfl, rfl⟩
    · rw [decide_eq_false (show ¬ (0 ≤ n ∧ n ≤ m) from fun h => h2 h.2)]
      go_enter Try.func15, Try.ntmps15
      go_wp2
      go_ret
      exact ⟨rfl, rfl⟩
  · rw [decide_eq_false (show ¬ (0 ≤ n ∧ n ≤ m) from fun h => h1 h.1)]
    go_enter Try.func15, Try.ntmps15
    go_wp2
    go_ret
    exact ⟨rfl, rfl⟩

set_option maxRecDepth 100000 in
set_option maxHeartbeats 1000000 in
/-- The way to an index. -/
theorem index_any (a m s h : Int) (np : Value) (q : Nat) (w : World) (hq : w.cell? ⟨q, 0, none⟩ = some (.int .i64 a)) (hz : q < w.heap.size) (T : Option Addr) (hn : np = .pointer T) :
    Calls Try.prog 24 #[np, .agg #[.int .i64 m, .int .i64 s, .int .i64 h], .pointer (some ⟨q, 0, none⟩)] w fun e w' => e = .returned (.int .i64 (cmpI a m)) ∧ w' = w.alloc (.cells #[.int .i64 m, .int .i64 s, .int .i64 h] 44) := by
  subst hn
  have C := compare_any a m (w.alloc (.cells #[.int .i64 m, .int .i64 s, .int .i64 h] 44))
  go_enter Try.func24, Try.ntmps24
  go_wp2_with fail
  go_fit C
  rintro e w1 ⟨rfl, rfl⟩
  go_wp2
  go_ret
  exact ⟨rfl, rfl⟩

/-- The way to a place. -/
def wayP (a s u : Int) : Int := if a < s then -1 else if s + u ≤ a then 1 else 0

set_option maxRecDepth 100000 in
set_option maxHeartbeats 2000000 in
theorem place_any (a m s h u : Int) (b q : Nat) (w : World) (hq : w.cell? ⟨q, 0, none⟩ = some (.int .i64 a)) (hz : q < w.heap.size) (hu : w.cell? ⟨b, 1, none⟩ = some (.int .i64 u)) (hb : b < w.heap.size) (h1 : 0 ≤ s ∧ s ≤ 1000000000000) (h2 : 0 ≤ u ∧ u ≤ 1000000) :
    Calls Try.prog 26 #[.pointer (some ⟨b, 0, none⟩), .agg #[.int .i64 m, .int .i64 s, .int .i64 h], .pointer (some ⟨q, 0, none⟩)] w fun e w' => e = .returned (.int .i64 (wayP a s u)) ∧ Below w.heap.size w w' := by
  have B0 := (Below.refl w.heap.size w).alloc (Nat.le_refl _) (.cells #[.int .i64 m, .int .i64 s, .int .i64 h] 44)
  unfold wayP
  have x1 : IntKind.i64.wrap (s + u) = s + u := IntWalk.i64_in _ (by omega)
  by_cases k1 : a < s
  · rw [if_pos k1]
    go_enter Try.func26, Try.ntmps26
    go_wp2
    go_ret
    exact ⟨rfl, B0⟩
  · rw [if_neg k1]
    by_cases k2 : s + u ≤ a
    · rw [if_pos k2]
      go_enter Try.func26, Try.ntmps26
      go_wp2
      go_quiet (fail)
      go_wp2
      go_ret
      exact ⟨rfl, below_drewN B0 nq⟩
    · rw [if_neg k2]
      go_enter Try.func26, Try.ntmps26
      go_wp2
      go_quiet (fail)
      go_wp2
      go_ret
      exact ⟨rfl, below_drewN B0 nq⟩
end Go.Proofs.Ytaelloedamholaa
