/-
  What is proved: the functions of the statements' own package of great numbers that make a number, take it apart by ten, at any number of 64 bits.
  Conditions: as each theorem says.
-/
import Derived.Test.YtnbbamonmmlaeaaDoorProg
import Derived.WalkKit
import Derived.WalkSpells
import Derived.WalkLawsBesides
import Derived.Handy
import Derived.Laws.BitsAllLaws
namespace Go.Proofs.YtnbbamonmmlaeaaDoor
open Go.RowKit

/-- How many words a number has. -/
def len32 (u : Nat) : Nat := if u = 0 then 0 else if u < 4294967296 then 1 else 2

/-- A number's words lie in a block. -/
def Words (w : World) (g u : Nat) : Prop := (1 ≤ len32 u → w.cell? ⟨g, 0, none⟩ = some (.int .u32 ((u : Int) % 4294967296))) ∧ (2 ≤ len32 u → w.cell? ⟨g, 1, none⟩ = some (.int .u32 ((u : Int) / 4294967296)))

theorem len32_le (u : Nat) : len32 u ≤ 2 := by unfold len32; split <;> (try split) <;> omega

set_option maxRecDepth 100000 in
set_option maxHeartbeats 400000 in
theorem trim_22 (b : Nat) (y : Int) (w : World) (hy : 1 ≤ y) (c1 : w.cell? ⟨b, 1, none⟩ = some (.int .u32 y)) :
    Calls Tryd.prog 68 #[.slice (some ⟨b, 0, none⟩) 2 2] w fun e w' => e = .returned (.slice (some ⟨b, 0, none⟩) 2 2) ∧ w' = w := by
  have hy' : (y == 0) = false := by rw [beq_eq_false_iff_ne]; omega
  go_enter Tryd.func68, Tryd.ntmps68
  go_wp2
  refine wp_loop_rounds 1 ?_
  rw [rounds_succ]
  go_wp2
  go_ret
  exact ⟨rfl, rfl⟩

set_option maxRecDepth 100000 in
set_option maxHeartbeats 400000 in
theorem trim_21 (b : Nat) (x : Int) (w : World) (hx : 1 ≤ x) (c0 : w.cell? ⟨b, 0, none⟩ = some (.int .u32 x)) (c1 : w.cell? ⟨b, 1, none⟩ = some (.int .u32 0)) :
    Calls Tryd.prog 68 #[.slice (some ⟨b, 0, none⟩) 2 2] w fun e w' => e = .returned (.slice (some ⟨b, 0, none⟩) 1 2) ∧ w' = w := by
  have hx' : (x == 0) = false := by rw [beq_eq_false_iff_ne]; omega
  go_enter Tryd.func68, Tryd.ntmps68
  go_wp2
  refine wp_loop_rounds 2 ?_
  rw [rounds_succ]
  go_wp2
  rw [rounds_succ]
  go_wp2
  go_ret
  exact ⟨rfl, rfl⟩

set_option maxRecDepth 100000 in
set_option maxHeartbeats 400000 in
theorem trim_20 (b : Nat) (w : World) (c0 : w.cell? ⟨b, 0, none⟩ = some (.int .u32 0)) (c1 : w.cell? ⟨b, 1, none⟩ = some (.int .u32 0)) :
    Calls Tryd.prog 68 #[.slice (some ⟨b, 0, none⟩) 2 2] w fun e w' => e = .returned (.slice (some ⟨b, 0, none⟩) 0 2) ∧ w' = w := by
  go_enter Tryd.func68, Tryd.ntmps68
  go_wp2
  refine wp_loop_rounds 3 ?_
  rw [rounds_succ]
  go_wp2
  rw [rounds_succ]
  go_wp2
  rw [rounds_succ]
  go_wp2
  go_ret
  exact ⟨rfl, rfl⟩

set_option maxRecDepth 100000 in
set_option maxHeartbeats 400000 in
theorem trim_11 (b : Nat) (x : Int) (w : World) (hx : 1 ≤ x) (c0 : w.cell? ⟨b, 0, none⟩ = some (.int .u32 x)) :
    Calls Tryd.prog 68 #[.slice (some ⟨b, 0, none⟩) 1 1] w fun e w' => e = .returned (.slice (some ⟨b, 0, none⟩) 1 1) ∧ w' = w := by
  have hx' : (x == 0) = false := by rw [beq_eq_false_iff_ne]; omega
  go_enter Tryd.func68, Tryd.ntmps68
  go_wp2
  refine wp_loop_rounds 1 ?_
  rw [rounds_succ]
  go_wp2
  go_ret
  exact ⟨rfl, rfl⟩

set_option maxRecDepth 100000 in
set_option maxHeartbeats 400000 in
theorem trim_10 (b : Nat) (w : World) (c0 : w.cell? ⟨b, 0, none⟩ = some (.int .u32 0)) :
    Calls Tryd.prog 68 #[.slice (some ⟨b, 0, none⟩) 1 1] w fun e w' => e = .returned (.slice (some ⟨b, 0, none⟩) 0 1) ∧ w' = w := by
  go_enter Tryd.func68, Tryd.ntmps68
  go_wp2
  refine wp_loop_rounds 2 ?_
  rw [rounds_succ]
  go_wp2
  rw [rounds_succ]
  go_wp2
  go_ret
  exact ⟨rfl, rfl⟩

/-- trim of two words. -/
theorem trim_two (b u : Nat) (w : World) (hu : u < 18446744073709551616) (c0 : w.cell? ⟨b, 0, none⟩ = some (.int .u32 ((u : Int) % 4294967296))) (c1 : w.cell? ⟨b, 1, none⟩ = some (.int .u32 ((u : Int) / 4294967296))) :
    Calls Tryd.prog 68 #[.slice (some ⟨b, 0, none⟩) 2 2] w fun e w' => e = .returned (.slice (some ⟨b, 0, none⟩) (len32 u) 2) ∧ w' = w := by
  unfold len32
  by_cases h0 : u = 0
  · subst h0
    rw [if_pos rfl]
    exact trim_20 b w c0 c1
  · rw [if_neg h0]
    by_cases h1 : u < 4294967296
    · rw [if_pos h1]
      have e1 : (u : Int) / 4294967296 = 0 := by omega
      rw [e1] at c1
      exact trim_21 b _ w (by omega) c0 c1
    · rw [if_neg h1]
      exact trim_22 b _ w (by omega) c1

/-- trim of one word. -/
theorem trim_one (b u : Nat) (w : World) (hu : u < 4294967296) (c0 : w.cell? ⟨b, 0, none⟩ = some (.int .u32 u)) :
    Calls Tryd.prog 68 #[.slice (some ⟨b, 0, none⟩) 1 1] w fun e w' => e = .returned (.slice (some ⟨b, 0, none⟩) (len32 u) 1) ∧ w' = w := by
  unfold len32
  by_cases h0 : u = 0
  · subst h0
    rw [if_pos rfl]
    exact trim_10 b w c0
  · rw [if_neg h0, if_pos hu]
    exact trim_11 b u w (by omega) c0

theorem or_low (r x : Nat) (hr : r < 10) (hx : x < 4294967296) : bits .or .u64 ((r : Int) * 4294967296) x = (r : Int) * 4294967296 + x := by
  rw [u64_or _ _ (by omega) (by omega) (by omega) (by omega)]
  have h1 : ((r : Int) * 4294967296).toNat = 2 ^ 32 * r := by omega
  rw [h1, Int.toNat_natCast, ← Nat.two_pow_add_eq_or_of_lt (by omega)]
  omega

set_option maxRecDepth 100000 in
set_option maxHeartbeats 400000 in
theorem words_any (u : Nat) (w : World) (hu : u < 18446744073709551616) :
    Calls Tryd.prog 60 #[.int .u64 u] w fun e w' => e = .returned (.slice (some ⟨w.heap.size, 0, none⟩) (len32 u) 2) ∧ w' = w.alloc (.cells #[.int .u32 ((u : Int) % 4294967296), .int .u32 ((u : Int) / 4294967296)] 105) := by
  have q1 : (u : Int) / 4294967296 < 4294967296 := by omega
  have q0 : 0 ≤ (u : Int) / 4294967296 := by omega
  have q2 : (u : Int) / 4294967296 % 4294967296 = (u : Int) / 4294967296 := by omega
  go_enter Tryd.func60, Tryd.ntmps60
  go_wp2_with (go_at_call 68; refine (trim_two w.heap.size u _ hu ?_ ?_).mono ?_)
  case refine_1 => simp
  case refine_2 => simp
  rintro e w1 ⟨rfl, rfl⟩
  go_wp2
  go_ret
  exact ⟨rfl, rfl⟩

/-- A number as the package has it: its sign, and its words in the next block. -/
def numW (w : World) (neg : Bool) (u : Nat) : World := (w.alloc (.cells #[.bool neg, .slice (some ⟨w.heap.size + 1, 0, none⟩) (len32 u) 2] 96)).alloc (.cells #[.int .u32 ((u : Int) % 4294967296), .int .u32 ((u : Int) / 4294967296)] 105)

set_option maxRecDepth 100000 in
set_option maxHeartbeats 1000000 in
theorem newInt_pos (u : Nat) (w : World) (hu : u < 9223372036854775808) :
    Calls Tryd.prog 37 #[.int .i64 u] w fun e w' => e = .returned (.pointer (some ⟨w.heap.size, 0, none⟩)) ∧ w' = numW w false u := by
  have q : ¬ (u : Int) < 0 := by omega
  unfold numW
  go_enter Tryd.func37, Tryd.ntmps37
  go_wp2_with (first | (go_at_call 60; refine (words_any u _ (by omega)).mono ?_; rintro e w1 ⟨rfl, rfl⟩) | go_in)
  go_ret
  exact ⟨rfl, rfl⟩

theorem wrap_neg (n : Int) (u : Nat) (hu : u ≤ 9223372036854775808) (hn : n = -(u : Int)) : IntKind.u64.wrap (-IntKind.u64.wrap n) = u := by
  simp only [IntKind.wrap_u64]
  omega

set_option maxRecDepth 100000 in
set_option maxHeartbeats 1000000 in
theorem newInt_neg (n : Int) (u : Nat) (w : World) (hu : u ≤ 9223372036854775808) (h1 : 1 ≤ u) (hn : n = -(u : Int)) :
    Calls Tryd.prog 37 #[.int .i64 n] w fun e w' => e = .returned (.pointer (some ⟨w.heap.size, 0, none⟩)) ∧ w' = numW w true u := by
  have q : n < 0 := by omega
  have hl : 0 < len32 u := by unfold len32; split <;> (try split) <;> omega
  have hw := wrap_neg n u hu hn
  have H := fun w => words_any u w (by omega)
  unfold numW
  generalize len32 u = L at *
  have hl' : (0 : Int) < L := by omega
  clear hn hu
  go_enter Tryd.func37, Tryd.ntmps37
  go_wp2_with (first | (go_at_call 60; refine (H _).mono ?_; rintro e w1 ⟨rfl, rfl⟩) | go_in)
  go_ret
  exact ⟨rfl, rfl⟩

theorem infoW : (Tryd.prog.info? 105).map (fun i => (i.zero, i.size, i.bytes)) = some (some (.int .u32 0), 1, 4) := by kernel_rfl

set_option maxRecDepth 100000 in
set_option maxHeartbeats 400000 in
theorem twin_1 (g c : Nat) (x : Int) (w : World) (c0 : w.cell? ⟨g, 0, none⟩ = some (.int .u32 x)) :
    Calls Tryd.prog 61 #[.slice (some ⟨g, 0, none⟩) 1 c] w fun e w' => ∃ v, e = .returned v ∧ w'.ownsRow w.heap.size 105 1 v 1 [.int .u32 x] ∧ Below w.heap.size w w' := by
  obtain ⟨i0, hi, hz0, hz1, hz2⟩ := info_parts infoW
  go_enter Tryd.func61, Tryd.ntmps61
  go_wp2_with (at_builtin; refine wpList_append_own _ rfl _ _ 94 rfl w.heap.size 105 i0 (.int .u32 0) 1 4 Tryd.underlying94 hi hz0 hz1 hz2 rfl (by decide) _ _ _ rfl (World.ownsRow_nil _ _ _ _) ⟨g, 0, none⟩ 1 c [.int .u32 x] rfl rfl ?c1 ?c2 ?c3 ?c4 ?c5 ?_)
  case c1 =>
    intro j u hj
    match j, hj with
    | 0, hj => simp at hj; subst hj; simpa [Addr.add] using c0
  case c2 => intro u hu; simp at hu; subst hu; rfl
  case c3 => unfold maxLen; omega
  case c4 => omega
  case c5 => exact Nat.le_refl _
  intro v' w1 hown hgrow _
  go_wp2
  go_ret
  exact ⟨_, rfl, by simpa using hown, (Below.refl _ _).grown hgrow (Nat.le_refl _) (fun k h => by cases h)⟩

set_option maxRecDepth 100000 in
set_option maxHeartbeats 400000 in
theorem twin_2 (g c : Nat) (x y : Int) (w : World) (c0 : w.cell? ⟨g, 0, none⟩ = some (.int .u32 x)) (c1 : w.cell? ⟨g, 1, none⟩ = some (.int .u32 y)) :
    Calls Tryd.prog 61 #[.slice (some ⟨g, 0, none⟩) 2 c] w fun e w' => ∃ v, e = .returned v ∧ w'.ownsRow w.heap.size 105 1 v 2 [.int .u32 x, .int .u32 y] ∧ Below w.heap.size w w' := by
  obtain ⟨i0, hi, hz0, hz1, hz2⟩ := info_parts infoW
  go_enter Tryd.func61, Tryd.ntmps61
  go_wp2_with (at_builtin; refine wpList_append_own _ rfl _ _ 94 rfl w.heap.size 105 i0 (.int .u32 0) 1 4 Tryd.underlying94 hi hz0 hz1 hz2 rfl (by decide) _ _ _ rfl (World.ownsRow_nil _ _ _ _) ⟨g, 0, none⟩ 2 c [.int .u32 x, .int .u32 y] rfl rfl ?c1 ?c2 ?c3 ?c4 ?c5 ?_)
  case c1 =>
    intro j u hj
    match j, hj with
    | 0, hj => simp at hj; subst hj; simpa [Addr.add] using c0
    | 1, hj => simp at hj; subst hj; simpa [Addr.add] using c1
  case c2 => intro u hu; simp at hu; rcases hu with rfl | rfl <;> rfl
  case c3 => unfold maxLen; omega
  case c4 => omega
  case c5 => exact Nat.le_refl _
  intro v' w1 hown hgrow _
  go_wp2
  go_ret
  exact ⟨_, rfl, by simpa using hown, (Below.refl _ _).grown hgrow (Nat.le_refl _) (fun k h => by cases h)⟩

theorem or_nought (x : Int) (h0 : 0 ≤ x) (h1 : x < 4294967296) : bits .or .u64 0 x = x := by
  rw [u64_or 0 x (by omega) (by omega) h0 (by omega)]
  simp [Int.toNat_of_nonneg h0]

set_option maxRecDepth 100000 in
set_option maxHeartbeats 1000000 in
theorem small_1 (g c u : Nat) (w : World) (hu : u < 4294967296) (c0 : w.cell? ⟨g, 0, none⟩ = some (.int .u32 u)) (hg : g < w.heap.size) :
    Calls Tryd.prog 62 #[.slice (some ⟨g, 0, none⟩) 1 c, .int .u32 10] w fun e w' => e = .returned (.tuple #[.slice (some ⟨w.heap.size, 0, none⟩) (len32 (u / 10)) 1, .int .u32 ((u : Int) % 10)]) ∧ w' = w.alloc (.cells #[.int .u32 ((u / 10 : Nat) : Int)] 105) := by
  have hmk : ∀ w, (Instr.makeSlice 94 (.int .i64 1) (.int .i64 1)).run Tryd.prog w = .ok (.slice (some ⟨w.heap.size, 0, none⟩) 1 1) (w.alloc (.cells #[.int .u32 0] 105)) := fun _ => by kernel_rfl
  have hor := or_nought u (by omega) (by omega)
  have hd : ((u / 10 : Nat) : Int) = (u : Int) / 10 := by omega
  have T := trim_one w.heap.size (u / 10)
  rw [hd] at T ⊢
  generalize len32 (u / 10) = L at *
  clear hd
  go_enter Tryd.func62, Tryd.ntmps62
  go_wp2
  refine wp_loop_rounds 2 ?_
  rw [rounds_succ]
  go_wp2
  rw [rounds_succ]
  go_wp2_with (go_at_call 68; refine (T _ (by omega) ?_).mono ?_)
  case refine_1 => simp
  rintro e w1 ⟨rfl, rfl⟩
  go_wp2
  go_returns
  exact ⟨rfl, rfl⟩

set_option maxRecDepth 100000 in
set_option maxHeartbeats 2000000 in
theorem small_2 (g c u : Nat) (w : World) (hu : u < 18446744073709551616) (hl : 4294967296 ≤ u) (c0 : w.cell? ⟨g, 0, none⟩ = some (.int .u32 ((u : Int) % 4294967296))) (c1 : w.cell? ⟨g, 1, none⟩ = some (.int .u32 ((u : Int) / 4294967296))) (hg : g < w.heap.size) :
    Calls Tryd.prog 62 #[.slice (some ⟨g, 0, none⟩) 2 c, .int .u32 10] w fun e w' => e = .returned (.tuple #[.slice (some ⟨w.heap.size, 0, none⟩) (len32 (u / 10)) 2, .int .u32 ((u : Int) % 10)]) ∧ w' = w.alloc (.cells #[.int .u32 (((u / 10 : Nat) : Int) % 4294967296), .int .u32 (((u / 10 : Nat) : Int) / 4294967296)] 105) := by
  have hmk : ∀ w, (Instr.makeSlice 94 (.int .i64 2) (.int .i64 2)).run Tryd.prog w = .ok (.slice (some ⟨w.heap.size, 0, none⟩) 2 2) (w.alloc (.cells #[.int .u32 0, .int .u32 0] 105)) := fun _ => by kernel_rfl
  have T := trim_two w.heap.size (u / 10)
  generalize hx : (u : Int) % 4294967296 = x at *
  generalize hy : (u : Int) / 4294967296 = y at *
  have hor1 := or_nought y (by omega) (by omega)
  have hor2 : bits .or .u64 (y % 10 * 4294967296) x = y % 10 * 4294967296 + x := by
    have := or_low (y % 10).toNat x.toNat (by omega) (by omega)
    rw [show (((y % 10).toNat : Nat) : Int) = y % 10 from by omega, show ((x.toNat : Nat) : Int) = x from by omega] at this
    exact this
  have e0 : ((u / 10 : Nat) : Int) % 4294967296 = (y % 10 * 4294967296 + x) / 10 := by omega
  have e1 : ((u / 10 : Nat) : Int) / 4294967296 = y / 10 := by omega
  have e2 : (u : Int) % 10 = (y % 10 * 4294967296 + x) % 10 := by omega
  rw [e0, e1] at T
  rw [e0, e1, e2]
  have hT : u / 10 < 18446744073709551616 := by omega
  replace T := fun w => T w hT
  have y0 : 0 ≤ y := by omega
  have y1 : y < 4294967296 := by omega
  have x0 : 0 ≤ x := by omega
  have x1 : x < 4294967296 := by omega
  have z0 : 0 ≤ y % 10 * 4294967296 + x := by omega
  have z1 : (y % 10 * 4294967296 + x) / 10 < 4294967296 := by omega
  have z2 : 0 ≤ y % 10 * 4294967296 := by omega
  have z3 : y % 10 * 4294967296 < 42949672960 := by omega
  have z4 : y % 10 * 4294967296 + x < 42949672960 := by omega
  generalize len32 (u / 10) = L at *
  clear e0 e1 e2 hT hx hy hu hl
  go_enter Tryd.func62, Tryd.ntmps62
  go_wp2
  refine wp_loop_rounds 3 ?_
  rw [rounds_succ]
  go_wp2
  rw [rounds_succ]
  go_wp2
  rw [rounds_succ]
  go_wp2_with (go_at_call 68; refine (T _ ?_ ?_).mono ?_)
  case refine_1 => simp
  case refine_2 => simp
  rintro e w1 ⟨rfl, rfl⟩
  go_wp2
  go_returns
  exact ⟨rfl, rfl⟩
end Go.Proofs.YtnbbamonmmlaeaaDoor
