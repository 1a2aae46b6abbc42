/-
  What is proved: the functions of the statements' own package of great numbers that make a number, take it apart by ten, at any number of 64 bits. plain facts on decimal numerals: what Itoa writes is digits alone, few of them, and Atoi reads it as it was; the name of an id, and where its sign stands.
  Conditions: as each theorem says.
-/
import Derived.Test.YtnmdhbejjjmdeaaGreatDoorProg
import Derived.WalkKit
import Derived.WalkSpells
import Derived.WalkLawsBesides
import Derived.Handy
import Derived.Laws.BitsAllLaws
import Derived.Lib.ItoaNum
import Derived.Lib.AtoiAll
import Derived.Lib.AtoiTie
import Derived.Lib.Bytealg
namespace Go.Proofs.YtnmdhbejjjmdeaaGreatDoor
open Go.RowKit

/-- How many words a number has. -/
def len32 (u : Nat) : Nat := if u = 0 then 0 else if u < 4294967296 then 1 else 2

/-- A number's words lie in a block. -/
def Words (w : World) (g u : Nat) : Prop := (1 ≤ len32 u → w.cell? ⟨g, 0, none⟩ = some (.int .u32 ((u : Int) % 4294967296))) ∧ (2 ≤ len32 u → w.cell? ⟨g, 1, none⟩ = some (.int .u32 ((u : Int) / 4294967296)))

theorem len32_le (u : Nat) : len32 u ≤ 2 := by unfold len32; split <;> (try split) <;> omega

set_option maxRecDepth 100000 in
set_option maxHeartbeats 400000 in
theorem trim_22 (b : Nat) (y : Int) (w : World) (hy : 1 ≤ y) (c1 : w.cell? ⟨b, 1, none⟩ = some (.int .u32 y)) :
    Calls Tryz.prog 52 #[.slice (some ⟨b, 0, none⟩) 2 2] w fun e w' => e = .returned (.slice (some ⟨b, 0, none⟩) 2 2) ∧ w' = w := by
  have hy' : (y == 0) = false := by rw [beq_eq_false_iff_ne]; omega
  go_enter Tryz.func52, Tryz.ntmps52
  go_wp2
  refine wp_loop_rounds 1 ?_
  rw [rounds_succ]
  go_wp2
  go_ret
  exact ⟨rfl, rfl⟩

set_option maxRecDepth 100000 in
set_option maxHeartbeats 400000 in
theorem trim_21 (b : Nat) (x : Int) (w : World) (hx : 1 ≤ x) (c0 : w.cell? ⟨b, 0, none⟩ = some (.int .u32 x)) (c1 : w.cell? ⟨b, 1, none⟩ = some (.int .u32 0)) :
    Calls Tryz.prog 52 #[.slice (some ⟨b, 0, none⟩) 2 2] w fun e w' => e = .returned (.slice (some ⟨b, 0, none⟩) 1 2) ∧ w' = w := by
  have hx' : (x == 0) = false := by rw [beq_eq_false_iff_ne]; omega
  go_enter Tryz.func52, Tryz.ntmps52
  go_wp2
  refine wp_loop_rounds 2 ?_
  rw [rounds_succ]
  go_wp2
  rw [rounds_succ]
  go_wp2
  go_ret
  exact ⟨rfl, rfl⟩

set_option maxRecDepth 100000 in
set_option maxHeartbeats 400000 in
theorem trim_20 (b : Nat) (w : World) (c0 : w.cell? ⟨b, 0, none⟩ = some (.int .u32 0)) (c1 : w.cell? ⟨b, 1, none⟩ = some (.int .u32 0)) :
    Calls Tryz.prog 52 #[.slice (some ⟨b, 0, none⟩) 2 2] w fun e w' => e = .returned (.slice (some ⟨b, 0, none⟩) 0 2) ∧ w' = w := by
  go_enter Tryz.func52, Tryz.ntmps52
  go_wp2
  refine wp_loop_rounds 3 ?_
  rw [rounds_succ]
  go_wp2
  rw [rounds_succ]
  go_wp2
  rw [rounds_succ]
  go_wp2
  go_ret
  exact ⟨rfl, rfl⟩

set_option maxRecDepth 100000 in
set_option maxHeartbeats 400000 in
theorem trim_11 (b : Nat) (x : Int) (w : World) (hx : 1 ≤ x) (c0 : w.cell? ⟨b, 0, none⟩ = some (.int .u32 x)) :
    Calls Tryz.prog 52 #[.slice (some ⟨b, 0, none⟩) 1 1] w fun e w' => e = .returned (.slice (some ⟨b, 0, none⟩) 1 1) ∧ w' = w := by
  have hx' : (x == 0) = false := by rw [beq_eq_false_iff_ne]; omega
  go_enter Tryz.func52, Tryz.ntmps52
  go_wp2
  refine wp_loop_rounds 1 ?_
  rw [rounds_succ]
  go_wp2
  go_ret
  exact ⟨rfl, rfl⟩

set_option maxRecDepth 100000 in
set_option maxHeartbeats 400000 in
theorem trim_10 (b : Nat) (w : World) (c0 : w.cell? ⟨b, 0, none⟩ = some (.int .u32 0)) :
    Calls Tryz.prog 52 #[.slice (some ⟨b, 0, none⟩) 1 1] w fun e w' => e = .returned (.slice (some ⟨b, 0, none⟩) 0 1) ∧ w' = w := by
  go_enter Tryz.func52, Tryz.ntmps52
  go_wp2
  refine wp_loop_rounds 2 ?_
  rw [rounds_succ]
  go_wp2
  rw [rounds_succ]
  go_wp2
  go_ret
  exact ⟨rfl, rfl⟩

/-- trim of two words. -/
theorem trim_two (b u : Nat) (w : World) (hu : u < 18446744073709551616) (c0 : w.cell? ⟨b, 0, none⟩ = some (.int .u32 ((u : Int) % 4294967296))) (c1 : w.cell? ⟨b, 1, none⟩ = some (.int .u32 ((u : Int) / 4294967296))) :
    Calls Tryz.prog 52 #[.slice (some ⟨b, 0, none⟩) 2 2] w fun e w' => e = .returned (.slice (some ⟨b, 0, none⟩) (len32 u) 2) ∧ w' = w := by
  unfold len32
  by_cases h0 : u = 0
  · subst h0
    rw [if_pos rfl]
    exact trim_20 b w c0 c1
  · rw [if_neg h0]
    by_cases h1 : u < 4294967296
    · rw [if_pos h1]
      have e1 : (u : Int) / 4294967296 = 0 := by omega
      rw [e1] at c1
      exact trim_21 b _ w (by omega) c0 c1
    · rw [if_neg h1]
      exact trim_22 b _ w (by omega) c1

/-- trim of one word. -/
theorem trim_one (b u : Nat) (w : World) (hu : u < 4294967296) (c0 : w.cell? ⟨b, 0, none⟩ = some (.int .u32 u)) :
    Calls Tryz.prog 52 #[.slice (some ⟨b, 0, none⟩) 1 1] w fun e w' => e = .returned (.slice (some ⟨b, 0, none⟩) (len32 u) 1) ∧ w' = w := by
  unfold len32
  by_cases h0 : u = 0
  · subst h0
    rw [if_pos rfl]
    exact trim_10 b w c0
  · rw [if_neg h0, if_pos hu]
    exact trim_11 b u w (by omega) c0

theorem or_low (r x : Nat) (hr : r < 10) (hx : x < 4294967296) : bits .or .u64 ((r : Int) * 4294967296) x = (r : Int) * 4294967296 + x := by
  rw [u64_or _ _ (by omega) (by omega) (by omega) (by omega)]
  have h1 : ((r : Int) * 4294967296).toNat = 2 ^ 32 * r := by omega
  rw [h1, Int.toNat_natCast, ← Nat.two_pow_add_eq_or_of_lt (by omega)]
  omega

set_option maxRecDepth 100000 in
set_option maxHeartbeats 400000 in
theorem words_any (u : Nat) (w : World) (hu : u < 18446744073709551616) :
    Calls Tryz.prog 33 #[.int .u64 u] w fun e w' => e = .returned (.slice (some ⟨w.heap.size, 0, none⟩) (len32 u) 2) ∧ w' = w.alloc (.cells #[.int .u32 ((u : Int) % 4294967296), .int .u32 ((u : Int) / 4294967296)] 89) := by
  have q1 : (u : Int) / 4294967296 < 4294967296 := by omega
  have q0 : 0 ≤ (u : Int) / 4294967296 := by omega
  have q2 : (u : Int) / 4294967296 % 4294967296 = (u : Int) / 4294967296 := by omega
  go_enter Tryz.func33, Tryz.ntmps33
  go_wp2_with (go_at_call 52; refine (trim_two w.heap.size u _ hu ?_ ?_).mono ?_)
  case refine_1 => simp
  case refine_2 => simp
  rintro e w1 ⟨rfl, rfl⟩
  go_wp2
  go_ret
  exact ⟨rfl, rfl⟩

/-- A number as the package has it: its sign, and its words in the next block. -/
def numW (w : World) (neg : Bool) (u : Nat) : World := (w.alloc (.cells #[.bool neg, .slice (some ⟨w.heap.size + 1, 0, none⟩) (len32 u) 2] 56)).alloc (.cells #[.int .u32 ((u : Int) % 4294967296), .int .u32 ((u : Int) / 4294967296)] 89)

theorem wrap_neg (n : Int) (u : Nat) (hu : u ≤ 9223372036854775808) (hn : n = -(u : Int)) : IntKind.u64.wrap (-IntKind.u64.wrap n) = u := by
  simp only [IntKind.wrap_u64]
  omega

theorem infoW : (Tryz.prog.info? 89).map (fun i => (i.zero, i.size, i.bytes)) = some (some (.int .u32 0), 1, 4) := by kernel_rfl

set_option maxRecDepth 100000 in
set_option maxHeartbeats 400000 in
theorem twin_1 (g c : Nat) (x : Int) (w : World) (c0 : w.cell? ⟨g, 0, none⟩ = some (.int .u32 x)) :
    Calls Tryz.prog 54 #[.slice (some ⟨g, 0, none⟩) 1 c] w fun e w' => ∃ v, e = .returned v ∧ w'.ownsRow w.heap.size 89 1 v 1 [.int .u32 x] ∧ Below w.heap.size w w' := by
  obtain ⟨i0, hi, hz0, hz1, hz2⟩ := info_parts infoW
  go_enter Tryz.func54, Tryz.ntmps54
  go_wp2_with (at_builtin; refine wpList_append_own _ rfl _ _ 54 rfl w.heap.size 89 i0 (.int .u32 0) 1 4 Tryz.underlying54 hi hz0 hz1 hz2 rfl (by decide) _ _ _ rfl (World.ownsRow_nil _ _ _ _) ⟨g, 0, none⟩ 1 c [.int .u32 x] rfl rfl ?c1 ?c2 ?c3 ?c4 ?c5 ?_)
  case c1 =>
    intro j u hj
    match j, hj with
    | 0, hj => simp at hj; subst hj; simpa [Addr.add] using c0
  case c2 => intro u hu; simp at hu; subst hu; rfl
  case c3 => unfold maxLen; omega
  case c4 => omega
  case c5 => exact Nat.le_refl _
  intro v' w1 hown hgrow _
  go_wp2
  go_ret
  exact ⟨_, rfl, by simpa using hown, (Below.refl _ _).grown hgrow (Nat.le_refl _) (fun k h => by cases h)⟩

set_option maxRecDepth 100000 in
set_option maxHeartbeats 400000 in
theorem twin_2 (g c : Nat) (x y : Int) (w : World) (c0 : w.cell? ⟨g, 0, none⟩ = some (.int .u32 x)) (c1 : w.cell? ⟨g, 1, none⟩ = some (.int .u32 y)) :
    Calls Tryz.prog 54 #[.slice (some ⟨g, 0, none⟩) 2 c] w fun e w' => ∃ v, e = .returned v ∧ w'.ownsRow w.heap.size 89 1 v 2 [.int .u32 x, .int .u32 y] ∧ Below w.heap.size w w' := by
  obtain ⟨i0, hi, hz0, hz1, hz2⟩ := info_parts infoW
  go_enter Tryz.func54, Tryz.ntmps54
  go_wp2_with (at_builtin; refine wpList_append_own _ rfl _ _ 54 rfl w.heap.size 89 i0 (.int .u32 0) 1 4 Tryz.underlying54 hi hz0 hz1 hz2 rfl (by decide) _ _ _ rfl (World.ownsRow_nil _ _ _ _) ⟨g, 0, none⟩ 2 c [.int .u32 x, .int .u32 y] rfl rfl ?c1 ?c2 ?c3 ?c4 ?c5 ?_)
  case c1 =>
    intro j u hj
    match j, hj with
    | 0, hj => simp at hj; subst hj; simpa [Addr.add] using c0
    | 1, hj => simp at hj; subst hj; simpa [Addr.add] using c1
  case c2 => intro u hu; simp at hu; rcases hu with rfl | rfl <;> rfl
  case c3 => unfold maxLen; omega
  case c4 => omega
  case c5 => exact Nat.le_refl _
  intro v' w1 hown hgrow _
  go_wp2
  go_ret
  exact ⟨_, rfl, by simpa using hown, (Below.refl _ _).grown hgrow (Nat.le_refl _) (fun k h => by cases h)⟩

theorem or_nought (x : Int) (h0 : 0 ≤ x) (h1 : x < 4294967296) : bits .or .u64 0 x = x := by
  rw [u64_or 0 x (by omega) (by omega) h0 (by omega)]
  simp [Int.toNat_of_nonneg h0]

set_option maxRecDepth 100000 in
set_option maxHeartbeats 1000000 in
theorem small_1 (g c u : Nat) (w : World) (hu : u < 4294967296) (c0 : w.cell? ⟨g, 0, none⟩ = some (.int .u32 u)) (hg : g < w.heap.size) :
    Calls Tryz.prog 55 #[.slice (some ⟨g, 0, none⟩) 1 c, .int .u32 10] w fun e w' => e = .returned (.tuple #[.slice (some ⟨w.heap.size, 0, none⟩) (len32 (u / 10)) 1, .int .u32 ((u : Int) % 10)]) ∧ w' = w.alloc (.cells #[.int .u32 ((u / 10 : Nat) : Int)] 89) := by
  have hmk : ∀ w, (Instr.makeSlice 54 (.int .i64 1) (.int .i64 1)).run Tryz.prog w = .ok (.slice (some ⟨w.heap.size, 0, none⟩) 1 1) (w.alloc (.cells #[.int .u32 0] 89)) := fun _ => by kernel_rfl
  have hor := or_nought u (by omega) (by omega)
  have hd : ((u / 10 : Nat) : Int) = (u : Int) / 10 := by omega
  have T := trim_one w.heap.size (u / 10)
  rw [hd] at T ⊢
  generalize len32 (u / 10) = L at *
  clear hd
  go_enter Tryz.func55, Tryz.ntmps55
  go_wp2
  refine wp_loop_rounds 2 ?_
  rw [rounds_succ]
  go_wp2
  rw [rounds_succ]
  go_wp2_with (go_at_call 52; refine (T _ (by omega) ?_).mono ?_)
  case refine_1 => simp
  rintro e w1 ⟨rfl, rfl⟩
  go_wp2
  go_returns
  exact ⟨rfl, rfl⟩

set_option maxRecDepth 100000 in
set_option maxHeartbeats 2000000 in
theorem small_2 (g c u : Nat) (w : World) (hu : u < 18446744073709551616) (hl : 4294967296 ≤ u) (c0 : w.cell? ⟨g, 0, none⟩ = some (.int .u32 ((u : Int) % 4294967296))) (c1 : w.cell? ⟨g, 1, none⟩ = some (.int .u32 ((u : Int) / 4294967296))) (hg : g < w.heap.size) :
    Calls Tryz.prog 55 #[.slice (some ⟨g, 0, none⟩) 2 c, .int .u32 10] w fun e w' => e = .returned (.tuple #[.slice (some ⟨w.heap.size, 0, none⟩) (len32 (u / 10)) 2, .int .u32 ((u : Int) % 10)]) ∧ w' = w.alloc (.cells #[.int .u32 (((u / 10 : Nat) : Int) % 4294967296), .int .u32 (((u / 10 : Nat) : Int) / 4294967296)] 89) := by
  have hmk : ∀ w, (Instr.makeSlice 54 (.int .i64 2) (.int .i64 2)).run Tryz.prog w = .ok (.slice (some ⟨w.heap.size, 0, none⟩) 2 2) (w.alloc (.cells #[.int .u32 0, .int .u32 0] 89)) := fun _ => by kernel_rfl
  have T := trim_two w.heap.size (u / 10)
  generalize hx : (u : Int) % 4294967296 = x at *
  generalize hy : (u : Int) / 4294967296 = y at *
  have hor1 := or_nought y (by omega) (by omega)
  have hor2 : bits .or .u64 (y % 10 * 4294967296) x = y % 10 * 4294967296 + x := by
    have := or_low (y % 10).toNat x.toNat (by omega) (by omega)
    rw [show (((y % 10).toNat : Nat) : Int) = y % 10 from by omega, show ((x.toNat : Nat) : Int) = x from by omega] at this
    exact this
  have e0 : ((u / 10 : Nat) : Int) % 4294967296 = (y % 10 * 4294967296 + x) / 10 := by omega
  have e1 : ((u / 10 : Nat) : Int) / 4294967296 = y / 10 := by omega
  have e2 : (u : Int) % 10 = (y % 10 * 4294967296 + x) % 10 := by omega
  rw [e0, e1] at T
  rw [e0, e1, e2]
  have hT : u / 10 < 18446744073709551616 := by omega
  replace T := fun w => T w hT
  have y0 : 0 ≤ y := by omega
  have y1 : y < 4294967296 := by omega
  have x0 : 0 ≤ x := by omega
  have x1 : x < 4294967296 := by omega
  have z0 : 0 ≤ y % 10 * 4294967296 + x := by omega
  have z1 : (y % 10 * 4294967296 + x) / 10 < 4294967296 := by omega
  have z2 : 0 ≤ y % 10 * 4294967296 := by omega
  have z3 : y % 10 * 4294967296 < 42949672960 := by omega
  have z4 : y % 10 * 4294967296 + x < 42949672960 := by omega
  generalize len32 (u / 10) = L at *
  clear e0 e1 e2 hT hx hy hu hl
  go_enter Tryz.func55, Tryz.ntmps55
  go_wp2
  refine wp_loop_rounds 3 ?_
  rw [rounds_succ]
  go_wp2
  rw [rounds_succ]
  go_wp2
  rw [rounds_succ]
  go_wp2_with (go_at_call 52; refine (T _ ?_ ?_).mono ?_)
  case refine_1 => simp
  case refine_2 => simp
  rintro e w1 ⟨rfl, rfl⟩
  go_wp2
  go_returns
  exact ⟨rfl, rfl⟩
end Go.Proofs.YtnmdhbejjjmdeaaGreatDoor

namespace Go.Proofs.YtnmdhbejjjmdeaaGreatDoor

theorem digit_nat (d : Nat) (h : d < 10) : (UInt8.ofNat (48 + d)).toNat = 48 + d := by
  rw [UInt8.toNat_ofNat']
  omega

theorem dec_digits : ∀ (k u : Nat), u < k → ∀ b ∈ Lib.decDigits u, 48 ≤ b.toNat ∧ b.toNat ≤ 57
  | 0, _, h, _, _ => by omega
  | k + 1, u, h, b, hb => by
    by_cases h10 : u < 10
    · rw [Lib.decDigits_one h10] at hb
      simp only [List.mem_singleton] at hb
      subst hb
      rw [digit_nat u h10]
      omega
    · rw [Lib.decDigits, dif_neg h10] at hb
      simp only [List.mem_append, List.mem_singleton] at hb
      rcases hb with hb | hb
      · exact dec_digits k (u / 10) (by omega) b hb
      · subst hb
        rw [digit_nat (u % 10) (by omega)]
        omega

theorem nDigits_le : ∀ (k u : Nat), u < 10 ^ (k + 1) → Lib.nDigits u ≤ k + 1
  | 0, u, h => by rw [Lib.nDigits_small (by simpa using h)]; omega
  | k + 1, u, h => by
    by_cases h10 : u < 10
    · rw [Lib.nDigits_small h10]; omega
    · rw [Lib.nDigits_big h10]
      have h1 : u / 10 < 10 ^ (k + 1) := by
        rw [Nat.pow_succ] at h
        omega
      have := nDigits_le k (u / 10) h1
      omega

theorem decFrom_append : ∀ (l r : List UInt8) (acc : Nat), Lib.decFrom acc (l ++ r) = (Lib.decFrom acc l).bind fun x => Lib.decFrom x r
  | [], r, acc => by simp [Lib.decFrom]
  | b :: l, r, acc => by
    simp only [List.cons_append, Lib.decFrom]
    cases Lib.digitVal b with
    | none => rfl
    | some d => exact decFrom_append l r _

theorem digitVal_digit (d : Nat) (h : d < 10) : Lib.digitVal (UInt8.ofNat (48 + d)) = some d := by
  unfold Lib.digitVal
  rw [digit_nat d h, if_pos ⟨by omega, by omega⟩]
  simp

theorem dec_back : ∀ (k u : Nat), u < k → Lib.decFrom 0 (Lib.decDigits u) = some u
  | 0, _, h => by omega
  | k + 1, u, h => by
    by_cases h10 : u < 10
    · rw [Lib.decDigits_one h10]
      simp only [Lib.decFrom, digitVal_digit u h10, Option.some.injEq]
      omega
    · rw [Lib.decDigits, dif_neg h10, decFrom_append, dec_back k (u / 10) (by omega)]
      simp only [Option.bind_some, Lib.decFrom, digitVal_digit (u % 10) (by omega), Option.some.injEq]
      omega

theorem dec_ne (u : Nat) : ∃ b r, Lib.decDigits u = b :: r := by
  have h := Lib.decDigits_length u
  have h1 := Lib.nDigits_pos u
  cases hd : Lib.decDigits u with
  | nil => rw [hd] at h; simp at h; omega
  | cons b r => exact ⟨b, r, rfl⟩

theorem atoi_dec (u : Nat) : Lib.atoi (Lib.decDigits u) = some (u : Int) := by
  obtain ⟨b, r, hd⟩ := dec_ne u
  have hb := dec_digits (u + 1) u (by omega) b (by rw [hd]; simp)
  have h45 : ¬ b = 45 := fun e => by subst e; simp at hb
  have h43 : ¬ b = 43 := fun e => by subst e; simp at hb
  have hf := dec_back (u + 1) u (by omega)
  rw [hd] at hf ⊢
  simp [Lib.atoi, h45, h43, Lib.decNat, hf]

theorem itoa_nat (n : Int) (h : 0 ≤ n) : Lib.itoa n = Lib.decDigits n.toNat := by
  unfold Lib.itoa
  rw [if_neg (by omega)]

theorem itoa_len (n : Int) (h : 0 ≤ n) (h1 : n ≤ 1000000) : (Lib.itoa n).length ≤ 7 := by
  rw [itoa_nat n h, Lib.decDigits_length]
  exact nDigits_le 6 n.toNat (by omega)

theorem atoiAll_itoa (n : Int) (h : 0 ≤ n) (h1 : n ≤ 1000000) : Lib.atoiAll (Lib.itoa n) = .ok n := by
  rw [Lib.atoiAll_short _ (by have := itoa_len n h h1; omega), itoa_nat n h, atoi_dec]
  have : (n.toNat : Int) = n := Int.toNat_of_nonneg h
  simp [Lib.NumEnd.ofOption, this]

theorem itoa_digits (n : Int) (h : 0 ≤ n) : ∀ b ∈ Lib.itoa n, 48 ≤ b.toNat ∧ b.toNat ≤ 57 := by
  rw [itoa_nat n h]
  exact dec_digits (n.toNat + 1) n.toNat (by omega)

theorem itoa_at (n : Int) (h : 0 ≤ n) : (64 : UInt8) ∉ Lib.itoa n := by
  intro hm
  have := itoa_digits n h 64 hm
  simp at this

/-- The number that a text stands for; 0: none. -/
def numV (l : List UInt8) : Int := match Lib.atoiAll l with
  | .ok v => v
  | _ => 0

theorem numV_itoa (n : Int) (h : 0 ≤ n) (h1 : n ≤ 1000000) : numV (Lib.itoa n) = n := by
  unfold numV
  rw [atoiAll_itoa n h h1]

/-- The name of a real id. -/
def nameL (n a : Int) : List UInt8 := Lib.itoa n ++ 64 :: Lib.itoa a

theorem ib_hit (x y : List UInt8) (h : (64 : UInt8) ∉ x) : Lib.indexByte (x ++ 64 :: y) 64 = x.length := by
  induction x with
  | nil => simp [Lib.indexByte]
  | cons b l ih =>
    have h1 : ¬ b = 64 := fun e => h (by simp [e])
    have h2 := ih (fun m => h (by simp [m]))
    have h3 : ¬ ((l.length : Int) = -1) := by omega
    simp [Lib.indexByte, h1, h2, h3]

theorem ib_miss (x : List UInt8) (h : (64 : UInt8) ∉ x) : Lib.indexByte x 64 = -1 := by
  induction x with
  | nil => simp [Lib.indexByte]
  | cons b l ih =>
    have h1 : ¬ b = 64 := fun e => h (by simp [e])
    have h2 := ih (fun m => h (by simp [m]))
    simp [Lib.indexByte, h1, h2]

theorem ex_front (s : ByteArray) (x y : List UInt8) (h : s.data.toList = x ++ 64 :: y) : s.extract 0 x.length = ⟨x.toArray⟩ := by
  apply ByteArray.ext
  apply Array.ext'
  rw [ByteArray.data_extract, Array.toList_extract, h]
  simp

theorem ex_back (s : ByteArray) (x y : List UInt8) (h : s.data.toList = x ++ 64 :: y) : s.extract (x.length + 1) s.size = ⟨y.toArray⟩ := by
  have hl : s.size = x.length + 1 + y.length := by
    have h1 := congrArg List.length h
    rw [Array.length_toList, List.length_append, List.length_cons] at h1
    rw [ByteArray.size]
    omega
  apply ByteArray.ext
  apply Array.ext'
  rw [ByteArray.data_extract, Array.toList_extract, h, hl]
  rw [List.extract_eq_take_drop, show x.length + 1 + y.length - (x.length + 1) = y.length from by omega]
  rw [show List.drop (x.length + 1) (x ++ 64 :: y) = y from by rw [List.drop_append]; simp]
  simp
end Go.Proofs.YtnmdhbejjjmdeaaGreatDoor
