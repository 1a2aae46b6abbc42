/-
  What is proved: the functions of the statements' own package of great numbers that make a number of one word, take it apart, and print it, at a number that is greater than 0 and of one word.
  Conditions: as each theorem says.
-/
import Derived.Test.YtgiggobpbddlbaaDoorProg
import Derived.WalkKit
import Derived.WalkSpells
import Derived.WalkLawsBesides
import Derived.Laws.BitsAllLaws
namespace Go.Proofs.YtgiggobpbddlbaaDoor
open Go.RowKit

set_option maxHeartbeats 400000 in
theorem trim_two (b : Nat) (x : Int) (w : World) (hx : 1 ≤ x) (c0 : w.cell? ⟨b, 0, none⟩ = some (.int .u32 x)) (c1 : w.cell? ⟨b, 1, none⟩ = some (.int .u32 0)) :
    Calls Tryd.prog 66 #[.slice (some ⟨b, 0, none⟩) 2 2] w fun e w' => e = .returned (.slice (some ⟨b, 0, none⟩) 1 2) ∧ w' = w := by
  have hx' : (x == 0) = false := by rw [beq_eq_false_iff_ne]; omega
  go_enter Tryd.func66, Tryd.ntmps66
  go_wp2
  refine wp_loop_rounds 2 ?_
  rw [rounds_succ]
  go_wp2
  rw [rounds_succ]
  go_wp2
  go_ret
  exact ⟨rfl, rfl⟩

set_option maxHeartbeats 400000 in
theorem trim_one (b : Nat) (x : Int) (w : World) (hx : 1 ≤ x) (c0 : w.cell? ⟨b, 0, none⟩ = some (.int .u32 x)) :
    Calls Tryd.prog 66 #[.slice (some ⟨b, 0, none⟩) 1 1] w fun e w' => e = .returned (.slice (some ⟨b, 0, none⟩) 1 1) ∧ w' = w := by
  have hx' : (x == 0) = false := by rw [beq_eq_false_iff_ne]; omega
  go_enter Tryd.func66, Tryd.ntmps66
  go_wp2
  refine wp_loop_rounds 1 ?_
  rw [rounds_succ]
  go_wp2
  go_ret
  exact ⟨rfl, rfl⟩

set_option maxHeartbeats 400000 in
theorem trim_none (b : Nat) (w : World) (c0 : w.cell? ⟨b, 0, none⟩ = some (.int .u32 0)) :
    Calls Tryd.prog 66 #[.slice (some ⟨b, 0, none⟩) 1 1] w fun e w' => e = .returned (.slice (some ⟨b, 0, none⟩) 0 1) ∧ w' = w := by
  go_enter Tryd.func66, Tryd.ntmps66
  go_wp2
  refine wp_loop_rounds 2 ?_
  rw [rounds_succ]
  go_wp2
  rw [rounds_succ]
  go_wp2
  go_ret
  exact ⟨rfl, rfl⟩

set_option maxHeartbeats 400000 in
theorem newInt_any (x : Int) (w : World) (hx : 1 ≤ x) (hm : x ≤ 1000000) :
    Calls Tryd.prog 26 #[.int .i64 x] w fun e w' => e = .returned (.pointer (some ⟨w.heap.size, 0, none⟩)) ∧ w' = (w.alloc (.cells #[.bool false, .slice (some ⟨w.heap.size + 1, 0, none⟩) 1 2] 55)).alloc (.cells #[.int .u32 x, .int .u32 0] 81) := by
  have hq : x / 4294967296 = 0 := Int.ediv_eq_zero_of_lt (by omega) (by omega)
  go_enter Tryd.func26, Tryd.ntmps26
  go_wp2_with (first | (go_at_call 66; refine (trim_two (w.heap.size + 1) x _ hx ?_ ?_).mono ?_) | go_in)
  case refine_1 => simp
  case refine_2 => simp
  rintro e w1 ⟨rfl, rfl⟩
  go_wp2
  go_ret
  exact ⟨rfl, rfl⟩

theorem info81 : (Tryd.prog.info? 81).map (fun i => (i.zero, i.size, i.bytes)) = some (some (.int .u32 0), 1, 4) := by kernel_rfl
theorem info5 : (Tryd.prog.info? 5).map (fun i => (i.zero, i.size, i.bytes)) = some (some (.int .u8 0), 1, 1) := by kernel_rfl

set_option maxHeartbeats 400000 in
theorem twin_one (g c : Nat) (x : Int) (w : World) (c0 : w.cell? ⟨g, 0, none⟩ = some (.int .u32 x)) :
    Calls Tryd.prog 47 #[.slice (some ⟨g, 0, none⟩) 1 c] w fun e w' => ∃ v, e = .returned v ∧ w'.ownsRow w.heap.size 81 1 v 1 [.int .u32 x] ∧ Below w.heap.size w w' := by
  obtain ⟨i0, hi, hz0, hz1, hz2⟩ := info_parts info81
  go_enter Tryd.func47, Tryd.ntmps47
  go_wp2_with (at_builtin; refine wpList_append_own _ rfl _ _ 53 rfl w.heap.size 81 i0 (.int .u32 0) 1 4 Tryd.underlying53 hi hz0 hz1 hz2 rfl (by decide) _ _ _ rfl (World.ownsRow_nil _ _ _ _) ⟨g, 0, none⟩ 1 c [.int .u32 x] rfl rfl ?c1 ?c2 ?c3 ?c4 ?c5 ?_)
  case c1 =>
    intro j u hj
    match j, hj with
    | 0, hj => simp at hj; subst hj; simpa [Addr.add] using c0
  case c2 => intro u hu; simp at hu; subst hu; rfl
  case c3 => unfold maxLen; omega
  case c4 => omega
  case c5 => exact Nat.le_refl _
  intro v' w1 hown hgrow _
  go_wp2
  go_ret
  exact ⟨_, rfl, by simpa using hown, (Below.refl _ _).grown hgrow (Nat.le_refl _) (fun k h => by cases h)⟩

theorem or_zero (x : Int) (h0 : 0 ≤ x) (h1 : x ≤ 1000000) : bits .or .u64 0 x = x := by
  rw [u64_or 0 x (by omega) (by omega) h0 (by omega)]
  simp [Int.toNat_of_nonneg h0]

set_option maxHeartbeats 400000 in
theorem small_pos (g c : Nat) (x : Int) (w : World) (hx : 10 ≤ x) (hm : x ≤ 1000000) (c0 : w.cell? ⟨g, 0, none⟩ = some (.int .u32 x)) (hg : g < w.heap.size) :
    Calls Tryd.prog 48 #[.slice (some ⟨g, 0, none⟩) 1 c, .int .u32 10] w fun e w' => e = .returned (.tuple #[.slice (some ⟨w.heap.size, 0, none⟩) 1 1, .int .u32 (x % 10)]) ∧ w' = w.alloc (.cells #[.int .u32 (x / 10)] 81) := by
  have hmk : ∀ w, (Instr.makeSlice 53 (.int .i64 1) (.int .i64 1)).run Tryd.prog w = .ok (.slice (some ⟨w.heap.size, 0, none⟩) 1 1) (w.alloc (.cells #[.int .u32 0] 81)) := fun _ => by kernel_rfl
  have h1 : 1 ≤ x / 10 := by omega
  have hor := or_zero x (by omega) hm
  go_enter Tryd.func48, Tryd.ntmps48
  go_wp2
  refine wp_loop_rounds 2 ?_
  rw [rounds_succ]
  go_wp2
  rw [rounds_succ]
  go_wp2_with (go_at_call 66; refine (trim_one w.heap.size (x / 10) _ h1 ?_).mono ?_)
  case refine_1 => simp
  rintro e w1 ⟨rfl, rfl⟩
  go_wp2
  go_ret2
  exact ⟨rfl, rfl⟩

set_option maxHeartbeats 400000 in
theorem small_zero (g c : Nat) (x : Int) (w : World) (hx : 1 ≤ x) (hm : x < 10) (c0 : w.cell? ⟨g, 0, none⟩ = some (.int .u32 x)) (hg : g < w.heap.size) :
    Calls Tryd.prog 48 #[.slice (some ⟨g, 0, none⟩) 1 c, .int .u32 10] w fun e w' => e = .returned (.tuple #[.slice (some ⟨w.heap.size, 0, none⟩) 0 1, .int .u32 x]) ∧ w' = w.alloc (.cells #[.int .u32 0] 81) := by
  have hmk : ∀ w, (Instr.makeSlice 53 (.int .i64 1) (.int .i64 1)).run Tryd.prog w = .ok (.slice (some ⟨w.heap.size, 0, none⟩) 1 1) (w.alloc (.cells #[.int .u32 0] 81)) := fun _ => by kernel_rfl
  have h1 : x / 10 = 0 := by omega
  have h2 : x % 10 = x := by omega
  have hor := or_zero x (by omega) (by omega)
  go_enter Tryd.func48, Tryd.ntmps48
  go_wp2
  refine wp_loop_rounds 2 ?_
  rw [rounds_succ]
  go_wp2
  rw [rounds_succ]
  go_wp2_with (go_at_call 66; refine (trim_none w.heap.size _ ?_).mono ?_)
  case refine_1 => simp
  rintro e w1 ⟨rfl, rfl⟩
  go_wp2
  go_ret2
  exact ⟨rfl, rfl⟩
end Go.Proofs.YtgiggobpbddlbaaDoor
