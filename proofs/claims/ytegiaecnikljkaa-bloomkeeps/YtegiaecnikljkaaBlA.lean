/-
  What is proved: what the small functions of packages bloom and id answer: isWidth, bit, isActor, isNum, and Refs of one ref.
  Conditions: as each theorem says.
-/
import Derived.Test.YtegiaecnikljkaaInts
namespace Go.Proofs.Ytegiaecnikljkaa
open Go.RowKit

/-- Is it a ref? -/
def okR (a s : Int) : Bool := decide (1 ≤ a) && decide (a ≤ 99) && decide (1 ≤ s) && decide (s ≤ 1000000)

/-- May a filter have so many bits? -/
def widB (b : Int) : Bool := decide (8 ≤ b) && decide (b ≤ 4096) && decide (b % 8 = 0)

theorem isWidth_any (b : Int) (hb : I64 b) (w : World) : Calls Try.prog 6 #[.int .i64 b] w fun e w' => e = .returned (.bool (widB b)) ∧ w' = w := by
  unfold I64 at hb
  go_enter Try.func6, Try.ntmps6
  by_cases h1 : 8 ≤ b
  · by_cases h2 : b ≤ 4096
    · go_wp2
      go_ret
      have e : widB b = (b % 8 == 0) := by simp [widB, h1, h2]; rfl
      exact ⟨by rw [e]; rfl, rfl⟩
    · have e : Hid (widB b = false) := by show _ = _; simp [widB, h2]
      go_wp2
      go_ret
      exact ⟨by rw [e.out]; rfl, rfl⟩
  · have e : Hid (widB b = false) := by show _ = _; simp [widB, h1]
    go_wp2
    go_ret
    exact ⟨by rw [e.out]; rfl, rfl⟩

theorem pow_mod8 (k : Nat) : 2 ^ (k % 8) % 256 = 2 ^ (k % 8) := by
  apply Nat.mod_eq_of_lt
  have h : k % 8 < 8 := Nat.mod_lt _ (by omega)
  calc 2 ^ (k % 8) < 2 ^ 8 := Nat.pow_lt_pow_right (by omega) h
    _ = 256 := rfl

theorem bit_any (k : Nat) (hk : k < 4096) (w : World) : Calls Try.prog 8 #[.int .i64 k] w fun e w' => e = .returned (.int .u8 ((2 ^ (k % 8) : Nat) : Int)) ∧ w' = w := by
  have e : Hid ((2 ^ (k % 8) % 256 : Int) = ((2 ^ (k % 8) : Nat) : Int)) := by
    show _ = _
    have := pow_mod8 k
    have h2 : ((2 ^ (k % 8) % 256 : Nat) : Int) = ((2 ^ (k % 8) : Nat) : Int) := by rw [this]
    rw [← h2]
    simp
  go_enter Try.func8, Try.ntmps8
  go_wp2
  go_ret
  refine ⟨?_, rfl⟩
  rw [← e.out]
  rfl

/-- What is told of a ref: nothing, or ErrRange. -/
def errR (ok : Bool) : Value := if ok then .nilIface else .iface 33 (.int .i64 1)

set_option maxRecDepth 100000 in
set_option maxHeartbeats 1000000 in
theorem refs_one (b : Nat) (a s : Int) (w : World) (_hb : b < w.heap.size) (c0 : w.cell? ⟨b, 0, none⟩ = some (.int .i64 a)) (c1 : w.cell? ⟨b, 1, none⟩ = some (.int .i64 s)) :
    Calls Try.prog 11 #[.slice (some ⟨b, 0, none⟩) 1 1] w fun e w' => e = .returned (errR (okR a s)) ∧ Below w.heap.size w w' := by
  have HB := (Below.refl w.heap.size w).alloc (Nat.le_refl _) (.cells #[.int .i64 a, .int .i64 s] 29)
  go_enter Try.func11, Try.ntmps11
  by_cases h1 : 1 ≤ a
  · by_cases h2 : a ≤ 99
    · by_cases h3 : 1 ≤ s
      · by_cases h4 : s ≤ 1000000
        · have e : Hid (okR a s = true) := by show _ = _; simp [okR, h1, h2, h3, h4]
          go_wp2
          refine wp_loop_rounds 2 ?_
          rw [rounds_succ]
          go_wp2
          rw [rounds_succ]
          go_wp2
          refine wp_loop_rounds 1 ?_
          rw [rounds_succ]
          go_wp2
          go_ret
          exact ⟨by rw [e.out]; rfl, HB⟩
        · have e : Hid (okR a s = false) := by show _ = _; simp [okR, h4]
          have h5 : decide (s ≤ 1000000) = false := by simpa using h4
          go_wp2
          refine wp_loop_rounds 1 ?_
          rw [rounds_succ]
          go_wp2
          go_ret
          exact ⟨by rw [e.out]; rfl, HB⟩
      · have e : Hid (okR a s = false) := by show _ = _; simp [okR, h3]
        go_wp2
        refine wp_loop_rounds 1 ?_
        rw [rounds_succ]
        go_wp2
        go_ret
        exact ⟨by rw [e.out]; rfl, HB⟩
    · have e : Hid (okR a s = false) := by show _ = _; simp [okR, h2]
      go_wp2
      refine wp_loop_rounds 1 ?_
      rw [rounds_succ]
      go_wp2
      go_ret
      exact ⟨by rw [e.out]; rfl, HB⟩
  · have e : Hid (okR a s = false) := by show _ = _; simp [okR, h1]
    go_wp2
    refine wp_loop_rounds 1 ?_
    rw [rounds_succ]
    go_wp2
    go_ret
    exact ⟨by rw [e.out]; rfl, HB⟩
end Go.Proofs.Ytegiaecnikljkaa
