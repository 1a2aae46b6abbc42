/-
  What is proved: the functions PutSigned and GetSigned of package bytes, called with any bytes and numbers, answer as the mathematics of numbers as bytes says, and nothing that was there has turned.
  Conditions: the bytes lie in memory.
-/
import Derived.Test.YtgecgemfniiciaaGreatDoorGetWalk
namespace Go.Proofs.YtgecgemfniiciaaGreatDoor
open Go.RowKit

theorem wrap_zig_neg {n : Int} (h1 : -9223372036854775808 ≤ n) (h2 : n < 0) : IntKind.u64.wrap (wrap64 (wrap64 (-2 * n) - 1)) = (zig n : Int) := by
  unfold zig
  rw [if_pos h2]
  simp only [IntKind.wrap_u64, wrap64]
  omega

theorem wrap_zig_pos {n : Int} (h1 : 0 ≤ n) (h2 : n < 9223372036854775808) : IntKind.u64.wrap (wrap64 (2 * n)) = (zig n : Int) := by
  unfold zig
  rw [if_neg (by omega)]
  simp only [IntKind.wrap_u64, wrap64]
  omega

/-- What a reading of a number that may be below 0 answers. -/
def getSV (o : Option (Nat × Nat)) : Value :=
  match o with
  | some (n, k) => .tuple #[.int .i64 (zag n), .int .i64 k, .nilIface]
  | none => .tuple #[.int .i64 0, .int .i64 0, .iface 57 (.int .i64 9)]

set_option maxRecDepth 100000 in
set_option maxHeartbeats 1000000 in
theorem getSigned_any (v : Value) (l : List UInt8) (w : World) (hv : IsBytes w v l) :
    Calls Tryz.prog 86 #[v] w fun e w' => e = .returned (getSV (get l)) ∧ Below w.heap.size w w' := by
  have G := get_any v l w hv
  obtain ⟨a, cap, rfl, _⟩ := id hv
  cases hG : get l with
  | none =>
    rw [hG] at G
    unfold getV at G
    unfold getSV
    go_enter Tryz.func86, Tryz.ntmps86
    go_wp2_with fail
    refine G.mono ?_
    rintro e w1 ⟨rfl, b1⟩
    go_wp2
    go_returns
    exact ⟨rfl, b1⟩
  | some q =>
    obtain ⟨n, k⟩ := q
    have hr := (get_some hG).2.1
    rw [hG] at G
    unfold getV at G
    unfold getSV
    by_cases ho : n % 2 = 1
    · have HZ : Hid (-((n / 2 : Nat) : Int) - 1 = zag n) := by
        show _ = zag n
        unfold zag
        rw [if_pos ho]
      have g1 : (((n : Int) % 2) == 1) = true := by rw [beq_iff_eq]; omega
      clear hG
      go_enter Tryz.func86, Tryz.ntmps86
      go_wp2_with fail
      refine G.mono ?_
      rintro e w1 ⟨rfl, b1⟩
      go_wp2
      go_returns
      exact ⟨by rw [← HZ.out]; simp, b1⟩
    · have HZ : Hid (((n / 2 : Nat) : Int) = zag n) := by
        show _ = zag n
        unfold zag
        rw [if_neg ho]
      have g1 : (((n : Int) % 2) == 1) = false := by rw [beq_eq_false_iff_ne]; omega
      clear hG
      go_enter Tryz.func86, Tryz.ntmps86
      go_wp2_with fail
      refine G.mono ?_
      rintro e w1 ⟨rfl, b1⟩
      go_wp2
      go_returns
      exact ⟨by rw [← HZ.out]; simp, b1⟩
end Go.Proofs.YtgecgemfniiciaaGreatDoor
