/-
  What is proved: the function GetSigned of package bookref1, called with any bytes, answers as the mathematics of numbers as bytes says, and nothing that was there has turned.
  Conditions: the bytes lie in memory.
-/
import Derived.Test.YtgecgemfniiciaaGreatDoorRGet
import Derived.Test.YtgecgemfniiciaaGreatDoorSignedWalk
namespace Go.Proofs.YtgecgemfniiciaaGreatDoor
open Go.RowKit

/-- What a reading of the reference of a number that may be below 0 answers. -/
def rgetSV (o : Option (Nat × Nat)) : Value :=
  match o with
  | some (n, k) => .tuple #[.int .i64 (zag n), .int .i64 k]
  | none => .tuple #[.int .i64 0, .int .i64 0]

set_option maxRecDepth 100000 in
set_option maxHeartbeats 1000000 in
theorem rGetSigned_any (v : Value) (l : List UInt8) (w : World) (hv : IsBytes w v l) :
    Calls Tryz.prog 10 #[v] w fun e w' => e = .returned (rgetSV (get l)) ∧ Below w.heap.size w w' := by
  have G := rGet_any v l w hv
  obtain ⟨a, cap, rfl, _⟩ := id hv
  cases hG : get l with
  | none =>
    rw [hG] at G
    unfold rgetV at G
    unfold rgetSV
    go_enter Tryz.func10, Tryz.ntmps10
    go_wp2_with fail
    refine G.mono ?_
    rintro e w1 ⟨rfl, b1⟩
    go_wp2
    go_returns
    exact ⟨rfl, b1⟩
  | some q =>
    obtain ⟨n, k⟩ := q
    obtain ⟨_, hr, hk1, _, _⟩ := get_some hG
    rw [hG] at G
    unfold rgetV at G
    unfold rgetSV
    have q0 : ((k : Int) == 0) = false := by rw [beq_eq_false_iff_ne]; omega
    by_cases ho : n % 2 = 1
    · have HZ : Hid (-((n / 2 : Nat) : Int) - 1 = zag n) := by
        show _ = zag n
        unfold zag
        rw [if_pos ho]
      have g1 : (((n : Int) % 2) == 1) = true := by rw [beq_iff_eq]; omega
      clear hG
      go_enter Tryz.func10, Tryz.ntmps10
      go_wp2_with fail
      refine G.mono ?_
      rintro e w1 ⟨rfl, b1⟩
      go_wp2
      go_returns
      exact ⟨by rw [← HZ.out]; simp, b1⟩
    · have HZ : Hid (((n / 2 : Nat) : Int) = zag n) := by
        show _ = zag n
        unfold zag
        rw [if_neg ho]
      have g1 : (((n : Int) % 2) == 1) = false := by rw [beq_eq_false_iff_ne]; omega
      clear hG
      go_enter Tryz.func10, Tryz.ntmps10
      go_wp2_with fail
      refine G.mono ?_
      rintro e w1 ⟨rfl, b1⟩
      go_wp2
      go_returns
      exact ⟨by rw [← HZ.out]; simp, b1⟩
end Go.Proofs.YtgecgemfniiciaaGreatDoor
