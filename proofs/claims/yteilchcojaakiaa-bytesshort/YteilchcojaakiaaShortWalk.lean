/-
  What is proved: the law BytesShort, called with any two numbers, returns true, and nothing that was there has turned.
  Conditions: none.
-/
import Derived.Test.YteilchcojaakiaaPutWalk
namespace Go.Proofs.Yteilchcojaakiaa
open Go.RowKit

theorem put_mono (a : Nat) : ∀ b, a ≤ b → (put a).length ≤ (put b).length := by
  induction a using Nat.strongRecOn with
  | ind a ih =>
    intro b hb
    by_cases h : a < 128
    · rw [put_small h]
      exact put_pos b
    · rw [put_more (by omega), put_more (n := b) (by omega), List.length_cons, List.length_cons]
      have := ih (a / 128) (by omega) (b / 128) (by omega)
      omega

set_option maxHeartbeats 1000000 in
theorem short_any (a b : Nat) (w : World) (ha : a < 18446744073709551616) (hb : b < 18446744073709551616) :
    Calls Try.prog 4 #[.int .u64 a, .int .u64 b] w fun e w' => e = .returned (.bool true) ∧ Below w.heap.size w w' := by
  have P0 := put_any 127
  have PA := put_any a
  have PB := put_any b
  have hm := put_mono a b
  have ha1 := put_pos a
  have ha2 := put_len10 ha
  have hb2 := put_len10 hb
  rw [put_small (by omega)] at P0
  go_enter Try.func4, Try.ntmps4
  go_wp2_with fail
  refine (P0 _ (by decide)).mono ?_
  rintro e w1 ⟨v1, rfl, R1, b1⟩
  obtain ⟨a1, c1, rfl⟩ := own_row_len R1
  clear P0 R1
  simp only [List.length_cons, List.length_nil, Nat.zero_add]
  go_wp2_with fail
  refine (PA _ ha).mono ?_
  rintro e w2 ⟨v2, rfl, R2, b2⟩
  have B2 : Below w.heap.size w w2 := b1.trans (b2.mono b1.size)
  obtain ⟨a2, c2, rfl⟩ := own_row_len R2
  clear PA R2 b1 b2
  go_wp2_with fail
  refine (PB _ hb).mono ?_
  rintro e w3 ⟨v3, rfl, R3, b3⟩
  have B3 : Below w.heap.size w w3 := B2.trans (b3.mono B2.size)
  obtain ⟨a3, c3, rfl⟩ := own_row_len R3
  clear PB R3 B2 b3
  go_wp2_with fail
  have HA : Hid (∀ k, k < 128 → (put k).length = 1) := fun k h => by rw [put_small h]; rfl
  have HB : Hid (∀ k, 128 ≤ k → (put k).length = (put (k / 128)).length + 1) := fun k h => by rw [put_more h]; rfl
  have HM : Hid (a ≤ b → (put a).length ≤ (put b).length) := hm
  clear hm
  generalize hA : (put a).length = A at *
  generalize (put b).length = B at *
  go_loop [8, 9] (fun n k => ∃ (c m : Nat), n = .int .i64 c ∧ k = .int .u64 m ∧ m < 18446744073709551616 ∧ c + (put m).length = A + 1) (fun _ k => (RowKit.intOf k).toNat)
  case atStart => exact ⟨1, a, rfl, rfl, ha, by omega⟩
  case round =>
    obtain ⟨c, m, rfl, rfl, hm, he⟩ := hrel
    by_cases hlt : 128 ≤ m
    · have h1 := HB.out m hlt
      have HE : Hid (c + 1 + (put (m / 128)).length = A + 1) := by show _ = _; omega
      have hc : c ≤ 11 := by omega
      have g1 : (127 : Int) < m := by omega
      clear h1 he
      go_wp2
      go_round
      case rel => exact ⟨c + 1, m / 128, by go_num, by go_num, by omega, HE.out⟩
      case measure => simp [RowKit.intOf]; omega
    · have h1 := HA.out m (by omega)
      have g1 : ¬ (127 : Int) < m := by omega
      have hc : c = A := by omega
      subst hc
      clear h1 he
      by_cases hab : a ≤ b
      · have h2 := HM.out hab
        have g2 : ¬ (b : Int) < a := by omega
        have g3 : (c : Int) ≤ B := by omega
        go_wp2
        go_ret
        exact ⟨by simp, B3⟩
      · have g2 : (b : Int) < a := by omega
        go_wp2
        go_ret
        exact ⟨by simp, B3⟩
end Go.Proofs.Yteilchcojaakiaa
