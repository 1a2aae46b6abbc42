/-
  What is proved: what Places of package bloom answers of any ref and any bits: three places below bits, or ErrRange.
  Conditions: the numbers are of 64 bits.
-/
import Derived.Test.YtegiaecnikljkaaBlA
namespace Go.Proofs.Ytegiaecnikljkaa
open Go.RowKit

/-- The number that a ref's places begin with. -/
def bx0 (a s : Int) : Int := (a * 1000003 + s) % 18446744073709551616
/-- The next number. -/
def bst (x : Int) : Int := (x * 6364136223846793005 + 1442695040888963407) % 18446744073709551616
/-- After so many steps. -/
def bxs (a s : Int) : Nat → Int
  | 0 => bx0 a s
  | k + 1 => bst (bxs a s k)
/-- The k-th place. -/
def plc (a s b : Int) (k : Nat) : Int := bxs a s (k + 1) / 8589934592 % b
/-- All three. -/
def pls (a s b : Int) : List Int := [plc a s b 0, plc a s b 1, plc a s b 2]

theorem bx0_range (a s : Int) : 0 ≤ bx0 a s ∧ bx0 a s < 18446744073709551616 := by unfold bx0; omega
theorem bxs_range (a s : Int) (k : Nat) : 0 ≤ bxs a s k ∧ bxs a s k < 18446744073709551616 := by
  cases k with
  | zero => exact bx0_range a s
  | succ k => unfold bxs bst; omega
theorem plc_range (a s b : Int) (hb : 8 ≤ b) (k : Nat) : 0 ≤ plc a s b k ∧ plc a s b k < b := by
  unfold plc
  exact ⟨Int.emod_nonneg _ (by omega), Int.emod_lt_of_pos _ (by omega)⟩

set_option maxHeartbeats 2000000 in
set_option maxRecDepth 100000 in
theorem places_ok (a s b : Int) (ha : okR a s = true) (hb : widB b = true) (w : World) :
    Calls Try.prog 7 #[.agg #[.int .i64 a, .int .i64 s], .int .i64 b] w fun e w' => ∃ u, e = .returned (.tuple #[u, .nilIface]) ∧ RowI w.heap.size u (pls a s b) w' ∧ Below w.heap.size w w' := by
  obtain ⟨i0, hi, hz0, hz1, hz2⟩ := info_parts infoI
  have hA : 1 ≤ a ∧ a ≤ 99 ∧ 1 ≤ s ∧ s ≤ 1000000 := by simp [okR] at ha; omega
  have hB : 8 ≤ b ∧ b ≤ 4096 := by simp [widB] at hb; omega
  have HB1 := (Below.refl w.heap.size w).alloc (Nat.le_refl _) (.cells #[.int .i64 a, .int .i64 s] 29)
  have E1 := refs_one (w.heap.size + 1) a s ((w.alloc (.cells #[.int .i64 a, .int .i64 s] 29)).alloc (.cells #[.int .i64 a, .int .i64 s] 29)) (by simp) (by simp) (by simp)
  rw [ha] at E1
  go_enter Try.func7, Try.ntmps7
  go_wp2_with fail
  refine Calls.mono E1 ?_
  rintro e w1 ⟨rfl, b1⟩
  have B1 : Below w.heap.size w w1 := (HB1.alloc (by simp) _).trans (b1.mono (by simp; omega))
  have q0 : w1.cell? ⟨w.heap.size, 0, none⟩ = some (.int .i64 a) := by rw [b1.cell (p := ⟨w.heap.size, 0, none⟩) (by simp; omega)]; simp
  have q1 : w1.cell? ⟨w.heap.size, 1, none⟩ = some (.int .i64 s) := by rw [b1.cell (p := ⟨w.heap.size, 1, none⟩) (by simp; omega)]; simp
  clear b1 E1 HB1
  simp only [errR, if_true]
  have E2 := isWidth_any b (by unfold I64; omega) w1
  rw [hb] at E2
  go_wp2_with fail
  refine Calls.mono E2 ?_
  rintro e w2 ⟨rfl, rfl⟩
  clear E2
  go_wp2_with fail
  go_loopw [7, 8, 27] (fun x o i wr => ∃ k : Nat, k ≤ 3 ∧ i = .int .i64 k ∧ x = .int .u64 (bxs a s k) ∧ RowI w.heap.size o ((pls a s b).take k) wr ∧ Below w.heap.size w wr) (fun _ _ i _ => 3 - (RowKit.intOf i).toNat)
  case atStart =>
    refine ⟨0, by omega, rfl, ?_, by rw [List.take_zero]; exact World.ownsRow_nil w2 w.heap.size 3 1, B1⟩
    show _ = Value.int .u64 (bx0 a s)
    unfold bx0
    rw [Int.emod_eq_of_lt (by omega) (by omega)]
  case round =>
    obtain ⟨k, hk, rfl, rfl, hh, hbel⟩ := hrel
    have hz := hbel.size
    have hl := rowI_len hh
    by_cases hlt : k < 3
    · have g1 : (k : Int) < 3 := by omega
      have hL : ((pls a s b).take k).length ≤ 17592186044415 := by rw [List.length_take]; simp [pls]; omega
      have HT : Hid ((pls a s b).take (k + 1) = (pls a s b).take k ++ [plc a s b k]) := by
        show _ = _
        match k, hlt with
        | 0, _ => rfl
        | 1, _ => rfl
        | 2, _ => rfl
      have hr := bxs_range a s k
      have HX : Hid (bxs a s (k + 1) = bst (bxs a s k)) := rfl
      have HPL : Hid (plc a s b k = bst (bxs a s k) / 8589934592 % b) := rfl
      have hst : 0 ≤ bst (bxs a s k) ∧ bst (bxs a s k) < 18446744073709551616 := by rw [← HX.out]; exact bxs_range a s (k + 1)
      have hpr := plc_range a s b hB.1 k
      have HS : Hid (IntKind.u64.wrap (IntKind.u64.wrap (bxs a s k * 6364136223846793005) + 1442695040888963407) = bst (bxs a s k)) := by
        show _ = _
        rw [IntKind.wrap_u64, IntKind.wrap_u64]
        unfold bst
        omega
      have HW : Hid ((wrap64 (bst (bxs a s k) / 8589934592)).tmod b = plc a s b k) := by
        show _ = _
        have e1 : wrap64 (bst (bxs a s k) / 8589934592) = bst (bxs a s k) / 8589934592 := by unfold wrap64; omega
        rw [e1, Int.tmod_eq_emod_of_nonneg (by omega)]
        rfl
      generalize bxs a s k = x at *
      generalize (pls a s b).take k = L at *
      generalize plc a s b k = y at *
      go_wp2_with (first | (at_builtin; refine wpList_append_own _ rfl _ _ 35 rfl w.heap.size 3 i0 (.int .i64 0) 1 8 Try.underlying35 hi hz0 hz1 hz2 rfl (by decide) _ _ _ rfl (hh.alloc _) ⟨wr.heap.size, 0, none⟩ 1 1 (intCells [y]) rfl rfl ?c1 ?c2 ?c3 ?c4 ?c5 ?_))
      case c1 =>
        intro j u hj
        match j, hj with
        | 0, hj =>
          simp at hj
          subst hj
          rw [HS.out, HW.out]
          simp [Addr.add]
      case c2 => intro u hu; simp at hu; subst hu; rfl
      case c3 => unfold maxLen; omega
      case c4 => omega
      case c5 => simp; omega
      intro v2 w2 hown hgrow _
      obtain ⟨R2, B2⟩ := rowI_grown (m := [y]) hh hbel hz hgrow hown
      clear hown hgrow
      go_wp2
      go_roundw
      case rel => exact ⟨k + 1, hlt, by go_num, by rw [HX.out, HS.out], by rw [HT.out]; exact R2, B2⟩
      case measure => simp [RowKit.intOf]; omega
    · have hke : k = 3 := by omega
      subst hke
      clear hl
      go_wp2
      go_returns
      exact ⟨_, rfl, hh, hbel⟩

set_option maxRecDepth 100000 in
set_option maxHeartbeats 2000000 in
theorem places_no (a s b : Int) (ha : okR a s = false) (w : World) :
    Calls Try.prog 7 #[.agg #[.int .i64 a, .int .i64 s], .int .i64 b] w fun e w' => e = .returned (.tuple #[.slice none 0 0, errR false]) ∧ Below w.heap.size w w' := by
  have HB1 := (Below.refl w.heap.size w).alloc (Nat.le_refl _) (.cells #[.int .i64 a, .int .i64 s] 29)
  have E1 := refs_one (w.heap.size + 1) a s ((w.alloc (.cells #[.int .i64 a, .int .i64 s] 29)).alloc (.cells #[.int .i64 a, .int .i64 s] 29)) (by simp) (by simp) (by simp)
  rw [ha] at E1
  go_enter Try.func7, Try.ntmps7
  go_wp2_with fail
  refine Calls.mono E1 ?_
  rintro e w1 ⟨rfl, b1⟩
  have B1 : Below w.heap.size w w1 := (HB1.alloc (by simp) _).trans (b1.mono (by simp; omega))
  clear b1 E1 HB1
  simp only [errR, Bool.false_eq_true, if_false]
  go_wp2
  go_returns
  exact ⟨rfl, B1⟩
end Go.Proofs.Ytegiaecnikljkaa
