/-
  What is proved: the statements' own package of great numbers reads any digits, with a sign ahead. whether a great number fits 64 bits, and which it is then; how it is written.
  Conditions: as each theorem says.
-/
import Derived.Test.YtnmdhbejjjmdeaaGreatDoorP23
import Derived.Test.YtnmdhbejjjmdeaaGreatDoorP22
import Derived.Test.YtnmdhbejjjmdeaaGreatDoorTextA
namespace Go.Proofs.YtnmdhbejjjmdeaaGreatDoor
open Go.RowKit

set_option maxRecDepth 100000 in
set_option maxHeartbeats 1000000 in
theorem nWords_any (u : Nat) (w : World) (hu : u < 18446744073709551616) :
    Calls Tryz.prog 33 #[.int .u64 u] w fun e w' => ∃ v, e = .returned v ∧ IsBig w' v u ∧ Below w.heap.size w w' := by
  have q1 : (u : Int) / 4294967296 < 4294967296 := by omega
  have q0 : 0 ≤ (u : Int) / 4294967296 := by omega
  have q2 : (u : Int) / 4294967296 % 4294967296 = (u : Int) / 4294967296 := by omega
  have hv : nwv [u % 4294967296, u / 4294967296] = u := by simp only [nwv]; omega
  have T := fun (W : World) hc hg => nTrim_any w.heap.size 2 [u % 4294967296, u / 4294967296] W (by simp) (by simp) hc hg (by intro y hy; simp at hy; omega)
  rw [hv] at T
  go_enter Tryz.func33, Tryz.ntmps33
  go_wp2_with fail
  refine (T _ ?_ ?_).mono ?_
  · intro t ht
    match t, ht with
    | 0, _ => simp
    | 1, _ => simp
  · simp
  rintro e w1 ⟨rfl, v, rfl, hb⟩
  go_wp2
  go_ret
  exact ⟨_, rfl, hb, (Below.refl _ _).alloc (Nat.le_refl _) _⟩
/-- A number in its box: its sign, and its words. -/
def NumAt (w : World) (p : Nat) (neg : Bool) (x : Nat) : Prop := ∃ v, w.heap[p]? = some (.cells #[.bool neg, v] 56) ∧ IsBig w v x
theorem IsBig.slice {w : World} {v : Value} {x : Nat} (h : IsBig w v x) : ∃ a n cap, v = .slice a n cap := by
  obtain ⟨a, cap, ws, rfl, _⟩ := h
  exact ⟨a, _, cap, rfl⟩
theorem IsBig.setBox {w : World} {v : Value} {x p j : Nat} {b : Bool} {u : Value} (h : IsBig w v x) (hp : w.cell? ⟨p, 0, none⟩ = some (.bool b)) : IsBig (w.setCell ⟨p, j, none⟩ u) v x := by
  obtain ⟨a, cap, ws, rfl, h1, h2, h3, h4⟩ := h
  refine ⟨a, cap, ws, rfl, h1, h2, h3, fun hne => ?_⟩
  obtain ⟨g, rfl, h5, h6⟩ := h4 hne
  have hgp : g ≠ p := by
    intro e
    subst e
    have := h6 0 (List.length_pos_iff.2 hne)
    rw [hp] at this
    cases this
  refine ⟨g, rfl, by simpa using h5, fun t ht => ?_⟩
  rw [World.cell?_setCell_other _ _ _ _ (fun e => hgp (by injection e with e _; exact e.symm))]
  exact h6 t ht
theorem IsBig.len {w : World} {a : Option Addr} {n cap x : Nat} (h : IsBig w (.slice a n cap) x) : decide (0 < n) = decide (0 < x) := by
  obtain ⟨b, c, ws, e, h1, h2, h3, _⟩ := h
  injection e with e1 e2 e3
  by_cases h0 : ws = []
  · subst h0
    rw [← h1, e2]
    rfl
  · have := norm_le h3 h0
    have h5 := List.length_pos_iff.2 h0
    have h6 : 0 < 4294967296 ^ (ws.length - 1) := Nat.pow_pos (by omega)
    rw [decide_eq_true (by omega), decide_eq_true (by omega)]
theorem isBig_nil (w : World) : IsBig w (.slice none 0 0) 0 := ⟨none, 0, [], rfl, rfl, by simp, by simp [Norm], fun h => absurd rfl h⟩
set_option maxRecDepth 100000 in
set_option maxHeartbeats 1000000 in
theorem nGive_any (p : Nat) (ng b : Bool) (v u : Value) (x : Nat) (w : World) (h : w.heap[p]? = some (.cells #[.bool b, u] 56)) (hv : IsBig w v x) :
    Calls Tryz.prog 34 #[.pointer (some ⟨p, 0, none⟩), .bool ng, v] w fun e w' => e = .returned (.pointer (some ⟨p, 0, none⟩)) ∧ NumAt w' p (ng && decide (0 < x)) x ∧ Below p w w' := by
  obtain ⟨a, n, cap, rfl⟩ := hv.slice
  have h0 : w.cell? ⟨p, 0, none⟩ = some (.bool b) := Lib.cell_of_heap h 0
  have h1 : w.cell? ⟨p, 1, none⟩ = some u := Lib.cell_of_heap h 1
  have hf := Lib.frozen_of_heap h
  have HL := hv.len
  have h2 : (w.setCell ⟨p, 1, none⟩ (.slice a n cap)).heap[p]? = some (.cells #[.bool b, .slice a n cap] 56) := by
    rw [set_atR h 1 _]
    rfl
  have a0 : (w.setCell ⟨p, 1, none⟩ (.slice a n cap)).cell? ⟨p, 0, none⟩ = some (.bool b) := Lib.cell_of_heap h2 0
  have HN : Hid (∀ y, y = (ng && decide (0 < x)) → NumAt ((w.setCell ⟨p, 1, none⟩ (.slice a n cap)).setCell ⟨p, 0, none⟩ (.bool y)) p (ng && decide (0 < x)) x) := by
    rintro y rfl
    refine ⟨.slice a n cap, ?_, (hv.setBox h0).setBox a0⟩
    rw [set_atR h2 0 _]
    rfl
  have HB : Hid (∀ y, Below p w ((w.setCell ⟨p, 1, none⟩ (.slice a n cap)).setCell ⟨p, 0, none⟩ y)) := fun y => ((Below.refl p w).setCell (by simp) _).setCell (by simp) _
  have HL2 : Hid (decide (0 < n) = decide (0 < x)) := HL
  clear HL hv h h2 a0
  cases ng with
  | false =>
    go_enter Tryz.func34, Tryz.ntmps34
    go_wp2
    go_ret
    exact ⟨rfl, HN.out _ rfl, HB.out _⟩
  | true =>
    have HY : Hid (decide (0 < n) = (true && decide (0 < x))) := by
      show _ = _
      rw [HL2.out]
      rfl
    go_enter Tryz.func34, Tryz.ntmps34
    go_wp2
    go_ret
    exact ⟨rfl, HN.out _ HY.out, HB.out _⟩
end Go.Proofs.YtnmdhbejjjmdeaaGreatDoor

namespace Go.Proofs.YtnmdhbejjjmdeaaGreatDoor
open Go.RowKit

/-- A number's least binary digit that is not 0. -/
theorem tz_iff {x k : Nat} (hk : k ≤ 63) (hd : 2 ^ k ∣ x) (ho : x / 2 ^ k % 2 = 1) (h0 : 9223372036854775808 ≤ x) (h1 : x < 18446744073709551616) : k = 63 ↔ x = 9223372036854775808 := by
  constructor
  · rintro rfl
    obtain ⟨q, rfl⟩ := hd
    omega
  · rintro rfl
    rcases Nat.lt_or_ge k 63 with h | h
    · exfalso
      have e : (9223372036854775808 : Nat) = 2 ^ k * (2 ^ (62 - k) * 2) := by
        rw [← Nat.pow_succ, ← Nat.pow_add, show k + (62 - k + 1) = 63 by omega]
      rw [e, Nat.mul_div_cancel_left _ (Nat.pow_pos (by omega)), Nat.mul_mod_left] at ho
      omega
    · omega
theorem tz_next {x k : Nat} (hd : 2 ^ k ∣ x) (hz : x / 2 ^ k % 2 = 0) : 2 ^ (k + 1) ∣ x := by
  obtain ⟨q, rfl⟩ := hd
  rw [Nat.mul_div_cancel_left _ (Nat.pow_pos (by omega))] at hz
  obtain ⟨r, rfl⟩ := Nat.dvd_of_mod_eq_zero hz
  exact ⟨r, by rw [Nat.pow_succ, Nat.mul_assoc]⟩
/-- A binary digit of two words. -/
theorem bit_two (y z i : Nat) (hy : y < 4294967296) (hi : i < 64) : (y + 4294967296 * z) / 2 ^ i % 2 = if i < 32 then y / 2 ^ i % 2 else z / 2 ^ (i - 32) % 2 := by
  by_cases h : i < 32
  · rw [if_pos h]
    have e : (4294967296 : Nat) = 2 ^ i * (2 ^ (31 - i) * 2) := by
      rw [← Nat.pow_succ, ← Nat.pow_add, show i + (31 - i + 1) = 32 by omega]
    rw [e, Nat.mul_assoc, Nat.add_mul_div_left _ _ (Nat.pow_pos (by omega)), Nat.mul_assoc, Nat.mul_left_comm, Nat.add_mul_mod_self_left]
  · rw [if_neg h]
    have e : (2 : Nat) ^ i = 4294967296 * 2 ^ (i - 32) := by
      rw [show (4294967296 : Nat) = 2 ^ 32 from rfl, ← Nat.pow_add, show 32 + (i - 32) = i by omega]
    rw [e, ← Nat.div_div_eq_div_mul, Nat.add_mul_div_left _ _ (by omega), Nat.div_eq_of_lt hy, Nat.zero_add]
theorem and_one (a : Nat) (h : a < 18446744073709551616) : bits .and .u64 (a : Int) 1 = ((a % 2 : Nat) : Int) := by
  have := u64_and_nat a 1 h (by omega)
  rw [nat_mask1] at this
  exact this
theorem bit_and (y i : Nat) (hy : y < 4294967296) : bits .and .u64 (IntKind.u64.wrap ((y : Int) / 2 ^ i)) 1 = ((y / 2 ^ i % 2 : Nat) : Int) := by
  have hq : y / 2 ^ i < 4294967296 := Nat.lt_of_le_of_lt (Nat.div_le_self _ _) hy
  have e : (y : Int) / 2 ^ i = ((y / 2 ^ i : Nat) : Int) := by
    rw [Int.natCast_ediv, Int.natCast_pow]
    rfl
  rw [e]
  generalize y / 2 ^ i = q at *
  have e2 : IntKind.u64.wrap (q : Int) = (q : Int) := IntWalk.u64_in _ ⟨by omega, by omega⟩
  rw [e2, and_one q (by omega)]
set_option maxRecDepth 100000 in
set_option maxHeartbeats 2000000 in
theorem nBit_any (g cap y z i : Nat) (w : World) (hy : y < 4294967296) (hz : z < 4294967296) (c0 : w.cell? ⟨g, 0, none⟩ = some (.int .u32 (y : Int))) (c1 : w.cell? ⟨g, 1, none⟩ = some (.int .u32 (z : Int))) (hi : i < 64) :
    Calls Tryz.prog 53 #[.slice (some ⟨g, 0, none⟩) 2 cap, .int .i64 i] w fun e w' => e = .returned (.int .u64 (((y + 4294967296 * z) / 2 ^ i % 2 : Nat) : Int)) ∧ w' = w := by
  rw [bit_two y z i hy hi]
  have g4 : (i : Int) < 64 := by omega
  by_cases h : i < 32
  · rw [if_pos h]
    have ci : w.cell? ⟨g, i / 32, none⟩ = some (.int .u32 (y : Int)) := by rw [Nat.div_eq_of_lt h]; exact c0
    have g1 : ¬ (2 : Int) ≤ (i : Int) / 32 := by omega
    have g2 : (i : Int) / 32 < 2 := by omega
    clear c0 c1
    go_enter Tryz.func53, Tryz.ntmps53
    go_wp2
    go_ret
    refine ⟨?_, rfl⟩
    rw [Nat.mod_eq_of_lt h, bit_and y i hy]
    simp
  · rw [if_neg h]
    have ci : w.cell? ⟨g, i / 32, none⟩ = some (.int .u32 (z : Int)) := by rw [show i / 32 = 1 by omega]; exact c1
    have g1 : ¬ (2 : Int) ≤ (i : Int) / 32 := by omega
    have g2 : (i : Int) / 32 < 2 := by omega
    clear c0 c1
    go_enter Tryz.func53, Tryz.ntmps53
    go_wp2
    go_ret
    refine ⟨?_, rfl⟩
    rw [show i % 32 = i - 32 by omega, bit_and z (i - 32) hz]
    simp
set_option maxRecDepth 100000 in
set_option maxHeartbeats 2000000 in
theorem nTz_any (p g cap y z : Nat) (ng : Bool) (w : World) (hy : y < 4294967296) (hz : z < 4294967296) (hp : w.heap[p]? = some (.cells #[.bool ng, .slice (some ⟨g, 0, none⟩) 2 cap] 56)) (c0 : w.cell? ⟨g, 0, none⟩ = some (.int .u32 (y : Int))) (c1 : w.cell? ⟨g, 1, none⟩ = some (.int .u32 (z : Int))) (h : 9223372036854775808 ≤ y + 4294967296 * z) :
    Calls Tryz.prog 36 #[.pointer (some ⟨p, 0, none⟩)] w fun e w' => ∃ k : Nat, e = .returned (.int .u64 (k : Int)) ∧ (k = 63 ↔ y + 4294967296 * z = 9223372036854775808) ∧ k ≤ 63 ∧ w' = w := by
  have h1 : w.cell? ⟨p, 1, none⟩ = some (.slice (some ⟨g, 0, none⟩) 2 cap) := Lib.cell_of_heap hp 1
  have EB := fun (i : Nat) (hi : i < 64) => nBit_any g cap y z i w hy hz c0 c1 hi
  have HX : Hid (9223372036854775808 ≤ y + 4294967296 * z ∧ y + 4294967296 * z < 18446744073709551616) := ⟨h, by omega⟩
  clear h hy hz hp c0 c1
  generalize y + 4294967296 * z = x at *
  go_enter Tryz.func36, Tryz.ntmps36
  go_wp2_with fail
  go_loop [3] (fun n => ∃ k : Nat, n = .int .u64 k ∧ k ≤ 63 ∧ Hid (2 ^ k ∣ x)) (fun n => 64 - (RowKit.intOf n).toNat)
  case atStart => exact ⟨0, rfl, by omega, ⟨x, by simp⟩⟩
  case round =>
    obtain ⟨k, rfl, hk, hd⟩ := hrel
    have g1 : (k : Int) < 64 := by omega
    have E := EB k (by omega)
    by_cases h0 : x / 2 ^ k % 2 = 0
    · rw [h0] at E
      have HK : Hid (k + 1 ≤ 63 ∧ 2 ^ (k + 1) ∣ x) := by
        refine ⟨?_, tz_next hd.out h0⟩
        rcases Nat.lt_or_ge k 63 with h5 | h5
        · omega
        · obtain rfl : k = 63 := by omega
          have := HX.out
          omega
      clear h0 EB
      go_wp2_with fail
      refine E.mono ?_
      rintro e w1 ⟨rfl, hw⟩
      subst w1
      go_wp2
      go_round
      case rel => exact ⟨k + 1, by go_num, HK.out.1, HK.out.2⟩
      case measure => simp [RowKit.intOf]; omega
    · have ho : x / 2 ^ k % 2 = 1 := by omega
      rw [ho] at E
      have HK : Hid (k = 63 ↔ x = 9223372036854775808) := tz_iff hk hd.out ho HX.out.1 HX.out.2
      clear h0 ho EB
      go_wp2_with fail
      refine E.mono ?_
      rintro e w1 ⟨rfl, hw⟩
      subst w1
      go_wp2
      go_ret
      exact ⟨k, rfl, HK.out, hk, rfl⟩
/-- A number of two words. -/
theorem big_two {w : World} {v : Value} {x : Nat} (h : IsBig w v x) (h1 : 4294967296 ≤ x) (h2 : x < 18446744073709551616) : ∃ g cap y z, v = .slice (some ⟨g, 0, none⟩) 2 cap ∧ y < 4294967296 ∧ z < 4294967296 ∧ w.cell? ⟨g, 0, none⟩ = some (.int .u32 ((y : Nat) : Int)) ∧ w.cell? ⟨g, 1, none⟩ = some (.int .u32 ((z : Nat) : Int)) ∧ y + 4294967296 * z = x ∧ g < w.heap.size := by
  obtain ⟨a, cap, ws, rfl, rfl, hw, hn, hi⟩ := h
  have hl : ws.length ≤ 2 := norm_lenN hn (n := 2) (by omega)
  match ws, hl with
  | [], _ => simp [nwv] at h1
  | [y], _ =>
    have := hw y (by simp)
    simp [nwv] at h1
    omega
  | [y, z], _ =>
    obtain ⟨g, rfl, hg, hc⟩ := hi (by simp)
    exact ⟨g, cap, y, z, rfl, hw y (by simp), hw z (by simp), hc 0 (by simp), hc 1 (by simp), by simp [nwv], hg⟩
set_option maxRecDepth 100000 in
set_option maxHeartbeats 2000000 in
theorem nIs_any (p x L : Nat) (ng : Bool) (w : World) (hp : NumAt w p ng x) (hL : L ≤ 70000) (hx : x < 4294967296 ^ L) :
    Calls Tryz.prog 17 #[.pointer (some ⟨p, 0, none⟩)] w fun e w' => e = .returned (.bool (i64B ng x)) ∧ w' = w := by
  obtain ⟨v, hb, hv⟩ := hp
  have EL := nLength_any v x L w hv hL hx
  have h0 : w.cell? ⟨p, 0, none⟩ = some (.bool ng) := Lib.cell_of_heap hb 0
  have h1 : w.cell? ⟨p, 1, none⟩ = some v := Lib.cell_of_heap hb 1
  have ET : ng = true → 9223372036854775808 ≤ x → x < 18446744073709551616 → Calls Tryz.prog 36 #[.pointer (some ⟨p, 0, none⟩)] w fun e w' => ∃ k : Nat, e = .returned (.int .u64 (k : Int)) ∧ (k = 63 ↔ x = 9223372036854775808) ∧ k ≤ 63 ∧ w' = w := by
    intro _ g1 g2
    obtain ⟨g, cap, y, z, rfl, hy, hz, c0, c1, rfl, _⟩ := big_two hv (by omega) g2
    exact nTz_any p g cap y z ng w hy hz hb c0 c1 g1
  obtain ⟨av, nv9, cv, rfl⟩ := hv.slice
  clear hb hv hL hx
  have HT : Hid (ng = true → 9223372036854775808 ≤ x → x < 18446744073709551616 → Calls Tryz.prog 36 #[.pointer (some ⟨p, 0, none⟩)] w fun e w' => ∃ k : Nat, e = .returned (.int .u64 (k : Int)) ∧ (k = 63 ↔ x = 9223372036854775808) ∧ k ≤ 63 ∧ w' = w) := ET
  clear ET
  go_enter Tryz.func17, Tryz.ntmps17
  go_wp2_with fail
  refine EL.mono ?_
  rintro e w1 ⟨n, rfl, ⟨hn1, hn2⟩, hn3, hw⟩
  subst w1
  clear EL
  rcases Nat.lt_trichotomy n 64 with h | h | h
  · have HD : Hid (i64B ng x = true) := by
      show _ = _
      unfold i64B
      rw [decide_eq_true (hn1.1 h)]
      rfl
    have g1 : (n : Int) < 64 := by omega
    clear hn1 hn2 hn3 h HT
    go_wp2
    go_ret
    exact ⟨by rw [HD.out]; rfl, rfl⟩
  · obtain ⟨x1, x2⟩ := hn2.1 h
    subst h
    cases ng with
    | false =>
      have HD : Hid (i64B false x = false) := by
        show _ = _
        unfold i64B
        rw [decide_eq_false (by omega)]
        simp
      clear hn1 hn2 hn3 HT x1 x2
      go_wp2
      go_ret
      exact ⟨by rw [HD.out]; rfl, rfl⟩
    | true =>
      have E := HT.out rfl x1 x2
      have HD : Hid (∀ k : Nat, (k = 63 ↔ x = 9223372036854775808) → i64B true x = decide (k = 63)) := by
        intro k hk
        unfold i64B
        rw [decide_eq_false (by omega), Bool.false_or, Bool.and_true]
        exact decide_eq_decide.2 hk.symm
      clear hn1 hn2 hn3 HT x1 x2
      go_wp2_with fail
      refine E.mono ?_
      rintro e w1 ⟨k, rfl, hk, hk3, hw⟩
      subst w1
      have HK : Hid (i64B true x = decide (k = 63)) := HD.out k hk
      clear E HD hk
      by_cases h63 : k = 63
      · subst h63
        go_wp2
        go_ret
        exact ⟨by rw [HK.out]; rfl, rfl⟩
      · have q : ((k : Int) == 63) = false := by rw [beq_eq_false_iff_ne]; omega
        have HF : Hid (decide (k = 63) = false) := decide_eq_false h63
        clear h63
        go_wp2
        go_ret
        exact ⟨by rw [HK.out, HF.out]; rfl, rfl⟩
  · have HD : Hid (i64B ng x = false) := by
      show _ = _
      unfold i64B
      have a1 : ¬ x < 9223372036854775808 := fun e => by have := hn1.2 e; omega
      have a2 : ¬ x = 9223372036854775808 := fun e => by
        have := hn2.2 ⟨by omega, by omega⟩
        omega
      rw [decide_eq_false a1, decide_eq_false a2]
      rfl
    have g1 : ¬ (n : Int) < 64 := by omega
    have g2 : ((n : Int) == 64) = false := by rw [beq_eq_false_iff_ne]; omega
    clear hn1 hn2 hn3 h HT
    go_wp2
    go_ret
    exact ⟨by rw [HD.out]; simp; omega, rfl⟩
set_option maxRecDepth 100000 in
set_option maxHeartbeats 2000000 in
theorem nUint_any (p x : Nat) (ng : Bool) (w : World) (hp : NumAt w p ng x) (hx : x < 18446744073709551616) :
    Calls Tryz.prog 38 #[.pointer (some ⟨p, 0, none⟩)] w fun e w' => e = .returned (.int .u64 x) ∧ w' = w := by
  obtain ⟨v, hb, a, cap, ws, rfl, rfl, hw, hn, hi⟩ := hp
  have x4 : w.cell? ⟨p, 1, none⟩ = some (.slice a ws.length cap) := Lib.cell_of_heap hb 1
  have hl : ws.length ≤ 2 := norm_lenN hn (n := 2) (by omega)
  clear hn hb
  match ws, hl with
  | [], _ =>
    go_enter Tryz.func38, Tryz.ntmps38
    go_wp2
    go_ret
    exact ⟨by simp [nwv], rfl⟩
  | [y], _ =>
    obtain ⟨g, rfl, hg, hc⟩ := hi (by simp)
    have c0 : w.cell? ⟨g, 0, none⟩ = some (.int .u32 (y : Int)) := hc 0 (by simp)
    have hy := hw y (by simp)
    clear hi hc hw
    simp only [List.length_cons, List.length_nil, Nat.zero_add] at x4
    go_enter Tryz.func38, Tryz.ntmps38
    go_wp2
    go_ret
    exact ⟨by simp [nwv], rfl⟩
  | [y, z], _ =>
    obtain ⟨g, rfl, hg, hc⟩ := hi (by simp)
    have c0 : w.cell? ⟨g, 0, none⟩ = some (.int .u32 (y : Int)) := hc 0 (by simp)
    have c1 : w.cell? ⟨g, 1, none⟩ = some (.int .u32 (z : Int)) := hc 1 (by simp)
    have hy := hw y (by simp)
    have hz := hw z (by simp)
    have hor : bits .or .u64 (y : Int) ((z : Int) * 4294967296) = (y : Int) + (z : Int) * 4294967296 := by
      rw [u64_or _ _ (by omega) (by omega) (by omega) (by omega)]
      have h1 : ((z : Int) * 4294967296).toNat = 2 ^ 32 * z := by omega
      rw [h1, Int.toNat_natCast, Nat.or_comm, ← Nat.two_pow_add_eq_or_of_lt (by omega)]
      omega
    clear hi hc hw
    simp only [List.length_cons, List.length_nil, Nat.zero_add] at x4
    go_enter Tryz.func38, Tryz.ntmps38
    go_wp2
    go_ret
    exact ⟨by simp [nwv]; omega, rfl⟩
set_option maxRecDepth 100000 in
set_option maxHeartbeats 2000000 in
theorem nInt_any (p x : Nat) (ng : Bool) (w : World) (hp : NumAt w p ng x) (hx : i64B ng x = true) :
    Calls Tryz.prog 19 #[.pointer (some ⟨p, 0, none⟩)] w fun e w' => e = .returned (.int .i64 (if ng = true then -(x : Int) else x)) ∧ w' = w := by
  have h9 : x < 9223372036854775808 ∨ (x = 9223372036854775808 ∧ ng = true) := by
    unfold i64B at hx
    simpa using hx
  have EU := nUint_any p x ng w hp (by omega)
  obtain ⟨v, hb, _⟩ := hp
  have h0 : w.cell? ⟨p, 0, none⟩ = some (.bool ng) := Lib.cell_of_heap hb 0
  have HX : Hid (x < 9223372036854775808 ∨ (x = 9223372036854775808 ∧ ng = true)) := h9
  clear hb hx h9
  cases ng with
  | true =>
    have HE : Hid (wrap64 (-wrap64 (x : Int)) = -(x : Int)) := by
      show _ = _
      have := HX.out
      unfold wrap64
      omega
    go_enter Tryz.func19, Tryz.ntmps19
    go_wp2_with fail
    refine EU.mono ?_
    rintro e w1 ⟨rfl, hw⟩
    subst w1
    clear EU
    go_wp2
    go_ret
    exact ⟨congrArg (fun y => Ending.returned (.int .i64 y)) HE.out, rfl⟩
  | false =>
    have HE : Hid (wrap64 (x : Int) = (x : Int)) := by
      show _ = _
      have := HX.out
      simp at this
      unfold wrap64
      omega
    go_enter Tryz.func19, Tryz.ntmps19
    go_wp2_with fail
    refine EU.mono ?_
    rintro e w1 ⟨rfl, hw⟩
    subst w1
    clear EU
    go_wp2
    go_ret
    exact ⟨congrArg (fun y => Ending.returned (.int .i64 y)) HE.out, rfl⟩
/-- A number of 64 bits, by its words. -/
theorem big_words {w : World} {v : Value} {x : Nat} (h : IsBig w v x) (h1 : 1 ≤ x) (h2 : x < 18446744073709551616) : ∃ g cap, v = .slice (some ⟨g, 0, none⟩) (len32 x) cap ∧ Words w g x := by
  obtain ⟨a, cap, ws, rfl, rfl, hw, hn, hi⟩ := h
  have hl : ws.length ≤ 2 := norm_lenN hn (n := 2) (by omega)
  match ws, hl with
  | [], _ => simp [nwv] at h1
  | [y], _ =>
    have := hw y (by simp)
    obtain ⟨g, rfl, hg, hc⟩ := hi (by simp)
    have e : nwv [y] = y := by simp [nwv]
    rw [e] at h1 ⊢
    have hl1 : len32 y = 1 := by unfold len32; rw [if_neg (by omega), if_pos this]
    refine ⟨g, cap, by rw [hl1]; rfl, fun _ => ?_, fun h => by omega⟩
    have := hc 0 (by simp)
    rw [this]
    simp
    omega
  | [y, z], _ =>
    obtain ⟨g, rfl, hg, hc⟩ := hi (by simp)
    have hy := hw y (by simp)
    have hz := hw z (by simp)
    have hz0 : z ≠ 0 := hn z (by simp)
    have e : nwv [y, z] = y + 4294967296 * z := by simp [nwv]
    rw [e] at h1 h2 ⊢
    have hl1 : len32 (y + 4294967296 * z) = 2 := by unfold len32; rw [if_neg (by omega), if_neg (by omega)]
    refine ⟨g, cap, by rw [hl1]; rfl, fun _ => ?_, fun _ => ?_⟩
    · have := hc 0 (by simp)
      rw [this]
      simp
      omega
    · have := hc 1 (by simp)
      rw [this]
      simp
      omega
set_option maxRecDepth 100000 in
set_option maxHeartbeats 2000000 in
theorem nText_any (p x : Nat) (ng : Bool) (w : World) (hp : NumAt w p ng x) (hx : x < 18446744073709551616) :
    Calls Tryz.prog 37 #[.pointer (some ⟨p, 0, none⟩), .int .i64 10] w fun e w' => e = .returned (.string ⟨(sgnT ng x).toArray⟩) ∧ Below w.heap.size w w' := by
  obtain ⟨v, hb, hv⟩ := hp
  have h0 : w.cell? ⟨p, 0, none⟩ = some (.bool ng) := Lib.cell_of_heap hb 0
  have h1 : w.cell? ⟨p, 1, none⟩ = some v := Lib.cell_of_heap hb 1
  by_cases hz : x = 0
  · subst hz
    obtain ⟨a, cap, ws, rfl, h2, _, hn, _⟩ := hv
    have hws : ws = [] := by
      by_cases h : ws = []
      · exact h
      · have := norm_le hn h
        have h6 : 0 < 4294967296 ^ (ws.length - 1) := Nat.pow_pos (by omega)
        omega
    subst hws
    simp only [List.length_nil] at h1
    clear hb hn h2
    go_enter Tryz.func37, Tryz.ntmps37
    go_wp2
    go_ret
    exact ⟨rfl, Below.refl _ _⟩
  · obtain ⟨g, cap, rfl, hW⟩ := big_words hv (by omega) hx
    have hpl : p < w.heap.size := lt_of_heap hb
    unfold sgnT
    rw [if_neg hz]
    cases ng with
    | true => exact text_neg x p g cap w (by omega) hx h0 h1 hW hpl
    | false => exact text_pos x p g cap w (by omega) hx h0 h1 hW hpl
set_option maxRecDepth 100000 in
set_option maxHeartbeats 2000000 in
theorem nString_any (p x : Nat) (ng : Bool) (w : World) (hp : NumAt w p ng x) (hx : x < 18446744073709551616) :
    Calls Tryz.prog 18 #[.pointer (some ⟨p, 0, none⟩)] w fun e w' => e = .returned (.string ⟨(sgnT ng x).toArray⟩) ∧ Below w.heap.size w w' := by
  have E := nText_any p x ng w hp hx
  clear hp hx
  go_enter Tryz.func18, Tryz.ntmps18
  go_wp2_with fail
  refine E.mono ?_
  rintro e w1 ⟨rfl, hb⟩
  go_wp2
  go_ret
  exact ⟨rfl, hb⟩
end Go.Proofs.YtnmdhbejjjmdeaaGreatDoor
