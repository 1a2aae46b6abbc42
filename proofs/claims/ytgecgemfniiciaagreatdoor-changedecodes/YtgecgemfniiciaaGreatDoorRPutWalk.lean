/-
  What is proved: the functions Put and PutSigned of package bookref1, called with any number, return its bytes, and nothing that was there has turned.
  Conditions: none.
-/
import Derived.Test.YtgecgemfniiciaaGreatDoorSignedWalk
namespace Go.Proofs.YtgecgemfniiciaaGreatDoor
open Go.RowKit

set_option maxRecDepth 100000 in
set_option maxHeartbeats 1000000 in
theorem rPut_any (n : Nat) (w : World) (hn : n < 18446744073709551616) :
    Calls Tryz.prog 56 #[.int .u64 n] w fun e w' => ∃ v, e = .returned v ∧ Row w.heap.size v (put n) w' ∧ Below w.heap.size w w' := by
  obtain ⟨i0, hi, hz0, hz1, hz2⟩ := info_parts infoB
  go_enter Tryz.func56, Tryz.ntmps56
  go_wp2_with fail
  go_loopw [0, 3] (fun m b wr => ∃ (k : Nat) (L : List UInt8), m = .int .u64 k ∧ k < 18446744073709551616 ∧ L ++ put k = put n ∧ Row w.heap.size b L wr ∧ Below w.heap.size w wr) (fun m _ _ => (RowKit.intOf m).toNat)
  case atStart => exact ⟨n, [], rfl, hn, rfl, World.ownsRow_nil w w.heap.size 5 1, Below.refl _ w⟩
  case round =>
    obtain ⟨k, L, rfl, hk, he, hh, hbel⟩ := hrel
    have hz := hbel.size
    have hL : L.length ≤ 10 := by
      have h1 := put_len10 hn
      rw [← he, List.length_append] at h1
      omega
    have hl := own_row_len hh
    by_cases hlt : 128 ≤ k
    · have HE : Hid ((L ++ [UInt8.ofNat (128 + k % 128)]) ++ put (k / 128) = put n) := by
        show _ = _
        rw [← he, put_more hlt]
        simp
      have hb := byte_high k
      generalize hc : UInt8.ofNat (128 + k % 128) = c at *
      have hcn : (128 : Int) + (k : Int) % 128 = (c.toNat : Int) := by omega
      have hw8 : (k : Int) % 128 + 128 = (c.toNat : Int) := by omega
      clear hc hb hcn he
      have g1 : (127 : Int) < k := by omega
      go_wp2_with (first | (at_builtin; refine wpList_append_own _ rfl _ _ 22 rfl w.heap.size 5 i0 (.int .u8 0) 1 1 Tryz.underlying22 hi hz0 hz1 hz2 rfl (by decide) _ _ _ rfl (hh.alloc _) ⟨wr.heap.size, 0, none⟩ 1 1 (Lib.byteCells [c]) rfl rfl ?c1 ?c2 ?c3 ?c4 ?c5 ?_))
      case c1 =>
        intro j u hj
        match j, hj with
        | 0, hj => simp [Lib.byteCells] at hj; subst hj; first | (simp; done) | simp [Addr.add]
      case c2 => intro u hu; simp [Lib.byteCells] at hu; subst hu; rfl
      case c3 => unfold maxLen; omega
      case c4 => omega
      case c5 => first | (simp; omega) | omega
      intro v2 w2 hown hgrow _
      obtain ⟨R2, B2⟩ := row_grown (m := [c]) hh hbel hz hgrow hown
      clear hown hgrow
      go_wp2
      go_roundw
      case rel => exact ⟨k / 128, L ++ [c], by go_num, by omega, HE.out, R2, B2⟩
      case measure => simp [RowKit.intOf]; omega
    · have HE : Hid (L ++ [UInt8.ofNat k] = put n) := by
        show _ = _
        rw [← he, put_small (by omega)]
      have hb := byte_low (n := k) (by omega)
      generalize hc : UInt8.ofNat k = c at *
      have hcn : (k : Int) = (c.toNat : Int) := by omega
      have g1 : ¬ (127 : Int) < k := by omega
      have HK : Hid ((k : Int) = (c.toNat : Int)) := hcn
      clear hc hb he hcn
      go_wp2_with (first | (at_builtin; refine wpList_append_own _ rfl _ _ 22 rfl w.heap.size 5 i0 (.int .u8 0) 1 1 Tryz.underlying22 hi hz0 hz1 hz2 rfl (by decide) _ _ _ rfl (hh.alloc _) ⟨wr.heap.size, 0, none⟩ 1 1 (Lib.byteCells [c]) rfl rfl ?c1 ?c2 ?c3 ?c4 ?c5 ?_))
      case c1 =>
        intro j u hj
        match j, hj with
        | 0, hj => simp [Lib.byteCells] at hj; subst hj; simp; exact HK.out
      case c2 => intro u hu; simp [Lib.byteCells] at hu; subst hu; rfl
      case c3 => unfold maxLen; omega
      case c4 => omega
      case c5 => first | (simp; omega) | omega
      intro v2 w2 hown hgrow _
      obtain ⟨R2, B2⟩ := row_grown (m := [c]) hh hbel hz hgrow hown
      clear hown hgrow
      go_wp2
      go_ret
      rw [HE.out] at R2
      exact ⟨_, rfl, R2, B2⟩

set_option maxRecDepth 100000 in
set_option maxHeartbeats 1000000 in
theorem rPutSigned_any (n : Int) (w : World) (h1 : -9223372036854775808 ≤ n) (h2 : n < 9223372036854775808) :
    Calls Tryz.prog 27 #[.int .i64 n] w fun e w' => ∃ v, e = .returned v ∧ Row w.heap.size v (put (zig n)) w' ∧ Below w.heap.size w w' := by
  have P := rPut_any (zig n) w (zig_lt h1 h2)
  by_cases h : n < 0
  · have hz : (zig n : Int) = -(n + 1) * 2 + 1 := by
      unfold zig
      rw [if_pos h]
      omega
    generalize zig n = d at *
    rw [hz] at P
    go_enter Tryz.func27, Tryz.ntmps27
    go_wp2_with fail
    refine P.mono ?_
    rintro e w1 ⟨u, rfl, R1, b1⟩
    go_wp2
    go_ret
    exact ⟨_, rfl, R1, b1⟩
  · have hz : (zig n : Int) = n * 2 := by
      unfold zig
      rw [if_neg h]
      omega
    generalize zig n = d at *
    rw [hz] at P
    go_enter Tryz.func27, Tryz.ntmps27
    go_wp2_with fail
    refine P.mono ?_
    rintro e w1 ⟨u, rfl, R1, b1⟩
    go_wp2
    go_ret
    exact ⟨_, rfl, R1, b1⟩
end Go.Proofs.YtgecgemfniiciaaGreatDoor
