/-
  What is proved: the function Decode of package bookref1, called with any bytes, answers as the mathematics says; and nothing that was there has turned.
  Conditions: the bytes lie in memory.
-/
import Derived.Test.YtgecgemfniiciaaGreatDoorQRound
import Derived.Test.YtgecgemfniiciaaGreatDoorRChange
import Derived.Test.YtgecgemfniiciaaGreatDoorCDec2
import Derived.Deep.DeepFit
import Derived.Deep.CutRange
namespace Go.Proofs.YtgecgemfniiciaaGreatDoor
open Go.RowKit

theorem wrap_one (j : Nat) (h : j < 40) : wrap64 ((j : Int) + 1) = ((j + 1 : Nat) : Int) := by unfold wrap64; omega

theorem meas_lt (M j : Nat) (h : j < M) : M - (RowKit.intOf (.int .i64 ((j : Int) + 1))).toNat < M - (RowKit.intOf (.int .i64 (j : Int))).toNat := by
  simp only [RowKit.intOf]
  omega

theorem wrap_zero (K : Nat) (h : K ≤ 4611686018427387904) : wrap64 (K : Int) = ((0 : Nat) : Int) + (K : Int) := by unfold wrap64; omega

set_option maxRecDepth 100000 in
set_option maxHeartbeats 64000000 in
theorem rDecode_any (vb0 : Value) (b : List UInt8) (w : World) (hb0 : IsBytes w vb0 b) (hw0 : Wh vb0) :
    Calls Tryz.prog 4 #[vb0] w fun e w' => ((∃ c n v, qDec b = some (c, n) ∧ e = .returned (.tuple #[v, .int .i64 (n : Nat), .bool true]) ∧ IsChg w' v c) ∨ (qDec b = none ∧ e = .returned (.tuple #[noChg, .int .i64 0, .bool false]))) ∧ Below w.heap.size w w' := by
  obtain ⟨iR, hiR, hR0, hR1, hR2⟩ := info_parts infoR
  obtain ⟨iD, hiD, hD0, hD1, hD2⟩ := info_parts infoD
  obtain ⟨iO, hiO, hO0, hO1, hO2⟩ := info_parts infoO
  have hl : b.length ≤ 4611686018427387904 := by obtain ⟨_, _, _, _, h, _⟩ := id hb0; omega
  obtain ⟨F0, D0⟩ := fr_new w vb0 b
  obtain ⟨a0, cap, rfl, -⟩ := id hb0
  have HQD : Hid (qDec b = match (qChg (some b)).2 with | some r => if chk (qChg (some b)).1 = 0 then some ((qChg (some b)).1, b.length - r.length) else none | none => none) := rfl
  go_enter Tryz.func4, Tryz.ntmps4
  go_wp2_with fail
  generalize (((w.alloc (.cells #[.int .i64 0, .int .i64 0, .int .i64 0, .slice none 0 0, .slice none 0 0] 26)).alloc (.cells #[.slice a0 b.length cap, .int .i64 0, .bool false] 38)).alloc (.cells #[.int .i64 0, .int .i64 0, .int .i64 0, .slice none 0 0, .slice none 0 0] 26)) = u0 at *
  obtain ⟨vb, hvb⟩ : ∃ v, v = Value.slice a0 b.length cap := ⟨_, rfl⟩
  rw [← hvb] at D0 hb0 hw0
  clear hvb
  obtain ⟨x1, HX1⟩ : ∃ x, Hid (x = (rCnt 99 (some b)).1) := ⟨_, rfl⟩
  obtain ⟨s1, HS1⟩ : ∃ s, Hid (s = (rCnt 99 (some b)).2) := ⟨_, rfl⟩
  have E1 : Calls Tryz.prog 8 #[.pointer (some ⟨w.heap.size + 1, 0, none⟩), .int .i64 99] u0 fun e w' => e = .returned (.int .i64 x1) ∧ DAt (w.heap.size + 1) vb b s1 w' ∧ Off (w.heap.size + 1) u0 w' := by
    rw [HX1.out, HS1.out]
    exact qnum_any w _ _ vb b (some b) 99 (by decide) (by decide) hb0 hw0 hl F0.bel D0
  go_fit E1
  rintro e w1 ⟨rfl, D1, O1⟩
  clear E1
  have F1 := F0.off D0 O1
  have c0 : w1.cell? ⟨w.heap.size + 2, 0, none⟩ = some (.int .i64 0) := Lib.cell_of_heap F1.box 0
  have cf := Lib.frozen_of_heap F1.box
  have G1 := F1.set0 x1
  have P1 := D1.setC 0 (.int .i64 x1)
  go_wp2_with fail
  clear F0 D0 F1 D1 O1 c0 cf
  generalize w1.setCell ⟨w.heap.size + 2, 0, none⟩ (.int .i64 x1) = u1 at *
  obtain ⟨x2, HX2⟩ : ∃ x, Hid (x = (rCnt 1000000 s1).1) := ⟨_, rfl⟩
  obtain ⟨s2, HS2⟩ : ∃ s, Hid (s = (rCnt 1000000 s1).2) := ⟨_, rfl⟩
  have E2 : Calls Tryz.prog 8 #[.pointer (some ⟨w.heap.size + 1, 0, none⟩), .int .i64 1000000] u1 fun e w' => e = .returned (.int .i64 x2) ∧ DAt (w.heap.size + 1) vb b s2 w' ∧ Off (w.heap.size + 1) u1 w' := by
    rw [HX2.out, HS2.out]
    exact qnum_any w _ _ vb b s1 1000000 (by decide) (by decide) hb0 hw0 hl G1.bel P1
  go_fit E2
  rintro e w2 ⟨rfl, D2, O2⟩
  clear E2
  have F2 := G1.off P1 O2
  have c0 : w2.cell? ⟨w.heap.size + 2, 1, none⟩ = some (.int .i64 0) := Lib.cell_of_heap F2.box 1
  have cf := Lib.frozen_of_heap F2.box
  have G2 := F2.set1 x2
  have P2 := D2.setC 1 (.int .i64 x2)
  go_wp2_with fail
  clear G1 P1 F2 D2 O2 c0 cf
  generalize w2.setCell ⟨w.heap.size + 2, 1, none⟩ (.int .i64 x2) = u2 at *
  obtain ⟨x3, HX3⟩ : ∃ x, Hid (x = (rCnt 1000000 s2).1) := ⟨_, rfl⟩
  obtain ⟨s3, HS3⟩ : ∃ s, Hid (s = (rCnt 1000000 s2).2) := ⟨_, rfl⟩
  have E3 : Calls Tryz.prog 8 #[.pointer (some ⟨w.heap.size + 1, 0, none⟩), .int .i64 1000000] u2 fun e w' => e = .returned (.int .i64 x3) ∧ DAt (w.heap.size + 1) vb b s3 w' ∧ Off (w.heap.size + 1) u2 w' := by
    rw [HX3.out, HS3.out]
    exact qnum_any w _ _ vb b s2 1000000 (by decide) (by decide) hb0 hw0 hl G2.bel P2
  go_fit E3
  rintro e w3 ⟨rfl, D3, O3⟩
  clear E3
  have F3 := G2.off P2 O3
  have c0 : w3.cell? ⟨w.heap.size + 2, 2, none⟩ = some (.int .i64 0) := Lib.cell_of_heap F3.box 2
  have cf := Lib.frozen_of_heap F3.box
  have G3 := F3.set2 x3
  have P3 := D3.setC 2 (.int .i64 x3)
  go_wp2_with fail
  clear G2 P2 F3 D3 O3 c0 cf
  generalize w3.setCell ⟨w.heap.size + 2, 2, none⟩ (.int .i64 x3) = u3 at *
  obtain ⟨x4, HX4⟩ : ∃ x, Hid (x = (rCnt 12 s3).1) := ⟨_, rfl⟩
  obtain ⟨s4, HS4⟩ : ∃ s, Hid (s = (rCnt 12 s3).2) := ⟨_, rfl⟩
  have E4 : Calls Tryz.prog 8 #[.pointer (some ⟨w.heap.size + 1, 0, none⟩), .int .i64 12] u3 fun e w' => e = .returned (.int .i64 x4) ∧ DAt (w.heap.size + 1) vb b s4 w' ∧ Off (w.heap.size + 1) u3 w' := by
    rw [HX4.out, HS4.out]
    exact qnum_any w _ _ vb b s3 12 (by decide) (by decide) hb0 hw0 hl G3.bel P3
  go_fit E4
  rintro e w4 ⟨rfl, D4, O4⟩
  clear E4
  have F4 := G3.off P3 O4
  have HN12 : Hid (x4 ≤ 12 ∧ 0 ≤ x4) := by have := rCnt_range 12 (by decide) s3; rw [← HX4.out] at this; exact ⟨this.2, this.1⟩
  obtain ⟨N, rfl⟩ : ∃ N : Nat, x4 = N := ⟨x4.toNat, by have := HN12.out; omega⟩
  clear G3 P3 O4
  go_wp2_with fail
  go_loopw [8] (fun i wr => ∃ (k : Nat) (ud : Value), k ≤ N ∧ i = .int .i64 k ∧ Fr w x1 x2 x3 ud (rMany (qId 99 1000000) k s4).1 (.slice none 0 0) [] wr ∧ DAt (w.heap.size + 1) vb b (rMany (qId 99 1000000) k s4).2 wr) (fun i _ => N - (RowKit.intOf i).toNat)
  case atStart => exact ⟨0, _, Nat.zero_le _, rfl, F4, D4⟩
  case round =>
    clear F4 D4
    obtain ⟨k, ud, hk, rfl, hF, hD⟩ := hrel
    have hz1 : w.heap.size + 1 < wr.heap.size := by have := hF.size; omega
    by_cases hlt : k < N
    · have g1 : (k : Int) < N := by omega
      have HL : Hid (rMany (qId 99 1000000) (k + 1) s4 = ((rMany (qId 99 1000000) k s4).1 ++ [((rCnt 99 (rMany (qId 99 1000000) k s4).2).1, (rCnt 1000000 (rCnt 99 (rMany (qId 99 1000000) k s4).2).2).1)], (rCnt 1000000 (rCnt 99 (rMany (qId 99 1000000) k s4).2).2).2)) := rfl
      have hL : (rMany (qId 99 1000000) k s4).1.length ≤ 12 := by rw [rMany_len]; have := HN12.out; omega
      generalize (rMany (qId 99 1000000) k s4).1 = L at *
      generalize (rMany (qId 99 1000000) k s4).2 = t0 at *
      have R0 := Rn.start hD 41 #[.int .i64 0, .int .i64 0]
      go_wp2_with fail
      generalize wr.alloc (.cells #[.int .i64 0, .int .i64 0] 41) = v0 at *
      obtain ⟨x11, HX11⟩ : ∃ x, Hid (x = (rCnt 99 t0).1) := ⟨_, rfl⟩
      obtain ⟨s11, HS11⟩ : ∃ s, Hid (s = (rCnt 99 t0).2) := ⟨_, rfl⟩
      have E11 : Calls Tryz.prog 8 #[.pointer (some ⟨w.heap.size + 1, 0, none⟩), .int .i64 99] v0 fun e w' => e = .returned (.int .i64 x11) ∧ DAt (w.heap.size + 1) vb b s11 w' ∧ Off (w.heap.size + 1) v0 w' := by
        rw [HX11.out, HS11.out]
        exact qnum_any w _ _ vb b t0 99 (by decide) (by decide) hb0 hw0 hl (hF.off hD R0.off).bel R0.d
      go_fit E11
      rintro e w11 ⟨rfl, D11, O11⟩
      clear E11
      have R11 := R0.call hz1 D11 O11
      clear D11 O11 R0
      have cp : w11.cell? ⟨wr.heap.size, 0, none⟩ = some (.int .i64 0) := Lib.cell_of_heap R11.box 0
      have fp := Lib.frozen_of_heap R11.box
      have T11 : Rn w wr vb b 41 #[.int .i64 x11, .int .i64 0] s11 (w11.setCell ⟨wr.heap.size, 0, none⟩ (.int .i64 x11)) := R11.set hz1 0 _
      go_wp2_with fail
      clear cp fp R11
      generalize w11.setCell ⟨wr.heap.size, 0, none⟩ (.int .i64 x11) = u11 at *
      obtain ⟨x12, HX12⟩ : ∃ x, Hid (x = (rCnt 1000000 s11).1) := ⟨_, rfl⟩
      obtain ⟨s12, HS12⟩ : ∃ s, Hid (s = (rCnt 1000000 s11).2) := ⟨_, rfl⟩
      have E12 : Calls Tryz.prog 8 #[.pointer (some ⟨w.heap.size + 1, 0, none⟩), .int .i64 1000000] u11 fun e w' => e = .returned (.int .i64 x12) ∧ DAt (w.heap.size + 1) vb b s12 w' ∧ Off (w.heap.size + 1) u11 w' := by
        rw [HX12.out, HS12.out]
        exact qnum_any w _ _ vb b s11 1000000 (by decide) (by decide) hb0 hw0 hl (hF.off hD T11.off).bel T11.d
      go_fit E12
      rintro e w12 ⟨rfl, D12, O12⟩
      clear E12
      have R12 := T11.call hz1 D12 O12
      clear D12 O12 T11
      have cp : w12.cell? ⟨wr.heap.size, 1, none⟩ = some (.int .i64 0) := Lib.cell_of_heap R12.box 1
      have fp := Lib.frozen_of_heap R12.box
      have T12 : Rn w wr vb b 41 #[.int .i64 x11, .int .i64 x12] s12 (w12.setCell ⟨wr.heap.size, 1, none⟩ (.int .i64 x12)) := R12.set hz1 1 _
      go_upto_region 13 with fail
      clear cp fp R12
      generalize w12.setCell ⟨wr.heap.size, 1, none⟩ (.int .i64 x12) = u12 at *
      have HL2 : Hid (rMany (qId 99 1000000) (k + 1) s4 = (L ++ [(x11, x12)], s12)) := by
        show _ = _
        rw [HX12.out, HS12.out, HX11.out, HS11.out]
        exact HL.out
      have F3 := hF.off hD T12.off
      have H3 := F3.deps
      obtain ⟨ax, cx, rfl⟩ := rowPr_len H3
      have e3 : u12.cell? ⟨w.heap.size + 2, 3, none⟩ = some (.slice ax L.length cx) := Lib.cell_of_heap F3.box 3
      have e0 : u12.cell? ⟨wr.heap.size, 0, none⟩ = some (.int .i64 x11) := Lib.cell_of_heap T12.box 0
      have e1 : u12.cell? ⟨wr.heap.size, 1, none⟩ = some (.int .i64 x12) := Lib.cell_of_heap T12.box 1
      have hz3 := F3.size
      clear HL hF hD
      go_wp2_with (first | (at_builtin; refine wpList_append_own _ rfl _ _ 23 rfl (w.heap.size + 3) 41 iR (.agg #[.int .i64 0, .int .i64 0]) 2 16 Tryz.underlying23 hiR hR0 hR1 hR2 rfl (by decide) _ _ _ rfl (H3.alloc _) ⟨u12.heap.size, 0, none⟩ 1 1 (pcells [(x11, x12)]) rfl rfl ?c1 ?c2 ?c3 ?c4 ?c5 ?_))
      case c1 =>
        intro j u hj
        match j, hj with
        | 0, hj => simp [pcells] at hj; subst hj; simp [Addr.add]
        | 1, hj => simp [pcells] at hj; subst hj; simp [Addr.add]
      case c2 => intro u hu; simp [pcells] at hu; rcases hu with rfl | rfl <;> rfl
      case c3 => unfold maxLen; omega
      case c4 => omega
      case c5 => simp; omega
      intro v2 w4 hown hgrow _
      obtain ⟨R4, B4⟩ := rowPr_grown (m := [(x11, x12)]) H3 (Below.refl _ u12) hz3 hgrow hown
      obtain ⟨av, cv, hv2⟩ := rowPr_len R4
      rw [List.length_append, List.length_singleton] at hv2
      subst hv2
      have b4 := (B4.block _ (by omega)).trans F3.box
      have f3 : w4.cell? ⟨w.heap.size + 2, 3, none⟩ = some (.slice ax L.length cx) := Lib.cell_of_heap b4 3
      have ff := Lib.frozen_of_heap b4
      have F5 := F3.setD hgrow R4
      have D5 := (T12.d.low B4 (by omega)).setC 3 (.slice av (L.length + 1) cv)
      clear hown hgrow e3 e0 e1 F3 H3 T12 R4 B4 b4
      have hN12 := HN12.out
      go_wp2
      go_roundw
      case rel => exact ⟨k + 1, _, hlt, by go_num, by rw [HL2.out]; exact F5, by rw [HL2.out]; exact D5⟩
      case measure => simp [RowKit.intOf]; omega
    · obtain rfl : k = N := by omega
      have g1 : ¬ (k : Int) < k := by omega
      have HDP : Hid (qPairs 99 1000000 s3 = rMany (qId 99 1000000) k s4) := by show _ = _; unfold qPairs; rw [← HX4.out, ← HS4.out, Int.toNat_natCast]
      have HLD : Hid ((rMany (qId 99 1000000) k s4).1.length ≤ 12 ∧ ∀ q ∈ (rMany (qId 99 1000000) k s4).1, I64 q.1 ∧ I64 q.2) := by rw [← HDP.out]; exact qPairs_ok 99 1000000 (by decide) (by decide) (by decide) (by decide) _
      obtain ⟨LD, t5, HLT⟩ : ∃ L t, Hid (rMany (qId 99 1000000) k s4 = (L, t)) := ⟨_, _, rfl⟩
      rw [HLT.out] at hF hD HDP HLD
      dsimp only at hF hD HLD
      clear HLT
      go_wp2_with fail
      obtain ⟨x5, HX5⟩ : ∃ x, Hid (x = (rCnt 40 t5).1) := ⟨_, rfl⟩
      obtain ⟨s5, HS5⟩ : ∃ s, Hid (s = (rCnt 40 t5).2) := ⟨_, rfl⟩
      have E5 : Calls Tryz.prog 8 #[.pointer (some ⟨w.heap.size + 1, 0, none⟩), .int .i64 40] wr fun e w' => e = .returned (.int .i64 x5) ∧ DAt (w.heap.size + 1) vb b s5 w' ∧ Off (w.heap.size + 1) wr w' := by
        rw [HX5.out, HS5.out]
        exact qnum_any w _ _ vb b t5 40 (by decide) (by decide) hb0 hw0 hl hF.bel hD
      go_fit E5
      rintro e w5 ⟨rfl, D5, O5⟩
      clear E5
      have F6 := hF.off hD O5
      have HM40 : Hid (x5 ≤ 40 ∧ 0 ≤ x5) := by have := rCnt_range 40 (by decide) t5; rw [← HX5.out] at this; exact ⟨this.2, this.1⟩
      obtain ⟨M, rfl⟩ : ∃ M : Nat, x5 = M := ⟨x5.toNat, by have := HM40.out; omega⟩
      clear hF hD O5 hz1 hk g1
      go_wp2_with fail
      go_loopw [10] (fun i wr => ∃ (j : Nat) (uo : Value) (l : List OV), j ≤ M ∧ i = .int .i64 j ∧ l.map (·.1) = (rMany qOp j s5).1 ∧ Fr w x1 x2 x3 ud LD uo l wr ∧ DAt (w.heap.size + 1) vb b (rMany qOp j s5).2 wr) (fun i _ => M - (RowKit.intOf i).toNat)
      case atStart => exact ⟨0, _, [], Nat.zero_le _, rfl, rfl, F6, D5⟩
      case round =>
        clear F6 D5
        obtain ⟨j, uo, l, hj, rfl, hl1, hF, hD⟩ := hrel
        have hz1 : w.heap.size + 1 < wr.heap.size := by have := hF.size; omega
        by_cases hlt : j < M
        · obtain ⟨wo, rfl⟩ : ∃ x : World, x = wr := ⟨_, rfl⟩
          have g1 : (j : Int) < M := by omega
          have HL : Hid (rMany qOp (j + 1) s5 = ((rMany qOp j s5).1 ++ [(qOp (rMany qOp j s5).2).1], (qOp (rMany qOp j s5).2).2)) := rfl
          have hL : l.length ≤ 40 := by
            have := congrArg List.length hl1
            rw [List.length_map, rMany_len] at this
            have := HM40.out
            omega
          have HL1 : Hid (l.map (·.1) = (rMany qOp j s5).1) := hl1
          clear hl1
          generalize (rMany qOp j s5).1 = LO at *
          generalize (rMany qOp j s5).2 = t0 at *
          have R0 := Rn.start hD 48 #[.int .i64 0, .int .i64 0, .int .i64 0, .string ⟨#[]⟩, .int .i64 0, .int .i64 0, .bool false, .int .i64 0, .int .i64 0, .string ⟨#[]⟩, .int .i64 0, .int .i64 0, .slice none 0 0]
          go_wp2_with fail
          generalize wo.alloc (.cells #[.int .i64 0, .int .i64 0, .int .i64 0, .string ⟨#[]⟩, .int .i64 0, .int .i64 0, .bool false, .int .i64 0, .int .i64 0, .string ⟨#[]⟩, .int .i64 0, .int .i64 0, .slice none 0 0] 48) = v0 at *
          obtain ⟨x21, HX21⟩ : ∃ x, Hid (x = (rCnt 4 t0).1) := ⟨_, rfl⟩
          obtain ⟨s21, HS21⟩ : ∃ s, Hid (s = (rCnt 4 t0).2) := ⟨_, rfl⟩
          have E21 : Calls Tryz.prog 8 #[.pointer (some ⟨w.heap.size + 1, 0, none⟩), .int .i64 4] v0 fun e w' => e = .returned (.int .i64 x21) ∧ DAt (w.heap.size + 1) vb b s21 w' ∧ Off (w.heap.size + 1) v0 w' := by
            rw [HX21.out, HS21.out]
            exact qnum_any w _ _ vb b t0 4 (by decide) (by decide) hb0 hw0 hl (hF.off hD R0.off).bel R0.d
          go_fit E21
          rintro e w21 ⟨rfl, D21, O21⟩
          clear E21
          have R21 := R0.call hz1 D21 O21
          clear D21 O21 R0
          have cp : w21.cell? ⟨wo.heap.size, 0, none⟩ = some (.int .i64 0) := Lib.cell_of_heap R21.box 0
          have fp := Lib.frozen_of_heap R21.box
          have T21 : Rn w wo vb b 48 #[.int .i64 x21, .int .i64 0, .int .i64 0, .string ⟨#[]⟩, .int .i64 0, .int .i64 0, .bool false, .int .i64 0, .int .i64 0, .string ⟨#[]⟩, .int .i64 0, .int .i64 0, .slice none 0 0] s21 (w21.setCell ⟨wo.heap.size, 0, none⟩ (.int .i64 x21)) := R21.set hz1 0 _
          go_wp2_with fail
          clear cp fp R21
          generalize w21.setCell ⟨wo.heap.size, 0, none⟩ (.int .i64 x21) = u21 at *
          obtain ⟨x22, HX22⟩ : ∃ x, Hid (x = (rCnt 1000000 s21).1) := ⟨_, rfl⟩
          obtain ⟨s22, HS22⟩ : ∃ s, Hid (s = (rCnt 1000000 s21).2) := ⟨_, rfl⟩
          have E22 : Calls Tryz.prog 8 #[.pointer (some ⟨w.heap.size + 1, 0, none⟩), .int .i64 1000000] u21 fun e w' => e = .returned (.int .i64 x22) ∧ DAt (w.heap.size + 1) vb b s22 w' ∧ Off (w.heap.size + 1) u21 w' := by
            rw [HX22.out, HS22.out]
            exact qnum_any w _ _ vb b s21 1000000 (by decide) (by decide) hb0 hw0 hl (hF.off hD T21.off).bel T21.d
          go_fit E22
          rintro e w22 ⟨rfl, D22, O22⟩
          clear E22
          have R22 := T21.call hz1 D22 O22
          clear D22 O22 T21
          have cp : w22.cell? ⟨wo.heap.size, 1, none⟩ = some (.int .i64 0) := Lib.cell_of_heap R22.box 1
          have fp := Lib.frozen_of_heap R22.box
          have T22 : Rn w wo vb b 48 #[.int .i64 x21, .int .i64 x22, .int .i64 0, .string ⟨#[]⟩, .int .i64 0, .int .i64 0, .bool false, .int .i64 0, .int .i64 0, .string ⟨#[]⟩, .int .i64 0, .int .i64 0, .slice none 0 0] s22 (w22.setCell ⟨wo.heap.size, 1, none⟩ (.int .i64 x22)) := R22.set hz1 1 _
          go_wp2_with fail
          clear cp fp R22
          generalize w22.setCell ⟨wo.heap.size, 1, none⟩ (.int .i64 x22) = u22 at *
          obtain ⟨x23, HX23⟩ : ∃ x, Hid (x = (rCnt 99 s22).1) := ⟨_, rfl⟩
          obtain ⟨s23, HS23⟩ : ∃ s, Hid (s = (rCnt 99 s22).2) := ⟨_, rfl⟩
          have E23 : Calls Tryz.prog 8 #[.pointer (some ⟨w.heap.size + 1, 0, none⟩), .int .i64 99] u22 fun e w' => e = .returned (.int .i64 x23) ∧ DAt (w.heap.size + 1) vb b s23 w' ∧ Off (w.heap.size + 1) u22 w' := by
            rw [HX23.out, HS23.out]
            exact qnum_any w _ _ vb b s22 99 (by decide) (by decide) hb0 hw0 hl (hF.off hD T22.off).bel T22.d
          go_fit E23
          rintro e w23 ⟨rfl, D23, O23⟩
          clear E23
          have R23 := T22.call hz1 D23 O23
          clear D23 O23 T22
          have cp : w23.cell? ⟨wo.heap.size, 2, none⟩ = some (.int .i64 0) := Lib.cell_of_heap R23.box 2
          have fp := Lib.frozen_of_heap R23.box
          have T23 : Rn w wo vb b 48 #[.int .i64 x21, .int .i64 x22, .int .i64 x23, .string ⟨#[]⟩, .int .i64 0, .int .i64 0, .bool false, .int .i64 0, .int .i64 0, .string ⟨#[]⟩, .int .i64 0, .int .i64 0, .slice none 0 0] s23 (w23.setCell ⟨wo.heap.size, 2, none⟩ (.int .i64 x23)) := R23.set hz1 2 _
          go_wp2_with fail
          clear cp fp R23
          generalize w23.setCell ⟨wo.heap.size, 2, none⟩ (.int .i64 x23) = u23 at *
          obtain ⟨x24, HX24⟩ : ∃ x, Hid (x = asText (rTxt 20 s23).1) := ⟨_, rfl⟩
          obtain ⟨s24, HS24⟩ : ∃ s, Hid (s = (rTxt 20 s23).2) := ⟨_, rfl⟩
          have E24 : Calls Tryz.prog 9 #[.pointer (some ⟨w.heap.size + 1, 0, none⟩), .int .i64 20] u23 fun e w' => e = .returned (.string x24) ∧ DAt (w.heap.size + 1) vb b s24 w' ∧ Off (w.heap.size + 1) u23 w' := by
            rw [HX24.out, HS24.out]
            exact qtxt_any w _ _ vb b s23 20 (by decide) (by decide) hb0 hw0 hl (by omega) (hF.off hD T23.off).bel T23.d
          go_fit E24
          rintro e w24 ⟨rfl, D24, O24⟩
          clear E24
          have R24 := T23.call hz1 D24 O24
          clear D24 O24 T23
          have cp : w24.cell? ⟨wo.heap.size, 3, none⟩ = some (.string ⟨#[]⟩) := Lib.cell_of_heap R24.box 3
          have fp := Lib.frozen_of_heap R24.box
          have T24 : Rn w wo vb b 48 #[.int .i64 x21, .int .i64 x22, .int .i64 x23, .string x24, .int .i64 0, .int .i64 0, .bool false, .int .i64 0, .int .i64 0, .string ⟨#[]⟩, .int .i64 0, .int .i64 0, .slice none 0 0] s24 (w24.setCell ⟨wo.heap.size, 3, none⟩ (.string x24)) := R24.set hz1 3 _
          go_wp2_with fail
          clear cp fp R24
          generalize w24.setCell ⟨wo.heap.size, 3, none⟩ (.string x24) = u24 at *
          obtain ⟨x25, HX25⟩ : ∃ x, Hid (x = (rCnt 1000000 s24).1) := ⟨_, rfl⟩
          obtain ⟨s25, HS25⟩ : ∃ s, Hid (s = (rCnt 1000000 s24).2) := ⟨_, rfl⟩
          have E25 : Calls Tryz.prog 8 #[.pointer (some ⟨w.heap.size + 1, 0, none⟩), .int .i64 1000000] u24 fun e w' => e = .returned (.int .i64 x25) ∧ DAt (w.heap.size + 1) vb b s25 w' ∧ Off (w.heap.size + 1) u24 w' := by
            rw [HX25.out, HS25.out]
            exact qnum_any w _ _ vb b s24 1000000 (by decide) (by decide) hb0 hw0 hl (hF.off hD T24.off).bel T24.d
          go_fit E25
          rintro e w25 ⟨rfl, D25, O25⟩
          clear E25
          have R25 := T24.call hz1 D25 O25
          clear D25 O25 T24
          have cp : w25.cell? ⟨wo.heap.size, 4, none⟩ = some (.int .i64 0) := Lib.cell_of_heap R25.box 4
          have fp := Lib.frozen_of_heap R25.box
          have T25 : Rn w wo vb b 48 #[.int .i64 x21, .int .i64 x22, .int .i64 x23, .string x24, .int .i64 x25, .int .i64 0, .bool false, .int .i64 0, .int .i64 0, .string ⟨#[]⟩, .int .i64 0, .int .i64 0, .slice none 0 0] s25 (w25.setCell ⟨wo.heap.size, 4, none⟩ (.int .i64 x25)) := R25.set hz1 4 _
          go_wp2_with fail
          clear cp fp R25
          generalize w25.setCell ⟨wo.heap.size, 4, none⟩ (.int .i64 x25) = u25 at *
          obtain ⟨x26, HX26⟩ : ∃ x, Hid (x = (rCnt 99 s25).1) := ⟨_, rfl⟩
          obtain ⟨s26, HS26⟩ : ∃ s, Hid (s = (rCnt 99 s25).2) := ⟨_, rfl⟩
          have E26 : Calls Tryz.prog 8 #[.pointer (some ⟨w.heap.size + 1, 0, none⟩), .int .i64 99] u25 fun e w' => e = .returned (.int .i64 x26) ∧ DAt (w.heap.size + 1) vb b s26 w' ∧ Off (w.heap.size + 1) u25 w' := by
            rw [HX26.out, HS26.out]
            exact qnum_any w _ _ vb b s25 99 (by decide) (by decide) hb0 hw0 hl (hF.off hD T25.off).bel T25.d
          go_fit E26
          rintro e w26 ⟨rfl, D26, O26⟩
          clear E26
          have R26 := T25.call hz1 D26 O26
          clear D26 O26 T25
          have cp : w26.cell? ⟨wo.heap.size, 5, none⟩ = some (.int .i64 0) := Lib.cell_of_heap R26.box 5
          have fp := Lib.frozen_of_heap R26.box
          have T26 : Rn w wo vb b 48 #[.int .i64 x21, .int .i64 x22, .int .i64 x23, .string x24, .int .i64 x25, .int .i64 x26, .bool false, .int .i64 0, .int .i64 0, .string ⟨#[]⟩, .int .i64 0, .int .i64 0, .slice none 0 0] s26 (w26.setCell ⟨wo.heap.size, 5, none⟩ (.int .i64 x26)) := R26.set hz1 5 _
          go_wp2_with fail
          clear cp fp R26
          generalize w26.setCell ⟨wo.heap.size, 5, none⟩ (.int .i64 x26) = u26 at *
          obtain ⟨x27, HX27⟩ : ∃ x, Hid (x = (rCnt 1 s26).1) := ⟨_, rfl⟩
          obtain ⟨s27, HS27⟩ : ∃ s, Hid (s = (rCnt 1 s26).2) := ⟨_, rfl⟩
          have E27 : Calls Tryz.prog 8 #[.pointer (some ⟨w.heap.size + 1, 0, none⟩), .int .i64 1] u26 fun e w' => e = .returned (.int .i64 x27) ∧ DAt (w.heap.size + 1) vb b s27 w' ∧ Off (w.heap.size + 1) u26 w' := by
            rw [HX27.out, HS27.out]
            exact qnum_any w _ _ vb b s26 1 (by decide) (by decide) hb0 hw0 hl (hF.off hD T26.off).bel T26.d
          go_fit E27
          rintro e w27 ⟨rfl, D27, O27⟩
          clear E27
          have R27 := T26.call hz1 D27 O27
          clear D27 O27 T26
          have cp : w27.cell? ⟨wo.heap.size, 6, none⟩ = some (.bool false) := Lib.cell_of_heap R27.box 6
          have fp := Lib.frozen_of_heap R27.box
          have T27 : Rn w wo vb b 48 #[.int .i64 x21, .int .i64 x22, .int .i64 x23, .string x24, .int .i64 x25, .int .i64 x26, .bool (x27 == 1), .int .i64 0, .int .i64 0, .string ⟨#[]⟩, .int .i64 0, .int .i64 0, .slice none 0 0] s27 (w27.setCell ⟨wo.heap.size, 6, none⟩ (.bool (x27 == 1))) := R27.set hz1 6 _
          go_wp2_with fail
          clear cp fp R27
          generalize w27.setCell ⟨wo.heap.size, 6, none⟩ (.bool (x27 == 1)) = u27 at *
          obtain ⟨x28, HX28⟩ : ∃ x, Hid (x = (rCnt 6 s27).1) := ⟨_, rfl⟩
          obtain ⟨s28, HS28⟩ : ∃ s, Hid (s = (rCnt 6 s27).2) := ⟨_, rfl⟩
          have E28 : Calls Tryz.prog 8 #[.pointer (some ⟨w.heap.size + 1, 0, none⟩), .int .i64 6] u27 fun e w' => e = .returned (.int .i64 x28) ∧ DAt (w.heap.size + 1) vb b s28 w' ∧ Off (w.heap.size + 1) u27 w' := by
            rw [HX28.out, HS28.out]
            exact qnum_any w _ _ vb b s27 6 (by decide) (by decide) hb0 hw0 hl (hF.off hD T27.off).bel T27.d
          go_fit E28
          rintro e w28 ⟨rfl, D28, O28⟩
          clear E28
          have R28 := T27.call hz1 D28 O28
          clear D28 O28 T27
          have cp : w28.cell? ⟨wo.heap.size, 7, none⟩ = some (.int .i64 0) := Lib.cell_of_heap R28.box 7
          have fp := Lib.frozen_of_heap R28.box
          have T28 : Rn w wo vb b 48 #[.int .i64 x21, .int .i64 x22, .int .i64 x23, .string x24, .int .i64 x25, .int .i64 x26, .bool (x27 == 1), .int .i64 x28, .int .i64 0, .string ⟨#[]⟩, .int .i64 0, .int .i64 0, .slice none 0 0] s28 (w28.setCell ⟨wo.heap.size, 7, none⟩ (.int .i64 x28)) := R28.set hz1 7 _
          have cb : (w28.setCell ⟨wo.heap.size, 7, none⟩ (.int .i64 x28)).cell? ⟨w.heap.size + 1, 2, none⟩ = some (.bool s28.isNone) := by obtain ⟨a, _, _, hx⟩ := T28.d; exact Lib.cell_of_heap hx 2
          go_upto_if 92 with fail
          clear cp fp R28 cb
          generalize w28.setCell ⟨wo.heap.size, 7, none⟩ (.int .i64 x28) = u28 at *
          obtain ⟨x29, HX29⟩ : ∃ x, Hid (x = (rSig s28).1) := ⟨_, rfl⟩
          obtain ⟨s29, HS29⟩ : ∃ s, Hid (s = (rSig s28).2) := ⟨_, rfl⟩
          go_cut [13, 14] from 52 to 151 (fun _ _ wx => Rn w wo vb b 48 #[.int .i64 x21, .int .i64 x22, .int .i64 x23, .string x24, .int .i64 x25, .int .i64 x26, .bool (x27 == 1), .int .i64 x28, .int .i64 x29, .string ⟨#[]⟩, .int .i64 0, .int .i64 0, .slice none 0 0] s29 wx)
          case first =>
            obtain ⟨a, ha, hs, hx⟩ := id T28.d
            rcases hs with rfl | rfl
            · obtain rfl : x29 = 0 := HX29.out
              obtain rfl : s29 = none := HS29.out
              have T29 := T28
              clear hx
              go_wp2
              go_meet
              exact T29
            · have hx' : u28.heap[w.heap.size + 1]? = some (.cells #[vb, .int .i64 a, .bool false] 38) := hx
              clear hx
              obtain ⟨X, K, hG0, hK0, hX1, hX2, hX3⟩ := sig_get (b.drop a)
              rw [← HX29.out] at hX1
              rw [← HS29.out] at hX2 hX3
              subst hX1
              have hK : a + K ≤ b.length := by rw [List.length_drop] at hK0; omega
              rw [List.drop_drop] at hX2
              have HS2 : Hid (s29 = none ∨ s29 = some (b.drop (a + K))) := hX2
              have HS3 : Hid (s29.isNone = ((K : Int) == 0)) := hX3
              have wak : wrap64 ((a : Int) + K) = (a : Int) + K := by unfold wrap64; omega
              have ne1 : ¬ wo.heap.size = w.heap.size + 1 := by omega
              have ne2 : ¬ w.heap.size + 1 = wo.heap.size := by omega
              clear hX2 hX3 hK0
              rcases hw0 with rfl | ⟨ad, n, c, rfl⟩
              · have hn : b = [] := by
                  obtain ⟨a', c', e, -⟩ := id hb0
                  injection e with _ e _
                  exact List.length_eq_zero_iff.1 e.symm
                have ha0 : a = 0 := by rw [hn] at ha; simpa using ha
                subst ha0
                have hG1 : rgetSV (get []) = .tuple #[.int .i64 x29, .int .i64 (K : Int)] := by rw [← hG0, hn]; rfl
                have hx := hx'
                clear hG0 hx'
                have r0 : u28.cell? ⟨w.heap.size + 1, 0, none⟩ = some (.slice none 0 0) := Lib.cell_of_heap hx 0
                have r1 : u28.cell? ⟨w.heap.size + 1, 1, none⟩ = some (.int .i64 0) := Lib.cell_of_heap hx 1
                have r2 : u28.cell? ⟨w.heap.size + 1, 2, none⟩ = some (.bool false) := Lib.cell_of_heap hx 2
                have GC := rGetSigned_any (.slice none 0 0) [] u28.drew (isBytes_nil _ _ _)
                rw [hG1] at GC
                have HXD : Hid (u28.heap[w.heap.size + 1]? = some (.cells #[.slice none 0 0, .int .i64 0, .bool false] 38)) := hx
                have HT28 : Hid (Rn w wo (.slice none 0 0) b 48 #[.int .i64 x21, .int .i64 x22, .int .i64 x23, .string x24, .int .i64 x25, .int .i64 x26, .bool (x27 == 1), .int .i64 x28, .int .i64 0, .string ⟨#[]⟩, .int .i64 0, .int .i64 0, .slice none 0 0] (some (b.drop 0)) u28) := T28
                have HIN : Hid (w.heap.size + 1 < wo.heap.size ∧ 0 + K ≤ b.length ∧ b.length ≤ 4611686018427387904) := ⟨hz1, hK, hl⟩
                clear hx T28 hG1 hz1 hK ha hL hj hlt hl hn
                go_wp2
                go_region_held3 (fun W => W.cell? ⟨w.heap.size + 1, 0, none⟩ = some (.slice none 0 0) ∧ W.cell? ⟨w.heap.size + 1, 1, none⟩ = some (.int .i64 0)) (first | (exact ⟨Lib.cell_of_heap (heap_below HXD.out ((Below.refl _ u28).drew.trans b29) (Nat.le_refl _)) 0, Lib.cell_of_heap (heap_below HXD.out ((Below.refl _ u28).drew.trans b29) (Nat.le_refl _)) 1⟩) | go_keep) (first | (go_at_call 10; go_fit GC; rintro e w29 ⟨rfl, b29⟩))
                all_goals
                  have B29 : Below u28.heap.size u28 w29 := (Below.refl _ u28).drew.trans b29
                  have TS := HT28.out.sig HIN.out.1 B29 HXD.out HIN.out.2.1 (s2 := s29) HS2.out HS3.out x29
                  have y1 := heap_below HXD.out B29 (Nat.le_refl _)
                  have y2 := heap_below HT28.out.box B29 (Nat.le_refl _)
                  have d8 : w29.cell? ⟨wo.heap.size, 8, none⟩ = some (.int .i64 0) := Lib.cell_of_heap y2 8
                  have df := Lib.frozen_of_heap y2
                  have d1 : ∀ v, (w29.setCell ⟨wo.heap.size, 8, none⟩ v).cell? ⟨w.heap.size + 1, 1, none⟩ = some (.int .i64 0) := fun v => Lib.cell_of_heap (heap_set_off y1 ne2) 1
                  have d2 : ∀ v, (w29.setCell ⟨wo.heap.size, 8, none⟩ v).cell? ⟨w.heap.size + 1, 2, none⟩ = some (.bool false) := fun v => Lib.cell_of_heap (heap_set_off y1 ne2) 2
                  have dg : ∀ v, ∀ j, (w29.setCell ⟨wo.heap.size, 8, none⟩ v).frozen? ⟨w.heap.size + 1, j, none⟩ = false := fun v => Lib.frozen_of_heap (heap_set_off y1 ne2)
                  have d3 : ∀ v u, ((w29.setCell ⟨wo.heap.size, 8, none⟩ v).setCell ⟨w.heap.size + 1, 1, none⟩ u).cell? ⟨w.heap.size + 1, 2, none⟩ = some (.bool false) := fun v u => Lib.cell_of_heap (set_at (heap_set_off y1 ne2) 1 u) 2
                  clear r0 r1 r2 y1 y2 GC b29
                  go_wp2
                  go_meet
                  rw [show wrap64 (K : Int) = ((0 : Nat) : Int) + (K : Int) from wrap_zero K (Nat.le_trans (Nat.le_trans (Nat.le_of_eq (Nat.zero_add K).symm) HIN.out.2.1) HIN.out.2.2)]; exact TS

              · obtain rfl : n = b.length := by
                  obtain ⟨a', c', e, -⟩ := id hb0
                  injection e
                have hcap : b.length ≤ c := by
                  obtain ⟨a', c', e, h3, -⟩ := id hb0
                  injection e with _ _ e
                  subst e
                  exact h3
                by_cases hc : c = a
                · have hba : b.length = a := Nat.le_antisymm (Nat.le_trans hcap (Nat.le_of_eq hc)) ha
                  have hd : b.drop a = [] := List.drop_eq_nil_of_le (Nat.le_of_eq hba)
                  have hG1 : rgetSV (get []) = .tuple #[.int .i64 x29, .int .i64 (K : Int)] := by rw [← hG0, hd]
                  have hx := hx'
                  have hrw : (.slice (some ad) b.length c : Value) = .slice (some ad) a a := by rw [hba, hc]
                  rw [hrw] at hx T28
                  have HRW : Hid (_ = _) := hrw
                  clear hG0 hx'
                  have r0 : u28.cell? ⟨w.heap.size + 1, 0, none⟩ = some (.slice (some ad) a a) := Lib.cell_of_heap hx 0
                  have r1 : u28.cell? ⟨w.heap.size + 1, 1, none⟩ = some (.int .i64 a) := Lib.cell_of_heap hx 1
                  have r2 : u28.cell? ⟨w.heap.size + 1, 2, none⟩ = some (.bool false) := Lib.cell_of_heap hx 2
                  have GC := rGetSigned_any (.slice (some ad) 0 0) [] u28.drew (isBytes_nil _ _ _)
                  rw [hG1] at GC
                  have HXD : Hid (u28.heap[w.heap.size + 1]? = some (.cells #[.slice (some ad) a a, .int .i64 a, .bool false] 38)) := hx
                  have HT28 : Hid (Rn w wo (.slice (some ad) a a) b 48 #[.int .i64 x21, .int .i64 x22, .int .i64 x23, .string x24, .int .i64 x25, .int .i64 x26, .bool (x27 == 1), .int .i64 x28, .int .i64 0, .string ⟨#[]⟩, .int .i64 0, .int .i64 0, .slice none 0 0] (some (b.drop a)) u28) := T28
                  have HIN : Hid (w.heap.size + 1 < wo.heap.size ∧ a + K ≤ b.length ∧ b.length ≤ 4611686018427387904) := ⟨hz1, hK, hl⟩
                  clear hx T28 hG1 hz1 hK ha hL hj hlt hl hcap hba hc hrw
                  go_wp2
                  go_region_held3 (fun W => W.cell? ⟨w.heap.size + 1, 0, none⟩ = some (.slice (some ad) a a) ∧ W.cell? ⟨w.heap.size + 1, 1, none⟩ = some (.int .i64 a)) (first | (exact ⟨Lib.cell_of_heap (heap_below HXD.out ((Below.refl _ u28).drew.trans b29) (Nat.le_refl _)) 0, Lib.cell_of_heap (heap_below HXD.out ((Below.refl _ u28).drew.trans b29) (Nat.le_refl _)) 1⟩) | go_keep) (first | (go_at_call 10; go_fit GC; rintro e w29 ⟨rfl, b29⟩))
                  all_goals
                    have B29 : Below u28.heap.size u28 w29 := (Below.refl _ u28).drew.trans b29
                    have TS := HT28.out.sig HIN.out.1 B29 HXD.out HIN.out.2.1 (s2 := s29) HS2.out HS3.out x29
                    have y1 := heap_below HXD.out B29 (Nat.le_refl _)
                    have y2 := heap_below HT28.out.box B29 (Nat.le_refl _)
                    have d8 : w29.cell? ⟨wo.heap.size, 8, none⟩ = some (.int .i64 0) := Lib.cell_of_heap y2 8
                    have df := Lib.frozen_of_heap y2
                    have d1 : ∀ v, (w29.setCell ⟨wo.heap.size, 8, none⟩ v).cell? ⟨w.heap.size + 1, 1, none⟩ = some (.int .i64 a) := fun v => Lib.cell_of_heap (heap_set_off y1 ne2) 1
                    have d2 : ∀ v, (w29.setCell ⟨wo.heap.size, 8, none⟩ v).cell? ⟨w.heap.size + 1, 2, none⟩ = some (.bool false) := fun v => Lib.cell_of_heap (heap_set_off y1 ne2) 2
                    have dg : ∀ v, ∀ j, (w29.setCell ⟨wo.heap.size, 8, none⟩ v).frozen? ⟨w.heap.size + 1, j, none⟩ = false := fun v => Lib.frozen_of_heap (heap_set_off y1 ne2)
                    have d3 : ∀ v u, ((w29.setCell ⟨wo.heap.size, 8, none⟩ v).setCell ⟨w.heap.size + 1, 1, none⟩ u).cell? ⟨w.heap.size + 1, 2, none⟩ = some (.bool false) := fun v u => Lib.cell_of_heap (set_at (heap_set_off y1 ne2) 1 u) 2
                    clear r0 r1 r2 y1 y2 GC b29
                    go_wp2
                    go_meet
                    rw [HRW.out]; exact TS

                · have hG1 := hG0
                  have hx := hx'
                  have BW := (hF.off hD T28.off).bel
                  clear hG0 hx'
                  have r0 : u28.cell? ⟨w.heap.size + 1, 0, none⟩ = some (.slice (some ad) b.length c) := Lib.cell_of_heap hx 0
                  have r1 : u28.cell? ⟨w.heap.size + 1, 1, none⟩ = some (.int .i64 a) := Lib.cell_of_heap hx 1
                  have r2 : u28.cell? ⟨w.heap.size + 1, 2, none⟩ = some (.bool false) := Lib.cell_of_heap hx 2
                  have GC := rGetSigned_any (.slice (some (ad.add a)) (b.length - a) (c - a)) (b.drop a) u28.drew (((bytes_from2 hb0 a ha).1 (Nat.lt_of_le_of_ne (Nat.le_trans ha hcap) (Ne.symm hc))).below BW.drew)
                  rw [hG1] at GC
                  have HXD : Hid (u28.heap[w.heap.size + 1]? = some (.cells #[.slice (some ad) b.length c, .int .i64 a, .bool false] 38)) := hx
                  have HT28 : Hid (Rn w wo (.slice (some ad) b.length c) b 48 #[.int .i64 x21, .int .i64 x22, .int .i64 x23, .string x24, .int .i64 x25, .int .i64 x26, .bool (x27 == 1), .int .i64 x28, .int .i64 0, .string ⟨#[]⟩, .int .i64 0, .int .i64 0, .slice none 0 0] (some (b.drop a)) u28) := T28
                  have HIN : Hid (w.heap.size + 1 < wo.heap.size ∧ a + K ≤ b.length ∧ b.length ≤ 4611686018427387904) := ⟨hz1, hK, hl⟩
                  clear hx T28 hG1 hz1 hK  hL hj hlt hl BW
                  go_wp2
                  go_region_held3 (fun W => W.cell? ⟨w.heap.size + 1, 0, none⟩ = some (.slice (some ad) b.length c) ∧ W.cell? ⟨w.heap.size + 1, 1, none⟩ = some (.int .i64 a)) (first | (exact ⟨Lib.cell_of_heap (heap_below HXD.out ((Below.refl _ u28).drew.trans b29) (Nat.le_refl _)) 0, Lib.cell_of_heap (heap_below HXD.out ((Below.refl _ u28).drew.trans b29) (Nat.le_refl _)) 1⟩) | go_keep) (first | (go_at_call 10; go_fit GC; rintro e w29 ⟨rfl, b29⟩))
                  all_goals
                    have B29 : Below u28.heap.size u28 w29 := (Below.refl _ u28).drew.trans b29
                    have TS := HT28.out.sig HIN.out.1 B29 HXD.out HIN.out.2.1 (s2 := s29) HS2.out HS3.out x29
                    have y1 := heap_below HXD.out B29 (Nat.le_refl _)
                    have y2 := heap_below HT28.out.box B29 (Nat.le_refl _)
                    have d8 : w29.cell? ⟨wo.heap.size, 8, none⟩ = some (.int .i64 0) := Lib.cell_of_heap y2 8
                    have df := Lib.frozen_of_heap y2
                    have d1 : ∀ v, (w29.setCell ⟨wo.heap.size, 8, none⟩ v).cell? ⟨w.heap.size + 1, 1, none⟩ = some (.int .i64 a) := fun v => Lib.cell_of_heap (heap_set_off y1 ne2) 1
                    have d2 : ∀ v, (w29.setCell ⟨wo.heap.size, 8, none⟩ v).cell? ⟨w.heap.size + 1, 2, none⟩ = some (.bool false) := fun v => Lib.cell_of_heap (heap_set_off y1 ne2) 2
                    have dg : ∀ v, ∀ j, (w29.setCell ⟨wo.heap.size, 8, none⟩ v).frozen? ⟨w.heap.size + 1, j, none⟩ = false := fun v => Lib.frozen_of_heap (heap_set_off y1 ne2)
                    have d3 : ∀ v u, ((w29.setCell ⟨wo.heap.size, 8, none⟩ v).setCell ⟨w.heap.size + 1, 1, none⟩ u).cell? ⟨w.heap.size + 1, 2, none⟩ = some (.bool false) := fun v u => Lib.cell_of_heap (set_at (heap_set_off y1 ne2) 1 u) 2
                    clear r0 r1 r2 y1 y2 GC b29
                    go_wp2
                    go_meet
                    exact TS

          case rest =>
            have T29 := hcut
            clear T28 hcut
            go_wp2_with fail
            obtain ⟨x30, HX30⟩ : ∃ x, Hid (x = asText (rTxt 60 s29).1) := ⟨_, rfl⟩
            obtain ⟨s30, HS30⟩ : ∃ s, Hid (s = (rTxt 60 s29).2) := ⟨_, rfl⟩
            have E30 : Calls Tryz.prog 9 #[.pointer (some ⟨w.heap.size + 1, 0, none⟩), .int .i64 60] wc fun e w' => e = .returned (.string x30) ∧ DAt (w.heap.size + 1) vb b s30 w' ∧ Off (w.heap.size + 1) wc w' := by
              rw [HX30.out, HS30.out]
              exact qtxt_any w _ _ vb b s29 60 (by decide) (by decide) hb0 hw0 hl (by omega) (hF.off hD T29.off).bel T29.d
            go_fit E30
            rintro e w30 ⟨rfl, D30, O30⟩
            clear E30
            have R30 := T29.call hz1 D30 O30
            clear D30 O30 T29
            have cp : w30.cell? ⟨wo.heap.size, 9, none⟩ = some (.string ⟨#[]⟩) := Lib.cell_of_heap R30.box 9
            have fp := Lib.frozen_of_heap R30.box
            have T30 : Rn w wo vb b 48 #[.int .i64 x21, .int .i64 x22, .int .i64 x23, .string x24, .int .i64 x25, .int .i64 x26, .bool (x27 == 1), .int .i64 x28, .int .i64 x29, .string x30, .int .i64 0, .int .i64 0, .slice none 0 0] s30 (w30.setCell ⟨wo.heap.size, 9, none⟩ (.string x30)) := R30.set hz1 9 _
            go_wp2_with fail
            clear cp fp R30
            generalize w30.setCell ⟨wo.heap.size, 9, none⟩ (.string x30) = u30 at *
            obtain ⟨x31, HX31⟩ : ∃ x, Hid (x = (rCnt 12 s30).1) := ⟨_, rfl⟩
            obtain ⟨s31, HS31⟩ : ∃ s, Hid (s = (rCnt 12 s30).2) := ⟨_, rfl⟩
            have E31 : Calls Tryz.prog 8 #[.pointer (some ⟨w.heap.size + 1, 0, none⟩), .int .i64 12] u30 fun e w' => e = .returned (.int .i64 x31) ∧ DAt (w.heap.size + 1) vb b s31 w' ∧ Off (w.heap.size + 1) u30 w' := by
              rw [HX31.out, HS31.out]
              exact qnum_any w _ _ vb b s30 12 (by decide) (by decide) hb0 hw0 hl (hF.off hD T30.off).bel T30.d
            go_fit E31
            rintro e w31 ⟨rfl, D31, O31⟩
            clear E31
            have R31 := T30.call hz1 D31 O31
            clear D31 O31 T30
            have HP12 : Hid (x31 ≤ 12 ∧ 0 ≤ x31) := by have := rCnt_range 12 (by decide) s30; rw [← HX31.out] at this; exact ⟨this.2, this.1⟩
            obtain ⟨P, rfl⟩ : ∃ P : Nat, x31 = P := ⟨x31.toNat, by have := HP12.out; omega⟩
            go_wp2_with fail
            go_loopw [16] (fun i wq => ∃ (m : Nat) (up : Value), m ≤ P ∧ i = .int .i64 m ∧ Rn w wo vb b 48 #[.int .i64 x21, .int .i64 x22, .int .i64 x23, .string x24, .int .i64 x25, .int .i64 x26, .bool (x27 == 1), .int .i64 x28, .int .i64 x29, .string x30, .int .i64 0, .int .i64 0, up] (rMany (qId 1000000 99) m s31).2 wq ∧ RowPr 43 (wo.heap.size + 1) up (rMany (qId 1000000 99) m s31).1 wq) (fun i _ => P - (RowKit.intOf i).toNat)
            case atStart => exact ⟨0, _, Nat.zero_le _, rfl, R31, World.ownsRow_nil _ _ _ _⟩
            case round =>
              clear R31
              obtain ⟨m, up, hm, rfl, hRN, hRP⟩ := hrel
              have hz2' : w.heap.size + 1 < wr.heap.size := hRN.d.lt
              have hz4 : wo.heap.size < wr.heap.size := by
                rcases Nat.lt_or_ge wo.heap.size wr.heap.size with h1 | h1
                · exact h1
                · have := hRN.box; rw [Array.getElem?_eq_none h1] at this; cases this
              by_cases hltm : m < P
              · have g1 : (m : Int) < P := by omega
                have HLm : Hid (rMany (qId 1000000 99) (m + 1) s31 = ((rMany (qId 1000000 99) m s31).1 ++ [((rCnt 1000000 (rMany (qId 1000000 99) m s31).2).1, (rCnt 99 (rCnt 1000000 (rMany (qId 1000000 99) m s31).2).2).1)], (rCnt 99 (rCnt 1000000 (rMany (qId 1000000 99) m s31).2).2).2)) := rfl
                have hLm : (rMany (qId 1000000 99) m s31).1.length ≤ 12 := by rw [rMany_len]; have := HP12.out; omega
                generalize (rMany (qId 1000000 99) m s31).1 = LP at *
                generalize (rMany (qId 1000000 99) m s31).2 = t9 at *
                have R40 := Rn.start hRN.d 43 #[.int .i64 0, .int .i64 0]
                have FQ := hF.off hD hRN.off
                go_wp2_with fail
                generalize wr.alloc (.cells #[.int .i64 0, .int .i64 0] 43) = v9 at *
                obtain ⟨x41, HX41⟩ : ∃ x, Hid (x = (rCnt 1000000 t9).1) := ⟨_, rfl⟩
                obtain ⟨s41, HS41⟩ : ∃ s, Hid (s = (rCnt 1000000 t9).2) := ⟨_, rfl⟩
                have E41 : Calls Tryz.prog 8 #[.pointer (some ⟨w.heap.size + 1, 0, none⟩), .int .i64 1000000] v9 fun e w' => e = .returned (.int .i64 x41) ∧ DAt (w.heap.size + 1) vb b s41 w' ∧ Off (w.heap.size + 1) v9 w' := by
                  rw [HX41.out, HS41.out]
                  exact qnum_any w _ _ vb b t9 1000000 (by decide) (by decide) hb0 hw0 hl (FQ.off hRN.d R40.off).bel R40.d
                go_fit E41
                rintro e w41 ⟨rfl, D41, O41⟩
                clear E41
                have R41 := R40.call hz2' D41 O41
                clear D41 O41 R40
                have cp : w41.cell? ⟨wr.heap.size, 0, none⟩ = some (.int .i64 0) := Lib.cell_of_heap R41.box 0
                have fp := Lib.frozen_of_heap R41.box
                have T41 : Rn w wr vb b 43 #[.int .i64 x41, .int .i64 0] s41 (w41.setCell ⟨wr.heap.size, 0, none⟩ (.int .i64 x41)) := R41.set hz2' 0 _
                go_wp2_with fail
                clear cp fp R41
                generalize w41.setCell ⟨wr.heap.size, 0, none⟩ (.int .i64 x41) = u41 at *
                obtain ⟨x42, HX42⟩ : ∃ x, Hid (x = (rCnt 99 s41).1) := ⟨_, rfl⟩
                obtain ⟨s42, HS42⟩ : ∃ s, Hid (s = (rCnt 99 s41).2) := ⟨_, rfl⟩
                have E42 : Calls Tryz.prog 8 #[.pointer (some ⟨w.heap.size + 1, 0, none⟩), .int .i64 99] u41 fun e w' => e = .returned (.int .i64 x42) ∧ DAt (w.heap.size + 1) vb b s42 w' ∧ Off (w.heap.size + 1) u41 w' := by
                  rw [HX42.out, HS42.out]
                  exact qnum_any w _ _ vb b s41 99 (by decide) (by decide) hb0 hw0 hl (FQ.off hRN.d T41.off).bel T41.d
                go_fit E42
                rintro e w42 ⟨rfl, D42, O42⟩
                clear E42
                have R42 := T41.call hz2' D42 O42
                clear D42 O42 T41
                have cp : w42.cell? ⟨wr.heap.size, 1, none⟩ = some (.int .i64 0) := Lib.cell_of_heap R42.box 1
                have fp := Lib.frozen_of_heap R42.box
                have T42 : Rn w wr vb b 43 #[.int .i64 x41, .int .i64 x42] s42 (w42.setCell ⟨wr.heap.size, 1, none⟩ (.int .i64 x42)) := R42.set hz2' 1 _
                go_upto_region 41 with fail
                clear cp fp R42
                generalize w42.setCell ⟨wr.heap.size, 1, none⟩ (.int .i64 x42) = u42 at *
                have HL2 : Hid (rMany (qId 1000000 99) (m + 1) s31 = (LP ++ [(x41, x42)], s42)) := by
                  show _ = _
                  rw [HX42.out, HS42.out, HX41.out, HS41.out]
                  exact HLm.out
                obtain ⟨ax, cx, rfl⟩ := rowPr_len hRP
                have BX := T42.off.heap hRN.box (by omega)
                have H3 : RowPr 43 (wo.heap.size + 1) (.slice ax LP.length cx) LP u42 := by
                  obtain ⟨a', _, _, hx'⟩ := hRN.d
                  exact own_off hRP hx' (by decide) T42.off
                have OFF := hRN.off.trans T42.off
                have e3 : u42.cell? ⟨wo.heap.size, 12, none⟩ = some (.slice ax LP.length cx) := Lib.cell_of_heap BX 12
                have e0 : u42.cell? ⟨wr.heap.size, 0, none⟩ = some (.int .i64 x41) := Lib.cell_of_heap T42.box 0
                have e1 : u42.cell? ⟨wr.heap.size, 1, none⟩ = some (.int .i64 x42) := Lib.cell_of_heap T42.box 1
                have hz3 : wo.heap.size + 1 ≤ u42.heap.size := by have := T42.off.size; omega
                clear HLm
                go_wp2_with (first | (at_builtin; refine wpList_append_own _ rfl _ _ 46 rfl (wo.heap.size + 1) 43 iD (.agg #[.int .i64 0, .int .i64 0]) 2 16 Tryz.underlying46 hiD hD0 hD1 hD2 rfl (by decide) _ _ _ rfl (H3.alloc _) ⟨u42.heap.size, 0, none⟩ 1 1 (pcells [(x41, x42)]) rfl rfl ?c1 ?c2 ?c3 ?c4 ?c5 ?_))
                case c1 =>
                  intro j u hj
                  match j, hj with
                  | 0, hj => simp [pcells] at hj; subst hj; simp [Addr.add]
                  | 1, hj => simp [pcells] at hj; subst hj; simp [Addr.add]
                case c2 => intro u hu; simp [pcells] at hu; rcases hu with rfl | rfl <;> rfl
                case c3 => unfold maxLen; omega
                case c4 => omega
                case c5 => simp; omega
                intro v2 w4 hown hgrow _
                obtain ⟨R4, B4⟩ := rowPr_grown (m := [(x41, x42)]) H3 (Below.refl _ u42) hz3 hgrow hown
                obtain ⟨av, cv, hv2⟩ := rowPr_len R4
                rw [List.length_append, List.length_singleton] at hv2
                subst hv2
                have b4 := (B4.block _ (by omega)).trans BX
                have f3 : w4.cell? ⟨wo.heap.size, 12, none⟩ = some (.slice ax LP.length cx) := Lib.cell_of_heap b4 12
                have ff := Lib.frozen_of_heap b4
                have RN5 : Rn w wo vb b 48 #[.int .i64 x21, .int .i64 x22, .int .i64 x23, .string x24, .int .i64 x25, .int .i64 x26, .bool (x27 == 1), .int .i64 x28, .int .i64 x29, .string x30, .int .i64 0, .int .i64 0, .slice av (LP.length + 1) cv] s42 (w4.setCell ⟨wo.heap.size, 12, none⟩ (.slice av (LP.length + 1) cv)) := ⟨(OFF.more (B4.mono (by omega))).setNew (Nat.le_refl _) 12 _, set_at b4 12 _, (T42.d.low B4 (by omega)).off ((Off.refl _ w4).set 12 _) (by omega)⟩
                have RP5 := own_off R4 b4 (by decide) ((Off.refl wo.heap.size w4).set 12 (.slice av (LP.length + 1) cv))
                clear hown hgrow e3 e0 e1 H3 T42 R4 B4 b4 BX OFF hRN hRP FQ
                have hP12 := HP12.out
                go_wp2
                go_roundw
                case rel => exact ⟨m + 1, _, hltm, by go_num, by rw [HL2.out]; exact RN5, by rw [HL2.out]; exact RP5⟩
                case measure => simp [RowKit.intOf]; omega
              · obtain rfl : m = P := by omega
                have g1 : ¬ (m : Int) < m := by omega
                have HPP : Hid (qPairs 1000000 99 s30 = rMany (qId 1000000 99) m s31) := by show _ = _; unfold qPairs; rw [← HX31.out, ← HS31.out, Int.toNat_natCast]
                obtain ⟨LP, t9, HLT⟩ : ∃ L t, Hid (rMany (qId 1000000 99) m s31 = (L, t)) := ⟨_, _, rfl⟩
                rw [HLT.out] at hRN hRP HPP
                dsimp only at hRN hRP
                have HOP : Hid (qOp t0 = (⟨x21, (x22, x23), x24, (x25, x26), x27 == 1, ⟨x28, x29, x30, 0, 0⟩, LP⟩, t9)) := by
                  show _ = _
                  unfold qOp qVal qId
                  dsimp only
                  rw [← HX21.out, ← HS21.out, ← HX22.out, ← HS22.out, ← HX23.out, ← HS23.out, ← HX24.out, ← HS24.out, ← HX25.out, ← HS25.out, ← HX26.out, ← HS26.out, ← HX27.out, ← HS27.out, ← HX28.out, ← HS28.out, ← HX29.out, ← HS29.out, ← HX30.out, ← HS30.out, HPP.out]
                obtain ⟨ap, cp, rfl⟩ := rowPr_len hRP
                obtain ⟨o, HO⟩ : ∃ o : OpM, Hid (o = ⟨x21, (x22, x23), x24, (x25, x26), x27 == 1, ⟨x28, x29, x30, 0, 0⟩, LP⟩) := ⟨_, rfl⟩
                have F3 := hF.off hD hRN.off
                have H3 := F3.ops
                obtain ⟨ax, cx, rfl⟩ := rowO_len H3
                have e3 : wr.cell? ⟨w.heap.size + 2, 4, none⟩ = some (.slice ax l.length cx) := Lib.cell_of_heap F3.box 4
                have q0 : wr.cell? ⟨wo.heap.size, 0, none⟩ = some (.int .i64 x21) := Lib.cell_of_heap hRN.box 0
                have q1 : wr.cell? ⟨wo.heap.size, 1, none⟩ = some (.int .i64 x22) := Lib.cell_of_heap hRN.box 1
                have q2 : wr.cell? ⟨wo.heap.size, 2, none⟩ = some (.int .i64 x23) := Lib.cell_of_heap hRN.box 2
                have q3 : wr.cell? ⟨wo.heap.size, 3, none⟩ = some (.string x24) := Lib.cell_of_heap hRN.box 3
                have q4 : wr.cell? ⟨wo.heap.size, 4, none⟩ = some (.int .i64 x25) := Lib.cell_of_heap hRN.box 4
                have q5 : wr.cell? ⟨wo.heap.size, 5, none⟩ = some (.int .i64 x26) := Lib.cell_of_heap hRN.box 5
                have q6 : wr.cell? ⟨wo.heap.size, 6, none⟩ = some (.bool (x27 == 1)) := Lib.cell_of_heap hRN.box 6
                have q7 : wr.cell? ⟨wo.heap.size, 7, none⟩ = some (.int .i64 x28) := Lib.cell_of_heap hRN.box 7
                have q8 : wr.cell? ⟨wo.heap.size, 8, none⟩ = some (.int .i64 x29) := Lib.cell_of_heap hRN.box 8
                have q9 : wr.cell? ⟨wo.heap.size, 9, none⟩ = some (.string x30) := Lib.cell_of_heap hRN.box 9
                have q10 : wr.cell? ⟨wo.heap.size, 10, none⟩ = some (.int .i64 0) := Lib.cell_of_heap hRN.box 10
                have q11 : wr.cell? ⟨wo.heap.size, 11, none⟩ = some (.int .i64 0) := Lib.cell_of_heap hRN.box 11
                have q12 : wr.cell? ⟨wo.heap.size, 12, none⟩ = some (.slice ap LP.length cp) := Lib.cell_of_heap hRN.box 12
                have hz3 := F3.size
                have P4 : RowPr 43 (w.heap.size + 3) (.slice ap LP.length cp) LP wr := own_mono hRP (by have := hF.size; omega)
                clear HLT
                go_wp2_with (first | (at_builtin; refine wpList_append_own _ rfl _ _ 24 rfl (w.heap.size + 3) 48 iO (.agg #[.int .i64 0, .int .i64 0, .int .i64 0, .string .empty, .int .i64 0, .int .i64 0, .bool false, .int .i64 0, .int .i64 0, .string .empty, .int .i64 0, .int .i64 0, .slice none 0 0]) 13 136 Tryz.underlying24 hiO hO0 hO1 hO2 rfl (by decide) _ _ _ rfl (H3.alloc _) ⟨wr.heap.size, 0, none⟩ 1 1 (ocells [(⟨x21, (x22, x23), x24, (x25, x26), x27 == 1, ⟨x28, x29, x30, 0, 0⟩, LP⟩, .slice ap LP.length cp)]) rfl rfl ?c1 ?c2 ?c3 ?c4 ?c5 ?_))
                case c1 =>
                  intro j u hj
                  have hb : (wr.alloc (.cells #[.int .i64 x21, .int .i64 x22, .int .i64 x23, .string x24, .int .i64 x25, .int .i64 x26, .bool (x27 == 1), .int .i64 x28, .int .i64 x29, .string x30, .int .i64 0, .int .i64 0, .slice ap LP.length cp] 48)).heap[wr.heap.size]? = some (.cells #[.int .i64 x21, .int .i64 x22, .int .i64 x23, .string x24, .int .i64 x25, .int .i64 x26, .bool (x27 == 1), .int .i64 x28, .int .i64 x29, .string x30, .int .i64 0, .int .i64 0, .slice ap LP.length cp] 48) := (MapKept.heap_alloc wr _).1
                  have e : ocells [(⟨x21, (x22, x23), x24, (x25, x26), x27 == 1, ⟨x28, x29, x30, 0, 0⟩, LP⟩, .slice ap LP.length cp)] = [.int .i64 x21, .int .i64 x22, .int .i64 x23, .string x24, .int .i64 x25, .int .i64 x26, .bool (x27 == 1), .int .i64 x28, .int .i64 x29, .string x30, .int .i64 0, .int .i64 0, .slice ap LP.length cp] := by simp [ocells, opCells]
                  rw [e] at hj
                  first | exact hj | (rw [row_at, Lib.cell_of_heap hb, List.getElem?_toArray]; exact hj)
                case c2 =>
                  intro u hu
                  have e : ocells [(⟨x21, (x22, x23), x24, (x25, x26), x27 == 1, ⟨x28, x29, x30, 0, 0⟩, LP⟩, .slice ap LP.length cp)] = [.int .i64 x21, .int .i64 x22, .int .i64 x23, .string x24, .int .i64 x25, .int .i64 x26, .bool (x27 == 1), .int .i64 x28, .int .i64 x29, .string x30, .int .i64 0, .int .i64 0, .slice ap LP.length cp] := by simp [ocells, opCells]
                  rw [e] at hu
                  simp only [List.mem_cons, List.not_mem_nil, or_false] at hu
                  rcases hu with rfl | rfl | rfl | rfl | rfl | rfl | rfl | rfl | rfl | rfl | rfl | rfl | rfl <;> rfl
                case c3 => unfold maxLen; omega
                case c4 => omega
                case c5 => first | omega | (simp; omega)
                intro v2 w4 hown hgrow _
                obtain ⟨R4, B4⟩ := rowO_grown (m := [(⟨x21, (x22, x23), x24, (x25, x26), x27 == 1, ⟨x28, x29, x30, 0, 0⟩, LP⟩, .slice ap LP.length cp)]) H3 (Below.refl _ wr) hz3 hgrow hown
                obtain ⟨av, cv, hv2⟩ := rowO_len R4
                rw [List.length_append, List.length_singleton] at hv2
                subst hv2
                have b4 := (B4.block _ (by omega)).trans F3.box
                have f3 : w4.cell? ⟨w.heap.size + 2, 4, none⟩ = some (.slice ax l.length cx) := Lib.cell_of_heap b4 4
                have ff := Lib.frozen_of_heap b4
                have F5 := F3.setO hgrow R4 P4
                have D5 := (hRN.d.low B4 (by omega)).setC 4 (.slice av (l.length + 1) cv)
                have HR5 : Hid (rMany qOp (j + 1) s5 = (LO ++ [⟨x21, (x22, x23), x24, (x25, x26), x27 == 1, ⟨x28, x29, x30, 0, 0⟩, LP⟩], t9)) := by show _ = _; rw [HL.out, HOP.out]
                have HM5 : Hid ((l ++ [((⟨x21, (x22, x23), x24, (x25, x26), x27 == 1, ⟨x28, x29, x30, 0, 0⟩, LP⟩ : OpM), (.slice ap LP.length cp : Value))]).map (·.1) = (rMany qOp (j + 1) s5).1) := by show _ = _; rw [HR5.out, List.map_append, HL1.out]; rfl
                clear hown hgrow e3 F3 H3 R4 B4 b4 hRN hRP P4 HO
                have hM40 := HM40.out
                go_wp2
                go_roundw
                case rel =>
                  have R0 : ∀ v : Value, v = Value.int .i64 ((j + 1 : Nat) : Int) → ∃ (j' : Nat) (uo : Value) (l' : List OV), j' ≤ M ∧ v = .int .i64 (j' : Int) ∧ l'.map (·.1) = (rMany qOp j' s5).1 ∧ Fr w x1 x2 x3 ud LD uo l' (w4.setCell ⟨w.heap.size + 2, 4, none⟩ (.slice av (l.length + 1) cv)) ∧ DAt (w.heap.size + 1) vb b (rMany qOp j' s5).2 (w4.setCell ⟨w.heap.size + 2, 4, none⟩ (.slice av (l.length + 1) cv)) := fun v hv => ⟨j + 1, _, _, hlt, hv, HM5.out, F5, by rw [HR5.out]; exact D5⟩
                  have R1 := R0 (.int .i64 ((j : Int) + 1)) rfl
                  have R2 := R0 (.int .i64 (wrap64 ((j : Int) + 1))) (by rw [wrap_one j (Nat.lt_of_lt_of_le hlt (Int.toNat_le_toNat HM40.out.1))])
                  (repeat (first | exact R1 | exact R2 | exact ⟨R1, rfl⟩ | exact ⟨R2, rfl⟩ | apply Exists.intro))
                case measure => first | exact meas_lt M j hlt | (rw [wrap_one j (Nat.lt_of_lt_of_le hlt (Int.toNat_le_toNat HM40.out.1))]; exact meas_lt M j hlt)
        · obtain rfl : j = M := by omega
          have g1 : ¬ (j : Int) < j := by omega
          have HOPS : Hid (qOps t5 = rMany qOp j s5) := by show _ = _; unfold qOps; rw [← HX5.out, ← HS5.out, Int.toNat_natCast]
          have HALLO : Hid (∀ o ∈ l.map (·.1), OpNums o ∧ o.preds.length ≤ 12 ∧ ∀ q ∈ o.preds, I64 q.1 ∧ I64 q.2) := by rw [hl1]; exact qMany_ops _ _
          have HLL : Hid (l.length ≤ 40) := by
            have h1 := congrArg List.length hl1
            rw [List.length_map, rMany_len] at h1
            have h2 := HM40.out
            show _ ≤ _
            omega
          obtain ⟨LO, sE, HLT⟩ : ∃ L t, Hid (rMany qOp j s5 = (L, t)) := ⟨_, _, rfl⟩
          rw [HLT.out] at hD hl1 HOPS
          dsimp only at hD hl1
          have HQ : Hid (qChg (some b) = (⟨x1, x2, x3, LD, l.map (·.1)⟩, sE)) := by
            show _ = _
            unfold qChg
            dsimp only
            rw [← HX1.out, ← HS1.out, ← HX2.out, ← HS2.out, ← HX3.out, ← HS3.out, HDP.out, HOPS.out, hl1]
          have HI3 : Hid (I64 x1 ∧ I64 x2 ∧ I64 x3) := ⟨by rw [HX1.out]; exact rCnt_i64 99 (by decide) (by decide) _, by rw [HX2.out]; exact rCnt_i64 1000000 (by decide) (by decide) _, by rw [HX3.out]; exact rCnt_i64 1000000 (by decide) (by decide) _⟩
          rw [HQ.out] at HQD
          have HFR : Hid (Fr w x1 x2 x3 ud LD uo l wr) := hF
          obtain ⟨ad, cd, rfl⟩ := rowPr_len hF.deps
          obtain ⟨ao, co, rfl⟩ := rowO_len hF.ops
          obtain ⟨a, ha, hs, hx⟩ := id hD
          have HBL : Hid (Below w.heap.size w wr) := hF.bel
          have HRS : Hid _ := hF.res
          have HCB : Hid _ := hF.box
          clear hF hD hl1 HOPS HLT hj hlt hz1 hl
          rcases hs with rfl | rfl
          · have r2 : wr.cell? ⟨w.heap.size + 1, 2, none⟩ = some (.bool true) := Lib.cell_of_heap hx 2
            have HNN : Hid (qDec b = none) := HQD.out
            have hrs := HRS.out
            have BB := HBL.out
            clear hx ha HQD
            have c0 : wr.cell? ⟨w.heap.size, 0, none⟩ = some (.int .i64 0) := Lib.cell_of_heap hrs 0
            have c1 : wr.cell? ⟨w.heap.size, 1, none⟩ = some (.int .i64 0) := Lib.cell_of_heap hrs 1
            have c2 : wr.cell? ⟨w.heap.size, 2, none⟩ = some (.int .i64 0) := Lib.cell_of_heap hrs 2
            have c3 : wr.cell? ⟨w.heap.size, 3, none⟩ = some (.slice none 0 0) := Lib.cell_of_heap hrs 3
            have c4 : wr.cell? ⟨w.heap.size, 4, none⟩ = some (.slice none 0 0) := Lib.cell_of_heap hrs 4
            have cf := Lib.frozen_of_heap hrs
            go_wp2
            have hF2 := heap_all [.int .i64 0, .int .i64 0, .int .i64 0, .slice none 0 0, .slice none 0 0] wr _ hrs rfl
            have OS := (Off.refl w.heap.size wr).setsAt [.int .i64 0, .int .i64 0, .int .i64 0, .slice none 0 0, .slice none 0 0] 0
            simp only [List.zipIdx_cons, List.zipIdx_nil, List.foldl_cons, List.foldl_nil, Nat.zero_add, Nat.reduceAdd] at hF2 OS
            have BF := BB.trans (OS.below (Nat.le_refl _) BB.size)
            clear c0 c1 c2 c3 c4 cf
            generalize (((((wr.setCell ⟨w.heap.size, 0, none⟩ (.int .i64 0)).setCell ⟨w.heap.size, 1, none⟩ (.int .i64 0)).setCell ⟨w.heap.size, 2, none⟩ (.int .i64 0)).setCell ⟨w.heap.size, 3, none⟩ (.slice none 0 0)).setCell ⟨w.heap.size, 4, none⟩ (.slice none 0 0)) = V at *
            have q0 : V.cell? ⟨w.heap.size, 0, none⟩ = some (.int .i64 0) := Lib.cell_of_heap hF2 0
            have q1 : V.cell? ⟨w.heap.size, 1, none⟩ = some (.int .i64 0) := Lib.cell_of_heap hF2 1
            have q2 : V.cell? ⟨w.heap.size, 2, none⟩ = some (.int .i64 0) := Lib.cell_of_heap hF2 2
            have q3 : V.cell? ⟨w.heap.size, 3, none⟩ = some (.slice none 0 0) := Lib.cell_of_heap hF2 3
            have q4 : V.cell? ⟨w.heap.size, 4, none⟩ = some (.slice none 0 0) := Lib.cell_of_heap hF2 4
            exact bodyPost_ret (v := .tuple #[.agg #[.int .i64 0, .int .i64 0, .int .i64 0, .slice none 0 0, .slice none 0 0], .int .i64 0, .bool false]) (by simp [results, Tryz.results4, go_sem, q0, q1, q2, q3, q4]) rfl ⟨Or.inr ⟨HNN.out, rfl⟩, BF⟩
          · have hx' : wr.heap[w.heap.size + 1]? = some (.cells #[vb, .int .i64 a, .bool false] 38) := hx
            have r2 : wr.cell? ⟨w.heap.size + 1, 2, none⟩ = some (.bool false) := Lib.cell_of_heap hx' 2
            have e0 : wr.cell? ⟨w.heap.size + 2, 0, none⟩ = some (.int .i64 x1) := Lib.cell_of_heap HCB.out 0
            have e1 : wr.cell? ⟨w.heap.size + 2, 1, none⟩ = some (.int .i64 x2) := Lib.cell_of_heap HCB.out 1
            have e2 : wr.cell? ⟨w.heap.size + 2, 2, none⟩ = some (.int .i64 x3) := Lib.cell_of_heap HCB.out 2
            have e3 : wr.cell? ⟨w.heap.size + 2, 3, none⟩ = some (.slice ad LD.length cd) := Lib.cell_of_heap HCB.out 3
            have e4 : wr.cell? ⟨w.heap.size + 2, 4, none⟩ = some (.slice ao l.length co) := Lib.cell_of_heap HCB.out 4
            have K := rChange_any _ _ wr (HFR.out.chg (Off.refl 0 wr) (by omega) HI3.out.1 HI3.out.2.1 HI3.out.2.2 HLD.out HLL.out HALLO.out)
            have HXX : Hid _ := hx'
            have HAA : Hid (a ≤ b.length) := ha
            clear hx hx' ha
            go_wp2_with fail
            go_fit K
            rintro e w3 ⟨⟨xr, rfl, hx0⟩, b3⟩
            have hrs := heap_below HRS.out b3 (Nat.le_refl _)
            have hbc := heap_below HCB.out b3 (Nat.le_refl _)
            have hbd := heap_below HXX.out b3 (Nat.le_refl _)
            have BB : Below w.heap.size w w3 := HBL.out.trans (b3.mono HBL.out.size)
            have HO3 : Hid (Off w.heap.size wr w3) := Off.of b3
            clear K b3 r2 e0 e1 e2 e3 e4
            by_cases h0 : chk ⟨x1, x2, x3, LD, l.map (·.1)⟩ = 0
            · obtain rfl : xr = 0 := hx0.2 h0
              have HNN : Hid (qDec b = some (⟨x1, x2, x3, LD, l.map (·.1)⟩, a)) := by
                show _ = _
                rw [HQD.out]
                rw [if_pos h0, List.length_drop, Nat.sub_sub_self HAA.out]
              clear h0 hx0 HQD
              have c0 : w3.cell? ⟨w.heap.size, 0, none⟩ = some (.int .i64 0) := Lib.cell_of_heap hrs 0
              have c1 : w3.cell? ⟨w.heap.size, 1, none⟩ = some (.int .i64 0) := Lib.cell_of_heap hrs 1
              have c2 : w3.cell? ⟨w.heap.size, 2, none⟩ = some (.int .i64 0) := Lib.cell_of_heap hrs 2
              have c3 : w3.cell? ⟨w.heap.size, 3, none⟩ = some (.slice none 0 0) := Lib.cell_of_heap hrs 3
              have c4 : w3.cell? ⟨w.heap.size, 4, none⟩ = some (.slice none 0 0) := Lib.cell_of_heap hrs 4
              have cf := Lib.frozen_of_heap hrs
              have d0 : w3.cell? ⟨w.heap.size + 2, 0, none⟩ = some (.int .i64 x1) := Lib.cell_of_heap hbc 0
              have d1 : w3.cell? ⟨w.heap.size + 2, 1, none⟩ = some (.int .i64 x2) := Lib.cell_of_heap hbc 1
              have d2 : w3.cell? ⟨w.heap.size + 2, 2, none⟩ = some (.int .i64 x3) := Lib.cell_of_heap hbc 2
              have d3 : w3.cell? ⟨w.heap.size + 2, 3, none⟩ = some (.slice ad LD.length cd) := Lib.cell_of_heap hbc 3
              have d4 : w3.cell? ⟨w.heap.size + 2, 4, none⟩ = some (.slice ao l.length co) := Lib.cell_of_heap hbc 4
              have r1 : w3.cell? ⟨w.heap.size + 1, 1, none⟩ = some (.int .i64 (a : Int)) := Lib.cell_of_heap hbd 1
              go_wp2
              go_region
              all_goals
                go_wp2
                have hF2 := heap_all [.int .i64 x1, .int .i64 x2, .int .i64 x3, .slice ad LD.length cd, .slice ao l.length co] w3 _ hrs rfl
                have OS := (Off.refl w.heap.size w3).setsAt [.int .i64 x1, .int .i64 x2, .int .i64 x3, .slice ad LD.length cd, .slice ao l.length co] 0
                simp only [List.zipIdx_cons, List.zipIdx_nil, List.foldl_cons, List.foldl_nil, Nat.zero_add, Nat.reduceAdd] at hF2 OS
                have BF := (BB.trans (OS.below (Nat.le_refl _) BB.size)).drew
                have IC := HFR.out.chg (HO3.out.trans OS).drew (by omega) HI3.out.1 HI3.out.2.1 HI3.out.2.2 HLD.out HLL.out HALLO.out
                clear c0 c1 c2 c3 c4 cf
                generalize (((((w3.setCell ⟨w.heap.size, 0, none⟩ (.int .i64 x1)).setCell ⟨w.heap.size, 1, none⟩ (.int .i64 x2)).setCell ⟨w.heap.size, 2, none⟩ (.int .i64 x3)).setCell ⟨w.heap.size, 3, none⟩ (.slice ad LD.length cd)).setCell ⟨w.heap.size, 4, none⟩ (.slice ao l.length co)) = V at *
                have q0 : V.drew.cell? ⟨w.heap.size, 0, none⟩ = some (.int .i64 x1) := Lib.cell_of_heap (w := V.drew) hF2 0
                have q1 : V.drew.cell? ⟨w.heap.size, 1, none⟩ = some (.int .i64 x2) := Lib.cell_of_heap (w := V.drew) hF2 1
                have q2 : V.drew.cell? ⟨w.heap.size, 2, none⟩ = some (.int .i64 x3) := Lib.cell_of_heap (w := V.drew) hF2 2
                have q3 : V.drew.cell? ⟨w.heap.size, 3, none⟩ = some (.slice ad LD.length cd) := Lib.cell_of_heap (w := V.drew) hF2 3
                have q4 : V.drew.cell? ⟨w.heap.size, 4, none⟩ = some (.slice ao l.length co) := Lib.cell_of_heap (w := V.drew) hF2 4
                generalize V.drew = V2 at *
                exact bodyPost_ret (v := .tuple #[.agg #[.int .i64 x1, .int .i64 x2, .int .i64 x3, .slice ad LD.length cd, .slice ao l.length co], .int .i64 (a : Int), .bool true]) (by simp [results, Tryz.results4, go_sem, q0, q1, q2, q3, q4]) rfl ⟨Or.inl ⟨_, a, _, HNN.out, rfl, IC⟩, BF⟩
            · have hxr : ¬ xr = 0 := fun e => h0 (hx0.1 e)
              have HNN : Hid (qDec b = none) := by
                show _ = _
                rw [HQD.out]
                rw [if_neg h0]
              clear h0 hx0 HQD hbc hbd
              have c0 : w3.cell? ⟨w.heap.size, 0, none⟩ = some (.int .i64 0) := Lib.cell_of_heap hrs 0
              have c1 : w3.cell? ⟨w.heap.size, 1, none⟩ = some (.int .i64 0) := Lib.cell_of_heap hrs 1
              have c2 : w3.cell? ⟨w.heap.size, 2, none⟩ = some (.int .i64 0) := Lib.cell_of_heap hrs 2
              have c3 : w3.cell? ⟨w.heap.size, 3, none⟩ = some (.slice none 0 0) := Lib.cell_of_heap hrs 3
              have c4 : w3.cell? ⟨w.heap.size, 4, none⟩ = some (.slice none 0 0) := Lib.cell_of_heap hrs 4
              have cf := Lib.frozen_of_heap hrs
              go_wp2
              have hF2 := heap_all [.int .i64 0, .int .i64 0, .int .i64 0, .slice none 0 0, .slice none 0 0] w3 _ hrs rfl
              have OS := (Off.refl w.heap.size w3).setsAt [.int .i64 0, .int .i64 0, .int .i64 0, .slice none 0 0, .slice none 0 0] 0
              simp only [List.zipIdx_cons, List.zipIdx_nil, List.foldl_cons, List.foldl_nil, Nat.zero_add, Nat.reduceAdd] at hF2 OS
              have BF := BB.trans (OS.below (Nat.le_refl _) BB.size)
              clear c0 c1 c2 c3 c4 cf
              generalize (((((w3.setCell ⟨w.heap.size, 0, none⟩ (.int .i64 0)).setCell ⟨w.heap.size, 1, none⟩ (.int .i64 0)).setCell ⟨w.heap.size, 2, none⟩ (.int .i64 0)).setCell ⟨w.heap.size, 3, none⟩ (.slice none 0 0)).setCell ⟨w.heap.size, 4, none⟩ (.slice none 0 0)) = V at *
              have q0 : V.cell? ⟨w.heap.size, 0, none⟩ = some (.int .i64 0) := Lib.cell_of_heap hF2 0
              have q1 : V.cell? ⟨w.heap.size, 1, none⟩ = some (.int .i64 0) := Lib.cell_of_heap hF2 1
              have q2 : V.cell? ⟨w.heap.size, 2, none⟩ = some (.int .i64 0) := Lib.cell_of_heap hF2 2
              have q3 : V.cell? ⟨w.heap.size, 3, none⟩ = some (.slice none 0 0) := Lib.cell_of_heap hF2 3
              have q4 : V.cell? ⟨w.heap.size, 4, none⟩ = some (.slice none 0 0) := Lib.cell_of_heap hF2 4
              exact bodyPost_ret (v := .tuple #[.agg #[.int .i64 0, .int .i64 0, .int .i64 0, .slice none 0 0, .slice none 0 0], .int .i64 0, .bool false]) (by simp [results, Tryz.results4, go_sem, q0, q1, q2, q3, q4]) rfl ⟨Or.inr ⟨HNN.out, rfl⟩, BF⟩
end Go.Proofs.YtgecgemfniiciaaGreatDoor
