/-
  What is proved: the law TreeWork of booklaw2, called with any three numbers, returns true, and nothing that was there has turned.
  Conditions: none.
-/
import Derived.Test.YtaelloedamholaaTWork
import Derived.Test.YtaelloedamholaaTSums
namespace Go.Proofs.Ytaelloedamholaa
open Go.RowKit

/-- How much a call may look at. -/
theorem cost_table : ∀ h, h < 17 → ∀ D, D < 12 → few h < 2 ^ D → 18 * h + 16 ≤ 40 + 30 * D := by decide

theorem cost_le {h n D : Nat} (h1 : few h ≤ n) (h2 : n ≤ 2000) (h3 : n < 2 ^ D) : 18 * h + 16 ≤ 40 + 30 * D := by
  have hh : h < 17 := by
    rcases Nat.lt_or_ge h 17 with e | e
    · exact e
    · have := few_mono e
      have e17 : few 17 = 4180 := by decide
      omega
  rcases Nat.lt_or_ge D 12 with e | e
  · exact cost_table h hh D e (Nat.lt_of_le_of_lt h1 h3)
  · omega

theorem meas_lt (M j : Nat) (h : j < M) : M - (RowKit.intOf (.int .i64 ((j : Int) + 1))).toNat < M - (RowKit.intOf (.int .i64 (j : Int))).toNat := by
  simp only [RowKit.intOf]
  omega

theorem shr_pos (j E : Nat) : 0 < ((j : Int) + 1) / 2 ^ E ↔ 2 ^ E ≤ j + 1 := by
  rw [show ((j : Int) + 1) / 2 ^ E = (((j + 1) / 2 ^ E : Nat) : Int) from by rw [Int.natCast_ediv]; simp]
  rw [Int.natCast_pos, Nat.div_pos_iff]
  exact ⟨fun h => h.2, fun h => ⟨Nat.pow_pos (by decide), h⟩⟩

theorem pow_small {E : Nat} (h : E ≤ 11) (h2 : 2 ^ E ≤ 2000) : E + 1 ≤ 11 := by
  rcases Nat.lt_or_ge E 11 with e | e
  · exact e
  · obtain rfl : E = 11 := by omega
    exact absurd h2 (by decide)

theorem wide_ones (t : (Deep.BT Int)) (h : ∀ q ∈ t.items, q.2 = 1) : t.wide = (t.many : Int) := by
  induction t with
  | nil => rfl
  | node b x u l r il ir =>
    have h1 := il (fun q hq => h q (by simp [Deep.BT.items, hq]))
    have h2 := ir (fun q hq => h q (by simp [Deep.BT.items, hq]))
    have h3 : u = 1 := h (th x, u) (by simp [Deep.BT.items])
    simp only [Deep.BT.wide, Deep.BT.many]
    omega

theorem find_le (t : (Deep.BT Int)) (a : Nat) (lo g k : Nat) (w : World) (hk : k + 2 * t.high ≤ 4611686018427382000) (h : IsRow w lo g t k) :
    Calls Try.prog 11 #[.pointer (some ⟨g, 0, none⟩), .int .i64 (a : Int)] w fun e w' => (∃ x y z, e = .returned (.tuple #[x, y, z])) ∧ (∃ k', IsRow w' lo g t k' ∧ k' ≤ k + 2 * t.high) ∧ Below lo w w' := by
  by_cases h1 : (a : Int) < t.wide
  · refine (find_ok t a lo g k w hk h (by omega) h1).mono ?_
    rintro e w' ⟨rfl, h2, h3⟩
    exact ⟨⟨_, _, _, rfl⟩, h2, h3⟩
  · refine (find_end t a (by omega) (by omega) lo g k w h).mono ?_
    rintro e w' ⟨rfl, h2, h3⟩
    exact ⟨⟨_, _, _, rfl⟩, ⟨k, h2, by omega⟩, h3⟩

theorem get_le (t : (Deep.BT Int)) (a : Nat) (ha : a ≤ t.many) (lo g k : Nat) (w : World) (hk : k + 2 * t.high ≤ 4611686018427382000) (h : IsRow w lo g t k) :
    Calls Try.prog 12 #[.pointer (some ⟨g, 0, none⟩), .int .i64 (a : Int)] w fun e w' => (∃ x y z, e = .returned (.tuple #[x, y, z])) ∧ (∃ k', IsRow w' lo g t k' ∧ k' ≤ k + 2 * t.high) ∧ Below lo w w' := by
  rcases Nat.lt_or_ge a t.many with h1 | h1
  · refine (get_ok t a lo g k w hk h h1).mono ?_
    rintro e w' ⟨rfl, h2, h3⟩
    exact ⟨⟨_, _, _, rfl⟩, h2, h3⟩
  · obtain rfl : a = t.many := by omega
    refine (get_end t lo g k w h).mono ?_
    rintro e w' ⟨rfl, h2, h3⟩
    exact ⟨⟨_, _, _, rfl⟩, ⟨k, h2, by omega⟩, h3⟩

theorem remove_le (t : (Deep.BT Int)) (a : Nat) (ha : a ≤ t.many) (lo g k : Nat) (w : World) (hk : k + 18 * t.high ≤ 4611686018427382000) (h : IsRow w lo g t k) :
    Calls Try.prog 13 #[.pointer (some ⟨g, 0, none⟩), .int .i64 (a : Int)] w fun e w' => (∃ x y z, e = .returned (.tuple #[x, y, z])) ∧ (∃ t' k', IsRow w' lo g t' k' ∧ k' ≤ k + 18 * t.high) ∧ Below lo w w' := by
  rcases Nat.lt_or_ge a t.many with h1 | h1
  · refine (removeR_ok t a lo g k w hk h h1).mono ?_
    rintro e w' ⟨rfl, ⟨k', h2, h4⟩, h3⟩
    exact ⟨⟨_, _, _, rfl⟩, ⟨_, k', h2, h4⟩, h3⟩
  · obtain rfl : a = t.many := by omega
    refine (remove_end t lo g k w h).mono ?_
    rintro e w' ⟨rfl, h2, h3⟩
    exact ⟨⟨_, _, _, rfl⟩, ⟨_, k, h2, by omega⟩, h3⟩

set_option maxRecDepth 100000 in
set_option maxHeartbeats 16000000 in
theorem twork_any (n b1 a2 : Int) (w : World) : Calls Try.prog 3 #[.int .i64 n, .int .i64 b1, .int .i64 a2] w fun e w' => e = .returned (.bool true) ∧ Below w.heap.size w w' := by
  by_cases h0 : n < 0
  · have hd : decide (n < 0) = true := by rw [decide_eq_true_eq]; exact h0
    go_enter Try.func3, Try.ntmps3
    go_wp2
    go_ret
    exact ⟨rfl, Below.refl _ _⟩
  · by_cases h1 : 2000 < n
    · go_enter Try.func3, Try.ntmps3
      go_wp2
      go_ret
      exact ⟨rfl, Below.refl _ _⟩
    · obtain ⟨N, rfl⟩ : ∃ N : Nat, n = (N : Int) := ⟨n.toNat, by omega⟩
      have HN : Hid (N ≤ 2000) := by show _ ≤ _; omega
      go_enter Try.func3, Try.ntmps3
      go_wp2_with fail
      clear h0 h1
      go_fit (new_any w)
      rintro e w1 ⟨rfl, I1, b1'⟩
      have E1 : Calls Try.prog 6 #[.pointer (some ⟨w.heap.size, 0, none⟩), .int .i64 0, .int .i64 7, .int .i64 3] w1 _ := insertR_ok .nil 0 7 3 _ _ 0 w1 (by simp [Deep.BT.high]) I1 (Nat.zero_le _) (by omega) (by simp [Deep.BT.many])
      clear I1
      go_wp2_with fail
      go_fit E1
      rintro e w2 ⟨rfl, ⟨b, k2, I2, hk2⟩, b2⟩
      rw [show insT b 7 3 .nil 0 = .node b (cd 7) 3 .nil .nil from by simp [insT, level, Deep.BT.high]] at I2
      have E2 := wide_any (.node b (cd 7) 3 .nil .nil) _ k2 w2 I2.at_ I2.row
      rw [show (Deep.BT.node b (cd 7) 3 .nil .nil).wide = 3 from by simp [Deep.BT.wide]] at E2
      have B2 : Below w.heap.size w w2 := b1'.trans b2
      clear E1 I2 hk2 b2 b1'
      go_wp2_with fail
      go_fit E2
      rintro e w3 ⟨rfl, b3⟩
      have B3 : Below w.heap.size w w3 := B2.trans (b3.mono B2.size)
      clear E2 b3 B2
      go_wp2_with fail
      go_fit (new_any w3)
      rintro e w4 ⟨rfl, I4, b4⟩
      have B4 : Below w.heap.size w w4 := B3.trans (b4.mono B3.size)
      have HLO : Hid (w.heap.size ≤ w3.heap.size) := B3.size
      clear b4 B3
      go_wp2_with fail
      go_loopw [11, 12] (fun d i wr => ∃ (j D : Nat) (t : (Deep.BT Int)), j ≤ N ∧ D ≤ 11 ∧ j < 2 ^ D ∧ d = .int .i64 (D : Int) ∧ i = .int .i64 (j : Int) ∧ IsRow wr w3.heap.size w3.heap.size t 0 ∧ t.many = j ∧ t.bal ∧ (∀ q ∈ t.items, q.2 = 1) ∧ Below w.heap.size w wr) (fun _ i _ => N - (RowKit.intOf i).toNat)
      case atStart => exact ⟨0, 0, .nil, Nat.zero_le _, by omega, by decide, rfl, rfl, I4, rfl, trivial, by simp [Deep.BT.items], B4⟩
      case round =>
        clear I4 B4
        obtain ⟨j, D, t, hj, hD, hjD, rfl, rfl, hI, htm, hbal, hone, hB⟩ := hrel
        by_cases hlt : j < N
        · have g1 : (j : Int) < N := by omega
          have HJ : Hid (j < N ∧ j < 2 ^ D ∧ t.many = j ∧ t.bal ∧ (∀ q ∈ t.items, q.2 = 1)) := ⟨hlt, hjD, htm, hbal, hone⟩
          have hwj : wrap64 ((j : Int) + 1) = (j : Int) + 1 := by have := HN.out; unfold wrap64; omega
          clear hjD htm hbal hone hj hlt
          go_wp2_with fail
          go_loopw [11] (fun d wx => ∃ D : Nat, D ≤ 11 ∧ d = .int .i64 (D : Int) ∧ IsRow wx w3.heap.size w3.heap.size t 0 ∧ Below w.heap.size w wx) (fun d _ => 12 - (RowKit.intOf d).toNat)
          case atStart => exact ⟨D, hD, rfl, hI, hB⟩
          case round =>
            clear hD hI hB
            obtain ⟨E, hE, rfl, hI, hB⟩ := hrel
            have g2 : (E : Int) < 64 := by omega
            have hsh := shr_pos j E
            by_cases hp : 2 ^ E ≤ j + 1
            · have g3 : 0 < ((j : Int) + 1) / 2 ^ E := hsh.2 hp
              have HE1 : Hid (E + 1 ≤ 11) := pow_small hE (by have := HN.out; have := HJ.out; omega)
              have HII : Hid (_ ∧ _) := ⟨hI, hB⟩
              clear hsh hp hE hI hB
              go_wp2
              go_roundw
              case rel => exact ⟨E + 1, HE1.out, by go_num, HII.out.1, HII.out.2⟩
              case measure => exact meas_lt 12 E (Nat.lt_of_lt_of_le (Nat.lt_of_succ_le HE1.out) (by decide))
            · have g3 : ¬ 0 < ((j : Int) + 1) / 2 ^ E := fun e => hp (hsh.1 e)
              have HE1 : Hid (E ≤ 11 ∧ j + 1 < 2 ^ E ∧ 18 * t.high + 16 ≤ 40 + 30 * E) := ⟨hE, by omega, by
                have h1 := bal_few t HJ.out.2.2.2.1
                rw [HJ.out.2.2.1] at h1
                exact cost_le h1 (by have := HN.out; have := HJ.out; omega) (by omega)⟩
              have EP := pick_any (wrap64 ((j : Int) * b1.tmod 1000)) ((j : Int) + 1) wr (by omega) (by have := HN.out; have := HJ.out; omega)
              have HII : Hid (IsRow wr w3.heap.size w3.heap.size t 0 ∧ Below w.heap.size w wr) := ⟨hI, hB⟩
              clear hsh hp hE hI hB
              go_wp2_with fail
              go_fit EP
              rintro e w5 ⟨⟨r, hr, rfl⟩, rfl⟩
              have EI := insertR_ok t r (j : Int) 1 _ _ 0 w5 (by have := HE1.out; have := HJ.out; have := HN.out; omega) HII.out.1 (by have := HJ.out; omega) (by omega) (by have := HJ.out; have := HN.out; omega)
              have HRR : Hid (r ≤ j) := by show _ ≤ _; omega
              clear EP hr
              go_wp2_with fail
              go_fit EI
              rintro e w6 ⟨rfl, ⟨b6, k6, I6, hk6⟩, bb6⟩
              have EW := work_any _ _ _ k6 w6 I6
              have HK6 : Hid (k6 ≤ 0 + 18 * t.high + 16 ∧ Below w3.heap.size w5 w6) := ⟨hk6, bb6⟩
              have g4 : ¬ (40 : Int) + 30 * E < k6 := by have := HE1.out; omega
              have y1 : wrap64 (30 * (E : Int)) = 30 * E := by unfold wrap64; have := HE1.out; omega
              have y2 : wrap64 (40 + 30 * (E : Int)) = 40 + 30 * E := by unfold wrap64; have := HE1.out; omega
              clear EI I6 hk6 bb6
              go_wp2_with fail
              go_fit EW
              rintro e w7 ⟨rfl, I7, bb7⟩
              have HF : Hid (IsRow w7 w3.heap.size w3.heap.size (insT b6 (j : Int) 1 t r) 0 ∧ Below w.heap.size w w7) := ⟨I7, (HII.out.2.trans (HK6.out.2.mono HLO.out)).trans (bb7.mono HLO.out)⟩
              clear EW I7 bb7
              go_wp2
              go_roundw
              case rel =>
                have h1 := HJ.out
                have h2 := HE1.out
                refine ⟨j + 1, E, _, by omega, h2.1, h2.2.1, rfl, by rw [hwj]; rfl, HF.out.1, ?_, (ins_bal b6 (j : Int) 1 t r h1.2.2.2.1).1, fun q hq => ?_, HF.out.2⟩
                · rw [many_ins _ _ _ _ _ (by have := HRR.out; omega), h1.2.2.1]
                · rcases (mem_ins b6 (j : Int) 1 t r (by have := HRR.out; omega) q).1 hq with h | h
                  · rw [h]
                  · exact h1.2.2.2.2 q h
              case measure => rw [hwj]; exact meas_lt N j HJ.out.1
        · obtain rfl : j = N := by omega
          have g1 : ¬ (j : Int) < j := by omega
          have HC : Hid (18 * t.high + 16 ≤ 40 + 30 * D ∧ D ≤ 11 ∧ t.many = j) := ⟨by
            have h1 := bal_few t hbal
            rw [htm] at h1
            exact cost_le h1 HN.out hjD, hD, htm⟩
          have EP := pick_any a2 ((j : Int) + 1) wr (by omega) (by have := HN.out; omega)
          have hwj : wrap64 ((j : Int) + 1) = (j : Int) + 1 := by have := HN.out; unfold wrap64; omega
          have y1 : wrap64 (30 * (D : Int)) = 30 * D := by unfold wrap64; omega
          have y2 : wrap64 (40 + 30 * (D : Int)) = 40 + 30 * D := by unfold wrap64; omega
          have HII : Hid (IsRow wr w3.heap.size w3.heap.size t 0 ∧ Below w.heap.size w wr) := ⟨hI, hB⟩
          clear hI hB hjD htm hbal hone hj hlt hD
          go_wp2_with fail
          go_fit EP
          rintro e w5 ⟨⟨r, hr, rfl⟩, rfl⟩
          have HRR : Hid (r ≤ t.many) := by show _ ≤ _; have := HC.out; omega
          have EA := ahead_le t r _ _ 0 w5 (by have := HC.out; omega) HII.out.1 HRR.out
          clear EP hr
          go_wp2_with fail
          go_fit EA
          rintro e w6 ⟨rfl, ⟨k6, I6, hk6⟩, bb6⟩
          have EW := work_any _ _ _ k6 w6 I6
          have q6 : (k6 : Int) ≤ 40 + 30 * D := by have := HC.out; omega
          have HB6 : Hid (Below w.heap.size w w6) := HII.out.2.trans (bb6.mono HLO.out)
          clear EA I6 hk6 bb6
          go_wp2_with fail
          go_fit EW
          rintro e w7 ⟨rfl, I7, bb7⟩
          have HB7 : Hid (Below w.heap.size w w7) := HB6.out.trans (bb7.mono HLO.out)
          have EF := find_le t r _ _ 0 w7 (by have := HC.out; omega) I7
          clear EW I7 bb7 HB6
          go_wp2_with fail
          go_fit EF
          rintro e w8 ⟨⟨x8, y8, z8, rfl⟩, ⟨k8, I8, hk8⟩, bb8⟩
          have EW := work_any _ _ _ k8 w8 I8
          have q8 : (k8 : Int) ≤ 40 + 30 * D := by have := HC.out; omega
          have HB8 : Hid (Below w.heap.size w w8) := HB7.out.trans (bb8.mono HLO.out)
          clear EF I8 hk8 bb8
          go_wp2_with fail
          go_fit EW
          rintro e w9 ⟨rfl, I9, bb9⟩
          have HB9 : Hid (Below w.heap.size w w9) := HB8.out.trans (bb9.mono HLO.out)
          have EG := get_le t r HRR.out _ _ 0 w9 (by have := HC.out; omega) I9
          clear EW I9 bb9 HB8
          go_wp2_with fail
          go_fit EG
          rintro e w10 ⟨⟨x10, y10, z10, rfl⟩, ⟨k10, I10, hk10⟩, bb10⟩
          have EW := work_any _ _ _ k10 w10 I10
          have q10 : (k10 : Int) ≤ 40 + 30 * D := by have := HC.out; omega
          have HB10 : Hid (Below w.heap.size w w10) := HB9.out.trans (bb10.mono HLO.out)
          clear EG I10 hk10 bb10
          go_wp2_with fail
          go_fit EW
          rintro e w11 ⟨rfl, I11, bb11⟩
          have HB11 : Hid (Below w.heap.size w w11) := HB10.out.trans (bb11.mono HLO.out)
          have ER := remove_le t r HRR.out _ _ 0 w11 (by have := HC.out; omega) I11
          clear EW I11 bb11 HB10
          go_wp2_with fail
          go_fit ER
          rintro e w12 ⟨⟨x12, y12, z12, rfl⟩, ⟨t', k12, I12, hk12⟩, bb12⟩
          have EW := work_any _ _ _ k12 w12 I12
          have q12 : (k12 : Int) ≤ 40 + 30 * D := by have := HC.out; omega
          have HB12 : Hid (Below w.heap.size w w12) := HB11.out.trans (bb12.mono HLO.out)
          clear ER I12 hk12 bb12
          go_wp2_with fail
          go_fit EW
          rintro e w13 ⟨rfl, I13, bb13⟩
          have HB13 : Hid (Below w.heap.size w w13) := HB12.out.trans (bb13.mono HLO.out)
          clear EW I13 bb13 HB12
          go_wp2
          go_ret
          exact ⟨by simp, HB13.out⟩
end Go.Proofs.Ytaelloedamholaa
