/-
  What is proved: the functions asPut, Get, PutSigned and GetSigned of package bytes, called with any bytes and numbers, answer as the mathematics of numbers as bytes says, and nothing that was there has turned.
  Conditions: the bytes lie in memory.
-/
import Derived.Test.YtgecgemfniiciaaGreatDoorLies
namespace Go.Proofs.YtgecgemfniiciaaGreatDoor
open Go.RowKit

/-- What a reading answers. -/
def getV (o : Option (Nat × Nat)) : Value :=
  match o with
  | some (n, k) => .tuple #[.int .u64 n, .int .i64 k, .nilIface]
  | none => .tuple #[.int .u64 0, .int .i64 0, .iface 57 (.int .i64 9)]

set_option maxRecDepth 100000 in
set_option maxHeartbeats 1000000 in
theorem asPut_any (n : Nat) (v : Value) (l : List UInt8) (w : World) (hn : n < 18446744073709551616) (hv : IsBytes w v l) :
    Calls Tryz.prog 62 #[.int .u64 n, v] w fun e w' => e = .returned (getV (if put n = l then some (n, l.length) else none)) ∧ Below w.heap.size w w' := by
  have P := put_any n w hn
  have hl10 := put_len10 hn
  by_cases hp : put n = l
  · rw [if_pos hp]
    have hd : decide (l = put n) = true := by simp [hp]
    obtain ⟨a, cap, rfl, _⟩ := id hv
    go_enter Tryz.func62, Tryz.ntmps62
    go_wp2_with fail
    refine P.mono ?_
    rintro e w1 ⟨u, rfl, R1, b1⟩
    go_wp2_with fail
    refine (equal_any _ _ l (put n) _ (hv.below b1) (R1.bytes (by omega))).mono ?_
    rintro e w2 ⟨rfl, b2⟩
    rw [hd]
    go_wp2
    go_returns
    exact ⟨rfl, b1.trans (b2.mono b1.size)⟩
  · rw [if_neg hp]
    have hd : decide (l = put n) = false := by simpa using fun e => hp e.symm
    obtain ⟨a, cap, rfl, _⟩ := id hv
    go_enter Tryz.func62, Tryz.ntmps62
    go_wp2_with fail
    refine P.mono ?_
    rintro e w1 ⟨u, rfl, R1, b1⟩
    go_wp2_with fail
    refine (equal_any _ _ l (put n) _ (hv.below b1) (R1.bytes (by omega))).mono ?_
    rintro e w2 ⟨rfl, b2⟩
    rw [hd]
    go_wp2
    go_returns
    exact ⟨rfl, b1.trans (b2.mono b1.size)⟩

theorem val_take {l : List UInt8} {k : Nat} (h : k < l.length) : val (l.take (k + 1)) = val (l.take k) + l[k].toNat % 128 * 128 ^ k := by
  rw [List.take_succ_eq_append_getElem h, val_append, List.length_take, Nat.min_eq_left (by omega)]

theorem or_key (V x c P i : Nat) (Q : Int) (hP : P = 2 ^ i) (hV : V < P) (hV2 : V < 18446744073709551616) (hc : P * c < 18446744073709551616) (hw : IntKind.u64.wrap ((x : Int) % 128 * Q) = ((P * c : Nat) : Int)) :
    bits .or .u64 (V : Int) (IntKind.u64.wrap ((x : Int) % 128 * Q)) = ((V + P * c : Nat) : Int) := by
  rw [hw]
  rw [u64_or _ _ (by omega) (by omega) (by omega) (by omega), Int.toNat_natCast, Int.toNat_natCast]
  subst hP
  rw [Nat.or_comm, ← Nat.two_pow_add_eq_or_of_lt hV]
  congr 1
  omega

theorem or_step (V x : Nat) : ∀ k : Nat, k ≤ 9 → V < 128 ^ k → bits .or .u64 (V : Int) (IntKind.u64.wrap ((x : Int) % 128 * 2 ^ (7 * k))) = (((V + x % 128 * 128 ^ k) % 18446744073709551616 : Nat) : Int)
  | 0, _, hV => by
    rw [or_key V x (x % 128) 1 0 (2 ^ (7 * 0)) rfl (by omega) (by omega) (by omega) (by simp only [IntKind.wrap_u64]; omega)]
    congr 1
    omega
  | 1, _, hV => by
    rw [or_key V x (x % 128) 128 7 (2 ^ (7 * 1)) rfl (by omega) (by omega) (by omega) (by simp only [IntKind.wrap_u64]; omega)]
    congr 1
    omega
  | 2, _, hV => by
    rw [or_key V x (x % 128) 16384 14 (2 ^ (7 * 2)) rfl (by omega) (by omega) (by omega) (by simp only [IntKind.wrap_u64]; omega)]
    congr 1
    omega
  | 3, _, hV => by
    rw [or_key V x (x % 128) 2097152 21 (2 ^ (7 * 3)) rfl (by omega) (by omega) (by omega) (by simp only [IntKind.wrap_u64]; omega)]
    congr 1
    omega
  | 4, _, hV => by
    rw [or_key V x (x % 128) 268435456 28 (2 ^ (7 * 4)) rfl (by omega) (by omega) (by omega) (by simp only [IntKind.wrap_u64]; omega)]
    congr 1
    omega
  | 5, _, hV => by
    rw [or_key V x (x % 128) 34359738368 35 (2 ^ (7 * 5)) rfl (by omega) (by omega) (by omega) (by simp only [IntKind.wrap_u64]; omega)]
    congr 1
    omega
  | 6, _, hV => by
    rw [or_key V x (x % 128) 4398046511104 42 (2 ^ (7 * 6)) rfl (by omega) (by omega) (by omega) (by simp only [IntKind.wrap_u64]; omega)]
    congr 1
    omega
  | 7, _, hV => by
    rw [or_key V x (x % 128) 562949953421312 49 (2 ^ (7 * 7)) rfl (by omega) (by omega) (by omega) (by simp only [IntKind.wrap_u64]; omega)]
    congr 1
    omega
  | 8, _, hV => by
    rw [or_key V x (x % 128) 72057594037927936 56 (2 ^ (7 * 8)) rfl (by omega) (by omega) (by omega) (by simp only [IntKind.wrap_u64]; omega)]
    congr 1
    omega
  | 9, _, hV => by
    rw [or_key V x (x % 2) 9223372036854775808 63 (2 ^ (7 * 9)) rfl (by omega) (by omega) (by omega) (by simp only [IntKind.wrap_u64]; omega)]
    congr 1
    omega
  | k + 10, h, _ => by omega

theorem pow_le9 {k : Nat} (h : k ≤ 9) : 128 ^ k ≤ 9223372036854775808 := by
  have := Nat.pow_le_pow_right (n := 128) (by omega) h
  omega

set_option maxRecDepth 100000 in
set_option maxHeartbeats 1000000 in
theorem get_any (v : Value) (l : List UInt8) (w : World) (hv : IsBytes w v l) :
    Calls Tryz.prog 39 #[v] w fun e w' => e = .returned (getV (get l)) ∧ Below w.heap.size w w' := by
  obtain ⟨a, cap, rfl, h1, h2, h3⟩ := id hv
  by_cases h10 : (l.length : Int) ≤ 10
  · have h10n : l.length ≤ 10 := by omega
    go_enter Tryz.func39, Tryz.ntmps39
    go_wp2_with fail
    go_loop [5, 10] (fun n i => ∃ k : Nat, k ≤ l.length ∧ n = .int .u64 ((val (l.take k) % 18446744073709551616 : Nat) : Int) ∧ i = .int .i64 k ∧ ∀ j (hj : j < k) (hj2 : j < l.length), 128 ≤ l[j].toNat) (fun _ i => l.length - (RowKit.intOf i).toNat)
    case atStart => exact ⟨0, Nat.zero_le _, by simp [val], rfl, fun j hj => by omega⟩
    case round =>
      obtain ⟨k, hk, rfl, rfl, hbig⟩ := hrel
      by_cases hlt : k < l.length
      · have hkl : k < l.length := by omega
        obtain ⟨b, off, rfl, h4, h5⟩ := h3 (fun e => by rw [e] at hkl; simp at hkl)
        have x0 := h5 k hkl
        have g1 : (k : Int) < l.length := by omega
        have hV := val_lt (l.take k)
        rw [List.length_take, Nat.min_eq_left (by omega)] at hV
        have hp9 := pow_le9 (k := k) (by omega)
        have hO := or_step (val (l.take k)) l[k].toNat k (by omega) hV
        rw [← val_take hkl] at hO
        have HV : Hid (val (l.take k) % 18446744073709551616 = val (l.take k)) := Nat.mod_eq_of_lt (by omega)
        rw [HV.out]
        have HB : Hid (∀ j (hj : j < k) (hj2 : j < l.length), 128 ≤ l[j].toNat) := hbig
        have HX : Hid (l[k].toNat = l[k].toNat) := rfl
        have HT := hv.take (k + 1) (by omega)
        clear hbig h5 h3
        by_cases hx : l[k].toNat < 128
        · have HG : Hid (getV (if put (val (l.take (k + 1)) % 18446744073709551616) = l.take (k + 1) then some (val (l.take (k + 1)) % 18446744073709551616, (l.take (k + 1)).length) else none) = getV (get l)) := by
            show _ = _
            unfold get
            rw [find_at hkl (by omega) hx (fun j hj => HB.out j hj (by omega)), List.length_take, Nat.min_eq_left (by omega)]
          have hN : val (l.take (k + 1)) % 18446744073709551616 < 18446744073709551616 := Nat.mod_lt _ (by decide)
          have A := asPut_any (val (l.take (k + 1)) % 18446744073709551616) _ _ w hN HT
          rw [HG.out] at A
          clear HT HG
          generalize val (l.take (k + 1)) % 18446744073709551616 = N2 at *
          generalize val (l.take k) = N at *
          have hx' : (l[k].toNat : Int) < 128 := by omega
          generalize l[k].toNat = x at *
          go_wp2_with fail
          refine A.mono ?_
          rintro e w1 ⟨rfl, b1⟩
          cases hG : get l with
          | none =>
            have HG : Hid (get l = none) := hG
            clear hG A
            unfold getV
            go_wp2
            go_returns
            exact ⟨by rw [HG.out]; rfl, b1⟩
          | some q =>
            obtain ⟨q1, q2⟩ := q
            have HG : Hid (get l = some (q1, q2)) := hG
            clear hG A
            unfold getV
            go_wp2
            go_returns
            exact ⟨by rw [HG.out]; rfl, b1⟩
        · have HB2 : Hid (∀ j (hj : j < k + 1) (hj2 : j < l.length), 128 ≤ l[j].toNat) := by
            intro j hj hj2
            by_cases e : j = k
            · subst e; omega
            · exact HB.out j (by omega) hj2
          clear HT
          generalize hN2 : val (l.take (k + 1)) % 18446744073709551616 = N2 at *
          have HN : Hid (val (l.take (k + 1)) % 18446744073709551616 = N2) := hN2
          clear hN2
          generalize val (l.take k) = N at *
          have hx' : ¬ (l[k].toNat : Int) < 128 := by omega
          generalize l[k].toNat = x at *
          go_wp2_with fail
          go_round
          case rel => exact ⟨k + 1, by omega, by rw [HN.out], by go_num, HB2.out⟩
          case measure => simp [RowKit.intOf]; omega
      · have HG : Hid (get l = none) := by
          show _ = _
          unfold get
          rw [find_no (fun j hj hj2 => hbig j (by omega) hj)]
        have g1 : ¬ (k : Int) < l.length := by omega
        clear hbig
        generalize val (l.take k) % 18446744073709551616 = N at *
        go_wp2
        go_returns
        exact ⟨by rw [HG.out]; rfl, Below.refl _ _⟩
  · have h10n : 10 < l.length := by omega
    go_enter Tryz.func39, Tryz.ntmps39
    go_wp2_with fail
    go_loop [5, 10] (fun n i => ∃ k : Nat, k ≤ 10 ∧ n = .int .u64 ((val (l.take k) % 18446744073709551616 : Nat) : Int) ∧ i = .int .i64 k ∧ ∀ j (hj : j < k) (hj2 : j < l.length), 128 ≤ l[j].toNat) (fun _ i => 10 - (RowKit.intOf i).toNat)
    case atStart => exact ⟨0, Nat.zero_le _, by simp [val], rfl, fun j hj => by omega⟩
    case round =>
      obtain ⟨k, hk, rfl, rfl, hbig⟩ := hrel
      by_cases hlt : k < 10
      · have hkl : k < l.length := by omega
        obtain ⟨b, off, rfl, h4, h5⟩ := h3 (fun e => by rw [e] at hkl; simp at hkl)
        have x0 := h5 k hkl
        have g1 : (k : Int) < 10 := by omega
        have hV := val_lt (l.take k)
        rw [List.length_take, Nat.min_eq_left (by omega)] at hV
        have hp9 := pow_le9 (k := k) (by omega)
        have hO := or_step (val (l.take k)) l[k].toNat k (by omega) hV
        rw [← val_take hkl] at hO
        have HV : Hid (val (l.take k) % 18446744073709551616 = val (l.take k)) := Nat.mod_eq_of_lt (by omega)
        rw [HV.out]
        have HB : Hid (∀ j (hj : j < k) (hj2 : j < l.length), 128 ≤ l[j].toNat) := hbig
        have HX : Hid (l[k].toNat = l[k].toNat) := rfl
        have HT := hv.take (k + 1) (by omega)
        clear hbig h5 h3
        by_cases hx : l[k].toNat < 128
        · have HG : Hid (getV (if put (val (l.take (k + 1)) % 18446744073709551616) = l.take (k + 1) then some (val (l.take (k + 1)) % 18446744073709551616, (l.take (k + 1)).length) else none) = getV (get l)) := by
            show _ = _
            unfold get
            rw [find_at hkl (by omega) hx (fun j hj => HB.out j hj (by omega)), List.length_take, Nat.min_eq_left (by omega)]
          have hN : val (l.take (k + 1)) % 18446744073709551616 < 18446744073709551616 := Nat.mod_lt _ (by decide)
          have A := asPut_any (val (l.take (k + 1)) % 18446744073709551616) _ _ w hN HT
          rw [HG.out] at A
          clear HT HG
          generalize val (l.take (k + 1)) % 18446744073709551616 = N2 at *
          generalize val (l.take k) = N at *
          have hx' : (l[k].toNat : Int) < 128 := by omega
          generalize l[k].toNat = x at *
          go_wp2_with fail
          refine A.mono ?_
          rintro e w1 ⟨rfl, b1⟩
          cases hG : get l with
          | none =>
            have HG : Hid (get l = none) := hG
            clear hG A
            unfold getV
            go_wp2
            go_returns
            exact ⟨by rw [HG.out]; rfl, b1⟩
          | some q =>
            obtain ⟨q1, q2⟩ := q
            have HG : Hid (get l = some (q1, q2)) := hG
            clear hG A
            unfold getV
            go_wp2
            go_returns
            exact ⟨by rw [HG.out]; rfl, b1⟩
        · have HB2 : Hid (∀ j (hj : j < k + 1) (hj2 : j < l.length), 128 ≤ l[j].toNat) := by
            intro j hj hj2
            by_cases e : j = k
            · subst e; omega
            · exact HB.out j (by omega) hj2
          clear HT
          generalize hN2 : val (l.take (k + 1)) % 18446744073709551616 = N2 at *
          have HN : Hid (val (l.take (k + 1)) % 18446744073709551616 = N2) := hN2
          clear hN2
          generalize val (l.take k) = N at *
          have hx' : ¬ (l[k].toNat : Int) < 128 := by omega
          generalize l[k].toNat = x at *
          go_wp2_with fail
          go_round
          case rel => exact ⟨k + 1, by omega, by rw [HN.out], by go_num, HB2.out⟩
          case measure => simp [RowKit.intOf]; omega
      · have HG : Hid (get l = none) := by
          show _ = _
          unfold get
          rw [find_no (fun j hj hj2 => hbig j (by omega) hj)]
        have g1 : ¬ (k : Int) < 10 := by omega
        clear hbig
        generalize val (l.take k) % 18446744073709551616 = N at *
        go_wp2
        go_returns
        exact ⟨by rw [HG.out]; rfl, Below.refl _ _⟩
end Go.Proofs.YtgecgemfniiciaaGreatDoor
