/-
  What is proved: the function Get of package bookref1, called with any bytes, answers as the mathematics of numbers as bytes says, and nothing that was there has turned.
  Conditions: the bytes lie in memory.
-/
import Derived.Test.YtgecgemfniiciaaGreatDoorBigRead
import Derived.Test.YtgecgemfniiciaaGreatDoorGetWalk
namespace Go.Proofs.YtgecgemfniiciaaGreatDoor
open Go.RowKit

theorem take_snocB (l : List UInt8) (k : Nat) (h : k < l.length) : l.take (k + 1) = l.take k ++ [l[k]] := List.take_succ_eq_append_getElem h

/-- What a reading of the reference answers. -/
def rgetV (o : Option (Nat × Nat)) : Value :=
  match o with
  | some (n, k) => .tuple #[.int .u64 n, .int .i64 k]
  | none => .tuple #[.int .u64 0, .int .i64 0]

theorem get_at {l : List UInt8} {k : Nat} (hk : k < l.length) (h10 : k < 10) (hc : l[k].toNat < 128) (hb : ∀ j (_ : j < k) (_ : j < l.length), 128 ≤ l[j].toNat) :
    get l = if (k = 0 ∨ l[k].toNat ≠ 0) ∧ val (l.take (k + 1)) < 18446744073709551616 then some (val (l.take (k + 1)), k + 1) else none := by
  unfold get
  rw [find_at hk h10 hc (fun j hj => hb j hj (by omega))]
  simp only
  have e := take_snocB l k hk
  have ho := get_other (l := l.take k) (b := l[k]) hc (fun x hx => by
    obtain ⟨j, hj, rfl⟩ := List.getElem_of_mem hx
    rw [List.length_take] at hj
    rw [List.getElem_take]
    exact hb j (by omega) (by omega))
  rw [← e] at ho
  have hk0 : l.take k = [] ↔ k = 0 := by
    rw [List.take_eq_nil_iff]
    constructor
    · rintro (h | h)
      · exact h
      · rw [h] at hk; simp at hk
    · exact Or.inl
  rw [hk0] at ho
  by_cases hg : (k = 0 ∨ l[k].toNat ≠ 0) ∧ val (l.take (k + 1)) < 18446744073709551616
  · rw [if_pos hg, if_pos (ho.2 hg), Nat.mod_eq_of_lt hg.2]
  · rw [if_neg hg, if_neg (fun h => hg (ho.1 h))]

set_option maxRecDepth 100000 in
set_option maxHeartbeats 8000000 in
theorem rGet_any (v : Value) (l : List UInt8) (w : World) (hv : IsBytes w v l) :
    Calls Tryz.prog 16 #[v] w fun e w' => e = .returned (rgetV (get l)) ∧ Below w.heap.size w w' := by
  obtain ⟨a, cap, rfl, h1, h2, h3⟩ := id hv
  have BA : Below w.heap.size w (w.alloc (.cells #[.bool false, .slice none 0 0] 79)) := (Below.refl _ w).alloc (Nat.le_refl _) _
  have N0 : IsNum (w.alloc (.cells #[.bool false, .slice none 0 0] 79)) w.heap.size 0 := ⟨by simp, by simp, fun t => by rw [RowKit.frozen?_alloc_cells]; simp [World.frozen?], .slice none 0 0, by simp, ⟨none, 0, [], rfl, rfl, by simp, by simp [Norm], fun h => absurd rfl h⟩⟩
  go_enter Tryz.func16, Tryz.ntmps16
  go_wp2_with fail
  refine (nNew_any 1 _ (by decide)).mono ?_
  rintro e w1 ⟨rfl, N1, b1⟩
  have B1 : Below w.heap.size w w1 := BA.trans (b1.mono BA.size)
  have N01 := N0.below b1
  have hz1 : (w.alloc (.cells #[.bool false, .slice none 0 0] 79)).heap.size = w.heap.size + 1 := by simp
  rw [hz1] at N1 ⊢
  clear N0 BA b1 hz1
  go_wp2_with fail
  go_loopw [6] (fun i wr => ∃ k : Nat, k ≤ l.length ∧ k ≤ 10 ∧ i = .int .i64 k ∧ IsNum wr w.heap.size (val (l.take k)) ∧ IsNum wr (w.heap.size + 1) (128 ^ k) ∧ (∀ j (hj : j < k) (hj2 : j < l.length), 128 ≤ l[j].toNat) ∧ Below w.heap.size w wr) (fun i _ => 10 - (RowKit.intOf i).toNat)
  case atStart => exact ⟨0, Nat.zero_le _, Nat.zero_le _, rfl, by simpa [val] using N01, by simpa using N1, fun j hj => by omega, B1⟩
  case round =>
    clear N01 N1 B1
    obtain ⟨k, hk, hk10, rfl, Nx, Nb, hbig, hbel⟩ := hrel
    by_cases hlt : k < l.length ∧ k < 10
    · obtain ⟨hlt, hlt10⟩ := hlt
      obtain ⟨b, off, rfl, h4, h5⟩ := h3 (fun e => by rw [e] at hlt; simp at hlt)
      have x0 : wr.cell? ⟨b, off + k, none⟩ = some (.int .u8 l[k].toNat) := by rw [hbel.cell (p := ⟨b, off + k, none⟩) h4]; exact h5 k hlt
      have y0 := h5 k hlt
      have g1 : (k : Int) < l.length := by omega
      have g2 : (k : Int) < 10 := by omega
      have hV := val_lt (l.take k)
      rw [List.length_take, Nat.min_eq_left (by omega)] at hV
      have hp9 := pow_le9 (k := k) (by omega)
      have hD : l[k].toNat % 128 ≤ 127 := by omega
      have hM : l[k].toNat % 128 * 128 ^ k ≤ 127 * 9223372036854775808 := Nat.mul_le_mul hD hp9
      have hnew := nNew_any (l[k].toNat % 128) wr (by omega)
      rw [show ((l[k].toNat % 128 : Nat) : Int) = (l[k].toNat : Int) % 128 from by omega] at hnew
      have HB : Hid (∀ j (hj : j < k) (hj2 : j < l.length), 128 ≤ l[j].toNat) := hbig
      have HVT : Hid (val (l.take (k + 1)) = val (l.take k) + l[k].toNat % 128 * 128 ^ k) := val_take hlt
      have HG := fun h => get_at hlt hlt10 h hbig
      have hpx := Nx.1
      have hpb := Nb.1
      clear h3 h5 hbig
      go_wp2_with fail
      refine hnew.mono ?_
      rintro e w2 ⟨rfl, N2, b2⟩
      have X2 := Nx.below b2
      have Y2 := Nb.below b2
      have B2 : Below w.heap.size w w2 := hbel.trans (b2.mono hbel.size)
      clear hnew Nx Nb b2
      go_wp2_with fail
      refine (nMulI_any wr.heap.size (w.heap.size + 1) (l[k].toNat % 128) (128 ^ k) w.heap.size w2 N2 Y2 (by omega) (by omega) (by omega)).mono ?_
      rintro e w3 ⟨rfl, N3, O3, b3⟩
      have X3 := O3 _ _ (by omega) X2
      have Y3 := O3 _ _ (by omega) Y2
      have B3 : Below w.heap.size w w3 := B2.trans b3
      clear X2 Y2 N2 O3 b3 B2
      go_wp2_with fail
      refine (nAddI_any w.heap.size wr.heap.size (val (l.take k)) (l[k].toNat % 128 * 128 ^ k) w.heap.size w3 X3 N3 (by omega) (by omega) (by omega)).mono ?_
      rintro e w4 ⟨rfl, X4, O4, b4⟩
      have Y4 := O4 _ _ (by omega) Y3
      have B4 : Below w.heap.size w w4 := B3.trans b4
      rw [← HVT.out] at X4
      clear X3 Y3 N3 O4 b4 B3
      go_wp2_with fail
      refine (nNew_any 128 w4 (by decide)).mono ?_
      rintro e w5 ⟨rfl, N5, b5⟩
      have X5 := X4.below b5
      have Y5 := Y4.below b5
      have B5 : Below w.heap.size w w5 := B4.trans (b5.mono B4.size)
      have hpy := Y4.1
      clear X4 Y4 b5 B4
      go_wp2_with fail
      refine (nMulI_any (w.heap.size + 1) w4.heap.size (128 ^ k) 128 w.heap.size w5 Y5 N5 (by omega) (by decide) (by omega)).mono ?_
      rintro e w6 ⟨rfl, Y6, O6, b6⟩
      have X6 := O6 _ _ (by omega) X5
      have B6 : Below w.heap.size w w6 := B5.trans b6
      have z0 : w6.cell? ⟨b, off + k, none⟩ = some (.int .u8 l[k].toNat) := by rw [B6.cell (p := ⟨b, off + k, none⟩) h4]; exact y0
      rw [← Nat.pow_succ] at Y6
      clear X5 Y5 N5 O6 b6 B5 y0 x0
      have hVb : val (l.take (k + 1)) < 79228162514264337593543950336 := by rw [HVT.out]; omega
      by_cases hc : l[k].toNat < 128
      · have hG := HG hc
        clear HG HB
        have g3 : (l[k].toNat : Int) < 128 := by omega
        by_cases hz : k ≠ 0 ∧ l[k].toNat = 0
        · rw [if_neg (fun h => by rcases h.1 with h1 | h1; exact hz.1 h1; exact h1 hz.2)] at hG
          have HR : Hid (get l = none) := hG
          rw [hz.2] at z0
          have g4 : (0 : Int) < k := by omega
          clear hG HVT hc hM hD hV g3
          go_wp2
          go_returns
          exact ⟨by rw [HR.out]; rfl, B6⟩
        · have I := nIs_any w.heap.size (val (l.take (k + 1))) w6 X6 hVb
          have hor : k = 0 ∨ l[k].toNat ≠ 0 := by
            by_cases h : k = 0
            · exact Or.inl h
            · exact Or.inr (fun e => hz ⟨h, e⟩)
          by_cases hV64 : val (l.take (k + 1)) < 18446744073709551616
          · rw [if_pos ⟨hor, hV64⟩] at hG
            have HD : Hid (decide (val (l.take (k + 1)) < 18446744073709551616) = true) := decide_eq_true hV64
            have HR : Hid (get l = some (val (l.take (k + 1)), k + 1)) := hG
            clear hG HVT hc hM hD hV hz
            generalize val (l.take (k + 1)) = V at *
            rcases hor with hk0 | hc0
            · subst hk0
              rw [Nat.add_zero] at z0
              generalize l[0].toNat = y at *
              by_cases hy : y = 0
              · subst hy
                go_wp2_with fail
                refine I.mono ?_
                rintro e w7 ⟨rfl, b7⟩
                have X7 := X6.below b7
                have B7 : Below w.heap.size w w7 := B6.trans (b7.mono B6.size)
                rw [HD.out]
                clear X6 B6 b7 I
                go_wp2_with fail
                refine (nUint_any w.heap.size V w7 X7 hV64).mono ?_
                rintro e w8 ⟨rfl, b8⟩
                have B8 : Below w.heap.size w w8 := B7.trans (b8.mono B7.size)
                go_wp2
                go_returns
                exact ⟨by rw [HR.out]; simp [rgetV], B8⟩
              · have q1 : ((y : Int) == 0) = false := by rw [beq_eq_false_iff_ne]; omega
                go_wp2_with fail
                refine I.mono ?_
                rintro e w7 ⟨rfl, b7⟩
                have X7 := X6.below b7
                have B7 : Below w.heap.size w w7 := B6.trans (b7.mono B6.size)
                rw [HD.out]
                clear X6 B6 b7 I
                go_wp2_with fail
                refine (nUint_any w.heap.size V w7 X7 hV64).mono ?_
                rintro e w8 ⟨rfl, b8⟩
                have B8 : Below w.heap.size w w8 := B7.trans (b8.mono B7.size)
                go_wp2
                go_returns
                exact ⟨by rw [HR.out]; simp [rgetV], B8⟩
            · have q1 : ((l[k].toNat : Int) == 0) = false := by rw [beq_eq_false_iff_ne]; omega
              generalize l[k].toNat = y at *
              go_wp2_with fail
              refine I.mono ?_
              rintro e w7 ⟨rfl, b7⟩
              have X7 := X6.below b7
              have B7 : Below w.heap.size w w7 := B6.trans (b7.mono B6.size)
              rw [HD.out]
              clear X6 B6 b7 I
              go_wp2_with fail
              refine (nUint_any w.heap.size V w7 X7 hV64).mono ?_
              rintro e w8 ⟨rfl, b8⟩
              have B8 : Below w.heap.size w w8 := B7.trans (b8.mono B7.size)
              go_wp2
              go_returns
              exact ⟨by rw [HR.out]; simp [rgetV], B8⟩
          · rw [if_neg (fun h => hV64 h.2)] at hG
            have HD : Hid (decide (val (l.take (k + 1)) < 18446744073709551616) = false) := decide_eq_false hV64
            have HR : Hid (get l = none) := hG
            clear hG HVT hc hM hD hV hz
            generalize val (l.take (k + 1)) = V at *
            rcases hor with hk0 | hc0
            · subst hk0
              rw [Nat.add_zero] at z0
              generalize l[0].toNat = y at *
              by_cases hy : y = 0
              · subst hy
                go_wp2_with fail
                refine I.mono ?_
                rintro e w7 ⟨rfl, b7⟩
                have X7 := X6.below b7
                have B7 : Below w.heap.size w w7 := B6.trans (b7.mono B6.size)
                rw [HD.out]
                clear X6 B6 b7 I
                go_wp2
                go_returns
                exact ⟨by rw [HR.out]; rfl, B7⟩
              · have q1 : ((y : Int) == 0) = false := by rw [beq_eq_false_iff_ne]; omega
                go_wp2_with fail
                refine I.mono ?_
                rintro e w7 ⟨rfl, b7⟩
                have X7 := X6.below b7
                have B7 : Below w.heap.size w w7 := B6.trans (b7.mono B6.size)
                rw [HD.out]
                clear X6 B6 b7 I
                go_wp2
                go_returns
                exact ⟨by rw [HR.out]; rfl, B7⟩
            · have q1 : ((l[k].toNat : Int) == 0) = false := by rw [beq_eq_false_iff_ne]; omega
              generalize l[k].toNat = y at *
              go_wp2_with fail
              refine I.mono ?_
              rintro e w7 ⟨rfl, b7⟩
              have X7 := X6.below b7
              have B7 : Below w.heap.size w w7 := B6.trans (b7.mono B6.size)
              rw [HD.out]
              clear X6 B6 b7 I
              go_wp2
              go_returns
              exact ⟨by rw [HR.out]; rfl, B7⟩
      · have HB2 : Hid (∀ j (hj : j < k + 1) (hj2 : j < l.length), 128 ≤ l[j].toNat) := by
          intro j hj hj2
          by_cases e : j = k
          · subst e; omega
          · exact HB.out j (by omega) hj2
        have g3 : ¬ (l[k].toNat : Int) < 128 := by omega
        clear HG HB HVT hc hM hD hV
        generalize l[k].toNat = y at *
        go_wp2_with fail
        go_roundw
        case rel => exact ⟨k + 1, by omega, by omega, by go_num, X6, Y6, HB2.out, B6⟩
        case measure => simp [RowKit.intOf]; omega
    · have HR : Hid (get l = none) := by
        show _ = _
        unfold get
        rw [find_no (fun j hj hj2 => hbig j (by omega) hj)]
      clear hbig
      by_cases hl : k < l.length
      · have g1 : (k : Int) < l.length := by omega
        have g2 : ¬ (k : Int) < 10 := by omega
        go_wp2
        go_returns
        exact ⟨by rw [HR.out]; rfl, hbel⟩
      · have g1 : ¬ (k : Int) < l.length := by omega
        go_wp2
        go_returns
        exact ⟨by rw [HR.out]; rfl, hbel⟩
end Go.Proofs.YtgecgemfniiciaaGreatDoor
