/-
  What is proved: package value's Quote, called with any text that is not too long, returns it in quotes, and nothing that was there has turned.
  Conditions: the text has at most 2097152 bytes.
-/
import Derived.Test.YtnbbamonmmlaeaaDoorProg
import Derived.Test.YtnbbamonmmlaeaaDoorQuotes
import Derived.Test.YtnbbamonmmlaeaaDoorShelf
import Derived.WalkKit
import Derived.WalkSpells
import Derived.WalkLawsBesides
import Derived.Handy
import Derived.Deep.RegionWith
import Derived.Deep.RegionHeld3
import Derived.Deep.QuietTactic
import Derived.BigQuiet
namespace Go.Proofs.YtnbbamonmmlaeaaDoor
open Go.RowKit

set_option maxRecDepth 100000 in
set_option maxHeartbeats 400000 in
theorem isHex_any (c : UInt8) (w : World) :
    Calls Tryd.prog 63 #[.int .u8 c.toNat] w fun e w' => e = .returned (.bool (hexB c)) ∧ w' = w := by
  unfold hexB
  generalize c.toNat = n
  by_cases h1 : n < 32
  · have g1 : (n : Int) < 32 := by omega
    go_enter Tryd.func63, Tryd.ntmps63
    go_wp2
    go_ret
    exact ⟨by first | (simp; done) | (simp; omega), rfl⟩
  · have g1 : ¬ (n : Int) < 32 := by omega
    by_cases h2 : 126 < n
    · have g2 : (126 : Int) < n := by omega
      go_enter Tryd.func63, Tryd.ntmps63
      go_wp2
      go_ret
      exact ⟨by first | (simp; done) | (simp; omega), rfl⟩
    · have g2 : ¬ (126 : Int) < n := by omega
      go_enter Tryd.func63, Tryd.ntmps63
      go_wp2
      go_ret
      exact ⟨by first | (simp; done) | (simp; omega), rfl⟩

set_option maxRecDepth 100000 in
set_option maxHeartbeats 400000 in
theorem isMasked_any (c : UInt8) (w : World) :
    Calls Tryd.prog 64 #[.int .u8 c.toNat] w fun e w' => e = .returned (.bool (maskB c)) ∧ w' = w := by
  unfold maskB
  generalize c.toNat = n
  by_cases h1 : n = 34
  · subst h1
    go_enter Tryd.func64, Tryd.ntmps64
    go_wp2
    go_ret
    exact ⟨by simp, rfl⟩
  · by_cases h2 : n = 92
    · subst h2
      go_enter Tryd.func64, Tryd.ntmps64
      go_wp2
      go_ret
      exact ⟨by simp, rfl⟩
    · have g1 : ¬ (n : Int) = 34 := by omega
      have g2 : ¬ (n : Int) = 92 := by omega
      have r : (decide (n = 34) || decide (n = 92)) = false := by simp [h1, h2]
      rw [r]
      go_enter Tryd.func64, Tryd.ntmps64
      go_wp2
      go_ret
      exact ⟨by simp; omega, rfl⟩

/-- The builder holds these bytes. -/
abbrev Holds (B b : Nat) (l : List UInt8) (w : World) : Prop := Lib.BuilderAt 48 5 B b (.pointer (some ⟨b, 0, none⟩)) (Lib.byteCells l) w

theorem write_any (B b : Nat) (l : List UInt8) (c : UInt8) (w : World) (h : Lib.IsBuilder 48 5 B b (Lib.byteCells l) w) (hl : l.length ≤ 8388608) (hB : B ≤ w.heap.size) :
    Calls Tryd.prog 53 #[.pointer (some ⟨b, 0, none⟩), .int .u8 c.toNat] w fun e w' => e = .returned .nilIface ∧ Holds B b (l ++ [c]) w' ∧ Below B w w' := by
  refine (Tryd.writeByte B b (Lib.byteCells l) c.toNat w h (by rw [Lib.byteCells_length]; omega) hB).mono ?_
  rintro e w' ⟨rfl, h1, h2⟩
  exact ⟨rfl, by simpa [Holds, Lib.byteCells] using h1, h2⟩

/-- The sixteen digits, as a text. -/
def hexS : ByteArray := ⟨#[48, 49, 50, 51, 52, 53, 54, 55, 56, 57, 97, 98, 99, 100, 101, 102]⟩
theorem hexS_size : hexS.size = 16 := rfl
theorem hex_at (n : Nat) (h : n < hexS.size) : hexS[n] = hexd n := by
  have h1 : ∀ n : Fin 16, hexS[n.val]'(by rw [hexS_size]; exact n.isLt) = hexd n.val := by decide
  exact h1 ⟨n, h⟩

theorem hex_high (c : UInt8) : ∀ h, (⟨#[48, 49, 50, 51, 52, 53, 54, 55, 56, 57, 97, 98, 99, 100, 101, 102]⟩ : ByteArray)[c.toNat / 16]'h = hexd (c.toNat / 16) := fun h => hex_at _ h
theorem hex_low (c : UInt8) : ∀ h, (⟨#[48, 49, 50, 51, 52, 53, 54, 55, 56, 57, 97, 98, 99, 100, 101, 102]⟩ : ByteArray)[c.toNat % 16]'h = hexd (c.toNat % 16) := fun h => hex_at _ h

set_option maxRecDepth 100000 in
set_option maxHeartbeats 1000000 in
theorem writeQuoted_any (B b : Nat) (l : List UInt8) (c : UInt8) (w : World) (h : Holds B b l w) (hl : l.length ≤ 8000000) (hB : B ≤ w.heap.size) :
    Calls Tryd.prog 54 #[.pointer (some ⟨b, 0, none⟩), .int .u8 c.toNat] w fun e w' => e = .returned (.tuple #[]) ∧ Holds B b (l ++ esc c) w' ∧ Below B w w' := by
  unfold esc
  have hi := isHex_any c
  have hm := isMasked_any c
  cases hx : hexB c with
  | true =>
    rw [hx] at hi
    have hc := c.toNat_lt
    have p1 : (c.toNat : Int) / 16 % 256 < 16 := by omega
    have p2 : (c.toNat : Int) % 16 % 256 < 16 := by omega
    go_enter Tryd.func54, Tryd.ntmps54
    go_wp2_with (first
      | (go_at_call 63; refine (hi _).mono ?_; rintro e w' ⟨rfl, rfl⟩))
    refine (write_any B b l 92 _ (Or.inr h) (by omega) hB).mono ?_
    rintro e w1 ⟨rfl, h1, b1⟩
    have hB1 := Nat.le_trans hB b1.size
    go_wp2_with fail
    refine (write_any B b _ _ _ (Or.inr h1) (by simp; omega) hB1).mono ?_
    rintro e w2 ⟨rfl, h2, b2⟩
    have hB2 := Nat.le_trans hB1 b2.size
    go_wp2_with fail
    refine (write_any B b _ _ _ (Or.inr h2) (by simp; omega) hB2).mono ?_
    rintro e w3 ⟨rfl, h3, b3⟩
    go_wp2
    go_returns
    rw [hex_high, hex_low] at h3
    exact ⟨rfl, by simpa using h3, (b1.trans b2).trans b3⟩
  | false =>
    rw [hx] at hi
    cases hy : maskB c with
    | true =>
      rw [hy] at hm
      go_enter Tryd.func54, Tryd.ntmps54
      go_wp2_with (first
        | (go_at_call 63; refine (hi _).mono ?_; rintro e w' ⟨rfl, rfl⟩)
        | (go_at_call 64; refine (hm _).mono ?_; rintro e w' ⟨rfl, rfl⟩))
      refine (write_any B b l 92 _ (Or.inr h) (by omega) hB).mono ?_
      rintro e w1 ⟨rfl, h1, b1⟩
      have hB1 := Nat.le_trans hB b1.size
      go_wp2_with fail
      refine (write_any B b _ _ _ (Or.inr h1) (by simp; omega) hB1).mono ?_
      rintro e w2 ⟨rfl, h2, b2⟩
      go_wp2
      go_end0
      exact ⟨rfl, by simpa using h2, b1.trans b2⟩
    | false =>
      rw [hy] at hm
      go_enter Tryd.func54, Tryd.ntmps54
      go_wp2_with (first
        | (go_at_call 63; refine (hi _).mono ?_; rintro e w' ⟨rfl, rfl⟩)
        | (go_at_call 64; refine (hm _).mono ?_; rintro e w' ⟨rfl, rfl⟩))
      refine (write_any B b l c _ (Or.inr h) (by omega) hB).mono ?_
      rintro e w1 ⟨rfl, h1, b1⟩
      go_wp2
      go_end0
      exact ⟨rfl, by simpa using h1, b1⟩

set_option maxRecDepth 100000 in
set_option maxHeartbeats 1000000 in
theorem quote_any (s : ByteArray) (w : World) (hs : s.size ≤ 2097152) :
    Calls Tryd.prog 40 #[.string s] w fun e w' => e = .returned (.string ⟨(quote s.data.toList).toArray⟩) ∧ Below w.heap.size w w' := by
  go_enter Tryd.func40, Tryd.ntmps40
  go_wp2_with fail
  refine (write_any w.heap.size w.heap.size [] 34 _ (Lib.fresh_isBuilder _ _ w) (by simp) (by simp)).mono ?_
  rintro e w1 ⟨rfl, h1, b1⟩
  have B1 : Below w.heap.size w w1 := ((Below.refl _ _).alloc (Nat.le_refl _) _).trans b1
  have H1 : Holds w.heap.size w.heap.size (34 :: escs (s.data.toList.take 0)) w1 := by simpa [escs] using h1
  clear h1 b1
  go_wp2
  go_loopw [4] (fun i wr => ∃ k : Nat, k ≤ s.size ∧ i = .int .i64 k ∧ Holds w.heap.size w.heap.size (34 :: escs (s.data.toList.take k)) wr ∧ Below w.heap.size w wr) (fun i _ => s.size - (RowKit.intOf i).toNat)
  case atStart => exact ⟨0, Nat.zero_le _, rfl, H1, B1⟩
  case round =>
    obtain ⟨k, hk, rfl, hh, hbel⟩ := hrel
    have hlen : (34 :: escs (s.data.toList.take k)).length ≤ 8000000 := by
      have h1 := escs_len (s.data.toList.take k)
      have h2 : (s.data.toList.take k).length ≤ k := List.length_take_le _ _
      simp
      omega
    by_cases hlt : k < s.size
    · have hn : 34 :: escs (s.data.toList.take k) ++ esc s[k] = 34 :: escs (s.data.toList.take (k + 1)) := by
        have : s.data.toList.take (k + 1) = s.data.toList.take k ++ [s[k]] := by
          rw [List.take_succ_eq_append_getElem (by rw [Array.length_toList]; exact hlt)]
          rfl
        rw [this, escs_append]
        simp [escs]
      have hz := hbel.size
      have W := writeQuoted_any w.heap.size w.heap.size _ s[k] wr hh hlen hz
      rw [hn] at W
      clear hh hlen hn
      go_wp2_with (go_at_call 54; refine W.mono ?_; rintro e w2 ⟨rfl, h2, b2⟩)
      go_roundw
      case rel => exact ⟨k + 1, hlt, by go_num, h2, hbel.trans b2⟩
      case measure => simp [RowKit.intOf]; omega
    · have hke : k = s.size := by omega
      subst hke
      have hz := hbel.size
      have hq : 34 :: escs (s.data.toList.take s.size) ++ [34] = quote s.data.toList := by
        rw [List.take_of_length_le (by rw [Array.length_toList]; exact Nat.le_refl _)]
        rfl
      have W := write_any w.heap.size w.heap.size _ 34 wr (Or.inr hh) (by omega) hz
      rw [hq] at W
      clear hh hlen hq
      go_wp2_with (first
        | (go_at_call 53; refine W.mono ?_; rintro e w2 ⟨rfl, h2, b2⟩)
        | (go_at_call 18; refine (Tryd.builderString w.heap.size w.heap.size _ _ (Or.inr h2) (Nat.le_trans hz b2.size)).mono ?_; rintro e w3 ⟨rfl, b3⟩))
      go_ret
      exact ⟨rfl, (hbel.trans b2).trans b3⟩
end Go.Proofs.YtnbbamonmmlaeaaDoor
