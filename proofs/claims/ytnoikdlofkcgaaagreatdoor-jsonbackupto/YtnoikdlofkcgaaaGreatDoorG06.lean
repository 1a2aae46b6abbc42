/-
  What is proved: package value's Quote, called with any text that is not too long, returns it in quotes, and nothing that was there has turned. the functions hex and Quote of package bookref1, called with any text that is not too long, return it in quotes, and nothing that was there has turned. the functions of the statements' own package of great numbers that make a number, take it apart by ten, at any number of 64 bits. plain facts on decimal numerals: what Itoa writes is digits alone, few of them, and Atoi reads it as it was; the name of an id, and where its sign stands.
  Conditions: as each theorem says.
-/
import Derived.Test.YtnoikdlofkcgaaaGreatDoorProg
import Derived.Test.YtnoikdlofkcgaaaGreatDoorG05
import Derived.Test.YtnoikdlofkcgaaaGreatDoorShelf
import Derived.WalkKit
import Derived.WalkSpells
import Derived.WalkLawsBesides
import Derived.Handy
import Derived.Deep.RegionWith
import Derived.Deep.RegionHeld3
import Derived.Deep.QuietTactic
import Derived.BigQuiet
import Derived.Lib.Builder
import Derived.Laws.BitsAllLaws
import Derived.Lib.ItoaNum
import Derived.Lib.AtoiAll
import Derived.Lib.AtoiTie
import Derived.Lib.Bytealg
namespace Go.Proofs.YtnoikdlofkcgaaaGreatDoor
open Go.RowKit

set_option maxRecDepth 100000 in
set_option maxHeartbeats 400000 in
theorem isHex_any (c : UInt8) (w : World) :
    Calls Tryz.prog 73 #[.int .u8 c.toNat] w fun e w' => e = .returned (.bool (hexB c)) ∧ w' = w := by
  unfold hexB
  generalize c.toNat = n
  by_cases h1 : n < 32
  · have g1 : (n : Int) < 32 := by omega
    go_enter Tryz.func73, Tryz.ntmps73
    go_wp2
    go_ret
    exact ⟨by first | (simp; done) | (simp; omega), rfl⟩
  · have g1 : ¬ (n : Int) < 32 := by omega
    by_cases h2 : 126 < n
    · have g2 : (126 : Int) < n := by omega
      go_enter Tryz.func73, Tryz.ntmps73
      go_wp2
      go_ret
      exact ⟨by first | (simp; done) | (simp; omega), rfl⟩
    · have g2 : ¬ (126 : Int) < n := by omega
      go_enter Tryz.func73, Tryz.ntmps73
      go_wp2
      go_ret
      exact ⟨by first | (simp; done) | (simp; omega), rfl⟩

set_option maxRecDepth 100000 in
set_option maxHeartbeats 400000 in
theorem isMasked_any (c : UInt8) (w : World) :
    Calls Tryz.prog 74 #[.int .u8 c.toNat] w fun e w' => e = .returned (.bool (maskB c)) ∧ w' = w := by
  unfold maskB
  generalize c.toNat = n
  by_cases h1 : n = 34
  · subst h1
    go_enter Tryz.func74, Tryz.ntmps74
    go_wp2
    go_ret
    exact ⟨by simp, rfl⟩
  · by_cases h2 : n = 92
    · subst h2
      go_enter Tryz.func74, Tryz.ntmps74
      go_wp2
      go_ret
      exact ⟨by simp, rfl⟩
    · have g1 : ¬ (n : Int) = 34 := by omega
      have g2 : ¬ (n : Int) = 92 := by omega
      have r : (decide (n = 34) || decide (n = 92)) = false := by simp [h1, h2]
      rw [r]
      go_enter Tryz.func74, Tryz.ntmps74
      go_wp2
      go_ret
      exact ⟨by simp; omega, rfl⟩

/-- The builder holds these bytes. -/
abbrev Holds (B b : Nat) (l : List UInt8) (w : World) : Prop := Lib.BuilderAt 54 5 B b (.pointer (some ⟨b, 0, none⟩)) (Lib.byteCells l) w

theorem write_any (B b : Nat) (l : List UInt8) (c : UInt8) (w : World) (h : Lib.IsBuilder 54 5 B b (Lib.byteCells l) w) (hl : l.length ≤ 8388608) (hB : B ≤ w.heap.size) :
    Calls Tryz.prog 58 #[.pointer (some ⟨b, 0, none⟩), .int .u8 c.toNat] w fun e w' => e = .returned .nilIface ∧ Holds B b (l ++ [c]) w' ∧ Below B w w' := by
  refine (Tryz.writeByte B b (Lib.byteCells l) c.toNat w h (by rw [Lib.byteCells_length]; omega) hB).mono ?_
  rintro e w' ⟨rfl, h1, h2⟩
  exact ⟨rfl, by simpa [Holds, Lib.byteCells] using h1, h2⟩

/-- The sixteen digits, as a text. -/
def hexS : ByteArray := ⟨#[48, 49, 50, 51, 52, 53, 54, 55, 56, 57, 97, 98, 99, 100, 101, 102]⟩
theorem hexS_size : hexS.size = 16 := rfl
theorem hex_at (n : Nat) (h : n < hexS.size) : hexS[n] = hexd n := by
  have h1 : ∀ n : Fin 16, hexS[n.val]'(by rw [hexS_size]; exact n.isLt) = hexd n.val := by decide
  exact h1 ⟨n, h⟩

theorem hex_high (c : UInt8) : ∀ h, (⟨#[48, 49, 50, 51, 52, 53, 54, 55, 56, 57, 97, 98, 99, 100, 101, 102]⟩ : ByteArray)[c.toNat / 16]'h = hexd (c.toNat / 16) := fun h => hex_at _ h
theorem hex_low (c : UInt8) : ∀ h, (⟨#[48, 49, 50, 51, 52, 53, 54, 55, 56, 57, 97, 98, 99, 100, 101, 102]⟩ : ByteArray)[c.toNat % 16]'h = hexd (c.toNat % 16) := fun h => hex_at _ h

set_option maxRecDepth 100000 in
set_option maxHeartbeats 1000000 in
theorem writeQuoted_any (B b : Nat) (l : List UInt8) (c : UInt8) (w : World) (h : Holds B b l w) (hl : l.length ≤ 8000000) (hB : B ≤ w.heap.size) :
    Calls Tryz.prog 67 #[.pointer (some ⟨b, 0, none⟩), .int .u8 c.toNat] w fun e w' => e = .returned (.tuple #[]) ∧ Holds B b (l ++ esc c) w' ∧ Below B w w' := by
  unfold esc
  have hi := isHex_any c
  have hm := isMasked_any c
  cases hx : hexB c with
  | true =>
    rw [hx] at hi
    have hc := c.toNat_lt
    have p1 : (c.toNat : Int) / 16 % 256 < 16 := by omega
    have p2 : (c.toNat : Int) % 16 % 256 < 16 := by omega
    go_enter Tryz.func67, Tryz.ntmps67
    go_wp2_with (first
      | (go_at_call 73; refine (hi _).mono ?_; rintro e w' ⟨rfl, rfl⟩))
    refine (write_any B b l 92 _ (Or.inr h) (by omega) hB).mono ?_
    rintro e w1 ⟨rfl, h1, b1⟩
    have hB1 := Nat.le_trans hB b1.size
    go_wp2_with fail
    refine (write_any B b _ _ _ (Or.inr h1) (by simp; omega) hB1).mono ?_
    rintro e w2 ⟨rfl, h2, b2⟩
    have hB2 := Nat.le_trans hB1 b2.size
    go_wp2_with fail
    refine (write_any B b _ _ _ (Or.inr h2) (by simp; omega) hB2).mono ?_
    rintro e w3 ⟨rfl, h3, b3⟩
    go_wp2
    go_returns
    rw [hex_high, hex_low] at h3
    exact ⟨rfl, by simpa using h3, (b1.trans b2).trans b3⟩
  | false =>
    rw [hx] at hi
    cases hy : maskB c with
    | true =>
      rw [hy] at hm
      go_enter Tryz.func67, Tryz.ntmps67
      go_wp2_with (first
        | (go_at_call 73; refine (hi _).mono ?_; rintro e w' ⟨rfl, rfl⟩)
        | (go_at_call 74; refine (hm _).mono ?_; rintro e w' ⟨rfl, rfl⟩))
      refine (write_any B b l 92 _ (Or.inr h) (by omega) hB).mono ?_
      rintro e w1 ⟨rfl, h1, b1⟩
      have hB1 := Nat.le_trans hB b1.size
      go_wp2_with fail
      refine (write_any B b _ _ _ (Or.inr h1) (by simp; omega) hB1).mono ?_
      rintro e w2 ⟨rfl, h2, b2⟩
      go_wp2
      go_end0
      exact ⟨rfl, by simpa using h2, b1.trans b2⟩
    | false =>
      rw [hy] at hm
      go_enter Tryz.func67, Tryz.ntmps67
      go_wp2_with (first
        | (go_at_call 73; refine (hi _).mono ?_; rintro e w' ⟨rfl, rfl⟩)
        | (go_at_call 74; refine (hm _).mono ?_; rintro e w' ⟨rfl, rfl⟩))
      refine (write_any B b l c _ (Or.inr h) (by omega) hB).mono ?_
      rintro e w1 ⟨rfl, h1, b1⟩
      go_wp2
      go_end0
      exact ⟨rfl, by simpa using h1, b1⟩

set_option maxRecDepth 100000 in
set_option maxHeartbeats 1000000 in
theorem quote_any (s : ByteArray) (w : World) (hs : s.size ≤ 2097152) :
    Calls Tryz.prog 49 #[.string s] w fun e w' => e = .returned (.string ⟨(quote s.data.toList).toArray⟩) ∧ Below w.heap.size w w' := by
  go_enter Tryz.func49, Tryz.ntmps49
  go_wp2_with fail
  refine (write_any w.heap.size w.heap.size [] 34 _ (Lib.fresh_isBuilder _ _ w) (by simp) (by simp)).mono ?_
  rintro e w1 ⟨rfl, h1, b1⟩
  have B1 : Below w.heap.size w w1 := ((Below.refl _ _).alloc (Nat.le_refl _) _).trans b1
  have H1 : Holds w.heap.size w.heap.size (34 :: escs (s.data.toList.take 0)) w1 := by simpa [escs] using h1
  clear h1 b1
  go_wp2
  go_loopw [4] (fun i wr => ∃ k : Nat, k ≤ s.size ∧ i = .int .i64 k ∧ Holds w.heap.size w.heap.size (34 :: escs (s.data.toList.take k)) wr ∧ Below w.heap.size w wr) (fun i _ => s.size - (RowKit.intOf i).toNat)
  case atStart => exact ⟨0, Nat.zero_le _, rfl, H1, B1⟩
  case round =>
    obtain ⟨k, hk, rfl, hh, hbel⟩ := hrel
    have hlen : (34 :: escs (s.data.toList.take k)).length ≤ 8000000 := by
      have h1 := escs_len (s.data.toList.take k)
      have h2 : (s.data.toList.take k).length ≤ k := List.length_take_le _ _
      simp
      omega
    by_cases hlt : k < s.size
    · have hn : 34 :: escs (s.data.toList.take k) ++ esc s[k] = 34 :: escs (s.data.toList.take (k + 1)) := by
        have : s.data.toList.take (k + 1) = s.data.toList.take k ++ [s[k]] := by
          rw [List.take_succ_eq_append_getElem (by rw [Array.length_toList]; exact hlt)]
          rfl
        rw [this, escs_append]
        simp [escs]
      have hz := hbel.size
      have W := writeQuoted_any w.heap.size w.heap.size _ s[k] wr hh hlen hz
      rw [hn] at W
      clear hh hlen hn
      go_wp2_with (go_at_call 67; refine W.mono ?_; rintro e w2 ⟨rfl, h2, b2⟩)
      go_roundw
      case rel => exact ⟨k + 1, hlt, by go_num, h2, hbel.trans b2⟩
      case measure => simp [RowKit.intOf]; omega
    · have hke : k = s.size := by omega
      subst hke
      have hz := hbel.size
      have hq : 34 :: escs (s.data.toList.take s.size) ++ [34] = quote s.data.toList := by
        rw [List.take_of_length_le (by rw [Array.length_toList]; exact Nat.le_refl _)]
        rfl
      have W := write_any w.heap.size w.heap.size _ 34 wr (Or.inr hh) (by omega) hz
      rw [hq] at W
      clear hh hlen hq
      go_wp2_with (first
        | (go_at_call 58; refine W.mono ?_; rintro e w2 ⟨rfl, h2, b2⟩)
        | (go_at_call 13; refine (Tryz.builderString w.heap.size w.heap.size _ _ (Or.inr h2) (Nat.le_trans hz b2.size)).mono ?_; rintro e w3 ⟨rfl, b3⟩))
      go_ret
      exact ⟨rfl, (hbel.trans b2).trans b3⟩
end Go.Proofs.YtnoikdlofkcgaaaGreatDoor

namespace Go.Proofs.YtnoikdlofkcgaaaGreatDoor
open Go.RowKit

theorem hexd_num : ∀ n : Fin 16, (hexd n.val).toNat = if n.val < 10 then 48 + n.val else 87 + n.val := by decide

theorem infoB : (Tryz.prog.info? 5).map (fun i => (i.zero, i.size, i.bytes)) = some (some (.int .u8 0), 1, 1) := by kernel_rfl

/-- A slice of bytes that the call has made. -/
abbrev Row (B : Nat) (v : Value) (l : List UInt8) (w : World) : Prop := w.ownsRow B 5 1 v l.length (Lib.byteCells l)

theorem row_grown {B : Nat} {w wr w' : World} {v v' : Value} {l m : List UInt8} {o : Obj} (own : Row B v l wr) (bel : Below B w wr) (hB : B ≤ wr.heap.size) (hg : (wr.alloc o).grownBy w' v.ownBlock)
    (own' : w'.ownsRow B 5 1 v' (l.length + m.length) (Lib.byteCells l ++ Lib.byteCells m)) : Row B v' (l ++ m) w' ∧ Below B w w' := by
  refine ⟨?_, (bel.alloc hB o).grown hg (by simp; omega) (fun k hk => (own.lt k hk).1)⟩
  have e : Lib.byteCells (l ++ m) = Lib.byteCells l ++ Lib.byteCells m := by simp [Lib.byteCells]
  unfold Row
  rw [e, List.length_append]
  exact own'

theorem own_row_len {B : Nat} {v : Value} {l : List UInt8} {w : World} (h : Row B v l w) : ∃ a c, v = .slice a l.length c := by
  rcases h.2 with ⟨rfl, h0⟩ | ⟨g, cap, cur, rfl, _⟩
  · exact ⟨none, 0, by rw [h0]⟩
  · exact ⟨_, _, rfl⟩

theorem row_at (g t : Nat) : (⟨g, 0, none⟩ : Addr).add t = ⟨g, t, none⟩ := by cases t <;> simp [Addr.add]

/-- A slice that is not empty, and where its bytes lie. -/
theorem row_text {B : Nat} {v : Value} {l : List UInt8} {w : World} (h : Row B v l w) (h0 : l ≠ []) : ∃ g cap, v = .slice (some ⟨g, 0, none⟩) l.length cap ∧ ∀ t (ht : t < l.length), w.cell? ((⟨g, 0, none⟩ : Addr).add t) = some (.int .u8 l[t].toNat) := by
  rcases h.2 with ⟨rfl, hl⟩ | ⟨g, cap, cur, rfl, hg, hh, hc, hm, hz, ht⟩
  · exact absurd (List.length_eq_zero_iff.1 hl) h0
  · refine ⟨g, cap, rfl, fun t ht => ?_⟩
    rw [row_at, h.cellAt t (by omega)]
    simp [Lib.byteCells, ht]

end Go.Proofs.YtnoikdlofkcgaaaGreatDoor

namespace Go.Proofs.YtnoikdlofkcgaaaGreatDoor
open Go.RowKit

/-- How many words a number has. -/
def len32 (u : Nat) : Nat := if u = 0 then 0 else if u < 4294967296 then 1 else 2

/-- A number's words lie in a block. -/
def Words (w : World) (g u : Nat) : Prop := (1 ≤ len32 u → w.cell? ⟨g, 0, none⟩ = some (.int .u32 ((u : Int) % 4294967296))) ∧ (2 ≤ len32 u → w.cell? ⟨g, 1, none⟩ = some (.int .u32 ((u : Int) / 4294967296)))

theorem len32_le (u : Nat) : len32 u ≤ 2 := by unfold len32; split <;> (try split) <;> omega

theorem or_low (r x : Nat) (hr : r < 10) (hx : x < 4294967296) : bits .or .u64 ((r : Int) * 4294967296) x = (r : Int) * 4294967296 + x := by
  rw [u64_or _ _ (by omega) (by omega) (by omega) (by omega)]
  have h1 : ((r : Int) * 4294967296).toNat = 2 ^ 32 * r := by omega
  rw [h1, Int.toNat_natCast, ← Nat.two_pow_add_eq_or_of_lt (by omega)]
  omega

theorem wrap_neg (n : Int) (u : Nat) (hu : u ≤ 9223372036854775808) (hn : n = -(u : Int)) : IntKind.u64.wrap (-IntKind.u64.wrap n) = u := by
  simp only [IntKind.wrap_u64]
  omega

theorem infoW : (Tryz.prog.info? 148).map (fun i => (i.zero, i.size, i.bytes)) = some (some (.int .u32 0), 1, 4) := by kernel_rfl

theorem or_nought (x : Int) (h0 : 0 ≤ x) (h1 : x < 4294967296) : bits .or .u64 0 x = x := by
  rw [u64_or 0 x (by omega) (by omega) h0 (by omega)]
  simp [Int.toNat_of_nonneg h0]

end Go.Proofs.YtnoikdlofkcgaaaGreatDoor

namespace Go.Proofs.YtnoikdlofkcgaaaGreatDoor

theorem digit_nat (d : Nat) (h : d < 10) : (UInt8.ofNat (48 + d)).toNat = 48 + d := by
  rw [UInt8.toNat_ofNat']
  omega

theorem dec_digits : ∀ (k u : Nat), u < k → ∀ b ∈ Lib.decDigits u, 48 ≤ b.toNat ∧ b.toNat ≤ 57
  | 0, _, h, _, _ => by omega
  | k + 1, u, h, b, hb => by
    by_cases h10 : u < 10
    · rw [Lib.decDigits_one h10] at hb
      simp only [List.mem_singleton] at hb
      subst hb
      rw [digit_nat u h10]
      omega
    · rw [Lib.decDigits, dif_neg h10] at hb
      simp only [List.mem_append, List.mem_singleton] at hb
      rcases hb with hb | hb
      · exact dec_digits k (u / 10) (by omega) b hb
      · subst hb
        rw [digit_nat (u % 10) (by omega)]
        omega

theorem nDigits_le : ∀ (k u : Nat), u < 10 ^ (k + 1) → Lib.nDigits u ≤ k + 1
  | 0, u, h => by rw [Lib.nDigits_small (by simpa using h)]; omega
  | k + 1, u, h => by
    by_cases h10 : u < 10
    · rw [Lib.nDigits_small h10]; omega
    · rw [Lib.nDigits_big h10]
      have h1 : u / 10 < 10 ^ (k + 1) := by
        rw [Nat.pow_succ] at h
        omega
      have := nDigits_le k (u / 10) h1
      omega

theorem decFrom_append : ∀ (l r : List UInt8) (acc : Nat), Lib.decFrom acc (l ++ r) = (Lib.decFrom acc l).bind fun x => Lib.decFrom x r
  | [], r, acc => by simp [Lib.decFrom]
  | b :: l, r, acc => by
    simp only [List.cons_append, Lib.decFrom]
    cases Lib.digitVal b with
    | none => rfl
    | some d => exact decFrom_append l r _

theorem digitVal_digit (d : Nat) (h : d < 10) : Lib.digitVal (UInt8.ofNat (48 + d)) = some d := by
  unfold Lib.digitVal
  rw [digit_nat d h, if_pos ⟨by omega, by omega⟩]
  simp

theorem dec_back : ∀ (k u : Nat), u < k → Lib.decFrom 0 (Lib.decDigits u) = some u
  | 0, _, h => by omega
  | k + 1, u, h => by
    by_cases h10 : u < 10
    · rw [Lib.decDigits_one h10]
      simp only [Lib.decFrom, digitVal_digit u h10, Option.some.injEq]
      omega
    · rw [Lib.decDigits, dif_neg h10, decFrom_append, dec_back k (u / 10) (by omega)]
      simp only [Option.bind_some, Lib.decFrom, digitVal_digit (u % 10) (by omega), Option.some.injEq]
      omega

theorem dec_ne (u : Nat) : ∃ b r, Lib.decDigits u = b :: r := by
  have h := Lib.decDigits_length u
  have h1 := Lib.nDigits_pos u
  cases hd : Lib.decDigits u with
  | nil => rw [hd] at h; simp at h; omega
  | cons b r => exact ⟨b, r, rfl⟩

theorem atoi_dec (u : Nat) : Lib.atoi (Lib.decDigits u) = some (u : Int) := by
  obtain ⟨b, r, hd⟩ := dec_ne u
  have hb := dec_digits (u + 1) u (by omega) b (by rw [hd]; simp)
  have h45 : ¬ b = 45 := fun e => by subst e; simp at hb
  have h43 : ¬ b = 43 := fun e => by subst e; simp at hb
  have hf := dec_back (u + 1) u (by omega)
  rw [hd] at hf ⊢
  simp [Lib.atoi, h45, h43, Lib.decNat, hf]

theorem itoa_nat (n : Int) (h : 0 ≤ n) : Lib.itoa n = Lib.decDigits n.toNat := by
  unfold Lib.itoa
  rw [if_neg (by omega)]

theorem itoa_len (n : Int) (h : 0 ≤ n) (h1 : n ≤ 1000000) : (Lib.itoa n).length ≤ 7 := by
  rw [itoa_nat n h, Lib.decDigits_length]
  exact nDigits_le 6 n.toNat (by omega)

theorem atoiAll_itoa (n : Int) (h : 0 ≤ n) (h1 : n ≤ 1000000) : Lib.atoiAll (Lib.itoa n) = .ok n := by
  rw [Lib.atoiAll_short _ (by have := itoa_len n h h1; omega), itoa_nat n h, atoi_dec]
  have : (n.toNat : Int) = n := Int.toNat_of_nonneg h
  simp [Lib.NumEnd.ofOption, this]

theorem itoa_digits (n : Int) (h : 0 ≤ n) : ∀ b ∈ Lib.itoa n, 48 ≤ b.toNat ∧ b.toNat ≤ 57 := by
  rw [itoa_nat n h]
  exact dec_digits (n.toNat + 1) n.toNat (by omega)

theorem itoa_at (n : Int) (h : 0 ≤ n) : (64 : UInt8) ∉ Lib.itoa n := by
  intro hm
  have := itoa_digits n h 64 hm
  simp at this

/-- The number that a text stands for; 0: none. -/
def numV (l : List UInt8) : Int := match Lib.atoiAll l with
  | .ok v => v
  | _ => 0

theorem numV_itoa (n : Int) (h : 0 ≤ n) (h1 : n ≤ 1000000) : numV (Lib.itoa n) = n := by
  unfold numV
  rw [atoiAll_itoa n h h1]

/-- The name of a real id. -/
def nameL (n a : Int) : List UInt8 := Lib.itoa n ++ 64 :: Lib.itoa a

theorem ib_hit (x y : List UInt8) (h : (64 : UInt8) ∉ x) : Lib.indexByte (x ++ 64 :: y) 64 = x.length := by
  induction x with
  | nil => simp [Lib.indexByte]
  | cons b l ih =>
    have h1 : ¬ b = 64 := fun e => h (by simp [e])
    have h2 := ih (fun m => h (by simp [m]))
    have h3 : ¬ ((l.length : Int) = -1) := by omega
    simp [Lib.indexByte, h1, h2, h3]

theorem ib_miss (x : List UInt8) (h : (64 : UInt8) ∉ x) : Lib.indexByte x 64 = -1 := by
  induction x with
  | nil => simp [Lib.indexByte]
  | cons b l ih =>
    have h1 : ¬ b = 64 := fun e => h (by simp [e])
    have h2 := ih (fun m => h (by simp [m]))
    simp [Lib.indexByte, h1, h2]

theorem ex_front (s : ByteArray) (x y : List UInt8) (h : s.data.toList = x ++ 64 :: y) : s.extract 0 x.length = ⟨x.toArray⟩ := by
  apply ByteArray.ext
  apply Array.ext'
  rw [ByteArray.data_extract, Array.toList_extract, h]
  simp

theorem ex_back (s : ByteArray) (x y : List UInt8) (h : s.data.toList = x ++ 64 :: y) : s.extract (x.length + 1) s.size = ⟨y.toArray⟩ := by
  have hl : s.size = x.length + 1 + y.length := by
    have h1 := congrArg List.length h
    rw [Array.length_toList, List.length_append, List.length_cons] at h1
    rw [ByteArray.size]
    omega
  apply ByteArray.ext
  apply Array.ext'
  rw [ByteArray.data_extract, Array.toList_extract, h, hl]
  rw [List.extract_eq_take_drop, show x.length + 1 + y.length - (x.length + 1) = y.length from by omega]
  rw [show List.drop (x.length + 1) (x ++ 64 :: y) = y from by rw [List.drop_append]; simp]
  simp
end Go.Proofs.YtnoikdlofkcgaaaGreatDoor
