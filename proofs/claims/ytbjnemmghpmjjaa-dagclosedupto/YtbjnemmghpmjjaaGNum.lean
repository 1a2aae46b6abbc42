/-
  What is proved: the mathematics of numbers as bytes, seven bits a byte: what is written is read, and what is read is written so. the function Put of package bytes, called with any number, returns its bytes, and nothing that was there has turned. lists of bytes that lie in memory, and what a slice of them is. the functions asPut, Get, PutSigned and GetSigned of package bytes, called with any bytes and numbers, answer as the mathematics of numbers as bytes says, and nothing that was there has turned. the functions PutSigned and GetSigned of package bytes, called with any bytes and numbers, answer as the mathematics of numbers as bytes says, and nothing that was there has turned. what lies in rows and boxes of a call's own stays, while other ones grow or turn. refs as keys of maps, and maps with such keys that lie in memory, as lists of their entries. maps with refs as keys that lie in memory, as lists of their entries: what is looked up, put in, taken out and counted.
  Conditions: as each theorem says.
-/
import Derived.Test.YtbjnemmghpmjjaaProg
import Derived.WalkKit
import Derived.WalkSpells
import Derived.WalkLawsBesides
import Derived.Handy
import Derived.Deep.RegionWith
import Derived.Deep.RegionHeld3
import Derived.Deep.QuietTactic
import Derived.BigQuiet
import Derived.Lib.Builder
import Derived.Laws.BitsAllLaws
import Derived.Deep.DeepAppendWide
import Derived.Laws.AppendOwnNone
import Derived.Maps.RangeWalk
import Derived.Maps.OwnOps
import Derived.Maps.Ext
import Derived.DeepKeys4
namespace Go.Proofs.Ytbjnemmghpmjjaa

/-- A number's bytes, the low ones first, in at most so many steps. -/
def putF : Nat → Nat → List UInt8
  | 0, n => [UInt8.ofNat n]
  | f + 1, n => if n < 128 then [UInt8.ofNat n] else UInt8.ofNat (128 + n % 128) :: putF f (n / 128)

/-- A number's bytes, the low ones first. -/
def put (n : Nat) : List UInt8 := putF n n

theorem putF_same : ∀ (f g n : Nat), n ≤ f → n ≤ g → putF f n = putF g n
  | 0, 0, n, _, _ => rfl
  | 0, g + 1, n, h, _ => by
    have : n = 0 := by omega
    subst this
    rfl
  | f + 1, 0, n, _, h => by
    have : n = 0 := by omega
    subst this
    rfl
  | f + 1, g + 1, n, h1, h2 => by
    rw [putF, putF]
    by_cases h : n < 128
    · rw [if_pos h, if_pos h]
    · rw [if_neg h, if_neg h, putF_same f g (n / 128) (by omega) (by omega)]

/-- The number of bytes. -/
def val : List UInt8 → Nat
  | [] => 0
  | b :: r => b.toNat % 128 + 128 * val r

theorem put_small {n : Nat} (h : n < 128) : put n = [UInt8.ofNat n] := by
  unfold put
  cases n with
  | zero => rfl
  | succ n => rw [putF, if_pos h]
theorem put_more {n : Nat} (h : 128 ≤ n) : put n = UInt8.ofNat (128 + n % 128) :: put (n / 128) := by
  unfold put
  cases n with
  | zero => omega
  | succ n => rw [putF, if_neg (by omega), putF_same n ((n + 1) / 128) ((n + 1) / 128) (by omega) (Nat.le_refl _)]

theorem byte_low {n : Nat} (h : n < 128) : (UInt8.ofNat n).toNat = n := by simp; omega
theorem byte_high (n : Nat) : (UInt8.ofNat (128 + n % 128)).toNat = 128 + n % 128 := by simp; omega

theorem val_put (n : Nat) : val (put n) = n := by
  induction n using Nat.strongRecOn with
  | ind n ih =>
    by_cases h : n < 128
    · rw [put_small h, val, byte_low h]
      simp [val]
      omega
    · rw [put_more (by omega), val, byte_high, ih (n / 128) (by omega)]
      omega

theorem put_ne (n : Nat) : put n ≠ [] := by
  by_cases h : n < 128
  · rw [put_small h]; simp
  · rw [put_more (by omega)]; simp

theorem put_len : ∀ (k n : Nat), n < 128 ^ (k + 1) → (put n).length ≤ k + 1
  | 0, n, h => by rw [put_small (by simpa using h)]; simp
  | k + 1, n, h => by
    by_cases h1 : n < 128
    · rw [put_small h1]; simp
    · rw [put_more (by omega), List.length_cons]
      have := put_len k (n / 128) (by rw [Nat.pow_succ] at h; omega)
      omega

theorem put_len10 {n : Nat} (h : n < 18446744073709551616) : (put n).length ≤ 10 := put_len 9 n (by omega)

theorem put_pos (n : Nat) : 1 ≤ (put n).length := by
  cases e : put n with
  | nil => exact absurd e (put_ne n)
  | cons b r => simp

theorem val_append (l : List UInt8) (b : UInt8) : val (l ++ [b]) = val l + b.toNat % 128 * 128 ^ l.length := by
  induction l with
  | nil => simp [val]
  | cons c r ih =>
    rw [List.cons_append, val, val, ih, List.length_cons, Nat.pow_succ]
    rw [Nat.mul_add, ← Nat.add_assoc, Nat.mul_left_comm, Nat.mul_comm 128 (128 ^ r.length)]

theorem val_lt (l : List UInt8) : val l < 128 ^ l.length := by
  induction l with
  | nil => simp [val]
  | cons c r ih =>
    rw [val, List.length_cons, Nat.pow_succ]
    omega

/-- Bytes of which all but the last have 128 more, and the last has not. -/
def Framed (c : List UInt8) : Prop := ∃ l b, c = l ++ [b] ∧ b.toNat < 128 ∧ ∀ x ∈ l, 128 ≤ x.toNat

theorem framed_put (n : Nat) : Framed (put n) := by
  induction n using Nat.strongRecOn with
  | ind n ih =>
    by_cases h : n < 128
    · rw [put_small h]
      exact ⟨[], _, rfl, by rw [byte_low h]; exact h, by simp⟩
    · obtain ⟨l, b, e, h1, h2⟩ := ih (n / 128) (by omega)
      rw [put_more (by omega), e]
      refine ⟨_ :: l, b, rfl, h1, fun x hx => ?_⟩
      rcases List.mem_cons.1 hx with rfl | hx
      · rw [byte_high]; omega
      · exact h2 x hx

/-- The last byte of a written number is 0 of 0 alone. -/
theorem put_last (n : Nat) (l : List UInt8) (b : UInt8) (e : put n = l ++ [b]) (h : l ≠ []) : b.toNat ≠ 0 := by
  induction n using Nat.strongRecOn generalizing l with
  | ind n ih =>
    by_cases h1 : n < 128
    · rw [put_small h1] at e
      cases l with
      | nil => exact absurd rfl h
      | cons c r =>
        rw [List.cons_append] at e
        injection e with _ e2
        cases r <;> simp at e2
    · rw [put_more (by omega)] at e
      cases l with
      | nil => exact absurd rfl h
      | cons c r =>
        rw [List.cons_append] at e
        injection e with _ e2
        cases r with
        | nil =>
          by_cases h2 : n / 128 < 128
          · rw [put_small h2] at e2
            simp at e2
            rw [← e2, byte_low h2]
            omega
          · rw [put_more (by omega)] at e2
            simp at e2
            exact absurd e2.2 (put_ne _)
        | cons c2 r2 => exact ih (n / 128) (by omega) (c2 :: r2) e2 (by simp)

/-- Bytes that are framed, and whose last is not needless, are written so. -/
theorem put_val (l : List UInt8) (b : UInt8) (hb : b.toNat < 128) (hl : ∀ x ∈ l, 128 ≤ x.toNat) (h : l = [] ∨ b.toNat ≠ 0) : put (val (l ++ [b])) = l ++ [b] := by
  induction l with
  | nil =>
    simp only [List.nil_append, val]
    rw [put_small (by omega)]
    congr 1
    apply UInt8.toNat_inj.1
    rw [byte_low (by omega)]
    omega
  | cons c r ih =>
    have hb0 : b.toNat ≠ 0 := by rcases h with h | h; cases h; exact h
    have ih' := ih (fun x hx => hl x (List.mem_cons_of_mem _ hx)) (Or.inr hb0)
    have hpos : 1 ≤ val (r ++ [b]) := by
      rw [val_append]
      have : 1 ≤ 128 ^ r.length := Nat.pow_pos (by omega)
      have : 1 * 1 ≤ b.toNat % 128 * 128 ^ r.length := Nat.mul_le_mul (by omega) this
      omega
    have hc := hl c (List.mem_cons_self ..)
    have hc8 := c.toNat_lt
    rw [List.cons_append, val, put_more (by omega), show (c.toNat % 128 + 128 * val (r ++ [b])) / 128 = val (r ++ [b]) from by omega, ih']
    congr 1
    apply UInt8.toNat_inj.1
    rw [byte_high]
    omega

/-- What reading gives: the number, and how many bytes it has. -/
def get (l : List UInt8) : Option (Nat × Nat) :=
  match (l.take 10).findIdx? (fun b => decide (b.toNat < 128)) with
  | none => none
  | some i => if put (val (l.take (i + 1)) % 18446744073709551616) = l.take (i + 1) then some (val (l.take (i + 1)) % 18446744073709551616, i + 1) else none

theorem find_at {l : List UInt8} {i : Nat} (h : i < l.length) (hi : i < 10) (h1 : l[i].toNat < 128) (h2 : ∀ j (hj : j < i), 128 ≤ (l[j]'(by omega)).toNat) : (l.take 10).findIdx? (fun b => decide (b.toNat < 128)) = some i := by
  rw [List.findIdx?_eq_some_iff_getElem]
  refine ⟨by rw [List.length_take]; omega, by rw [List.getElem_take]; simpa using h1, fun j hj => ?_⟩
  rw [List.getElem_take]
  have := h2 j hj
  simp
  omega

theorem find_no {l : List UInt8} (h : ∀ j (hj : j < l.length), j < 10 → 128 ≤ l[j].toNat) : (l.take 10).findIdx? (fun b => decide (b.toNat < 128)) = none := by
  rw [List.findIdx?_eq_none_iff]
  intro x hx
  obtain ⟨j, hj, rfl⟩ := List.getElem_of_mem hx
  rw [List.length_take] at hj
  rw [List.getElem_take]
  have := h j (by omega) (by omega)
  simp
  omega

/-- What is written is read, whatever stands behind it. -/
theorem get_put (n : Nat) (h : n < 18446744073709551616) (r : List UInt8) : get (put n ++ r) = some (n, (put n).length) := by
  obtain ⟨l, b, e, h1, h2⟩ := framed_put n
  have hl := put_len10 h
  have hll : (put n).length = l.length + 1 := by rw [e]; simp
  have hf : ((put n ++ r).take 10).findIdx? (fun b => decide (b.toNat < 128)) = some l.length := by
    refine find_at (by rw [List.length_append]; omega) (by omega) ?_ fun j hj => ?_
    · simp only [e]
      rw [List.getElem_append_left (by simp)]
      simpa using h1
    · simp only [e]
      rw [List.getElem_append_left (by simp; omega), List.getElem_append_left hj]
      exact h2 _ (List.getElem_mem _)
  have ht : (put n ++ r).take (l.length + 1) = put n := by rw [← hll]; simp
  unfold get
  rw [hf]
  simp only
  rw [ht, val_put, Nat.mod_eq_of_lt h, if_pos rfl, hll]

/-- What is read is written so. -/
theorem get_some {l : List UInt8} {n k : Nat} (h : get l = some (n, k)) : put n = l.take k ∧ n < 18446744073709551616 ∧ 1 ≤ k ∧ k ≤ l.length ∧ k ≤ 10 := by
  unfold get at h
  split at h
  · cases h
  · rename_i i hi
    rw [List.findIdx?_eq_some_iff_getElem] at hi
    obtain ⟨hi1, _, _⟩ := hi
    rw [List.length_take] at hi1
    split at h
    · rename_i hp
      injection h with h
      injection h with h1 h2
      subst h1 h2
      exact ⟨hp, Nat.mod_lt _ (by omega), by omega, by omega, by omega⟩
    · cases h

/-- The other way of reading: the last byte is not needless, and the number has at most 64 bits. -/
theorem get_other {l : List UInt8} {b : UInt8} (hb : b.toNat < 128) (h : ∀ x ∈ l, 128 ≤ x.toNat) :
    put (val (l ++ [b]) % 18446744073709551616) = l ++ [b] ↔ (l = [] ∨ b.toNat ≠ 0) ∧ val (l ++ [b]) < 18446744073709551616 := by
  constructor
  · intro e
    have hv : val (l ++ [b]) = val (l ++ [b]) % 18446744073709551616 := by
      conv => lhs; rw [← e]
      rw [val_put]
    refine ⟨?_, by omega⟩
    by_cases h0 : l = []
    · exact Or.inl h0
    · exact Or.inr (put_last _ l b e h0)
  · rintro ⟨h1, h2⟩
    rw [Nat.mod_eq_of_lt h2]
    exact put_val l b hb h h1

/-- A number that may be below 0, as one that is not. -/
def zig (n : Int) : Nat := if n < 0 then (-2 * n - 1).toNat else (2 * n).toNat

/-- And back. -/
def zag (d : Nat) : Int := if d % 2 = 1 then -((d / 2 : Nat) : Int) - 1 else ((d / 2 : Nat) : Int)

theorem zag_zig (n : Int) : zag (zig n) = n := by
  unfold zag zig
  split <;> split <;> omega

theorem zig_zag (d : Nat) : zig (zag d) = d := by
  unfold zag zig
  split <;> split <;> omega

theorem zig_lt {n : Int} (h1 : -9223372036854775808 ≤ n) (h2 : n < 9223372036854775808) : zig n < 18446744073709551616 := by
  unfold zig
  split <;> omega

theorem zag_range {d : Nat} (h : d < 18446744073709551616) : -9223372036854775808 ≤ zag d ∧ zag d < 9223372036854775808 := by
  unfold zag
  split <;> omega
end Go.Proofs.Ytbjnemmghpmjjaa

namespace Go.Proofs.Ytbjnemmghpmjjaa
open Go.RowKit

theorem infoB : (Try.prog.info? 5).map (fun i => (i.zero, i.size, i.bytes)) = some (some (.int .u8 0), 1, 1) := by kernel_rfl

/-- A slice of bytes that the call has made. -/
abbrev Row (B : Nat) (v : Value) (l : List UInt8) (w : World) : Prop := w.ownsRow B 5 1 v l.length (Lib.byteCells l)

theorem row_grown {B : Nat} {w wr w' : World} {v v' : Value} {l m : List UInt8} {o : Obj} (own : Row B v l wr) (bel : Below B w wr) (hB : B ≤ wr.heap.size) (hg : (wr.alloc o).grownBy w' v.ownBlock)
    (own' : w'.ownsRow B 5 1 v' (l.length + m.length) (Lib.byteCells l ++ Lib.byteCells m)) : Row B v' (l ++ m) w' ∧ Below B w w' := by
  refine ⟨?_, (bel.alloc hB o).grown hg (by simp; omega) (fun k hk => (own.lt k hk).1)⟩
  have e : Lib.byteCells (l ++ m) = Lib.byteCells l ++ Lib.byteCells m := by simp [Lib.byteCells]
  unfold Row
  rw [e, List.length_append]
  exact own'

theorem own_row_len {B : Nat} {v : Value} {l : List UInt8} {w : World} (h : Row B v l w) : ∃ a c, v = .slice a l.length c := by
  rcases h.2 with ⟨rfl, h0⟩ | ⟨g, cap, cur, rfl, _⟩
  · exact ⟨none, 0, by rw [h0]⟩
  · exact ⟨_, _, rfl⟩

theorem row_at (g t : Nat) : (⟨g, 0, none⟩ : Addr).add t = ⟨g, t, none⟩ := by cases t <;> simp [Addr.add]

theorem or_more (m : Nat) : bits .or .u8 ((m : Int) % 256) 128 = 128 + (m : Int) % 128 := by
  have h : ∀ k : Fin 256, bits .or .u8 (k.val : Int) 128 = 128 + (k.val : Int) % 128 := by decide +kernel
  have := h ⟨m % 256, by omega⟩
  simp only at this
  rw [show ((m : Int) % 256) = ((m % 256 : Nat) : Int) from by omega, this]
  omega

end Go.Proofs.Ytbjnemmghpmjjaa

namespace Go.Proofs.Ytbjnemmghpmjjaa
open Go.RowKit

/-- A slice value that holds bytes. -/
def IsBytes (w : World) (v : Value) (l : List UInt8) : Prop :=
  ∃ a cap, v = .slice a l.length cap ∧ l.length ≤ cap ∧ l.length ≤ 140737488400000 ∧ (l ≠ [] → ∃ b off, a = some ⟨b, off, none⟩ ∧ b < w.heap.size ∧ ∀ i (h : i < l.length), w.cell? ⟨b, off + i, none⟩ = some (.int .u8 l[i].toNat))

theorem IsBytes.below {w w' : World} {v : Value} {l : List UInt8} (h : IsBytes w v l) (hb : Below w.heap.size w w') : IsBytes w' v l := by
  obtain ⟨a, cap, rfl, h1, h2, h3⟩ := h
  refine ⟨a, cap, rfl, h1, h2, fun hl => ?_⟩
  obtain ⟨b, off, rfl, h4, h5⟩ := h3 hl
  exact ⟨b, off, rfl, Nat.lt_of_lt_of_le h4 hb.size, fun i hi => by rw [hb.cell (p := ⟨b, off + i, none⟩) h4]; exact h5 i hi⟩

theorem Row.bytes {B : Nat} {w : World} {v : Value} {l : List UInt8} (h : Row B v l w) (hl : l.length ≤ 140737488400000) : IsBytes w v l := by
  rcases h.2 with ⟨rfl, h0⟩ | ⟨g, cap, cur, rfl, hg, hh, hc, hm, hz, ht⟩
  · exact ⟨none, 0, by rw [h0], by omega, hl, fun h => absurd (List.length_eq_zero_iff.1 h0) h⟩
  · refine ⟨_, cap, rfl, hc, hl, fun _ => ⟨g, 0, rfl, ?_, fun i hi => ?_⟩⟩
    · rcases Nat.lt_or_ge g w.heap.size with h1 | h1
      · exact h1
      · rw [Array.getElem?_eq_none h1] at hh; cases hh
    · rw [Nat.zero_add, h.cellAt i (by omega)]
      simp [Lib.byteCells, hi]

theorem IsBytes.take {w : World} {b off cap : Nat} {l : List UInt8} (h : IsBytes w (.slice (some ⟨b, off, none⟩) l.length cap) l) (k : Nat) (hk : k ≤ l.length) : IsBytes w (.slice (some ⟨b, off, none⟩) k cap) (l.take k) := by
  obtain ⟨a, cap', e, h1, h2, h3⟩ := h
  injection e with e1 e2 e3
  subst e1 e3
  have hl : (l.take k).length = k := by rw [List.length_take]; omega
  refine ⟨_, cap, by rw [hl], by omega, by omega, fun hne => ?_⟩
  obtain ⟨b', off', e, h4, h5⟩ := h3 (fun e => hne (by rw [e]; simp))
  injection e with e
  injection e with e1 e2
  subst e1 e2
  refine ⟨b, off, rfl, h4, fun i hi => ?_⟩
  rw [List.getElem_take]
  exact h5 i (by omega)

theorem IsBytes.drop {w : World} {b off cap : Nat} {l : List UInt8} (h : IsBytes w (.slice (some ⟨b, off, none⟩) l.length cap) l) (k : Nat) (hk : k ≤ l.length) : IsBytes w (.slice (some ⟨b, off + k, none⟩) (l.length - k) (cap - k)) (l.drop k) := by
  obtain ⟨a, cap', e, h1, h2, h3⟩ := h
  injection e with e1 e2 e3
  subst e1 e3
  have hl : (l.drop k).length = l.length - k := by rw [List.length_drop]
  refine ⟨_, cap - k, by rw [hl], by omega, by omega, fun hne => ?_⟩
  obtain ⟨b', off', e, h4, h5⟩ := h3 (fun e => hne (by rw [e]; simp))
  injection e with e
  injection e with e1 e2
  subst e1 e2
  refine ⟨b, off + k, rfl, h4, fun i hi => ?_⟩
  rw [List.getElem_drop, Nat.add_assoc]
  exact h5 (k + i) (by omega)

theorem below_drew {B : Nat} {w wr : World} (h : Below B w wr) (n : Nat) : Below B w (wr.drewN n) := ⟨h.os, h.tape, h.output, h.size, h.block⟩

theorem take_same {l m : List UInt8} (k : Nat) (h1 : k < l.length) (h2 : k < m.length) (h : l.take k = m.take k) (e : l[k] = m[k]) : l.take (k + 1) = m.take (k + 1) := by
  rw [List.take_succ_eq_append_getElem h1, List.take_succ_eq_append_getElem h2, h, e]

end Go.Proofs.Ytbjnemmghpmjjaa

namespace Go.Proofs.Ytbjnemmghpmjjaa
open Go.RowKit

/-- What a reading answers. -/
def getV (o : Option (Nat × Nat)) : Value :=
  match o with
  | some (n, k) => .tuple #[.int .u64 n, .int .i64 k, .nilIface]
  | none => .tuple #[.int .u64 0, .int .i64 0, .iface 47 (.int .i64 9)]

theorem val_take {l : List UInt8} {k : Nat} (h : k < l.length) : val (l.take (k + 1)) = val (l.take k) + l[k].toNat % 128 * 128 ^ k := by
  rw [List.take_succ_eq_append_getElem h, val_append, List.length_take, Nat.min_eq_left (by omega)]

theorem or_key (V x c P i : Nat) (Q : Int) (hP : P = 2 ^ i) (hV : V < P) (hV2 : V < 18446744073709551616) (hc : P * c < 18446744073709551616) (hw : IntKind.u64.wrap ((x : Int) % 128 * Q) = ((P * c : Nat) : Int)) :
    bits .or .u64 (V : Int) (IntKind.u64.wrap ((x : Int) % 128 * Q)) = ((V + P * c : Nat) : Int) := by
  rw [hw]
  rw [u64_or _ _ (by omega) (by omega) (by omega) (by omega), Int.toNat_natCast, Int.toNat_natCast]
  subst hP
  rw [Nat.or_comm, ← Nat.two_pow_add_eq_or_of_lt hV]
  congr 1
  omega

theorem or_step (V x : Nat) : ∀ k : Nat, k ≤ 9 → V < 128 ^ k → bits .or .u64 (V : Int) (IntKind.u64.wrap ((x : Int) % 128 * 2 ^ (7 * k))) = (((V + x % 128 * 128 ^ k) % 18446744073709551616 : Nat) : Int)
  | 0, _, hV => by
    rw [or_key V x (x % 128) 1 0 (2 ^ (7 * 0)) rfl (by omega) (by omega) (by omega) (by simp only [IntKind.wrap_u64]; omega)]
    congr 1
    omega
  | 1, _, hV => by
    rw [or_key V x (x % 128) 128 7 (2 ^ (7 * 1)) rfl (by omega) (by omega) (by omega) (by simp only [IntKind.wrap_u64]; omega)]
    congr 1
    omega
  | 2, _, hV => by
    rw [or_key V x (x % 128) 16384 14 (2 ^ (7 * 2)) rfl (by omega) (by omega) (by omega) (by simp only [IntKind.wrap_u64]; omega)]
    congr 1
    omega
  | 3, _, hV => by
    rw [or_key V x (x % 128) 2097152 21 (2 ^ (7 * 3)) rfl (by omega) (by omega) (by omega) (by simp only [IntKind.wrap_u64]; omega)]
    congr 1
    omega
  | 4, _, hV => by
    rw [or_key V x (x % 128) 268435456 28 (2 ^ (7 * 4)) rfl (by omega) (by omega) (by omega) (by simp only [IntKind.wrap_u64]; omega)]
    congr 1
    omega
  | 5, _, hV => by
    rw [or_key V x (x % 128) 34359738368 35 (2 ^ (7 * 5)) rfl (by omega) (by omega) (by omega) (by simp only [IntKind.wrap_u64]; omega)]
    congr 1
    omega
  | 6, _, hV => by
    rw [or_key V x (x % 128) 4398046511104 42 (2 ^ (7 * 6)) rfl (by omega) (by omega) (by omega) (by simp only [IntKind.wrap_u64]; omega)]
    congr 1
    omega
  | 7, _, hV => by
    rw [or_key V x (x % 128) 562949953421312 49 (2 ^ (7 * 7)) rfl (by omega) (by omega) (by omega) (by simp only [IntKind.wrap_u64]; omega)]
    congr 1
    omega
  | 8, _, hV => by
    rw [or_key V x (x % 128) 72057594037927936 56 (2 ^ (7 * 8)) rfl (by omega) (by omega) (by omega) (by simp only [IntKind.wrap_u64]; omega)]
    congr 1
    omega
  | 9, _, hV => by
    rw [or_key V x (x % 2) 9223372036854775808 63 (2 ^ (7 * 9)) rfl (by omega) (by omega) (by omega) (by simp only [IntKind.wrap_u64]; omega)]
    congr 1
    omega
  | k + 10, h, _ => by omega

theorem pow_le9 {k : Nat} (h : k ≤ 9) : 128 ^ k ≤ 9223372036854775808 := by
  have := Nat.pow_le_pow_right (n := 128) (by omega) h
  omega

end Go.Proofs.Ytbjnemmghpmjjaa

namespace Go.Proofs.Ytbjnemmghpmjjaa
open Go.RowKit

theorem wrap_zig_neg {n : Int} (h1 : -9223372036854775808 ≤ n) (h2 : n < 0) : IntKind.u64.wrap (wrap64 (wrap64 (-2 * n) - 1)) = (zig n : Int) := by
  unfold zig
  rw [if_pos h2]
  simp only [IntKind.wrap_u64, wrap64]
  omega

theorem wrap_zig_pos {n : Int} (h1 : 0 ≤ n) (h2 : n < 9223372036854775808) : IntKind.u64.wrap (wrap64 (2 * n)) = (zig n : Int) := by
  unfold zig
  rw [if_neg (by omega)]
  simp only [IntKind.wrap_u64, wrap64]
  omega

/-- What a reading of a number that may be below 0 answers. -/
def getSV (o : Option (Nat × Nat)) : Value :=
  match o with
  | some (n, k) => .tuple #[.int .i64 (zag n), .int .i64 k, .nilIface]
  | none => .tuple #[.int .i64 0, .int .i64 0, .iface 47 (.int .i64 9)]

end Go.Proofs.Ytbjnemmghpmjjaa

namespace Go.Proofs.Ytbjnemmghpmjjaa
open Go.RowKit

/-- A number of 64 bits. -/
def I64 (x : Int) : Prop := -9223372036854775808 ≤ x ∧ x < 9223372036854775808

theorem i64_wrap (x : Int) : I64 (wrap64 x) := by unfold I64 wrap64; omega

theorem own_below {B C e s n : Nat} {w w' : World} {v : Value} {xs : List Value} (h : w.ownsRow B e s v n xs) (hb : Below C w w') (hC : w.heap.size ≤ C) : w'.ownsRow B e s v n xs := by
  refine ⟨h.1, ?_⟩
  rcases h.2 with h0 | ⟨g, cap, cur, h1, h2, h3, h4⟩
  · exact Or.inl h0
  · refine Or.inr ⟨g, cap, cur, h1, h2, ?_, h4⟩
    have hlt : g < w.heap.size := by
      rcases Nat.lt_or_ge g w.heap.size with h | h
      · exact h
      · rw [Array.getElem?_eq_none h] at h3; cases h3
    rw [hb.block g (by omega)]
    exact h3

/-- A row that has grown by another. -/
theorem row_grown0 {B : Nat} {w wr w' : World} {v v' : Value} {l m : List UInt8} (own : Row B v l wr) (bel : Below B w wr) (hB : B ≤ wr.heap.size) (hg : wr.grownBy w' v.ownBlock)
    (own' : w'.ownsRow B 5 1 v' (l.length + m.length) (Lib.byteCells l ++ Lib.byteCells m)) : Row B v' (l ++ m) w' ∧ Below B w w' := by
  refine ⟨?_, bel.grown hg hB (fun k hk => (own.lt k hk).1)⟩
  have e : Lib.byteCells (l ++ m) = Lib.byteCells l ++ Lib.byteCells m := by simp [Lib.byteCells]
  unfold Row
  rw [e, List.length_append]
  exact own'

theorem box_grown0 {B e s b n : Nat} {T : TypeId} {wr w' : World} {v : Value} {xs : List Value} {cs : Array Value} (own : wr.ownsRow B e s v n xs) (hb : wr.heap[b]? = some (.cells cs T)) (hT : T ≠ e) (hg : wr.grownBy w' v.ownBlock) : w'.heap[b]? = some (.cells cs T) := by
  have hlt : b < wr.heap.size := by
    rcases Nat.lt_or_ge b wr.heap.size with h | h
    · exact h
    · rw [Array.getElem?_eq_none h] at hb; cases hb
  have hne : some b ≠ v.ownBlock := by
    intro e1
    rcases own.2 with ⟨rfl, _⟩ | ⟨g, cap, cur, rfl, _, hh, _⟩
    · cases e1
    · have : b = g := Option.some.inj e1
      subst this
      rw [hb] at hh
      injection hh with hh
      injection hh with _ hh _
      exact hT hh
  rw [hg.block b hlt hne]
  exact hb

theorem heap_below {B b : Nat} {w w' : World} {o : Obj} (h : w.heap[b]? = some o) (hb : Below B w w') (hB : w.heap.size ≤ B) : w'.heap[b]? = some o := by
  have hlt : b < w.heap.size := by
    rcases Nat.lt_or_ge b w.heap.size with h1 | h1
    · exact h1
    · rw [Array.getElem?_eq_none h1] at h; cases h
  rw [hb.block b (by omega)]
  exact h

/-- A slice of bytes that is not empty, and where its bytes lie. -/
theorem row_text {B : Nat} {v : Value} {l : List UInt8} {w : World} (h : Row B v l w) (h0 : l ≠ []) : ∃ g cap, v = .slice (some ⟨g, 0, none⟩) l.length cap ∧ ∀ (j : Nat) (u : Value), (Lib.byteCells l)[j]? = some u → w.cell? ((⟨g, 0, none⟩ : Addr).add j) = some u := by
  rcases h.2 with ⟨rfl, hl⟩ | ⟨g, cap, cur, rfl, hg, hh, hc, hm, hz, ht⟩
  · exact absurd (List.length_eq_zero_iff.1 hl) h0
  · refine ⟨g, cap, rfl, fun j u hj => ?_⟩
    have hlt : j < l.length := by
      rcases Nat.lt_or_ge j l.length with h1 | h1
      · exact h1
      · rw [List.getElem?_eq_none (by simpa [Lib.byteCells] using h1)] at hj; cases hj
    rw [row_at, h.cellAt j (by omega)]
    exact hj

theorem one_cell (l : List UInt8) : ∀ u ∈ Lib.byteCells l, u.oneCell' = true := by
  intro u hu
  unfold Lib.byteCells at hu
  rw [List.mem_map] at hu
  obtain ⟨b, _, rfl⟩ := hu
  rfl

theorem cells_len (l : List UInt8) : (Lib.byteCells l).length = l.length * 1 := by simp [Lib.byteCells]

/-- A box stays as it is while a row of another type grows. -/
theorem box_grown {B e s b n : Nat} {T : TypeId} {wr w' : World} {v : Value} {xs : List Value} {cs : Array Value} {o : Obj} (own : wr.ownsRow B e s v n xs) (hb : wr.heap[b]? = some (.cells cs T)) (hT : T ≠ e) (hg : (wr.alloc o).grownBy w' v.ownBlock) : w'.heap[b]? = some (.cells cs T) := by
  have hlt : b < wr.heap.size := by
    rcases Nat.lt_or_ge b wr.heap.size with h | h
    · exact h
    · rw [Array.getElem?_eq_none h] at hb; cases hb
  have hne : some b ≠ v.ownBlock := by
    intro e1
    rcases own.2 with ⟨rfl, _⟩ | ⟨g, cap, cur, rfl, _, hh, _⟩
    · cases e1
    · have : b = g := Option.some.inj e1
      subst this
      rw [hb] at hh
      injection hh with hh
      injection hh with _ hh _
      exact hT hh
  rw [hg.block b (by simp; omega) hne, ((Below.refl wr.heap.size wr).alloc (Nat.le_refl _) o).block b hlt]
  exact hb

theorem isBytes_nil (w : World) (a : Option Addr) (c : Nat) : IsBytes w (.slice a 0 c) [] := ⟨a, c, rfl, by simp, by simp, fun h => absurd rfl h⟩

theorem get_nil : get [] = none := rfl

theorem own_mono {B C e s n : Nat} {w : World} {v : Value} {xs : List Value} (h : w.ownsRow B e s v n xs) (hC : C ≤ B) : w.ownsRow C e s v n xs := by
  refine ⟨h.1, ?_⟩
  rcases h.2 with h0 | ⟨g, cap, cur, h1, h2, h3⟩
  · exact Or.inl h0
  · exact Or.inr ⟨g, cap, cur, h1, Nat.le_trans hC h2, h3⟩

theorem take_snoc {α : Type} (l : List α) (k : Nat) (h : k < l.length) : l.take (k + 1) = l.take k ++ [l[k]] := List.take_succ_eq_append_getElem h


/-- Two numbers. -/
abbrev Pr : Type := Int × Int

/-- The cells of pairs. -/
def pcells (p : List Pr) : List Value := p.flatMap fun q => [.int .i64 q.1, .int .i64 q.2]

theorem pcells_len (p : List Pr) : (pcells p).length = p.length * 2 := by
  induction p with
  | nil => rfl
  | cons q r ih =>
    unfold pcells at ih ⊢
    rw [List.flatMap_cons, List.length_append, ih]
    simp
    omega

theorem pcells_append (p q : List Pr) : pcells (p ++ q) = pcells p ++ pcells q := by simp [pcells]

theorem pcells_at (p : List Pr) (i : Nat) (h : i < p.length) : (pcells p)[i * 2]? = some (.int .i64 p[i].1) ∧ (pcells p)[i * 2 + 1]? = some (.int .i64 p[i].2) := by
  induction p generalizing i with
  | nil => simp at h
  | cons q r ih =>
    have e : pcells (q :: r) = .int .i64 q.1 :: .int .i64 q.2 :: pcells r := by simp [pcells]
    rw [e]
    cases i with
    | zero => simp
    | succ i =>
      have := ih i (by simpa using h)
      rw [show (i + 1) * 2 = i * 2 + 1 + 1 from by omega]
      simpa using this

/-- A slice value that holds pairs. -/
def IsPairs (w : World) (v : Value) (p : List Pr) : Prop :=
  ∃ a cap, v = .slice a p.length cap ∧ p.length ≤ cap ∧ p.length ≤ 8796093022208 ∧ (∀ q ∈ p, I64 q.1 ∧ I64 q.2) ∧ (p ≠ [] → ∃ b off, a = some ⟨b, off, none⟩ ∧ b < w.heap.size ∧ ∀ i (h : i < p.length), w.cell? ⟨b, off + i * 2, none⟩ = some (.int .i64 p[i].1) ∧ w.cell? ⟨b, off + i * 2 + 1, none⟩ = some (.int .i64 p[i].2))

theorem IsPairs.below {w w' : World} {v : Value} {p : List Pr} (h : IsPairs w v p) (hb : Below w.heap.size w w') : IsPairs w' v p := by
  obtain ⟨a, cap, rfl, h1, h2, hr, h3⟩ := h
  refine ⟨a, cap, rfl, h1, h2, hr, fun hl => ?_⟩
  obtain ⟨b, off, rfl, h4, h5⟩ := h3 hl
  exact ⟨b, off, rfl, Nat.lt_of_lt_of_le h4 hb.size, fun i hi => ⟨by rw [hb.cell (p := ⟨b, off + i * 2, none⟩) h4]; exact (h5 i hi).1, by rw [hb.cell (p := ⟨b, off + i * 2 + 1, none⟩) h4]; exact (h5 i hi).2⟩⟩

theorem isPairs_nil (w : World) (a : Option Addr) (c : Nat) : IsPairs w (.slice a 0 c) [] := ⟨a, c, rfl, by simp, by simp, by simp, fun h => absurd rfl h⟩

/-- A slice of pairs that the call has made. -/
abbrev RowPr (T : TypeId) (B : Nat) (v : Value) (p : List Pr) (w : World) : Prop := w.ownsRow B T 2 v p.length (pcells p)

theorem rowPr_grown {T : TypeId} {B : Nat} {w wr w' : World} {v v' : Value} {l m : List Pr} {o : Obj} (own : RowPr T B v l wr) (bel : Below B w wr) (hB : B ≤ wr.heap.size) (hg : (wr.alloc o).grownBy w' v.ownBlock)
    (own' : w'.ownsRow B T 2 v' (l.length + m.length) (pcells l ++ pcells m)) : RowPr T B v' (l ++ m) w' ∧ Below B w w' := by
  refine ⟨?_, (bel.alloc hB o).grown hg (by simp; omega) (fun k hk => (own.lt k hk).1)⟩
  unfold RowPr
  rw [pcells_append, List.length_append]
  exact own'

theorem rowPr_len {T : TypeId} {B : Nat} {v : Value} {l : List Pr} {w : World} (h : RowPr T B v l w) : ∃ a c, v = .slice a l.length c := by
  rcases h.2 with ⟨rfl, h0⟩ | ⟨g, cap, cur, rfl, _⟩
  · exact ⟨none, 0, by rw [h0]⟩
  · exact ⟨_, _, rfl⟩

theorem RowPr.pairs {T : TypeId} {B : Nat} {w : World} {v : Value} {p : List Pr} (h : RowPr T B v p w) (hl : p.length ≤ 8796093022208) (hr : ∀ q ∈ p, I64 q.1 ∧ I64 q.2) : IsPairs w v p := by
  rcases h.2 with ⟨rfl, h0⟩ | ⟨g, cap, cur, rfl, hg, hh, hc, hm, hz, ht⟩
  · exact ⟨none, 0, by rw [h0], by omega, hl, hr, fun h => absurd (List.length_eq_zero_iff.1 h0) h⟩
  · refine ⟨_, cap, rfl, hc, hl, hr, fun _ => ⟨g, 0, rfl, ?_, fun i hi => ⟨?_, ?_⟩⟩⟩
    · rcases Nat.lt_or_ge g w.heap.size with h1 | h1
      · exact h1
      · rw [Array.getElem?_eq_none h1] at hh; cases hh
    · rw [Nat.zero_add, h.cellAt (i * 2) (by omega), (pcells_at p i hi).1]
    · rw [Nat.zero_add, h.cellAt (i * 2 + 1) (by omega), (pcells_at p i hi).2]

/-- All but one block is as it was. -/
structure Off (g : Nat) (w w' : World) : Prop where
  os : w'.os = w.os
  tape : w'.tape = w.tape
  output : w'.output = w.output
  size : w.heap.size ≤ w'.heap.size
  block : ∀ k, k < w.heap.size → k ≠ g → w'.heap[k]? = w.heap[k]?

theorem Off.refl (g : Nat) (w : World) : Off g w w := ⟨rfl, rfl, rfl, Nat.le_refl _, fun _ _ _ => rfl⟩
theorem Off.of {g : Nat} {w w' : World} (h : Below w.heap.size w w') : Off g w w' := ⟨h.os, h.tape, h.output, h.size, fun k hk _ => h.block k hk⟩
theorem Off.trans {g : Nat} {w w1 w2 : World} (h : Off g w w1) (k : Off g w1 w2) : Off g w w2 :=
  ⟨k.os.trans h.os, k.tape.trans h.tape, k.output.trans h.output, Nat.le_trans h.size k.size, fun b hb hg => (k.block b (Nat.lt_of_lt_of_le hb h.size) hg).trans (h.block b hb hg)⟩
theorem Off.below {g B : Nat} {w w' : World} (h : Off g w w') (hB : B ≤ g) (hz : B ≤ w.heap.size) : Below B w w' := ⟨h.os, h.tape, h.output, h.size, fun k hk => h.block k (by omega) (by omega)⟩
theorem Off.set {g : Nat} {w w' : World} (h : Off g w w') (o : Nat) (v : Value) : Off g w (w'.setCell ⟨g, o, none⟩ v) := by
  have hb : Below g w' (w'.setCell ⟨g, o, none⟩ v) := (Below.refl g w').setCell (Nat.le_refl _) v
  refine ⟨hb.os.trans h.os, hb.tape.trans h.tape, hb.output.trans h.output, Nat.le_trans h.size hb.size, fun k hk hg => ?_⟩
  rw [Below.heap_setCell _ _ _ _ hg]
  exact h.block k hk hg

theorem Off.heap {g b : Nat} {w w' : World} {o : Obj} (h : Off g w w') (hb : w.heap[b]? = some o) (hne : b ≠ g) : w'.heap[b]? = some o := by
  have hlt : b < w.heap.size := by
    rcases Nat.lt_or_ge b w.heap.size with h1 | h1
    · exact h1
    · rw [Array.getElem?_eq_none h1] at hb; cases hb
  rw [h.block b hlt hne]
  exact hb

theorem own_off {B e s n g : Nat} {T : TypeId} {cs : Array Value} {w w' : World} {v : Value} {xs : List Value} (h : w.ownsRow B e s v n xs) (hg : w.heap[g]? = some (.cells cs T)) (hT : T ≠ e) (ho : Off g w w') : w'.ownsRow B e s v n xs := by
  refine ⟨h.1, ?_⟩
  rcases h.2 with h0 | ⟨b, cap, cur, h1, h2, h3, h4⟩
  · exact Or.inl h0
  · refine Or.inr ⟨b, cap, cur, h1, h2, ho.heap h3 ?_, h4⟩
    rintro rfl
    rw [hg] at h3
    injection h3 with h3
    injection h3 with _ h3 _
    exact hT h3
set_option maxRecDepth 100000 in
/-- Bytes, appended to a row of one's own. -/
theorem app_bytes {w : World} {ops : Array Oper} {rest : List Oper} {o : Oper} {a : Act} {Q : Exit → Act → World → Prop} (hgd : o.guard = none) (s x : Operand)
    (ho : o.op = .call { callee := .builtin .append, args := #[s, x], argTypes := #[78, 78] }) (B : Nat) (v : Value) (L : List UInt8) (hs : a.eval s = v) (hown : Row B v L w)
    (vb : Value) (b : List UInt8) (hx : a.eval x = vb) (hb : IsBytes w vb b) (hn : vb = .slice none 0 0 ∨ ∃ ad n c, vb = .slice (some ad) n c) (hsz : L.length ≤ 9000) (hB : B ≤ w.heap.size)
    (h : ∀ v' w', Row B v' (L ++ b) w' → Below B w w' → wpList Try.prog ops Q rest (a.put o.dst v') w') : wpList Try.prog ops Q (o :: rest) a w := by
  obtain ⟨i0, hi, hz0, hz1, hz2⟩ := info_parts infoB
  obtain ⟨ad, cap, rfl, h1, h2, h3⟩ := hb
  rcases hn with hn | ⟨ad2, n, c, hn⟩
  · injection hn with e1 e2 e3
    subst e1 e3
    obtain rfl : b = [] := List.length_eq_zero_iff.1 e2
    refine wpList_append_own_none hgd s x 78 ho B 5 i0 1 Try.underlying78 hi v L.length (Lib.byteCells L) hs hown (by simpa using hx) ?_
    exact h v w (by simpa using hown) (Below.refl _ _)
  · injection hn with e1 e2 e3
    subst e1
    refine wpList_append_own_wide w hgd s x 78 ho B 5 i0 (.int .u8 0) 1 1 Try.underlying78 hi hz0 hz1 hz2 rfl (by decide) v L.length (Lib.byteCells L) hs hown ad2 b.length cap (Lib.byteCells b) hx (cells_len _) ?_ (one_cell _) (by unfold maxLen; omega) (by omega) hB ?_
    · intro j u hj
      have hlt : j < b.length := by
        rcases Nat.lt_or_ge j b.length with h1 | h1
        · exact h1
        · rw [List.getElem?_eq_none (by simpa [Lib.byteCells] using h1)] at hj; cases hj
      obtain ⟨g', off', e, _, h5⟩ := h3 (fun e => by rw [e] at hlt; simp at hlt)
      injection e with e
      subst e
      have ea : (⟨g', off', none⟩ : Addr).add j = ⟨g', off' + j, none⟩ := by unfold Addr.add; split <;> simp_all
      rw [ea, h5 j hlt]
      simp [Lib.byteCells, hlt] at hj
      rw [hj]
    · intro v' w' hown' hg _
      refine h v' w' ?_ ((Below.refl B w).grown hg hB (fun k hk => (hown.lt k hk).1))
      have e : Lib.byteCells (L ++ b) = Lib.byteCells L ++ Lib.byteCells b := by simp [Lib.byteCells]
      unfold Row
      rw [e, List.length_append]
      exact hown'

end Go.Proofs.Ytbjnemmghpmjjaa

namespace Go.Proofs.Ytbjnemmghpmjjaa
open Go.RowKit Go.Maps

theorem laidOut : laidOutB Try.prog = true := by kernel_rfl
set_option maxRecDepth 100000 in
theorem refRow : (34 : TypeId) < Try.prog.types.size := of_decide_eq_true (by kernel_rfl)
set_option maxRecDepth 100000 in
theorem refWide : (match Try.prog.underlying 34 with | some (.array _ _) | some (.struct _) => true | _ => false) = true := by rw [Try.underlying34]
set_option maxRecDepth 100000 in
theorem refLaw : Keyed Try.prog 34 := Keyed.of_law (deep_law_laid laidOut (m := 2) (by omega) refRow (by kernel_rfl) refWide)
theorem refCells : Try.prog.cellsOf 34 = 2 := by kernel_rfl
theorem cells3 : Try.prog.cellsOf 3 = 1 := by kernel_rfl
theorem typesN : Try.prog.types.size = 152 := by kernel_rfl
set_option maxRecDepth 100000 in
theorem refKey : Try.prog.keyType 34 = true := by kernel_rfl

/-- A ref, as a value. -/
abbrev refV (r : Pr) : Value := .agg #[.int .i64 r.1, .int .i64 r.2]
/-- A ref that is one of 64 bits. -/
abbrev R64 (r : Pr) : Prop := I64 r.1 ∧ I64 r.2
/-- A ref, as a map's key reads. -/
def refL (r : Pr) : Lit := .string (keyBytes [.int .i64 r.1, .int .i64 r.2])

theorem wf64 {x : Int} (h : I64 x) : (Lit.int .i64 x).wf = true := by
  unfold I64 at h
  simp [Lit.wf, IntKind.min, IntKind.max, IntKind.bits, IntKind.signed]
  omega
theorem of_wf64 {x : Int} (h : (Lit.int .i64 x).wf = true) : I64 x := by
  simp [Lit.wf, IntKind.min, IntKind.max, IntKind.bits, IntKind.signed] at h
  unfold I64
  omega

theorem keyLits3 (d : Nat) {x : Int} (h : I64 x) : Try.prog.keyLits (d + 1) 3 [.int .i64 x] = some [.int .i64 x] := by
  unfold Program.keyLits
  rw [Try.underlying3]
  simp [wf64 h]

set_option maxRecDepth 100000 in
theorem keyLitsR (d : Nat) {r : Pr} (h : R64 r) : Try.prog.keyLits (d + 2) 34 [.int .i64 r.1, .int .i64 r.2] = some [.int .i64 r.1, .int .i64 r.2] := by
  have h1 := keyLits3 d h.1
  have h2 := keyLits3 d h.2
  unfold Program.keyLits
  rw [Try.underlying34]
  simp only [refCells]
  simp [cells3, h1, h2]

set_option maxRecDepth 100000 in
theorem keyOf_ref {r : Pr} (h : R64 r) : keyOf Try.prog 34 (refV r) = some (refL r) := by
  have f : (refV r).formed Try.prog 34 = true := by simp [Value.formed, Try.underlying34, refCells]
  obtain ⟨d, hd⟩ : ∃ d, Try.prog.types.size + 1 = d + 2 := ⟨152 - 1, by rw [typesN]⟩
  have e : (refV r).cells.toList = [.int .i64 r.1, .int .i64 r.2] := rfl
  unfold keyOf
  rw [Try.underlying34]
  simp only [refKey, f, Bool.and_self, if_true, hd, e, keyLitsR d h, Option.map_some]
  rfl

theorem refL_inj {r s : Pr} (hr : R64 r) (hs : R64 s) (h : refL r = refL s) : r = s := by
  have := refLaw.inj (keyOf_ref hr) (by rw [h]; exact keyOf_ref hs)
  simp at this
  exact Prod.ext this.1 this.2

theorem refL_key (r : Pr) : WideAt.IsKeyLit (refL r) := trivial

set_option maxRecDepth 100000 in
theorem keyLits3_inv {d : Nat} {cs : List Value} {ls : List Lit} (h : Try.prog.keyLits (d + 1) 3 cs = some ls) : ∃ x, cs = [.int .i64 x] ∧ I64 x := by
  unfold Program.keyLits at h
  rw [Try.underlying3] at h
  match cs, h with
  | [], h => simp at h
  | [v], h =>
    cases v <;> simp at h
    obtain ⟨⟨rfl, hw⟩, _⟩ := h
    exact ⟨_, rfl, of_wf64 hw⟩
  | a :: b :: c, h => simp at h

set_option maxRecDepth 100000 in
theorem keyOf_inv {v : Value} {l : Lit} (h : keyOf Try.prog 34 v = some l) : ∃ r : Pr, v = refV r ∧ l = refL r ∧ R64 r := by
  have h0 := h
  unfold keyOf at h
  rw [Try.underlying34] at h
  simp only [refKey, Bool.true_and] at h
  split at h
  · rename_i f
    cases v <;> simp [Value.formed, Try.underlying34] at f
    rename_i cs
    rw [refCells] at f
    obtain ⟨d, hd⟩ : ∃ d, Try.prog.types.size + 1 = d + 2 := ⟨152 - 1, by rw [typesN]⟩
    rw [hd, Option.map_eq_some_iff] at h
    obtain ⟨ls, h, _⟩ := h
    obtain ⟨cl⟩ := cs
    match cl, f with
    | [a, b], _ =>
      unfold Program.keyLits at h
      rw [Try.underlying34] at h
      simp [refCells, cells3, Value.cells] at h
      cases ha : Try.prog.keyLits (d + 1) 3 [a] with
      | none => simp [ha] at h
      | some la =>
        cases hb : Try.prog.keyLits (d + 1) 3 [b] with
        | none => simp [ha, hb] at h
        | some lb =>
          obtain ⟨x, ex, hx⟩ := keyLits3_inv ha
          obtain ⟨y, ey, hy⟩ := keyLits3_inv hb
          simp at ex ey
          subst ex ey
          refine ⟨(x, y), rfl, ?_, hx, hy⟩
          have := keyOf_ref (r := (x, y)) ⟨hx, hy⟩
          rw [h0] at this
          exact Option.some.inj this
  · cases h
end Go.Proofs.Ytbjnemmghpmjjaa

namespace Go.Proofs.Ytbjnemmghpmjjaa
open Go.RowKit Go.Maps

/-- An element, told by itself. -/
def rawElem (v : Value) : Option (DataW Value × List MemPlace) := some (.held v, [])

/-- What stands at a key. -/
def lk (L : List (Pr × Value)) (r : Pr) : Option Value := (L.find? (fun q => q.1 == r)).map (·.2)

theorem lk_nil (r : Pr) : lk [] r = none := rfl
theorem lk_none {L : List (Pr × Value)} {r : Pr} : lk L r = none ↔ r ∉ L.map (·.1) := by
  unfold lk
  rw [Option.map_eq_none_iff, List.find?_eq_none]
  constructor
  · intro h e
    obtain ⟨q, hq, rfl⟩ := List.mem_map.1 e
    exact h q hq (by simp)
  · intro h q hq e
    exact h (List.mem_map.2 ⟨q, hq, by simpa using e⟩)
theorem lk_mem {L : List (Pr × Value)} {r : Pr} {v : Value} (h : lk L r = some v) : (r, v) ∈ L := by
  unfold lk at h
  obtain ⟨q, hq, rfl⟩ := Option.map_eq_some_iff.1 h
  have h1 := List.mem_of_find?_eq_some hq
  have h2 := List.find?_some hq
  simp at h2
  subst h2
  exact h1
theorem lk_of_mem {L : List (Pr × Value)} (hn : (L.map (·.1)).Nodup) {r : Pr} {v : Value} (h : (r, v) ∈ L) : lk L r = some v := by
  induction L with
  | nil => cases h
  | cons q L ih =>
    simp only [List.map_cons, List.nodup_cons] at hn
    rcases List.mem_cons.1 h with e | e
    · subst e; simp [lk]
    · have hne : q.1 ≠ r := fun e1 => hn.1 (List.mem_map.2 ⟨_, e, e1.symm⟩)
      have := ih hn.2 e
      unfold lk at this ⊢
      rw [List.find?_cons_of_neg (by simpa using hne)]
      exact this
theorem lk_append (L M : List (Pr × Value)) (r : Pr) : lk (L ++ M) r = (lk L r).or (lk M r) := by
  unfold lk
  rw [List.find?_append]
  cases L.find? (fun q => q.1 == r) <;> simp
theorem lk_filter_ne (L : List (Pr × Value)) {r s : Pr} (h : s ≠ r) : lk (L.filter fun q => q.1 != r) s = lk L s := by
  unfold lk
  rw [Maps.find_filter_keep (fun p hp => by simp at hp ⊢; rw [hp]; exact h)]
theorem lk_filter_eq (L : List (Pr × Value)) (r : Pr) : lk (L.filter fun q => q.1 != r) r = none := by
  rw [lk_none]
  intro e
  obtain ⟨q, hq, e⟩ := List.mem_map.1 e
  have := (List.mem_filter.1 hq).2
  simp at this
  exact this e

/-- The entries, once something is put in. -/
def putL (L : List (Pr × Value)) (r : Pr) (v : Value) : List (Pr × Value) := (L.filter fun q => q.1 != r) ++ [(r, v)]

theorem putL_new {L : List (Pr × Value)} {r : Pr} (h : lk L r = none) (v : Value) : putL L r v = L ++ [(r, v)] := by
  unfold putL
  rw [List.filter_eq_self.2]
  intro q hq
  have := lk_none.1 h
  simp
  exact fun e => this (List.mem_map.2 ⟨q, hq, e⟩)
theorem lk_putL (L : List (Pr × Value)) (r s : Pr) (v : Value) : lk (putL L r v) s = if s = r then some v else lk L s := by
  unfold putL
  rw [lk_append]
  split
  · rename_i e; subst e; rw [lk_filter_eq]; simp [lk]
  · rename_i e
    rw [lk_filter_ne L e]
    have : lk [(r, v)] s = none := by rw [lk_none]; simpa using e
    rw [this]; simp

/-- A map that lies in memory, and its entries. -/
structure MapL (w : World) (b : Nat) (L : List (Pr × Value)) : Prop where
  own : ∃ D : DataW Value, w.ownsMap Try.prog 34 rawElem b L.length D ∧ (∀ r, R64 r → Maps.has D (refL r) = (lk L r).isSome) ∧ (∀ r v, R64 r → lk L r = some v → ∀ z, D.atKey (refL r) z = .held v) ∧ Maps.size D = L.length
  nd : (L.map (·.1)).Nodup
  r64 : ∀ q ∈ L, R64 q.1

theorem own_tight {w : World} {b n : Nat} {D : DataW Value} (h : w.ownsMap Try.prog 34 rawElem b n D) : w.ownsMap Try.prog 34 rawElem b (Maps.size D) D := by
  obtain ⟨es, clock, hb, F, _, rfl⟩ := h
  exact ⟨es, clock, hb, F, by rw [Maps.size_eq, length_read]; exact Nat.le_refl _, rfl⟩

theorem MapL.made (w : World) : MapL (w.alloc (.map #[] 0)) w.heap.size [] :=
  ⟨⟨.map [], World.ownsMap_made w _ _ _, fun r _ => rfl, (fun r v _ h => by cases h), rfl⟩, by simp, by simp⟩

theorem MapL.lt {w : World} {b : Nat} {L : List (Pr × Value)} (h : MapL w b L) : b < w.heap.size := by
  obtain ⟨D, h1, _⟩ := h.own
  exact h1.lt

theorem MapL.grown {w w' : World} {b : Nat} {L : List (Pr × Value)} {row : Option Nat} (h : MapL w b L) (hg : w.grownBy w' row) (hb : some b ≠ row) : MapL w' b L := by
  obtain ⟨D, h1, h2⟩ := h.own
  exact ⟨⟨D, h1.kept hg hb, h2⟩, h.nd, h.r64⟩
theorem MapL.below {w w' : World} {b : Nat} {L : List (Pr × Value)} (h : MapL w b L) (hb : Below w.heap.size w w') : MapL w' b L :=
  h.grown (row := none) ⟨hb.os, hb.tape, hb.output, hb.size, fun k hk _ => hb.block k hk⟩ (by simp)

/-- What stands at a key, looked up. -/
theorem MapL.look {w : World} {b : Nat} {L : List (Pr × Value)} (h : MapL w b L) {T E : TypeId} (ht : Try.prog.underlying T = some (.map 34 E)) {z : Value} (hz : (zeroValue E).run Try.prog w = .ok z w) {r : Pr} (hr : R64 r) :
    (Instr.lookup T (.map (some b)) (refV r) true).run Try.prog w = .ok (.tuple #[(lk L r).getD z, .bool (lk L r).isSome]) w := by
  obtain ⟨D, h1, h2, h3, h4⟩ := h.own
  obtain ⟨v, ps, hrun, hv⟩ := h1.look_ok refLaw ht hz (zd := .held z) (zp := []) rfl (keyOf_ref hr)
  rw [hrun, h2 r hr]
  have e : DataW.held v = D.atKey (refL r) (.held z) := by
    have := congrArg Prod.fst (Option.some.inj hv)
    exact this
  cases hl : lk L r with
  | none =>
    have hh : Maps.has D (refL r) = false := by rw [h2 r hr, hl]; rfl
    rw [Maps.atKey_of_not_has hh] at e
    rw [DataW.held.inj e]; rfl
  | some u =>
    rw [h3 r u hr hl] at e
    rw [DataW.held.inj e]; rfl
theorem MapL.look1 {w : World} {b : Nat} {L : List (Pr × Value)} (h : MapL w b L) {T E : TypeId} (ht : Try.prog.underlying T = some (.map 34 E)) {z : Value} (hz : (zeroValue E).run Try.prog w = .ok z w) {r : Pr} (hr : R64 r) :
    (Instr.lookup T (.map (some b)) (refV r) false).run Try.prog w = .ok ((lk L r).getD z) w := by
  obtain ⟨D, h1, h2, h3, h4⟩ := h.own
  obtain ⟨v, ps, hrun, hv⟩ := h1.lookup refLaw ht hz (zd := .held z) (zp := []) rfl (keyOf_ref hr)
  rw [hrun]
  have e : DataW.held v = D.atKey (refL r) (.held z) := by
    have := congrArg Prod.fst (Option.some.inj hv)
    exact this
  cases hl : lk L r with
  | none =>
    have hh : Maps.has D (refL r) = false := by rw [h2 r hr, hl]; rfl
    rw [Maps.atKey_of_not_has hh] at e
    rw [DataW.held.inj e]; rfl
  | some u =>
    rw [h3 r u hr hl] at e
    rw [DataW.held.inj e]; rfl

theorem MapL.len {w : World} {b : Nat} {L : List (Pr × Value)} (h : MapL w b L) {T E : TypeId} (ht : Try.prog.underlying T = some (.map 34 E)) (ty : TypeId) : (Builtin.len_ #[T] ty #[.map (some b)]).run Try.prog w = .ok (.int .i64 L.length) w := by
  obtain ⟨D, h1, h2, h3, h4⟩ := h.own
  rw [h1.len ht ty, h4]

theorem putL_len (L : List (Pr × Value)) (hn : (L.map (·.1)).Nodup) (r : Pr) (v : Value) : (putL L r v).length = if (lk L r).isSome then L.length else L.length + 1 := by
  cases hl : lk L r with
  | none => rw [putL_new hl]; simp
  | some u =>
    have hm := lk_mem hl
    unfold putL
    simp only [List.length_append, List.length_singleton, Option.isSome_some, if_true]
    have : (L.filter fun q => q.1 != r).length + 1 = L.length := by
      clear hl
      induction L with
      | nil => cases hm
      | cons q L ih =>
        simp only [List.map_cons, List.nodup_cons] at hn
        rcases List.mem_cons.1 hm with e | e
        · subst e
          have : L.filter (fun q => q.1 != r) = L := List.filter_eq_self.2 (fun q hq => by simp; exact fun e => hn.1 (List.mem_map.2 ⟨q, hq, e⟩))
          simp [this]
        · have hne : q.1 ≠ r := fun e1 => hn.1 (List.mem_map.2 ⟨_, e, e1.symm⟩)
          rw [List.filter_cons_of_pos (by simpa using hne)]
          have := ih hn.2 e
          simp only [List.length_cons]
          omega
    exact this

theorem nodup_put {L : List (Pr × Value)} (hn : (L.map (·.1)).Nodup) (r : Pr) (v : Value) : ((putL L r v).map (·.1)).Nodup := by
  unfold putL
  rw [List.map_append, List.nodup_append]
  refine ⟨List.Nodup.sublist (List.Sublist.map _ List.filter_sublist) hn, by simp, ?_⟩
  intro x hx y hy e
  simp only [List.map_cons, List.map_nil, List.mem_singleton] at hy
  subst hy e
  obtain ⟨q, hq, e⟩ := List.mem_map.1 hx
  have := (List.mem_filter.1 hq).2
  simp at this
  exact this e

theorem MapL.put {w : World} {b : Nat} {L : List (Pr × Value)} (h : MapL w b L) {T E : TypeId} (ht : Try.prog.underlying T = some (.map 34 E)) {r : Pr} (hr : R64 r) (hL : L.length < 1000000) (v : Value) :
    ∃ w', (Instr.mapUpdate T (.map (some b)) (refV r) v).run Try.prog w = .ok () w' ∧ MapL w' b (putL L r v) ∧ w.mapTurned w' b := by
  obtain ⟨D, h1, h2, h3, h4⟩ := h.own
  obtain ⟨w', hrun, hown, hturn⟩ := h1.store refLaw ht (by unfold maxLen; omega) (keyOf_ref hr) (val := v) (d := .held v) (ps := []) rfl
  have hsz : Maps.size (D.put (refL r) (.held v)) = (putL L r v).length := by
    rw [Maps.size_put (h1.tidy refLaw), h2 r hr, h4, putL_len L h.nd]
  refine ⟨w', hrun, ⟨⟨_, ?_, fun s hs => ?_, fun s u hs hl z => ?_, hsz⟩, nodup_put h.nd r v, fun q hq => ?_⟩, hturn⟩
  · rw [← hsz]; exact own_tight hown
  · rw [lk_putL]
    split
    · rename_i e; subst e; rw [Maps.has_put_same h1.isMap (refL_key _)]; rfl
    · rename_i e; rw [Maps.has_put_other (fun e1 => e (refL_inj hs hr e1)), h2 s hs]
  · rw [lk_putL] at hl
    split at hl
    · rename_i e; subst e
      rw [Maps.atKey_put_same h1.isMap (refL_key _)]
      rw [Option.some.inj hl]
    · rename_i e
      rw [Maps.atKey_put_other (fun e1 => e (refL_inj hs hr e1))]
      exact h3 s u hs hl z
  · unfold putL at hq
    rcases List.mem_append.1 hq with h5 | h5
    · exact h.r64 q (List.mem_filter.1 h5).1
    · rw [List.mem_singleton.1 h5]; exact hr

theorem filter_len {L : List (Pr × Value)} (hn : (L.map (·.1)).Nodup) (r : Pr) : (L.filter fun q => q.1 != r).length + (if (lk L r).isSome then 1 else 0) = L.length := by
  have h1 := putL_len L hn r (.bool true)
  unfold putL at h1
  simp only [List.length_append, List.length_singleton] at h1
  split at h1 <;> simp_all <;> omega

theorem MapL.del {w : World} {b : Nat} {L : List (Pr × Value)} (h : MapL w b L) {T E : TypeId} (ht : Try.prog.underlying T = some (.map 34 E)) {r : Pr} (hr : R64 r) (ty : TypeId) :
    ∃ w', (Builtin.delete_ #[T, 34] ty #[.map (some b), refV r]).run Try.prog w = .ok (.tuple #[]) w' ∧ MapL w' b (L.filter fun q => q.1 != r) ∧ w.mapTurned w' b := by
  obtain ⟨D, h1, h2, h3, h4⟩ := h.own
  obtain ⟨w', hrun, hown, hturn⟩ := h1.drop refLaw ht (keyOf_ref hr) ty
  have hsz : Maps.size (D.del (refL r)) = (L.filter fun q => q.1 != r).length := by
    have e1 := Maps.size_del (k := refL r) (h1.tidy refLaw)
    have e2 := filter_len h.nd r
    rw [h2 r hr, h4] at e1
    omega
  refine ⟨w', hrun, ⟨⟨_, ?_, fun s hs => ?_, fun s u hs hl z => ?_, hsz⟩, List.Nodup.sublist (List.Sublist.map _ List.filter_sublist) h.nd, fun q hq => h.r64 q (List.mem_filter.1 hq).1⟩, hturn⟩
  · rw [← hsz]; exact own_tight hown
  · by_cases e : s = r
    · subst e; rw [Maps.has_del_same, lk_filter_eq]; rfl
    · rw [Maps.has_del_other (fun e1 => e (refL_inj hs hr e1)), lk_filter_ne L e, h2 s hs]
  · by_cases e : s = r
    · subst e; rw [lk_filter_eq] at hl; cases hl
    · rw [lk_filter_ne L e] at hl
      rw [Maps.atKey_del_other (fun e1 => e (refL_inj hs hr e1))]
      exact h3 s u hs hl z
end Go.Proofs.Ytbjnemmghpmjjaa
