/-
  What is proved: as each theorem says.
  Conditions: as each theorem says.
-/
import Derived.Test.YtejfemdkommfhaaGreatDoorProg
import Derived.WalkKit
import Derived.WalkSpells
import Derived.WalkLawsBesides
import Derived.Handy
import Derived.Deep.RegionWith
import Derived.Deep.RegionHeld3
import Derived.Deep.QuietTactic
import Derived.BigQuiet
import Derived.Lib.Builder
import Derived.Laws.BitsAllLaws
import Derived.Deep.DeepAppendWide
import Derived.Laws.AppendOwnNone
import Derived.Sort.Walk0
import Derived.Lib.BufferRead
namespace Go.Proofs.YtejfemdkommfhaaGreatDoor
def putF : Nat → Nat → List UInt8
 | 0, n => [UInt8.ofNat n]
 | f + 1, n => if n < 128 then [UInt8.ofNat n] else UInt8.ofNat (128 + n % 128) :: putF f (n / 128)
def put (n : Nat) : List UInt8 := putF n n
theorem putF_same : ∀ (f g n : Nat), n ≤ f → n ≤ g → putF f n = putF g n
 | 0, 0, n, _, _ => rfl
 | 0, g + 1, n, h, _ => by
  have : n = 0 := by omega
  subst this
  rfl
 | f + 1, 0, n, _, h => by
  have : n = 0 := by omega
  subst this
  rfl
 | f + 1, g + 1, n, h1, h2 => by
  rw [putF, putF]
  by_cases h : n < 128
  ·rw [if_pos h, if_pos h]
  ·rw [if_neg h, if_neg h, putF_same f g (n / 128) (by omega) (by omega)]
def val : List UInt8 → Nat
 | [] => 0
 | b :: r => b.toNat % 128 + 128 * val r
theorem put_small {n : Nat} (h : n < 128) : put n = [UInt8.ofNat n] := by
 unfold put
 cases n with
 | zero => rfl
 | succ n => rw [putF, if_pos h]
theorem put_more {n : Nat} (h : 128 ≤ n) : put n = UInt8.ofNat (128 + n % 128) :: put (n / 128) := by
 unfold put
 cases n with
 | zero => omega
 | succ n => rw [putF, if_neg (by omega), putF_same n ((n + 1) / 128) ((n + 1) / 128) (by omega) (Nat.le_refl _)]
theorem byte_low {n : Nat} (h : n < 128) : (UInt8.ofNat n).toNat = n := by simp; omega
theorem byte_high (n : Nat) : (UInt8.ofNat (128 + n % 128)).toNat = 128 + n % 128 := by simp; omega
theorem put_ne (n : Nat) : put n ≠ [] := by
 by_cases h : n < 128
 ·rw [put_small h]; simp
 ·rw [put_more (by omega)]; simp
theorem put_len : ∀ (k n : Nat), n < 128 ^ (k + 1) → (put n).length ≤ k + 1
 | 0, n, h => by rw [put_small (by simpa using h)]; simp
 | k + 1, n, h => by
  by_cases h1 : n < 128
  ·rw [put_small h1]; simp
  ·rw [put_more (by omega), List.length_cons]
   have := put_len k (n / 128) (by rw [Nat.pow_succ] at h; omega)
   omega
theorem put_len10 {n : Nat} (h : n < 18446744073709551616) : (put n).length ≤ 10 := put_len 9 n (by omega)
def get (l : List UInt8) : Option (Nat × Nat) :=
 match (l.take 10).findIdx? (fun b => decide (b.toNat < 128)) with
 | none => none
 | some i => if put (val (l.take (i + 1)) % 18446744073709551616) = l.take (i + 1) then some (val (l.take (i + 1)) % 18446744073709551616, i + 1) else none
def zig (n : Int) : Nat := if n < 0 then (-2 * n - 1).toNat else (2 * n).toNat
theorem zig_lt {n : Int} (h1 : -9223372036854775808 ≤ n) (h2 : n < 9223372036854775808) : zig n < 18446744073709551616 := by
 unfold zig
 split <;> omega
end Go.Proofs.YtejfemdkommfhaaGreatDoor
namespace Go.Proofs.YtejfemdkommfhaaGreatDoor
open Go.RowKit
theorem infoB : (Tryz.prog.info? 5).map (fun i => (i.zero, i.size, i.bytes)) = some (some (.int .u8 0), 1, 1) := by kernel_rfl
abbrev Row (B : Nat) (v : Value) (l : List UInt8) (w : World) : Prop := w.ownsRow B 5 1 v l.length (Lib.byteCells l)
theorem row_grown {B : Nat} {w wr w' : World} {v v' : Value} {l m : List UInt8} {o : Obj} (own : Row B v l wr) (bel : Below B w wr) (hB : B ≤ wr.heap.size) (hg : (wr.alloc o).grownBy w' v.ownBlock)
 (own' : w'.ownsRow B 5 1 v' (l.length + m.length) (Lib.byteCells l ++ Lib.byteCells m)) : Row B v' (l ++ m) w' ∧ Below B w w' := by
 refine ⟨?_, (bel.alloc hB o).grown hg (by simp; omega) (fun k hk => (own.lt k hk).1)⟩
 have e : Lib.byteCells (l ++ m) = Lib.byteCells l ++ Lib.byteCells m := by simp [Lib.byteCells]
 unfold Row
 rw [e, List.length_append]
 exact own'
theorem own_row_len {B : Nat} {v : Value} {l : List UInt8} {w : World} (h : Row B v l w) : ∃ a c, v = .slice a l.length c := by
 rcases h.2 with ⟨rfl, h0⟩ | ⟨g, cap, cur, rfl, _⟩
 ·exact ⟨none, 0, by rw [h0]⟩
 ·exact ⟨_, _, rfl⟩
theorem row_at (g t : Nat) : (⟨g, 0, none⟩ : Addr).add t = ⟨g, t, none⟩ := by cases t <;> simp [Addr.add]
end Go.Proofs.YtejfemdkommfhaaGreatDoor
namespace Go.Proofs.YtejfemdkommfhaaGreatDoor
open Go.RowKit
def IsBytes (w : World) (v : Value) (l : List UInt8) : Prop :=
 ∃ a cap, v = .slice a l.length cap ∧ l.length ≤ cap ∧ l.length ≤ 140737488400000 ∧ (l ≠ [] → ∃ b off, a = some ⟨b, off, none⟩ ∧ b < w.heap.size ∧ ∀ i (h : i < l.length), w.cell? ⟨b, off + i, none⟩ = some (.int .u8 l[i].toNat))
theorem IsBytes.below {w w' : World} {v : Value} {l : List UInt8} (h : IsBytes w v l) (hb : Below w.heap.size w w') : IsBytes w' v l := by
 obtain ⟨a, cap, rfl, h1, h2, h3⟩ := h
 refine ⟨a, cap, rfl, h1, h2, fun hl => ?_⟩
 obtain ⟨b, off, rfl, h4, h5⟩ := h3 hl
 exact ⟨b, off, rfl, Nat.lt_of_lt_of_le h4 hb.size, fun i hi => by rw [hb.cell (p := ⟨b, off + i, none⟩) h4]; exact h5 i hi⟩
theorem Row.bytes {B : Nat} {w : World} {v : Value} {l : List UInt8} (h : Row B v l w) (hl : l.length ≤ 140737488400000) : IsBytes w v l := by
 rcases h.2 with ⟨rfl, h0⟩ | ⟨g, cap, cur, rfl, hg, hh, hc, hm, hz, ht⟩
 ·exact ⟨none, 0, by rw [h0], by omega, hl, fun h => absurd (List.length_eq_zero_iff.1 h0) h⟩
 ·refine ⟨_, cap, rfl, hc, hl, fun _ => ⟨g, 0, rfl, ?_, fun i hi => ?_⟩⟩
  ·rcases Nat.lt_or_ge g w.heap.size with h1 | h1
   ·exact h1
   ·rw [Array.getElem?_eq_none h1] at hh; cases hh
  ·rw [Nat.zero_add, h.cellAt i (by omega)]
   simp [Lib.byteCells, hi]
theorem IsBytes.take {w : World} {b off cap : Nat} {l : List UInt8} (h : IsBytes w (.slice (some ⟨b, off, none⟩) l.length cap) l) (k : Nat) (hk : k ≤ l.length) : IsBytes w (.slice (some ⟨b, off, none⟩) k cap) (l.take k) := by
 obtain ⟨a, cap', e, h1, h2, h3⟩ := h
 injection e with e1 e2 e3
 subst e1 e3
 have hl : (l.take k).length = k := by rw [List.length_take]; omega
 refine ⟨_, cap, by rw [hl], by omega, by omega, fun hne => ?_⟩
 obtain ⟨b', off', e, h4, h5⟩ := h3 (fun e => hne (by rw [e]; simp))
 injection e with e
 injection e with e1 e2
 subst e1 e2
 refine ⟨b, off, rfl, h4, fun i hi => ?_⟩
 rw [List.getElem_take]
 exact h5 i (by omega)
theorem IsBytes.drop {w : World} {b off cap : Nat} {l : List UInt8} (h : IsBytes w (.slice (some ⟨b, off, none⟩) l.length cap) l) (k : Nat) (hk : k ≤ l.length) : IsBytes w (.slice (some ⟨b, off + k, none⟩) (l.length - k) (cap - k)) (l.drop k) := by
 obtain ⟨a, cap', e, h1, h2, h3⟩ := h
 injection e with e1 e2 e3
 subst e1 e3
 have hl : (l.drop k).length = l.length - k := by rw [List.length_drop]
 refine ⟨_, cap - k, by rw [hl], by omega, by omega, fun hne => ?_⟩
 obtain ⟨b', off', e, h4, h5⟩ := h3 (fun e => hne (by rw [e]; simp))
 injection e with e
 injection e with e1 e2
 subst e1 e2
 refine ⟨b, off + k, rfl, h4, fun i hi => ?_⟩
 rw [List.getElem_drop, Nat.add_assoc]
 exact h5 (k + i) (by omega)
theorem below_drew {B : Nat} {w wr : World} (h : Below B w wr) (n : Nat) : Below B w (wr.drewN n) := ⟨h.os, h.tape, h.output, h.size, h.block⟩
end Go.Proofs.YtejfemdkommfhaaGreatDoor
namespace Go.Proofs.YtejfemdkommfhaaGreatDoor
open Go.RowKit
end Go.Proofs.YtejfemdkommfhaaGreatDoor
namespace Go.Proofs.YtejfemdkommfhaaGreatDoor
open Go.RowKit
end Go.Proofs.YtejfemdkommfhaaGreatDoor
namespace Go.Proofs.YtejfemdkommfhaaGreatDoor
open Go.RowKit
def I64 (x : Int) : Prop := -9223372036854775808 ≤ x ∧ x < 9223372036854775808
theorem i64_wrap (x : Int) : I64 (wrap64 x) := by unfold I64 wrap64; omega
theorem own_below {B C e s n : Nat} {w w' : World} {v : Value} {xs : List Value} (h : w.ownsRow B e s v n xs) (hb : Below C w w') (hC : w.heap.size ≤ C) : w'.ownsRow B e s v n xs := by
 refine ⟨h.1, ?_⟩
 rcases h.2 with h0 | ⟨g, cap, cur, h1, h2, h3, h4⟩
 ·exact Or.inl h0
 ·refine Or.inr ⟨g, cap, cur, h1, h2, ?_, h4⟩
  have hlt : g < w.heap.size := by
   rcases Nat.lt_or_ge g w.heap.size with h | h
   ·exact h
   ·rw [Array.getElem?_eq_none h] at h3; cases h3
  rw [hb.block g (by omega)]
  exact h3
theorem row_grown0 {B : Nat} {w wr w' : World} {v v' : Value} {l m : List UInt8} (own : Row B v l wr) (bel : Below B w wr) (hB : B ≤ wr.heap.size) (hg : wr.grownBy w' v.ownBlock)
 (own' : w'.ownsRow B 5 1 v' (l.length + m.length) (Lib.byteCells l ++ Lib.byteCells m)) : Row B v' (l ++ m) w' ∧ Below B w w' := by
 refine ⟨?_, bel.grown hg hB (fun k hk => (own.lt k hk).1)⟩
 have e : Lib.byteCells (l ++ m) = Lib.byteCells l ++ Lib.byteCells m := by simp [Lib.byteCells]
 unfold Row
 rw [e, List.length_append]
 exact own'
theorem box_grown0 {B e s b n : Nat} {T : TypeId} {wr w' : World} {v : Value} {xs : List Value} {cs : Array Value} (own : wr.ownsRow B e s v n xs) (hb : wr.heap[b]? = some (.cells cs T)) (hT : T ≠ e) (hg : wr.grownBy w' v.ownBlock) : w'.heap[b]? = some (.cells cs T) := by
 have hlt : b < wr.heap.size := by
  rcases Nat.lt_or_ge b wr.heap.size with h | h
  ·exact h
  ·rw [Array.getElem?_eq_none h] at hb; cases hb
 have hne : some b ≠ v.ownBlock := by
  intro e1
  rcases own.2 with ⟨rfl, _⟩ | ⟨g, cap, cur, rfl, _, hh, _⟩
  ·cases e1
  ·have : b = g := Option.some.inj e1
   subst this
   rw [hb] at hh
   injection hh with hh
   injection hh with _ hh _
   exact hT hh
 rw [hg.block b hlt hne]
 exact hb
theorem heap_below {B b : Nat} {w w' : World} {o : Obj} (h : w.heap[b]? = some o) (hb : Below B w w') (hB : w.heap.size ≤ B) : w'.heap[b]? = some o := by
 have hlt : b < w.heap.size := by
  rcases Nat.lt_or_ge b w.heap.size with h1 | h1
  ·exact h1
  ·rw [Array.getElem?_eq_none h1] at h; cases h
 rw [hb.block b (by omega)]
 exact h
theorem row_text {B : Nat} {v : Value} {l : List UInt8} {w : World} (h : Row B v l w) (h0 : l ≠ []) : ∃ g cap, v = .slice (some ⟨g, 0, none⟩) l.length cap ∧ ∀ (j : Nat) (u : Value), (Lib.byteCells l)[j]? = some u → w.cell? ((⟨g, 0, none⟩ : Addr).add j) = some u := by
 rcases h.2 with ⟨rfl, hl⟩ | ⟨g, cap, cur, rfl, hg, hh, hc, hm, hz, ht⟩
 ·exact absurd (List.length_eq_zero_iff.1 hl) h0
 ·refine ⟨g, cap, rfl, fun j u hj => ?_⟩
  have hlt : j < l.length := by
   rcases Nat.lt_or_ge j l.length with h1 | h1
   ·exact h1
   ·rw [List.getElem?_eq_none (by simpa [Lib.byteCells] using h1)] at hj; cases hj
  rw [row_at, h.cellAt j (by omega)]
  exact hj
theorem one_cell (l : List UInt8) : ∀ u ∈ Lib.byteCells l, u.oneCell' = true := by
 intro u hu
 unfold Lib.byteCells at hu
 rw [List.mem_map] at hu
 obtain ⟨b, _, rfl⟩ := hu
 rfl
theorem cells_len (l : List UInt8) : (Lib.byteCells l).length = l.length * 1 := by simp [Lib.byteCells]
theorem own_mono {B C e s n : Nat} {w : World} {v : Value} {xs : List Value} (h : w.ownsRow B e s v n xs) (hC : C ≤ B) : w.ownsRow C e s v n xs := by
 refine ⟨h.1, ?_⟩
 rcases h.2 with h0 | ⟨g, cap, cur, h1, h2, h3⟩
 ·exact Or.inl h0
 ·exact Or.inr ⟨g, cap, cur, h1, Nat.le_trans hC h2, h3⟩
theorem take_snoc {α : Type} (l : List α) (k : Nat) (h : k < l.length) : l.take (k + 1) = l.take k ++ [l[k]] := List.take_succ_eq_append_getElem h
abbrev Pr : Type := Int × Int
def pcells (p : List Pr) : List Value := p.flatMap fun q => [.int .i64 q.1, .int .i64 q.2]
theorem pcells_len (p : List Pr) : (pcells p).length = p.length * 2 := by
 induction p with
 | nil => rfl
 | cons q r ih =>
  unfold pcells at ih ⊢
  rw [List.flatMap_cons, List.length_append, ih]
  simp
  omega
theorem pcells_append (p q : List Pr) : pcells (p ++ q) = pcells p ++ pcells q := by simp [pcells]
theorem pcells_at (p : List Pr) (i : Nat) (h : i < p.length) : (pcells p)[i * 2]? = some (.int .i64 p[i].1) ∧ (pcells p)[i * 2 + 1]? = some (.int .i64 p[i].2) := by
 induction p generalizing i with
 | nil => simp at h
 | cons q r ih =>
  have e : pcells (q :: r) = .int .i64 q.1 :: .int .i64 q.2 :: pcells r := by simp [pcells]
  rw [e]
  cases i with
  | zero => simp
  | succ i =>
   have := ih i (by simpa using h)
   rw [show (i + 1) * 2 = i * 2 + 1 + 1 from by omega]
   simpa using this
def IsPairs (w : World) (v : Value) (p : List Pr) : Prop :=
 ∃ a cap, v = .slice a p.length cap ∧ p.length ≤ cap ∧ p.length ≤ 8796093022208 ∧ (∀ q ∈ p, I64 q.1 ∧ I64 q.2) ∧ (p ≠ [] → ∃ b off, a = some ⟨b, off, none⟩ ∧ b < w.heap.size ∧ ∀ i (h : i < p.length), w.cell? ⟨b, off + i * 2, none⟩ = some (.int .i64 p[i].1) ∧ w.cell? ⟨b, off + i * 2 + 1, none⟩ = some (.int .i64 p[i].2))
theorem IsPairs.below {w w' : World} {v : Value} {p : List Pr} (h : IsPairs w v p) (hb : Below w.heap.size w w') : IsPairs w' v p := by
 obtain ⟨a, cap, rfl, h1, h2, hr, h3⟩ := h
 refine ⟨a, cap, rfl, h1, h2, hr, fun hl => ?_⟩
 obtain ⟨b, off, rfl, h4, h5⟩ := h3 hl
 exact ⟨b, off, rfl, Nat.lt_of_lt_of_le h4 hb.size, fun i hi => ⟨by rw [hb.cell (p := ⟨b, off + i * 2, none⟩) h4]; exact (h5 i hi).1, by rw [hb.cell (p := ⟨b, off + i * 2 + 1, none⟩) h4]; exact (h5 i hi).2⟩⟩
theorem isPairs_nil (w : World) (a : Option Addr) (c : Nat) : IsPairs w (.slice a 0 c) [] := ⟨a, c, rfl, by simp, by simp, by simp, fun h => absurd rfl h⟩
abbrev RowPr (T : TypeId) (B : Nat) (v : Value) (p : List Pr) (w : World) : Prop := w.ownsRow B T 2 v p.length (pcells p)
theorem rowPr_len {T : TypeId} {B : Nat} {v : Value} {l : List Pr} {w : World} (h : RowPr T B v l w) : ∃ a c, v = .slice a l.length c := by
 rcases h.2 with ⟨rfl, h0⟩ | ⟨g, cap, cur, rfl, _⟩
 ·exact ⟨none, 0, by rw [h0]⟩
 ·exact ⟨_, _, rfl⟩
theorem RowPr.pairs {T : TypeId} {B : Nat} {w : World} {v : Value} {p : List Pr} (h : RowPr T B v p w) (hl : p.length ≤ 8796093022208) (hr : ∀ q ∈ p, I64 q.1 ∧ I64 q.2) : IsPairs w v p := by
 rcases h.2 with ⟨rfl, h0⟩ | ⟨g, cap, cur, rfl, hg, hh, hc, hm, hz, ht⟩
 ·exact ⟨none, 0, by rw [h0], by omega, hl, hr, fun h => absurd (List.length_eq_zero_iff.1 h0) h⟩
 ·refine ⟨_, cap, rfl, hc, hl, hr, fun _ => ⟨g, 0, rfl, ?_, fun i hi => ⟨?_, ?_⟩⟩⟩
  ·rcases Nat.lt_or_ge g w.heap.size with h1 | h1
   ·exact h1
   ·rw [Array.getElem?_eq_none h1] at hh; cases hh
  ·rw [Nat.zero_add, h.cellAt (i * 2) (by omega), (pcells_at p i hi).1]
  ·rw [Nat.zero_add, h.cellAt (i * 2 + 1) (by omega), (pcells_at p i hi).2]
structure Off (g : Nat) (w w' : World) : Prop where
 os : w'.os = w.os
 tape : w'.tape = w.tape
 output : w'.output = w.output
 size : w.heap.size ≤ w'.heap.size
 block : ∀ k, k < w.heap.size → k ≠ g → w'.heap[k]? = w.heap[k]?
theorem Off.refl (g : Nat) (w : World) : Off g w w := ⟨rfl, rfl, rfl, Nat.le_refl _, fun _ _ _ => rfl⟩
theorem Off.of {g : Nat} {w w' : World} (h : Below w.heap.size w w') : Off g w w' := ⟨h.os, h.tape, h.output, h.size, fun k hk _ => h.block k hk⟩
theorem Off.trans {g : Nat} {w w1 w2 : World} (h : Off g w w1) (k : Off g w1 w2) : Off g w w2 :=
 ⟨k.os.trans h.os, k.tape.trans h.tape, k.output.trans h.output, Nat.le_trans h.size k.size, fun b hb hg => (k.block b (Nat.lt_of_lt_of_le hb h.size) hg).trans (h.block b hb hg)⟩
theorem Off.below {g B : Nat} {w w' : World} (h : Off g w w') (hB : B ≤ g) (hz : B ≤ w.heap.size) : Below B w w' := ⟨h.os, h.tape, h.output, h.size, fun k hk => h.block k (by omega) (by omega)⟩
theorem Off.set {g : Nat} {w w' : World} (h : Off g w w') (o : Nat) (v : Value) : Off g w (w'.setCell ⟨g, o, none⟩ v) := by
 have hb : Below g w' (w'.setCell ⟨g, o, none⟩ v) := (Below.refl g w').setCell (Nat.le_refl _) v
 refine ⟨hb.os.trans h.os, hb.tape.trans h.tape, hb.output.trans h.output, Nat.le_trans h.size hb.size, fun k hk hg => ?_⟩
 rw [Below.heap_setCell _ _ _ _ hg]
 exact h.block k hk hg
theorem Off.heap {g b : Nat} {w w' : World} {o : Obj} (h : Off g w w') (hb : w.heap[b]? = some o) (hne : b ≠ g) : w'.heap[b]? = some o := by
 have hlt : b < w.heap.size := by
  rcases Nat.lt_or_ge b w.heap.size with h1 | h1
  ·exact h1
  ·rw [Array.getElem?_eq_none h1] at hb; cases hb
 rw [h.block b hlt hne]
 exact hb
theorem own_off {B e s n g : Nat} {T : TypeId} {cs : Array Value} {w w' : World} {v : Value} {xs : List Value} (h : w.ownsRow B e s v n xs) (hg : w.heap[g]? = some (.cells cs T)) (hT : T ≠ e) (ho : Off g w w') : w'.ownsRow B e s v n xs := by
 refine ⟨h.1, ?_⟩
 rcases h.2 with h0 | ⟨b, cap, cur, h1, h2, h3, h4⟩
 ·exact Or.inl h0
 ·refine Or.inr ⟨b, cap, cur, h1, h2, ho.heap h3 ?_, h4⟩
  rintro rfl
  rw [hg] at h3
  injection h3 with h3
  injection h3 with _ h3 _
  exact hT h3
end Go.Proofs.YtejfemdkommfhaaGreatDoor
namespace Go.Proofs.YtejfemdkommfhaaGreatDoor
open Go.RowKit
def Real (n a : Int) : Prop := 1 ≤ n ∧ n ≤ 1000000 ∧ 1 ≤ a ∧ a ≤ 99
def Bad (n a : Int) : Prop := ¬ (n = 0 ∧ a = 0) ∧ ¬ Real n a
def lessB (n a m b : Int) : Bool := if n = m then decide (a < b) else decide (n < m)
set_option maxRecDepth 100000 in
set_option maxHeartbeats 400000 in
theorem check_root (w : World) :
 Calls Tryz.prog 112 #[.agg #[.int .i64 0, .int .i64 0]] w fun e w' => e = .returned .nilIface ∧ Below w.heap.size w w' := by
 go_enter Tryz.func112, Tryz.ntmps112
 go_wp2
 go_ret
 exact ⟨rfl, ((Below.refl _ _).alloc (Nat.le_refl _) _).alloc (by simp) _⟩
set_option maxRecDepth 100000 in
set_option maxHeartbeats 400000 in
theorem check_real (n a : Int) (w : World) (h : Real n a) :
 Calls Tryz.prog 112 #[.agg #[.int .i64 n, .int .i64 a]] w fun e w' => e = .returned .nilIface ∧ Below w.heap.size w w' := by
 obtain ⟨h1, h2, h3, h4⟩ := h
 have h0 : ¬ n = 0 := by omega
 go_enter Tryz.func112, Tryz.ntmps112
 go_wp2
 go_ret
 exact ⟨rfl, ((Below.refl _ _).alloc (Nat.le_refl _) _).alloc (by simp) _⟩
set_option maxRecDepth 100000 in
set_option maxHeartbeats 400000 in
theorem check_bad (n a : Int) (w : World) (h : Bad n a) :
 Calls Tryz.prog 112 #[.agg #[.int .i64 n, .int .i64 a]] w fun e w' => e = .returned (.iface 62 (.int .i64 1)) ∧ Below w.heap.size w w' := by
 obtain ⟨hr, hn⟩ := h
 unfold Real at hn
 by_cases h0 : n = 0
 ·have h1 : ¬ a = 0 := fun e => hr ⟨h0, e⟩
  subst h0
  clear hr hn
  go_enter Tryz.func112, Tryz.ntmps112
  go_wp2
  go_ret
  exact ⟨rfl, ((Below.refl _ _).alloc (Nat.le_refl _) _).alloc (by simp) _⟩
 ·clear hr
  by_cases h1 : 1 ≤ n
  ·by_cases h2 : n ≤ 1000000
   ·by_cases h3 : 1 ≤ a
    ·have h4 : ¬ a ≤ 99 := fun e => hn ⟨h1, h2, h3, e⟩
     clear hn
     go_enter Tryz.func112, Tryz.ntmps112
     go_wp2
     go_ret
     exact ⟨rfl, ((Below.refl _ _).alloc (Nat.le_refl _) _).alloc (by simp) _⟩
    ·clear hn
     go_enter Tryz.func112, Tryz.ntmps112
     go_wp2
     go_ret
     exact ⟨rfl, ((Below.refl _ _).alloc (Nat.le_refl _) _).alloc (by simp) _⟩
   ·clear hn
    go_enter Tryz.func112, Tryz.ntmps112
    go_wp2
    go_ret
    exact ⟨rfl, ((Below.refl _ _).alloc (Nat.le_refl _) _).alloc (by simp) _⟩
  ·clear hn
   go_enter Tryz.func112, Tryz.ntmps112
   go_wp2
   go_ret
   exact ⟨rfl, ((Below.refl _ _).alloc (Nat.le_refl _) _).alloc (by simp) _⟩
set_option maxRecDepth 100000 in
set_option maxHeartbeats 400000 in
theorem less_any (n a m b : Int) (w : World) :
 Calls Tryz.prog 113 #[.agg #[.int .i64 n, .int .i64 a], .agg #[.int .i64 m, .int .i64 b]] w fun e w' => e = .returned (.bool (lessB n a m b)) ∧ Below w.heap.size w w' := by
 unfold lessB
 by_cases h : n = m
 ·subst h
  go_enter Tryz.func113, Tryz.ntmps113
  go_wp2
  go_ret
  exact ⟨by simp, ((Below.refl _ _).alloc (Nat.le_refl _) _).alloc (by simp) _⟩
 ·have h' : (n == m) = false := by simp [h]
  go_enter Tryz.func113, Tryz.ntmps113
  go_wp2
  go_ret
  exact ⟨by simp, ((Below.refl _ _).alloc (Nat.le_refl _) _).alloc (by simp) _⟩
end Go.Proofs.YtejfemdkommfhaaGreatDoor
namespace Go.Proofs.YtejfemdkommfhaaGreatDoor
def cI (x y : Int) : Int := if x < y then -1 else if y < x then 1 else 0
def or2 (x y : Int) : Int := if x = 0 then y else x
structure V where
 k : Int
 n : Int
 t : ByteArray
 o : Int
 a : Int
def V.val (v : V) : Value := .agg #[.int .i64 v.k, .int .i64 v.n, .string v.t, .int .i64 v.o, .int .i64 v.a]
def V.key (v : V) : Int × Int × List UInt8 × Int × Int := (v.k, v.n, v.t.toList, v.o, v.a)
end Go.Proofs.YtejfemdkommfhaaGreatDoor
namespace Go.Proofs.YtejfemdkommfhaaGreatDoor
open Go.RowKit
abbrev St : Type := Option (List UInt8)
def rest (s : St) : List UInt8 := s.getD []
structure OpM where
 kind : Int
 obj : Pr
 key : ByteArray
 elem : Pr
 ins : Bool
 val : V
 preds : List Pr
structure Chg where
 actor : Int
 seq : Int
 start : Int
 deps : List Pr
 ops : List OpM
end Go.Proofs.YtejfemdkommfhaaGreatDoor
namespace Go.Proofs.YtejfemdkommfhaaGreatDoor
open Go.RowKit
def Wh (v : Value) : Prop := v = .slice none 0 0 ∨ ∃ ad n c, v = .slice (some ad) n c
theorem set_at {w : World} {g : Nat} {cs : Array Value} {T : TypeId} (h : w.heap[g]? = some (.cells cs T)) (i : Nat) (u : Value) : (w.setCell ⟨g, i, none⟩ u).heap[g]? = some (.cells (cs.setIfInBounds i u) T) :=
 heap_setCell_same w g i _ _ u h
theorem Off.ahead {g : Nat} {w w' : World} {o : Obj} (h : Off g (w.alloc o) w') : Off g w w' := (Off.of ((Below.refl _ w).alloc (Nat.le_refl _) o)).trans h
end Go.Proofs.YtejfemdkommfhaaGreatDoor
namespace Go.Proofs.YtejfemdkommfhaaGreatDoor
open Go.RowKit
theorem Off.more {g : Nat} {w w1 w2 : World} (h : Off g w w1) (k : Below w.heap.size w1 w2) : Off g w w2 :=
 ⟨k.os.trans h.os, k.tape.trans h.tape, k.output.trans h.output, Nat.le_trans h.size k.size, fun b hb hg => (k.block b hb).trans (h.block b hb hg)⟩
theorem infoR : (Tryz.prog.info? 25).map (fun i => (i.zero, i.size, i.bytes)) = some (some (.agg #[.int .i64 0, .int .i64 0]), 2, 16) := by kernel_rfl
theorem infoD : (Tryz.prog.info? 78).map (fun i => (i.zero, i.size, i.bytes)) = some (some (.agg #[.int .i64 0, .int .i64 0]), 2, 16) := by kernel_rfl
end Go.Proofs.YtejfemdkommfhaaGreatDoor
namespace Go.Proofs.YtejfemdkommfhaaGreatDoor
open Go.RowKit
def opCells (o : OpM) (vp : Value) : List Value := [.int .i64 o.kind, .int .i64 o.obj.1, .int .i64 o.obj.2, .string o.key, .int .i64 o.elem.1, .int .i64 o.elem.2, .bool o.ins, .int .i64 o.val.k, .int .i64 o.val.n, .string o.val.t, .int .i64 o.val.o, .int .i64 o.val.a, vp]
def opVal (o : OpM) (vp : Value) : Value := .agg (opCells o vp).toArray
abbrev OV : Type := OpM × Value
def ocells (l : List OV) : List Value := l.flatMap fun q => opCells q.1 q.2
theorem ocells_len (p : List OV) : (ocells p).length = p.length * 13 := by
 induction p with
 | nil => rfl
 | cons q r ih =>
  unfold ocells at ih ⊢
  rw [List.flatMap_cons, List.length_append, ih]
  simp [opCells]
  omega
theorem ocells_at (p : List OV) (i : Nat) (h : i < p.length) (j : Nat) (hj : j < 13) : (ocells p)[i * 13 + j]? = (opCells p[i].1 p[i].2)[j]? := by
 induction p generalizing i with
 | nil => simp at h
 | cons q r ih =>
  have e : ocells (q :: r) = opCells q.1 q.2 ++ ocells r := by simp [ocells]
  rw [e]
  have hl : (opCells q.1 q.2).length = 13 := rfl
  cases i with
  | zero => rw [List.getElem?_append_left (by omega)]; simp
  | succ i =>
   rw [List.getElem?_append_right (by omega), hl, show (i + 1) * 13 + j - 13 = i * 13 + j from by omega]
   simpa using ih i (by simpa using h)
abbrev RowO (B : Nat) (v : Value) (l : List OV) (w : World) : Prop := w.ownsRow B 83 13 v l.length (ocells l)
theorem rowO_len {B : Nat} {v : Value} {l : List OV} {w : World} (h : RowO B v l w) : ∃ a c, v = .slice a l.length c := by
 rcases h.2 with ⟨rfl, h0⟩ | ⟨g, cap, cur, rfl, _⟩
 ·exact ⟨none, 0, by rw [h0]⟩
 ·exact ⟨_, _, rfl⟩
theorem infoO : (Tryz.prog.info? 83).map (fun i => (i.zero, i.size, i.bytes)) = some (some (.agg #[.int .i64 0, .int .i64 0, .int .i64 0, .string .empty, .int .i64 0, .int .i64 0, .bool false, .int .i64 0, .int .i64 0, .string .empty, .int .i64 0, .int .i64 0, .slice none 0 0]), 13, 136) := by kernel_rfl
end Go.Proofs.YtejfemdkommfhaaGreatDoor
