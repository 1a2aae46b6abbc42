/-
  What is proved: the methods num and text of package bookref1's reader, called with any bytes, read as the mathematics says, and turn nothing but the reader.
  Conditions: the bytes lie in memory, and so does the reader.
-/
import Derived.Test.YtgecgemfniiciaaGreatDoorCRead3
import Derived.Test.YtgecgemfniiciaaGreatDoorRSig
import Derived.Deep.RegionWith
namespace Go.Proofs.YtgecgemfniiciaaGreatDoor
open Go.RowKit

/-- The reference's reader in its box: all bytes, how far it is, whether something was none. -/
def DAt (g : Nat) (vb : Value) (b : List UInt8) (s : St) (wr : World) : Prop :=
  ∃ a : Nat, a ≤ b.length ∧ (s = none ∨ s = some (b.drop a)) ∧ wr.heap[g]? = some (.cells #[vb, .int .i64 a, .bool s.isNone] 38)

theorem DAt.off {g k : Nat} {vb : Value} {b : List UInt8} {s : St} {wr w' : World} (h : DAt g vb b s wr) (ho : Off k wr w') (hk : g ≠ k) : DAt g vb b s w' := by
  obtain ⟨a, h1, h2, h3⟩ := h
  exact ⟨a, h1, h2, ho.heap h3 hk⟩

theorem DAt.below {g : Nat} {vb : Value} {b : List UInt8} {s : St} {wr w' : World} (h : DAt g vb b s wr) (hb : Below wr.heap.size wr w') : DAt g vb b s w' := by
  obtain ⟨a, h1, h2, h3⟩ := h
  exact ⟨a, h1, h2, heap_below h3 hb (Nat.le_refl _)⟩

theorem most_iff {n : Nat} {most : Int} (hn : n < 18446744073709551616) (h0 : 0 ≤ most) (h1 : most ≤ 1000000) : ((n : Int) > most) ↔ (wrap64 (n : Int) < 0 ∨ most < wrap64 (n : Int)) := by
  unfold wrap64
  omega

set_option maxRecDepth 100000 in
set_option maxHeartbeats 4000000 in
/-- Where no number is. -/
theorem qnum_none (wr : World) (g : Nat) (ad : Addr) (n c a : Nat) (most : Int) (hc : ¬ c = a) (_hn : a ≤ n) (_hnc : n ≤ c) (hx : wr.heap[g]? = some (.cells #[.slice (some ad) n c, .int .i64 a, .bool false] 38))
    (G : Calls Tryz.prog 16 #[.slice (some (ad.add a)) (n - a) (c - a)] wr.drew fun e w' => e = .returned (.tuple #[.int .u64 0, .int .i64 0]) ∧ Below wr.drew.heap.size wr.drew w') :
    Calls Tryz.prog 8 #[.pointer (some ⟨g, 0, none⟩), .int .i64 most] wr fun e w' => e = .returned (.int .i64 0) ∧ w'.heap[g]? = some (.cells #[.slice (some ad) n c, .int .i64 a, .bool true] 38) ∧ Off g wr w' := by
  have c0 : wr.cell? ⟨g, 0, none⟩ = some (.slice (some ad) n c) := Lib.cell_of_heap hx 0
  have c1 : wr.cell? ⟨g, 1, none⟩ = some (.int .i64 a) := Lib.cell_of_heap hx 1
  have c2 : wr.cell? ⟨g, 2, none⟩ = some (.bool false) := Lib.cell_of_heap hx 2
  have HX : Hid (wr.heap[g]? = some (.cells #[.slice (some ad) n c, .int .i64 a, .bool false] 38)) := hx
  clear hx
  go_enter Tryz.func8, Tryz.ntmps8
  go_wp2
  go_region_with (go_at_call 16; refine G.mono ?_; rintro e w1 ⟨rfl, b1⟩)
  all_goals
    have b2 : Below wr.heap.size wr w1 := (Below.refl _ wr).drew.trans b1
    have h2 := heap_below HX.out b2 (Nat.le_refl _)
    have d1 : w1.cell? ⟨g, 1, none⟩ = some (.int .i64 a) := Lib.cell_of_heap h2 1
    have d2 : w1.cell? ⟨g, 2, none⟩ = some (.bool false) := Lib.cell_of_heap h2 2
    have df := Lib.frozen_of_heap h2
    have HX2 : Hid _ := h2
    clear c0 c1 c2 h2
    go_wp2
    go_ret
    exact ⟨rfl, set_at HX2.out 2 (.bool true), (Off.of b2).set 2 _⟩

set_option maxRecDepth 100000 in
set_option maxHeartbeats 4000000 in
/-- Where the number is too great. -/
theorem qnum_more (wr : World) (g : Nat) (ad : Addr) (n c a : Nat) (most : Int) (hc : ¬ c = a) (_hn : a ≤ n) (_hnc : n ≤ c) (x k : Nat) (hk : 1 ≤ k) (_hx64 : x < 18446744073709551616) (h0 : 0 ≤ most) (h1 : most ≤ 1000000) (hm : (x : Int) > most) (hx : wr.heap[g]? = some (.cells #[.slice (some ad) n c, .int .i64 a, .bool false] 38))
    (G : Calls Tryz.prog 16 #[.slice (some (ad.add a)) (n - a) (c - a)] wr.drew fun e w' => e = .returned (.tuple #[.int .u64 x, .int .i64 k]) ∧ Below wr.drew.heap.size wr.drew w') :
    Calls Tryz.prog 8 #[.pointer (some ⟨g, 0, none⟩), .int .i64 most] wr fun e w' => e = .returned (.int .i64 0) ∧ w'.heap[g]? = some (.cells #[.slice (some ad) n c, .int .i64 a, .bool true] 38) ∧ Off g wr w' := by
  have c0 : wr.cell? ⟨g, 0, none⟩ = some (.slice (some ad) n c) := Lib.cell_of_heap hx 0
  have c1 : wr.cell? ⟨g, 1, none⟩ = some (.int .i64 a) := Lib.cell_of_heap hx 1
  have c2 : wr.cell? ⟨g, 2, none⟩ = some (.bool false) := Lib.cell_of_heap hx 2
  have HX : Hid (wr.heap[g]? = some (.cells #[.slice (some ad) n c, .int .i64 a, .bool false] 38)) := hx
  clear hx
  have hwm : IntKind.u64.wrap most = most := IntWalk.u64_in _ (by omega)
  have hk0 : ((k : Int) == 0) = false := by rw [beq_eq_false_iff_ne]; omega
  go_enter Tryz.func8, Tryz.ntmps8
  go_wp2
  go_region_with (go_at_call 16; refine G.mono ?_; rintro e w1 ⟨rfl, b1⟩)
  all_goals
    have b2 : Below wr.heap.size wr w1 := (Below.refl _ wr).drew.trans b1
    have h2 := heap_below HX.out b2 (Nat.le_refl _)
    have d1 : w1.cell? ⟨g, 1, none⟩ = some (.int .i64 a) := Lib.cell_of_heap h2 1
    have d2 : w1.cell? ⟨g, 2, none⟩ = some (.bool false) := Lib.cell_of_heap h2 2
    have df := Lib.frozen_of_heap h2
    have HX2 : Hid _ := h2
    clear c0 c1 c2 h2
    go_wp2
    go_ret
    exact ⟨rfl, set_at HX2.out 2 (.bool true), (Off.of b2).set 2 _⟩

set_option maxRecDepth 100000 in
set_option maxHeartbeats 4000000 in
/-- Where a number is. -/
theorem qnum_one (wr : World) (g : Nat) (ad : Addr) (n c a : Nat) (most : Int) (hc : ¬ c = a) (_hn : a ≤ n) (_hnc : n ≤ c) (x k : Nat) (hk : 1 ≤ k) (h0 : 0 ≤ most) (h1 : most ≤ 1000000) (hm : ¬ (x : Int) > most) (hak : a + k ≤ 4611686018427387904) (hx : wr.heap[g]? = some (.cells #[.slice (some ad) n c, .int .i64 a, .bool false] 38))
    (G : Calls Tryz.prog 16 #[.slice (some (ad.add a)) (n - a) (c - a)] wr.drew fun e w' => e = .returned (.tuple #[.int .u64 x, .int .i64 k]) ∧ Below wr.drew.heap.size wr.drew w') :
    Calls Tryz.prog 8 #[.pointer (some ⟨g, 0, none⟩), .int .i64 most] wr fun e w' => e = .returned (.int .i64 x) ∧ w'.heap[g]? = some (.cells #[.slice (some ad) n c, .int .i64 ((a + k : Nat) : Int), .bool false] 38) ∧ Off g wr w' := by
  have c0 : wr.cell? ⟨g, 0, none⟩ = some (.slice (some ad) n c) := Lib.cell_of_heap hx 0
  have c1 : wr.cell? ⟨g, 1, none⟩ = some (.int .i64 a) := Lib.cell_of_heap hx 1
  have c2 : wr.cell? ⟨g, 2, none⟩ = some (.bool false) := Lib.cell_of_heap hx 2
  have HX : Hid (wr.heap[g]? = some (.cells #[.slice (some ad) n c, .int .i64 a, .bool false] 38)) := hx
  clear hx
  have hwm : IntKind.u64.wrap most = most := IntWalk.u64_in _ (by omega)
  have hk0 : ((k : Int) == 0) = false := by rw [beq_eq_false_iff_ne]; omega
  have hwn : IntKind.i64.wrap (x : Int) = x := IntWalk.i64_in _ (by omega)
  go_enter Tryz.func8, Tryz.ntmps8
  go_wp2
  go_region_with (go_at_call 16; refine G.mono ?_; rintro e w1 ⟨rfl, b1⟩)
  all_goals
    have b2 : Below wr.heap.size wr w1 := (Below.refl _ wr).drew.trans b1
    have h2 := heap_below HX.out b2 (Nat.le_refl _)
    have d1 : w1.cell? ⟨g, 1, none⟩ = some (.int .i64 a) := Lib.cell_of_heap h2 1
    have d2 : w1.cell? ⟨g, 2, none⟩ = some (.bool false) := Lib.cell_of_heap h2 2
    have df := Lib.frozen_of_heap h2
    have HX2 : Hid _ := h2
    clear c0 c1 c2 h2
    go_wp2
    go_ret
    exact ⟨rfl, set_at HX2.out 1 (.int .i64 ((a + k : Nat) : Int)), (Off.of b2).set 1 _⟩

set_option maxRecDepth 100000 in
set_option maxHeartbeats 4000000 in
/-- Where nothing is left. -/
theorem qnum_end (wr : World) (g : Nat) (ad : Addr) (a : Nat) (most : Int) (hx : wr.heap[g]? = some (.cells #[.slice (some ad) a a, .int .i64 a, .bool false] 38))
    (G : Calls Tryz.prog 16 #[.slice (some ad) 0 0] wr.drew fun e w' => e = .returned (.tuple #[.int .u64 0, .int .i64 0]) ∧ Below wr.drew.heap.size wr.drew w') :
    Calls Tryz.prog 8 #[.pointer (some ⟨g, 0, none⟩), .int .i64 most] wr fun e w' => e = .returned (.int .i64 0) ∧ w'.heap[g]? = some (.cells #[.slice (some ad) a a, .int .i64 a, .bool true] 38) ∧ Off g wr w' := by
  have c0 : wr.cell? ⟨g, 0, none⟩ = some (.slice (some ad) a a) := Lib.cell_of_heap hx 0
  have c1 : wr.cell? ⟨g, 1, none⟩ = some (.int .i64 a) := Lib.cell_of_heap hx 1
  have c2 : wr.cell? ⟨g, 2, none⟩ = some (.bool false) := Lib.cell_of_heap hx 2
  have HX : Hid (wr.heap[g]? = some (.cells #[.slice (some ad) a a, .int .i64 a, .bool false] 38)) := hx
  clear hx
  go_enter Tryz.func8, Tryz.ntmps8
  go_wp2
  go_region_with (go_at_call 16; refine G.mono ?_; rintro e w1 ⟨rfl, b1⟩)
  all_goals
    have b2 : Below wr.heap.size wr w1 := (Below.refl _ wr).drew.trans b1
    have h2 := heap_below HX.out b2 (Nat.le_refl _)
    have d1 : w1.cell? ⟨g, 1, none⟩ = some (.int .i64 a) := Lib.cell_of_heap h2 1
    have d2 : w1.cell? ⟨g, 2, none⟩ = some (.bool false) := Lib.cell_of_heap h2 2
    have df := Lib.frozen_of_heap h2
    have HX2 : Hid _ := h2
    clear c0 c1 c2 h2
    go_wp2
    go_ret
    exact ⟨rfl, set_at HX2.out 2 (.bool true), (Off.of b2).set 2 _⟩

set_option maxRecDepth 100000 in
set_option maxHeartbeats 4000000 in
/-- Where there is nothing. -/
theorem qnum_nil (wr : World) (g : Nat) (most : Int) (hx : wr.heap[g]? = some (.cells #[.slice none 0 0, .int .i64 0, .bool false] 38))
    (G : Calls Tryz.prog 16 #[.slice none 0 0] wr.drew fun e w' => e = .returned (.tuple #[.int .u64 0, .int .i64 0]) ∧ Below wr.drew.heap.size wr.drew w') :
    Calls Tryz.prog 8 #[.pointer (some ⟨g, 0, none⟩), .int .i64 most] wr fun e w' => e = .returned (.int .i64 0) ∧ w'.heap[g]? = some (.cells #[.slice none 0 0, .int .i64 0, .bool true] 38) ∧ Off g wr w' := by
  have c0 : wr.cell? ⟨g, 0, none⟩ = some (.slice none 0 0) := Lib.cell_of_heap hx 0
  have c1 : wr.cell? ⟨g, 1, none⟩ = some (.int .i64 0) := Lib.cell_of_heap hx 1
  have c2 : wr.cell? ⟨g, 2, none⟩ = some (.bool false) := Lib.cell_of_heap hx 2
  have HX : Hid (wr.heap[g]? = some (.cells #[.slice none 0 0, .int .i64 0, .bool false] 38)) := hx
  clear hx
  go_enter Tryz.func8, Tryz.ntmps8
  go_wp2
  go_region_with (go_at_call 16; refine G.mono ?_; rintro e w1 ⟨rfl, b1⟩)
  all_goals
    have b2 : Below wr.heap.size wr w1 := (Below.refl _ wr).drew.trans b1
    have h2 := heap_below HX.out b2 (Nat.le_refl _)
    have d1 : w1.cell? ⟨g, 1, none⟩ = some (.int .i64 0) := Lib.cell_of_heap h2 1
    have d2 : w1.cell? ⟨g, 2, none⟩ = some (.bool false) := Lib.cell_of_heap h2 2
    have df := Lib.frozen_of_heap h2
    have HX2 : Hid _ := h2
    clear c0 c1 c2 h2
    go_wp2
    go_ret
    exact ⟨rfl, set_at HX2.out 2 (.bool true), (Off.of b2).set 2 _⟩
end Go.Proofs.YtgecgemfniiciaaGreatDoor
