/-
  What is proved: what bookref3's Do answers where something is wrong.
  Conditions: as each theorem says.
-/
import Derived.Test.YtcdpcjafomfddaaDoorQNam
namespace Go.Proofs.YtcdpcjafomfddaaDoor
open Go.RowKit Go.Maps Go.Sort Go.Shelf

set_option maxRecDepth 100000 in
set_option maxHeartbeats 8000000 in
theorem do_stop_1 {T : Nat → Prop} {p : Nat} {fs : List FV} {N Y : List (Tx × Nat)} {n st : Int} (s t : Tx) (a : Option Addr) (m c : Nat) (k : Int) (w : World) (h : Rk T w p fs N Y n st) (hst : 0 ≤ st ∧ st ≤ n) :
    Calls Tryd.prog 22 #[.pointer (some ⟨p, 0, none⟩), .agg #[.int .i64 1, .string ⟨s.toArray⟩, .string ⟨t.toArray⟩, .slice a m c, .int .i64 k]] w fun e w' => e = .returned (.int .i64 7) ∧ Below w.heap.size w w' := by
  have b0 : Below w.heap.size w (w.alloc (.cells #[.int .i64 1, .string ⟨s.toArray⟩, .string ⟨t.toArray⟩, .slice a m c, .int .i64 k] 36)) := (Below.refl _ _).alloc (Nat.le_refl _) _
  have r0 := h.below b0
  have x0 := (MapKept.heap_alloc w (.cells #[.int .i64 1, .string ⟨s.toArray⟩, .string ⟨t.toArray⟩, .slice a m c, .int .i64 k] 36)).1
  obtain ⟨vf, vn, vy, hbx, _⟩ := r0.box
  have k0 : (w.alloc (.cells #[.int .i64 1, .string ⟨s.toArray⟩, .string ⟨t.toArray⟩, .slice a m c, .int .i64 k] 36)).cell? ⟨w.heap.size, 0, none⟩ = some (.int .i64 1) := Lib.cell_of_heap x0 0
  have k1 : (w.alloc (.cells #[.int .i64 1, .string ⟨s.toArray⟩, .string ⟨t.toArray⟩, .slice a m c, .int .i64 k] 36)).cell? ⟨w.heap.size, 1, none⟩ = some (.string ⟨s.toArray⟩) := Lib.cell_of_heap x0 1
  have k2 : (w.alloc (.cells #[.int .i64 1, .string ⟨s.toArray⟩, .string ⟨t.toArray⟩, .slice a m c, .int .i64 k] 36)).cell? ⟨w.heap.size, 2, none⟩ = some (.string ⟨t.toArray⟩) := Lib.cell_of_heap x0 2
  have k3 : (w.alloc (.cells #[.int .i64 1, .string ⟨s.toArray⟩, .string ⟨t.toArray⟩, .slice a m c, .int .i64 k] 36)).cell? ⟨w.heap.size, 3, none⟩ = some (.slice a m c) := Lib.cell_of_heap x0 3
  have k4 : (w.alloc (.cells #[.int .i64 1, .string ⟨s.toArray⟩, .string ⟨t.toArray⟩, .slice a m c, .int .i64 k] 36)).cell? ⟨w.heap.size, 4, none⟩ = some (.int .i64 k) := Lib.cell_of_heap x0 4
  have p3 : (w.alloc (.cells #[.int .i64 1, .string ⟨s.toArray⟩, .string ⟨t.toArray⟩, .slice a m c, .int .i64 k] 36)).cell? ⟨p, 3, none⟩ = some (.int .i64 n) := Lib.cell_of_heap hbx 3
  have p4 : (w.alloc (.cells #[.int .i64 1, .string ⟨s.toArray⟩, .string ⟨t.toArray⟩, .slice a m c, .int .i64 k] 36)).cell? ⟨p, 4, none⟩ = some (.int .i64 st) := Lib.cell_of_heap hbx 4
  have HR0 : Hid (Rk T (w.alloc (.cells #[.int .i64 1, .string ⟨s.toArray⟩, .string ⟨t.toArray⟩, .slice a m c, .int .i64 k] 36)) p fs N Y n st) := r0
  have HB0 : Hid (Below w.heap.size w (w.alloc (.cells #[.int .i64 1, .string ⟨s.toArray⟩, .string ⟨t.toArray⟩, .slice a m c, .int .i64 k] 36))) := b0
  have g0 : decide (0 ≤ st) = true := decide_eq_true hst.1
  have g1 : decide (st ≤ n) = true := decide_eq_true hst.2
  clear hbx x0 r0 b0 h hst
  go_enter Tryd.func22, Tryd.ntmps22
  go_wp2
  go_quiet (fail)
  go_wp2
  go_ret
  exact ⟨rfl, below_drew HB0.out _⟩

set_option maxRecDepth 100000 in
set_option maxHeartbeats 8000000 in
theorem do_stop_2 {T : Nat → Prop} {p : Nat} {fs : List FV} {N Y : List (Tx × Nat)} {n st : Int} (s t : Tx) (a : Option Addr) (m c : Nat) (k : Int) (w : World) (h : Rk T w p fs N Y n st) (hst : 0 ≤ st ∧ st ≤ n) :
    Calls Tryd.prog 22 #[.pointer (some ⟨p, 0, none⟩), .agg #[.int .i64 2, .string ⟨s.toArray⟩, .string ⟨t.toArray⟩, .slice a m c, .int .i64 k]] w fun e w' => e = .returned (.int .i64 7) ∧ Below w.heap.size w w' := by
  have b0 : Below w.heap.size w (w.alloc (.cells #[.int .i64 2, .string ⟨s.toArray⟩, .string ⟨t.toArray⟩, .slice a m c, .int .i64 k] 36)) := (Below.refl _ _).alloc (Nat.le_refl _) _
  have r0 := h.below b0
  have x0 := (MapKept.heap_alloc w (.cells #[.int .i64 2, .string ⟨s.toArray⟩, .string ⟨t.toArray⟩, .slice a m c, .int .i64 k] 36)).1
  obtain ⟨vf, vn, vy, hbx, _⟩ := r0.box
  have k0 : (w.alloc (.cells #[.int .i64 2, .string ⟨s.toArray⟩, .string ⟨t.toArray⟩, .slice a m c, .int .i64 k] 36)).cell? ⟨w.heap.size, 0, none⟩ = some (.int .i64 2) := Lib.cell_of_heap x0 0
  have k1 : (w.alloc (.cells #[.int .i64 2, .string ⟨s.toArray⟩, .string ⟨t.toArray⟩, .slice a m c, .int .i64 k] 36)).cell? ⟨w.heap.size, 1, none⟩ = some (.string ⟨s.toArray⟩) := Lib.cell_of_heap x0 1
  have k2 : (w.alloc (.cells #[.int .i64 2, .string ⟨s.toArray⟩, .string ⟨t.toArray⟩, .slice a m c, .int .i64 k] 36)).cell? ⟨w.heap.size, 2, none⟩ = some (.string ⟨t.toArray⟩) := Lib.cell_of_heap x0 2
  have k3 : (w.alloc (.cells #[.int .i64 2, .string ⟨s.toArray⟩, .string ⟨t.toArray⟩, .slice a m c, .int .i64 k] 36)).cell? ⟨w.heap.size, 3, none⟩ = some (.slice a m c) := Lib.cell_of_heap x0 3
  have k4 : (w.alloc (.cells #[.int .i64 2, .string ⟨s.toArray⟩, .string ⟨t.toArray⟩, .slice a m c, .int .i64 k] 36)).cell? ⟨w.heap.size, 4, none⟩ = some (.int .i64 k) := Lib.cell_of_heap x0 4
  have p3 : (w.alloc (.cells #[.int .i64 2, .string ⟨s.toArray⟩, .string ⟨t.toArray⟩, .slice a m c, .int .i64 k] 36)).cell? ⟨p, 3, none⟩ = some (.int .i64 n) := Lib.cell_of_heap hbx 3
  have p4 : (w.alloc (.cells #[.int .i64 2, .string ⟨s.toArray⟩, .string ⟨t.toArray⟩, .slice a m c, .int .i64 k] 36)).cell? ⟨p, 4, none⟩ = some (.int .i64 st) := Lib.cell_of_heap hbx 4
  have HR0 : Hid (Rk T (w.alloc (.cells #[.int .i64 2, .string ⟨s.toArray⟩, .string ⟨t.toArray⟩, .slice a m c, .int .i64 k] 36)) p fs N Y n st) := r0
  have HB0 : Hid (Below w.heap.size w (w.alloc (.cells #[.int .i64 2, .string ⟨s.toArray⟩, .string ⟨t.toArray⟩, .slice a m c, .int .i64 k] 36))) := b0
  have g0 : decide (0 ≤ st) = true := decide_eq_true hst.1
  have g1 : decide (st ≤ n) = true := decide_eq_true hst.2
  clear hbx x0 r0 b0 h hst
  go_enter Tryd.func22, Tryd.ntmps22
  go_wp2
  go_quiet (fail)
  go_wp2
  go_ret
  exact ⟨rfl, below_drew HB0.out _⟩

set_option maxRecDepth 100000 in
set_option maxHeartbeats 8000000 in
theorem do_stop_3 {T : Nat → Prop} {p : Nat} {fs : List FV} {N Y : List (Tx × Nat)} {n st : Int} (s t : Tx) (a : Option Addr) (m c : Nat) (k : Int) (w : World) (h : Rk T w p fs N Y n st) (hst : 0 ≤ st ∧ st ≤ n) :
    Calls Tryd.prog 22 #[.pointer (some ⟨p, 0, none⟩), .agg #[.int .i64 3, .string ⟨s.toArray⟩, .string ⟨t.toArray⟩, .slice a m c, .int .i64 k]] w fun e w' => e = .returned (.int .i64 7) ∧ Below w.heap.size w w' := by
  have b0 : Below w.heap.size w (w.alloc (.cells #[.int .i64 3, .string ⟨s.toArray⟩, .string ⟨t.toArray⟩, .slice a m c, .int .i64 k] 36)) := (Below.refl _ _).alloc (Nat.le_refl _) _
  have r0 := h.below b0
  have x0 := (MapKept.heap_alloc w (.cells #[.int .i64 3, .string ⟨s.toArray⟩, .string ⟨t.toArray⟩, .slice a m c, .int .i64 k] 36)).1
  obtain ⟨vf, vn, vy, hbx, _⟩ := r0.box
  have k0 : (w.alloc (.cells #[.int .i64 3, .string ⟨s.toArray⟩, .string ⟨t.toArray⟩, .slice a m c, .int .i64 k] 36)).cell? ⟨w.heap.size, 0, none⟩ = some (.int .i64 3) := Lib.cell_of_heap x0 0
  have k1 : (w.alloc (.cells #[.int .i64 3, .string ⟨s.toArray⟩, .string ⟨t.toArray⟩, .slice a m c, .int .i64 k] 36)).cell? ⟨w.heap.size, 1, none⟩ = some (.string ⟨s.toArray⟩) := Lib.cell_of_heap x0 1
  have k2 : (w.alloc (.cells #[.int .i64 3, .string ⟨s.toArray⟩, .string ⟨t.toArray⟩, .slice a m c, .int .i64 k] 36)).cell? ⟨w.heap.size, 2, none⟩ = some (.string ⟨t.toArray⟩) := Lib.cell_of_heap x0 2
  have k3 : (w.alloc (.cells #[.int .i64 3, .string ⟨s.toArray⟩, .string ⟨t.toArray⟩, .slice a m c, .int .i64 k] 36)).cell? ⟨w.heap.size, 3, none⟩ = some (.slice a m c) := Lib.cell_of_heap x0 3
  have k4 : (w.alloc (.cells #[.int .i64 3, .string ⟨s.toArray⟩, .string ⟨t.toArray⟩, .slice a m c, .int .i64 k] 36)).cell? ⟨w.heap.size, 4, none⟩ = some (.int .i64 k) := Lib.cell_of_heap x0 4
  have p3 : (w.alloc (.cells #[.int .i64 3, .string ⟨s.toArray⟩, .string ⟨t.toArray⟩, .slice a m c, .int .i64 k] 36)).cell? ⟨p, 3, none⟩ = some (.int .i64 n) := Lib.cell_of_heap hbx 3
  have p4 : (w.alloc (.cells #[.int .i64 3, .string ⟨s.toArray⟩, .string ⟨t.toArray⟩, .slice a m c, .int .i64 k] 36)).cell? ⟨p, 4, none⟩ = some (.int .i64 st) := Lib.cell_of_heap hbx 4
  have HR0 : Hid (Rk T (w.alloc (.cells #[.int .i64 3, .string ⟨s.toArray⟩, .string ⟨t.toArray⟩, .slice a m c, .int .i64 k] 36)) p fs N Y n st) := r0
  have HB0 : Hid (Below w.heap.size w (w.alloc (.cells #[.int .i64 3, .string ⟨s.toArray⟩, .string ⟨t.toArray⟩, .slice a m c, .int .i64 k] 36))) := b0
  have g0 : decide (0 ≤ st) = true := decide_eq_true hst.1
  have g1 : decide (st ≤ n) = true := decide_eq_true hst.2
  clear hbx x0 r0 b0 h hst
  go_enter Tryd.func22, Tryd.ntmps22
  go_wp2
  go_quiet (fail)
  go_wp2
  go_ret
  exact ⟨rfl, below_drew HB0.out _⟩

set_option maxRecDepth 100000 in
set_option maxHeartbeats 8000000 in
theorem do_stop_4 {T : Nat → Prop} {p : Nat} {fs : List FV} {N Y : List (Tx × Nat)} {n st : Int} (s t : Tx) (a : Option Addr) (m c : Nat) (k : Int) (w : World) (h : Rk T w p fs N Y n st) (hst : 0 ≤ st ∧ st ≤ n) :
    Calls Tryd.prog 22 #[.pointer (some ⟨p, 0, none⟩), .agg #[.int .i64 4, .string ⟨s.toArray⟩, .string ⟨t.toArray⟩, .slice a m c, .int .i64 k]] w fun e w' => e = .returned (.int .i64 7) ∧ Below w.heap.size w w' := by
  have b0 : Below w.heap.size w (w.alloc (.cells #[.int .i64 4, .string ⟨s.toArray⟩, .string ⟨t.toArray⟩, .slice a m c, .int .i64 k] 36)) := (Below.refl _ _).alloc (Nat.le_refl _) _
  have r0 := h.below b0
  have x0 := (MapKept.heap_alloc w (.cells #[.int .i64 4, .string ⟨s.toArray⟩, .string ⟨t.toArray⟩, .slice a m c, .int .i64 k] 36)).1
  obtain ⟨vf, vn, vy, hbx, _⟩ := r0.box
  have k0 : (w.alloc (.cells #[.int .i64 4, .string ⟨s.toArray⟩, .string ⟨t.toArray⟩, .slice a m c, .int .i64 k] 36)).cell? ⟨w.heap.size, 0, none⟩ = some (.int .i64 4) := Lib.cell_of_heap x0 0
  have k1 : (w.alloc (.cells #[.int .i64 4, .string ⟨s.toArray⟩, .string ⟨t.toArray⟩, .slice a m c, .int .i64 k] 36)).cell? ⟨w.heap.size, 1, none⟩ = some (.string ⟨s.toArray⟩) := Lib.cell_of_heap x0 1
  have k2 : (w.alloc (.cells #[.int .i64 4, .string ⟨s.toArray⟩, .string ⟨t.toArray⟩, .slice a m c, .int .i64 k] 36)).cell? ⟨w.heap.size, 2, none⟩ = some (.string ⟨t.toArray⟩) := Lib.cell_of_heap x0 2
  have k3 : (w.alloc (.cells #[.int .i64 4, .string ⟨s.toArray⟩, .string ⟨t.toArray⟩, .slice a m c, .int .i64 k] 36)).cell? ⟨w.heap.size, 3, none⟩ = some (.slice a m c) := Lib.cell_of_heap x0 3
  have k4 : (w.alloc (.cells #[.int .i64 4, .string ⟨s.toArray⟩, .string ⟨t.toArray⟩, .slice a m c, .int .i64 k] 36)).cell? ⟨w.heap.size, 4, none⟩ = some (.int .i64 k) := Lib.cell_of_heap x0 4
  have p3 : (w.alloc (.cells #[.int .i64 4, .string ⟨s.toArray⟩, .string ⟨t.toArray⟩, .slice a m c, .int .i64 k] 36)).cell? ⟨p, 3, none⟩ = some (.int .i64 n) := Lib.cell_of_heap hbx 3
  have p4 : (w.alloc (.cells #[.int .i64 4, .string ⟨s.toArray⟩, .string ⟨t.toArray⟩, .slice a m c, .int .i64 k] 36)).cell? ⟨p, 4, none⟩ = some (.int .i64 st) := Lib.cell_of_heap hbx 4
  have HR0 : Hid (Rk T (w.alloc (.cells #[.int .i64 4, .string ⟨s.toArray⟩, .string ⟨t.toArray⟩, .slice a m c, .int .i64 k] 36)) p fs N Y n st) := r0
  have HB0 : Hid (Below w.heap.size w (w.alloc (.cells #[.int .i64 4, .string ⟨s.toArray⟩, .string ⟨t.toArray⟩, .slice a m c, .int .i64 k] 36))) := b0
  have g0 : decide (0 ≤ st) = true := decide_eq_true hst.1
  have g1 : decide (st ≤ n) = true := decide_eq_true hst.2
  clear hbx x0 r0 b0 h hst
  go_enter Tryd.func22, Tryd.ntmps22
  go_wp2
  go_quiet (fail)
  go_wp2
  go_ret
  exact ⟨rfl, below_drew HB0.out _⟩

set_option maxRecDepth 100000 in
set_option maxHeartbeats 8000000 in
theorem do_stop_5 {T : Nat → Prop} {p : Nat} {fs : List FV} {N Y : List (Tx × Nat)} {n st : Int} (s t : Tx) (a : Option Addr) (m c : Nat) (k : Int) (w : World) (h : Rk T w p fs N Y n st) (hst : 0 ≤ st ∧ st ≤ n) :
    Calls Tryd.prog 22 #[.pointer (some ⟨p, 0, none⟩), .agg #[.int .i64 5, .string ⟨s.toArray⟩, .string ⟨t.toArray⟩, .slice a m c, .int .i64 k]] w fun e w' => e = .returned (.int .i64 7) ∧ Below w.heap.size w w' := by
  have b0 : Below w.heap.size w (w.alloc (.cells #[.int .i64 5, .string ⟨s.toArray⟩, .string ⟨t.toArray⟩, .slice a m c, .int .i64 k] 36)) := (Below.refl _ _).alloc (Nat.le_refl _) _
  have r0 := h.below b0
  have x0 := (MapKept.heap_alloc w (.cells #[.int .i64 5, .string ⟨s.toArray⟩, .string ⟨t.toArray⟩, .slice a m c, .int .i64 k] 36)).1
  obtain ⟨vf, vn, vy, hbx, _⟩ := r0.box
  have k0 : (w.alloc (.cells #[.int .i64 5, .string ⟨s.toArray⟩, .string ⟨t.toArray⟩, .slice a m c, .int .i64 k] 36)).cell? ⟨w.heap.size, 0, none⟩ = some (.int .i64 5) := Lib.cell_of_heap x0 0
  have k1 : (w.alloc (.cells #[.int .i64 5, .string ⟨s.toArray⟩, .string ⟨t.toArray⟩, .slice a m c, .int .i64 k] 36)).cell? ⟨w.heap.size, 1, none⟩ = some (.string ⟨s.toArray⟩) := Lib.cell_of_heap x0 1
  have k2 : (w.alloc (.cells #[.int .i64 5, .string ⟨s.toArray⟩, .string ⟨t.toArray⟩, .slice a m c, .int .i64 k] 36)).cell? ⟨w.heap.size, 2, none⟩ = some (.string ⟨t.toArray⟩) := Lib.cell_of_heap x0 2
  have k3 : (w.alloc (.cells #[.int .i64 5, .string ⟨s.toArray⟩, .string ⟨t.toArray⟩, .slice a m c, .int .i64 k] 36)).cell? ⟨w.heap.size, 3, none⟩ = some (.slice a m c) := Lib.cell_of_heap x0 3
  have k4 : (w.alloc (.cells #[.int .i64 5, .string ⟨s.toArray⟩, .string ⟨t.toArray⟩, .slice a m c, .int .i64 k] 36)).cell? ⟨w.heap.size, 4, none⟩ = some (.int .i64 k) := Lib.cell_of_heap x0 4
  have p3 : (w.alloc (.cells #[.int .i64 5, .string ⟨s.toArray⟩, .string ⟨t.toArray⟩, .slice a m c, .int .i64 k] 36)).cell? ⟨p, 3, none⟩ = some (.int .i64 n) := Lib.cell_of_heap hbx 3
  have p4 : (w.alloc (.cells #[.int .i64 5, .string ⟨s.toArray⟩, .string ⟨t.toArray⟩, .slice a m c, .int .i64 k] 36)).cell? ⟨p, 4, none⟩ = some (.int .i64 st) := Lib.cell_of_heap hbx 4
  have HR0 : Hid (Rk T (w.alloc (.cells #[.int .i64 5, .string ⟨s.toArray⟩, .string ⟨t.toArray⟩, .slice a m c, .int .i64 k] 36)) p fs N Y n st) := r0
  have HB0 : Hid (Below w.heap.size w (w.alloc (.cells #[.int .i64 5, .string ⟨s.toArray⟩, .string ⟨t.toArray⟩, .slice a m c, .int .i64 k] 36))) := b0
  have g0 : decide (0 ≤ st) = true := decide_eq_true hst.1
  have g1 : decide (st ≤ n) = true := decide_eq_true hst.2
  clear hbx x0 r0 b0 h hst
  go_enter Tryd.func22, Tryd.ntmps22
  go_wp2
  go_quiet (fail)
  go_wp2
  go_ret
  exact ⟨rfl, below_drew HB0.out _⟩

set_option maxRecDepth 100000 in
set_option maxHeartbeats 8000000 in
theorem do_stop_6 {T : Nat → Prop} {p : Nat} {fs : List FV} {N Y : List (Tx × Nat)} {n st : Int} (s t : Tx) (a : Option Addr) (m c : Nat) (k : Int) (w : World) (h : Rk T w p fs N Y n st) (hst : 0 ≤ st ∧ st ≤ n) :
    Calls Tryd.prog 22 #[.pointer (some ⟨p, 0, none⟩), .agg #[.int .i64 6, .string ⟨s.toArray⟩, .string ⟨t.toArray⟩, .slice a m c, .int .i64 k]] w fun e w' => e = .returned (.int .i64 7) ∧ Below w.heap.size w w' := by
  have b0 : Below w.heap.size w (w.alloc (.cells #[.int .i64 6, .string ⟨s.toArray⟩, .string ⟨t.toArray⟩, .slice a m c, .int .i64 k] 36)) := (Below.refl _ _).alloc (Nat.le_refl _) _
  have r0 := h.below b0
  have x0 := (MapKept.heap_alloc w (.cells #[.int .i64 6, .string ⟨s.toArray⟩, .string ⟨t.toArray⟩, .slice a m c, .int .i64 k] 36)).1
  obtain ⟨vf, vn, vy, hbx, _⟩ := r0.box
  have k0 : (w.alloc (.cells #[.int .i64 6, .string ⟨s.toArray⟩, .string ⟨t.toArray⟩, .slice a m c, .int .i64 k] 36)).cell? ⟨w.heap.size, 0, none⟩ = some (.int .i64 6) := Lib.cell_of_heap x0 0
  have k1 : (w.alloc (.cells #[.int .i64 6, .string ⟨s.toArray⟩, .string ⟨t.toArray⟩, .slice a m c, .int .i64 k] 36)).cell? ⟨w.heap.size, 1, none⟩ = some (.string ⟨s.toArray⟩) := Lib.cell_of_heap x0 1
  have k2 : (w.alloc (.cells #[.int .i64 6, .string ⟨s.toArray⟩, .string ⟨t.toArray⟩, .slice a m c, .int .i64 k] 36)).cell? ⟨w.heap.size, 2, none⟩ = some (.string ⟨t.toArray⟩) := Lib.cell_of_heap x0 2
  have k3 : (w.alloc (.cells #[.int .i64 6, .string ⟨s.toArray⟩, .string ⟨t.toArray⟩, .slice a m c, .int .i64 k] 36)).cell? ⟨w.heap.size, 3, none⟩ = some (.slice a m c) := Lib.cell_of_heap x0 3
  have k4 : (w.alloc (.cells #[.int .i64 6, .string ⟨s.toArray⟩, .string ⟨t.toArray⟩, .slice a m c, .int .i64 k] 36)).cell? ⟨w.heap.size, 4, none⟩ = some (.int .i64 k) := Lib.cell_of_heap x0 4
  have p3 : (w.alloc (.cells #[.int .i64 6, .string ⟨s.toArray⟩, .string ⟨t.toArray⟩, .slice a m c, .int .i64 k] 36)).cell? ⟨p, 3, none⟩ = some (.int .i64 n) := Lib.cell_of_heap hbx 3
  have p4 : (w.alloc (.cells #[.int .i64 6, .string ⟨s.toArray⟩, .string ⟨t.toArray⟩, .slice a m c, .int .i64 k] 36)).cell? ⟨p, 4, none⟩ = some (.int .i64 st) := Lib.cell_of_heap hbx 4
  have HR0 : Hid (Rk T (w.alloc (.cells #[.int .i64 6, .string ⟨s.toArray⟩, .string ⟨t.toArray⟩, .slice a m c, .int .i64 k] 36)) p fs N Y n st) := r0
  have HB0 : Hid (Below w.heap.size w (w.alloc (.cells #[.int .i64 6, .string ⟨s.toArray⟩, .string ⟨t.toArray⟩, .slice a m c, .int .i64 k] 36))) := b0
  have g0 : decide (0 ≤ st) = true := decide_eq_true hst.1
  have g1 : decide (st ≤ n) = true := decide_eq_true hst.2
  clear hbx x0 r0 b0 h hst
  go_enter Tryd.func22, Tryd.ntmps22
  go_wp2
  go_quiet (fail)
  go_wp2
  go_ret
  exact ⟨rfl, below_drew HB0.out _⟩

set_option maxRecDepth 100000 in
set_option maxHeartbeats 8000000 in
theorem do_bad_1 {T : Nat → Prop} {p : Nat} {fs : List FV} {N Y : List (Tx × Nat)} {n st : Int} (s t : Tx) (a : Option Addr) (m c : Nat) (k : Int) (w : World) (h : Rk T w p fs N Y n st) (hN : N.length ≤ 1000) (hst : st < 0 ∨ n < st) (hb : nameB s = false) :
    Calls Tryd.prog 22 #[.pointer (some ⟨p, 0, none⟩), .agg #[.int .i64 1, .string ⟨s.toArray⟩, .string ⟨t.toArray⟩, .slice a m c, .int .i64 k]] w fun e w' => e = .returned (.int .i64 2) ∧ Below w.heap.size w w' := by
  have b0 : Below w.heap.size w (w.alloc (.cells #[.int .i64 1, .string ⟨s.toArray⟩, .string ⟨t.toArray⟩, .slice a m c, .int .i64 k] 36)) := (Below.refl _ _).alloc (Nat.le_refl _) _
  have r0 := h.below b0
  have x0 := (MapKept.heap_alloc w (.cells #[.int .i64 1, .string ⟨s.toArray⟩, .string ⟨t.toArray⟩, .slice a m c, .int .i64 k] 36)).1
  obtain ⟨vf, vn, vy, hbx, _⟩ := r0.box
  have k0 : (w.alloc (.cells #[.int .i64 1, .string ⟨s.toArray⟩, .string ⟨t.toArray⟩, .slice a m c, .int .i64 k] 36)).cell? ⟨w.heap.size, 0, none⟩ = some (.int .i64 1) := Lib.cell_of_heap x0 0
  have k1 : (w.alloc (.cells #[.int .i64 1, .string ⟨s.toArray⟩, .string ⟨t.toArray⟩, .slice a m c, .int .i64 k] 36)).cell? ⟨w.heap.size, 1, none⟩ = some (.string ⟨s.toArray⟩) := Lib.cell_of_heap x0 1
  have k2 : (w.alloc (.cells #[.int .i64 1, .string ⟨s.toArray⟩, .string ⟨t.toArray⟩, .slice a m c, .int .i64 k] 36)).cell? ⟨w.heap.size, 2, none⟩ = some (.string ⟨t.toArray⟩) := Lib.cell_of_heap x0 2
  have k3 : (w.alloc (.cells #[.int .i64 1, .string ⟨s.toArray⟩, .string ⟨t.toArray⟩, .slice a m c, .int .i64 k] 36)).cell? ⟨w.heap.size, 3, none⟩ = some (.slice a m c) := Lib.cell_of_heap x0 3
  have k4 : (w.alloc (.cells #[.int .i64 1, .string ⟨s.toArray⟩, .string ⟨t.toArray⟩, .slice a m c, .int .i64 k] 36)).cell? ⟨w.heap.size, 4, none⟩ = some (.int .i64 k) := Lib.cell_of_heap x0 4
  have p3 : (w.alloc (.cells #[.int .i64 1, .string ⟨s.toArray⟩, .string ⟨t.toArray⟩, .slice a m c, .int .i64 k] 36)).cell? ⟨p, 3, none⟩ = some (.int .i64 n) := Lib.cell_of_heap hbx 3
  have p4 : (w.alloc (.cells #[.int .i64 1, .string ⟨s.toArray⟩, .string ⟨t.toArray⟩, .slice a m c, .int .i64 k] 36)).cell? ⟨p, 4, none⟩ = some (.int .i64 st) := Lib.cell_of_heap hbx 4
  have HR0 : Hid (Rk T (w.alloc (.cells #[.int .i64 1, .string ⟨s.toArray⟩, .string ⟨t.toArray⟩, .slice a m c, .int .i64 k] 36)) p fs N Y n st) := r0
  have HB0 : Hid (Below w.heap.size w (w.alloc (.cells #[.int .i64 1, .string ⟨s.toArray⟩, .string ⟨t.toArray⟩, .slice a m c, .int .i64 k] 36))) := b0
  clear hbx x0 r0 b0 h
  go_enter Tryd.func22, Tryd.ntmps22
  go_upto_region 27 with fail
  go_cut [139] from 124 to 139 (fun x wx => x = .bool false ∧ ∃ q, wx = (w.alloc (.cells #[.int .i64 1, .string ⟨s.toArray⟩, .string ⟨t.toArray⟩, .slice a m c, .int .i64 k] 36)).drewN q)
  case first =>
    rcases hst with hst | hst
    · have g0 : decide (0 ≤ st) = false := decide_eq_false (by omega)
      clear hst
      go_quiet (fail)
      go_wp2_with fail
      go_meet
      case rel => exact ⟨rfl, nq, rfl⟩
    · have g1 : decide (st ≤ n) = false := decide_eq_false (by omega)
      by_cases h0 : 0 ≤ st
      · have g0 : decide (0 ≤ st) = true := decide_eq_true h0
        clear hst h0
        go_quiet (fail)
        go_wp2_with fail
        go_meet
        case rel => exact ⟨rfl, nq, rfl⟩
      · have g0 : decide (0 ≤ st) = false := decide_eq_false h0
        clear hst h0
        go_quiet (fail)
        go_wp2_with fail
        go_meet
        case rel => exact ⟨rfl, nq, rfl⟩
  case rest =>
    obtain ⟨rfl, q, hw⟩ := hcut
    have HR1 : Hid (Rk T wc p fs N Y n st) := by rw [hw]; exact HR0.out.below (below_drew (Below.refl _ _) q)
    have HB1 : Hid (Below w.heap.size w wc) := by rw [hw]; exact below_drew HB0.out q
    replace k0 : wc.cell? ⟨w.heap.size, 0, none⟩ = some (.int .i64 1) := by rw [hw]; exact k0
    replace k1 : wc.cell? ⟨w.heap.size, 1, none⟩ = some (.string ⟨s.toArray⟩) := by rw [hw]; exact k1
    replace k2 : wc.cell? ⟨w.heap.size, 2, none⟩ = some (.string ⟨t.toArray⟩) := by rw [hw]; exact k2
    replace k3 : wc.cell? ⟨w.heap.size, 3, none⟩ = some (.slice a m c) := by rw [hw]; exact k3
    replace k4 : wc.cell? ⟨w.heap.size, 4, none⟩ = some (.int .i64 k) := by rw [hw]; exact k4
    replace p3 : wc.cell? ⟨p, 3, none⟩ = some (.int .i64 n) := by rw [hw]; exact p3
    replace p4 : wc.cell? ⟨p, 4, none⟩ = some (.int .i64 st) := by rw [hw]; exact p4
    have NS := named_any s wc
    have NT := named_any t wc
    have FI := rFile_any s wc HR1.out hN
    clear hw HR0 HB0 hN
    rw [hb] at NS
    clear hb NT
    go_wp2_with (first
      | (go_at_call 28; refine NS.mono ?_; clear NS; rintro e w1 ⟨rfl, rfl⟩)
      | (go_at_call 29; refine FI.mono ?_; clear FI; rintro e w1 ⟨rfl, rfl⟩)
      | (go_at_call 28; refine NT.mono ?_; rintro e w1 ⟨rfl, rfl⟩))
    go_ret
    exact ⟨rfl, HB1.out⟩

set_option maxRecDepth 100000 in
set_option maxHeartbeats 8000000 in
theorem do_bad_2 {T : Nat → Prop} {p : Nat} {fs : List FV} {N Y : List (Tx × Nat)} {n st : Int} (s t : Tx) (a : Option Addr) (m c : Nat) (k : Int) (w : World) (h : Rk T w p fs N Y n st) (hN : N.length ≤ 1000) (hst : st < 0 ∨ n < st) (hb : nameB s = false) :
    Calls Tryd.prog 22 #[.pointer (some ⟨p, 0, none⟩), .agg #[.int .i64 2, .string ⟨s.toArray⟩, .string ⟨t.toArray⟩, .slice a m c, .int .i64 k]] w fun e w' => e = .returned (.int .i64 2) ∧ Below w.heap.size w w' := by
  have b0 : Below w.heap.size w (w.alloc (.cells #[.int .i64 2, .string ⟨s.toArray⟩, .string ⟨t.toArray⟩, .slice a m c, .int .i64 k] 36)) := (Below.refl _ _).alloc (Nat.le_refl _) _
  have r0 := h.below b0
  have x0 := (MapKept.heap_alloc w (.cells #[.int .i64 2, .string ⟨s.toArray⟩, .string ⟨t.toArray⟩, .slice a m c, .int .i64 k] 36)).1
  obtain ⟨vf, vn, vy, hbx, _⟩ := r0.box
  have k0 : (w.alloc (.cells #[.int .i64 2, .string ⟨s.toArray⟩, .string ⟨t.toArray⟩, .slice a m c, .int .i64 k] 36)).cell? ⟨w.heap.size, 0, none⟩ = some (.int .i64 2) := Lib.cell_of_heap x0 0
  have k1 : (w.alloc (.cells #[.int .i64 2, .string ⟨s.toArray⟩, .string ⟨t.toArray⟩, .slice a m c, .int .i64 k] 36)).cell? ⟨w.heap.size, 1, none⟩ = some (.string ⟨s.toArray⟩) := Lib.cell_of_heap x0 1
  have k2 : (w.alloc (.cells #[.int .i64 2, .string ⟨s.toArray⟩, .string ⟨t.toArray⟩, .slice a m c, .int .i64 k] 36)).cell? ⟨w.heap.size, 2, none⟩ = some (.string ⟨t.toArray⟩) := Lib.cell_of_heap x0 2
  have k3 : (w.alloc (.cells #[.int .i64 2, .string ⟨s.toArray⟩, .string ⟨t.toArray⟩, .slice a m c, .int .i64 k] 36)).cell? ⟨w.heap.size, 3, none⟩ = some (.slice a m c) := Lib.cell_of_heap x0 3
  have k4 : (w.alloc (.cells #[.int .i64 2, .string ⟨s.toArray⟩, .string ⟨t.toArray⟩, .slice a m c, .int .i64 k] 36)).cell? ⟨w.heap.size, 4, none⟩ = some (.int .i64 k) := Lib.cell_of_heap x0 4
  have p3 : (w.alloc (.cells #[.int .i64 2, .string ⟨s.toArray⟩, .string ⟨t.toArray⟩, .slice a m c, .int .i64 k] 36)).cell? ⟨p, 3, none⟩ = some (.int .i64 n) := Lib.cell_of_heap hbx 3
  have p4 : (w.alloc (.cells #[.int .i64 2, .string ⟨s.toArray⟩, .string ⟨t.toArray⟩, .slice a m c, .int .i64 k] 36)).cell? ⟨p, 4, none⟩ = some (.int .i64 st) := Lib.cell_of_heap hbx 4
  have HR0 : Hid (Rk T (w.alloc (.cells #[.int .i64 2, .string ⟨s.toArray⟩, .string ⟨t.toArray⟩, .slice a m c, .int .i64 k] 36)) p fs N Y n st) := r0
  have HB0 : Hid (Below w.heap.size w (w.alloc (.cells #[.int .i64 2, .string ⟨s.toArray⟩, .string ⟨t.toArray⟩, .slice a m c, .int .i64 k] 36))) := b0
  clear hbx x0 r0 b0 h
  go_enter Tryd.func22, Tryd.ntmps22
  go_upto_region 27 with fail
  go_cut [139] from 124 to 139 (fun x wx => x = .bool false ∧ ∃ q, wx = (w.alloc (.cells #[.int .i64 2, .string ⟨s.toArray⟩, .string ⟨t.toArray⟩, .slice a m c, .int .i64 k] 36)).drewN q)
  case first =>
    rcases hst with hst | hst
    · have g0 : decide (0 ≤ st) = false := decide_eq_false (by omega)
      clear hst
      go_quiet (fail)
      go_wp2_with fail
      go_meet
      case rel => exact ⟨rfl, nq, rfl⟩
    · have g1 : decide (st ≤ n) = false := decide_eq_false (by omega)
      by_cases h0 : 0 ≤ st
      · have g0 : decide (0 ≤ st) = true := decide_eq_true h0
        clear hst h0
        go_quiet (fail)
        go_wp2_with fail
        go_meet
        case rel => exact ⟨rfl, nq, rfl⟩
      · have g0 : decide (0 ≤ st) = false := decide_eq_false h0
        clear hst h0
        go_quiet (fail)
        go_wp2_with fail
        go_meet
        case rel => exact ⟨rfl, nq, rfl⟩
  case rest =>
    obtain ⟨rfl, q, hw⟩ := hcut
    have HR1 : Hid (Rk T wc p fs N Y n st) := by rw [hw]; exact HR0.out.below (below_drew (Below.refl _ _) q)
    have HB1 : Hid (Below w.heap.size w wc) := by rw [hw]; exact below_drew HB0.out q
    replace k0 : wc.cell? ⟨w.heap.size, 0, none⟩ = some (.int .i64 2) := by rw [hw]; exact k0
    replace k1 : wc.cell? ⟨w.heap.size, 1, none⟩ = some (.string ⟨s.toArray⟩) := by rw [hw]; exact k1
    replace k2 : wc.cell? ⟨w.heap.size, 2, none⟩ = some (.string ⟨t.toArray⟩) := by rw [hw]; exact k2
    replace k3 : wc.cell? ⟨w.heap.size, 3, none⟩ = some (.slice a m c) := by rw [hw]; exact k3
    replace k4 : wc.cell? ⟨w.heap.size, 4, none⟩ = some (.int .i64 k) := by rw [hw]; exact k4
    replace p3 : wc.cell? ⟨p, 3, none⟩ = some (.int .i64 n) := by rw [hw]; exact p3
    replace p4 : wc.cell? ⟨p, 4, none⟩ = some (.int .i64 st) := by rw [hw]; exact p4
    have NS := named_any s wc
    have NT := named_any t wc
    have FI := rFile_any s wc HR1.out hN
    clear hw HR0 HB0 hN
    rw [hb] at NS
    clear hb NT
    go_wp2_with (first
      | (go_at_call 28; refine NS.mono ?_; clear NS; rintro e w1 ⟨rfl, rfl⟩)
      | (go_at_call 29; refine FI.mono ?_; clear FI; rintro e w1 ⟨rfl, rfl⟩)
      | (go_at_call 28; refine NT.mono ?_; rintro e w1 ⟨rfl, rfl⟩))
    go_ret
    exact ⟨rfl, HB1.out⟩

set_option maxRecDepth 100000 in
set_option maxHeartbeats 8000000 in
theorem do_bad_3 {T : Nat → Prop} {p : Nat} {fs : List FV} {N Y : List (Tx × Nat)} {n st : Int} (s t : Tx) (a : Option Addr) (m c : Nat) (k : Int) (w : World) (h : Rk T w p fs N Y n st) (hN : N.length ≤ 1000) (hst : st < 0 ∨ n < st) (hb : nameB s = false) :
    Calls Tryd.prog 22 #[.pointer (some ⟨p, 0, none⟩), .agg #[.int .i64 3, .string ⟨s.toArray⟩, .string ⟨t.toArray⟩, .slice a m c, .int .i64 k]] w fun e w' => e = .returned (.int .i64 2) ∧ Below w.heap.size w w' := by
  have b0 : Below w.heap.size w (w.alloc (.cells #[.int .i64 3, .string ⟨s.toArray⟩, .string ⟨t.toArray⟩, .slice a m c, .int .i64 k] 36)) := (Below.refl _ _).alloc (Nat.le_refl _) _
  have r0 := h.below b0
  have x0 := (MapKept.heap_alloc w (.cells #[.int .i64 3, .string ⟨s.toArray⟩, .string ⟨t.toArray⟩, .slice a m c, .int .i64 k] 36)).1
  obtain ⟨vf, vn, vy, hbx, _⟩ := r0.box
  have k0 : (w.alloc (.cells #[.int .i64 3, .string ⟨s.toArray⟩, .string ⟨t.toArray⟩, .slice a m c, .int .i64 k] 36)).cell? ⟨w.heap.size, 0, none⟩ = some (.int .i64 3) := Lib.cell_of_heap x0 0
  have k1 : (w.alloc (.cells #[.int .i64 3, .string ⟨s.toArray⟩, .string ⟨t.toArray⟩, .slice a m c, .int .i64 k] 36)).cell? ⟨w.heap.size, 1, none⟩ = some (.string ⟨s.toArray⟩) := Lib.cell_of_heap x0 1
  have k2 : (w.alloc (.cells #[.int .i64 3, .string ⟨s.toArray⟩, .string ⟨t.toArray⟩, .slice a m c, .int .i64 k] 36)).cell? ⟨w.heap.size, 2, none⟩ = some (.string ⟨t.toArray⟩) := Lib.cell_of_heap x0 2
  have k3 : (w.alloc (.cells #[.int .i64 3, .string ⟨s.toArray⟩, .string ⟨t.toArray⟩, .slice a m c, .int .i64 k] 36)).cell? ⟨w.heap.size, 3, none⟩ = some (.slice a m c) := Lib.cell_of_heap x0 3
  have k4 : (w.alloc (.cells #[.int .i64 3, .string ⟨s.toArray⟩, .string ⟨t.toArray⟩, .slice a m c, .int .i64 k] 36)).cell? ⟨w.heap.size, 4, none⟩ = some (.int .i64 k) := Lib.cell_of_heap x0 4
  have p3 : (w.alloc (.cells #[.int .i64 3, .string ⟨s.toArray⟩, .string ⟨t.toArray⟩, .slice a m c, .int .i64 k] 36)).cell? ⟨p, 3, none⟩ = some (.int .i64 n) := Lib.cell_of_heap hbx 3
  have p4 : (w.alloc (.cells #[.int .i64 3, .string ⟨s.toArray⟩, .string ⟨t.toArray⟩, .slice a m c, .int .i64 k] 36)).cell? ⟨p, 4, none⟩ = some (.int .i64 st) := Lib.cell_of_heap hbx 4
  have HR0 : Hid (Rk T (w.alloc (.cells #[.int .i64 3, .string ⟨s.toArray⟩, .string ⟨t.toArray⟩, .slice a m c, .int .i64 k] 36)) p fs N Y n st) := r0
  have HB0 : Hid (Below w.heap.size w (w.alloc (.cells #[.int .i64 3, .string ⟨s.toArray⟩, .string ⟨t.toArray⟩, .slice a m c, .int .i64 k] 36))) := b0
  clear hbx x0 r0 b0 h
  go_enter Tryd.func22, Tryd.ntmps22
  go_upto_region 27 with fail
  go_cut [139] from 124 to 139 (fun x wx => x = .bool false ∧ ∃ q, wx = (w.alloc (.cells #[.int .i64 3, .string ⟨s.toArray⟩, .string ⟨t.toArray⟩, .slice a m c, .int .i64 k] 36)).drewN q)
  case first =>
    rcases hst with hst | hst
    · have g0 : decide (0 ≤ st) = false := decide_eq_false (by omega)
      clear hst
      go_quiet (fail)
      go_wp2_with fail
      go_meet
      case rel => exact ⟨rfl, nq, rfl⟩
    · have g1 : decide (st ≤ n) = false := decide_eq_false (by omega)
      by_cases h0 : 0 ≤ st
      · have g0 : decide (0 ≤ st) = true := decide_eq_true h0
        clear hst h0
        go_quiet (fail)
        go_wp2_with fail
        go_meet
        case rel => exact ⟨rfl, nq, rfl⟩
      · have g0 : decide (0 ≤ st) = false := decide_eq_false h0
        clear hst h0
        go_quiet (fail)
        go_wp2_with fail
        go_meet
        case rel => exact ⟨rfl, nq, rfl⟩
  case rest =>
    obtain ⟨rfl, q, hw⟩ := hcut
    have HR1 : Hid (Rk T wc p fs N Y n st) := by rw [hw]; exact HR0.out.below (below_drew (Below.refl _ _) q)
    have HB1 : Hid (Below w.heap.size w wc) := by rw [hw]; exact below_drew HB0.out q
    replace k0 : wc.cell? ⟨w.heap.size, 0, none⟩ = some (.int .i64 3) := by rw [hw]; exact k0
    replace k1 : wc.cell? ⟨w.heap.size, 1, none⟩ = some (.string ⟨s.toArray⟩) := by rw [hw]; exact k1
    replace k2 : wc.cell? ⟨w.heap.size, 2, none⟩ = some (.string ⟨t.toArray⟩) := by rw [hw]; exact k2
    replace k3 : wc.cell? ⟨w.heap.size, 3, none⟩ = some (.slice a m c) := by rw [hw]; exact k3
    replace k4 : wc.cell? ⟨w.heap.size, 4, none⟩ = some (.int .i64 k) := by rw [hw]; exact k4
    replace p3 : wc.cell? ⟨p, 3, none⟩ = some (.int .i64 n) := by rw [hw]; exact p3
    replace p4 : wc.cell? ⟨p, 4, none⟩ = some (.int .i64 st) := by rw [hw]; exact p4
    have NS := named_any s wc
    have NT := named_any t wc
    have FI := rFile_any s wc HR1.out hN
    clear hw HR0 HB0 hN
    rw [hb] at NS
    clear hb NT
    go_wp2_with (first
      | (go_at_call 28; refine NS.mono ?_; clear NS; rintro e w1 ⟨rfl, rfl⟩)
      | (go_at_call 29; refine FI.mono ?_; clear FI; rintro e w1 ⟨rfl, rfl⟩)
      | (go_at_call 28; refine NT.mono ?_; rintro e w1 ⟨rfl, rfl⟩))
    go_ret
    exact ⟨rfl, HB1.out⟩

set_option maxRecDepth 100000 in
set_option maxHeartbeats 8000000 in
theorem do_bad_6 {T : Nat → Prop} {p : Nat} {fs : List FV} {N Y : List (Tx × Nat)} {n st : Int} (s t : Tx) (a : Option Addr) (m c : Nat) (k : Int) (w : World) (h : Rk T w p fs N Y n st) (hN : N.length ≤ 1000) (hst : st < 0 ∨ n < st) (hb : nameB s = false) :
    Calls Tryd.prog 22 #[.pointer (some ⟨p, 0, none⟩), .agg #[.int .i64 6, .string ⟨s.toArray⟩, .string ⟨t.toArray⟩, .slice a m c, .int .i64 k]] w fun e w' => e = .returned (.int .i64 2) ∧ Below w.heap.size w w' := by
  have b0 : Below w.heap.size w (w.alloc (.cells #[.int .i64 6, .string ⟨s.toArray⟩, .string ⟨t.toArray⟩, .slice a m c, .int .i64 k] 36)) := (Below.refl _ _).alloc (Nat.le_refl _) _
  have r0 := h.below b0
  have x0 := (MapKept.heap_alloc w (.cells #[.int .i64 6, .string ⟨s.toArray⟩, .string ⟨t.toArray⟩, .slice a m c, .int .i64 k] 36)).1
  obtain ⟨vf, vn, vy, hbx, _⟩ := r0.box
  have k0 : (w.alloc (.cells #[.int .i64 6, .string ⟨s.toArray⟩, .string ⟨t.toArray⟩, .slice a m c, .int .i64 k] 36)).cell? ⟨w.heap.size, 0, none⟩ = some (.int .i64 6) := Lib.cell_of_heap x0 0
  have k1 : (w.alloc (.cells #[.int .i64 6, .string ⟨s.toArray⟩, .string ⟨t.toArray⟩, .slice a m c, .int .i64 k] 36)).cell? ⟨w.heap.size, 1, none⟩ = some (.string ⟨s.toArray⟩) := Lib.cell_of_heap x0 1
  have k2 : (w.alloc (.cells #[.int .i64 6, .string ⟨s.toArray⟩, .string ⟨t.toArray⟩, .slice a m c, .int .i64 k] 36)).cell? ⟨w.heap.size, 2, none⟩ = some (.string ⟨t.toArray⟩) := Lib.cell_of_heap x0 2
  have k3 : (w.alloc (.cells #[.int .i64 6, .string ⟨s.toArray⟩, .string ⟨t.toArray⟩, .slice a m c, .int .i64 k] 36)).cell? ⟨w.heap.size, 3, none⟩ = some (.slice a m c) := Lib.cell_of_heap x0 3
  have k4 : (w.alloc (.cells #[.int .i64 6, .string ⟨s.toArray⟩, .string ⟨t.toArray⟩, .slice a m c, .int .i64 k] 36)).cell? ⟨w.heap.size, 4, none⟩ = some (.int .i64 k) := Lib.cell_of_heap x0 4
  have p3 : (w.alloc (.cells #[.int .i64 6, .string ⟨s.toArray⟩, .string ⟨t.toArray⟩, .slice a m c, .int .i64 k] 36)).cell? ⟨p, 3, none⟩ = some (.int .i64 n) := Lib.cell_of_heap hbx 3
  have p4 : (w.alloc (.cells #[.int .i64 6, .string ⟨s.toArray⟩, .string ⟨t.toArray⟩, .slice a m c, .int .i64 k] 36)).cell? ⟨p, 4, none⟩ = some (.int .i64 st) := Lib.cell_of_heap hbx 4
  have HR0 : Hid (Rk T (w.alloc (.cells #[.int .i64 6, .string ⟨s.toArray⟩, .string ⟨t.toArray⟩, .slice a m c, .int .i64 k] 36)) p fs N Y n st) := r0
  have HB0 : Hid (Below w.heap.size w (w.alloc (.cells #[.int .i64 6, .string ⟨s.toArray⟩, .string ⟨t.toArray⟩, .slice a m c, .int .i64 k] 36))) := b0
  clear hbx x0 r0 b0 h
  go_enter Tryd.func22, Tryd.ntmps22
  go_upto_region 27 with fail
  go_cut [139] from 124 to 139 (fun x wx => x = .bool false ∧ ∃ q, wx = (w.alloc (.cells #[.int .i64 6, .string ⟨s.toArray⟩, .string ⟨t.toArray⟩, .slice a m c, .int .i64 k] 36)).drewN q)
  case first =>
    rcases hst with hst | hst
    · have g0 : decide (0 ≤ st) = false := decide_eq_false (by omega)
      clear hst
      go_quiet (fail)
      go_wp2_with fail
      go_meet
      case rel => exact ⟨rfl, nq, rfl⟩
    · have g1 : decide (st ≤ n) = false := decide_eq_false (by omega)
      by_cases h0 : 0 ≤ st
      · have g0 : decide (0 ≤ st) = true := decide_eq_true h0
        clear hst h0
        go_quiet (fail)
        go_wp2_with fail
        go_meet
        case rel => exact ⟨rfl, nq, rfl⟩
      · have g0 : decide (0 ≤ st) = false := decide_eq_false h0
        clear hst h0
        go_quiet (fail)
        go_wp2_with fail
        go_meet
        case rel => exact ⟨rfl, nq, rfl⟩
  case rest =>
    obtain ⟨rfl, q, hw⟩ := hcut
    have HR1 : Hid (Rk T wc p fs N Y n st) := by rw [hw]; exact HR0.out.below (below_drew (Below.refl _ _) q)
    have HB1 : Hid (Below w.heap.size w wc) := by rw [hw]; exact below_drew HB0.out q
    replace k0 : wc.cell? ⟨w.heap.size, 0, none⟩ = some (.int .i64 6) := by rw [hw]; exact k0
    replace k1 : wc.cell? ⟨w.heap.size, 1, none⟩ = some (.string ⟨s.toArray⟩) := by rw [hw]; exact k1
    replace k2 : wc.cell? ⟨w.heap.size, 2, none⟩ = some (.string ⟨t.toArray⟩) := by rw [hw]; exact k2
    replace k3 : wc.cell? ⟨w.heap.size, 3, none⟩ = some (.slice a m c) := by rw [hw]; exact k3
    replace k4 : wc.cell? ⟨w.heap.size, 4, none⟩ = some (.int .i64 k) := by rw [hw]; exact k4
    replace p3 : wc.cell? ⟨p, 3, none⟩ = some (.int .i64 n) := by rw [hw]; exact p3
    replace p4 : wc.cell? ⟨p, 4, none⟩ = some (.int .i64 st) := by rw [hw]; exact p4
    have NS := named_any s wc
    have NT := named_any t wc
    have FI := rFile_any s wc HR1.out hN
    clear hw HR0 HB0 hN
    rw [hb] at NS
    clear hb NT
    go_wp2_with (first
      | (go_at_call 28; refine NS.mono ?_; clear NS; rintro e w1 ⟨rfl, rfl⟩)
      | (go_at_call 29; refine FI.mono ?_; clear FI; rintro e w1 ⟨rfl, rfl⟩)
      | (go_at_call 28; refine NT.mono ?_; rintro e w1 ⟨rfl, rfl⟩))
    go_ret
    exact ⟨rfl, HB1.out⟩

set_option maxRecDepth 100000 in
set_option maxHeartbeats 8000000 in
theorem do_bad_5a {T : Nat → Prop} {p : Nat} {fs : List FV} {N Y : List (Tx × Nat)} {n st : Int} (s t : Tx) (a : Option Addr) (m c : Nat) (k : Int) (w : World) (h : Rk T w p fs N Y n st) (hN : N.length ≤ 1000) (hst : st < 0 ∨ n < st) (hb : nameB s = false) (hc : nameB t = false) :
    Calls Tryd.prog 22 #[.pointer (some ⟨p, 0, none⟩), .agg #[.int .i64 5, .string ⟨s.toArray⟩, .string ⟨t.toArray⟩, .slice a m c, .int .i64 k]] w fun e w' => e = .returned (.int .i64 2) ∧ Below w.heap.size w w' := by
  have b0 : Below w.heap.size w (w.alloc (.cells #[.int .i64 5, .string ⟨s.toArray⟩, .string ⟨t.toArray⟩, .slice a m c, .int .i64 k] 36)) := (Below.refl _ _).alloc (Nat.le_refl _) _
  have r0 := h.below b0
  have x0 := (MapKept.heap_alloc w (.cells #[.int .i64 5, .string ⟨s.toArray⟩, .string ⟨t.toArray⟩, .slice a m c, .int .i64 k] 36)).1
  obtain ⟨vf, vn, vy, hbx, _⟩ := r0.box
  have k0 : (w.alloc (.cells #[.int .i64 5, .string ⟨s.toArray⟩, .string ⟨t.toArray⟩, .slice a m c, .int .i64 k] 36)).cell? ⟨w.heap.size, 0, none⟩ = some (.int .i64 5) := Lib.cell_of_heap x0 0
  have k1 : (w.alloc (.cells #[.int .i64 5, .string ⟨s.toArray⟩, .string ⟨t.toArray⟩, .slice a m c, .int .i64 k] 36)).cell? ⟨w.heap.size, 1, none⟩ = some (.string ⟨s.toArray⟩) := Lib.cell_of_heap x0 1
  have k2 : (w.alloc (.cells #[.int .i64 5, .string ⟨s.toArray⟩, .string ⟨t.toArray⟩, .slice a m c, .int .i64 k] 36)).cell? ⟨w.heap.size, 2, none⟩ = some (.string ⟨t.toArray⟩) := Lib.cell_of_heap x0 2
  have k3 : (w.alloc (.cells #[.int .i64 5, .string ⟨s.toArray⟩, .string ⟨t.toArray⟩, .slice a m c, .int .i64 k] 36)).cell? ⟨w.heap.size, 3, none⟩ = some (.slice a m c) := Lib.cell_of_heap x0 3
  have k4 : (w.alloc (.cells #[.int .i64 5, .string ⟨s.toArray⟩, .string ⟨t.toArray⟩, .slice a m c, .int .i64 k] 36)).cell? ⟨w.heap.size, 4, none⟩ = some (.int .i64 k) := Lib.cell_of_heap x0 4
  have p3 : (w.alloc (.cells #[.int .i64 5, .string ⟨s.toArray⟩, .string ⟨t.toArray⟩, .slice a m c, .int .i64 k] 36)).cell? ⟨p, 3, none⟩ = some (.int .i64 n) := Lib.cell_of_heap hbx 3
  have p4 : (w.alloc (.cells #[.int .i64 5, .string ⟨s.toArray⟩, .string ⟨t.toArray⟩, .slice a m c, .int .i64 k] 36)).cell? ⟨p, 4, none⟩ = some (.int .i64 st) := Lib.cell_of_heap hbx 4
  have HR0 : Hid (Rk T (w.alloc (.cells #[.int .i64 5, .string ⟨s.toArray⟩, .string ⟨t.toArray⟩, .slice a m c, .int .i64 k] 36)) p fs N Y n st) := r0
  have HB0 : Hid (Below w.heap.size w (w.alloc (.cells #[.int .i64 5, .string ⟨s.toArray⟩, .string ⟨t.toArray⟩, .slice a m c, .int .i64 k] 36))) := b0
  clear hbx x0 r0 b0 h
  go_enter Tryd.func22, Tryd.ntmps22
  go_upto_region 27 with fail
  go_cut [139] from 124 to 139 (fun x wx => x = .bool false ∧ ∃ q, wx = (w.alloc (.cells #[.int .i64 5, .string ⟨s.toArray⟩, .string ⟨t.toArray⟩, .slice a m c, .int .i64 k] 36)).drewN q)
  case first =>
    rcases hst with hst | hst
    · have g0 : decide (0 ≤ st) = false := decide_eq_false (by omega)
      clear hst
      go_quiet (fail)
      go_wp2_with fail
      go_meet
      case rel => exact ⟨rfl, nq, rfl⟩
    · have g1 : decide (st ≤ n) = false := decide_eq_false (by omega)
      by_cases h0 : 0 ≤ st
      · have g0 : decide (0 ≤ st) = true := decide_eq_true h0
        clear hst h0
        go_quiet (fail)
        go_wp2_with fail
        go_meet
        case rel => exact ⟨rfl, nq, rfl⟩
      · have g0 : decide (0 ≤ st) = false := decide_eq_false h0
        clear hst h0
        go_quiet (fail)
        go_wp2_with fail
        go_meet
        case rel => exact ⟨rfl, nq, rfl⟩
  case rest =>
    obtain ⟨rfl, q, hw⟩ := hcut
    have HR1 : Hid (Rk T wc p fs N Y n st) := by rw [hw]; exact HR0.out.below (below_drew (Below.refl _ _) q)
    have HB1 : Hid (Below w.heap.size w wc) := by rw [hw]; exact below_drew HB0.out q
    replace k0 : wc.cell? ⟨w.heap.size, 0, none⟩ = some (.int .i64 5) := by rw [hw]; exact k0
    replace k1 : wc.cell? ⟨w.heap.size, 1, none⟩ = some (.string ⟨s.toArray⟩) := by rw [hw]; exact k1
    replace k2 : wc.cell? ⟨w.heap.size, 2, none⟩ = some (.string ⟨t.toArray⟩) := by rw [hw]; exact k2
    replace k3 : wc.cell? ⟨w.heap.size, 3, none⟩ = some (.slice a m c) := by rw [hw]; exact k3
    replace k4 : wc.cell? ⟨w.heap.size, 4, none⟩ = some (.int .i64 k) := by rw [hw]; exact k4
    replace p3 : wc.cell? ⟨p, 3, none⟩ = some (.int .i64 n) := by rw [hw]; exact p3
    replace p4 : wc.cell? ⟨p, 4, none⟩ = some (.int .i64 st) := by rw [hw]; exact p4
    have NS := named_any s wc
    have NT := named_any t wc
    have FI := rFile_any s wc HR1.out hN
    clear hw HR0 HB0 hN
    rw [hb] at NS
    rw [hc] at NT
    clear hb hc
    go_wp2_with (first
      | (go_at_call 28; refine NS.mono ?_; clear NS; rintro e w1 ⟨rfl, rfl⟩)
      | (go_at_call 29; refine FI.mono ?_; clear FI; rintro e w1 ⟨rfl, rfl⟩)
      | (go_at_call 28; refine NT.mono ?_; rintro e w1 ⟨rfl, rfl⟩))
    go_ret
    exact ⟨rfl, HB1.out⟩

set_option maxRecDepth 100000 in
set_option maxHeartbeats 8000000 in
theorem do_bad_5c {T : Nat → Prop} {p : Nat} {fs : List FV} {N Y : List (Tx × Nat)} {n st : Int} (s t : Tx) (a : Option Addr) (m c : Nat) (k : Int) (w : World) (h : Rk T w p fs N Y n st) (hN : N.length ≤ 1000) (hst : st < 0 ∨ n < st) (hb : nameB s = false) (hc : nameB t = true) :
    Calls Tryd.prog 22 #[.pointer (some ⟨p, 0, none⟩), .agg #[.int .i64 5, .string ⟨s.toArray⟩, .string ⟨t.toArray⟩, .slice a m c, .int .i64 k]] w fun e w' => e = .returned (.int .i64 2) ∧ Below w.heap.size w w' := by
  have b0 : Below w.heap.size w (w.alloc (.cells #[.int .i64 5, .string ⟨s.toArray⟩, .string ⟨t.toArray⟩, .slice a m c, .int .i64 k] 36)) := (Below.refl _ _).alloc (Nat.le_refl _) _
  have r0 := h.below b0
  have x0 := (MapKept.heap_alloc w (.cells #[.int .i64 5, .string ⟨s.toArray⟩, .string ⟨t.toArray⟩, .slice a m c, .int .i64 k] 36)).1
  obtain ⟨vf, vn, vy, hbx, _⟩ := r0.box
  have k0 : (w.alloc (.cells #[.int .i64 5, .string ⟨s.toArray⟩, .string ⟨t.toArray⟩, .slice a m c, .int .i64 k] 36)).cell? ⟨w.heap.size, 0, none⟩ = some (.int .i64 5) := Lib.cell_of_heap x0 0
  have k1 : (w.alloc (.cells #[.int .i64 5, .string ⟨s.toArray⟩, .string ⟨t.toArray⟩, .slice a m c, .int .i64 k] 36)).cell? ⟨w.heap.size, 1, none⟩ = some (.string ⟨s.toArray⟩) := Lib.cell_of_heap x0 1
  have k2 : (w.alloc (.cells #[.int .i64 5, .string ⟨s.toArray⟩, .string ⟨t.toArray⟩, .slice a m c, .int .i64 k] 36)).cell? ⟨w.heap.size, 2, none⟩ = some (.string ⟨t.toArray⟩) := Lib.cell_of_heap x0 2
  have k3 : (w.alloc (.cells #[.int .i64 5, .string ⟨s.toArray⟩, .string ⟨t.toArray⟩, .slice a m c, .int .i64 k] 36)).cell? ⟨w.heap.size, 3, none⟩ = some (.slice a m c) := Lib.cell_of_heap x0 3
  have k4 : (w.alloc (.cells #[.int .i64 5, .string ⟨s.toArray⟩, .string ⟨t.toArray⟩, .slice a m c, .int .i64 k] 36)).cell? ⟨w.heap.size, 4, none⟩ = some (.int .i64 k) := Lib.cell_of_heap x0 4
  have p3 : (w.alloc (.cells #[.int .i64 5, .string ⟨s.toArray⟩, .string ⟨t.toArray⟩, .slice a m c, .int .i64 k] 36)).cell? ⟨p, 3, none⟩ = some (.int .i64 n) := Lib.cell_of_heap hbx 3
  have p4 : (w.alloc (.cells #[.int .i64 5, .string ⟨s.toArray⟩, .string ⟨t.toArray⟩, .slice a m c, .int .i64 k] 36)).cell? ⟨p, 4, none⟩ = some (.int .i64 st) := Lib.cell_of_heap hbx 4
  have HR0 : Hid (Rk T (w.alloc (.cells #[.int .i64 5, .string ⟨s.toArray⟩, .string ⟨t.toArray⟩, .slice a m c, .int .i64 k] 36)) p fs N Y n st) := r0
  have HB0 : Hid (Below w.heap.size w (w.alloc (.cells #[.int .i64 5, .string ⟨s.toArray⟩, .string ⟨t.toArray⟩, .slice a m c, .int .i64 k] 36))) := b0
  clear hbx x0 r0 b0 h
  go_enter Tryd.func22, Tryd.ntmps22
  go_upto_region 27 with fail
  go_cut [139] from 124 to 139 (fun x wx => x = .bool false ∧ ∃ q, wx = (w.alloc (.cells #[.int .i64 5, .string ⟨s.toArray⟩, .string ⟨t.toArray⟩, .slice a m c, .int .i64 k] 36)).drewN q)
  case first =>
    rcases hst with hst | hst
    · have g0 : decide (0 ≤ st) = false := decide_eq_false (by omega)
      clear hst
      go_quiet (fail)
      go_wp2_with fail
      go_meet
      case rel => exact ⟨rfl, nq, rfl⟩
    · have g1 : decide (st ≤ n) = false := decide_eq_false (by omega)
      by_cases h0 : 0 ≤ st
      · have g0 : decide (0 ≤ st) = true := decide_eq_true h0
        clear hst h0
        go_quiet (fail)
        go_wp2_with fail
        go_meet
        case rel => exact ⟨rfl, nq, rfl⟩
      · have g0 : decide (0 ≤ st) = false := decide_eq_false h0
        clear hst h0
        go_quiet (fail)
        go_wp2_with fail
        go_meet
        case rel => exact ⟨rfl, nq, rfl⟩
  case rest =>
    obtain ⟨rfl, q, hw⟩ := hcut
    have HR1 : Hid (Rk T wc p fs N Y n st) := by rw [hw]; exact HR0.out.below (below_drew (Below.refl _ _) q)
    have HB1 : Hid (Below w.heap.size w wc) := by rw [hw]; exact below_drew HB0.out q
    replace k0 : wc.cell? ⟨w.heap.size, 0, none⟩ = some (.int .i64 5) := by rw [hw]; exact k0
    replace k1 : wc.cell? ⟨w.heap.size, 1, none⟩ = some (.string ⟨s.toArray⟩) := by rw [hw]; exact k1
    replace k2 : wc.cell? ⟨w.heap.size, 2, none⟩ = some (.string ⟨t.toArray⟩) := by rw [hw]; exact k2
    replace k3 : wc.cell? ⟨w.heap.size, 3, none⟩ = some (.slice a m c) := by rw [hw]; exact k3
    replace k4 : wc.cell? ⟨w.heap.size, 4, none⟩ = some (.int .i64 k) := by rw [hw]; exact k4
    replace p3 : wc.cell? ⟨p, 3, none⟩ = some (.int .i64 n) := by rw [hw]; exact p3
    replace p4 : wc.cell? ⟨p, 4, none⟩ = some (.int .i64 st) := by rw [hw]; exact p4
    have NS := named_any s wc
    have NT := named_any t wc
    have FI := rFile_any s wc HR1.out hN
    clear hw HR0 HB0 hN
    rw [hb] at NS
    rw [hc] at NT
    clear hb hc
    go_wp2_with (first
      | (go_at_call 28; refine NS.mono ?_; clear NS; rintro e w1 ⟨rfl, rfl⟩)
      | (go_at_call 29; refine FI.mono ?_; clear FI; rintro e w1 ⟨rfl, rfl⟩)
      | (go_at_call 28; refine NT.mono ?_; rintro e w1 ⟨rfl, rfl⟩))
    go_ret
    exact ⟨rfl, HB1.out⟩

set_option maxRecDepth 100000 in
set_option maxHeartbeats 8000000 in
theorem do_bad_5b {T : Nat → Prop} {p : Nat} {fs : List FV} {N Y : List (Tx × Nat)} {n st : Int} (s t : Tx) (a : Option Addr) (m c : Nat) (k : Int) (w : World) (h : Rk T w p fs N Y n st) (hN : N.length ≤ 1000) (hst : st < 0 ∨ n < st) (ha : nameB s = true) (hb : nameB t = false) :
    Calls Tryd.prog 22 #[.pointer (some ⟨p, 0, none⟩), .agg #[.int .i64 5, .string ⟨s.toArray⟩, .string ⟨t.toArray⟩, .slice a m c, .int .i64 k]] w fun e w' => e = .returned (.int .i64 2) ∧ Below w.heap.size w w' := by
  have b0 : Below w.heap.size w (w.alloc (.cells #[.int .i64 5, .string ⟨s.toArray⟩, .string ⟨t.toArray⟩, .slice a m c, .int .i64 k] 36)) := (Below.refl _ _).alloc (Nat.le_refl _) _
  have r0 := h.below b0
  have x0 := (MapKept.heap_alloc w (.cells #[.int .i64 5, .string ⟨s.toArray⟩, .string ⟨t.toArray⟩, .slice a m c, .int .i64 k] 36)).1
  obtain ⟨vf, vn, vy, hbx, _⟩ := r0.box
  have k0 : (w.alloc (.cells #[.int .i64 5, .string ⟨s.toArray⟩, .string ⟨t.toArray⟩, .slice a m c, .int .i64 k] 36)).cell? ⟨w.heap.size, 0, none⟩ = some (.int .i64 5) := Lib.cell_of_heap x0 0
  have k1 : (w.alloc (.cells #[.int .i64 5, .string ⟨s.toArray⟩, .string ⟨t.toArray⟩, .slice a m c, .int .i64 k] 36)).cell? ⟨w.heap.size, 1, none⟩ = some (.string ⟨s.toArray⟩) := Lib.cell_of_heap x0 1
  have k2 : (w.alloc (.cells #[.int .i64 5, .string ⟨s.toArray⟩, .string ⟨t.toArray⟩, .slice a m c, .int .i64 k] 36)).cell? ⟨w.heap.size, 2, none⟩ = some (.string ⟨t.toArray⟩) := Lib.cell_of_heap x0 2
  have k3 : (w.alloc (.cells #[.int .i64 5, .string ⟨s.toArray⟩, .string ⟨t.toArray⟩, .slice a m c, .int .i64 k] 36)).cell? ⟨w.heap.size, 3, none⟩ = some (.slice a m c) := Lib.cell_of_heap x0 3
  have k4 : (w.alloc (.cells #[.int .i64 5, .string ⟨s.toArray⟩, .string ⟨t.toArray⟩, .slice a m c, .int .i64 k] 36)).cell? ⟨w.heap.size, 4, none⟩ = some (.int .i64 k) := Lib.cell_of_heap x0 4
  have p3 : (w.alloc (.cells #[.int .i64 5, .string ⟨s.toArray⟩, .string ⟨t.toArray⟩, .slice a m c, .int .i64 k] 36)).cell? ⟨p, 3, none⟩ = some (.int .i64 n) := Lib.cell_of_heap hbx 3
  have p4 : (w.alloc (.cells #[.int .i64 5, .string ⟨s.toArray⟩, .string ⟨t.toArray⟩, .slice a m c, .int .i64 k] 36)).cell? ⟨p, 4, none⟩ = some (.int .i64 st) := Lib.cell_of_heap hbx 4
  have HR0 : Hid (Rk T (w.alloc (.cells #[.int .i64 5, .string ⟨s.toArray⟩, .string ⟨t.toArray⟩, .slice a m c, .int .i64 k] 36)) p fs N Y n st) := r0
  have HB0 : Hid (Below w.heap.size w (w.alloc (.cells #[.int .i64 5, .string ⟨s.toArray⟩, .string ⟨t.toArray⟩, .slice a m c, .int .i64 k] 36))) := b0
  clear hbx x0 r0 b0 h
  go_enter Tryd.func22, Tryd.ntmps22
  go_upto_region 27 with fail
  go_cut [139] from 124 to 139 (fun x wx => x = .bool false ∧ ∃ q, wx = (w.alloc (.cells #[.int .i64 5, .string ⟨s.toArray⟩, .string ⟨t.toArray⟩, .slice a m c, .int .i64 k] 36)).drewN q)
  case first =>
    rcases hst with hst | hst
    · have g0 : decide (0 ≤ st) = false := decide_eq_false (by omega)
      clear hst
      go_quiet (fail)
      go_wp2_with fail
      go_meet
      case rel => exact ⟨rfl, nq, rfl⟩
    · have g1 : decide (st ≤ n) = false := decide_eq_false (by omega)
      by_cases h0 : 0 ≤ st
      · have g0 : decide (0 ≤ st) = true := decide_eq_true h0
        clear hst h0
        go_quiet (fail)
        go_wp2_with fail
        go_meet
        case rel => exact ⟨rfl, nq, rfl⟩
      · have g0 : decide (0 ≤ st) = false := decide_eq_false h0
        clear hst h0
        go_quiet (fail)
        go_wp2_with fail
        go_meet
        case rel => exact ⟨rfl, nq, rfl⟩
  case rest =>
    obtain ⟨rfl, q, hw⟩ := hcut
    have HR1 : Hid (Rk T wc p fs N Y n st) := by rw [hw]; exact HR0.out.below (below_drew (Below.refl _ _) q)
    have HB1 : Hid (Below w.heap.size w wc) := by rw [hw]; exact below_drew HB0.out q
    replace k0 : wc.cell? ⟨w.heap.size, 0, none⟩ = some (.int .i64 5) := by rw [hw]; exact k0
    replace k1 : wc.cell? ⟨w.heap.size, 1, none⟩ = some (.string ⟨s.toArray⟩) := by rw [hw]; exact k1
    replace k2 : wc.cell? ⟨w.heap.size, 2, none⟩ = some (.string ⟨t.toArray⟩) := by rw [hw]; exact k2
    replace k3 : wc.cell? ⟨w.heap.size, 3, none⟩ = some (.slice a m c) := by rw [hw]; exact k3
    replace k4 : wc.cell? ⟨w.heap.size, 4, none⟩ = some (.int .i64 k) := by rw [hw]; exact k4
    replace p3 : wc.cell? ⟨p, 3, none⟩ = some (.int .i64 n) := by rw [hw]; exact p3
    replace p4 : wc.cell? ⟨p, 4, none⟩ = some (.int .i64 st) := by rw [hw]; exact p4
    have NS := named_any s wc
    have NT := named_any t wc
    have FI := rFile_any s wc HR1.out hN
    clear hw HR0 HB0 hN
    rw [ha] at NS
    rw [hb] at NT
    clear ha hb
    go_wp2_with (first
      | (go_at_call 28; refine NS.mono ?_; clear NS; rintro e w1 ⟨rfl, rfl⟩)
      | (go_at_call 29; refine FI.mono ?_; clear FI; rintro e w1 ⟨rfl, rfl⟩)
      | (go_at_call 28; refine NT.mono ?_; rintro e w1 ⟨rfl, rfl⟩))
    go_ret
    exact ⟨rfl, HB1.out⟩

set_option maxRecDepth 100000 in
set_option maxHeartbeats 8000000 in
theorem do_clash {T : Nat → Prop} {p : Nat} {fs : List FV} {N Y : List (Tx × Nat)} {n st : Int} (s t : Tx) (a : Option Addr) (m c : Nat) (k : Int) (w : World) (h : Rk T w p fs N Y n st) (hN : N.length ≤ 1000) (hst : st < 0 ∨ n < st) (ha : nameB s = true) {i : Nat} (hi : fk N s = some i) :
    Calls Tryd.prog 22 #[.pointer (some ⟨p, 0, none⟩), .agg #[.int .i64 1, .string ⟨s.toArray⟩, .string ⟨t.toArray⟩, .slice a m c, .int .i64 k]] w fun e w' => e = .returned (.int .i64 8) ∧ Below w.heap.size w w' := by
  have b0 : Below w.heap.size w (w.alloc (.cells #[.int .i64 1, .string ⟨s.toArray⟩, .string ⟨t.toArray⟩, .slice a m c, .int .i64 k] 36)) := (Below.refl _ _).alloc (Nat.le_refl _) _
  have r0 := h.below b0
  have x0 := (MapKept.heap_alloc w (.cells #[.int .i64 1, .string ⟨s.toArray⟩, .string ⟨t.toArray⟩, .slice a m c, .int .i64 k] 36)).1
  obtain ⟨vf, vn, vy, hbx, _⟩ := r0.box
  have k0 : (w.alloc (.cells #[.int .i64 1, .string ⟨s.toArray⟩, .string ⟨t.toArray⟩, .slice a m c, .int .i64 k] 36)).cell? ⟨w.heap.size, 0, none⟩ = some (.int .i64 1) := Lib.cell_of_heap x0 0
  have k1 : (w.alloc (.cells #[.int .i64 1, .string ⟨s.toArray⟩, .string ⟨t.toArray⟩, .slice a m c, .int .i64 k] 36)).cell? ⟨w.heap.size, 1, none⟩ = some (.string ⟨s.toArray⟩) := Lib.cell_of_heap x0 1
  have k2 : (w.alloc (.cells #[.int .i64 1, .string ⟨s.toArray⟩, .string ⟨t.toArray⟩, .slice a m c, .int .i64 k] 36)).cell? ⟨w.heap.size, 2, none⟩ = some (.string ⟨t.toArray⟩) := Lib.cell_of_heap x0 2
  have k3 : (w.alloc (.cells #[.int .i64 1, .string ⟨s.toArray⟩, .string ⟨t.toArray⟩, .slice a m c, .int .i64 k] 36)).cell? ⟨w.heap.size, 3, none⟩ = some (.slice a m c) := Lib.cell_of_heap x0 3
  have k4 : (w.alloc (.cells #[.int .i64 1, .string ⟨s.toArray⟩, .string ⟨t.toArray⟩, .slice a m c, .int .i64 k] 36)).cell? ⟨w.heap.size, 4, none⟩ = some (.int .i64 k) := Lib.cell_of_heap x0 4
  have p3 : (w.alloc (.cells #[.int .i64 1, .string ⟨s.toArray⟩, .string ⟨t.toArray⟩, .slice a m c, .int .i64 k] 36)).cell? ⟨p, 3, none⟩ = some (.int .i64 n) := Lib.cell_of_heap hbx 3
  have p4 : (w.alloc (.cells #[.int .i64 1, .string ⟨s.toArray⟩, .string ⟨t.toArray⟩, .slice a m c, .int .i64 k] 36)).cell? ⟨p, 4, none⟩ = some (.int .i64 st) := Lib.cell_of_heap hbx 4
  have HR0 : Hid (Rk T (w.alloc (.cells #[.int .i64 1, .string ⟨s.toArray⟩, .string ⟨t.toArray⟩, .slice a m c, .int .i64 k] 36)) p fs N Y n st) := r0
  have HB0 : Hid (Below w.heap.size w (w.alloc (.cells #[.int .i64 1, .string ⟨s.toArray⟩, .string ⟨t.toArray⟩, .slice a m c, .int .i64 k] 36))) := b0
  clear hbx x0 r0 b0 h
  go_enter Tryd.func22, Tryd.ntmps22
  go_upto_region 27 with fail
  go_cut [139] from 124 to 139 (fun x wx => x = .bool false ∧ ∃ q, wx = (w.alloc (.cells #[.int .i64 1, .string ⟨s.toArray⟩, .string ⟨t.toArray⟩, .slice a m c, .int .i64 k] 36)).drewN q)
  case first =>
    rcases hst with hst | hst
    · have g0 : decide (0 ≤ st) = false := decide_eq_false (by omega)
      clear hst
      go_quiet (fail)
      go_wp2_with fail
      go_meet
      case rel => exact ⟨rfl, nq, rfl⟩
    · have g1 : decide (st ≤ n) = false := decide_eq_false (by omega)
      by_cases h0 : 0 ≤ st
      · have g0 : decide (0 ≤ st) = true := decide_eq_true h0
        clear hst h0
        go_quiet (fail)
        go_wp2_with fail
        go_meet
        case rel => exact ⟨rfl, nq, rfl⟩
      · have g0 : decide (0 ≤ st) = false := decide_eq_false h0
        clear hst h0
        go_quiet (fail)
        go_wp2_with fail
        go_meet
        case rel => exact ⟨rfl, nq, rfl⟩
  case rest =>
    obtain ⟨rfl, q, hw⟩ := hcut
    have HR1 : Hid (Rk T wc p fs N Y n st) := by rw [hw]; exact HR0.out.below (below_drew (Below.refl _ _) q)
    have HB1 : Hid (Below w.heap.size w wc) := by rw [hw]; exact below_drew HB0.out q
    replace k0 : wc.cell? ⟨w.heap.size, 0, none⟩ = some (.int .i64 1) := by rw [hw]; exact k0
    replace k1 : wc.cell? ⟨w.heap.size, 1, none⟩ = some (.string ⟨s.toArray⟩) := by rw [hw]; exact k1
    replace k2 : wc.cell? ⟨w.heap.size, 2, none⟩ = some (.string ⟨t.toArray⟩) := by rw [hw]; exact k2
    replace k3 : wc.cell? ⟨w.heap.size, 3, none⟩ = some (.slice a m c) := by rw [hw]; exact k3
    replace k4 : wc.cell? ⟨w.heap.size, 4, none⟩ = some (.int .i64 k) := by rw [hw]; exact k4
    replace p3 : wc.cell? ⟨p, 3, none⟩ = some (.int .i64 n) := by rw [hw]; exact p3
    replace p4 : wc.cell? ⟨p, 4, none⟩ = some (.int .i64 st) := by rw [hw]; exact p4
    have NS := named_any s wc
    have NT := named_any t wc
    have FI := rFile_any s wc HR1.out hN
    clear hw HR0 HB0 hN
    rw [ha] at NS
    have e1 : fkI N s = (i : Int) := by unfold fkI; rw [hi]
    rw [e1] at FI
    have g2 : (0 : Int) ≤ (i : Int) := by omega
    clear ha hi e1 NT
    go_wp2_with (first
      | (go_at_call 28; refine NS.mono ?_; clear NS; rintro e w1 ⟨rfl, rfl⟩)
      | (go_at_call 29; refine FI.mono ?_; clear FI; rintro e w1 ⟨rfl, rfl⟩)
      | (go_at_call 28; refine NT.mono ?_; rintro e w1 ⟨rfl, rfl⟩))
    go_ret
    exact ⟨rfl, HB1.out⟩

set_option maxRecDepth 100000 in
set_option maxHeartbeats 8000000 in
theorem do_none_2 {T : Nat → Prop} {p : Nat} {fs : List FV} {N Y : List (Tx × Nat)} {n st : Int} (s t : Tx) (a : Option Addr) (m c : Nat) (k : Int) (w : World) (h : Rk T w p fs N Y n st) (hN : N.length ≤ 1000) (hst : st < 0 ∨ n < st) (ha : nameB s = true) (hi : fk N s = none) :
    Calls Tryd.prog 22 #[.pointer (some ⟨p, 0, none⟩), .agg #[.int .i64 2, .string ⟨s.toArray⟩, .string ⟨t.toArray⟩, .slice a m c, .int .i64 k]] w fun e w' => e = .returned (.int .i64 6) ∧ Below w.heap.size w w' := by
  have b0 : Below w.heap.size w (w.alloc (.cells #[.int .i64 2, .string ⟨s.toArray⟩, .string ⟨t.toArray⟩, .slice a m c, .int .i64 k] 36)) := (Below.refl _ _).alloc (Nat.le_refl _) _
  have r0 := h.below b0
  have x0 := (MapKept.heap_alloc w (.cells #[.int .i64 2, .string ⟨s.toArray⟩, .string ⟨t.toArray⟩, .slice a m c, .int .i64 k] 36)).1
  obtain ⟨vf, vn, vy, hbx, _⟩ := r0.box
  have k0 : (w.alloc (.cells #[.int .i64 2, .string ⟨s.toArray⟩, .string ⟨t.toArray⟩, .slice a m c, .int .i64 k] 36)).cell? ⟨w.heap.size, 0, none⟩ = some (.int .i64 2) := Lib.cell_of_heap x0 0
  have k1 : (w.alloc (.cells #[.int .i64 2, .string ⟨s.toArray⟩, .string ⟨t.toArray⟩, .slice a m c, .int .i64 k] 36)).cell? ⟨w.heap.size, 1, none⟩ = some (.string ⟨s.toArray⟩) := Lib.cell_of_heap x0 1
  have k2 : (w.alloc (.cells #[.int .i64 2, .string ⟨s.toArray⟩, .string ⟨t.toArray⟩, .slice a m c, .int .i64 k] 36)).cell? ⟨w.heap.size, 2, none⟩ = some (.string ⟨t.toArray⟩) := Lib.cell_of_heap x0 2
  have k3 : (w.alloc (.cells #[.int .i64 2, .string ⟨s.toArray⟩, .string ⟨t.toArray⟩, .slice a m c, .int .i64 k] 36)).cell? ⟨w.heap.size, 3, none⟩ = some (.slice a m c) := Lib.cell_of_heap x0 3
  have k4 : (w.alloc (.cells #[.int .i64 2, .string ⟨s.toArray⟩, .string ⟨t.toArray⟩, .slice a m c, .int .i64 k] 36)).cell? ⟨w.heap.size, 4, none⟩ = some (.int .i64 k) := Lib.cell_of_heap x0 4
  have p3 : (w.alloc (.cells #[.int .i64 2, .string ⟨s.toArray⟩, .string ⟨t.toArray⟩, .slice a m c, .int .i64 k] 36)).cell? ⟨p, 3, none⟩ = some (.int .i64 n) := Lib.cell_of_heap hbx 3
  have p4 : (w.alloc (.cells #[.int .i64 2, .string ⟨s.toArray⟩, .string ⟨t.toArray⟩, .slice a m c, .int .i64 k] 36)).cell? ⟨p, 4, none⟩ = some (.int .i64 st) := Lib.cell_of_heap hbx 4
  have HR0 : Hid (Rk T (w.alloc (.cells #[.int .i64 2, .string ⟨s.toArray⟩, .string ⟨t.toArray⟩, .slice a m c, .int .i64 k] 36)) p fs N Y n st) := r0
  have HB0 : Hid (Below w.heap.size w (w.alloc (.cells #[.int .i64 2, .string ⟨s.toArray⟩, .string ⟨t.toArray⟩, .slice a m c, .int .i64 k] 36))) := b0
  clear hbx x0 r0 b0 h
  go_enter Tryd.func22, Tryd.ntmps22
  go_upto_region 27 with fail
  go_cut [139] from 124 to 139 (fun x wx => x = .bool false ∧ ∃ q, wx = (w.alloc (.cells #[.int .i64 2, .string ⟨s.toArray⟩, .string ⟨t.toArray⟩, .slice a m c, .int .i64 k] 36)).drewN q)
  case first =>
    rcases hst with hst | hst
    · have g0 : decide (0 ≤ st) = false := decide_eq_false (by omega)
      clear hst
      go_quiet (fail)
      go_wp2_with fail
      go_meet
      case rel => exact ⟨rfl, nq, rfl⟩
    · have g1 : decide (st ≤ n) = false := decide_eq_false (by omega)
      by_cases h0 : 0 ≤ st
      · have g0 : decide (0 ≤ st) = true := decide_eq_true h0
        clear hst h0
        go_quiet (fail)
        go_wp2_with fail
        go_meet
        case rel => exact ⟨rfl, nq, rfl⟩
      · have g0 : decide (0 ≤ st) = false := decide_eq_false h0
        clear hst h0
        go_quiet (fail)
        go_wp2_with fail
        go_meet
        case rel => exact ⟨rfl, nq, rfl⟩
  case rest =>
    obtain ⟨rfl, q, hw⟩ := hcut
    have HR1 : Hid (Rk T wc p fs N Y n st) := by rw [hw]; exact HR0.out.below (below_drew (Below.refl _ _) q)
    have HB1 : Hid (Below w.heap.size w wc) := by rw [hw]; exact below_drew HB0.out q
    replace k0 : wc.cell? ⟨w.heap.size, 0, none⟩ = some (.int .i64 2) := by rw [hw]; exact k0
    replace k1 : wc.cell? ⟨w.heap.size, 1, none⟩ = some (.string ⟨s.toArray⟩) := by rw [hw]; exact k1
    replace k2 : wc.cell? ⟨w.heap.size, 2, none⟩ = some (.string ⟨t.toArray⟩) := by rw [hw]; exact k2
    replace k3 : wc.cell? ⟨w.heap.size, 3, none⟩ = some (.slice a m c) := by rw [hw]; exact k3
    replace k4 : wc.cell? ⟨w.heap.size, 4, none⟩ = some (.int .i64 k) := by rw [hw]; exact k4
    replace p3 : wc.cell? ⟨p, 3, none⟩ = some (.int .i64 n) := by rw [hw]; exact p3
    replace p4 : wc.cell? ⟨p, 4, none⟩ = some (.int .i64 st) := by rw [hw]; exact p4
    have NS := named_any s wc
    have NT := named_any t wc
    have FI := rFile_any s wc HR1.out hN
    clear hw HR0 HB0 hN
    rw [ha] at NS
    have e1 : fkI N s = -1 := by unfold fkI; rw [hi]
    rw [e1] at FI
    clear NT
    clear ha hi e1
    go_wp2_with (first
      | (go_at_call 28; refine NS.mono ?_; clear NS; rintro e w1 ⟨rfl, rfl⟩)
      | (go_at_call 29; refine FI.mono ?_; clear FI; rintro e w1 ⟨rfl, rfl⟩)
      | (go_at_call 28; refine NT.mono ?_; rintro e w1 ⟨rfl, rfl⟩))
    go_ret
    exact ⟨rfl, HB1.out⟩

set_option maxRecDepth 100000 in
set_option maxHeartbeats 8000000 in
theorem do_none_3 {T : Nat → Prop} {p : Nat} {fs : List FV} {N Y : List (Tx × Nat)} {n st : Int} (s t : Tx) (a : Option Addr) (m c : Nat) (k : Int) (w : World) (h : Rk T w p fs N Y n st) (hN : N.length ≤ 1000) (hst : st < 0 ∨ n < st) (ha : nameB s = true) (hi : fk N s = none) :
    Calls Tryd.prog 22 #[.pointer (some ⟨p, 0, none⟩), .agg #[.int .i64 3, .string ⟨s.toArray⟩, .string ⟨t.toArray⟩, .slice a m c, .int .i64 k]] w fun e w' => e = .returned (.int .i64 6) ∧ Below w.heap.size w w' := by
  have b0 : Below w.heap.size w (w.alloc (.cells #[.int .i64 3, .string ⟨s.toArray⟩, .string ⟨t.toArray⟩, .slice a m c, .int .i64 k] 36)) := (Below.refl _ _).alloc (Nat.le_refl _) _
  have r0 := h.below b0
  have x0 := (MapKept.heap_alloc w (.cells #[.int .i64 3, .string ⟨s.toArray⟩, .string ⟨t.toArray⟩, .slice a m c, .int .i64 k] 36)).1
  obtain ⟨vf, vn, vy, hbx, _⟩ := r0.box
  have k0 : (w.alloc (.cells #[.int .i64 3, .string ⟨s.toArray⟩, .string ⟨t.toArray⟩, .slice a m c, .int .i64 k] 36)).cell? ⟨w.heap.size, 0, none⟩ = some (.int .i64 3) := Lib.cell_of_heap x0 0
  have k1 : (w.alloc (.cells #[.int .i64 3, .string ⟨s.toArray⟩, .string ⟨t.toArray⟩, .slice a m c, .int .i64 k] 36)).cell? ⟨w.heap.size, 1, none⟩ = some (.string ⟨s.toArray⟩) := Lib.cell_of_heap x0 1
  have k2 : (w.alloc (.cells #[.int .i64 3, .string ⟨s.toArray⟩, .string ⟨t.toArray⟩, .slice a m c, .int .i64 k] 36)).cell? ⟨w.heap.size, 2, none⟩ = some (.string ⟨t.toArray⟩) := Lib.cell_of_heap x0 2
  have k3 : (w.alloc (.cells #[.int .i64 3, .string ⟨s.toArray⟩, .string ⟨t.toArray⟩, .slice a m c, .int .i64 k] 36)).cell? ⟨w.heap.size, 3, none⟩ = some (.slice a m c) := Lib.cell_of_heap x0 3
  have k4 : (w.alloc (.cells #[.int .i64 3, .string ⟨s.toArray⟩, .string ⟨t.toArray⟩, .slice a m c, .int .i64 k] 36)).cell? ⟨w.heap.size, 4, none⟩ = some (.int .i64 k) := Lib.cell_of_heap x0 4
  have p3 : (w.alloc (.cells #[.int .i64 3, .string ⟨s.toArray⟩, .string ⟨t.toArray⟩, .slice a m c, .int .i64 k] 36)).cell? ⟨p, 3, none⟩ = some (.int .i64 n) := Lib.cell_of_heap hbx 3
  have p4 : (w.alloc (.cells #[.int .i64 3, .string ⟨s.toArray⟩, .string ⟨t.toArray⟩, .slice a m c, .int .i64 k] 36)).cell? ⟨p, 4, none⟩ = some (.int .i64 st) := Lib.cell_of_heap hbx 4
  have HR0 : Hid (Rk T (w.alloc (.cells #[.int .i64 3, .string ⟨s.toArray⟩, .string ⟨t.toArray⟩, .slice a m c, .int .i64 k] 36)) p fs N Y n st) := r0
  have HB0 : Hid (Below w.heap.size w (w.alloc (.cells #[.int .i64 3, .string ⟨s.toArray⟩, .string ⟨t.toArray⟩, .slice a m c, .int .i64 k] 36))) := b0
  clear hbx x0 r0 b0 h
  go_enter Tryd.func22, Tryd.ntmps22
  go_upto_region 27 with fail
  go_cut [139] from 124 to 139 (fun x wx => x = .bool false ∧ ∃ q, wx = (w.alloc (.cells #[.int .i64 3, .string ⟨s.toArray⟩, .string ⟨t.toArray⟩, .slice a m c, .int .i64 k] 36)).drewN q)
  case first =>
    rcases hst with hst | hst
    · have g0 : decide (0 ≤ st) = false := decide_eq_false (by omega)
      clear hst
      go_quiet (fail)
      go_wp2_with fail
      go_meet
      case rel => exact ⟨rfl, nq, rfl⟩
    · have g1 : decide (st ≤ n) = false := decide_eq_false (by omega)
      by_cases h0 : 0 ≤ st
      · have g0 : decide (0 ≤ st) = true := decide_eq_true h0
        clear hst h0
        go_quiet (fail)
        go_wp2_with fail
        go_meet
        case rel => exact ⟨rfl, nq, rfl⟩
      · have g0 : decide (0 ≤ st) = false := decide_eq_false h0
        clear hst h0
        go_quiet (fail)
        go_wp2_with fail
        go_meet
        case rel => exact ⟨rfl, nq, rfl⟩
  case rest =>
    obtain ⟨rfl, q, hw⟩ := hcut
    have HR1 : Hid (Rk T wc p fs N Y n st) := by rw [hw]; exact HR0.out.below (below_drew (Below.refl _ _) q)
    have HB1 : Hid (Below w.heap.size w wc) := by rw [hw]; exact below_drew HB0.out q
    replace k0 : wc.cell? ⟨w.heap.size, 0, none⟩ = some (.int .i64 3) := by rw [hw]; exact k0
    replace k1 : wc.cell? ⟨w.heap.size, 1, none⟩ = some (.string ⟨s.toArray⟩) := by rw [hw]; exact k1
    replace k2 : wc.cell? ⟨w.heap.size, 2, none⟩ = some (.string ⟨t.toArray⟩) := by rw [hw]; exact k2
    replace k3 : wc.cell? ⟨w.heap.size, 3, none⟩ = some (.slice a m c) := by rw [hw]; exact k3
    replace k4 : wc.cell? ⟨w.heap.size, 4, none⟩ = some (.int .i64 k) := by rw [hw]; exact k4
    replace p3 : wc.cell? ⟨p, 3, none⟩ = some (.int .i64 n) := by rw [hw]; exact p3
    replace p4 : wc.cell? ⟨p, 4, none⟩ = some (.int .i64 st) := by rw [hw]; exact p4
    have NS := named_any s wc
    have NT := named_any t wc
    have FI := rFile_any s wc HR1.out hN
    clear hw HR0 HB0 hN
    rw [ha] at NS
    have e1 : fkI N s = -1 := by unfold fkI; rw [hi]
    rw [e1] at FI
    clear NT
    clear ha hi e1
    go_wp2_with (first
      | (go_at_call 28; refine NS.mono ?_; clear NS; rintro e w1 ⟨rfl, rfl⟩)
      | (go_at_call 29; refine FI.mono ?_; clear FI; rintro e w1 ⟨rfl, rfl⟩)
      | (go_at_call 28; refine NT.mono ?_; rintro e w1 ⟨rfl, rfl⟩))
    go_ret
    exact ⟨rfl, HB1.out⟩

set_option maxRecDepth 100000 in
set_option maxHeartbeats 8000000 in
theorem do_none_5 {T : Nat → Prop} {p : Nat} {fs : List FV} {N Y : List (Tx × Nat)} {n st : Int} (s t : Tx) (a : Option Addr) (m c : Nat) (k : Int) (w : World) (h : Rk T w p fs N Y n st) (hN : N.length ≤ 1000) (hst : st < 0 ∨ n < st) (ha : nameB s = true) (hb : nameB t = true) (hi : fk N s = none) :
    Calls Tryd.prog 22 #[.pointer (some ⟨p, 0, none⟩), .agg #[.int .i64 5, .string ⟨s.toArray⟩, .string ⟨t.toArray⟩, .slice a m c, .int .i64 k]] w fun e w' => e = .returned (.int .i64 6) ∧ Below w.heap.size w w' := by
  have b0 : Below w.heap.size w (w.alloc (.cells #[.int .i64 5, .string ⟨s.toArray⟩, .string ⟨t.toArray⟩, .slice a m c, .int .i64 k] 36)) := (Below.refl _ _).alloc (Nat.le_refl _) _
  have r0 := h.below b0
  have x0 := (MapKept.heap_alloc w (.cells #[.int .i64 5, .string ⟨s.toArray⟩, .string ⟨t.toArray⟩, .slice a m c, .int .i64 k] 36)).1
  obtain ⟨vf, vn, vy, hbx, _⟩ := r0.box
  have k0 : (w.alloc (.cells #[.int .i64 5, .string ⟨s.toArray⟩, .string ⟨t.toArray⟩, .slice a m c, .int .i64 k] 36)).cell? ⟨w.heap.size, 0, none⟩ = some (.int .i64 5) := Lib.cell_of_heap x0 0
  have k1 : (w.alloc (.cells #[.int .i64 5, .string ⟨s.toArray⟩, .string ⟨t.toArray⟩, .slice a m c, .int .i64 k] 36)).cell? ⟨w.heap.size, 1, none⟩ = some (.string ⟨s.toArray⟩) := Lib.cell_of_heap x0 1
  have k2 : (w.alloc (.cells #[.int .i64 5, .string ⟨s.toArray⟩, .string ⟨t.toArray⟩, .slice a m c, .int .i64 k] 36)).cell? ⟨w.heap.size, 2, none⟩ = some (.string ⟨t.toArray⟩) := Lib.cell_of_heap x0 2
  have k3 : (w.alloc (.cells #[.int .i64 5, .string ⟨s.toArray⟩, .string ⟨t.toArray⟩, .slice a m c, .int .i64 k] 36)).cell? ⟨w.heap.size, 3, none⟩ = some (.slice a m c) := Lib.cell_of_heap x0 3
  have k4 : (w.alloc (.cells #[.int .i64 5, .string ⟨s.toArray⟩, .string ⟨t.toArray⟩, .slice a m c, .int .i64 k] 36)).cell? ⟨w.heap.size, 4, none⟩ = some (.int .i64 k) := Lib.cell_of_heap x0 4
  have p3 : (w.alloc (.cells #[.int .i64 5, .string ⟨s.toArray⟩, .string ⟨t.toArray⟩, .slice a m c, .int .i64 k] 36)).cell? ⟨p, 3, none⟩ = some (.int .i64 n) := Lib.cell_of_heap hbx 3
  have p4 : (w.alloc (.cells #[.int .i64 5, .string ⟨s.toArray⟩, .string ⟨t.toArray⟩, .slice a m c, .int .i64 k] 36)).cell? ⟨p, 4, none⟩ = some (.int .i64 st) := Lib.cell_of_heap hbx 4
  have HR0 : Hid (Rk T (w.alloc (.cells #[.int .i64 5, .string ⟨s.toArray⟩, .string ⟨t.toArray⟩, .slice a m c, .int .i64 k] 36)) p fs N Y n st) := r0
  have HB0 : Hid (Below w.heap.size w (w.alloc (.cells #[.int .i64 5, .string ⟨s.toArray⟩, .string ⟨t.toArray⟩, .slice a m c, .int .i64 k] 36))) := b0
  clear hbx x0 r0 b0 h
  go_enter Tryd.func22, Tryd.ntmps22
  go_upto_region 27 with fail
  go_cut [139] from 124 to 139 (fun x wx => x = .bool false ∧ ∃ q, wx = (w.alloc (.cells #[.int .i64 5, .string ⟨s.toArray⟩, .string ⟨t.toArray⟩, .slice a m c, .int .i64 k] 36)).drewN q)
  case first =>
    rcases hst with hst | hst
    · have g0 : decide (0 ≤ st) = false := decide_eq_false (by omega)
      clear hst
      go_quiet (fail)
      go_wp2_with fail
      go_meet
      case rel => exact ⟨rfl, nq, rfl⟩
    · have g1 : decide (st ≤ n) = false := decide_eq_false (by omega)
      by_cases h0 : 0 ≤ st
      · have g0 : decide (0 ≤ st) = true := decide_eq_true h0
        clear hst h0
        go_quiet (fail)
        go_wp2_with fail
        go_meet
        case rel => exact ⟨rfl, nq, rfl⟩
      · have g0 : decide (0 ≤ st) = false := decide_eq_false h0
        clear hst h0
        go_quiet (fail)
        go_wp2_with fail
        go_meet
        case rel => exact ⟨rfl, nq, rfl⟩
  case rest =>
    obtain ⟨rfl, q, hw⟩ := hcut
    have HR1 : Hid (Rk T wc p fs N Y n st) := by rw [hw]; exact HR0.out.below (below_drew (Below.refl _ _) q)
    have HB1 : Hid (Below w.heap.size w wc) := by rw [hw]; exact below_drew HB0.out q
    replace k0 : wc.cell? ⟨w.heap.size, 0, none⟩ = some (.int .i64 5) := by rw [hw]; exact k0
    replace k1 : wc.cell? ⟨w.heap.size, 1, none⟩ = some (.string ⟨s.toArray⟩) := by rw [hw]; exact k1
    replace k2 : wc.cell? ⟨w.heap.size, 2, none⟩ = some (.string ⟨t.toArray⟩) := by rw [hw]; exact k2
    replace k3 : wc.cell? ⟨w.heap.size, 3, none⟩ = some (.slice a m c) := by rw [hw]; exact k3
    replace k4 : wc.cell? ⟨w.heap.size, 4, none⟩ = some (.int .i64 k) := by rw [hw]; exact k4
    replace p3 : wc.cell? ⟨p, 3, none⟩ = some (.int .i64 n) := by rw [hw]; exact p3
    replace p4 : wc.cell? ⟨p, 4, none⟩ = some (.int .i64 st) := by rw [hw]; exact p4
    have NS := named_any s wc
    have NT := named_any t wc
    have FI := rFile_any s wc HR1.out hN
    clear hw HR0 HB0 hN
    rw [ha] at NS
    have e1 : fkI N s = -1 := by unfold fkI; rw [hi]
    rw [e1] at FI
    rw [hb] at NT
    clear hb
    clear ha hi e1
    go_wp2_with (first
      | (go_at_call 28; refine NS.mono ?_; clear NS; rintro e w1 ⟨rfl, rfl⟩)
      | (go_at_call 29; refine FI.mono ?_; clear FI; rintro e w1 ⟨rfl, rfl⟩)
      | (go_at_call 28; refine NT.mono ?_; rintro e w1 ⟨rfl, rfl⟩))
    go_ret
    exact ⟨rfl, HB1.out⟩

set_option maxRecDepth 100000 in
set_option maxHeartbeats 8000000 in
theorem do_none_6 {T : Nat → Prop} {p : Nat} {fs : List FV} {N Y : List (Tx × Nat)} {n st : Int} (s t : Tx) (a : Option Addr) (m c : Nat) (k : Int) (w : World) (h : Rk T w p fs N Y n st) (hN : N.length ≤ 1000) (hst : st < 0 ∨ n < st) (ha : nameB s = true) (hi : fk N s = none) :
    Calls Tryd.prog 22 #[.pointer (some ⟨p, 0, none⟩), .agg #[.int .i64 6, .string ⟨s.toArray⟩, .string ⟨t.toArray⟩, .slice a m c, .int .i64 k]] w fun e w' => e = .returned (.int .i64 6) ∧ Below w.heap.size w w' := by
  have b0 : Below w.heap.size w (w.alloc (.cells #[.int .i64 6, .string ⟨s.toArray⟩, .string ⟨t.toArray⟩, .slice a m c, .int .i64 k] 36)) := (Below.refl _ _).alloc (Nat.le_refl _) _
  have r0 := h.below b0
  have x0 := (MapKept.heap_alloc w (.cells #[.int .i64 6, .string ⟨s.toArray⟩, .string ⟨t.toArray⟩, .slice a m c, .int .i64 k] 36)).1
  obtain ⟨vf, vn, vy, hbx, _⟩ := r0.box
  have k0 : (w.alloc (.cells #[.int .i64 6, .string ⟨s.toArray⟩, .string ⟨t.toArray⟩, .slice a m c, .int .i64 k] 36)).cell? ⟨w.heap.size, 0, none⟩ = some (.int .i64 6) := Lib.cell_of_heap x0 0
  have k1 : (w.alloc (.cells #[.int .i64 6, .string ⟨s.toArray⟩, .string ⟨t.toArray⟩, .slice a m c, .int .i64 k] 36)).cell? ⟨w.heap.size, 1, none⟩ = some (.string ⟨s.toArray⟩) := Lib.cell_of_heap x0 1
  have k2 : (w.alloc (.cells #[.int .i64 6, .string ⟨s.toArray⟩, .string ⟨t.toArray⟩, .slice a m c, .int .i64 k] 36)).cell? ⟨w.heap.size, 2, none⟩ = some (.string ⟨t.toArray⟩) := Lib.cell_of_heap x0 2
  have k3 : (w.alloc (.cells #[.int .i64 6, .string ⟨s.toArray⟩, .string ⟨t.toArray⟩, .slice a m c, .int .i64 k] 36)).cell? ⟨w.heap.size, 3, none⟩ = some (.slice a m c) := Lib.cell_of_heap x0 3
  have k4 : (w.alloc (.cells #[.int .i64 6, .string ⟨s.toArray⟩, .string ⟨t.toArray⟩, .slice a m c, .int .i64 k] 36)).cell? ⟨w.heap.size, 4, none⟩ = some (.int .i64 k) := Lib.cell_of_heap x0 4
  have p3 : (w.alloc (.cells #[.int .i64 6, .string ⟨s.toArray⟩, .string ⟨t.toArray⟩, .slice a m c, .int .i64 k] 36)).cell? ⟨p, 3, none⟩ = some (.int .i64 n) := Lib.cell_of_heap hbx 3
  have p4 : (w.alloc (.cells #[.int .i64 6, .string ⟨s.toArray⟩, .string ⟨t.toArray⟩, .slice a m c, .int .i64 k] 36)).cell? ⟨p, 4, none⟩ = some (.int .i64 st) := Lib.cell_of_heap hbx 4
  have HR0 : Hid (Rk T (w.alloc (.cells #[.int .i64 6, .string ⟨s.toArray⟩, .string ⟨t.toArray⟩, .slice a m c, .int .i64 k] 36)) p fs N Y n st) := r0
  have HB0 : Hid (Below w.heap.size w (w.alloc (.cells #[.int .i64 6, .string ⟨s.toArray⟩, .string ⟨t.toArray⟩, .slice a m c, .int .i64 k] 36))) := b0
  clear hbx x0 r0 b0 h
  go_enter Tryd.func22, Tryd.ntmps22
  go_upto_region 27 with fail
  go_cut [139] from 124 to 139 (fun x wx => x = .bool false ∧ ∃ q, wx = (w.alloc (.cells #[.int .i64 6, .string ⟨s.toArray⟩, .string ⟨t.toArray⟩, .slice a m c, .int .i64 k] 36)).drewN q)
  case first =>
    rcases hst with hst | hst
    · have g0 : decide (0 ≤ st) = false := decide_eq_false (by omega)
      clear hst
      go_quiet (fail)
      go_wp2_with fail
      go_meet
      case rel => exact ⟨rfl, nq, rfl⟩
    · have g1 : decide (st ≤ n) = false := decide_eq_false (by omega)
      by_cases h0 : 0 ≤ st
      · have g0 : decide (0 ≤ st) = true := decide_eq_true h0
        clear hst h0
        go_quiet (fail)
        go_wp2_with fail
        go_meet
        case rel => exact ⟨rfl, nq, rfl⟩
      · have g0 : decide (0 ≤ st) = false := decide_eq_false h0
        clear hst h0
        go_quiet (fail)
        go_wp2_with fail
        go_meet
        case rel => exact ⟨rfl, nq, rfl⟩
  case rest =>
    obtain ⟨rfl, q, hw⟩ := hcut
    have HR1 : Hid (Rk T wc p fs N Y n st) := by rw [hw]; exact HR0.out.below (below_drew (Below.refl _ _) q)
    have HB1 : Hid (Below w.heap.size w wc) := by rw [hw]; exact below_drew HB0.out q
    replace k0 : wc.cell? ⟨w.heap.size, 0, none⟩ = some (.int .i64 6) := by rw [hw]; exact k0
    replace k1 : wc.cell? ⟨w.heap.size, 1, none⟩ = some (.string ⟨s.toArray⟩) := by rw [hw]; exact k1
    replace k2 : wc.cell? ⟨w.heap.size, 2, none⟩ = some (.string ⟨t.toArray⟩) := by rw [hw]; exact k2
    replace k3 : wc.cell? ⟨w.heap.size, 3, none⟩ = some (.slice a m c) := by rw [hw]; exact k3
    replace k4 : wc.cell? ⟨w.heap.size, 4, none⟩ = some (.int .i64 k) := by rw [hw]; exact k4
    replace p3 : wc.cell? ⟨p, 3, none⟩ = some (.int .i64 n) := by rw [hw]; exact p3
    replace p4 : wc.cell? ⟨p, 4, none⟩ = some (.int .i64 st) := by rw [hw]; exact p4
    have NS := named_any s wc
    have NT := named_any t wc
    have FI := rFile_any s wc HR1.out hN
    clear hw HR0 HB0 hN
    rw [ha] at NS
    have e1 : fkI N s = -1 := by unfold fkI; rw [hi]
    rw [e1] at FI
    clear NT
    clear ha hi e1
    go_wp2_with (first
      | (go_at_call 28; refine NS.mono ?_; clear NS; rintro e w1 ⟨rfl, rfl⟩)
      | (go_at_call 29; refine FI.mono ?_; clear FI; rintro e w1 ⟨rfl, rfl⟩)
      | (go_at_call 28; refine NT.mono ?_; rintro e w1 ⟨rfl, rfl⟩))
    go_ret
    exact ⟨rfl, HB1.out⟩

end Go.Proofs.YtcdpcjafomfddaaDoor
