/-
  What is proved: what bookref3's Do does where nothing is wrong.
  Conditions: as each theorem says.
-/
import Derived.Test.YtcdpcjafomfddaaDoorQDoM
import Derived.Test.YtcdpcjafomfddaaDoorEK
namespace Go.Proofs.YtcdpcjafomfddaaDoor
open Go.RowKit Go.Maps Go.Sort Go.Shelf

def DoP (T : Nat → Prop) (w : World) (p : Nat) (fs : List FV) (N Y : List (Tx × Nat)) (n st : Int) (e : Ending) (w' : World) : Prop := e = .returned (.int .i64 0) ∧ Kp T w w' ∧ Rk T w' p fs N Y n st

/-- All the cells of the box of what is to be done. -/
theorem wcells {w : World} {x : Nat} {k0 : Int} {s t : ByteArray} {v : Value} {k : Int} (h : w.heap[x]? = some (.cells #[.int .i64 k0, .string s, .string t, v, .int .i64 k] 36)) :
    w.cell? ⟨x, 0, none⟩ = some (.int .i64 k0) ∧ w.cell? ⟨x, 1, none⟩ = some (.string s) ∧ w.cell? ⟨x, 2, none⟩ = some (.string t) ∧ w.cell? ⟨x, 3, none⟩ = some v ∧ w.cell? ⟨x, 4, none⟩ = some (.int .i64 k) :=
  ⟨Lib.cell_of_heap h 0, Lib.cell_of_heap h 1, Lib.cell_of_heap h 2, Lib.cell_of_heap h 3, Lib.cell_of_heap h 4⟩

set_option maxRecDepth 100000 in
set_option maxHeartbeats 8000000 in
theorem do_8a {T : Nat → Prop} {p : Nat} {fs : List FV} {N Y : List (Tx × Nat)} {n st : Int} (s t : Tx) (a : Option Addr) (m c : Nat) (k : Int) (w : World) (h : Rk T w p fs N Y n st) (hT : ∀ k, w.heap.size ≤ k → T k) (hn : 0 ≤ n ∧ n < 1000000) (hk : k < 0) :
    Calls Tryd.prog 22 #[.pointer (some ⟨p, 0, none⟩), .agg #[.int .i64 8, .string ⟨s.toArray⟩, .string ⟨t.toArray⟩, .slice a m c, .int .i64 k]] w fun e w' => DoP T w p (fs) (N) (Y) (n) (-1) e w' := by
  have b0 : Below w.heap.size w (w.alloc (.cells #[.int .i64 8, .string ⟨s.toArray⟩, .string ⟨t.toArray⟩, .slice a m c, .int .i64 k] 36)) := (Below.refl _ _).alloc (Nat.le_refl _) _
  have r0 := h.below b0
  have x0 := (MapKept.heap_alloc w (.cells #[.int .i64 8, .string ⟨s.toArray⟩, .string ⟨t.toArray⟩, .slice a m c, .int .i64 k] 36)).1
  obtain ⟨vf, vn, vy, hbx, _⟩ := r0.box
  have k0 : (w.alloc (.cells #[.int .i64 8, .string ⟨s.toArray⟩, .string ⟨t.toArray⟩, .slice a m c, .int .i64 k] 36)).cell? ⟨w.heap.size, 0, none⟩ = some (.int .i64 8) := Lib.cell_of_heap x0 0
  have k1 : (w.alloc (.cells #[.int .i64 8, .string ⟨s.toArray⟩, .string ⟨t.toArray⟩, .slice a m c, .int .i64 k] 36)).cell? ⟨w.heap.size, 1, none⟩ = some (.string ⟨s.toArray⟩) := Lib.cell_of_heap x0 1
  have k2 : (w.alloc (.cells #[.int .i64 8, .string ⟨s.toArray⟩, .string ⟨t.toArray⟩, .slice a m c, .int .i64 k] 36)).cell? ⟨w.heap.size, 2, none⟩ = some (.string ⟨t.toArray⟩) := Lib.cell_of_heap x0 2
  have k3 : (w.alloc (.cells #[.int .i64 8, .string ⟨s.toArray⟩, .string ⟨t.toArray⟩, .slice a m c, .int .i64 k] 36)).cell? ⟨w.heap.size, 3, none⟩ = some (.slice a m c) := Lib.cell_of_heap x0 3
  have k4 : (w.alloc (.cells #[.int .i64 8, .string ⟨s.toArray⟩, .string ⟨t.toArray⟩, .slice a m c, .int .i64 k] 36)).cell? ⟨w.heap.size, 4, none⟩ = some (.int .i64 k) := Lib.cell_of_heap x0 4
  have p3 : (w.alloc (.cells #[.int .i64 8, .string ⟨s.toArray⟩, .string ⟨t.toArray⟩, .slice a m c, .int .i64 k] 36)).cell? ⟨p, 3, none⟩ = some (.int .i64 n) := Lib.cell_of_heap hbx 3
  have p4 : (w.alloc (.cells #[.int .i64 8, .string ⟨s.toArray⟩, .string ⟨t.toArray⟩, .slice a m c, .int .i64 k] 36)).cell? ⟨p, 4, none⟩ = some (.int .i64 st) := Lib.cell_of_heap hbx 4
  have HR0 : Hid (Rk T (w.alloc (.cells #[.int .i64 8, .string ⟨s.toArray⟩, .string ⟨t.toArray⟩, .slice a m c, .int .i64 k] 36)) p fs N Y n st) := r0
  have HB0 : Hid (Below w.heap.size w (w.alloc (.cells #[.int .i64 8, .string ⟨s.toArray⟩, .string ⟨t.toArray⟩, .slice a m c, .int .i64 k] 36))) := b0
  have HX0 : Hid (_ = some _) := x0
  obtain ⟨post, hpost⟩ : ∃ post, post = fun e w' => DoP T w p (fs) (N) (Y) (n) (-1) e w' := ⟨_, rfl⟩
  rw [← hpost]
  have HPO : Hid (post = _) := hpost
  have HTT : Hid (∀ k, w.heap.size ≤ k → T k) := hT
  clear hpost hT
  obtain ⟨n0, n1⟩ := hn
  obtain ⟨vf, vn, vy, hbx, R1, R2, R3, t1, t2, t3⟩ := r0.box
  have q4 := (r0.set hbx R1 R2 R3 t1 t2 t3).2.1 k
  obtain ⟨vf', vn', vy', hbx', S1, S2, S3, u1, u2, u3⟩ := q4.box
  have q5 := (q4.set hbx' S1 S2 S3 u1 u2 u3).2.1 (-1)
  have f4 : (w.alloc (.cells #[.int .i64 8, .string ⟨s.toArray⟩, .string ⟨t.toArray⟩, .slice a m c, .int .i64 k] 36)).frozen? ⟨p, 4, none⟩ = false := Lib.frozen_of_heap hbx 4
  have p4' : ((w.alloc (.cells #[.int .i64 8, .string ⟨s.toArray⟩, .string ⟨t.toArray⟩, .slice a m c, .int .i64 k] 36)).setCell ⟨p, 4, none⟩ (.int .i64 k)).cell? ⟨p, 4, none⟩ = some (.int .i64 k) := Lib.cell_of_heap hbx' 4
  have f4' : ((w.alloc (.cells #[.int .i64 8, .string ⟨s.toArray⟩, .string ⟨t.toArray⟩, .slice a m c, .int .i64 k] 36)).setCell ⟨p, 4, none⟩ (.int .i64 k)).frozen? ⟨p, 4, none⟩ = false := Lib.frozen_of_heap hbx' 4
  have k4' : ((w.alloc (.cells #[.int .i64 8, .string ⟨s.toArray⟩, .string ⟨t.toArray⟩, .slice a m c, .int .i64 k] 36)).setCell ⟨p, 4, none⟩ (.int .i64 k)).cell? ⟨w.heap.size, 4, none⟩ = some (.int .i64 k) := Lib.cell_of_heap ((Below.heap_setCell _ _ _ _ (cells_ne HX0.out hbx (by decide))).trans HX0.out) 4
  have HEND : Hid (post (.returned (.int .i64 0)) (((w.alloc (.cells #[.int .i64 8, .string ⟨s.toArray⟩, .string ⟨t.toArray⟩, .slice a m c, .int .i64 k] 36)).setCell ⟨p, 4, none⟩ (.int .i64 k)).setCell ⟨p, 4, none⟩ (.int .i64 (-1)))) := by
    rw [HPO.out]
    exact ⟨rfl, ((Kp.of b0).set 4 _ r0.tp).set 4 _ r0.tp, q5⟩
  have g1 : k < 0 := hk
  clear hbx hbx' x0 r0 b0 h hk q4 q5 R1 R2 R3 t1 t2 t3 S1 S2 S3 u1 u2 u3
  go_enter Tryd.func22, Tryd.ntmps22
  go_wp2
  exact HEND.out

set_option maxRecDepth 100000 in
set_option maxHeartbeats 8000000 in
theorem do_8b {T : Nat → Prop} {p : Nat} {fs : List FV} {N Y : List (Tx × Nat)} {n st : Int} (s t : Tx) (a : Option Addr) (m c : Nat) (k : Int) (w : World) (h : Rk T w p fs N Y n st) (hT : ∀ k, w.heap.size ≤ k → T k) (hn : 0 ≤ n ∧ n < 1000000) (hk : 0 ≤ k) :
    Calls Tryd.prog 22 #[.pointer (some ⟨p, 0, none⟩), .agg #[.int .i64 8, .string ⟨s.toArray⟩, .string ⟨t.toArray⟩, .slice a m c, .int .i64 k]] w fun e w' => DoP T w p (fs) (N) (Y) (n) (k) e w' := by
  have b0 : Below w.heap.size w (w.alloc (.cells #[.int .i64 8, .string ⟨s.toArray⟩, .string ⟨t.toArray⟩, .slice a m c, .int .i64 k] 36)) := (Below.refl _ _).alloc (Nat.le_refl _) _
  have r0 := h.below b0
  have x0 := (MapKept.heap_alloc w (.cells #[.int .i64 8, .string ⟨s.toArray⟩, .string ⟨t.toArray⟩, .slice a m c, .int .i64 k] 36)).1
  obtain ⟨vf, vn, vy, hbx, _⟩ := r0.box
  have k0 : (w.alloc (.cells #[.int .i64 8, .string ⟨s.toArray⟩, .string ⟨t.toArray⟩, .slice a m c, .int .i64 k] 36)).cell? ⟨w.heap.size, 0, none⟩ = some (.int .i64 8) := Lib.cell_of_heap x0 0
  have k1 : (w.alloc (.cells #[.int .i64 8, .string ⟨s.toArray⟩, .string ⟨t.toArray⟩, .slice a m c, .int .i64 k] 36)).cell? ⟨w.heap.size, 1, none⟩ = some (.string ⟨s.toArray⟩) := Lib.cell_of_heap x0 1
  have k2 : (w.alloc (.cells #[.int .i64 8, .string ⟨s.toArray⟩, .string ⟨t.toArray⟩, .slice a m c, .int .i64 k] 36)).cell? ⟨w.heap.size, 2, none⟩ = some (.string ⟨t.toArray⟩) := Lib.cell_of_heap x0 2
  have k3 : (w.alloc (.cells #[.int .i64 8, .string ⟨s.toArray⟩, .string ⟨t.toArray⟩, .slice a m c, .int .i64 k] 36)).cell? ⟨w.heap.size, 3, none⟩ = some (.slice a m c) := Lib.cell_of_heap x0 3
  have k4 : (w.alloc (.cells #[.int .i64 8, .string ⟨s.toArray⟩, .string ⟨t.toArray⟩, .slice a m c, .int .i64 k] 36)).cell? ⟨w.heap.size, 4, none⟩ = some (.int .i64 k) := Lib.cell_of_heap x0 4
  have p3 : (w.alloc (.cells #[.int .i64 8, .string ⟨s.toArray⟩, .string ⟨t.toArray⟩, .slice a m c, .int .i64 k] 36)).cell? ⟨p, 3, none⟩ = some (.int .i64 n) := Lib.cell_of_heap hbx 3
  have p4 : (w.alloc (.cells #[.int .i64 8, .string ⟨s.toArray⟩, .string ⟨t.toArray⟩, .slice a m c, .int .i64 k] 36)).cell? ⟨p, 4, none⟩ = some (.int .i64 st) := Lib.cell_of_heap hbx 4
  have HR0 : Hid (Rk T (w.alloc (.cells #[.int .i64 8, .string ⟨s.toArray⟩, .string ⟨t.toArray⟩, .slice a m c, .int .i64 k] 36)) p fs N Y n st) := r0
  have HB0 : Hid (Below w.heap.size w (w.alloc (.cells #[.int .i64 8, .string ⟨s.toArray⟩, .string ⟨t.toArray⟩, .slice a m c, .int .i64 k] 36))) := b0
  have HX0 : Hid (_ = some _) := x0
  obtain ⟨post, hpost⟩ : ∃ post, post = fun e w' => DoP T w p (fs) (N) (Y) (n) (k) e w' := ⟨_, rfl⟩
  rw [← hpost]
  have HPO : Hid (post = _) := hpost
  have HTT : Hid (∀ k, w.heap.size ≤ k → T k) := hT
  clear hpost hT
  obtain ⟨n0, n1⟩ := hn
  obtain ⟨vf, vn, vy, hbx, R1, R2, R3, t1, t2, t3⟩ := r0.box
  have q4 := (r0.set hbx R1 R2 R3 t1 t2 t3).2.1 k
  obtain ⟨vf', vn', vy', hbx', S1, S2, S3, u1, u2, u3⟩ := q4.box
  have q5 := (q4.set hbx' S1 S2 S3 u1 u2 u3).2.1 (-1)
  have f4 : (w.alloc (.cells #[.int .i64 8, .string ⟨s.toArray⟩, .string ⟨t.toArray⟩, .slice a m c, .int .i64 k] 36)).frozen? ⟨p, 4, none⟩ = false := Lib.frozen_of_heap hbx 4
  have p4' : ((w.alloc (.cells #[.int .i64 8, .string ⟨s.toArray⟩, .string ⟨t.toArray⟩, .slice a m c, .int .i64 k] 36)).setCell ⟨p, 4, none⟩ (.int .i64 k)).cell? ⟨p, 4, none⟩ = some (.int .i64 k) := Lib.cell_of_heap hbx' 4
  have f4' : ((w.alloc (.cells #[.int .i64 8, .string ⟨s.toArray⟩, .string ⟨t.toArray⟩, .slice a m c, .int .i64 k] 36)).setCell ⟨p, 4, none⟩ (.int .i64 k)).frozen? ⟨p, 4, none⟩ = false := Lib.frozen_of_heap hbx' 4
  have k4' : ((w.alloc (.cells #[.int .i64 8, .string ⟨s.toArray⟩, .string ⟨t.toArray⟩, .slice a m c, .int .i64 k] 36)).setCell ⟨p, 4, none⟩ (.int .i64 k)).cell? ⟨w.heap.size, 4, none⟩ = some (.int .i64 k) := Lib.cell_of_heap ((Below.heap_setCell _ _ _ _ (cells_ne HX0.out hbx (by decide))).trans HX0.out) 4
  have HEND : Hid (post (.returned (.int .i64 0)) ((w.alloc (.cells #[.int .i64 8, .string ⟨s.toArray⟩, .string ⟨t.toArray⟩, .slice a m c, .int .i64 k] 36)).setCell ⟨p, 4, none⟩ (.int .i64 k))) := by
    rw [HPO.out]
    exact ⟨rfl, (Kp.of b0).set 4 _ r0.tp, q4⟩
  have g1 : ¬ k < 0 := by omega
  clear hbx hbx' x0 r0 b0 h hk q4 q5 R1 R2 R3 t1 t2 t3 S1 S2 S3 u1 u2 u3
  go_enter Tryd.func22, Tryd.ntmps22
  go_wp2
  exact HEND.out

set_option maxRecDepth 100000 in
set_option maxHeartbeats 8000000 in
theorem do_4 {T : Nat → Prop} {p : Nat} {fs : List FV} {N Y : List (Tx × Nat)} {n st : Int} (s t : Tx) (a : Option Addr) (m c : Nat) (k : Int) (w : World) (h : Rk T w p fs N Y n st) (hN : N.length ≤ 1000) (hT : ∀ k, w.heap.size ≤ k → T k) (hn : 0 ≤ n ∧ n < 1000000) (hst : st < 0 ∨ n < st)  :
    Calls Tryd.prog 22 #[.pointer (some ⟨p, 0, none⟩), .agg #[.int .i64 4, .string ⟨s.toArray⟩, .string ⟨t.toArray⟩, .slice a m c, .int .i64 k]] w fun e w' => DoP T w p (fs) (N) (N.filter fun q => q.1 != []) (n + 1) (st) e w' := by
  have b0 : Below w.heap.size w (w.alloc (.cells #[.int .i64 4, .string ⟨s.toArray⟩, .string ⟨t.toArray⟩, .slice a m c, .int .i64 k] 36)) := (Below.refl _ _).alloc (Nat.le_refl _) _
  have r0 := h.below b0
  have x0 := (MapKept.heap_alloc w (.cells #[.int .i64 4, .string ⟨s.toArray⟩, .string ⟨t.toArray⟩, .slice a m c, .int .i64 k] 36)).1
  obtain ⟨vf, vn, vy, hbx, _⟩ := r0.box
  have k0 : (w.alloc (.cells #[.int .i64 4, .string ⟨s.toArray⟩, .string ⟨t.toArray⟩, .slice a m c, .int .i64 k] 36)).cell? ⟨w.heap.size, 0, none⟩ = some (.int .i64 4) := Lib.cell_of_heap x0 0
  have k1 : (w.alloc (.cells #[.int .i64 4, .string ⟨s.toArray⟩, .string ⟨t.toArray⟩, .slice a m c, .int .i64 k] 36)).cell? ⟨w.heap.size, 1, none⟩ = some (.string ⟨s.toArray⟩) := Lib.cell_of_heap x0 1
  have k2 : (w.alloc (.cells #[.int .i64 4, .string ⟨s.toArray⟩, .string ⟨t.toArray⟩, .slice a m c, .int .i64 k] 36)).cell? ⟨w.heap.size, 2, none⟩ = some (.string ⟨t.toArray⟩) := Lib.cell_of_heap x0 2
  have k3 : (w.alloc (.cells #[.int .i64 4, .string ⟨s.toArray⟩, .string ⟨t.toArray⟩, .slice a m c, .int .i64 k] 36)).cell? ⟨w.heap.size, 3, none⟩ = some (.slice a m c) := Lib.cell_of_heap x0 3
  have k4 : (w.alloc (.cells #[.int .i64 4, .string ⟨s.toArray⟩, .string ⟨t.toArray⟩, .slice a m c, .int .i64 k] 36)).cell? ⟨w.heap.size, 4, none⟩ = some (.int .i64 k) := Lib.cell_of_heap x0 4
  have p3 : (w.alloc (.cells #[.int .i64 4, .string ⟨s.toArray⟩, .string ⟨t.toArray⟩, .slice a m c, .int .i64 k] 36)).cell? ⟨p, 3, none⟩ = some (.int .i64 n) := Lib.cell_of_heap hbx 3
  have p4 : (w.alloc (.cells #[.int .i64 4, .string ⟨s.toArray⟩, .string ⟨t.toArray⟩, .slice a m c, .int .i64 k] 36)).cell? ⟨p, 4, none⟩ = some (.int .i64 st) := Lib.cell_of_heap hbx 4
  have HR0 : Hid (Rk T (w.alloc (.cells #[.int .i64 4, .string ⟨s.toArray⟩, .string ⟨t.toArray⟩, .slice a m c, .int .i64 k] 36)) p fs N Y n st) := r0
  have HB0 : Hid (Below w.heap.size w (w.alloc (.cells #[.int .i64 4, .string ⟨s.toArray⟩, .string ⟨t.toArray⟩, .slice a m c, .int .i64 k] 36))) := b0
  have HX0 : Hid (_ = some _) := x0
  obtain ⟨post, hpost⟩ : ∃ post, post = fun e w' => DoP T w p (fs) (N) (N.filter fun q => q.1 != []) (n + 1) (st) e w' := ⟨_, rfl⟩
  rw [← hpost]
  have HPO : Hid (post = _) := hpost
  have HTT : Hid (∀ k, w.heap.size ≤ k → T k) := hT
  clear hpost hT
  obtain ⟨n0, n1⟩ := hn
  clear hbx x0 r0 b0 h
  go_enter Tryd.func22, Tryd.ntmps22
  go_upto_region 27 with fail
  go_cut [139] from 124 to 139 (fun x wx => x = .bool false ∧ ∃ q, wx = (w.alloc (.cells #[.int .i64 4, .string ⟨s.toArray⟩, .string ⟨t.toArray⟩, .slice a m c, .int .i64 k] 36)).drewN q)
  case first =>
    rcases hst with hst | hst
    · have g0 : decide (0 ≤ st) = false := decide_eq_false (by omega)
      clear hst
      go_quiet (fail)
      go_wp2_with fail
      go_meet
      case rel => exact ⟨rfl, nq, rfl⟩
    · have g1 : decide (st ≤ n) = false := decide_eq_false (by omega)
      by_cases h0 : 0 ≤ st
      · have g0 : decide (0 ≤ st) = true := decide_eq_true h0
        clear hst h0
        go_quiet (fail)
        go_wp2_with fail
        go_meet
        case rel => exact ⟨rfl, nq, rfl⟩
      · have g0 : decide (0 ≤ st) = false := decide_eq_false h0
        clear hst h0
        go_quiet (fail)
        go_wp2_with fail
        go_meet
        case rel => exact ⟨rfl, nq, rfl⟩
  case rest =>
    obtain ⟨rfl, nd, hw⟩ := hcut
    have HX1 : Hid (wc.heap[w.heap.size]? = some (.cells #[.int .i64 4, .string ⟨s.toArray⟩, .string ⟨t.toArray⟩, .slice a m c, .int .i64 k] 36)) := by rw [hw]; exact HX0.out
    have HR1 : Hid (Rk T wc p fs N Y n st) := by rw [hw]; exact HR0.out.below (below_drew (Below.refl _ _) nd)
    have HB1 : Hid (Below w.heap.size w wc) := by rw [hw]; exact below_drew HB0.out nd
    replace k0 : wc.cell? ⟨w.heap.size, 0, none⟩ = some (.int .i64 4) := by rw [hw]; exact k0
    replace k1 : wc.cell? ⟨w.heap.size, 1, none⟩ = some (.string ⟨s.toArray⟩) := by rw [hw]; exact k1
    replace k2 : wc.cell? ⟨w.heap.size, 2, none⟩ = some (.string ⟨t.toArray⟩) := by rw [hw]; exact k2
    replace k3 : wc.cell? ⟨w.heap.size, 3, none⟩ = some (.slice a m c) := by rw [hw]; exact k3
    replace k4 : wc.cell? ⟨w.heap.size, 4, none⟩ = some (.int .i64 k) := by rw [hw]; exact k4
    replace p3 : wc.cell? ⟨p, 3, none⟩ = some (.int .i64 n) := by rw [hw]; exact p3
    replace p4 : wc.cell? ⟨p, 4, none⟩ = some (.int .i64 st) := by rw [hw]; exact p4
    have NS := named_any s wc
    have NT := named_any t wc
    have FI := rFile_any s wc HR1.out hN
    clear hw HR0 HB0 HX0
    obtain ⟨zs, hzs⟩ : ∃ z : Bool, nameB s = z := ⟨_, rfl⟩
    rw [hzs] at NS
    obtain ⟨zi, hzi⟩ : ∃ z : Int, fkI N s = z := ⟨_, rfl⟩
    rw [hzi] at FI
    clear hzs hzi NT
    go_wp2_with (first
      | (go_at_call 28; refine NS.mono ?_; clear NS; rintro e w1 ⟨rfl, hw1⟩; rw [hw1]; clear hw1 w1)
      | (go_at_call 29; refine FI.mono ?_; clear FI; rintro e w1 ⟨rfl, hw1⟩; rw [hw1]; clear hw1 w1)
      | (go_at_call 28; refine NT.mono ?_; rintro e w1 ⟨rfl, hw1⟩; rw [hw1]; clear hw1 w1))
    go_quiet (fail)
    have HR2 : Hid (Rk T (wc.drewN nq) p fs N Y n st) := HR1.out.below (below_drew (Below.refl _ _) nq)
    have HB2 : Hid (Below w.heap.size w (wc.drewN nq)) := below_drew HB1.out nq
    have HX2 : Hid ((wc.drewN nq).heap[w.heap.size]? = some (.cells #[.int .i64 4, .string ⟨s.toArray⟩, .string ⟨t.toArray⟩, .slice a m c, .int .i64 k] 36)) := HX1.out
    clear k0 k1 k2 k3 k4 p3 p4 HR1 HB1 HX1
    generalize wc.drewN nq = w2 at *
    obtain ⟨vf, vn, vy, hbx, R1, R2, R3, t1, t2, t3⟩ := HR2.out.box
    have p3 : w2.cell? ⟨p, 3, none⟩ = some (.int .i64 n) := Lib.cell_of_heap hbx 3
    have f3 : w2.frozen? ⟨p, 3, none⟩ = false := Lib.frozen_of_heap hbx 3
    have HR3 : Hid (Rk T (w2.setCell ⟨p, 3, none⟩ (.int .i64 (n + 1))) p fs N Y (n + 1) st) := (HR2.out.set hbx R1 R2 R3 t1 t2 t3).1 (n + 1)
    have HK3 : Hid (Kp T w (w2.setCell ⟨p, 3, none⟩ (.int .i64 (n + 1)))) := (Kp.of HB2.out).set 3 _ HR2.out.tp
    have HX3 : Hid ((w2.setCell ⟨p, 3, none⟩ (.int .i64 (n + 1))).heap[w.heap.size]? = some (.cells #[.int .i64 4, .string ⟨s.toArray⟩, .string ⟨t.toArray⟩, .slice a m c, .int .i64 k] 36)) := (Below.heap_setCell _ _ _ _ (cells_ne HX2.out hbx (by decide))).trans HX2.out
    clear HR2 HB2 HX2 hbx R1 R2 R3 t1 t2 t3
    go_upto_region 46 with fail
    clear p3 f3
    generalize w2.setCell ⟨p, 3, none⟩ (.int .i64 (n + 1)) = w3 at *
    obtain ⟨k0, k1, k2, k3, k4⟩ := wcells HX3.out
    obtain ⟨vf, vn, vy, hbx, R1, R2, R3, t1, t2, t3⟩ := HR3.out.box
    obtain ⟨an, cn, rfl⟩ := rowN_form R2
    have p1 : w3.cell? ⟨p, 1, none⟩ = some (.slice an N.length cn) := Lib.cell_of_heap hbx 1
    have WI := (without_any [] an cn N w3 R2 hN).mono (R' := fun e w4 => ∃ ay cy m, e = .returned (.slice ay m cy) ∧ w4.cell? ⟨p, 2, none⟩ = some vy ∧ w4.frozen? ⟨p, 2, none⟩ = false ∧ post (.returned (.int .i64 0)) (w4.setCell ⟨p, 2, none⟩ (.slice ay m cy))) (by
      rintro e w4 ⟨ay, cy, rfl, rn, hb, b4⟩
      have r4 := HR3.out.below b4
      have bx4 := (b4.block p (lt_of_heap hbx)).trans hbx
      refine ⟨ay, cy, _, rfl, Lib.cell_of_heap bx4 2, Lib.frozen_of_heap bx4 2, ?_⟩
      rw [HPO.out]
      have hs3 : w.heap.size ≤ w3.heap.size := HK3.out.size
      exact ⟨rfl, (HK3.out.trans (Kp.of b4)).set 2 _ r4.tp, (r4.set bx4 (own_below R1 b4 (Nat.le_refl _)) (own_below R2 b4 (Nat.le_refl _)) (own_below R3 b4 (Nat.le_refl _)) t1 t2 t3).2.2.2.2 _ _ rn (fun b e => HTT.out b (Nat.le_trans hs3 (hb b e))) (fun q hq => HR3.out.nN q (List.mem_filter.1 hq).1)⟩)
    have hvy : ∃ ay my cy, vy = .slice ay my cy := by obtain ⟨a9, c9, e9⟩ := rowN_form R3; exact ⟨_, _, _, e9⟩
    obtain ⟨ay9, my9, cy9, rfl⟩ := hvy
    clear R1 R2 R3 t1 t2 t3 HR3 HK3 HX3 hbx hN
    go_wp2_with (go_at_call 35; refine WI.mono ?_; rintro e w4 ⟨ay, cy, my, rfl, c2, f2, hq⟩; have HEND : Hid (_) := hq; clear hq)
    exact HEND.out

set_option maxRecDepth 100000 in
set_option maxHeartbeats 8000000 in
theorem do_6 {T : Nat → Prop} {p : Nat} {fs : List FV} {N Y : List (Tx × Nat)} {n st : Int} (s t : Tx) (a : Option Addr) (m c : Nat) (k : Int) (w : World) (h : Rk T w p fs N Y n st) (hN : N.length ≤ 1000) (hT : ∀ k, w.heap.size ≤ k → T k) (hn : 0 ≤ n ∧ n < 1000000) (hst : st < 0 ∨ n < st) (ha : nameB s = true) {i : Nat} (hi : fk N s = some i) :
    Calls Tryd.prog 22 #[.pointer (some ⟨p, 0, none⟩), .agg #[.int .i64 6, .string ⟨s.toArray⟩, .string ⟨t.toArray⟩, .slice a m c, .int .i64 k]] w fun e w' => DoP T w p (fs) (N.filter fun q => q.1 != s) (Y) (n + 1) (st) e w' := by
  have b0 : Below w.heap.size w (w.alloc (.cells #[.int .i64 6, .string ⟨s.toArray⟩, .string ⟨t.toArray⟩, .slice a m c, .int .i64 k] 36)) := (Below.refl _ _).alloc (Nat.le_refl _) _
  have r0 := h.below b0
  have x0 := (MapKept.heap_alloc w (.cells #[.int .i64 6, .string ⟨s.toArray⟩, .string ⟨t.toArray⟩, .slice a m c, .int .i64 k] 36)).1
  obtain ⟨vf, vn, vy, hbx, _⟩ := r0.box
  have k0 : (w.alloc (.cells #[.int .i64 6, .string ⟨s.toArray⟩, .string ⟨t.toArray⟩, .slice a m c, .int .i64 k] 36)).cell? ⟨w.heap.size, 0, none⟩ = some (.int .i64 6) := Lib.cell_of_heap x0 0
  have k1 : (w.alloc (.cells #[.int .i64 6, .string ⟨s.toArray⟩, .string ⟨t.toArray⟩, .slice a m c, .int .i64 k] 36)).cell? ⟨w.heap.size, 1, none⟩ = some (.string ⟨s.toArray⟩) := Lib.cell_of_heap x0 1
  have k2 : (w.alloc (.cells #[.int .i64 6, .string ⟨s.toArray⟩, .string ⟨t.toArray⟩, .slice a m c, .int .i64 k] 36)).cell? ⟨w.heap.size, 2, none⟩ = some (.string ⟨t.toArray⟩) := Lib.cell_of_heap x0 2
  have k3 : (w.alloc (.cells #[.int .i64 6, .string ⟨s.toArray⟩, .string ⟨t.toArray⟩, .slice a m c, .int .i64 k] 36)).cell? ⟨w.heap.size, 3, none⟩ = some (.slice a m c) := Lib.cell_of_heap x0 3
  have k4 : (w.alloc (.cells #[.int .i64 6, .string ⟨s.toArray⟩, .string ⟨t.toArray⟩, .slice a m c, .int .i64 k] 36)).cell? ⟨w.heap.size, 4, none⟩ = some (.int .i64 k) := Lib.cell_of_heap x0 4
  have p3 : (w.alloc (.cells #[.int .i64 6, .string ⟨s.toArray⟩, .string ⟨t.toArray⟩, .slice a m c, .int .i64 k] 36)).cell? ⟨p, 3, none⟩ = some (.int .i64 n) := Lib.cell_of_heap hbx 3
  have p4 : (w.alloc (.cells #[.int .i64 6, .string ⟨s.toArray⟩, .string ⟨t.toArray⟩, .slice a m c, .int .i64 k] 36)).cell? ⟨p, 4, none⟩ = some (.int .i64 st) := Lib.cell_of_heap hbx 4
  have HR0 : Hid (Rk T (w.alloc (.cells #[.int .i64 6, .string ⟨s.toArray⟩, .string ⟨t.toArray⟩, .slice a m c, .int .i64 k] 36)) p fs N Y n st) := r0
  have HB0 : Hid (Below w.heap.size w (w.alloc (.cells #[.int .i64 6, .string ⟨s.toArray⟩, .string ⟨t.toArray⟩, .slice a m c, .int .i64 k] 36))) := b0
  have HX0 : Hid (_ = some _) := x0
  obtain ⟨post, hpost⟩ : ∃ post, post = fun e w' => DoP T w p (fs) (N.filter fun q => q.1 != s) (Y) (n + 1) (st) e w' := ⟨_, rfl⟩
  rw [← hpost]
  have HPO : Hid (post = _) := hpost
  have HTT : Hid (∀ k, w.heap.size ≤ k → T k) := hT
  clear hpost hT
  obtain ⟨n0, n1⟩ := hn
  clear hbx x0 r0 b0 h
  go_enter Tryd.func22, Tryd.ntmps22
  go_upto_region 27 with fail
  go_cut [139] from 124 to 139 (fun x wx => x = .bool false ∧ ∃ q, wx = (w.alloc (.cells #[.int .i64 6, .string ⟨s.toArray⟩, .string ⟨t.toArray⟩, .slice a m c, .int .i64 k] 36)).drewN q)
  case first =>
    rcases hst with hst | hst
    · have g0 : decide (0 ≤ st) = false := decide_eq_false (by omega)
      clear hst
      go_quiet (fail)
      go_wp2_with fail
      go_meet
      case rel => exact ⟨rfl, nq, rfl⟩
    · have g1 : decide (st ≤ n) = false := decide_eq_false (by omega)
      by_cases h0 : 0 ≤ st
      · have g0 : decide (0 ≤ st) = true := decide_eq_true h0
        clear hst h0
        go_quiet (fail)
        go_wp2_with fail
        go_meet
        case rel => exact ⟨rfl, nq, rfl⟩
      · have g0 : decide (0 ≤ st) = false := decide_eq_false h0
        clear hst h0
        go_quiet (fail)
        go_wp2_with fail
        go_meet
        case rel => exact ⟨rfl, nq, rfl⟩
  case rest =>
    obtain ⟨rfl, nd, hw⟩ := hcut
    have HX1 : Hid (wc.heap[w.heap.size]? = some (.cells #[.int .i64 6, .string ⟨s.toArray⟩, .string ⟨t.toArray⟩, .slice a m c, .int .i64 k] 36)) := by rw [hw]; exact HX0.out
    have HR1 : Hid (Rk T wc p fs N Y n st) := by rw [hw]; exact HR0.out.below (below_drew (Below.refl _ _) nd)
    have HB1 : Hid (Below w.heap.size w wc) := by rw [hw]; exact below_drew HB0.out nd
    replace k0 : wc.cell? ⟨w.heap.size, 0, none⟩ = some (.int .i64 6) := by rw [hw]; exact k0
    replace k1 : wc.cell? ⟨w.heap.size, 1, none⟩ = some (.string ⟨s.toArray⟩) := by rw [hw]; exact k1
    replace k2 : wc.cell? ⟨w.heap.size, 2, none⟩ = some (.string ⟨t.toArray⟩) := by rw [hw]; exact k2
    replace k3 : wc.cell? ⟨w.heap.size, 3, none⟩ = some (.slice a m c) := by rw [hw]; exact k3
    replace k4 : wc.cell? ⟨w.heap.size, 4, none⟩ = some (.int .i64 k) := by rw [hw]; exact k4
    replace p3 : wc.cell? ⟨p, 3, none⟩ = some (.int .i64 n) := by rw [hw]; exact p3
    replace p4 : wc.cell? ⟨p, 4, none⟩ = some (.int .i64 st) := by rw [hw]; exact p4
    have NS := named_any s wc
    have NT := named_any t wc
    have FI := rFile_any s wc HR1.out hN
    clear hw HR0 HB0 HX0
    rw [ha] at NS
    have e1 : fkI N s = (i : Int) := by unfold fkI; rw [hi]
    rw [e1] at FI
    have g2 : (0 : Int) ≤ (i : Int) := by omega
    have g3 : ¬ (i : Int) < 0 := by omega
    have HI : Hid (fk N s = some i) := hi
    clear NT
    clear ha hi e1
    go_wp2_with (first
      | (go_at_call 28; refine NS.mono ?_; clear NS; rintro e w1 ⟨rfl, hw1⟩; rw [hw1]; clear hw1 w1)
      | (go_at_call 29; refine FI.mono ?_; clear FI; rintro e w1 ⟨rfl, hw1⟩; rw [hw1]; clear hw1 w1)
      | (go_at_call 28; refine NT.mono ?_; rintro e w1 ⟨rfl, hw1⟩; rw [hw1]; clear hw1 w1))
    go_quiet (fail)
    have HR2 : Hid (Rk T (wc.drewN nq) p fs N Y n st) := HR1.out.below (below_drew (Below.refl _ _) nq)
    have HB2 : Hid (Below w.heap.size w (wc.drewN nq)) := below_drew HB1.out nq
    have HX2 : Hid ((wc.drewN nq).heap[w.heap.size]? = some (.cells #[.int .i64 6, .string ⟨s.toArray⟩, .string ⟨t.toArray⟩, .slice a m c, .int .i64 k] 36)) := HX1.out
    clear k0 k1 k2 k3 k4 p3 p4 HR1 HB1 HX1
    generalize wc.drewN nq = w2 at *
    obtain ⟨vf, vn, vy, hbx, R1, R2, R3, t1, t2, t3⟩ := HR2.out.box
    have p3 : w2.cell? ⟨p, 3, none⟩ = some (.int .i64 n) := Lib.cell_of_heap hbx 3
    have f3 : w2.frozen? ⟨p, 3, none⟩ = false := Lib.frozen_of_heap hbx 3
    have HR3 : Hid (Rk T (w2.setCell ⟨p, 3, none⟩ (.int .i64 (n + 1))) p fs N Y (n + 1) st) := (HR2.out.set hbx R1 R2 R3 t1 t2 t3).1 (n + 1)
    have HK3 : Hid (Kp T w (w2.setCell ⟨p, 3, none⟩ (.int .i64 (n + 1)))) := (Kp.of HB2.out).set 3 _ HR2.out.tp
    have HX3 : Hid ((w2.setCell ⟨p, 3, none⟩ (.int .i64 (n + 1))).heap[w.heap.size]? = some (.cells #[.int .i64 6, .string ⟨s.toArray⟩, .string ⟨t.toArray⟩, .slice a m c, .int .i64 k] 36)) := (Below.heap_setCell _ _ _ _ (cells_ne HX2.out hbx (by decide))).trans HX2.out
    clear HR2 HB2 HX2 hbx R1 R2 R3 t1 t2 t3
    go_upto_region 46 with fail
    clear p3 f3
    generalize w2.setCell ⟨p, 3, none⟩ (.int .i64 (n + 1)) = w3 at *
    obtain ⟨k0, k1, k2, k3, k4⟩ := wcells HX3.out
    obtain ⟨vf, vn, vy, hbx, R1, R2, R3, t1, t2, t3⟩ := HR3.out.box
    obtain ⟨an, cn, rfl⟩ := rowN_form R2
    have HCL : Hid (∀ W, Below w3.heap.size w3 W → W.cell? ⟨p, 1, none⟩ = some (.slice an N.length cn) ∧ W.cell? ⟨w.heap.size, 1, none⟩ = some (.string ⟨s.toArray⟩) ∧ W.cell? ⟨p, 1, none⟩ = some (.slice an N.length cn) ∧ W.frozen? ⟨p, 1, none⟩ = false) := fun W hW => by
      have bx := (hW.block p (lt_of_heap hbx)).trans hbx
      have xx := (hW.block _ (lt_of_heap HX3.out)).trans HX3.out
      exact ⟨Lib.cell_of_heap bx 1, Lib.cell_of_heap xx 1, Lib.cell_of_heap bx 1, Lib.frozen_of_heap bx 1⟩
    have WI := (without_any s an cn N w3.drew (own_below R2 (Below.refl _ _).drew (Nat.le_refl _)) hN).mono (R' := fun e w4 => ∃ ay cy m, e = .returned (.slice ay m cy) ∧ Below w3.heap.size w3 w4 ∧ post (.returned (.int .i64 0)) (w4.setCell ⟨p, 1, none⟩ (.slice ay m cy))) (by
      rintro e w4 ⟨ay, cy, rfl, rn, hb, b4⟩
      replace b4 : Below w3.heap.size w3 w4 := (Below.refl _ _).drew.trans b4
      have r4 := HR3.out.below b4
      have bx4 := (b4.block p (lt_of_heap hbx)).trans hbx
      refine ⟨ay, cy, _, rfl, b4, ?_⟩
      rw [HPO.out]
      have hs3 : w.heap.size ≤ w3.heap.size := HK3.out.size
      exact ⟨rfl, (HK3.out.trans (Kp.of b4)).set 1 _ r4.tp, (r4.set bx4 (own_below R1 b4 (Nat.le_refl _)) (own_below R2 b4 (Nat.le_refl _)) (own_below R3 b4 (Nat.le_refl _)) t1 t2 t3).2.2.2.1 _ _ rn (fun b e => HTT.out b (Nat.le_trans hs3 (hb b e))) (fun q hq => HR3.out.nN q (List.mem_filter.1 hq).1)⟩)
    clear R1 R2 R3 t1 t2 t3 HR3 HK3 HX3 hbx hN
    go_upto_region 63 with fail
    refine wp_region_noPanic ?_
    refine early_begin (S := fun W => Below w3.heap.size w3 W) (late := fun k => decide (8 ≤ k)) (by kernel_rfl) ?_
    have hHeld : Below w3.heap.size w3 w3.drew := (Below.refl _ _).drew
    refine ek 0 rfl ?_ (by intro wz hSw; obtain ⟨z0, z1, z2, z3⟩ := HCL.out wz hSw; go_simp; try with_reducible rfl)
    refine ek 1 rfl ?_ (by intro wz hSw; obtain ⟨z0, z1, z2, z3⟩ := HCL.out wz hSw; go_simp; try with_reducible rfl)
    refine ek 2 rfl ?_ (by intro wz hSw; obtain ⟨z0, z1, z2, z3⟩ := HCL.out wz hSw; go_simp; try with_reducible rfl)
    refine ek 3 rfl ?_ (by intro wz hSw; obtain ⟨z0, z1, z2, z3⟩ := HCL.out wz hSw; go_simp; try with_reducible rfl)
    refine ek 4 rfl ?_ (by intro wz hSw; obtain ⟨z0, z1, z2, z3⟩ := HCL.out wz hSw; go_simp; try with_reducible rfl)
    refine ek 5 rfl ?_ (by intro wz hSw; obtain ⟨z0, z1, z2, z3⟩ := HCL.out wz hSw; go_simp; try with_reducible rfl)
    refine ek 6 rfl ?_ (by intro wz hSw; obtain ⟨z0, z1, z2, z3⟩ := HCL.out wz hSw; go_simp; try with_reducible rfl)
    refine es 7 rfl (fun K hK => ?_)
    go_simp
    go_at_call 35
    refine Calls.mono WI ?_
    rintro e w4 ⟨ay, cy, my, rfl, b4, hq⟩
    have HEND : Hid (_) := hq
    go_wp2_with fail
    refine hK.out _ _ (fun _ => b4) ?_
    clear hK K hq
    try simp only [Act.put, nm]
    obtain ⟨-, -, c1, f1⟩ := HCL.out w4 b4
    refine es 8 rfl (fun K hK => ?_)
    go_simp
    go_wp2_with fail
    refine hK.out _ _ (fun h => absurd h (by decide)) ?_
    clear hK K
    try simp only [Act.put, nm]
    refine es 9 rfl (fun K hK => ?_)
    go_simp
    go_wp2_with fail
    refine hK.out _ _ (fun h => absurd h (by decide)) ?_
    clear hK K
    try simp only [Act.put, nm]
    refine es 10 rfl (fun K hK => ?_)
    go_simp
    go_wp2_with fail
    refine hK.out _ _ (fun h => absurd h (by decide)) ?_
    clear hK K
    try simp only [Act.put, nm]
    refine early_done (by kernel_rfl) ?_ _
    refine NoPanic.normal ?_
    clear HCL b4 hHeld c1 f1
    go_wp2
    exact HEND.out

set_option maxRecDepth 100000 in
set_option maxHeartbeats 8000000 in
theorem do_5 {T : Nat → Prop} {p : Nat} {fs : List FV} {N Y : List (Tx × Nat)} {n st : Int} (s t : Tx) (a : Option Addr) (m c : Nat) (k : Int) (w : World) (h : Rk T w p fs N Y n st) (hN : N.length ≤ 1000) (hT : ∀ k, w.heap.size ≤ k → T k) (hn : 0 ≤ n ∧ n < 1000000) (hst : st < 0 ∨ n < st) (ha : nameB s = true) (hb2 : nameB t = true) {i : Nat} (hi : fk N s = some i) :
    Calls Tryd.prog 22 #[.pointer (some ⟨p, 0, none⟩), .agg #[.int .i64 5, .string ⟨s.toArray⟩, .string ⟨t.toArray⟩, .slice a m c, .int .i64 k]] w fun e w' => DoP T w p (fs) (((N.filter fun q => q.1 != s).filter fun q => q.1 != t) ++ [(t, i)]) (Y) (n + 1) (st) e w' := by
  have b0 : Below w.heap.size w (w.alloc (.cells #[.int .i64 5, .string ⟨s.toArray⟩, .string ⟨t.toArray⟩, .slice a m c, .int .i64 k] 36)) := (Below.refl _ _).alloc (Nat.le_refl _) _
  have r0 := h.below b0
  have x0 := (MapKept.heap_alloc w (.cells #[.int .i64 5, .string ⟨s.toArray⟩, .string ⟨t.toArray⟩, .slice a m c, .int .i64 k] 36)).1
  obtain ⟨vf, vn, vy, hbx, _⟩ := r0.box
  have k0 : (w.alloc (.cells #[.int .i64 5, .string ⟨s.toArray⟩, .string ⟨t.toArray⟩, .slice a m c, .int .i64 k] 36)).cell? ⟨w.heap.size, 0, none⟩ = some (.int .i64 5) := Lib.cell_of_heap x0 0
  have k1 : (w.alloc (.cells #[.int .i64 5, .string ⟨s.toArray⟩, .string ⟨t.toArray⟩, .slice a m c, .int .i64 k] 36)).cell? ⟨w.heap.size, 1, none⟩ = some (.string ⟨s.toArray⟩) := Lib.cell_of_heap x0 1
  have k2 : (w.alloc (.cells #[.int .i64 5, .string ⟨s.toArray⟩, .string ⟨t.toArray⟩, .slice a m c, .int .i64 k] 36)).cell? ⟨w.heap.size, 2, none⟩ = some (.string ⟨t.toArray⟩) := Lib.cell_of_heap x0 2
  have k3 : (w.alloc (.cells #[.int .i64 5, .string ⟨s.toArray⟩, .string ⟨t.toArray⟩, .slice a m c, .int .i64 k] 36)).cell? ⟨w.heap.size, 3, none⟩ = some (.slice a m c) := Lib.cell_of_heap x0 3
  have k4 : (w.alloc (.cells #[.int .i64 5, .string ⟨s.toArray⟩, .string ⟨t.toArray⟩, .slice a m c, .int .i64 k] 36)).cell? ⟨w.heap.size, 4, none⟩ = some (.int .i64 k) := Lib.cell_of_heap x0 4
  have p3 : (w.alloc (.cells #[.int .i64 5, .string ⟨s.toArray⟩, .string ⟨t.toArray⟩, .slice a m c, .int .i64 k] 36)).cell? ⟨p, 3, none⟩ = some (.int .i64 n) := Lib.cell_of_heap hbx 3
  have p4 : (w.alloc (.cells #[.int .i64 5, .string ⟨s.toArray⟩, .string ⟨t.toArray⟩, .slice a m c, .int .i64 k] 36)).cell? ⟨p, 4, none⟩ = some (.int .i64 st) := Lib.cell_of_heap hbx 4
  have HR0 : Hid (Rk T (w.alloc (.cells #[.int .i64 5, .string ⟨s.toArray⟩, .string ⟨t.toArray⟩, .slice a m c, .int .i64 k] 36)) p fs N Y n st) := r0
  have HB0 : Hid (Below w.heap.size w (w.alloc (.cells #[.int .i64 5, .string ⟨s.toArray⟩, .string ⟨t.toArray⟩, .slice a m c, .int .i64 k] 36))) := b0
  have HX0 : Hid (_ = some _) := x0
  obtain ⟨post, hpost⟩ : ∃ post, post = fun e w' => DoP T w p (fs) (((N.filter fun q => q.1 != s).filter fun q => q.1 != t) ++ [(t, i)]) (Y) (n + 1) (st) e w' := ⟨_, rfl⟩
  rw [← hpost]
  have HPO : Hid (post = _) := hpost
  have HTT : Hid (∀ k, w.heap.size ≤ k → T k) := hT
  clear hpost hT
  obtain ⟨n0, n1⟩ := hn
  clear hbx x0 r0 b0 h
  go_enter Tryd.func22, Tryd.ntmps22
  go_upto_region 27 with fail
  go_cut [139] from 124 to 139 (fun x wx => x = .bool false ∧ ∃ q, wx = (w.alloc (.cells #[.int .i64 5, .string ⟨s.toArray⟩, .string ⟨t.toArray⟩, .slice a m c, .int .i64 k] 36)).drewN q)
  case first =>
    rcases hst with hst | hst
    · have g0 : decide (0 ≤ st) = false := decide_eq_false (by omega)
      clear hst
      go_quiet (fail)
      go_wp2_with fail
      go_meet
      case rel => exact ⟨rfl, nq, rfl⟩
    · have g1 : decide (st ≤ n) = false := decide_eq_false (by omega)
      by_cases h0 : 0 ≤ st
      · have g0 : decide (0 ≤ st) = true := decide_eq_true h0
        clear hst h0
        go_quiet (fail)
        go_wp2_with fail
        go_meet
        case rel => exact ⟨rfl, nq, rfl⟩
      · have g0 : decide (0 ≤ st) = false := decide_eq_false h0
        clear hst h0
        go_quiet (fail)
        go_wp2_with fail
        go_meet
        case rel => exact ⟨rfl, nq, rfl⟩
  case rest =>
    obtain ⟨rfl, nd, hw⟩ := hcut
    have HX1 : Hid (wc.heap[w.heap.size]? = some (.cells #[.int .i64 5, .string ⟨s.toArray⟩, .string ⟨t.toArray⟩, .slice a m c, .int .i64 k] 36)) := by rw [hw]; exact HX0.out
    have HR1 : Hid (Rk T wc p fs N Y n st) := by rw [hw]; exact HR0.out.below (below_drew (Below.refl _ _) nd)
    have HB1 : Hid (Below w.heap.size w wc) := by rw [hw]; exact below_drew HB0.out nd
    replace k0 : wc.cell? ⟨w.heap.size, 0, none⟩ = some (.int .i64 5) := by rw [hw]; exact k0
    replace k1 : wc.cell? ⟨w.heap.size, 1, none⟩ = some (.string ⟨s.toArray⟩) := by rw [hw]; exact k1
    replace k2 : wc.cell? ⟨w.heap.size, 2, none⟩ = some (.string ⟨t.toArray⟩) := by rw [hw]; exact k2
    replace k3 : wc.cell? ⟨w.heap.size, 3, none⟩ = some (.slice a m c) := by rw [hw]; exact k3
    replace k4 : wc.cell? ⟨w.heap.size, 4, none⟩ = some (.int .i64 k) := by rw [hw]; exact k4
    replace p3 : wc.cell? ⟨p, 3, none⟩ = some (.int .i64 n) := by rw [hw]; exact p3
    replace p4 : wc.cell? ⟨p, 4, none⟩ = some (.int .i64 st) := by rw [hw]; exact p4
    have NS := named_any s wc
    have NT := named_any t wc
    have FI := rFile_any s wc HR1.out hN
    clear hw HR0 HB0 HX0
    rw [ha] at NS
    have e1 : fkI N s = (i : Int) := by unfold fkI; rw [hi]
    rw [e1] at FI
    have g2 : (0 : Int) ≤ (i : Int) := by omega
    have g3 : ¬ (i : Int) < 0 := by omega
    have HI : Hid (fk N s = some i) := hi
    rw [hb2] at NT
    clear hb2
    clear ha hi e1
    go_wp2_with (first
      | (go_at_call 28; refine NS.mono ?_; clear NS; rintro e w1 ⟨rfl, hw1⟩; rw [hw1]; clear hw1 w1)
      | (go_at_call 29; refine FI.mono ?_; clear FI; rintro e w1 ⟨rfl, hw1⟩; rw [hw1]; clear hw1 w1)
      | (go_at_call 28; refine NT.mono ?_; rintro e w1 ⟨rfl, hw1⟩; rw [hw1]; clear hw1 w1))
    go_quiet (fail)
    have HR2 : Hid (Rk T (wc.drewN nq) p fs N Y n st) := HR1.out.below (below_drew (Below.refl _ _) nq)
    have HB2 : Hid (Below w.heap.size w (wc.drewN nq)) := below_drew HB1.out nq
    have HX2 : Hid ((wc.drewN nq).heap[w.heap.size]? = some (.cells #[.int .i64 5, .string ⟨s.toArray⟩, .string ⟨t.toArray⟩, .slice a m c, .int .i64 k] 36)) := HX1.out
    clear k0 k1 k2 k3 k4 p3 p4 HR1 HB1 HX1
    generalize wc.drewN nq = w2 at *
    obtain ⟨vf, vn, vy, hbx, R1, R2, R3, t1, t2, t3⟩ := HR2.out.box
    have p3 : w2.cell? ⟨p, 3, none⟩ = some (.int .i64 n) := Lib.cell_of_heap hbx 3
    have f3 : w2.frozen? ⟨p, 3, none⟩ = false := Lib.frozen_of_heap hbx 3
    have HR3 : Hid (Rk T (w2.setCell ⟨p, 3, none⟩ (.int .i64 (n + 1))) p fs N Y (n + 1) st) := (HR2.out.set hbx R1 R2 R3 t1 t2 t3).1 (n + 1)
    have HK3 : Hid (Kp T w (w2.setCell ⟨p, 3, none⟩ (.int .i64 (n + 1)))) := (Kp.of HB2.out).set 3 _ HR2.out.tp
    have HX3 : Hid ((w2.setCell ⟨p, 3, none⟩ (.int .i64 (n + 1))).heap[w.heap.size]? = some (.cells #[.int .i64 5, .string ⟨s.toArray⟩, .string ⟨t.toArray⟩, .slice a m c, .int .i64 k] 36)) := (Below.heap_setCell _ _ _ _ (cells_ne HX2.out hbx (by decide))).trans HX2.out
    clear HR2 HB2 HX2 hbx R1 R2 R3 t1 t2 t3
    go_upto_region 46 with fail
    clear p3 f3
    generalize w2.setCell ⟨p, 3, none⟩ (.int .i64 (n + 1)) = w3 at *
    obtain ⟨k0, k1, k2, k3, k4⟩ := wcells HX3.out
    obtain ⟨vf, vn, vy, hbx, R1, R2, R3, t1, t2, t3⟩ := HR3.out.box
    obtain ⟨an, cn, rfl⟩ := rowN_form R2
    have HCL : Hid (∀ W, Below w3.heap.size w3 W → W.cell? ⟨p, 1, none⟩ = some (.slice an N.length cn) ∧ W.cell? ⟨w.heap.size, 1, none⟩ = some (.string ⟨s.toArray⟩) ∧ W.cell? ⟨w.heap.size, 2, none⟩ = some (.string ⟨t.toArray⟩) ∧ W.frozen? ⟨p, 1, none⟩ = false) := fun W hW => by
      have bx := (hW.block p (lt_of_heap hbx)).trans hbx
      have xx := (hW.block _ (lt_of_heap HX3.out)).trans HX3.out
      exact ⟨Lib.cell_of_heap bx 1, Lib.cell_of_heap xx 1, Lib.cell_of_heap xx 2, Lib.frozen_of_heap bx 1⟩
    have hil : i < fs.length := HR3.out.nN _ (fk_mem HI.out)
    have HFIN : Hid (∀ W5 v5, RowN v5 (((N.filter fun q => q.1 != s).filter fun q => q.1 != t) ++ [(t, i)]) W5 → (∀ b, v5.ownBlock = some b → w3.heap.size ≤ b) → Below w3.heap.size w3 W5 → post (.returned (.int .i64 0)) (W5.setCell ⟨p, 1, none⟩ v5)) := fun W5 v5 rn hb b5 => by
      have r5 := HR3.out.below b5
      have bx5 := (b5.block p (lt_of_heap hbx)).trans hbx
      rw [HPO.out]
      have hs3 : w.heap.size ≤ w3.heap.size := HK3.out.size
      refine ⟨rfl, (HK3.out.trans (Kp.of b5)).set 1 _ r5.tp, (r5.set bx5 (own_below R1 b5 (Nat.le_refl _)) (own_below R2 b5 (Nat.le_refl _)) (own_below R3 b5 (Nat.le_refl _)) t1 t2 t3).2.2.2.1 _ _ rn (fun b e => HTT.out b (Nat.le_trans hs3 (hb b e))) (fun q hq => ?_)⟩
      rcases List.mem_append.1 hq with hq | hq
      · exact HR3.out.nN q (List.mem_filter.1 (List.mem_filter.1 hq).1).1
      · rw [List.mem_singleton.1 hq]; exact hil
    have WI := without_any s an cn N w3.drew (own_below R2 (Below.refl _ _).drew (Nat.le_refl _)) hN
    have HNN : Hid (N.length ≤ 1000) := hN
    clear R1 R2 R3 t1 t2 t3 HR3 HK3 HX3 hbx hN hil
    go_upto_region 59 with fail
    refine wp_region_noPanic ?_
    refine early_begin (S := fun W => Below w3.heap.size w3 W) (late := fun k => decide (7 ≤ k)) (by kernel_rfl) ?_
    have hHeld : Below w3.heap.size w3 w3.drew := (Below.refl _ _).drew
    refine ek 0 rfl ?_ (by intro wz hSw; obtain ⟨z0, z1, z2, z3⟩ := HCL.out wz hSw; go_simp; try with_reducible rfl)
    refine ek 1 rfl ?_ (by intro wz hSw; obtain ⟨z0, z1, z2, z3⟩ := HCL.out wz hSw; go_simp; try with_reducible rfl)
    refine ek 2 rfl ?_ (by intro wz hSw; obtain ⟨z0, z1, z2, z3⟩ := HCL.out wz hSw; go_simp; try with_reducible rfl)
    refine ek 3 rfl ?_ (by intro wz hSw; obtain ⟨z0, z1, z2, z3⟩ := HCL.out wz hSw; go_simp; try with_reducible rfl)
    refine ek 4 rfl ?_ (by intro wz hSw; obtain ⟨z0, z1, z2, z3⟩ := HCL.out wz hSw; go_simp; try with_reducible rfl)
    refine ek 5 rfl ?_ (by intro wz hSw; obtain ⟨z0, z1, z2, z3⟩ := HCL.out wz hSw; go_simp; try with_reducible rfl)
    refine es 6 rfl (fun K hK => ?_)
    go_simp
    go_at_call 35
    refine Calls.mono WI ?_
    rintro e w4 ⟨ay, cy, rfl, rn4, hb4, b4⟩
    replace b4 : Below w3.heap.size w3 w4 := (Below.refl _ _).drew.trans b4
    go_wp2_with fail
    refine hK.out _ _ (fun _ => b4) ?_
    clear hK K WI
    try simp only [Act.put, nm]
    refine es 7 rfl (fun K hK => ?_)
    go_simp
    go_wp2_with fail
    refine hK.out _ _ (fun h => absurd h (by decide)) ?_
    clear hK K
    try simp only [Act.put, nm]
    refine early_done (by kernel_rfl) ?_ _
    refine NoPanic.normal ?_
    obtain ⟨-, -, c2, -⟩ := HCL.out w4 b4
    have WJ := (without_any t ay cy (N.filter fun q => q.1 != s) w4 rn4 (by have := List.length_filter_le (fun q : Tx × Nat => q.1 != s) N; have := HNN.out; omega)).mono (R' := fun e w5 => ∃ az cz m, e = .returned (.slice az m cz) ∧ w5.cell? ⟨w.heap.size, 2, none⟩ = some (.string ⟨t.toArray⟩) ∧ ∃ ax cx mx w7, (Builtin.append_ #[28, 28] 28 #[.slice az m cz, .slice (some ⟨w5.heap.size, 0, none⟩) 1 1]).run Tryd.prog (w5.alloc (.cells #[.string ⟨t.toArray⟩, .int .i64 i] 64)) = .ok (.slice ax mx cx) w7 ∧ w7.cell? ⟨p, 1, none⟩ = some (.slice an N.length cn) ∧ w7.frozen? ⟨p, 1, none⟩ = false ∧ Hid (post (.returned (.int .i64 0)) (w7.setCell ⟨p, 1, none⟩ (.slice ax mx cx)))) (by
      rintro e w5 ⟨az, cz, rfl, rn5, hb5, b5⟩
      have b35 : Below w3.heap.size w3 w5 := b4.trans (b5.mono b4.size)
      have ba : Below w5.heap.size w5 (w5.alloc (.cells #[.string ⟨t.toArray⟩, .int .i64 i] 64)) := (Below.refl _ _).alloc (Nat.le_refl _) _
      obtain ⟨v7, w7, q1, q2, q3, q4⟩ := run_appN 28 _ (.slice az _ cz) t i _ (own_below rn5 ba (Nat.le_refl _)) (by have := List.length_filter_le (fun q : Tx × Nat => q.1 != s) N; have := List.length_filter_le (fun q : Tx × Nat => q.1 != t) (N.filter fun q => q.1 != s); have := HNN.out; omega) w5.heap.size (MapKept.heap_alloc _ _).1
      have b37 : Below w3.heap.size w3 w7 := (b35.trans (ba.mono b35.size)).grown q3 (Nat.le_trans b35.size ba.size) (fun j e => Nat.le_trans b4.size (hb5 j e))
      obtain ⟨a7, c7, rfl⟩ := rowN_form q2
      obtain ⟨y1, -, -, y4⟩ := HCL.out w7 b37
      exact ⟨az, cz, _, rfl, (HCL.out w5 b35).2.2.1, _, _, _, w7, q1, y1, y4, HFIN.out w7 _ q2 (fun b e => by
        rcases q4 with h | h
        · exact Nat.le_trans b4.size (hb5 b (h.symm.trans e))
        · rw [e] at h; obtain rfl := Option.some.inj h; exact Nat.le_trans b35.size ba.size) b37⟩)
    clear rn4 hb4 b4 HCL HFIN hHeld HNN
    go_wp2_with (first
      | (at_builtin; refine app_known rfl _ _ 28 rfl _ _ _ rfl rfl q1 ?_)
      | (go_at_call 35; refine WJ.mono ?_; clear WJ; rintro e w5 ⟨az, cz, mz, rfl, c5, ax, cx, mx, w7, q1, q2, q3, HEND⟩))
    exact HEND.out

set_option maxRecDepth 100000 in
set_option maxHeartbeats 8000000 in
theorem do_3 {T : Nat → Prop} {p : Nat} {fs : List FV} {N Y : List (Tx × Nat)} {n st : Int} (s t : Tx) (a : Option Addr) (m c : Nat) (k : Int) (w : World) (h : Rk T w p fs N Y n st) (hN : N.length ≤ 1000) (hT : ∀ k, w.heap.size ≤ k → T k) (hn : 0 ≤ n ∧ n < 1000000) (hst : st < 0 ∨ n < st) (ha : nameB s = true) {i : Nat} (hi : fk N s = some i) {q : FV} (hq : fs[i]? = some q) (hfl : fs.length ≤ 1000000) :
    Calls Tryd.prog 22 #[.pointer (some ⟨p, 0, none⟩), .agg #[.int .i64 3, .string ⟨s.toArray⟩, .string ⟨t.toArray⟩, .slice a m c, .int .i64 k]] w fun e w' => DoP T w p (fs.set i (q.1, q.2.1, q.2.1.length)) (N) (Y) (n + 1) (st) e w' := by
  have b0 : Below w.heap.size w (w.alloc (.cells #[.int .i64 3, .string ⟨s.toArray⟩, .string ⟨t.toArray⟩, .slice a m c, .int .i64 k] 36)) := (Below.refl _ _).alloc (Nat.le_refl _) _
  have r0 := h.below b0
  have x0 := (MapKept.heap_alloc w (.cells #[.int .i64 3, .string ⟨s.toArray⟩, .string ⟨t.toArray⟩, .slice a m c, .int .i64 k] 36)).1
  obtain ⟨vf, vn, vy, hbx, _⟩ := r0.box
  have k0 : (w.alloc (.cells #[.int .i64 3, .string ⟨s.toArray⟩, .string ⟨t.toArray⟩, .slice a m c, .int .i64 k] 36)).cell? ⟨w.heap.size, 0, none⟩ = some (.int .i64 3) := Lib.cell_of_heap x0 0
  have k1 : (w.alloc (.cells #[.int .i64 3, .string ⟨s.toArray⟩, .string ⟨t.toArray⟩, .slice a m c, .int .i64 k] 36)).cell? ⟨w.heap.size, 1, none⟩ = some (.string ⟨s.toArray⟩) := Lib.cell_of_heap x0 1
  have k2 : (w.alloc (.cells #[.int .i64 3, .string ⟨s.toArray⟩, .string ⟨t.toArray⟩, .slice a m c, .int .i64 k] 36)).cell? ⟨w.heap.size, 2, none⟩ = some (.string ⟨t.toArray⟩) := Lib.cell_of_heap x0 2
  have k3 : (w.alloc (.cells #[.int .i64 3, .string ⟨s.toArray⟩, .string ⟨t.toArray⟩, .slice a m c, .int .i64 k] 36)).cell? ⟨w.heap.size, 3, none⟩ = some (.slice a m c) := Lib.cell_of_heap x0 3
  have k4 : (w.alloc (.cells #[.int .i64 3, .string ⟨s.toArray⟩, .string ⟨t.toArray⟩, .slice a m c, .int .i64 k] 36)).cell? ⟨w.heap.size, 4, none⟩ = some (.int .i64 k) := Lib.cell_of_heap x0 4
  have p3 : (w.alloc (.cells #[.int .i64 3, .string ⟨s.toArray⟩, .string ⟨t.toArray⟩, .slice a m c, .int .i64 k] 36)).cell? ⟨p, 3, none⟩ = some (.int .i64 n) := Lib.cell_of_heap hbx 3
  have p4 : (w.alloc (.cells #[.int .i64 3, .string ⟨s.toArray⟩, .string ⟨t.toArray⟩, .slice a m c, .int .i64 k] 36)).cell? ⟨p, 4, none⟩ = some (.int .i64 st) := Lib.cell_of_heap hbx 4
  have HR0 : Hid (Rk T (w.alloc (.cells #[.int .i64 3, .string ⟨s.toArray⟩, .string ⟨t.toArray⟩, .slice a m c, .int .i64 k] 36)) p fs N Y n st) := r0
  have HB0 : Hid (Below w.heap.size w (w.alloc (.cells #[.int .i64 3, .string ⟨s.toArray⟩, .string ⟨t.toArray⟩, .slice a m c, .int .i64 k] 36))) := b0
  have HX0 : Hid (_ = some _) := x0
  obtain ⟨post, hpost⟩ : ∃ post, post = fun e w' => DoP T w p (fs.set i (q.1, q.2.1, q.2.1.length)) (N) (Y) (n + 1) (st) e w' := ⟨_, rfl⟩
  rw [← hpost]
  have HPO : Hid (post = _) := hpost
  have HTT : Hid (∀ k, w.heap.size ≤ k → T k) := hT
  clear hpost hT
  obtain ⟨n0, n1⟩ := hn
  clear hbx x0 r0 b0 h
  go_enter Tryd.func22, Tryd.ntmps22
  go_upto_region 27 with fail
  go_cut [139] from 124 to 139 (fun x wx => x = .bool false ∧ ∃ q, wx = (w.alloc (.cells #[.int .i64 3, .string ⟨s.toArray⟩, .string ⟨t.toArray⟩, .slice a m c, .int .i64 k] 36)).drewN q)
  case first =>
    rcases hst with hst | hst
    · have g0 : decide (0 ≤ st) = false := decide_eq_false (by omega)
      clear hst
      go_quiet (fail)
      go_wp2_with fail
      go_meet
      case rel => exact ⟨rfl, nq, rfl⟩
    · have g1 : decide (st ≤ n) = false := decide_eq_false (by omega)
      by_cases h0 : 0 ≤ st
      · have g0 : decide (0 ≤ st) = true := decide_eq_true h0
        clear hst h0
        go_quiet (fail)
        go_wp2_with fail
        go_meet
        case rel => exact ⟨rfl, nq, rfl⟩
      · have g0 : decide (0 ≤ st) = false := decide_eq_false h0
        clear hst h0
        go_quiet (fail)
        go_wp2_with fail
        go_meet
        case rel => exact ⟨rfl, nq, rfl⟩
  case rest =>
    obtain ⟨rfl, nd, hw⟩ := hcut
    have HX1 : Hid (wc.heap[w.heap.size]? = some (.cells #[.int .i64 3, .string ⟨s.toArray⟩, .string ⟨t.toArray⟩, .slice a m c, .int .i64 k] 36)) := by rw [hw]; exact HX0.out
    have HR1 : Hid (Rk T wc p fs N Y n st) := by rw [hw]; exact HR0.out.below (below_drew (Below.refl _ _) nd)
    have HB1 : Hid (Below w.heap.size w wc) := by rw [hw]; exact below_drew HB0.out nd
    replace k0 : wc.cell? ⟨w.heap.size, 0, none⟩ = some (.int .i64 3) := by rw [hw]; exact k0
    replace k1 : wc.cell? ⟨w.heap.size, 1, none⟩ = some (.string ⟨s.toArray⟩) := by rw [hw]; exact k1
    replace k2 : wc.cell? ⟨w.heap.size, 2, none⟩ = some (.string ⟨t.toArray⟩) := by rw [hw]; exact k2
    replace k3 : wc.cell? ⟨w.heap.size, 3, none⟩ = some (.slice a m c) := by rw [hw]; exact k3
    replace k4 : wc.cell? ⟨w.heap.size, 4, none⟩ = some (.int .i64 k) := by rw [hw]; exact k4
    replace p3 : wc.cell? ⟨p, 3, none⟩ = some (.int .i64 n) := by rw [hw]; exact p3
    replace p4 : wc.cell? ⟨p, 4, none⟩ = some (.int .i64 st) := by rw [hw]; exact p4
    have NS := named_any s wc
    have NT := named_any t wc
    have FI := rFile_any s wc HR1.out hN
    clear hN hw HR0 HB0 HX0
    rw [ha] at NS
    have e1 : fkI N s = (i : Int) := by unfold fkI; rw [hi]
    rw [e1] at FI
    have g2 : (0 : Int) ≤ (i : Int) := by omega
    have g3 : ¬ (i : Int) < 0 := by omega
    have HI : Hid (fk N s = some i) := hi
    clear NT
    clear ha hi e1
    go_wp2_with (first
      | (go_at_call 28; refine NS.mono ?_; clear NS; rintro e w1 ⟨rfl, hw1⟩; rw [hw1]; clear hw1 w1)
      | (go_at_call 29; refine FI.mono ?_; clear FI; rintro e w1 ⟨rfl, hw1⟩; rw [hw1]; clear hw1 w1)
      | (go_at_call 28; refine NT.mono ?_; rintro e w1 ⟨rfl, hw1⟩; rw [hw1]; clear hw1 w1))
    go_quiet (fail)
    have HR2 : Hid (Rk T (wc.drewN nq) p fs N Y n st) := HR1.out.below (below_drew (Below.refl _ _) nq)
    have HB2 : Hid (Below w.heap.size w (wc.drewN nq)) := below_drew HB1.out nq
    have HX2 : Hid ((wc.drewN nq).heap[w.heap.size]? = some (.cells #[.int .i64 3, .string ⟨s.toArray⟩, .string ⟨t.toArray⟩, .slice a m c, .int .i64 k] 36)) := HX1.out
    clear k0 k1 k2 k3 k4 p3 p4 HR1 HB1 HX1
    generalize wc.drewN nq = w2 at *
    obtain ⟨vf, vn, vy, hbx, R1, R2, R3, t1, t2, t3⟩ := HR2.out.box
    have p3 : w2.cell? ⟨p, 3, none⟩ = some (.int .i64 n) := Lib.cell_of_heap hbx 3
    have f3 : w2.frozen? ⟨p, 3, none⟩ = false := Lib.frozen_of_heap hbx 3
    have HR3 : Hid (Rk T (w2.setCell ⟨p, 3, none⟩ (.int .i64 (n + 1))) p fs N Y (n + 1) st) := (HR2.out.set hbx R1 R2 R3 t1 t2 t3).1 (n + 1)
    have HK3 : Hid (Kp T w (w2.setCell ⟨p, 3, none⟩ (.int .i64 (n + 1)))) := (Kp.of HB2.out).set 3 _ HR2.out.tp
    have HX3 : Hid ((w2.setCell ⟨p, 3, none⟩ (.int .i64 (n + 1))).heap[w.heap.size]? = some (.cells #[.int .i64 3, .string ⟨s.toArray⟩, .string ⟨t.toArray⟩, .slice a m c, .int .i64 k] 36)) := (Below.heap_setCell _ _ _ _ (cells_ne HX2.out hbx (by decide))).trans HX2.out
    clear HR2 HB2 HX2 hbx R1 R2 R3 t1 t2 t3
    go_upto_region 46 with fail
    clear p3 f3
    generalize w2.setCell ⟨p, 3, none⟩ (.int .i64 (n + 1)) = w3 at *
    obtain ⟨k0, k1, k2, k3, k4⟩ := wcells HX3.out
    obtain ⟨vf, vn, vy, hbx, R1, R2, R3, t1, t2, t3⟩ := HR3.out.box
    obtain ⟨af, cf, rfl⟩ := rowF_form R1
    obtain ⟨vi, bi, si⟩ := q
    obtain ⟨bf, rfl, d0, d1⟩ := rowF_get R1 hq
    have hfi := HR3.out.fi _ (List.mem_of_getElem? hq)
    obtain ⟨ai, ci, e5⟩ : ∃ a c, vi = .slice a bi.length c := row_form hfi.1
    subst e5
    have hil : i < fs.length := (List.getElem?_eq_some_iff.1 hq).1
    have hbf : ∃ cur, w3.heap[bf]? = some (.cells cur 74) := own_block R1 rfl
    obtain ⟨cur, hcur⟩ := hbf
    have HCL : Hid (∀ W, Below w3.heap.size w3 W → W.cell? ⟨p, 0, none⟩ = some (.slice (some ⟨bf, 0, none⟩) fs.length cf) ∧ W.cell? ⟨bf, i * 2, none⟩ = some (.slice ai bi.length ci) ∧ W.cell? ⟨bf, i * 2 + 1, none⟩ = some (.int .i64 si) ∧ W.frozen? ⟨bf, i * 2 + 1, none⟩ = false) := fun W hW => by
      have bx := (hW.block p (lt_of_heap hbx)).trans hbx
      have hc' := (hW.block bf (lt_of_heap hcur)).trans hcur
      exact ⟨Lib.cell_of_heap bx 0, (World.cell?_of_block (w := w3) (hW.block bf (lt_of_heap hcur))).trans d0, (World.cell?_of_block (w := w3) (hW.block bf (lt_of_heap hcur))).trans d1, Lib.frozen_of_heap hc' _⟩
    have HEND : Hid (post (.returned (.int .i64 0)) (w3.drew.setCell ⟨bf, i * 2 + 1, none⟩ (.int .i64 bi.length))) := by
      rw [HPO.out]
      have b4 : Below w3.heap.size w3 w3.drew := (Below.refl _ _).drew
      have R1' : RowFs (.slice (some ⟨bf, 0, none⟩) fs.length cf) fs w3.drew := own_below R1 b4 (Nat.le_refl _)
      exact ⟨rfl, (HK3.out.trans (Kp.of b4)).set _ _ (t1 bf rfl), (HR3.out.below b4).setF ((b4.block p (lt_of_heap hbx)).trans hbx) R1' (own_below R2 b4 (Nat.le_refl _)) (own_below R3 b4 (Nat.le_refl _)) t1 t2 t3 hq 1 (by decide) (q' := (.slice ai bi.length ci, bi, bi.length)) rfl (own_below hfi.1 b4 (Nat.le_refl _)) ⟨hfi.2.1, Nat.le_refl _, hfi.2.2.2⟩⟩
    have g4 : (i : Int) < (fs.length : Int) := by omega
    have g5 : (fs.length : Int) ≤ 1000000 := by omega
    clear R1 R2 R3 t1 t2 t3 HR3 HK3 HX3 hbx hfi d0 d1 hcur hq hfl HI
    generalize fs.length = L at *
    go_upto_region 55 with fail
    refine wp_region_noPanic ?_
    refine early_begin (S := fun W => Below w3.heap.size w3 W) (late := fun k => decide (14 ≤ k)) (by kernel_rfl) ?_
    have hHeld : Below w3.heap.size w3 w3.drew := (Below.refl _ _).drew
    refine ek 0 rfl ?_ (by intro wz hSw; obtain ⟨z0, z1, z2, z3⟩ := HCL.out wz hSw; go_simp; try with_reducible rfl)
    refine ek 1 rfl ?_ (by intro wz hSw; obtain ⟨z0, z1, z2, z3⟩ := HCL.out wz hSw; go_simp; try with_reducible rfl)
    refine ek 2 rfl ?_ (by intro wz hSw; obtain ⟨z0, z1, z2, z3⟩ := HCL.out wz hSw; go_simp; try with_reducible rfl)
    refine ek 3 rfl ?_ (by intro wz hSw; obtain ⟨z0, z1, z2, z3⟩ := HCL.out wz hSw; go_simp; try with_reducible rfl)
    refine ek 4 rfl ?_ (by intro wz hSw; obtain ⟨z0, z1, z2, z3⟩ := HCL.out wz hSw; go_simp; try with_reducible rfl)
    refine ek 5 rfl ?_ (by intro wz hSw; obtain ⟨z0, z1, z2, z3⟩ := HCL.out wz hSw; go_simp; try with_reducible rfl)
    refine ek 6 rfl ?_ (by intro wz hSw; obtain ⟨z0, z1, z2, z3⟩ := HCL.out wz hSw; go_simp; try with_reducible rfl)
    refine ek 7 rfl ?_ (by intro wz hSw; obtain ⟨z0, z1, z2, z3⟩ := HCL.out wz hSw; go_simp; try with_reducible rfl)
    refine ek 8 rfl ?_ (by intro wz hSw; obtain ⟨z0, z1, z2, z3⟩ := HCL.out wz hSw; go_simp; try with_reducible rfl)
    refine ek 9 rfl ?_ (by intro wz hSw; obtain ⟨z0, z1, z2, z3⟩ := HCL.out wz hSw; go_simp; try with_reducible rfl)
    refine ek 10 rfl ?_ (by intro wz hSw; obtain ⟨z0, z1, z2, z3⟩ := HCL.out wz hSw; go_simp; try with_reducible rfl)
    refine ek 11 rfl ?_ (by intro wz hSw; obtain ⟨z0, z1, z2, z3⟩ := HCL.out wz hSw; go_simp; try with_reducible rfl)
    refine ek 12 rfl ?_ (by intro wz hSw; obtain ⟨z0, z1, z2, z3⟩ := HCL.out wz hSw; go_simp; try with_reducible rfl)
    refine ek 13 rfl ?_ (by intro wz hSw; obtain ⟨z0, z1, z2, z3⟩ := HCL.out wz hSw; go_simp; try with_reducible rfl)
    obtain ⟨z0, z1, z2, z3⟩ := HCL.out w3.drew hHeld
    refine es 14 rfl (fun K hK => ?_)
    go_simp
    go_wp2_with fail
    refine hK.out _ _ (fun h => absurd h (by decide)) ?_
    clear hK K
    try simp only [Act.put, nm]
    refine es 15 rfl (fun K hK => ?_)
    go_simp
    go_wp2_with fail
    refine hK.out _ _ (fun h => absurd h (by decide)) ?_
    clear hK K
    try simp only [Act.put, nm]
    refine es 16 rfl (fun K hK => ?_)
    go_simp
    go_wp2_with fail
    refine hK.out _ _ (fun h => absurd h (by decide)) ?_
    clear hK K
    try simp only [Act.put, nm]
    refine early_done (by kernel_rfl) ?_ _
    refine NoPanic.normal ?_
    clear HCL hHeld z0 z1 z2 z3
    go_wp2
    exact HEND.out

set_option maxRecDepth 100000 in
set_option maxHeartbeats 8000000 in
theorem do_full {T : Nat → Prop} {p : Nat} {fs : List FV} {N Y : List (Tx × Nat)} {n st : Int} (s t : Tx) (a : Option Addr) (m c : Nat) (k : Int) (w : World) (h : Rk T w p fs N Y n st) (hN : N.length ≤ 1000) (hst : st < 0 ∨ n < st) {l : Tx} (hv : ArgB w (.slice a m c) l) (ha : nameB s = true) {i : Nat} (hi : fk N s = some i) {q : FV} (hq : fs[i]? = some q) (hfl : fs.length ≤ 1000000) (hl : 60000 < q.2.1.length + l.length) :
    Calls Tryd.prog 22 #[.pointer (some ⟨p, 0, none⟩), .agg #[.int .i64 2, .string ⟨s.toArray⟩, .string ⟨t.toArray⟩, .slice a m c, .int .i64 k]] w fun e w' => e = .returned (.int .i64 4) ∧ Below w.heap.size w w' := by
  have HML : Hid (m = l.length) := by obtain ⟨_, _, e, _⟩ := hv.1; exact (Value.slice.inj e).2.1
  have b0 : Below w.heap.size w (w.alloc (.cells #[.int .i64 2, .string ⟨s.toArray⟩, .string ⟨t.toArray⟩, .slice a m c, .int .i64 k] 36)) := (Below.refl _ _).alloc (Nat.le_refl _) _
  have r0 := h.below b0
  have x0 := (MapKept.heap_alloc w (.cells #[.int .i64 2, .string ⟨s.toArray⟩, .string ⟨t.toArray⟩, .slice a m c, .int .i64 k] 36)).1
  obtain ⟨vf, vn, vy, hbx, _⟩ := r0.box
  have k0 : (w.alloc (.cells #[.int .i64 2, .string ⟨s.toArray⟩, .string ⟨t.toArray⟩, .slice a m c, .int .i64 k] 36)).cell? ⟨w.heap.size, 0, none⟩ = some (.int .i64 2) := Lib.cell_of_heap x0 0
  have k1 : (w.alloc (.cells #[.int .i64 2, .string ⟨s.toArray⟩, .string ⟨t.toArray⟩, .slice a m c, .int .i64 k] 36)).cell? ⟨w.heap.size, 1, none⟩ = some (.string ⟨s.toArray⟩) := Lib.cell_of_heap x0 1
  have k2 : (w.alloc (.cells #[.int .i64 2, .string ⟨s.toArray⟩, .string ⟨t.toArray⟩, .slice a m c, .int .i64 k] 36)).cell? ⟨w.heap.size, 2, none⟩ = some (.string ⟨t.toArray⟩) := Lib.cell_of_heap x0 2
  have k3 : (w.alloc (.cells #[.int .i64 2, .string ⟨s.toArray⟩, .string ⟨t.toArray⟩, .slice a m c, .int .i64 k] 36)).cell? ⟨w.heap.size, 3, none⟩ = some (.slice a m c) := Lib.cell_of_heap x0 3
  have k4 : (w.alloc (.cells #[.int .i64 2, .string ⟨s.toArray⟩, .string ⟨t.toArray⟩, .slice a m c, .int .i64 k] 36)).cell? ⟨w.heap.size, 4, none⟩ = some (.int .i64 k) := Lib.cell_of_heap x0 4
  have p3 : (w.alloc (.cells #[.int .i64 2, .string ⟨s.toArray⟩, .string ⟨t.toArray⟩, .slice a m c, .int .i64 k] 36)).cell? ⟨p, 3, none⟩ = some (.int .i64 n) := Lib.cell_of_heap hbx 3
  have p4 : (w.alloc (.cells #[.int .i64 2, .string ⟨s.toArray⟩, .string ⟨t.toArray⟩, .slice a m c, .int .i64 k] 36)).cell? ⟨p, 4, none⟩ = some (.int .i64 st) := Lib.cell_of_heap hbx 4
  have HR0 : Hid (Rk T (w.alloc (.cells #[.int .i64 2, .string ⟨s.toArray⟩, .string ⟨t.toArray⟩, .slice a m c, .int .i64 k] 36)) p fs N Y n st) := r0
  have HB0 : Hid (Below w.heap.size w (w.alloc (.cells #[.int .i64 2, .string ⟨s.toArray⟩, .string ⟨t.toArray⟩, .slice a m c, .int .i64 k] 36))) := b0
  clear hbx x0 r0 b0 h
  go_enter Tryd.func22, Tryd.ntmps22
  go_upto_region 27 with fail
  go_cut [139] from 124 to 139 (fun x wx => x = .bool false ∧ ∃ q, wx = (w.alloc (.cells #[.int .i64 2, .string ⟨s.toArray⟩, .string ⟨t.toArray⟩, .slice a m c, .int .i64 k] 36)).drewN q)
  case first =>
    rcases hst with hst | hst
    · have g0 : decide (0 ≤ st) = false := decide_eq_false (by omega)
      clear hst
      go_quiet (fail)
      go_wp2_with fail
      go_meet
      case rel => exact ⟨rfl, nq, rfl⟩
    · have g1 : decide (st ≤ n) = false := decide_eq_false (by omega)
      by_cases h0 : 0 ≤ st
      · have g0 : decide (0 ≤ st) = true := decide_eq_true h0
        clear hst h0
        go_quiet (fail)
        go_wp2_with fail
        go_meet
        case rel => exact ⟨rfl, nq, rfl⟩
      · have g0 : decide (0 ≤ st) = false := decide_eq_false h0
        clear hst h0
        go_quiet (fail)
        go_wp2_with fail
        go_meet
        case rel => exact ⟨rfl, nq, rfl⟩
  case rest =>
    obtain ⟨rfl, nd, hw⟩ := hcut
    have HR1 : Hid (Rk T wc p fs N Y n st) := by rw [hw]; exact HR0.out.below (below_drew (Below.refl _ _) nd)
    have HB1 : Hid (Below w.heap.size w wc) := by rw [hw]; exact below_drew HB0.out nd
    replace k0 : wc.cell? ⟨w.heap.size, 0, none⟩ = some (.int .i64 2) := by rw [hw]; exact k0
    replace k1 : wc.cell? ⟨w.heap.size, 1, none⟩ = some (.string ⟨s.toArray⟩) := by rw [hw]; exact k1
    replace k2 : wc.cell? ⟨w.heap.size, 2, none⟩ = some (.string ⟨t.toArray⟩) := by rw [hw]; exact k2
    replace k3 : wc.cell? ⟨w.heap.size, 3, none⟩ = some (.slice a m c) := by rw [hw]; exact k3
    replace k4 : wc.cell? ⟨w.heap.size, 4, none⟩ = some (.int .i64 k) := by rw [hw]; exact k4
    replace p3 : wc.cell? ⟨p, 3, none⟩ = some (.int .i64 n) := by rw [hw]; exact p3
    replace p4 : wc.cell? ⟨p, 4, none⟩ = some (.int .i64 st) := by rw [hw]; exact p4
    have NS := named_any s wc
    have NT := named_any t wc
    have FI := rFile_any s wc HR1.out hN
    clear hw HR0 HB0 hN
    rw [ha] at NS
    have e1 : fkI N s = (i : Int) := by unfold fkI; rw [hi]
    rw [e1] at FI
    have g2 : (0 : Int) ≤ (i : Int) := by omega
    have g3 : ¬ (i : Int) < 0 := by omega
    have HI : Hid (fk N s = some i) := hi
    clear NT
    clear ha hi e1
    obtain ⟨vf, vn, vy, hbx, R1, R2, R3, t1, t2, t3⟩ := HR1.out.box
    obtain ⟨af, cf, rfl⟩ := rowF_form R1
    obtain ⟨vi, bi, si⟩ := q
    obtain ⟨bf, rfl, d0, d1⟩ := rowF_get R1 hq
    have hfi := HR1.out.fi _ (List.mem_of_getElem? hq)
    obtain ⟨ai, ci, e5⟩ : ∃ a c, vi = .slice a bi.length c := row_form hfi.1
    subst e5
    have p0 : wc.cell? ⟨p, 0, none⟩ = some (.slice (some ⟨bf, 0, none⟩) fs.length cf) := Lib.cell_of_heap hbx 0
    have hil : i < fs.length := (List.getElem?_eq_some_iff.1 hq).1
    have g4 : (i : Int) < (fs.length : Int) := by omega
    have g5 : (fs.length : Int) ≤ 1000000 := by omega
    have g6 : (bi.length : Int) ≤ 60000 := by have := hfi.2.1; dsimp only at this; omega
    have g7 : (0 : Int) ≤ (bi.length : Int) := by omega
    have g8 : (60000 : Int) - (bi.length : Int) < (m : Int) := by have := HML.out; dsimp only at hl; omega
    clear hbx R1 R2 R3 t1 t2 t3 hfi hq hl hv hfl HI d1 hil
    generalize fs.length = L at *
    generalize bi.length = J at *
    go_wp2_with (first
      | (go_at_call 28; refine NS.mono ?_; clear NS; rintro e w1 ⟨rfl, hw1⟩; rw [hw1]; clear hw1 w1)
      | (go_at_call 29; refine FI.mono ?_; clear FI; rintro e w1 ⟨rfl, hw1⟩; rw [hw1]; clear hw1 w1)
      | (go_at_call 28; refine NT.mono ?_; rintro e w1 ⟨rfl, hw1⟩; rw [hw1]; clear hw1 w1))
    go_quiet (fail)
    go_wp2
    go_ret
    exact ⟨rfl, below_drew HB1.out _⟩

set_option maxRecDepth 100000 in
set_option maxHeartbeats 8000000 in
theorem do_2 {T : Nat → Prop} {p : Nat} {fs : List FV} {N Y : List (Tx × Nat)} {n st : Int} (s t : Tx) (a : Option Addr) (m c : Nat) (k : Int) (w : World) (h : Rk T w p fs N Y n st) (hN : N.length ≤ 1000) (hT : ∀ k, w.heap.size ≤ k → T k) (hn : 0 ≤ n ∧ n < 1000000) (hst : st < 0 ∨ n < st) {l : Tx} (hv : ArgB w (.slice a m c) l) (ha : nameB s = true) {i : Nat} (hi : fk N s = some i) {q : FV} (hq : fs[i]? = some q) (hfl : fs.length ≤ 1000000) (hat : l ≠ [] → ∀ b o, a = some ⟨b, o, none⟩ → ¬ T b) (hl : q.2.1.length + l.length ≤ 60000) :
    Calls Tryd.prog 22 #[.pointer (some ⟨p, 0, none⟩), .agg #[.int .i64 2, .string ⟨s.toArray⟩, .string ⟨t.toArray⟩, .slice a m c, .int .i64 k]] w fun e w' => ∃ u, DoP T w p (fs.set i (u, q.2.1 ++ l, q.2.2)) N Y (n + 1) st e w' := by
  have HML : Hid (m = l.length) := by obtain ⟨_, _, e, _⟩ := hv.1; exact (Value.slice.inj e).2.1
  have HAT : Hid (l ≠ [] → ∀ b o, a = some ⟨b, o, none⟩ → ¬ T b) := hat
  clear hat
  have b0 : Below w.heap.size w (w.alloc (.cells #[.int .i64 2, .string ⟨s.toArray⟩, .string ⟨t.toArray⟩, .slice a m c, .int .i64 k] 36)) := (Below.refl _ _).alloc (Nat.le_refl _) _
  have r0 := h.below b0
  have x0 := (MapKept.heap_alloc w (.cells #[.int .i64 2, .string ⟨s.toArray⟩, .string ⟨t.toArray⟩, .slice a m c, .int .i64 k] 36)).1
  obtain ⟨vf, vn, vy, hbx, _⟩ := r0.box
  have k0 : (w.alloc (.cells #[.int .i64 2, .string ⟨s.toArray⟩, .string ⟨t.toArray⟩, .slice a m c, .int .i64 k] 36)).cell? ⟨w.heap.size, 0, none⟩ = some (.int .i64 2) := Lib.cell_of_heap x0 0
  have k1 : (w.alloc (.cells #[.int .i64 2, .string ⟨s.toArray⟩, .string ⟨t.toArray⟩, .slice a m c, .int .i64 k] 36)).cell? ⟨w.heap.size, 1, none⟩ = some (.string ⟨s.toArray⟩) := Lib.cell_of_heap x0 1
  have k2 : (w.alloc (.cells #[.int .i64 2, .string ⟨s.toArray⟩, .string ⟨t.toArray⟩, .slice a m c, .int .i64 k] 36)).cell? ⟨w.heap.size, 2, none⟩ = some (.string ⟨t.toArray⟩) := Lib.cell_of_heap x0 2
  have k3 : (w.alloc (.cells #[.int .i64 2, .string ⟨s.toArray⟩, .string ⟨t.toArray⟩, .slice a m c, .int .i64 k] 36)).cell? ⟨w.heap.size, 3, none⟩ = some (.slice a m c) := Lib.cell_of_heap x0 3
  have k4 : (w.alloc (.cells #[.int .i64 2, .string ⟨s.toArray⟩, .string ⟨t.toArray⟩, .slice a m c, .int .i64 k] 36)).cell? ⟨w.heap.size, 4, none⟩ = some (.int .i64 k) := Lib.cell_of_heap x0 4
  have p3 : (w.alloc (.cells #[.int .i64 2, .string ⟨s.toArray⟩, .string ⟨t.toArray⟩, .slice a m c, .int .i64 k] 36)).cell? ⟨p, 3, none⟩ = some (.int .i64 n) := Lib.cell_of_heap hbx 3
  have p4 : (w.alloc (.cells #[.int .i64 2, .string ⟨s.toArray⟩, .string ⟨t.toArray⟩, .slice a m c, .int .i64 k] 36)).cell? ⟨p, 4, none⟩ = some (.int .i64 st) := Lib.cell_of_heap hbx 4
  have HR0 : Hid (Rk T (w.alloc (.cells #[.int .i64 2, .string ⟨s.toArray⟩, .string ⟨t.toArray⟩, .slice a m c, .int .i64 k] 36)) p fs N Y n st) := r0
  have HB0 : Hid (Below w.heap.size w (w.alloc (.cells #[.int .i64 2, .string ⟨s.toArray⟩, .string ⟨t.toArray⟩, .slice a m c, .int .i64 k] 36))) := b0
  have HX0 : Hid (_ = some _) := x0
  obtain ⟨post, hpost⟩ : ∃ post, post = fun e w' => ∃ u, DoP T w p (fs.set i (u, q.2.1 ++ l, q.2.2)) N Y (n + 1) st e w' := ⟨_, rfl⟩
  rw [← hpost]
  have HPO : Hid (post = _) := hpost
  have HTT : Hid (∀ k, w.heap.size ≤ k → T k) := hT
  clear hpost hT
  obtain ⟨n0, n1⟩ := hn
  clear hbx x0 r0 b0 h
  go_enter Tryd.func22, Tryd.ntmps22
  go_upto_region 27 with fail
  go_cut [139] from 124 to 139 (fun x wx => x = .bool false ∧ ∃ q, wx = (w.alloc (.cells #[.int .i64 2, .string ⟨s.toArray⟩, .string ⟨t.toArray⟩, .slice a m c, .int .i64 k] 36)).drewN q)
  case first =>
    rcases hst with hst | hst
    · have g0 : decide (0 ≤ st) = false := decide_eq_false (by omega)
      clear hst
      go_quiet (fail)
      go_wp2_with fail
      go_meet
      case rel => exact ⟨rfl, nq, rfl⟩
    · have g1 : decide (st ≤ n) = false := decide_eq_false (by omega)
      by_cases h0 : 0 ≤ st
      · have g0 : decide (0 ≤ st) = true := decide_eq_true h0
        clear hst h0
        go_quiet (fail)
        go_wp2_with fail
        go_meet
        case rel => exact ⟨rfl, nq, rfl⟩
      · have g0 : decide (0 ≤ st) = false := decide_eq_false h0
        clear hst h0
        go_quiet (fail)
        go_wp2_with fail
        go_meet
        case rel => exact ⟨rfl, nq, rfl⟩
  case rest =>
    obtain ⟨rfl, nd, hw⟩ := hcut
    have HX1 : Hid (wc.heap[w.heap.size]? = some (.cells #[.int .i64 2, .string ⟨s.toArray⟩, .string ⟨t.toArray⟩, .slice a m c, .int .i64 k] 36)) := by rw [hw]; exact HX0.out
    have HR1 : Hid (Rk T wc p fs N Y n st) := by rw [hw]; exact HR0.out.below (below_drew (Below.refl _ _) nd)
    have HB1 : Hid (Below w.heap.size w wc) := by rw [hw]; exact below_drew HB0.out nd
    replace k0 : wc.cell? ⟨w.heap.size, 0, none⟩ = some (.int .i64 2) := by rw [hw]; exact k0
    replace k1 : wc.cell? ⟨w.heap.size, 1, none⟩ = some (.string ⟨s.toArray⟩) := by rw [hw]; exact k1
    replace k2 : wc.cell? ⟨w.heap.size, 2, none⟩ = some (.string ⟨t.toArray⟩) := by rw [hw]; exact k2
    replace k3 : wc.cell? ⟨w.heap.size, 3, none⟩ = some (.slice a m c) := by rw [hw]; exact k3
    replace k4 : wc.cell? ⟨w.heap.size, 4, none⟩ = some (.int .i64 k) := by rw [hw]; exact k4
    replace p3 : wc.cell? ⟨p, 3, none⟩ = some (.int .i64 n) := by rw [hw]; exact p3
    replace p4 : wc.cell? ⟨p, 4, none⟩ = some (.int .i64 st) := by rw [hw]; exact p4
    have NS := named_any s wc
    have NT := named_any t wc
    have FI := rFile_any s wc HR1.out hN
    clear hN hw HR0 HB0 HX0
    rw [ha] at NS
    have e1 : fkI N s = (i : Int) := by unfold fkI; rw [hi]
    rw [e1] at FI
    have g2 : (0 : Int) ≤ (i : Int) := by omega
    have g3 : ¬ (i : Int) < 0 := by omega
    have HI : Hid (fk N s = some i) := hi
    clear NT
    clear ha hi e1
    obtain ⟨vf, vn, vy, hbx, R1, R2, R3, t1, t2, t3⟩ := HR1.out.box
    obtain ⟨af, cf, rfl⟩ := rowF_form R1
    obtain ⟨vi, bi, si⟩ := q
    obtain ⟨bf, rfl, d0, d1⟩ := rowF_get R1 hq
    have hfi := HR1.out.fi _ (List.mem_of_getElem? hq)
    obtain ⟨ai, ci, e5⟩ : ∃ a c, vi = .slice a bi.length c := row_form hfi.1
    subst e5
    have p0 : wc.cell? ⟨p, 0, none⟩ = some (.slice (some ⟨bf, 0, none⟩) fs.length cf) := Lib.cell_of_heap hbx 0
    have hil : i < fs.length := (List.getElem?_eq_some_iff.1 hq).1
    have g4 : (i : Int) < (fs.length : Int) := by omega
    have g5 : (fs.length : Int) ≤ 1000000 := by omega
    have g6 : (bi.length : Int) ≤ 60000 := by have := hfi.2.1; dsimp only at this; omega
    have g7 : (0 : Int) ≤ (bi.length : Int) := by omega
    have g8 : ¬ (60000 : Int) - (bi.length : Int) < (m : Int) := by have := HML.out; dsimp only at hl; omega
    have HQ : Hid (fs[i]? = some (.slice ai bi.length ci, bi, si) ∧ bi.length + l.length ≤ 60000 ∧ ArgB w (.slice a m c) l ∧ m = l.length) := ⟨hq, hl, hv, HML.out⟩
    clear hbx R1 R2 R3 t1 t2 t3 hfi hq hl hv hfl HI d1 hil
    go_wp2_with (first
      | (go_at_call 28; refine NS.mono ?_; clear NS; rintro e w1 ⟨rfl, hw1⟩; rw [hw1]; clear hw1 w1)
      | (go_at_call 29; refine FI.mono ?_; clear FI; rintro e w1 ⟨rfl, hw1⟩; rw [hw1]; clear hw1 w1)
      | (go_at_call 28; refine NT.mono ?_; rintro e w1 ⟨rfl, hw1⟩; rw [hw1]; clear hw1 w1))
    go_quiet (fail)
    clear p0 d0
    have HR2 : Hid (Rk T (wc.drewN nq) p fs N Y n st) := HR1.out.below (below_drew (Below.refl _ _) nq)
    have HB2 : Hid (Below w.heap.size w (wc.drewN nq)) := below_drew HB1.out nq
    have HX2 : Hid ((wc.drewN nq).heap[w.heap.size]? = some (.cells #[.int .i64 2, .string ⟨s.toArray⟩, .string ⟨t.toArray⟩, .slice a m c, .int .i64 k] 36)) := HX1.out
    clear k0 k1 k2 k3 k4 p3 p4 HR1 HB1 HX1
    generalize wc.drewN nq = w2 at *
    obtain ⟨vf, vn, vy, hbx, R1, R2, R3, t1, t2, t3⟩ := HR2.out.box
    have p3 : w2.cell? ⟨p, 3, none⟩ = some (.int .i64 n) := Lib.cell_of_heap hbx 3
    have f3 : w2.frozen? ⟨p, 3, none⟩ = false := Lib.frozen_of_heap hbx 3
    have HR3 : Hid (Rk T (w2.setCell ⟨p, 3, none⟩ (.int .i64 (n + 1))) p fs N Y (n + 1) st) := (HR2.out.set hbx R1 R2 R3 t1 t2 t3).1 (n + 1)
    have HK3 : Hid (Kp T w (w2.setCell ⟨p, 3, none⟩ (.int .i64 (n + 1)))) := (Kp.of HB2.out).set 3 _ HR2.out.tp
    have HX3 : Hid ((w2.setCell ⟨p, 3, none⟩ (.int .i64 (n + 1))).heap[w.heap.size]? = some (.cells #[.int .i64 2, .string ⟨s.toArray⟩, .string ⟨t.toArray⟩, .slice a m c, .int .i64 k] 36)) := (Below.heap_setCell _ _ _ _ (cells_ne HX2.out hbx (by decide))).trans HX2.out
    clear HR2 HB2 HX2 hbx R1 R2 R3 t1 t2 t3
    go_upto_region 46 with fail
    clear p3 f3
    generalize w2.setCell ⟨p, 3, none⟩ (.int .i64 (n + 1)) = w3 at *
    obtain ⟨k0, k1, k2, k3, k4⟩ := wcells HX3.out
    obtain ⟨vf, vn, vy, hbx, R1, R2, R3, t1, t2, t3⟩ := HR3.out.box
    obtain ⟨af', cf', rfl⟩ := rowF_form R1
    obtain ⟨bg, rfl, d0, d1⟩ := rowF_get R1 HQ.out.1
    have hfi := HR3.out.fi _ (List.mem_of_getElem? HQ.out.1)
    have p0 : w3.cell? ⟨p, 0, none⟩ = some (.slice (some ⟨bg, 0, none⟩) fs.length cf') := Lib.cell_of_heap hbx 0
    obtain ⟨v4, w4, q1, q2, q3, q4⟩ := run_appB 23 w3 (.slice none 0 0) (.slice ai bi.length ci) [] bi (World.ownsRow_nil _ _ _ _) (row_arg2 hfi.1 hfi.2.1).1 (row_arg2 hfi.1 hfi.2.1).2 (by have := HQ.out.2.1; simp; omega)
    rw [List.nil_append] at q2
    have b4 : Below w3.heap.size w3 w4 := ⟨q3.os, q3.tape, q3.output, q3.size, fun j hj => q3.block j hj (by simp [Value.ownBlock])⟩
    obtain ⟨a4, c4, e4⟩ := row_form q2
    subst e4
    have o4 : ∀ b, (Value.slice a4 bi.length c4).ownBlock = some b → w3.heap.size ≤ b := fun b e => by
      rcases q4 with h | h
      · rw [e] at h; cases h
      · rw [e] at h; rw [Option.some.inj h]; exact Nat.le_refl _
    have b4d : Below w3.heap.size w3 w4.drew := b4.drew
    have hkw : Kp T w w4.drew := HK3.out.trans (Kp.of b4d)
    have hvw : ArgB w4.drew (.slice a m c) l := by
      refine ⟨isBytes_kp HQ.out.2.2.1.1 HK3.out b4d ?_, HQ.out.2.2.1.2⟩
      exact HAT.out
    obtain ⟨v5, w5, s1, s2, s3, s4⟩ := run_appB 23 w4.drew (.slice a4 bi.length c4) (.slice a m c) bi l (own_below q2 (Below.refl _ _).drew (Nat.le_refl _)) hvw.1 hvw.2 (by have := HQ.out.2.1; omega)
    have b5 : Below w3.heap.size w3 w5 := b4d.grown s3 b4d.size (fun j e => o4 j e)
    obtain ⟨a5, c5, e5⟩ := row_form s2
    rw [List.length_append] at e5
    subst e5
    obtain ⟨cur, hcur⟩ := own_block R1 (b := bg) rfl
    have HCL : Hid (∀ W, Below w3.heap.size w3 W → W.cell? ⟨p, 0, none⟩ = some (.slice (some ⟨bg, 0, none⟩) fs.length cf') ∧ W.cell? ⟨w.heap.size, 3, none⟩ = some (.slice a m c) ∧ W.cell? ⟨bg, i * 2, none⟩ = some (.slice ai bi.length ci) ∧ W.frozen? ⟨bg, i * 2, none⟩ = false) := fun W hW => by
      have bx := (hW.block p (lt_of_heap hbx)).trans hbx
      have xx := (hW.block _ (lt_of_heap HX3.out)).trans HX3.out
      have hc' := (hW.block bg (lt_of_heap hcur)).trans hcur
      exact ⟨Lib.cell_of_heap bx 0, Lib.cell_of_heap xx 3, (World.cell?_of_block (w := w3) (hW.block bg (lt_of_heap hcur))).trans d0, Lib.frozen_of_heap hc' _⟩
    have HEND : Hid (post (.returned (.int .i64 0)) (w5.setCell ⟨bg, i * 2, none⟩ (.slice a5 (bi.length + l.length) c5))) := by
      rw [HPO.out]
      refine ⟨.slice a5 (bi.length + l.length) c5, rfl, (HK3.out.trans (Kp.of b5)).set _ _ (t1 bg rfl), ?_⟩
      have := (HR3.out.below b5).setF ((b5.block p (lt_of_heap hbx)).trans hbx) (own_below R1 b5 (Nat.le_refl _)) (own_below R2 b5 (Nat.le_refl _)) (own_below R3 b5 (Nat.le_refl _)) t1 t2 t3 HQ.out.1 0 (by decide) (q' := (.slice a5 (bi.length + l.length) c5, bi ++ l, si)) rfl s2 ⟨by show (bi ++ l).length ≤ 60000; rw [List.length_append]; exact HQ.out.2.1, by show si ≤ (bi ++ l).length; rw [List.length_append]; have := hfi.2.2.1; dsimp only at this; omega, fun b e => by
        refine HTT.out b ?_
        have hs3 : w.heap.size ≤ w3.heap.size := HK3.out.size
        rcases s4 with h | h
        · exact Nat.le_trans hs3 (o4 b (h.symm.trans e))
        · have e' : (Value.slice a5 (bi.length + l.length) c5).ownBlock = some b := e
          rw [e'] at h; rw [Option.some.inj h]; exact Nat.le_trans hs3 b4d.size⟩
      exact this
    have g9 : (bi.length : Int) ≤ 60000 := g6
    clear R1 R2 R3 t1 t2 t3 HR3 HK3 HX3 hbx hfi d1 hcur q2 q3 q4 o4 hkw hvw s2 s3 s4 b4 g9 g8
    go_wp2_with (at_builtin; refine app_known rfl _ _ 23 rfl _ _ _ rfl rfl q1 ?_)
    refine wp_region_noPanic ?_
    refine early_begin (S := fun W => Below w3.heap.size w3 W) (late := fun k => decide (9 ≤ k)) (by kernel_rfl) ?_
    refine ek 0 rfl ?_ (by intro wz hSw; obtain ⟨z0, z1, z2, z3⟩ := HCL.out wz hSw; go_simp; try with_reducible rfl)
    refine ek 1 rfl ?_ (by intro wz hSw; obtain ⟨z0, z1, z2, z3⟩ := HCL.out wz hSw; go_simp; try with_reducible rfl)
    refine ek 2 rfl ?_ (by intro wz hSw; obtain ⟨z0, z1, z2, z3⟩ := HCL.out wz hSw; go_simp; try with_reducible rfl)
    refine ek 3 rfl ?_ (by intro wz hSw; obtain ⟨z0, z1, z2, z3⟩ := HCL.out wz hSw; go_simp; try with_reducible rfl)
    refine ek 4 rfl ?_ (by intro wz hSw; obtain ⟨z0, z1, z2, z3⟩ := HCL.out wz hSw; go_simp; try with_reducible rfl)
    refine ek 5 rfl ?_ (by intro wz hSw; obtain ⟨z0, z1, z2, z3⟩ := HCL.out wz hSw; go_simp; try with_reducible rfl)
    refine ek 6 rfl ?_ (by intro wz hSw; obtain ⟨z0, z1, z2, z3⟩ := HCL.out wz hSw; go_simp; try with_reducible rfl)
    refine ek 7 rfl ?_ (by intro wz hSw; obtain ⟨z0, z1, z2, z3⟩ := HCL.out wz hSw; go_simp; try with_reducible rfl)
    refine es 8 rfl (fun K hK => ?_)
    refine step_append_known rfl (.tmp 262) (.tmp 264) 23 rfl _ _ _ w5 (by simp [Act.eval]) (by simp [Act.eval]) s1 ?_
    refine hK.out _ _ (fun _ => b5) ?_
    clear hK K
    try simp only [Act.put, nm]
    obtain ⟨z0, z1, z2, z3⟩ := HCL.out w5 b5
    refine es 9 rfl (fun K hK => ?_)
    go_simp
    go_wp2_with fail
    refine hK.out _ _ (fun h => absurd h (by decide)) ?_
    clear hK K
    try simp only [Act.put, nm]
    refine es 10 rfl (fun K hK => ?_)
    go_simp
    go_wp2_with fail
    refine hK.out _ _ (fun h => absurd h (by decide)) ?_
    clear hK K
    try simp only [Act.put, nm]
    refine es 11 rfl (fun K hK => ?_)
    go_simp
    go_wp2_with fail
    refine hK.out _ _ (fun h => absurd h (by decide)) ?_
    clear hK K
    try simp only [Act.put, nm]
    refine early_done (by kernel_rfl) ?_ _
    refine NoPanic.normal ?_
    clear HCL z0 z1 z2 z3 b5 b4d
    go_wp2
    exact HEND.out

set_option maxRecDepth 100000 in
set_option maxHeartbeats 8000000 in
theorem do_1 {T : Nat → Prop} {p : Nat} {fs : List FV} {N Y : List (Tx × Nat)} {n st : Int} (s t : Tx) (a : Option Addr) (m c : Nat) (k : Int) (w : World) (h : Rk T w p fs N Y n st) (hN : N.length ≤ 1000) (hT : ∀ k, w.heap.size ≤ k → T k) (hn : 0 ≤ n ∧ n < 1000000) (hst : st < 0 ∨ n < st) (ha : nameB s = true) (hi : fk N s = none) (hfl : fs.length ≤ 100000) :
    Calls Tryd.prog 22 #[.pointer (some ⟨p, 0, none⟩), .agg #[.int .i64 1, .string ⟨s.toArray⟩, .string ⟨t.toArray⟩, .slice a m c, .int .i64 k]] w fun e w' => DoP T w p (fs ++ [(.slice none 0 0, [], 0)]) ((N.filter fun q => q.1 != []) ++ [(s, fs.length)]) (Y) (n + 1) (st) e w' := by
  have b0 : Below w.heap.size w (w.alloc (.cells #[.int .i64 1, .string ⟨s.toArray⟩, .string ⟨t.toArray⟩, .slice a m c, .int .i64 k] 36)) := (Below.refl _ _).alloc (Nat.le_refl _) _
  have r0 := h.below b0
  have x0 := (MapKept.heap_alloc w (.cells #[.int .i64 1, .string ⟨s.toArray⟩, .string ⟨t.toArray⟩, .slice a m c, .int .i64 k] 36)).1
  obtain ⟨vf, vn, vy, hbx, _⟩ := r0.box
  have k0 : (w.alloc (.cells #[.int .i64 1, .string ⟨s.toArray⟩, .string ⟨t.toArray⟩, .slice a m c, .int .i64 k] 36)).cell? ⟨w.heap.size, 0, none⟩ = some (.int .i64 1) := Lib.cell_of_heap x0 0
  have k1 : (w.alloc (.cells #[.int .i64 1, .string ⟨s.toArray⟩, .string ⟨t.toArray⟩, .slice a m c, .int .i64 k] 36)).cell? ⟨w.heap.size, 1, none⟩ = some (.string ⟨s.toArray⟩) := Lib.cell_of_heap x0 1
  have k2 : (w.alloc (.cells #[.int .i64 1, .string ⟨s.toArray⟩, .string ⟨t.toArray⟩, .slice a m c, .int .i64 k] 36)).cell? ⟨w.heap.size, 2, none⟩ = some (.string ⟨t.toArray⟩) := Lib.cell_of_heap x0 2
  have k3 : (w.alloc (.cells #[.int .i64 1, .string ⟨s.toArray⟩, .string ⟨t.toArray⟩, .slice a m c, .int .i64 k] 36)).cell? ⟨w.heap.size, 3, none⟩ = some (.slice a m c) := Lib.cell_of_heap x0 3
  have k4 : (w.alloc (.cells #[.int .i64 1, .string ⟨s.toArray⟩, .string ⟨t.toArray⟩, .slice a m c, .int .i64 k] 36)).cell? ⟨w.heap.size, 4, none⟩ = some (.int .i64 k) := Lib.cell_of_heap x0 4
  have p3 : (w.alloc (.cells #[.int .i64 1, .string ⟨s.toArray⟩, .string ⟨t.toArray⟩, .slice a m c, .int .i64 k] 36)).cell? ⟨p, 3, none⟩ = some (.int .i64 n) := Lib.cell_of_heap hbx 3
  have p4 : (w.alloc (.cells #[.int .i64 1, .string ⟨s.toArray⟩, .string ⟨t.toArray⟩, .slice a m c, .int .i64 k] 36)).cell? ⟨p, 4, none⟩ = some (.int .i64 st) := Lib.cell_of_heap hbx 4
  have HR0 : Hid (Rk T (w.alloc (.cells #[.int .i64 1, .string ⟨s.toArray⟩, .string ⟨t.toArray⟩, .slice a m c, .int .i64 k] 36)) p fs N Y n st) := r0
  have HB0 : Hid (Below w.heap.size w (w.alloc (.cells #[.int .i64 1, .string ⟨s.toArray⟩, .string ⟨t.toArray⟩, .slice a m c, .int .i64 k] 36))) := b0
  have HX0 : Hid (_ = some _) := x0
  obtain ⟨post, hpost⟩ : ∃ post, post = fun e w' => DoP T w p (fs ++ [(.slice none 0 0, [], 0)]) ((N.filter fun q => q.1 != []) ++ [(s, fs.length)]) (Y) (n + 1) (st) e w' := ⟨_, rfl⟩
  rw [← hpost]
  have HPO : Hid (post = _) := hpost
  have HTT : Hid (∀ k, w.heap.size ≤ k → T k) := hT
  clear hpost hT
  obtain ⟨n0, n1⟩ := hn
  clear hbx x0 r0 b0 h
  go_enter Tryd.func22, Tryd.ntmps22
  go_upto_region 27 with fail
  go_cut [139] from 124 to 139 (fun x wx => x = .bool false ∧ ∃ q, wx = (w.alloc (.cells #[.int .i64 1, .string ⟨s.toArray⟩, .string ⟨t.toArray⟩, .slice a m c, .int .i64 k] 36)).drewN q)
  case first =>
    rcases hst with hst | hst
    · have g0 : decide (0 ≤ st) = false := decide_eq_false (by omega)
      clear hst
      go_quiet (fail)
      go_wp2_with fail
      go_meet
      case rel => exact ⟨rfl, nq, rfl⟩
    · have g1 : decide (st ≤ n) = false := decide_eq_false (by omega)
      by_cases h0 : 0 ≤ st
      · have g0 : decide (0 ≤ st) = true := decide_eq_true h0
        clear hst h0
        go_quiet (fail)
        go_wp2_with fail
        go_meet
        case rel => exact ⟨rfl, nq, rfl⟩
      · have g0 : decide (0 ≤ st) = false := decide_eq_false h0
        clear hst h0
        go_quiet (fail)
        go_wp2_with fail
        go_meet
        case rel => exact ⟨rfl, nq, rfl⟩
  case rest =>
    obtain ⟨rfl, nd, hw⟩ := hcut
    have HX1 : Hid (wc.heap[w.heap.size]? = some (.cells #[.int .i64 1, .string ⟨s.toArray⟩, .string ⟨t.toArray⟩, .slice a m c, .int .i64 k] 36)) := by rw [hw]; exact HX0.out
    have HR1 : Hid (Rk T wc p fs N Y n st) := by rw [hw]; exact HR0.out.below (below_drew (Below.refl _ _) nd)
    have HB1 : Hid (Below w.heap.size w wc) := by rw [hw]; exact below_drew HB0.out nd
    replace k0 : wc.cell? ⟨w.heap.size, 0, none⟩ = some (.int .i64 1) := by rw [hw]; exact k0
    replace k1 : wc.cell? ⟨w.heap.size, 1, none⟩ = some (.string ⟨s.toArray⟩) := by rw [hw]; exact k1
    replace k2 : wc.cell? ⟨w.heap.size, 2, none⟩ = some (.string ⟨t.toArray⟩) := by rw [hw]; exact k2
    replace k3 : wc.cell? ⟨w.heap.size, 3, none⟩ = some (.slice a m c) := by rw [hw]; exact k3
    replace k4 : wc.cell? ⟨w.heap.size, 4, none⟩ = some (.int .i64 k) := by rw [hw]; exact k4
    replace p3 : wc.cell? ⟨p, 3, none⟩ = some (.int .i64 n) := by rw [hw]; exact p3
    replace p4 : wc.cell? ⟨p, 4, none⟩ = some (.int .i64 st) := by rw [hw]; exact p4
    have NS := named_any s wc
    have NT := named_any t wc
    have FI := rFile_any s wc HR1.out hN
    clear hw HR0 HB0 HX0
    rw [ha] at NS
    have e1 : fkI N s = -1 := by unfold fkI; rw [hi]
    rw [e1] at FI
    clear ha hi e1 NT
    go_wp2_with (first
      | (go_at_call 28; refine NS.mono ?_; clear NS; rintro e w1 ⟨rfl, hw1⟩; rw [hw1]; clear hw1 w1)
      | (go_at_call 29; refine FI.mono ?_; clear FI; rintro e w1 ⟨rfl, hw1⟩; rw [hw1]; clear hw1 w1)
      | (go_at_call 28; refine NT.mono ?_; rintro e w1 ⟨rfl, hw1⟩; rw [hw1]; clear hw1 w1))
    go_quiet (fail)
    have HR2 : Hid (Rk T (wc.drewN nq) p fs N Y n st) := HR1.out.below (below_drew (Below.refl _ _) nq)
    have HB2 : Hid (Below w.heap.size w (wc.drewN nq)) := below_drew HB1.out nq
    have HX2 : Hid ((wc.drewN nq).heap[w.heap.size]? = some (.cells #[.int .i64 1, .string ⟨s.toArray⟩, .string ⟨t.toArray⟩, .slice a m c, .int .i64 k] 36)) := HX1.out
    clear k0 k1 k2 k3 k4 p3 p4 HR1 HB1 HX1
    generalize wc.drewN nq = w2 at *
    obtain ⟨vf, vn, vy, hbx, R1, R2, R3, t1, t2, t3⟩ := HR2.out.box
    have p3 : w2.cell? ⟨p, 3, none⟩ = some (.int .i64 n) := Lib.cell_of_heap hbx 3
    have f3 : w2.frozen? ⟨p, 3, none⟩ = false := Lib.frozen_of_heap hbx 3
    have HR3 : Hid (Rk T (w2.setCell ⟨p, 3, none⟩ (.int .i64 (n + 1))) p fs N Y (n + 1) st) := (HR2.out.set hbx R1 R2 R3 t1 t2 t3).1 (n + 1)
    have HK3 : Hid (Kp T w (w2.setCell ⟨p, 3, none⟩ (.int .i64 (n + 1)))) := (Kp.of HB2.out).set 3 _ HR2.out.tp
    have HX3 : Hid ((w2.setCell ⟨p, 3, none⟩ (.int .i64 (n + 1))).heap[w.heap.size]? = some (.cells #[.int .i64 1, .string ⟨s.toArray⟩, .string ⟨t.toArray⟩, .slice a m c, .int .i64 k] 36)) := (Below.heap_setCell _ _ _ _ (cells_ne HX2.out hbx (by decide))).trans HX2.out
    clear HR2 HB2 HX2 hbx R1 R2 R3 t1 t2 t3
    go_upto_region 46 with fail
    clear p3 f3
    generalize w2.setCell ⟨p, 3, none⟩ (.int .i64 (n + 1)) = w3 at *
    obtain ⟨k0, k1, k2, k3, k4⟩ := wcells HX3.out
    obtain ⟨vf, vn, vy, hbx, R1, R2, R3, t1, t2, t3⟩ := HR3.out.box
    obtain ⟨af, cf, rfl⟩ := rowF_form R1
    have p0 : w3.cell? ⟨p, 0, none⟩ = some (.slice af fs.length cf) := Lib.cell_of_heap hbx 0
    have ba : Below w3.heap.size w3 (w3.alloc (.cells #[.slice none 0 0, .int .i64 0] 74)) := (Below.refl _ _).alloc (Nat.le_refl _) _
    obtain ⟨v4, w4, q1, q2, q3, q4⟩ := run_appF 27 _ (.slice af fs.length cf) (.slice none 0 0, [], 0) rfl fs (own_below R1 ba (Nat.le_refl _)) (by omega) w3.heap.size (MapKept.heap_alloc w3 (.cells #[.slice none 0 0, .int .i64 0] 74)).1
    obtain ⟨a4, c4, e4⟩ := rowF_form q2
    rw [List.length_append, List.length_singleton] at e4
    subst e4
    have hsame : ∀ k, k < w3.heap.size → (Value.slice af fs.length cf).ownBlock ≠ some k → w4.heap[k]? = w3.heap[k]? := fun k hk hne => (q3.block k (Nat.lt_of_lt_of_le hk ba.size) (fun e => hne e.symm)).trans (ba.block k hk)
    have hnb : ∀ {k : Nat} {cs : Array Value} {U : TypeId}, w3.heap[k]? = some (.cells cs U) → U ≠ 74 → w4.heap[k]? = some (.cells cs U) := fun {k cs U} e hU => (hsame k (lt_of_heap e) (fun e1 => by
      obtain ⟨_, e2⟩ := own_block R1 e1
      exact cells_ne e e2 hU rfl)).trans e
    have bx4 := hnb hbx (by decide)
    have x4 := hnb HX3.out (by decide)
    have rowk : ∀ {e sz mm : Nat} {v : Value} {xs : List Value}, w3.ownsRow 0 e sz v mm xs → e ≠ 74 → w4.ownsRow 0 e sz v mm xs := fun h hU => own_at h (fun b hb => by
      obtain ⟨_, e2⟩ := own_block h hb
      rw [hnb e2 hU, e2])
    have c0 : w4.cell? ⟨p, 0, none⟩ = some (.slice af fs.length cf) := Lib.cell_of_heap bx4 0
    have f0 : w4.frozen? ⟨p, 0, none⟩ = false := Lib.frozen_of_heap bx4 0
    have hs3 : w.heap.size ≤ w3.heap.size := HK3.out.size
    have t4 : ∀ b, (Value.slice a4 (fs.length + 1) c4).ownBlock = some b → T b := fun b e => by
      rcases q4 with h | h
      · exact t1 b (h.symm.trans e)
      · rw [e] at h; rw [Option.some.inj h]; exact HTT.out _ (Nat.le_trans hs3 ba.size)
    have HR5 : Hid (Rk T (w4.setCell ⟨p, 0, none⟩ (.slice a4 (fs.length + 1) c4)) p (fs ++ [(.slice none 0 0, [], 0)]) N Y (n + 1) st) := HR3.out.boxed (by rw [heap_setCell_same w4 p 0 _ _ _ bx4]; rfl) (row_setP q2 bx4 (by decide)) (row_setP (rowk R2 (by decide)) bx4 (by decide)) (row_setP (rowk R3 (by decide)) bx4 (by decide)) t4 t2 t3 (fun q hq => by
        rcases List.mem_append.1 hq with hq | hq
        · have z := HR3.out.fi q hq; exact ⟨row_setP (rowk z.1 (by decide)) bx4 (by decide), z.2⟩
        · rw [List.mem_singleton.1 hq]; exact ⟨World.ownsRow_nil _ _ _ _, by simp, by simp, (fun b e => by cases e)⟩) (fun q hq => by rw [List.length_append]; exact Nat.lt_of_lt_of_le (HR3.out.nN q hq) (Nat.le_add_right _ _)) (fun q hq => by rw [List.length_append]; exact Nat.lt_of_lt_of_le (HR3.out.nY q hq) (Nat.le_add_right _ _))
    have HK5 : Hid (Kp T w (w4.setCell ⟨p, 0, none⟩ (.slice a4 (fs.length + 1) c4))) := ((HK3.out.alloc _).grown q3 (fun k e => t1 k e)).set 0 _ HR3.out.tp
    have HX5 : Hid ((w4.setCell ⟨p, 0, none⟩ (.slice a4 (fs.length + 1) c4)).heap[w.heap.size]? = some (.cells #[.int .i64 1, .string ⟨s.toArray⟩, .string ⟨t.toArray⟩, .slice a m c, .int .i64 k] 36)) := (Below.heap_setCell _ _ _ _ (cells_ne x4 bx4 (by decide))).trans x4
    have HFL : Hid (fs.length ≤ 100000) := hfl
    have HNN : Hid (N.length ≤ 1000) := hN
    clear R1 R2 R3 t1 t2 t3 HR3 HK3 HX3 hbx q2 q3 q4 hsame hnb bx4 x4 rowk t4 ba hs3 hfl hN
    go_wp2_with (at_builtin; refine app_known rfl _ _ 27 rfl _ _ _ rfl rfl q1 ?_)
    clear k0 k1 k2 k3 k4 p0 c0 f0 q1
    generalize w4.setCell ⟨p, 0, none⟩ (.slice a4 (fs.length + 1) c4) = w5 at *
    obtain ⟨vf, vn, vy, hbx, R1, R2, R3, t1, t2, t3⟩ := HR5.out.box
    obtain ⟨an, cn, rfl⟩ := rowN_form R2
    obtain ⟨ag, cg, rfl⟩ := rowF_form R1
    rw [List.length_append, List.length_singleton] at hbx R1 t1
    have hs5 : w.heap.size ≤ w5.heap.size := HK5.out.size
    have HFIN : Hid (∀ W7 v7, RowN v7 ((N.filter fun q => q.1 != []) ++ [(s, fs.length)]) W7 → (∀ b, v7.ownBlock = some b → w5.heap.size ≤ b) → Below w5.heap.size w5 W7 → post (.returned (.int .i64 0)) (W7.setCell ⟨p, 1, none⟩ v7)) := fun W7 v7 rn hb b7 => by
      have r7 := HR5.out.below b7
      have bx7 := (b7.block p (lt_of_heap hbx)).trans hbx
      rw [HPO.out]
      refine ⟨rfl, (HK5.out.trans (Kp.of b7)).set 1 _ r7.tp, (r7.set bx7 (own_below R1 b7 (Nat.le_refl _)) (own_below R2 b7 (Nat.le_refl _)) (own_below R3 b7 (Nat.le_refl _)) t1 t2 t3).2.2.2.1 _ _ rn (fun b e => HTT.out b (Nat.le_trans hs5 (hb b e))) (fun q hq => ?_)⟩
      rw [List.length_append, List.length_singleton]
      rcases List.mem_append.1 hq with hq | hq
      · have := HR5.out.nN q (List.mem_filter.1 hq).1; rw [List.length_append, List.length_singleton] at this; exact this
      · rw [List.mem_singleton.1 hq]; exact Nat.lt_succ_self _
    have HCL : Hid (∀ W, Below w5.heap.size w5 W → W.cell? ⟨p, 1, none⟩ = some (.slice an N.length cn) ∧ W.cell? ⟨w.heap.size, 1, none⟩ = some (.string ⟨s.toArray⟩) ∧ W.cell? ⟨p, 0, none⟩ = some (.slice ag (fs.length + 1) cg) ∧ W.frozen? ⟨p, 1, none⟩ = false) := fun W hW => by
      have bx := (hW.block p (lt_of_heap hbx)).trans hbx
      have xx := (hW.block _ (lt_of_heap HX5.out)).trans HX5.out
      exact ⟨Lib.cell_of_heap bx 1, Lib.cell_of_heap xx 1, Lib.cell_of_heap bx 0, Lib.frozen_of_heap bx 1⟩
    have HRN : Hid (RowN (.slice an N.length cn) N w5) := R2
    have g5 : (fs.length : Int) < 1000000 := by have := HFL.out; omega
    clear R1 R2 R3 t1 t2 t3 HR5 HK5 HX5 hbx hs5
    generalize fs.length = L at *
    have hwr : IntKind.i64.wrap (L : Int) = (L : Int) := IntWalk.i64_in _ (by omega)
    refine wp_region_noPanic ?_
    refine early_begin (S := fun W => Below w5.heap.size w5 W) (late := fun k => decide (17 ≤ k)) (by kernel_rfl) ?_
    have hHeld : Below w5.heap.size w5 w5.drew := (Below.refl _ _).drew
    refine ek 0 rfl ?_ (by intro wz hSw; obtain ⟨z0, z1, z2, z3⟩ := HCL.out wz hSw; go_simp; try with_reducible rfl)
    refine ek 1 rfl ?_ (by intro wz hSw; obtain ⟨z0, z1, z2, z3⟩ := HCL.out wz hSw; go_simp; try with_reducible rfl)
    refine ek 2 rfl ?_ (by intro wz hSw; obtain ⟨z0, z1, z2, z3⟩ := HCL.out wz hSw; go_simp; try with_reducible rfl)
    refine ek 3 rfl ?_ (by intro wz hSw; obtain ⟨z0, z1, z2, z3⟩ := HCL.out wz hSw; go_simp; try with_reducible rfl)
    refine ek 4 rfl ?_ (by intro wz hSw; obtain ⟨z0, z1, z2, z3⟩ := HCL.out wz hSw; go_simp; try with_reducible rfl)
    refine ek 6 rfl ?_ (by intro wz hSw; obtain ⟨z0, z1, z2, z3⟩ := HCL.out wz hSw; go_simp; try with_reducible rfl)
    refine ek 7 rfl ?_ (by intro wz hSw; obtain ⟨z0, z1, z2, z3⟩ := HCL.out wz hSw; go_simp; try with_reducible rfl)
    refine ek 8 rfl ?_ (by intro wz hSw; obtain ⟨z0, z1, z2, z3⟩ := HCL.out wz hSw; go_simp; try with_reducible rfl)
    refine ek 9 rfl ?_ (by intro wz hSw; obtain ⟨z0, z1, z2, z3⟩ := HCL.out wz hSw; go_simp; try with_reducible rfl)
    refine ek 10 rfl ?_ (by intro wz hSw; obtain ⟨z0, z1, z2, z3⟩ := HCL.out wz hSw; go_simp; try with_reducible rfl)
    refine ek 11 rfl ?_ (by intro wz hSw; obtain ⟨z0, z1, z2, z3⟩ := HCL.out wz hSw; go_simp; try with_reducible rfl)
    refine ek 12 rfl ?_ (by intro wz hSw; obtain ⟨z0, z1, z2, z3⟩ := HCL.out wz hSw; go_simp; try with_reducible rfl)
    refine ek 13 rfl ?_ (by intro wz hSw; obtain ⟨z0, z1, z2, z3⟩ := HCL.out wz hSw; go_simp; try with_reducible rfl)
    refine ek 14 rfl ?_ (by intro wz hSw; obtain ⟨z0, z1, z2, z3⟩ := HCL.out wz hSw; go_simp; try with_reducible rfl)
    refine es2 5 15 rfl rfl (fun K hK => ?_) (fun K hK => ?_)
    · have WI := without_any [] an cn N w5.drew (own_below HRN.out hHeld (Nat.le_refl _)) HNN.out
      go_simp
      go_at_call 35
      refine Calls.mono WI ?_
      rintro e w6 ⟨ay, cy, rfl, rn6, hb6, b6⟩
      have b56 : Below w5.heap.size w5 w6 := hHeld.trans b6
      go_wp2_with fail
      refine hK.out _ _ (fun _ => b56) ?_
      clear hK K WI
      try simp only [Act.put, nm]
      have ba : Below w6.heap.size w6 (w6.alloc (.cells #[.string ⟨s.toArray⟩, .int .i64 L] 64)) := (Below.refl _ _).alloc (Nat.le_refl _) _
      obtain ⟨v7, w7, q1, q2, q3, q4⟩ := run_appN 28 _ (.slice ay _ cy) s L _ (own_below rn6 ba (Nat.le_refl _)) (by have := List.length_filter_le (fun q : Tx × Nat => q.1 != []) N; have := HNN.out; omega) w6.heap.size (MapKept.heap_alloc w6 (.cells #[.string ⟨s.toArray⟩, .int .i64 L] 64)).1
      have b57a : Below w5.heap.size w5 (w6.alloc (.cells #[.string ⟨s.toArray⟩, .int .i64 L] 64)) := b56.trans (ba.mono b56.size)
      have b57 : Below w5.heap.size w5 w7 := b57a.grown q3 b57a.size (fun j e => hb6 j e)
      obtain ⟨a7, c7, rfl⟩ := rowN_form q2
      have HEND : Hid (post (.returned (.int .i64 0)) (w7.setCell ⟨p, 1, none⟩ _)) := HFIN.out w7 _ q2 (fun b e => by
        rcases q4 with h | h
        · exact hb6 b (h.symm.trans e)
        · rw [e] at h; rw [Option.some.inj h]; exact b57a.size) b57
      refine es 15 rfl (fun K hK => ?_)
      go_simp
      go_wp2_with fail
      refine hK.out _ _ (fun _ => b57a) ?_
      clear hK K
      try simp only [Act.put, nm]
      refine es 16 rfl (fun K hK => ?_)
      refine step_append_known rfl (.tmp 231) (.tmp 241) 28 rfl _ _ _ w7 (by simp [Act.eval]) (by simp [Act.eval]) q1 ?_
      refine hK.out _ _ (fun _ => b57) ?_
      clear hK K
      try simp only [Act.put, nm]
      obtain ⟨z0, z1, z2, z3⟩ := HCL.out w7 b57
      generalize ((N.filter fun q => q.1 != []) ++ [(s, L)]).length = m7 at *
      refine es 17 rfl (fun K hK => ?_)
      go_simp
      go_wp2_with fail
      refine hK.out _ _ (fun h => absurd h (by decide)) ?_
      clear hK K
      try simp only [Act.put, nm]
      refine es 18 rfl (fun K hK => ?_)
      go_simp
      go_wp2_with fail
      refine hK.out _ _ (fun h => absurd h (by decide)) ?_
      clear hK K
      try simp only [Act.put, nm]
      refine es 19 rfl (fun K hK => ?_)
      go_simp
      go_wp2_with fail
      refine hK.out _ _ (fun h => absurd h (by decide)) ?_
      clear hK K
      try simp only [Act.put, nm]
      refine early_done (by kernel_rfl) ?_ _
      refine NoPanic.normal ?_
      clear HCL z0 z1 z2 z3
      go_wp2
      exact HEND.out
    · have ba : Below w5.heap.size w5 (w5.drew.alloc (.cells #[.string ⟨s.toArray⟩, .int .i64 L] 64)) := hHeld.alloc hHeld.size _
      go_simp
      go_wp2_with fail
      refine hK.out _ _ (fun _ => ba) ?_
      clear hK K
      try simp only [Act.put, nm]
      have hx6 := (MapKept.heap_alloc w5.drew (.cells #[.string ⟨s.toArray⟩, .int .i64 L] 64)).1
      have WI := without_any [] an cn N (w5.drew.alloc (.cells #[.string ⟨s.toArray⟩, .int .i64 L] 64)) (own_below HRN.out ba (Nat.le_refl _)) HNN.out
      refine es 5 rfl (fun K hK => ?_)
      go_simp
      go_at_call 35
      refine Calls.mono WI ?_
      rintro e w6 ⟨ay, cy, rfl, rn6, hb6, b6⟩
      have b56 : Below w5.heap.size w5 w6 := ba.trans (b6.mono ba.size)
      go_wp2_with fail
      refine hK.out _ _ (fun _ => b56) ?_
      clear hK K WI
      try simp only [Act.put, nm]
      obtain ⟨v7, w7, q1, q2, q3, q4⟩ := run_appN 28 w6 (.slice ay _ cy) s L _ rn6 (by have := List.length_filter_le (fun q : Tx × Nat => q.1 != []) N; have := HNN.out; omega) w5.drew.heap.size ((b6.block _ (lt_of_heap hx6)).trans hx6)
      have b57 : Below w5.heap.size w5 w7 := b56.grown q3 b56.size (fun j e => Nat.le_trans ba.size (hb6 j e))
      obtain ⟨a7, c7, rfl⟩ := rowN_form q2
      have HEND : Hid (post (.returned (.int .i64 0)) (w7.setCell ⟨p, 1, none⟩ _)) := HFIN.out w7 _ q2 (fun b e => by
        rcases q4 with h | h
        · exact Nat.le_trans ba.size (hb6 b (h.symm.trans e))
        · rw [e] at h; rw [Option.some.inj h]; exact b56.size) b57
      refine es 16 rfl (fun K hK => ?_)
      refine step_append_known rfl (.tmp 231) (.tmp 241) 28 rfl _ _ _ w7 (by simp [Act.eval]) (by simp [Act.eval]) q1 ?_
      refine hK.out _ _ (fun _ => b57) ?_
      clear hK K
      try simp only [Act.put, nm]
      obtain ⟨z0, z1, z2, z3⟩ := HCL.out w7 b57
      generalize ((N.filter fun q => q.1 != []) ++ [(s, L)]).length = m7 at *
      refine es 17 rfl (fun K hK => ?_)
      go_simp
      go_wp2_with fail
      refine hK.out _ _ (fun h => absurd h (by decide)) ?_
      clear hK K
      try simp only [Act.put, nm]
      refine es 18 rfl (fun K hK => ?_)
      go_simp
      go_wp2_with fail
      refine hK.out _ _ (fun h => absurd h (by decide)) ?_
      clear hK K
      try simp only [Act.put, nm]
      refine es 19 rfl (fun K hK => ?_)
      go_simp
      go_wp2_with fail
      refine hK.out _ _ (fun h => absurd h (by decide)) ?_
      clear hK K
      try simp only [Act.put, nm]
      refine early_done (by kernel_rfl) ?_ _
      refine NoPanic.normal ?_
      clear HCL z0 z1 z2 z3
      go_wp2
      exact HEND.out

end Go.Proofs.YtcdpcjafomfddaaDoor
