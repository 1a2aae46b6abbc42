/-
  What is proved: the law ValueShows, called with any two values, returns true, and nothing that was there has turned.
  Conditions: the first value's number is one of 64 bits; the table of powers of ten and the variable errorType of package errors lie as the text lays them.
-/
import Derived.Test.YtokjlfgffloagaaDoorShown
import Derived.Test.YtokjlfgffloagaaDoorRValue
import Derived.Test.YtokjlfgffloagaaDoorRComp
namespace Go.Proofs.YtokjlfgffloagaaDoor
open Go.RowKit Go.Sort

theorem fit_of (v : V) (h : okB v = true) (low : -9223372036854775808 ≤ v.n) (high : v.n ≤ 9223372036854775807) : Fit v := by
  have hu : usedB v = true := by
    unfold okB at h
    exact (Bool.and_eq_true_iff.1 h).1
  refine ⟨low, high, fun hk => ?_, fun hk => ?_⟩
  · unfold usedB at hu
    rw [hk] at hu
    have : (v.t.size : Int) ≤ 60 := by simpa using hu
    omega
  · unfold usedB at hu
    rcases hk with hk | hk
    · rw [hk] at hu
      exact (idOk_iff _ _).1 (by simpa using hu)
    · rw [hk] at hu
      exact (idOk_iff _ _).1 (by simpa using hu)

/-- A value in a box. -/
def boxV (v : V) : Obj := .cells #[.int .i64 v.k, .int .i64 v.n, .string v.t, .int .i64 v.o, .int .i64 v.a] 38

/-- The world in which two values lie in boxes. -/
def box2 (w : World) (a b : V) : World := (w.alloc (boxV a)).alloc (boxV b)

theorem box2_size (w : World) (a b : V) : (box2 w a b).heap.size = w.heap.size + 2 := by simp [box2]

theorem heap_new (w : World) (o : Obj) : (w.alloc o).heap[w.heap.size]? = some o := by
  show (w.heap.push o)[_]? = _
  simp

theorem box2_heap {w W : World} {a b : V} (B : Below (w.heap.size + 2) (box2 w a b) W) :
    W.heap[w.heap.size]? = some (boxV a) ∧ W.heap[w.heap.size + 1]? = some (boxV b) := by
  have z1 : (w.alloc (boxV a)).heap.size = w.heap.size + 1 := by simp
  refine ⟨?_, ?_⟩
  · rw [B.block _ (by omega), box2, Below.heap_alloc _ _ _ (by omega)]
    exact heap_new w _
  · rw [B.block _ (by omega), box2, ← z1]
    exact heap_new _ _

theorem five {W : World} {b : Nat} {v : V} (h : W.heap[b]? = some (boxV v)) :
    W.cell? ⟨b, 0, none⟩ = some (.int .i64 v.k) ∧ W.cell? ⟨b, 1, none⟩ = some (.int .i64 v.n) ∧ W.cell? ⟨b, 2, none⟩ = some (.string v.t) ∧ W.cell? ⟨b, 3, none⟩ = some (.int .i64 v.o) ∧ W.cell? ⟨b, 4, none⟩ = some (.int .i64 v.a) :=
  ⟨Lib.cell_of_heap h 0, Lib.cell_of_heap h 1, Lib.cell_of_heap h 2, Lib.cell_of_heap h 3, Lib.cell_of_heap h 4⟩

set_option maxHeartbeats 2000000 in
theorem shows_not (a b : V) (w : World) (E : Et w) (ha : okB a = false) :
    Calls Tryd.prog 5 #[a.val, b.val] w fun e w' => e = .returned (.bool true) ∧ Below w.heap.size w w' := by
  have z0 := box2_size w a b
  have B0 : Below w.heap.size w (box2 w a b) := ((Below.refl _ _).alloc (Nat.le_refl _) _).alloc (by simp) _
  have V1 := rValue_any a
  have V2 := rValue_any b
  have K1 := checkV_any a
  rw [ha] at V1 K1
  simp only [Bool.false_eq_true, if_false] at K1
  generalize okB b = kb at *
  clear ha
  obtain ⟨a1, a2, a3, a4, a5⟩ := a
  obtain ⟨b1, b2, b3, b4, b5⟩ := b
  simp only [V.val] at *
  go_enter Tryd.func5, Tryd.ntmps5
  go_wp2_with fail
  refine (V1 (box2 w ⟨a1, a2, a3, a4, a5⟩ ⟨b1, b2, b3, b4, b5⟩)).mono ?_
  rintro e w1 ⟨rfl, hb⟩
  rw [z0] at hb
  have z1 : w.heap.size + 2 ≤ w1.heap.size := by have := hb.size; omega
  clear V1
  obtain ⟨q1, q2⟩ := box2_heap hb
  obtain ⟨x1, x2, x3, x4, x5⟩ := five q1
  obtain ⟨y1, y2, y3, y4, y5⟩ := five q2
  clear q1 q2
  dsimp only at x1 x2 x3 x4 x5 y1 y2 y3 y4 y5
  go_wp2_with fail
  refine (V2 _).mono ?_
  rintro e w2 ⟨rfl, hb2⟩
  replace hb := hb.trans (hb2.mono z1)
  replace z1 : w.heap.size + 2 ≤ w2.heap.size := by have := hb2.size; omega
  clear hb2 x1 x2 x3 x4 x5 y1 y2 y3 y4 y5 V2
  obtain ⟨q1, q2⟩ := box2_heap hb
  obtain ⟨x1, x2, x3, x4, x5⟩ := five q1
  obtain ⟨y1, y2, y3, y4, y5⟩ := five q2
  clear q1 q2
  dsimp only at x1 x2 x3 x4 x5 y1 y2 y3 y4 y5
  go_wp2_with fail
  refine (K1 _).mono ?_
  rintro e w3 ⟨rfl, hb2⟩
  replace hb := hb.trans (hb2.mono z1)
  replace z1 : w.heap.size + 2 ≤ w3.heap.size := by have := hb2.size; omega
  clear hb2 x1 x2 x3 x4 x5 y1 y2 y3 y4 y5 K1
  have E3 : Et w3 := (E.below B0).below (by rw [z0]; exact hb)
  obtain ⟨q1, q2⟩ := box2_heap hb
  obtain ⟨x1, x2, x3, x4, x5⟩ := five q1
  obtain ⟨y1, y2, y3, y4, y5⟩ := five q2
  clear q1 q2
  dsimp only at x1 x2 x3 x4 x5 y1 y2 y3 y4 y5
  go_wp2_with fail
  refine (error_errno 1 _ E3).mono ?_
  rintro e w4 ⟨rfl, hb2⟩
  replace hb := hb.trans (hb2.mono z1)
  clear hb2 x1 x2 x3 x4 x5 y1 y2 y3 y4 y5
  go_wp2
  go_ret
  exact ⟨by simp, B0.trans (hb.mono (by omega))⟩

set_option maxHeartbeats 2000000 in
theorem shows_one (a b : V) (w : World) (ha : okB a = true) (hb0 : okB b = false) :
    Calls Tryd.prog 5 #[a.val, b.val] w fun e w' => e = .returned (.bool true) ∧ Below w.heap.size w w' := by
  have z0 := box2_size w a b
  have B0 : Below w.heap.size w (box2 w a b) := ((Below.refl _ _).alloc (Nat.le_refl _) _).alloc (by simp) _
  have V1 := rValue_any a
  have V2 := rValue_any b
  have K1 := checkV_any a
  rw [ha] at V1 K1
  simp only [if_true] at K1
  clear ha
  rw [hb0] at V2
  clear hb0
  obtain ⟨a1, a2, a3, a4, a5⟩ := a
  obtain ⟨b1, b2, b3, b4, b5⟩ := b
  simp only [V.val] at *
  go_enter Tryd.func5, Tryd.ntmps5
  go_wp2_with fail
  refine (V1 (box2 w ⟨a1, a2, a3, a4, a5⟩ ⟨b1, b2, b3, b4, b5⟩)).mono ?_
  rintro e w1 ⟨rfl, hb⟩
  rw [z0] at hb
  have z1 : w.heap.size + 2 ≤ w1.heap.size := by have := hb.size; omega
  clear V1
  obtain ⟨q1, q2⟩ := box2_heap hb
  obtain ⟨x1, x2, x3, x4, x5⟩ := five q1
  obtain ⟨y1, y2, y3, y4, y5⟩ := five q2
  clear q1 q2
  dsimp only at x1 x2 x3 x4 x5 y1 y2 y3 y4 y5
  go_wp2_with fail
  refine (V2 _).mono ?_
  rintro e w2 ⟨rfl, hb2⟩
  replace hb := hb.trans (hb2.mono z1)
  replace z1 : w.heap.size + 2 ≤ w2.heap.size := by have := hb2.size; omega
  clear hb2 x1 x2 x3 x4 x5 y1 y2 y3 y4 y5 V2
  obtain ⟨q1, q2⟩ := box2_heap hb
  obtain ⟨x1, x2, x3, x4, x5⟩ := five q1
  obtain ⟨y1, y2, y3, y4, y5⟩ := five q2
  clear q1 q2
  dsimp only at x1 x2 x3 x4 x5 y1 y2 y3 y4 y5
  go_wp2_with fail
  refine (K1 _).mono ?_
  rintro e w3 ⟨rfl, hb2⟩
  replace hb := hb.trans (hb2.mono z1)
  replace z1 : w.heap.size + 2 ≤ w3.heap.size := by have := hb2.size; omega
  clear hb2 x1 x2 x3 x4 x5 y1 y2 y3 y4 y5 K1
  obtain ⟨q1, q2⟩ := box2_heap hb
  obtain ⟨x1, x2, x3, x4, x5⟩ := five q1
  obtain ⟨y1, y2, y3, y4, y5⟩ := five q2
  clear q1 q2
  dsimp only at x1 x2 x3 x4 x5 y1 y2 y3 y4 y5
  go_wp2_with fail
  refine (error_nil _).mono ?_
  rintro e w4 ⟨rfl, hb2⟩
  replace hb := hb.trans (hb2.mono z1)
  replace z1 : w.heap.size + 2 ≤ w4.heap.size := by have := hb2.size; omega
  clear hb2 x1 x2 x3 x4 x5 y1 y2 y3 y4 y5 
  go_wp2
  go_ret
  exact ⟨by simp, B0.trans (hb.mono (by omega))⟩

set_option maxHeartbeats 2000000 in
theorem shows_two (a b : V) (w : World) (T : Tab w) (ha : okB a = true) (hb0 : okB b = true) (F : Fit a) :
    Calls Tryd.prog 5 #[a.val, b.val] w fun e w' => e = .returned (.bool true) ∧ Below w.heap.size w w' := by
  have z0 := box2_size w a b
  have B0 : Below w.heap.size w (box2 w a b) := ((Below.refl _ _).alloc (Nat.le_refl _) _).alloc (by simp) _
  have V1 := rValue_any a
  have V2 := rValue_any b
  have K1 := checkV_any a
  rw [ha] at V1 K1
  simp only [if_true] at K1
  clear ha
  rw [hb0] at V2
  have S1 := fun w ht => show_any a w F ht
  have S2 := fun w => rShow_any a w F
  have C1 := compareV_any a b
  have C2 := rCompare_any a b
  generalize (⟨(showV a).toArray⟩ : ByteArray) = sh at *
  generalize cV a b = c at *
  clear hb0 F
  obtain ⟨a1, a2, a3, a4, a5⟩ := a
  obtain ⟨b1, b2, b3, b4, b5⟩ := b
  simp only [V.val] at *
  go_enter Tryd.func5, Tryd.ntmps5
  go_wp2_with fail
  refine (V1 (box2 w ⟨a1, a2, a3, a4, a5⟩ ⟨b1, b2, b3, b4, b5⟩)).mono ?_
  rintro e w1 ⟨rfl, hb⟩
  rw [z0] at hb
  have z1 : w.heap.size + 2 ≤ w1.heap.size := by have := hb.size; omega
  clear V1
  obtain ⟨q1, q2⟩ := box2_heap hb
  obtain ⟨x1, x2, x3, x4, x5⟩ := five q1
  obtain ⟨y1, y2, y3, y4, y5⟩ := five q2
  clear q1 q2
  dsimp only at x1 x2 x3 x4 x5 y1 y2 y3 y4 y5
  go_wp2_with fail
  refine (V2 _).mono ?_
  rintro e w2 ⟨rfl, hb2⟩
  replace hb := hb.trans (hb2.mono z1)
  replace z1 : w.heap.size + 2 ≤ w2.heap.size := by have := hb2.size; omega
  clear hb2 x1 x2 x3 x4 x5 y1 y2 y3 y4 y5 V2
  obtain ⟨q1, q2⟩ := box2_heap hb
  obtain ⟨x1, x2, x3, x4, x5⟩ := five q1
  obtain ⟨y1, y2, y3, y4, y5⟩ := five q2
  clear q1 q2
  dsimp only at x1 x2 x3 x4 x5 y1 y2 y3 y4 y5
  go_wp2_with fail
  refine (K1 _).mono ?_
  rintro e w3 ⟨rfl, hb2⟩
  replace hb := hb.trans (hb2.mono z1)
  replace z1 : w.heap.size + 2 ≤ w3.heap.size := by have := hb2.size; omega
  clear hb2 x1 x2 x3 x4 x5 y1 y2 y3 y4 y5 K1
  obtain ⟨q1, q2⟩ := box2_heap hb
  obtain ⟨x1, x2, x3, x4, x5⟩ := five q1
  obtain ⟨y1, y2, y3, y4, y5⟩ := five q2
  clear q1 q2
  dsimp only at x1 x2 x3 x4 x5 y1 y2 y3 y4 y5
  go_wp2_with fail
  refine (error_nil _).mono ?_
  rintro e w4 ⟨rfl, hb2⟩
  replace hb := hb.trans (hb2.mono z1)
  replace z1 : w.heap.size + 2 ≤ w4.heap.size := by have := hb2.size; omega
  clear hb2 x1 x2 x3 x4 x5 y1 y2 y3 y4 y5 
  have T4 : Tab w4 := (T.below B0).below (by rw [z0]; exact hb)
  obtain ⟨q1, q2⟩ := box2_heap hb
  obtain ⟨x1, x2, x3, x4, x5⟩ := five q1
  obtain ⟨y1, y2, y3, y4, y5⟩ := five q2
  clear q1 q2
  dsimp only at x1 x2 x3 x4 x5 y1 y2 y3 y4 y5
  go_wp2_with fail
  refine (S1 _ T4).mono ?_
  rintro e w5 ⟨rfl, hb2⟩
  replace hb := hb.trans (hb2.mono z1)
  replace z1 : w.heap.size + 2 ≤ w5.heap.size := by have := hb2.size; omega
  clear hb2 x1 x2 x3 x4 x5 y1 y2 y3 y4 y5 S1
  obtain ⟨q1, q2⟩ := box2_heap hb
  obtain ⟨x1, x2, x3, x4, x5⟩ := five q1
  obtain ⟨y1, y2, y3, y4, y5⟩ := five q2
  clear q1 q2
  dsimp only at x1 x2 x3 x4 x5 y1 y2 y3 y4 y5
  go_wp2_with fail
  refine (S2 _).mono ?_
  rintro e w6 ⟨rfl, hb2⟩
  replace hb := hb.trans (hb2.mono z1)
  replace z1 : w.heap.size + 2 ≤ w6.heap.size := by have := hb2.size; omega
  clear hb2 x1 x2 x3 x4 x5 y1 y2 y3 y4 y5 S2
  obtain ⟨q1, q2⟩ := box2_heap hb
  obtain ⟨x1, x2, x3, x4, x5⟩ := five q1
  obtain ⟨y1, y2, y3, y4, y5⟩ := five q2
  clear q1 q2
  dsimp only at x1 x2 x3 x4 x5 y1 y2 y3 y4 y5
  go_wp2_with fail
  refine (C1 _).mono ?_
  rintro e w7 ⟨rfl, hb2⟩
  replace hb := hb.trans (hb2.mono z1)
  replace z1 : w.heap.size + 2 ≤ w7.heap.size := by have := hb2.size; omega
  clear hb2 x1 x2 x3 x4 x5 y1 y2 y3 y4 y5 C1
  obtain ⟨q1, q2⟩ := box2_heap hb
  obtain ⟨x1, x2, x3, x4, x5⟩ := five q1
  obtain ⟨y1, y2, y3, y4, y5⟩ := five q2
  clear q1 q2
  dsimp only at x1 x2 x3 x4 x5 y1 y2 y3 y4 y5
  go_wp2_with fail
  refine (C2 _).mono ?_
  rintro e w8 ⟨rfl, hb2⟩
  replace hb := hb.trans (hb2.mono z1)
  replace z1 : w.heap.size + 2 ≤ w8.heap.size := by have := hb2.size; omega
  clear hb2 x1 x2 x3 x4 x5 y1 y2 y3 y4 y5 C2
  go_wp2
  go_ret
  exact ⟨by simp, B0.trans (hb.mono (by omega))⟩

theorem shows_any (a b : V) (w : World) (E : Et w) (T : Tab w) (low : -9223372036854775808 ≤ a.n) (high : a.n ≤ 9223372036854775807) :
    Calls Tryd.prog 5 #[a.val, b.val] w fun e w' => e = .returned (.bool true) ∧ Below w.heap.size w w' := by
  cases ha : okB a with
  | false => exact shows_not a b w E ha
  | true =>
    cases hb : okB b with
    | false => exact shows_one a b w ha hb
    | true => exact shows_two a b w T ha hb (fit_of a ha low high)
end Go.Proofs.YtokjlfgffloagaaDoor
