/-
  What is proved: Go's cmp.Compare of numbers and of texts, cmp.Or of four numbers, and package value's Compare return how the two compare, and nothing that was there has turned.
  Conditions: as each theorem says; none on the world.
-/
import Derived.Test.YtokjlfgffloagaaDoorOrder
import Derived.Deep.RegionHeld3
import Derived.Handy
namespace Go.Proofs.YtokjlfgffloagaaDoor
open Go.RowKit Go.Sort

set_option maxHeartbeats 400000 in
theorem compareI_any (x y : Int) (w : World) :
    Calls Tryd.prog 38 #[.int .i64 x, .int .i64 y] w fun e w' => e = .returned (.int .i64 (cI x y)) ∧ w' = w := by
  unfold cI
  by_cases h1 : x < y
  · go_enter Tryd.func38, Tryd.ntmps38
    go_wp2
    go_ret
    exact ⟨by simp, rfl⟩
  · by_cases h2 : y < x
    · go_enter Tryd.func38, Tryd.ntmps38
      go_wp2
      go_ret
      exact ⟨by simp, rfl⟩
    · go_enter Tryd.func38, Tryd.ntmps38
      go_wp2
      go_ret
      exact ⟨by simp, rfl⟩

set_option maxHeartbeats 400000 in
theorem compareS_any (x y : ByteArray) (w : World) :
    Calls Tryd.prog 39 #[.string x, .string y] w fun e w' => e = .returned (.int .i64 (cS x.toList y.toList)) ∧ w' = w := by
  unfold cS
  by_cases h1 : x.toList < y.toList
  · have g1 : Op.bytesLess x.toList y.toList = true := by rw [bytesLess_eq]; simpa using h1
    go_enter Tryd.func39, Tryd.ntmps39
    go_wp2
    go_ret
    exact ⟨by simp, rfl⟩
  · have g1 : Op.bytesLess x.toList y.toList = false := by rw [bytesLess_eq]; simpa using h1
    by_cases h2 : x.toList = y.toList
    · have g2 : (x.toList == y.toList) = true := by simpa using h2
      have r : (if x.toList < y.toList then (-1 : Int) else if x.toList = y.toList then 0 else 1) = 0 := by rw [if_neg h1, if_pos h2]
      rw [r]
      clear h1 h2 r
      go_enter Tryd.func39, Tryd.ntmps39
      go_wp2
      go_ret
      exact ⟨rfl, rfl⟩
    · have g2 : (x.toList == y.toList) = false := by simpa using h2
      have r : (if x.toList < y.toList then (-1 : Int) else if x.toList = y.toList then 0 else 1) = 1 := by rw [if_neg h1, if_neg h2]
      rw [r]
      clear h1 h2 r
      go_enter Tryd.func39, Tryd.ntmps39
      go_wp2
      go_ret
      exact ⟨rfl, rfl⟩

set_option maxHeartbeats 400000 in
theorem compareIds_any (n a m b : Int) (w : World) :
    Calls Tryd.prog 40 #[.agg #[.int .i64 n, .int .i64 a], .agg #[.int .i64 m, .int .i64 b]] w fun e w' => e = .returned (.int .i64 (cId (n, a) (m, b))) ∧ Below w.heap.size w w' := by
  unfold cId
  dsimp only
  cases hx : lessB n a m b with
  | true =>
    go_enter Tryd.func40, Tryd.ntmps40
    go_wp2_with (go_at_call 11; refine (less_any n a m b _).mono ?_; rintro e w1 ⟨rfl, hb⟩; rw [hx])
    go_ret
    exact ⟨by simp, (((Below.refl _ _).alloc (Nat.le_refl _) _).alloc (by simp) _).trans (hb.mono (by simp; omega))⟩
  | false =>
    go_enter Tryd.func40, Tryd.ntmps40
    go_wp2_with fail
    refine (less_any n a m b _).mono ?_
    rintro e w1 ⟨rfl, hb⟩
    rw [hx]
    have B1 : Below w.heap.size w w1 := (((Below.refl _ _).alloc (Nat.le_refl _) _).alloc (by simp) _).trans (hb.mono (by simp; omega))
    have hz := hb.size
    have c0 := hb.cell (p := ⟨w.heap.size, 0, none⟩) (by simp; omega)
    have c1 := hb.cell (p := ⟨w.heap.size, 1, none⟩) (by simp; omega)
    have d0 := hb.cell (p := ⟨w.heap.size + 1, 0, none⟩) (by simp)
    have d1 := hb.cell (p := ⟨w.heap.size + 1, 1, none⟩) (by simp)
    simp at c0 c1 d0 d1 hz
    cases hy : lessB m b n a with
    | true =>
      go_wp2_with (go_at_call 11; refine (less_any m b n a _).mono ?_; rintro e w2 ⟨rfl, hb2⟩; rw [hy])
      go_ret
      exact ⟨by simp, B1.trans (hb2.mono (by omega))⟩
    | false =>
      go_wp2_with (go_at_call 11; refine (less_any m b n a _).mono ?_; rintro e w2 ⟨rfl, hb2⟩; rw [hy])
      go_ret
      exact ⟨by simp, B1.trans (hb2.mono (by omega))⟩

set_option maxHeartbeats 400000 in
theorem or4_any (x y z u : Int) (g : Nat) (w : World) (h0 : w.cell? ⟨g, 0, none⟩ = some (.int .i64 x)) (h1 : w.cell? ⟨g, 1, none⟩ = some (.int .i64 y)) (h2 : w.cell? ⟨g, 2, none⟩ = some (.int .i64 z)) (h3 : w.cell? ⟨g, 3, none⟩ = some (.int .i64 u)) :
    Calls Tryd.prog 37 #[.slice (some ⟨g, 0, none⟩) 4 4] w fun e w' => e = .returned (.int .i64 (or2 x (or2 y (or2 z u)))) ∧ w' = w := by
  unfold or2
  by_cases k0 : x = 0
  · subst k0
    by_cases k1 : y = 0
    · subst k1
      by_cases k2 : z = 0
      · subst k2
        by_cases k3 : u = 0
        · subst k3
          go_enter Tryd.func37, Tryd.ntmps37
          go_wp2
          go_rounds 5
          go_ret
          exact ⟨by simp, rfl⟩
        · go_enter Tryd.func37, Tryd.ntmps37
          go_wp2
          go_rounds 5
          go_ret
          exact ⟨by simp, rfl⟩
      · go_enter Tryd.func37, Tryd.ntmps37
        go_wp2
        go_rounds 5
        go_ret
        exact ⟨by simp, rfl⟩
    · go_enter Tryd.func37, Tryd.ntmps37
      go_wp2
      go_rounds 5
      go_ret
      exact ⟨by simp, rfl⟩
  · go_enter Tryd.func37, Tryd.ntmps37
    go_wp2
    go_rounds 5
    go_ret
    exact ⟨by simp, rfl⟩

set_option maxHeartbeats 2000000 in
theorem compareV_any (v u : V) (w : World) :
    Calls Tryd.prog 19 #[v.val, u.val] w fun e w' => e = .returned (.int .i64 (cV v u)) ∧ Below w.heap.size w w' := by
  obtain ⟨k, n, t, o, a⟩ := v
  obtain ⟨k', n', t', o', a'⟩ := u
  unfold V.val cV
  dsimp only
  go_enter Tryd.func19, Tryd.ntmps19
  go_wp2
  go_region_held3 (fun W => W.cell? ⟨w.heap.size, 0, none⟩ = some (.int .i64 k) ∧ W.cell? ⟨w.heap.size, 1, none⟩ = some (.int .i64 n) ∧ W.cell? ⟨w.heap.size, 2, none⟩ = some (.string t) ∧ W.cell? ⟨w.heap.size, 3, none⟩ = some (.int .i64 o) ∧ W.cell? ⟨w.heap.size, 4, none⟩ = some (.int .i64 a) ∧ W.cell? ⟨w.heap.size + 1, 0, none⟩ = some (.int .i64 k') ∧ W.cell? ⟨w.heap.size + 1, 1, none⟩ = some (.int .i64 n') ∧ W.cell? ⟨w.heap.size + 1, 2, none⟩ = some (.string t') ∧ W.cell? ⟨w.heap.size + 1, 3, none⟩ = some (.int .i64 o') ∧ W.cell? ⟨w.heap.size + 1, 4, none⟩ = some (.int .i64 a')) (first | go_keep | (refine ⟨?_, ?_, ?_, ?_, ?_, ?_, ?_, ?_, ?_, ?_⟩ <;> (refine (hb.cell ?_).trans ?_ <;> first | (simp; done) | (simp; omega)))) (first
    | (go_at_call 38; refine (compareI_any _ _ _).mono ?_; rintro e w' ⟨rfl, rfl⟩)
    | (go_at_call 39; refine (compareS_any _ _ _).mono ?_; rintro e w' ⟨rfl, rfl⟩)
    | (go_at_call 40; refine (compareIds_any _ _ _ _ _).mono ?_; rintro e w1 ⟨rfl, hb⟩)
    | (go_at_call 37; refine (or4_any _ _ _ _ _ _ (by simp; rfl) (by simp; rfl) (by simp; rfl) (by simp; rfl)).mono ?_; rintro e w' ⟨rfl, rfl⟩))
  go_wp2
  go_ret
  exact ⟨rfl, (((((Below.refl _ _).alloc (Nat.le_refl _) _).alloc (by simp) _).drew).trans (hb.mono (by simp; omega))).alloc (by have := hb.size; simp at this; omega) _⟩
end Go.Proofs.YtokjlfgffloagaaDoor
