/-
  What is proved: the law ValueOrder, called with any three values, returns true, and nothing that was there has turned.
  Conditions: none.
-/
import Derived.Test.YtokjlfgffloagabCheck
namespace Go.Proofs.Ytokjlfgffloagab
open Go.RowKit Go.Sort

/-- A value in a box. -/
def boxV (v : V) : Obj := .cells #[.int .i64 v.k, .int .i64 v.n, .string v.t, .int .i64 v.o, .int .i64 v.a] 31

/-- The world in which three values lie in boxes. -/
def box3 (w : World) (a b c : V) : World := ((w.alloc (boxV a)).alloc (boxV b)).alloc (boxV c)

theorem box3_size (w : World) (a b c : V) : (box3 w a b c).heap.size = w.heap.size + 3 := by simp [box3]

theorem heap_new (w : World) (o : Obj) : (w.alloc o).heap[w.heap.size]? = some o := by
  show (w.heap.push o)[_]? = _
  simp

theorem box3_heap {w W : World} {a b c : V} (B : Below (w.heap.size + 3) (box3 w a b c) W) :
    W.heap[w.heap.size]? = some (boxV a) ∧ W.heap[w.heap.size + 1]? = some (boxV b) ∧ W.heap[w.heap.size + 1 + 1]? = some (boxV c) := by
  have z1 : (w.alloc (boxV a)).heap.size = w.heap.size + 1 := by simp
  have z2 : ((w.alloc (boxV a)).alloc (boxV b)).heap.size = w.heap.size + 1 + 1 := by simp
  refine ⟨?_, ?_, ?_⟩
  · rw [B.block _ (by omega), box3, Below.heap_alloc _ _ _ (by omega), Below.heap_alloc _ _ _ (by omega)]
    exact heap_new w _
  · rw [B.block _ (by omega), box3, Below.heap_alloc _ _ _ (by omega), ← z1]
    exact heap_new _ _
  · rw [B.block _ (by omega), box3, ← z2]
    exact heap_new _ _

theorem five {W : World} {b : Nat} {v : V} (h : W.heap[b]? = some (boxV v)) :
    W.cell? ⟨b, 0, none⟩ = some (.int .i64 v.k) ∧ W.cell? ⟨b, 1, none⟩ = some (.int .i64 v.n) ∧ W.cell? ⟨b, 2, none⟩ = some (.string v.t) ∧ W.cell? ⟨b, 3, none⟩ = some (.int .i64 v.o) ∧ W.cell? ⟨b, 4, none⟩ = some (.int .i64 v.a) :=
  ⟨Lib.cell_of_heap h 0, Lib.cell_of_heap h 1, Lib.cell_of_heap h 2, Lib.cell_of_heap h 3, Lib.cell_of_heap h 4⟩

theorem two (q : Bool) : (if q = true then Value.nilIface else .iface 42 (.int .i64 1)) = .nilIface ∨ (if q = true then Value.nilIface else .iface 42 (.int .i64 1)) = .iface 42 (.int .i64 1) := by
  cases q <;> simp

theorem fact_less : cV ⟨2, 1, .empty, 0, 0⟩ ⟨2, 2, .empty, 0, 0⟩ = -1 := by decide

set_option maxHeartbeats 4000000 in
theorem order_any (a b c : V) (w : World) :
    Calls Try.prog 4 #[a.val, b.val, c.val] w fun e w' => e = .returned (.bool true) ∧ Below w.heap.size w w' := by
  have z0 := box3_size w a b c
  have B0 : Below w.heap.size w (box3 w a b c) := (((Below.refl _ _).alloc (Nat.le_refl _) _).alloc (by simp) _).alloc (by simp; omega) _
  have H0 := compareV_any ⟨2, 1, .empty, 0, 0⟩ ⟨2, 2, .empty, 0, 0⟩
  have K1 := checkV_any a
  have K2 := checkV_any b
  have K3 := checkV_any c
  have Hab := compareV_any a b
  have Hba := compareV_any b a
  have Hbc := compareV_any b c
  have Hac := compareV_any a c
  have E := eqV a b
  have r1 := cV_range a b
  have r2 := cV_back b a
  have r3 := cV_next a b c
  have r4 : (cV a b = 0) = (sameB a b = true) := by
    rw [cV_zero]
    simp [sameB]
  rw [fact_less] at H0
  have t1 := two (okB a)
  have t2 := two (okB b)
  have t3 := two (okB c)
  generalize (if okB a = true then Value.nilIface else .iface 42 (.int .i64 1)) = ka at *
  generalize (if okB b = true then Value.nilIface else .iface 42 (.int .i64 1)) = kb at *
  generalize (if okB c = true then Value.nilIface else .iface 42 (.int .i64 1)) = kc at *
  generalize cV a b = ab at *
  generalize cV b a = ba at *
  generalize cV b c = bc at *
  generalize cV a c = ac at *
  generalize sameB a b = q at *
  obtain ⟨a1, a2, a3, a4, a5⟩ := a
  obtain ⟨b1, b2, b3, b4, b5⟩ := b
  obtain ⟨c1, c2, c3, c4, c5⟩ := c
  simp only [V.val] at *
  go_enter Try.func4, Try.ntmps4
  go_wp2_with fail
  refine (H0 (box3 w ⟨a1, a2, a3, a4, a5⟩ ⟨b1, b2, b3, b4, b5⟩ ⟨c1, c2, c3, c4, c5⟩)).mono ?_
  rintro e w1 ⟨rfl, hb⟩
  rw [z0] at hb
  have z1 : w.heap.size + 3 ≤ w1.heap.size := by have := hb.size; omega
  clear H0
  obtain ⟨q1, q2, q3⟩ := box3_heap hb
  obtain ⟨x1, x2, x3, x4, x5⟩ := five q1
  obtain ⟨y1, y2, y3, y4, y5⟩ := five q2
  obtain ⟨v1, v2, v3, v4, v5⟩ := five q3
  clear q1 q2 q3
  dsimp only at x1 x2 x3 x4 x5 y1 y2 y3 y4 y5 v1 v2 v3 v4 v5
  go_wp2_with fail
  refine (K1 _).mono ?_
  rintro e w2 ⟨rfl, hb2⟩
  replace hb := hb.trans (hb2.mono z1)
  replace z1 : w.heap.size + 3 ≤ w2.heap.size := by have := hb2.size; omega
  clear hb2 x1 x2 x3 x4 x5 y1 y2 y3 y4 y5 v1 v2 v3 v4 v5 K1
  obtain ⟨q1, q2, q3⟩ := box3_heap hb
  obtain ⟨x1, x2, x3, x4, x5⟩ := five q1
  obtain ⟨y1, y2, y3, y4, y5⟩ := five q2
  obtain ⟨v1, v2, v3, v4, v5⟩ := five q3
  clear q1 q2 q3
  dsimp only at x1 x2 x3 x4 x5 y1 y2 y3 y4 y5 v1 v2 v3 v4 v5
  go_wp2_with fail
  refine (K2 _).mono ?_
  rintro e w3 ⟨rfl, hb2⟩
  replace hb := hb.trans (hb2.mono z1)
  replace z1 : w.heap.size + 3 ≤ w3.heap.size := by have := hb2.size; omega
  clear hb2 x1 x2 x3 x4 x5 y1 y2 y3 y4 y5 v1 v2 v3 v4 v5 K2
  obtain ⟨q1, q2, q3⟩ := box3_heap hb
  obtain ⟨x1, x2, x3, x4, x5⟩ := five q1
  obtain ⟨y1, y2, y3, y4, y5⟩ := five q2
  obtain ⟨v1, v2, v3, v4, v5⟩ := five q3
  clear q1 q2 q3
  dsimp only at x1 x2 x3 x4 x5 y1 y2 y3 y4 y5 v1 v2 v3 v4 v5
  go_wp2_with fail
  refine (K3 _).mono ?_
  rintro e w4 ⟨rfl, hb2⟩
  replace hb := hb.trans (hb2.mono z1)
  replace z1 : w.heap.size + 3 ≤ w4.heap.size := by have := hb2.size; omega
  clear hb2 x1 x2 x3 x4 x5 y1 y2 y3 y4 y5 v1 v2 v3 v4 v5 K3
  rcases t1 with rfl | rfl
  · rcases t2 with rfl | rfl
    · rcases t3 with rfl | rfl
      · obtain ⟨q1, q2, q3⟩ := box3_heap hb
        obtain ⟨x1, x2, x3, x4, x5⟩ := five q1
        obtain ⟨y1, y2, y3, y4, y5⟩ := five q2
        obtain ⟨v1, v2, v3, v4, v5⟩ := five q3
        clear q1 q2 q3
        dsimp only at x1 x2 x3 x4 x5 y1 y2 y3 y4 y5 v1 v2 v3 v4 v5
        go_wp2_with fail
        refine (Hab _).mono ?_
        rintro e w5 ⟨rfl, hb2⟩
        replace hb := hb.trans (hb2.mono z1)
        replace z1 : w.heap.size + 3 ≤ w5.heap.size := by have := hb2.size; omega
        clear hb2 x1 x2 x3 x4 x5 y1 y2 y3 y4 y5 v1 v2 v3 v4 v5 Hab
        obtain ⟨q1, q2, q3⟩ := box3_heap hb
        obtain ⟨x1, x2, x3, x4, x5⟩ := five q1
        obtain ⟨y1, y2, y3, y4, y5⟩ := five q2
        obtain ⟨v1, v2, v3, v4, v5⟩ := five q3
        clear q1 q2 q3
        dsimp only at x1 x2 x3 x4 x5 y1 y2 y3 y4 y5 v1 v2 v3 v4 v5
        go_wp2_with fail
        refine (Hba _).mono ?_
        rintro e w6 ⟨rfl, hb2⟩
        replace hb := hb.trans (hb2.mono z1)
        replace z1 : w.heap.size + 3 ≤ w6.heap.size := by have := hb2.size; omega
        clear hb2 x1 x2 x3 x4 x5 y1 y2 y3 y4 y5 v1 v2 v3 v4 v5 Hba
        obtain ⟨q1, q2, q3⟩ := box3_heap hb
        obtain ⟨x1, x2, x3, x4, x5⟩ := five q1
        obtain ⟨y1, y2, y3, y4, y5⟩ := five q2
        obtain ⟨v1, v2, v3, v4, v5⟩ := five q3
        clear q1 q2 q3
        dsimp only at x1 x2 x3 x4 x5 y1 y2 y3 y4 y5 v1 v2 v3 v4 v5
        go_wp2_with fail
        refine (Hbc _).mono ?_
        rintro e w7 ⟨rfl, hb2⟩
        replace hb := hb.trans (hb2.mono z1)
        replace z1 : w.heap.size + 3 ≤ w7.heap.size := by have := hb2.size; omega
        clear hb2 x1 x2 x3 x4 x5 y1 y2 y3 y4 y5 v1 v2 v3 v4 v5 Hbc
        obtain ⟨q1, q2, q3⟩ := box3_heap hb
        obtain ⟨x1, x2, x3, x4, x5⟩ := five q1
        obtain ⟨y1, y2, y3, y4, y5⟩ := five q2
        obtain ⟨v1, v2, v3, v4, v5⟩ := five q3
        clear q1 q2 q3
        dsimp only at x1 x2 x3 x4 x5 y1 y2 y3 y4 y5 v1 v2 v3 v4 v5
        go_wp2_with fail
        refine (Hac _).mono ?_
        rintro e w8 ⟨rfl, hb2⟩
        replace hb := hb.trans (hb2.mono z1)
        replace z1 : w.heap.size + 3 ≤ w8.heap.size := by have := hb2.size; omega
        clear hb2 x1 x2 x3 x4 x5 y1 y2 y3 y4 y5 v1 v2 v3 v4 v5 Hac
        obtain ⟨q1, q2, q3⟩ := box3_heap hb
        obtain ⟨x1, x2, x3, x4, x5⟩ := five q1
        obtain ⟨y1, y2, y3, y4, y5⟩ := five q2
        obtain ⟨v1, v2, v3, v4, v5⟩ := five q3
        clear q1 q2 q3
        dsimp only at x1 x2 x3 x4 x5 y1 y2 y3 y4 y5 v1 v2 v3 v4 v5
        clear v1 v2 v3 v4 v5
        rcases r1 with rfl | rfl | rfl
        · have hq : q = false := by cases q <;> simp_all
          subst hq
          clear r4
          by_cases g : 0 < bc
          · clear r3
            go_wp2
            go_ret
            exact ⟨rfl, B0.trans (hb.mono (by omega))⟩
          · have g2 : ac ≤ 0 := r3 (by omega) (by omega)
            clear r3
            go_wp2
            go_ret
            exact ⟨rfl, B0.trans (hb.mono (by omega))⟩
        · have hq : q = true := by cases q <;> simp_all
          subst hq
          clear r4
          by_cases g : 0 < bc
          · clear r3
            go_wp2
            go_ret
            exact ⟨rfl, B0.trans (hb.mono (by omega))⟩
          · have g2 : ac ≤ 0 := r3 (by omega) (by omega)
            clear r3
            go_wp2
            go_ret
            exact ⟨rfl, B0.trans (hb.mono (by omega))⟩
        · have hq : q = false := by cases q <;> simp_all
          subst hq
          clear r4
          clear r3
          go_wp2
          go_ret
          exact ⟨rfl, B0.trans (hb.mono (by omega))⟩
      · go_wp2
        go_ret
        exact ⟨rfl, B0.trans (hb.mono (by omega))⟩
    · go_wp2
      go_ret
      exact ⟨rfl, B0.trans (hb.mono (by omega))⟩
  · go_wp2
    go_ret
    exact ⟨rfl, B0.trans (hb.mono (by omega))⟩
end Go.Proofs.Ytokjlfgffloagab
