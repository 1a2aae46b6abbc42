/-
  What is proved: the function Unpack of package bytes, called with any bytes, answers as it should, and nothing that was there has turned.
  Conditions: the bytes lie in memory.
-/
import Derived.Test.YtkmjlpmjhffgbaaDoorPackWalk
namespace Go.Proofs.YtkmjlpmjhffgbaaDoor
open Go.RowKit

/-- What getCount answers. -/
def cntV (o : Option (Nat × Nat)) : Value :=
  match o with
  | some (n, k) => if n ≤ 400 then .tuple #[.int .i64 n, .int .i64 k, .nilIface] else .tuple #[.int .i64 0, .int .i64 0, .iface 66 (.int .i64 9)]
  | none => .tuple #[.int .i64 0, .int .i64 0, .iface 66 (.int .i64 9)]

set_option maxHeartbeats 1000000 in
theorem getCount_any (v : Value) (l : List UInt8) (w : World) (hv : IsBytes w v l) :
    Calls Tryd.prog 31 #[v] w fun e w' => e = .returned (cntV (get l)) ∧ Below w.heap.size w w' := by
  have G := get_any v l w hv
  obtain ⟨a, cap, rfl, _⟩ := id hv
  cases hG : get l with
  | none =>
    rw [hG] at G
    unfold getV at G
    unfold cntV
    go_enter Tryd.func31, Tryd.ntmps31
    go_wp2_with fail
    refine G.mono ?_
    rintro e w1 ⟨rfl, b1⟩
    go_wp2
    go_returns
    exact ⟨rfl, b1⟩
  | some q =>
    obtain ⟨n, k⟩ := q
    rw [hG] at G
    unfold getV at G
    unfold cntV
    have hr := (get_some hG).2.1
    clear hG
    by_cases hn : n ≤ 400
    · have g1 : ¬ (400 : Int) < n := by omega
      simp only [hn, if_true]
      go_enter Tryd.func31, Tryd.ntmps31
      go_wp2_with fail
      refine G.mono ?_
      rintro e w1 ⟨rfl, b1⟩
      go_wp2
      go_returns
      exact ⟨rfl, b1⟩
    · have g1 : (400 : Int) < n := by omega
      simp only [hn, if_false]
      go_enter Tryd.func31, Tryd.ntmps31
      go_wp2_with fail
      refine G.mono ?_
      rintro e w1 ⟨rfl, b1⟩
      go_wp2
      go_returns
      exact ⟨rfl, b1⟩

/-- What getPiece answers. -/
def gpV (o : Option (Nat × Int × Nat)) : Value :=
  match o with
  | some (m, d, k) => .tuple #[.agg #[.int .i64 m, .int .i64 d], .int .i64 k, .nilIface]
  | none => .tuple #[.agg #[.int .i64 0, .int .i64 0], .int .i64 0, .iface 66 (.int .i64 9)]

theorem box_set {w : World} {g : Nat} {a b : Value} (h0 : w.cell? ⟨g, 0, none⟩ = some a) (h1 : w.cell? ⟨g, 1, none⟩ = some b) (u t : Value) :
    ((w.setCell ⟨g, 0, none⟩ u).setCell ⟨g, 1, none⟩ t).cell? ⟨g, 0, none⟩ = some u ∧ ((w.setCell ⟨g, 0, none⟩ u).setCell ⟨g, 1, none⟩ t).cell? ⟨g, 1, none⟩ = some t :=
  ⟨(World.cell?_setCell_other _ _ _ _ (fun e => by injection e with _ e; cases e)).trans (World.cell?_setCell_same _ _ _ h0),
    World.cell?_setCell_same _ _ _ ((World.cell?_setCell_other _ _ _ _ (fun e => by injection e with _ e; cases e)).trans h1)⟩

theorem isBytes_nil (w : World) (a : Option Addr) (c : Nat) : IsBytes w (.slice a 0 c) [] := ⟨a, c, rfl, by simp, by simp, fun h => absurd rfl h⟩

theorem get_nil : get [] = none := rfl

set_option maxHeartbeats 1000000 in
theorem getPiece_any (v : Value) (l : List UInt8) (w : World) (hv : IsBytes w v l) :
    Calls Tryd.prog 32 #[v] w fun e w' => e = .returned (gpV (getP l)) ∧ Below w.heap.size w w' := by
  have BA : Below w.heap.size w (w.alloc (.cells #[.int .i64 0, .int .i64 0] 42)) := (Below.refl _ w).alloc (Nat.le_refl _) _
  have C := getCount_any v l _ (hv.below BA)
  have hbx : (w.alloc (.cells #[.int .i64 0, .int .i64 0] 42)).heap[w.heap.size]? = some (.cells #[.int .i64 0, .int .i64 0] 42) := (MapKept.heap_alloc w _).1
  obtain ⟨a, cap, rfl, h1, h2, h3⟩ := id hv
  cases hG : get l with
  | none =>
    have HP : Hid (getP l = none) := by
      show _ = _
      unfold getP
      rw [hG]
    rw [hG] at C
    unfold cntV at C
    clear hG
    go_enter Tryd.func32, Tryd.ntmps32
    go_wp2_with fail
    refine C.mono ?_
    rintro e w1 ⟨rfl, b1⟩
    have hb1 := heap_below hbx b1 (Nat.le_refl _)
    have c0 : w1.cell? ⟨w.heap.size, 0, none⟩ = some (.int .i64 0) := Lib.cell_of_heap hb1 0
    have c1 : w1.cell? ⟨w.heap.size, 1, none⟩ = some (.int .i64 0) := Lib.cell_of_heap hb1 1
    have cf := Lib.frozen_of_heap hb1
    have B1 : Below w.heap.size w w1 := BA.trans (b1.mono BA.size)
    go_wp2
    obtain ⟨q0, q1⟩ := box_set c0 c1 (.int .i64 0) (.int .i64 0)
    have BF : Below w.heap.size w ((w1.setCell ⟨w.heap.size, 0, none⟩ (.int .i64 0)).setCell ⟨w.heap.size, 1, none⟩ (.int .i64 0)) := (B1.setCell (Nat.le_refl _) _).setCell (Nat.le_refl _) _
    generalize (w1.setCell ⟨w.heap.size, 0, none⟩ (.int .i64 0)).setCell ⟨w.heap.size, 1, none⟩ (.int .i64 0) = W at *
    exact bodyPost_ret (v := .tuple #[.agg #[.int .i64 0, .int .i64 0], .int .i64 0, .iface 66 (.int .i64 9)]) (by simp [results, Tryd.results32, go_sem, q0, q1]) rfl ⟨by rw [HP.out]; rfl, BF⟩
  | some q =>
    obtain ⟨n, k⟩ := q
    obtain ⟨e1, e2, e3, e4, e5⟩ := get_some hG
    rw [hG] at C
    unfold cntV at C
    by_cases hn : 1 ≤ n ∧ n ≤ 400
    · simp only [hn.2, if_true] at C
      obtain ⟨b, off, rfl, h4, h5⟩ := h3 (fun e => by rw [e] at e4; simp at e4; omega)
      have g1 : ¬ (n : Int) < 1 := by omega
      rcases Nat.lt_or_ge k cap with hkc | hkc
      · have D := hv.drop k e4
        have S := fun (w1 : World) (hb : Below w.heap.size w w1) => getSigned_any _ _ w1 (D.below hb)
        cases hG2 : get (l.drop k) with
        | none =>
          have HP : Hid (getP l = none) := by
            show _ = _
            unfold getP
            rw [hG]
            simp only
            rw [if_pos hn, hG2]
          rw [hG2] at S
          unfold getSV at S
          clear hG hG2 e1 h3 h5 D
          go_enter Tryd.func32, Tryd.ntmps32
          go_wp2_with fail
          refine C.mono ?_
          rintro e w1 ⟨rfl, b1⟩
          have hb1 := heap_below hbx b1 (Nat.le_refl _)
          have c0 : w1.cell? ⟨w.heap.size, 0, none⟩ = some (.int .i64 0) := Lib.cell_of_heap hb1 0
          have c1 : w1.cell? ⟨w.heap.size, 1, none⟩ = some (.int .i64 0) := Lib.cell_of_heap hb1 1
          have cf := Lib.frozen_of_heap hb1
          have B1 : Below w.heap.size w w1 := BA.trans (b1.mono BA.size)
          go_wp2_with fail
          refine (S _ B1).mono ?_
          rintro e w2 ⟨rfl, b2⟩
          clear c0 c1 cf
          have hb2 := heap_below hb1 b2 (Nat.le_refl _)
          have c0 : w2.cell? ⟨w.heap.size, 0, none⟩ = some (.int .i64 0) := Lib.cell_of_heap hb2 0
          have c1 : w2.cell? ⟨w.heap.size, 1, none⟩ = some (.int .i64 0) := Lib.cell_of_heap hb2 1
          have cf := Lib.frozen_of_heap hb2
          have B2 : Below w.heap.size w w2 := B1.trans (b2.mono B1.size)
          go_wp2
          obtain ⟨q0, q1⟩ := box_set c0 c1 (.int .i64 0) (.int .i64 0)
          have BF : Below w.heap.size w ((w2.setCell ⟨w.heap.size, 0, none⟩ (.int .i64 0)).setCell ⟨w.heap.size, 1, none⟩ (.int .i64 0)) := (B2.setCell (Nat.le_refl _) _).setCell (Nat.le_refl _) _
          generalize (w2.setCell ⟨w.heap.size, 0, none⟩ (.int .i64 0)).setCell ⟨w.heap.size, 1, none⟩ (.int .i64 0) = W at *
          exact bodyPost_ret (v := .tuple #[.agg #[.int .i64 0, .int .i64 0], .int .i64 0, .iface 66 (.int .i64 9)]) (by simp [results, Tryd.results32, go_sem, q0, q1]) rfl ⟨by rw [HP.out]; rfl, BF⟩
        | some q =>
          obtain ⟨d, j⟩ := q
          obtain ⟨f1, f2, f3, f4, f5⟩ := get_some hG2
          have HP : Hid (getP l = some (n, zag d, k + j)) := by
            show _ = _
            unfold getP
            rw [hG]
            simp only
            rw [if_pos hn, hG2]
          rw [hG2] at S
          unfold getSV at S
          clear hG hG2 e1 h3 h5 D f1 f4
          go_enter Tryd.func32, Tryd.ntmps32
          go_wp2_with fail
          refine C.mono ?_
          rintro e w1 ⟨rfl, b1⟩
          have hb1 := heap_below hbx b1 (Nat.le_refl _)
          have c0 : w1.cell? ⟨w.heap.size, 0, none⟩ = some (.int .i64 0) := Lib.cell_of_heap hb1 0
          have c1 : w1.cell? ⟨w.heap.size, 1, none⟩ = some (.int .i64 0) := Lib.cell_of_heap hb1 1
          have cf := Lib.frozen_of_heap hb1
          have B1 : Below w.heap.size w w1 := BA.trans (b1.mono BA.size)
          go_wp2_with fail
          refine (S _ B1).mono ?_
          rintro e w2 ⟨rfl, b2⟩
          clear c0 c1 cf
          have hb2 := heap_below hb1 b2 (Nat.le_refl _)
          have c0 : w2.cell? ⟨w.heap.size, 0, none⟩ = some (.int .i64 0) := Lib.cell_of_heap hb2 0
          have c1 : w2.cell? ⟨w.heap.size, 1, none⟩ = some (.int .i64 0) := Lib.cell_of_heap hb2 1
          have cf := Lib.frozen_of_heap hb2
          have B2 : Below w.heap.size w w2 := B1.trans (b2.mono B1.size)
          go_wp2
          obtain ⟨q0, q1⟩ := box_set c0 c1 (.int .i64 (n : Int)) (.int .i64 (zag d))
          have BF : Below w.heap.size w ((w2.setCell ⟨w.heap.size, 0, none⟩ (.int .i64 (n : Int))).setCell ⟨w.heap.size, 1, none⟩ (.int .i64 (zag d))) := (B2.setCell (Nat.le_refl _) _).setCell (Nat.le_refl _) _
          generalize (w2.setCell ⟨w.heap.size, 0, none⟩ (.int .i64 (n : Int))).setCell ⟨w.heap.size, 1, none⟩ (.int .i64 (zag d)) = W at *
          exact bodyPost_ret (v := .tuple #[.agg #[.int .i64 (n : Int), .int .i64 (zag d)], .int .i64 ((k : Int) + (j : Int)), .nilIface]) (by simp [results, Tryd.results32, go_sem, q0, q1]) rfl ⟨by rw [HP.out]; simp [gpV], BF⟩
      · obtain rfl : cap = k := by omega
        have hd : l.drop cap = [] := List.drop_eq_nil_of_le (by omega)
        have hl0 : l.length - cap = 0 := by omega
        have S := fun (w1 : World) (_ : Below w.heap.size w w1) => getSigned_any (.slice (some ⟨b, off, none⟩) 0 0) [] w1 (isBytes_nil w1 _ 0)
        rw [get_nil] at S
        unfold getSV at S
        have HP : Hid (getP l = none) := by
          show _ = _
          unfold getP
          rw [hG]
          simp only
          rw [if_pos hn, hd, get_nil]
        clear hG e1 h3 h5 hd
        go_enter Tryd.func32, Tryd.ntmps32
        go_wp2_with fail
        refine C.mono ?_
        rintro e w1 ⟨rfl, b1⟩
        have hb1 := heap_below hbx b1 (Nat.le_refl _)
        have c0 : w1.cell? ⟨w.heap.size, 0, none⟩ = some (.int .i64 0) := Lib.cell_of_heap hb1 0
        have c1 : w1.cell? ⟨w.heap.size, 1, none⟩ = some (.int .i64 0) := Lib.cell_of_heap hb1 1
        have cf := Lib.frozen_of_heap hb1
        have B1 : Below w.heap.size w w1 := BA.trans (b1.mono BA.size)
        go_wp2_with fail
        refine (S _ B1).mono ?_
        rintro e w2 ⟨rfl, b2⟩
        clear c0 c1 cf
        have hb2 := heap_below hb1 b2 (Nat.le_refl _)
        have c0 : w2.cell? ⟨w.heap.size, 0, none⟩ = some (.int .i64 0) := Lib.cell_of_heap hb2 0
        have c1 : w2.cell? ⟨w.heap.size, 1, none⟩ = some (.int .i64 0) := Lib.cell_of_heap hb2 1
        have cf := Lib.frozen_of_heap hb2
        have B2 : Below w.heap.size w w2 := B1.trans (b2.mono B1.size)
        go_wp2
        obtain ⟨q0, q1⟩ := box_set c0 c1 (.int .i64 0) (.int .i64 0)
        have BF : Below w.heap.size w ((w2.setCell ⟨w.heap.size, 0, none⟩ (.int .i64 0)).setCell ⟨w.heap.size, 1, none⟩ (.int .i64 0)) := (B2.setCell (Nat.le_refl _) _).setCell (Nat.le_refl _) _
        generalize (w2.setCell ⟨w.heap.size, 0, none⟩ (.int .i64 0)).setCell ⟨w.heap.size, 1, none⟩ (.int .i64 0) = W at *
        exact bodyPost_ret (v := .tuple #[.agg #[.int .i64 0, .int .i64 0], .int .i64 0, .iface 66 (.int .i64 9)]) (by simp [results, Tryd.results32, go_sem, q0, q1]) rfl ⟨by rw [HP.out]; rfl, BF⟩
    · have HP : Hid (getP l = none) := by
        show _ = _
        unfold getP
        rw [hG]
        simp only
        rw [if_neg hn]
      clear hG e1 h3
      by_cases h400 : n ≤ 400
      · have g1 : (n : Int) < 1 := by omega
        simp only [h400, if_true] at C
        go_enter Tryd.func32, Tryd.ntmps32
        go_wp2_with fail
        refine C.mono ?_
        rintro e w1 ⟨rfl, b1⟩
        have hb1 := heap_below hbx b1 (Nat.le_refl _)
        have c0 : w1.cell? ⟨w.heap.size, 0, none⟩ = some (.int .i64 0) := Lib.cell_of_heap hb1 0
        have c1 : w1.cell? ⟨w.heap.size, 1, none⟩ = some (.int .i64 0) := Lib.cell_of_heap hb1 1
        have cf := Lib.frozen_of_heap hb1
        have B1 : Below w.heap.size w w1 := BA.trans (b1.mono BA.size)
        go_wp2
        obtain ⟨q0, q1⟩ := box_set c0 c1 (.int .i64 0) (.int .i64 0)
        have BF : Below w.heap.size w ((w1.setCell ⟨w.heap.size, 0, none⟩ (.int .i64 0)).setCell ⟨w.heap.size, 1, none⟩ (.int .i64 0)) := (B1.setCell (Nat.le_refl _) _).setCell (Nat.le_refl _) _
        generalize (w1.setCell ⟨w.heap.size, 0, none⟩ (.int .i64 0)).setCell ⟨w.heap.size, 1, none⟩ (.int .i64 0) = W at *
        exact bodyPost_ret (v := .tuple #[.agg #[.int .i64 0, .int .i64 0], .int .i64 0, .iface 66 (.int .i64 9)]) (by simp [results, Tryd.results32, go_sem, q0, q1]) rfl ⟨by rw [HP.out]; rfl, BF⟩
      · simp only [h400, if_false] at C
        go_enter Tryd.func32, Tryd.ntmps32
        go_wp2_with fail
        refine C.mono ?_
        rintro e w1 ⟨rfl, b1⟩
        have hb1 := heap_below hbx b1 (Nat.le_refl _)
        have c0 : w1.cell? ⟨w.heap.size, 0, none⟩ = some (.int .i64 0) := Lib.cell_of_heap hb1 0
        have c1 : w1.cell? ⟨w.heap.size, 1, none⟩ = some (.int .i64 0) := Lib.cell_of_heap hb1 1
        have cf := Lib.frozen_of_heap hb1
        have B1 : Below w.heap.size w w1 := BA.trans (b1.mono BA.size)
        go_wp2
        obtain ⟨q0, q1⟩ := box_set c0 c1 (.int .i64 0) (.int .i64 0)
        have BF : Below w.heap.size w ((w1.setCell ⟨w.heap.size, 0, none⟩ (.int .i64 0)).setCell ⟨w.heap.size, 1, none⟩ (.int .i64 0)) := (B1.setCell (Nat.le_refl _) _).setCell (Nat.le_refl _) _
        generalize (w1.setCell ⟨w.heap.size, 0, none⟩ (.int .i64 0)).setCell ⟨w.heap.size, 1, none⟩ (.int .i64 0) = W at *
        exact bodyPost_ret (v := .tuple #[.agg #[.int .i64 0, .int .i64 0], .int .i64 0, .iface 66 (.int .i64 9)]) (by simp [results, Tryd.results32, go_sem, q0, q1]) rfl ⟨by rw [HP.out]; rfl, BF⟩

end Go.Proofs.YtkmjlpmjhffgbaaDoor
