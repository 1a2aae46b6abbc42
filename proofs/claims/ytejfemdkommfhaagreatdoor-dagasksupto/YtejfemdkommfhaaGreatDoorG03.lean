/-
  What is proved: as each theorem says.
  Conditions: as each theorem says.
-/
import Derived.Test.YtejfemdkommfhaaGreatDoorG02
namespace Go.Proofs.YtejfemdkommfhaaGreatDoor
open Go.RowKit
theorem all_take {l : List Pr} {f : Pr → Bool} (k : Nat) (hk : k < l.length) (h : (l.take k).all f = true) (e : f l[k] = true) : (l.take (k + 1)).all f = true := by
 rw [take_snoc l k hk, List.all_append, h]
 simp [e]
theorem all_no {l : List Pr} {f : Pr → Bool} (k : Nat) (hk : k < l.length) (e : f l[k] = false) : l.all f = false := by
 rw [List.all_eq_false]
 exact ⟨l[k], List.getElem_mem hk, by simp [e]⟩
set_option maxRecDepth 100000 in
set_option maxHeartbeats 4000000 in
theorem idRefs_any (v : Value) (l : List Pr) (w : World) (hv : IsPairs w v l) :
 Calls Tryz.prog 40 #[v] w fun e w' => e = .returned (errV (refsC l)) ∧ Below w.heap.size w w' := by
 obtain ⟨a, cap, rfl, h1, h2, hr, h3⟩ := hv
 go_enter Tryz.func40, Tryz.ntmps40
 go_wp2_with fail
 go_loopw [8] (fun i wr => ∃ k : Nat, k ≤ l.length ∧ i = .int .i64 k ∧ (l.take k).all refB = true ∧ Below w.heap.size w wr) (fun i _ => l.length - (RowKit.intOf i).toNat)
 case atStart => exact ⟨0, Nat.zero_le _, rfl, by simp, Below.refl _ _⟩
 case round =>
  obtain ⟨k, hk, rfl, hall, hbel⟩ := hrel
  have hz := hbel.size
  by_cases hlt : k < l.length
  ·obtain ⟨b, off, rfl, h4, h5⟩ := h3 (fun e => by rw [e] at hlt; simp at hlt)
   have x0 : wr.cell? ⟨b, off + k * 2, none⟩ = some (.int .i64 l[k].1) := by rw [hbel.cell (p := ⟨b, off + k * 2, none⟩) h4]; exact (h5 k hlt).1
   have x1 : wr.cell? ⟨b, off + k * 2 + 1, none⟩ = some (.int .i64 l[k].2) := by rw [hbel.cell (p := ⟨b, off + k * 2 + 1, none⟩) h4]; exact (h5 k hlt).2
   have g1 : (k : Int) < l.length := by omega
   have HA : Hid (refB l[k] = true → (l.take (k + 1)).all refB = true) := all_take k hlt hall
   have HN : Hid (refB l[k] = false → refsC l = 1) := fun e => by unfold refsC; rw [all_no k hlt e]; rfl
   obtain ⟨⟨x, y⟩, hxy⟩ : ∃ q, l[k] = q := ⟨_, rfl⟩
   rw [hxy] at x0 x1 HA HN
   unfold refB at HA HN
   dsimp only at x0 x1 HA HN
   have BA : Below w.heap.size w (wr.alloc (.cells #[.int .i64 x, .int .i64 y] 25)) := hbel.alloc hz _
   have hbx : (wr.alloc (.cells #[.int .i64 x, .int .i64 y] 25)).heap[wr.heap.size]? = some (.cells #[.int .i64 x, .int .i64 y] 25) := (MapKept.heap_alloc wr _).1
   clear hall h5 h3 hxy
   go_wp2_with fail
   refine (isActor_any x _).mono ?_
   rintro e w1 ⟨rfl, b1⟩
   have B1 : Below w.heap.size w w1 := BA.trans (b1.mono BA.size)
   have hb1 := heap_below hbx b1 (Nat.le_refl _)
   have c1 : w1.cell? ⟨wr.heap.size, 1, none⟩ = some (.int .i64 y) := Lib.cell_of_heap hb1 1
   cases hA : fromB x 99 with
   | false =>
    rw [hA] at HN
    clear hA
    go_wp2
    go_ret
    exact ⟨by rw [HN.out rfl]; rfl, B1⟩
   | true =>
    rw [hA] at HN HA
    clear hA
    go_wp2_with fail
    refine (isNum_any y _).mono ?_
    rintro e w2 ⟨rfl, b2⟩
    have B2 : Below w.heap.size w w2 := B1.trans (b2.mono B1.size)
    cases hB : fromB y 1000000 with
    | false =>
     rw [hB] at HN
     clear hB
     go_wp2
     go_ret
     exact ⟨by rw [HN.out rfl]; rfl, B2⟩
    | true =>
     rw [hB] at HA
     clear hB
     go_wp2
     go_roundw
     case rel => exact ⟨k + 1, hlt, by go_num, HA.out rfl, B2⟩
     case measure => simp [RowKit.intOf]; omega
  ·have hke : k = l.length := by omega
   subst hke
   rw [List.take_of_length_le (Nat.le_refl _)] at hall
   have HC : Hid (refsC l = if chainB (fun a b => decide (a.1 < b.1)) l = true then 0 else 5) := by
    show _ = _
    unfold refsC
    rw [if_pos hall]
   have g1 : ¬ (l.length : Int) < l.length := by omega
   clear hall
   go_wp2_with fail
   go_loopw [5] (fun i w2 => ∃ k : Nat, 1 ≤ k ∧ i = .int .i64 k ∧ (∀ j (h : j + 1 < l.length), j + 1 < k → l[j].1 < l[j + 1].1) ∧ (k ≤ l.length ∨ k = 1) ∧ Below w.heap.size w w2) (fun i _ => l.length - (RowKit.intOf i).toNat)
   case atStart => exact ⟨1, Nat.le_refl _, rfl, fun j _ h => by omega, Or.inr rfl, hbel⟩
   case round =>
    clear hbel hk hz
    obtain ⟨k, hk1, rfl, hch, hk, hbel⟩ := hrel
    have hz := hbel.size
    by_cases hlt : k < l.length
    ·obtain ⟨b, off, rfl, h4, h5⟩ := h3 (fun e => by rw [e] at hlt; simp at hlt)
     have hk0 : k - 1 < l.length := by omega
     have x0 : wr.cell? ⟨b, off + k * 2, none⟩ = some (.int .i64 l[k].1) := by rw [hbel.cell (p := ⟨b, off + k * 2, none⟩) h4]; exact (h5 k hlt).1
     have x1 : wr.cell? ⟨b, off + (k - 1) * 2, none⟩ = some (.int .i64 l[k - 1].1) := by rw [hbel.cell (p := ⟨b, off + (k - 1) * 2, none⟩) h4]; exact (h5 (k - 1) hk0).1
     have g1 : (k : Int) < l.length := by omega
     have dw : IntKind.i64.wrap ((k : Int) - 1) = (k : Int) - 1 := IntWalk.i64_in _ (by omega)
     by_cases hle : l[k - 1].1 < l[k].1
     ·have HC2 : Hid (∀ j (h : j + 1 < l.length), j + 1 < k + 1 → l[j].1 < l[j + 1].1) := by
       intro j h hj
       by_cases e : j + 1 < k
       ·exact hch j h e
       ·obtain rfl : j = k - 1 := by omega
        have e2 : k - 1 + 1 = k := by omega
        simp only [e2]
        exact hle
      have d1 : decide (l[k].1 ≤ l[k - 1].1) = false := by rw [decide_eq_false_iff_not]; omega
      clear hch h5 h3 hle
      generalize l[k].1 = y at *
      generalize l[k - 1].1 = x at *
      go_wp2
      go_quiet (fail)
      go_wp2
      go_roundw
      case rel => exact ⟨k + 1, by omega, by go_num, HC2.out, Or.inl (by omega), below_drew hbel nq⟩
      case measure => simp [RowKit.intOf]; omega
     ·have HN : Hid (refsC l = 5) := by
       show _ = _
       rw [HC.out, if_neg]
       intro e
       have := (chainB_iff _ _).1 e (k - 1) (by omega)
       have e2 : k - 1 + 1 = k := by omega
       simp only [e2, decide_eq_true_eq] at this
       exact hle this
      have d1 : decide (l[k].1 ≤ l[k - 1].1) = true := by rw [decide_eq_true_eq]; omega
      have g2 : l[k].1 ≤ l[k - 1].1 := by omega
      clear hch h5 h3 hle
      generalize l[k].1 = y at *
      generalize l[k - 1].1 = x at *
      go_wp2
      go_quiet (fail)
      go_wp2
      go_ret
      exact ⟨by rw [HN.out]; rfl, below_drew hbel nq⟩
    ·have HN : Hid (refsC l = 0) := by
      show _ = _
      rw [HC.out, if_pos]
      rw [chainB_iff]
      intro i hi
      rw [decide_eq_true_eq]
      exact hch i hi (by omega)
     have g1 : ¬ (k : Int) < l.length := by omega
     clear hch
     go_wp2
     go_ret
     exact ⟨by rw [HN.out]; rfl, hbel⟩
set_option maxRecDepth 100000 in
set_option maxHeartbeats 4000000 in
theorem rises_any (v : Value) (l : List Pr) (w : World) (hv : IsPairs w v l) :
 Calls Tryz.prog 80 #[v] w fun e w' => e = .returned (.bool (risesB l)) ∧ Below w.heap.size w w' := by
 obtain ⟨a, cap, rfl, h1, h2, hr, h3⟩ := hv
 go_enter Tryz.func80, Tryz.ntmps80
 go_wp2_with fail
 go_loopw [3] (fun i w2 => ∃ k : Nat, 1 ≤ k ∧ i = .int .i64 k ∧ (∀ j (h : j + 1 < l.length), j + 1 < k → lessB l[j].1 l[j].2 l[j + 1].1 l[j + 1].2 = true) ∧ (k ≤ l.length ∨ k = 1) ∧ Below w.heap.size w w2) (fun i _ => l.length - (RowKit.intOf i).toNat)
 case atStart => exact ⟨1, Nat.le_refl _, rfl, fun j _ h => by omega, Or.inr rfl, Below.refl _ _⟩
 case round =>
  obtain ⟨k, hk1, rfl, hch, hk, hbel⟩ := hrel
  have hz := hbel.size
  by_cases hlt : k < l.length
  ·obtain ⟨b, off, rfl, h4, h5⟩ := h3 (fun e => by rw [e] at hlt; simp at hlt)
   have hk0 : k - 1 < l.length := by omega
   have x0 : wr.cell? ⟨b, off + k * 2, none⟩ = some (.int .i64 l[k].1) := by rw [hbel.cell (p := ⟨b, off + k * 2, none⟩) h4]; exact (h5 k hlt).1
   have x1 : wr.cell? ⟨b, off + k * 2 + 1, none⟩ = some (.int .i64 l[k].2) := by rw [hbel.cell (p := ⟨b, off + k * 2 + 1, none⟩) h4]; exact (h5 k hlt).2
   have y0 : wr.cell? ⟨b, off + (k - 1) * 2, none⟩ = some (.int .i64 l[k - 1].1) := by rw [hbel.cell (p := ⟨b, off + (k - 1) * 2, none⟩) h4]; exact (h5 (k - 1) hk0).1
   have y1 : wr.cell? ⟨b, off + (k - 1) * 2 + 1, none⟩ = some (.int .i64 l[k - 1].2) := by rw [hbel.cell (p := ⟨b, off + (k - 1) * 2 + 1, none⟩) h4]; exact (h5 (k - 1) hk0).2
   have g1 : (k : Int) < l.length := by omega
   have dw : IntKind.i64.wrap ((k : Int) - 1) = (k : Int) - 1 := IntWalk.i64_in _ (by omega)
   have dw2 : 0 ≤ (k : Int) - 1 ∧ (k : Int) - 1 < l.length := by omega
   have dw3 : ((k : Int) - 1).toNat = k - 1 := by omega
   have HC2 : Hid (lessB l[k - 1].1 l[k - 1].2 l[k].1 l[k].2 = true → ∀ j (h : j + 1 < l.length), j + 1 < k + 1 → lessB l[j].1 l[j].2 l[j + 1].1 l[j + 1].2 = true) := by
    intro hle j h hj
    by_cases e : j + 1 < k
    ·exact hch j h e
    ·obtain rfl : j = k - 1 := by omega
     have e2 : k - 1 + 1 = k := by omega
     simp only [e2]
     exact hle
   have HN : Hid (lessB l[k - 1].1 l[k - 1].2 l[k].1 l[k].2 = false → risesB l = false) := by
    intro hle
    cases e : risesB l with
    | false => rfl
    | true =>
     have := (chainB_iff _ _).1 e (k - 1) (by omega)
     have e2 : k - 1 + 1 = k := by omega
     simp only [e2] at this
     rw [hle] at this
     cases this
   clear hch h5 h3
   generalize l[k] = y at *
   generalize l[k - 1] = x at *
   have L := fun W => less_any x.1 x.2 y.1 y.2 W
   cases hL : lessB x.1 x.2 y.1 y.2 with
   | true =>
    rw [hL] at HC2
    simp only [hL] at L
    clear hL HN
    go_wp2
    go_region_with (go_at_call 113; refine (L _).mono ?_; rintro e w1 ⟨rfl, b1⟩)
    all_goals
     have B1 : Below w.heap.size w w1 := hbel.drew.trans (b1.mono hz)
     go_wp2
     go_roundw
     case rel => exact ⟨k + 1, by omega, by go_num, HC2.out trivial, Or.inl (by omega), B1⟩
     case measure => simp [RowKit.intOf]; omega
   | false =>
    rw [hL] at HN
    simp only [hL] at L
    clear hL HC2
    go_wp2
    go_region_with (go_at_call 113; refine (L _).mono ?_; rintro e w1 ⟨rfl, b1⟩)
    all_goals
     have B1 : Below w.heap.size w w1 := hbel.drew.trans (b1.mono hz)
     go_wp2
     go_ret
     exact ⟨by rw [HN.out trivial]; rfl, B1⟩
  ·have HN : Hid (risesB l = true) := by
    show _ = _
    unfold risesB
    rw [chainB_iff]
    intro i hi
    exact hch i hi (by omega)
   have g1 : ¬ (k : Int) < l.length := by omega
   clear hch
   go_wp2
   go_ret
   exact ⟨by rw [HN.out]; rfl, hbel⟩
theorem op_box {w : World} {o : OpM} {vp : Value} : (w.alloc (.cells (opCells o vp).toArray 83)).heap[w.heap.size]? = some (.cells (opCells o vp).toArray 83) := (MapKept.heap_alloc w _).1
set_option maxRecDepth 100000 in
set_option maxHeartbeats 8000000 in
theorem hasIds_any (o : OpM) (vp : Value) (w : World) (hv : IsPairs w vp o.preds) :
 Calls Tryz.prog 79 #[opVal o vp] w fun e w' => e = .returned (.bool (hasIdsB o)) ∧ Below w.heap.size w w' := by
 obtain ⟨a, cap, rfl, h1, h2, hr, h3⟩ := hv
 have BA : Below w.heap.size w (w.alloc (.cells (opCells o (.slice a o.preds.length cap)).toArray 83)) := (Below.refl _ w).alloc (Nat.le_refl _) _
 have hbx := op_box (w := w) (o := o) (vp := .slice a o.preds.length cap)
 unfold opCells at BA hbx
 unfold opVal opCells
 go_enter Tryz.func79, Tryz.ntmps79
 go_wp2_with fail
 go_loopw [8] (fun i wr => ∃ k : Nat, k ≤ o.preds.length ∧ i = .int .i64 k ∧ (o.preds.take k).all (fun q => !rootB q && idOkB q.1 q.2) = true ∧ wr.heap[w.heap.size]? = some (.cells (opCells o (.slice a o.preds.length cap)).toArray 83) ∧ Below w.heap.size w wr) (fun i _ => o.preds.length - (RowKit.intOf i).toNat)
 case atStart => exact ⟨0, Nat.zero_le _, rfl, by simp, hbx, BA⟩
 case round =>
  clear hbx BA
  obtain ⟨k, hk, rfl, hall, hbx, hbel⟩ := hrel
  have hz := hbel.size
  by_cases hlt : k < o.preds.length
  ·obtain ⟨b, off, rfl, h4, h5⟩ := h3 (fun e => by rw [e] at hlt; simp at hlt)
   have x0 : wr.cell? ⟨b, off + k * 2, none⟩ = some (.int .i64 o.preds[k].1) := by rw [hbel.cell (p := ⟨b, off + k * 2, none⟩) h4]; exact (h5 k hlt).1
   have x1 : wr.cell? ⟨b, off + k * 2 + 1, none⟩ = some (.int .i64 o.preds[k].2) := by rw [hbel.cell (p := ⟨b, off + k * 2 + 1, none⟩) h4]; exact (h5 k hlt).2
   have g1 : (k : Int) < o.preds.length := by omega
   have HA : Hid ((!rootB o.preds[k] && idOkB o.preds[k].1 o.preds[k].2) = true → (o.preds.take (k + 1)).all (fun q => !rootB q && idOkB q.1 q.2) = true) := all_take k hlt hall
   have HN : Hid ((!rootB o.preds[k] && idOkB o.preds[k].1 o.preds[k].2) = false → hasIdsB o = false) := fun e => by unfold hasIdsB; rw [all_no k hlt e]; rfl
   obtain ⟨⟨x, y⟩, hxy⟩ : ∃ q, o.preds[k] = q := ⟨_, rfl⟩
   rw [hxy] at x0 x1 HA HN
   dsimp only at x0 x1 HA HN
   have BB : Below w.heap.size w (wr.alloc (.cells #[.int .i64 x, .int .i64 y] 78)) := hbel.alloc hz _
   have hby : (wr.alloc (.cells #[.int .i64 x, .int .i64 y] 78)).heap[wr.heap.size]? = some (.cells #[.int .i64 x, .int .i64 y] 78) := (MapKept.heap_alloc wr _).1
   have hbx1 := heap_below hbx ((Below.refl wr.heap.size wr).alloc (Nat.le_refl _) (.cells #[.int .i64 x, .int .i64 y] 78)) (Nat.le_refl _)
   clear hall h5 h3 hxy hbx
   go_wp2_with fail
   refine (cRoot_any x y _).mono ?_
   rintro e w1 ⟨rfl, b1⟩
   have B1 : Below w.heap.size w w1 := BB.trans (b1.mono BB.size)
   have hb1 := heap_below hby b1 (Nat.le_refl _)
   have hbx2 := heap_below hbx1 b1 (Nat.le_refl _)
   have c0 : w1.cell? ⟨wr.heap.size, 0, none⟩ = some (.int .i64 x) := Lib.cell_of_heap hb1 0
   have c1 : w1.cell? ⟨wr.heap.size, 1, none⟩ = some (.int .i64 y) := Lib.cell_of_heap hb1 1
   clear hby hbx1 b1 BB
   cases hA : rootB (x, y) with
   | true =>
    rw [hA] at HN
    clear hA hbx2
    go_wp2
    go_ret
    exact ⟨by rw [HN.out rfl]; rfl, B1⟩
   | false =>
    rw [hA] at HN HA
    clear hA
    go_wp2_with fail
    refine (idCheck_any x y _).mono ?_
    rintro e w2 ⟨rfl, b2⟩
    have B2 : Below w.heap.size w w2 := B1.trans (b2.mono B1.size)
    have hbx3 := heap_below hbx2 b2 (Nat.le_refl _)
    clear hbx2 b2 c0 c1
    cases hB : idOkB x y with
    | false =>
     rw [hB] at HN
     clear hB hbx3
     unfold errV
     go_wp2
     go_ret
     exact ⟨by rw [HN.out rfl]; rfl, B2⟩
    | true =>
     rw [hB] at HA
     clear hB
     unfold errV
     have HX : Hid (w2.heap[w.heap.size]? = some (.cells (opCells o (.slice (some ⟨b, off, none⟩) o.preds.length cap)).toArray 83)) := hbx3
     clear hbx3
     go_wp2
     go_roundw
     case rel => exact ⟨k + 1, hlt, by go_num, HA.out rfl, HX.out, B2⟩
     case measure => simp [RowKit.intOf]; omega
  ·have hke : k = o.preds.length := by omega
   subst hke
   rw [List.take_of_length_le (Nat.le_refl _)] at hall
   have HC : Hid (hasIdsB o = (idOkB o.obj.1 o.obj.2 && idOkB o.elem.1 o.elem.2)) := by
    show _ = _
    unfold hasIdsB
    rw [hall, Bool.true_and]
   have g1 : ¬ (o.preds.length : Int) < o.preds.length := by omega
   have c1 : wr.cell? ⟨w.heap.size, 1, none⟩ = some (.int .i64 o.obj.1) := Lib.cell_of_heap hbx 1
   have c2 : wr.cell? ⟨w.heap.size, 2, none⟩ = some (.int .i64 o.obj.2) := Lib.cell_of_heap hbx 2
   clear hall h3
   go_wp2_with fail
   refine (idCheck_any o.obj.1 o.obj.2 _).mono ?_
   rintro e w1 ⟨rfl, b1⟩
   have B1 : Below w.heap.size w w1 := hbel.trans (b1.mono hbel.size)
   have hb1 := heap_below hbx b1 (Nat.le_refl _)
   have d4 : w1.cell? ⟨w.heap.size, 4, none⟩ = some (.int .i64 o.elem.1) := Lib.cell_of_heap hb1 4
   have d5 : w1.cell? ⟨w.heap.size, 5, none⟩ = some (.int .i64 o.elem.2) := Lib.cell_of_heap hb1 5
   clear hbx hb1 c1 c2 b1 hbel
   cases hA : idOkB o.obj.1 o.obj.2 with
   | false =>
    rw [hA] at HC
    clear hA
    unfold errV
    go_wp2
    go_ret
    exact ⟨by rw [HC.out]; rfl, B1⟩
   | true =>
    rw [hA] at HC
    clear hA
    unfold errV
    go_wp2_with fail
    refine (idCheck_any o.elem.1 o.elem.2 _).mono ?_
    rintro e w2 ⟨rfl, b2⟩
    have B2 : Below w.heap.size w w2 := B1.trans (b2.mono B1.size)
    cases hB : idOkB o.elem.1 o.elem.2 with
    | false =>
     rw [hB] at HC
     clear hB
     unfold errV
     go_wp2
     go_ret
     exact ⟨by rw [HC.out]; rfl, B2⟩
    | true =>
     rw [hB] at HC
     clear hB
     unfold errV
     go_wp2
     go_ret
     exact ⟨by rw [HC.out]; rfl, B2⟩
end Go.Proofs.YtejfemdkommfhaaGreatDoor
