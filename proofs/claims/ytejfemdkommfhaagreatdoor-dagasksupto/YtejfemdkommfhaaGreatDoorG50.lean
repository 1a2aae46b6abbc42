/-
  What is proved: as each theorem says.
  Conditions: as each theorem says.
-/
import Derived.Test.YtejfemdkommfhaaGreatDoorG35
import Derived.Test.YtejfemdkommfhaaGreatDoorG06
import Derived.Handy
import Derived.Test.YtejfemdkommfhaaGreatDoorG01
import Derived.Test.YtejfemdkommfhaaGreatDoorG29
namespace Go.Proofs.YtejfemdkommfhaaGreatDoor
open Go.RowKit Go.Maps
theorem IsChgH.set {B : Nat} {w : World} {v : Value} {c : Chg} {b i : Nat} {u : Value} {cur : Array Value} (h : IsChgH B w v c) (hb : w.heap[b]? = some (.cells cur 34)) : IsChgH B (w.setCell ⟨b, i, none⟩ u) v c := h.rows fun T s v n xs hT r => own_set_other r hb (by rcases hT with rfl | rfl | rfl <;> decide)
set_option maxRecDepth 100000 in
set_option maxHeartbeats 4000000 in
theorem dChange_yes (g h q : Nat) (LH LW : List (Pr × Value)) (r : Pr) (u : Value) (w : World) (B : BookAt w g h q LH LW) (hr : R64 r) (hC : ∀ q ∈ LH, CV q.2) (hu : lk LH r = some u) (c : Chg) (hc : IsChgW w u c) (hs : chk c = 0) :
 Calls Tryz.prog 10 #[.pointer (some ⟨g, 0, none⟩), refV r] w fun e w' => (∃ u', e = .returned (.tuple #[u', .nilIface]) ∧ IsChgW w' u' c) ∧ Below w.heap.size w w' := by
 have HCW : Hid (IsChgW w u c ∧ chk c = 0) := ⟨hc, hs⟩
 clear hc hs
 have b0 := ((Below.refl w.heap.size w).alloc (Nat.le_refl _) (.cells #[.int .i64 r.1, .int .i64 r.2] 25)).alloc (by simp) (.cells #[.int .i64 0, .int .i64 0, .int .i64 0, .slice none 0 0, .slice none 0 0] 34)
 have b1 := ((Below.refl w.heap.size w).alloc (Nat.le_refl _) (.cells #[.int .i64 r.1, .int .i64 r.2] 25))
 have B1 := B.below b0
 have x0 := heap_alloc_old (heap_alloc_new w (.cells #[.int .i64 r.1, .int .i64 r.2] 25)) (.cells #[.int .i64 0, .int .i64 0, .int .i64 0, .slice none 0 0, .slice none 0 0] 34)
 have y0 : ((w.alloc (.cells #[.int .i64 r.1, .int .i64 r.2] 25)).alloc (.cells #[.int .i64 0, .int .i64 0, .int .i64 0, .slice none 0 0, .slice none 0 0] 34)).heap[w.heap.size + 1]? = some (.cells #[.int .i64 0, .int .i64 0, .int .i64 0, .slice none 0 0, .slice none 0 0] 34) := by
  have := heap_alloc_new (w.alloc (.cells #[.int .i64 r.1, .int .i64 r.2] 25)) (.cells #[.int .i64 0, .int .i64 0, .int .i64 0, .slice none 0 0, .slice none 0 0] 34)
  simpa using this
 have HA : Hid (_ ∧ _ ∧ _ ∧ _) := ⟨b0, B1, x0, y0⟩
 clear B B1 b0 x0 y0 b1
 go_enter Tryz.func10, Tryz.ntmps10
 go_wp2
 obtain ⟨b0, B1, x0, y0⟩ := HA.out
 clear HA
 generalize (w.alloc (.cells #[.int .i64 r.1, .int .i64 r.2] 25)).alloc (.cells #[.int .i64 0, .int .i64 0, .int .i64 0, .slice none 0 0, .slice none 0 0] 34) = W at *
 have c0 : W.cell? ⟨g, 0, none⟩ = some (.map (some h)) := Lib.cell_of_heap B1.box 0
 have r0 : W.cell? ⟨w.heap.size, 0, none⟩ = some (.int .i64 r.1) := Lib.cell_of_heap x0 0
 have r1 : W.cell? ⟨w.heap.size, 1, none⟩ = some (.int .i64 r.2) := Lib.cell_of_heap x0 1
 have hg := lt_of_heap B1.box
 have hx := lt_of_heap x0
 have hy := lt_of_heap y0
 have z0 : W.cell? ⟨w.heap.size + 1, 0, none⟩ = some (.int .i64 0) := Lib.cell_of_heap y0 0
 have z1 : W.cell? ⟨w.heap.size + 1, 1, none⟩ = some (.int .i64 0) := Lib.cell_of_heap y0 1
 have z2 : W.cell? ⟨w.heap.size + 1, 2, none⟩ = some (.int .i64 0) := Lib.cell_of_heap y0 2
 have z3 : W.cell? ⟨w.heap.size + 1, 3, none⟩ = some (.slice none 0 0) := Lib.cell_of_heap y0 3
 have z4 : W.cell? ⟨w.heap.size + 1, 4, none⟩ = some (.slice none 0 0) := Lib.cell_of_heap y0 4
 have zf := Lib.frozen_of_heap y0
 have HC0 : Hid (_ ∧ _ ∧ _) := ⟨c0, r0, r1⟩
 have hl := MapL.look (w := W.drew) ⟨B1.has.own, B1.has.nd, B1.has.r64⟩ Tryz.underlying53 (zeroC _) hr
 have B2 := B1.has.below ((Below.refl W.heap.size W).alloc (Nat.le_refl _) (.cells #[.int .i64 0, .int .i64 0, .int .i64 0, .slice none 0 0, .slice none 0 0] 34))
 have hl2 := MapL.look (w := (W.alloc (.cells #[.int .i64 0, .int .i64 0, .int .i64 0, .slice none 0 0, .slice none 0 0] 34)).drew) ⟨B2.own, B2.nd, B2.r64⟩ Tryz.underlying53 (zeroC _) hr
 rw [hu] at hl hl2
 obtain ⟨va, vs, vt, vd, vn, vc, vo, vm, ve, rfl⟩ := hC _ (lk_mem hu)
 simp only [Option.getD_some, Option.isSome_some] at hl hl2
 have HB : Hid (∀ o, Below w.heap.size w (W.alloc o).drew) := fun o => drew_of (b0.alloc (show w.heap.size ≤ W.heap.size by omega) o)
 have HY : Hid (∀ o, (W.alloc o).drew.heap[w.heap.size + 1]? = some (.cells #[.int .i64 0, .int .i64 0, .int .i64 0, .slice none 0 0, .slice none 0 0] 34)) := fun o => heap_alloc_old y0 o
 clear b0 B1 B2 x0 y0 hC hu
 have HN : Hid (∀ o, (W.alloc o).drew.heap[W.heap.size]? = some o) := fun o => heap_alloc_new W o
 clear z0 z1 z2 z3 z4 c0 r0 r1 zf
 have c0 : W.cell? ⟨g, 0, none⟩ = some (.map (some h)) := HC0.out.1
 have r0 := HC0.out.2.1
 have r1 := HC0.out.2.2
 go_region
 all_goals
  clear hl hl2 c0 r0 r1
  have y1 := HY.out (.cells #[.int .i64 va, .int .i64 vs, .int .i64 vt, .slice vd vn vc, .slice vo vm ve] 34)
  have n1 := HN.out (.cells #[.int .i64 va, .int .i64 vs, .int .i64 vt, .slice vd vn vc, .slice vo vm ve] 34)
  have bb := HB.out (.cells #[.int .i64 va, .int .i64 vs, .int .i64 vt, .slice vd vn vc, .slice vo vm ve] 34)
  have hne : w.heap.size + 1 ≠ W.heap.size := by omega
  generalize (W.alloc (.cells #[.int .i64 va, .int .i64 vs, .int .i64 vt, .slice vd vn vc, .slice vo vm ve] 34)).drew = V at *
  have m0 : V.cell? ⟨W.heap.size, 0, none⟩ = some (.int .i64 va) := Lib.cell_of_heap n1 0
  have m1 : V.cell? ⟨W.heap.size, 1, none⟩ = some (.int .i64 vs) := Lib.cell_of_heap n1 1
  have m2 : V.cell? ⟨W.heap.size, 2, none⟩ = some (.int .i64 vt) := Lib.cell_of_heap n1 2
  have m3 : V.cell? ⟨W.heap.size, 3, none⟩ = some (.slice vd vn vc) := Lib.cell_of_heap n1 3
  have m4 : V.cell? ⟨W.heap.size, 4, none⟩ = some (.slice vo vm ve) := Lib.cell_of_heap n1 4
  have HV1 : Hid (V.heap[w.heap.size + 1]? = some (.cells #[.int .i64 0, .int .i64 0, .int .i64 0, .slice none 0 0, .slice none 0 0] 34) ∧ Below w.heap.size w V) := ⟨y1, bb⟩
  have few := chk_few HCW.out.2
  have EC := copyOf_hi _ c V (HCW.out.1.below bb) (by omega) (by omega) (fun o ho => by have := few.2.2.1 o ho; omega)
  clear y1 n1 bb few
  go_wp2_with fail
  go_fit EC
  rintro e w3 ⟨x, rfl, hx3, b3⟩
  obtain ⟨xa, xs, xt, xd, xn, xc, xo, xm, xe, rfl⟩ := hx3.chgW.cv
  have y3 := heap_below HV1.out.1 b3 (Nat.le_refl _)
  have bb3 : Below w.heap.size w w3 := HV1.out.2.trans (b3.mono HV1.out.2.size)
  have z0 : w3.cell? ⟨w.heap.size + 1, 0, none⟩ = some (.int .i64 0) := Lib.cell_of_heap y3 0
  have z1 : w3.cell? ⟨w.heap.size + 1, 1, none⟩ = some (.int .i64 0) := Lib.cell_of_heap y3 1
  have z2 : w3.cell? ⟨w.heap.size + 1, 2, none⟩ = some (.int .i64 0) := Lib.cell_of_heap y3 2
  have z3 : w3.cell? ⟨w.heap.size + 1, 3, none⟩ = some (.slice none 0 0) := Lib.cell_of_heap y3 3
  have z4 : w3.cell? ⟨w.heap.size + 1, 4, none⟩ = some (.slice none 0 0) := Lib.cell_of_heap y3 4
  have zf := Lib.frozen_of_heap y3
  have HX : Hid ((((((w3.setCell ⟨w.heap.size + 1, 0, none⟩ (.int .i64 xa)).setCell ⟨w.heap.size + 1, 1, none⟩ (.int .i64 xs)).setCell ⟨w.heap.size + 1, 2, none⟩ (.int .i64 xt)).setCell ⟨w.heap.size + 1, 3, none⟩ (.slice xd xn xc)).setCell ⟨w.heap.size + 1, 4, none⟩ (.slice xo xm xe)).heap[w.heap.size + 1]? = _ ∧ Below w.heap.size w (((((w3.setCell ⟨w.heap.size + 1, 0, none⟩ (.int .i64 xa)).setCell ⟨w.heap.size + 1, 1, none⟩ (.int .i64 xs)).setCell ⟨w.heap.size + 1, 2, none⟩ (.int .i64 xt)).setCell ⟨w.heap.size + 1, 3, none⟩ (.slice xd xn xc)).setCell ⟨w.heap.size + 1, 4, none⟩ (.slice xo xm xe)) ∧ IsChgW (((((w3.setCell ⟨w.heap.size + 1, 0, none⟩ (.int .i64 xa)).setCell ⟨w.heap.size + 1, 1, none⟩ (.int .i64 xs)).setCell ⟨w.heap.size + 1, 2, none⟩ (.int .i64 xt)).setCell ⟨w.heap.size + 1, 3, none⟩ (.slice xd xn xc)).setCell ⟨w.heap.size + 1, 4, none⟩ (.slice xo xm xe)) (.agg #[.int .i64 xa, .int .i64 xs, .int .i64 xt, .slice xd xn xc, .slice xo xm xe]) c) := ⟨(set_at (set_at (set_at (set_at (set_at y3 0 (.int .i64 xa)) 1 (.int .i64 xs)) 2 (.int .i64 xt)) 3 (.slice xd xn xc)) 4 (.slice xo xm xe)), (((((bb3.setCell (p := ⟨w.heap.size + 1, 0, none⟩) (Nat.le_succ _) (.int .i64 xa)).setCell (p := ⟨w.heap.size + 1, 1, none⟩) (Nat.le_succ _) (.int .i64 xs)).setCell (p := ⟨w.heap.size + 1, 2, none⟩) (Nat.le_succ _) (.int .i64 xt)).setCell (p := ⟨w.heap.size + 1, 3, none⟩) (Nat.le_succ _) (.slice xd xn xc)).setCell (p := ⟨w.heap.size + 1, 4, none⟩) (Nat.le_succ _) (.slice xo xm xe)), (((((hx3.set y3).set (set_at y3 0 (.int .i64 xa))).set (set_at (set_at y3 0 (.int .i64 xa)) 1 (.int .i64 xs))).set (set_at (set_at (set_at y3 0 (.int .i64 xa)) 1 (.int .i64 xs)) 2 (.int .i64 xt))).set (set_at (set_at (set_at (set_at y3 0 (.int .i64 xa)) 1 (.int .i64 xs)) 2 (.int .i64 xt)) 3 (.slice xd xn xc))).chgW⟩
  clear EC m0 m1 m2 m3 m4 b3 y3 bb3 HV1
  go_wp2
  obtain ⟨X, bz, ix⟩ := HX.out
  clear HX z0 z1 z2 z3 z4 zf
  generalize (((((w3.setCell ⟨w.heap.size + 1, 0, none⟩ (.int .i64 xa)).setCell ⟨w.heap.size + 1, 1, none⟩ (.int .i64 xs)).setCell ⟨w.heap.size + 1, 2, none⟩ (.int .i64 xt)).setCell ⟨w.heap.size + 1, 3, none⟩ (.slice xd xn xc)).setCell ⟨w.heap.size + 1, 4, none⟩ (.slice xo xm xe)) = Z at *
  have q0 : Z.cell? ⟨w.heap.size + 1, 0, none⟩ = some (.int .i64 xa) := Lib.cell_of_heap X 0
  have q1 : Z.cell? ⟨w.heap.size + 1, 1, none⟩ = some (.int .i64 xs) := Lib.cell_of_heap X 1
  have q2 : Z.cell? ⟨w.heap.size + 1, 2, none⟩ = some (.int .i64 xt) := Lib.cell_of_heap X 2
  have q3 : Z.cell? ⟨w.heap.size + 1, 3, none⟩ = some (.slice xd xn xc) := Lib.cell_of_heap X 3
  have q4 : Z.cell? ⟨w.heap.size + 1, 4, none⟩ = some (.slice xo xm xe) := Lib.cell_of_heap X 4
  exact bodyPost_ret (v := .tuple #[.agg #[.int .i64 xa, .int .i64 xs, .int .i64 xt, .slice xd xn xc, .slice xo xm xe], .nilIface]) (by simp [results, Tryz.results10, go_sem, q0, q1, q2, q3, q4]) rfl ⟨⟨_, rfl, ix⟩, bz⟩
set_option maxRecDepth 100000 in
set_option maxHeartbeats 4000000 in
theorem dChange_no (g h q : Nat) (LH LW : List (Pr × Value)) (r : Pr) (w : World) (B : BookAt w g h q LH LW) (hr : R64 r) (hu : lk LH r = none) :
 Calls Tryz.prog 10 #[.pointer (some ⟨g, 0, none⟩), refV r] w fun e w' => e = .returned (.tuple #[zC, errV 6]) ∧ Below w.heap.size w w' := by
 have b0 := ((Below.refl w.heap.size w).alloc (Nat.le_refl _) (.cells #[.int .i64 r.1, .int .i64 r.2] 25)).alloc (by simp) (.cells #[.int .i64 0, .int .i64 0, .int .i64 0, .slice none 0 0, .slice none 0 0] 34)
 have b1 := ((Below.refl w.heap.size w).alloc (Nat.le_refl _) (.cells #[.int .i64 r.1, .int .i64 r.2] 25))
 have B1 := B.below b0
 have x0 := heap_alloc_old (heap_alloc_new w (.cells #[.int .i64 r.1, .int .i64 r.2] 25)) (.cells #[.int .i64 0, .int .i64 0, .int .i64 0, .slice none 0 0, .slice none 0 0] 34)
 have y0 : ((w.alloc (.cells #[.int .i64 r.1, .int .i64 r.2] 25)).alloc (.cells #[.int .i64 0, .int .i64 0, .int .i64 0, .slice none 0 0, .slice none 0 0] 34)).heap[w.heap.size + 1]? = some (.cells #[.int .i64 0, .int .i64 0, .int .i64 0, .slice none 0 0, .slice none 0 0] 34) := by
  have := heap_alloc_new (w.alloc (.cells #[.int .i64 r.1, .int .i64 r.2] 25)) (.cells #[.int .i64 0, .int .i64 0, .int .i64 0, .slice none 0 0, .slice none 0 0] 34)
  simpa using this
 have HA : Hid (_ ∧ _ ∧ _ ∧ _) := ⟨b0, B1, x0, y0⟩
 clear B B1 b0 x0 y0 b1
 go_enter Tryz.func10, Tryz.ntmps10
 go_wp2
 obtain ⟨b0, B1, x0, y0⟩ := HA.out
 clear HA
 generalize (w.alloc (.cells #[.int .i64 r.1, .int .i64 r.2] 25)).alloc (.cells #[.int .i64 0, .int .i64 0, .int .i64 0, .slice none 0 0, .slice none 0 0] 34) = W at *
 have c0 : W.cell? ⟨g, 0, none⟩ = some (.map (some h)) := Lib.cell_of_heap B1.box 0
 have r0 : W.cell? ⟨w.heap.size, 0, none⟩ = some (.int .i64 r.1) := Lib.cell_of_heap x0 0
 have r1 : W.cell? ⟨w.heap.size, 1, none⟩ = some (.int .i64 r.2) := Lib.cell_of_heap x0 1
 have hg := lt_of_heap B1.box
 have hx := lt_of_heap x0
 have hy := lt_of_heap y0
 have z0 : W.cell? ⟨w.heap.size + 1, 0, none⟩ = some (.int .i64 0) := Lib.cell_of_heap y0 0
 have z1 : W.cell? ⟨w.heap.size + 1, 1, none⟩ = some (.int .i64 0) := Lib.cell_of_heap y0 1
 have z2 : W.cell? ⟨w.heap.size + 1, 2, none⟩ = some (.int .i64 0) := Lib.cell_of_heap y0 2
 have z3 : W.cell? ⟨w.heap.size + 1, 3, none⟩ = some (.slice none 0 0) := Lib.cell_of_heap y0 3
 have z4 : W.cell? ⟨w.heap.size + 1, 4, none⟩ = some (.slice none 0 0) := Lib.cell_of_heap y0 4
 have zf := Lib.frozen_of_heap y0
 have HC0 : Hid (_ ∧ _ ∧ _) := ⟨c0, r0, r1⟩
 have hl := MapL.look (w := W.drew) ⟨B1.has.own, B1.has.nd, B1.has.r64⟩ Tryz.underlying53 (zeroC _) hr
 have B2 := B1.has.below ((Below.refl W.heap.size W).alloc (Nat.le_refl _) (.cells #[.int .i64 0, .int .i64 0, .int .i64 0, .slice none 0 0, .slice none 0 0] 34))
 have hl2 := MapL.look (w := (W.alloc (.cells #[.int .i64 0, .int .i64 0, .int .i64 0, .slice none 0 0, .slice none 0 0] 34)).drew) ⟨B2.own, B2.nd, B2.r64⟩ Tryz.underlying53 (zeroC _) hr
 rw [hu] at hl hl2
 simp only [Option.getD_none, Option.isSome_none] at hl hl2
 have HB : Hid (∀ o, Below w.heap.size w (W.alloc o).drew) := fun o => drew_of (b0.alloc (show w.heap.size ≤ W.heap.size by omega) o)
 have HY : Hid (∀ o, (W.alloc o).drew.heap[w.heap.size + 1]? = some (.cells #[.int .i64 0, .int .i64 0, .int .i64 0, .slice none 0 0, .slice none 0 0] 34)) := fun o => heap_alloc_old y0 o
 clear b0 B1 B2 x0 y0 hu
 have HN : Hid (∀ o, (W.alloc o).drew.heap[W.heap.size]? = some o) := fun o => heap_alloc_new W o
 clear z0 z1 z2 z3 z4 c0 r0 r1 zf
 have c0 : W.cell? ⟨g, 0, none⟩ = some (.map (some h)) := HC0.out.1
 have r0 := HC0.out.2.1
 have r1 := HC0.out.2.2
 go_region
 all_goals
  clear hl hl2 c0 r0 r1
  have y1 := HY.out (.cells #[.int .i64 0, .int .i64 0, .int .i64 0, .slice none 0 0, .slice none 0 0] 34)
  have bb := HB.out (.cells #[.int .i64 0, .int .i64 0, .int .i64 0, .slice none 0 0, .slice none 0 0] 34)
  generalize (W.alloc (.cells #[.int .i64 0, .int .i64 0, .int .i64 0, .slice none 0 0, .slice none 0 0] 34)).drew = V at *
  have z0 : V.cell? ⟨w.heap.size + 1, 0, none⟩ = some (.int .i64 0) := Lib.cell_of_heap y1 0
  have z1 : V.cell? ⟨w.heap.size + 1, 1, none⟩ = some (.int .i64 0) := Lib.cell_of_heap y1 1
  have z2 : V.cell? ⟨w.heap.size + 1, 2, none⟩ = some (.int .i64 0) := Lib.cell_of_heap y1 2
  have z3 : V.cell? ⟨w.heap.size + 1, 3, none⟩ = some (.slice none 0 0) := Lib.cell_of_heap y1 3
  have z4 : V.cell? ⟨w.heap.size + 1, 4, none⟩ = some (.slice none 0 0) := Lib.cell_of_heap y1 4
  have zf := Lib.frozen_of_heap y1
  have hzc := zeroC V
  have HX : Hid ((((((V.setCell ⟨w.heap.size + 1, 0, none⟩ (.int .i64 0)).setCell ⟨w.heap.size + 1, 1, none⟩ (.int .i64 0)).setCell ⟨w.heap.size + 1, 2, none⟩ (.int .i64 0)).setCell ⟨w.heap.size + 1, 3, none⟩ (.slice none 0 0)).setCell ⟨w.heap.size + 1, 4, none⟩ (.slice none 0 0)).heap[w.heap.size + 1]? = _ ∧ Below w.heap.size w (((((V.setCell ⟨w.heap.size + 1, 0, none⟩ (.int .i64 0)).setCell ⟨w.heap.size + 1, 1, none⟩ (.int .i64 0)).setCell ⟨w.heap.size + 1, 2, none⟩ (.int .i64 0)).setCell ⟨w.heap.size + 1, 3, none⟩ (.slice none 0 0)).setCell ⟨w.heap.size + 1, 4, none⟩ (.slice none 0 0))) := ⟨(set_at (set_at (set_at (set_at (set_at y1 0 (.int .i64 0)) 1 (.int .i64 0)) 2 (.int .i64 0)) 3 (.slice none 0 0)) 4 (.slice none 0 0)), (((((bb.setCell (p := ⟨w.heap.size + 1, 0, none⟩) (Nat.le_succ _) (.int .i64 0)).setCell (p := ⟨w.heap.size + 1, 1, none⟩) (Nat.le_succ _) (.int .i64 0)).setCell (p := ⟨w.heap.size + 1, 2, none⟩) (Nat.le_succ _) (.int .i64 0)).setCell (p := ⟨w.heap.size + 1, 3, none⟩) (Nat.le_succ _) (.slice none 0 0)).setCell (p := ⟨w.heap.size + 1, 4, none⟩) (Nat.le_succ _) (.slice none 0 0))⟩
  clear y1 bb
  go_wp2
  obtain ⟨X, bz⟩ := HX.out
  clear HX z0 z1 z2 z3 z4 zf
  generalize (((((V.setCell ⟨w.heap.size + 1, 0, none⟩ (.int .i64 0)).setCell ⟨w.heap.size + 1, 1, none⟩ (.int .i64 0)).setCell ⟨w.heap.size + 1, 2, none⟩ (.int .i64 0)).setCell ⟨w.heap.size + 1, 3, none⟩ (.slice none 0 0)).setCell ⟨w.heap.size + 1, 4, none⟩ (.slice none 0 0)) = Z at *
  have q0 : Z.cell? ⟨w.heap.size + 1, 0, none⟩ = some (.int .i64 0) := Lib.cell_of_heap X 0
  have q1 : Z.cell? ⟨w.heap.size + 1, 1, none⟩ = some (.int .i64 0) := Lib.cell_of_heap X 1
  have q2 : Z.cell? ⟨w.heap.size + 1, 2, none⟩ = some (.int .i64 0) := Lib.cell_of_heap X 2
  have q3 : Z.cell? ⟨w.heap.size + 1, 3, none⟩ = some (.slice none 0 0) := Lib.cell_of_heap X 3
  have q4 : Z.cell? ⟨w.heap.size + 1, 4, none⟩ = some (.slice none 0 0) := Lib.cell_of_heap X 4
  exact bodyPost_ret (v := .tuple #[.agg #[.int .i64 0, .int .i64 0, .int .i64 0, .slice none 0 0, .slice none 0 0], .iface 62 (.int .i64 6)]) (by simp [results, Tryz.results10, go_sem, q0, q1, q2, q3, q4]) rfl ⟨rfl, bz⟩
end Go.Proofs.YtejfemdkommfhaaGreatDoor
namespace Go.Proofs.YtejfemdkommfhaaGreatDoor
open Go.RowKit Go.Sort
set_option maxRecDepth 100000 in
set_option maxHeartbeats 8000000 in
theorem sameRefs_any (v u : Value) (l : List Pr) (w : World) (hv : IsPairs w v l) (hu : IsPairs w u l) :
 Calls Tryz.prog 16 #[v, u] w fun e w' => e = .returned (.bool true) ∧ Below w.heap.size w w' := by
 obtain ⟨va, vn, vc, rfl⟩ : ∃ a n c, v = .slice a n c := by obtain ⟨a, c, e, _⟩ := hv; exact ⟨_, _, _, e⟩
 obtain ⟨ua, un, uc, rfl⟩ : ∃ a n c, u = .slice a n c := by obtain ⟨a, c, e, _⟩ := hu; exact ⟨_, _, _, e⟩
 obtain rfl : vn = un := by
  obtain ⟨a, c, e, _⟩ := hv
  obtain ⟨a', c', e', _⟩ := hu
  rw [(Value.slice.inj e).2.1, (Value.slice.inj e').2.1]
 obtain ⟨HN⟩ : Nonempty (Hid (vn = l.length ∧ l.length ≤ 8796093022208)) := ⟨by obtain ⟨a, c9, e, _, h2, _⟩ := hv; exact ⟨(Value.slice.inj e).2.1, h2⟩⟩
 have HV : Hid (IsPairs w (.slice va vn vc) l ∧ IsPairs w (.slice ua vn uc) l) := ⟨hv, hu⟩
 clear hv hu
 go_enter Tryz.func16, Tryz.ntmps16
 go_wp2_with fail
 go_loopw [5] (fun xi wr => ∃ i : Nat, i ≤ l.length ∧ xi = .int .i64 i ∧ Hid (Below w.heap.size w wr)) (fun xi _ => l.length - (RowKit.intOf xi).toNat)
 case atStart => exact ⟨0, Nat.zero_le _, rfl, Below.refl _ _⟩
 case round =>
  obtain ⟨i, hi, rfl, hR⟩ := hrel
  by_cases hlt : i < l.length
  ·obtain ⟨a', c', e9, _, _, _, h4⟩ := id HV.out.1
   obtain ⟨b, o, ha', h5, h6⟩ := h4 (fun e => by rw [e] at hlt; simp at hlt)
   obtain ⟨a'', c'', e8, _, _, _, h4'⟩ := id HV.out.2
   obtain ⟨b', o', ha'', h5', h6'⟩ := h4' (fun e => by rw [e] at hlt; simp at hlt)
   have hva : va = some ⟨b, o, none⟩ := (Value.slice.inj e9).1.trans ha'
   have hua : ua = some ⟨b', o', none⟩ := (Value.slice.inj e8).1.trans ha''
   subst hva hua
   obtain ⟨a, ha⟩ : ∃ z : Pr, l[i] = z := ⟨_, rfl⟩
   have y0 : wr.cell? ⟨b, o + i * 2, none⟩ = some (.int .i64 a.1) := by rw [hR.out.cell (p := ⟨b, o + i * 2, none⟩) h5, ← ha]; exact (h6 i hlt).1
   have y1 : wr.cell? ⟨b, o + i * 2 + 1, none⟩ = some (.int .i64 a.2) := by rw [hR.out.cell (p := ⟨b, o + i * 2 + 1, none⟩) h5, ← ha]; exact (h6 i hlt).2
   have z0 : wr.cell? ⟨b', o' + i * 2, none⟩ = some (.int .i64 a.1) := by rw [hR.out.cell (p := ⟨b', o' + i * 2, none⟩) h5', ← ha]; exact (h6' i hlt).1
   have z1 : wr.cell? ⟨b', o' + i * 2 + 1, none⟩ = some (.int .i64 a.2) := by rw [hR.out.cell (p := ⟨b', o' + i * 2 + 1, none⟩) h5', ← ha]; exact (h6' i hlt).2
   have HM : Hid (i < l.length) := hlt
   have g1 : (i : Int) < vn := by have := HN.out.1; omega
   have g3 : (0 : Int) ≤ i := by omega
   have HD : Hid (Below w.heap.size w wr.drew) := drew_of hR.out
   clear e9 h4 ha' h5 h6 e8 h4' ha'' h5' h6' ha hlt hi hR
   go_upto_region 6 with fail
   refine wp_region_noPanic ?_
   refine wp_region_held_drew (S := fun W => W.cell? ⟨b, o + i * 2, none⟩ = some (.int .i64 a.1) ∧ W.cell? ⟨b, o + i * 2 + 1, none⟩ = some (.int .i64 a.2) ∧ W.cell? ⟨b', o' + i * 2, none⟩ = some (.int .i64 a.1) ∧ W.cell? ⟨b', o' + i * 2 + 1, none⟩ = some (.int .i64 a.2)) (by kernel_rfl) (⟨y0, y1, z0, z1⟩) (fun hHeld => ?_)
   refine tk 0 rfl ?_
   refine tk 1 rfl ?_
   refine tk 2 rfl ?_
   refine tk 3 rfl ?_
   refine tk 4 rfl ?_
   refine tk 5 rfl ?_
   refine tk 6 rfl ?_
   refine tk 7 rfl ?_
   refine tk 8 rfl ?_
   refine wpAnyH_done (by kernel_rfl) ?_ _
   refine NoPanic.normal ?_
   clear hHeld y0 y1 z0 z1
   generalize wr.drew = wd at *
   go_upto_region 5 with fail
   have gm : (i : Int) < 8796093022208 := by have := HM.out; have := HN.out.2; omega
   go_wp2
   go_roundw
   case rel => exact ⟨i + 1, HM.out, by go_num, HD.out⟩
   case measure => have := HM.out; simp [RowKit.intOf]; omega
  ·have hme : ¬ (i : Int) < vn := by have := HN.out.1; omega
   have HE : Hid (Below w.heap.size w wr) := hR.out
   clear hlt hi hR
   go_wp2
   go_ret
   exact ⟨rfl, HE.out⟩
end Go.Proofs.YtejfemdkommfhaaGreatDoor
