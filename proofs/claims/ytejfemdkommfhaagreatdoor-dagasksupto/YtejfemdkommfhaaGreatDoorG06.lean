/-
  What is proved: as each theorem says.
  Conditions: as each theorem says.
-/
import Derived.Test.YtejfemdkommfhaaGreatDoorG05
namespace Go.Proofs.YtejfemdkommfhaaGreatDoor
open Go.RowKit Go.Maps
set_option maxRecDepth 100000 in
set_option maxHeartbeats 2000000 in
theorem refOf_any (a s t : Int) (d : Option Addr) (n c : Nat) (o : Option Addr) (m e : Nat) (w : World) :
 Calls Tryz.prog 26 #[.agg #[.int .i64 a, .int .i64 s, .int .i64 t, .slice d n c, .slice o m e]] w fun x w' => x = .returned (refV (a, s)) ∧ Below w.heap.size w w' := by
 go_enter Tryz.func26, Tryz.ntmps26
 go_wp2
 go_returns
 exact ⟨rfl, ((Below.refl _ _).alloc (Nat.le_refl _) _).alloc (by simp) _⟩
def fnd (LH LW : List (Pr × Value)) (r : Pr) : Option Value := (lk LH r).or (lk LW r)
theorem drew_of {B : Nat} {w W : World} (h : Below B w W) : Below B w W.drew := ⟨h.os, h.tape, h.output, h.size, h.block⟩
set_option maxRecDepth 100000 in
set_option maxHeartbeats 4000000 in
theorem dfind_yes (g h q : Nat) (LH LW : List (Pr × Value)) (r : Pr) (u : Value) (w : World) (B : BookAt w g h q LH LW) (hr : R64 r) (hC : ∀ q ∈ LH, CV q.2) (hu : lk LH r = some u) :
 Calls Tryz.prog 27 #[.pointer (some ⟨g, 0, none⟩), refV r] w fun e w' => e = .returned (.tuple #[u, .bool true]) ∧ Below w.heap.size w w' := by
 have b0 := ((Below.refl w.heap.size w).alloc (Nat.le_refl _) (.cells #[.int .i64 r.1, .int .i64 r.2] 25)).alloc (by simp) (.cells #[.int .i64 0, .int .i64 0, .int .i64 0, .slice none 0 0, .slice none 0 0] 34)
 have b1 := ((Below.refl w.heap.size w).alloc (Nat.le_refl _) (.cells #[.int .i64 r.1, .int .i64 r.2] 25))
 have B1 := B.below b0
 have x0 := heap_alloc_old (heap_alloc_new w (.cells #[.int .i64 r.1, .int .i64 r.2] 25)) (.cells #[.int .i64 0, .int .i64 0, .int .i64 0, .slice none 0 0, .slice none 0 0] 34)
 have y0 : ((w.alloc (.cells #[.int .i64 r.1, .int .i64 r.2] 25)).alloc (.cells #[.int .i64 0, .int .i64 0, .int .i64 0, .slice none 0 0, .slice none 0 0] 34)).heap[w.heap.size + 1]? = some (.cells #[.int .i64 0, .int .i64 0, .int .i64 0, .slice none 0 0, .slice none 0 0] 34) := by
  have := heap_alloc_new (w.alloc (.cells #[.int .i64 r.1, .int .i64 r.2] 25)) (.cells #[.int .i64 0, .int .i64 0, .int .i64 0, .slice none 0 0, .slice none 0 0] 34)
  simpa using this
 have HA : Hid (_ ∧ _ ∧ _ ∧ _) := ⟨b0, B1, x0, y0⟩
 clear B B1 b0 x0 y0 b1
 go_enter Tryz.func27, Tryz.ntmps27
 go_wp2
 obtain ⟨b0, B1, x0, y0⟩ := HA.out
 clear HA
 generalize (w.alloc (.cells #[.int .i64 r.1, .int .i64 r.2] 25)).alloc (.cells #[.int .i64 0, .int .i64 0, .int .i64 0, .slice none 0 0, .slice none 0 0] 34) = W at *
 have c0 : W.cell? ⟨g, 0, none⟩ = some (.map (some h)) := Lib.cell_of_heap B1.box 0
 have r0 : W.cell? ⟨w.heap.size, 0, none⟩ = some (.int .i64 r.1) := Lib.cell_of_heap x0 0
 have r1 : W.cell? ⟨w.heap.size, 1, none⟩ = some (.int .i64 r.2) := Lib.cell_of_heap x0 1
 have hg := lt_of_heap B1.box
 have hx := lt_of_heap x0
 have hy := lt_of_heap y0
 have z0 : W.cell? ⟨w.heap.size + 1, 0, none⟩ = some (.int .i64 0) := Lib.cell_of_heap y0 0
 have z1 : W.cell? ⟨w.heap.size + 1, 1, none⟩ = some (.int .i64 0) := Lib.cell_of_heap y0 1
 have z2 : W.cell? ⟨w.heap.size + 1, 2, none⟩ = some (.int .i64 0) := Lib.cell_of_heap y0 2
 have z3 : W.cell? ⟨w.heap.size + 1, 3, none⟩ = some (.slice none 0 0) := Lib.cell_of_heap y0 3
 have z4 : W.cell? ⟨w.heap.size + 1, 4, none⟩ = some (.slice none 0 0) := Lib.cell_of_heap y0 4
 have zf := Lib.frozen_of_heap y0
 have HC0 : Hid (_ ∧ _ ∧ _) := ⟨c0, r0, r1⟩
 have hl := MapL.look (w := W.drew) ⟨B1.has.own, B1.has.nd, B1.has.r64⟩ Tryz.underlying53 (zeroC _) hr
 have B2 := B1.has.below ((Below.refl W.heap.size W).alloc (Nat.le_refl _) (.cells #[.int .i64 0, .int .i64 0, .int .i64 0, .slice none 0 0, .slice none 0 0] 34))
 have hl2 := MapL.look (w := (W.alloc (.cells #[.int .i64 0, .int .i64 0, .int .i64 0, .slice none 0 0, .slice none 0 0] 34)).drew) ⟨B2.own, B2.nd, B2.r64⟩ Tryz.underlying53 (zeroC _) hr
 rw [hu] at hl hl2
 obtain ⟨va, vs, vt, vd, vn, vc, vo, vm, ve, rfl⟩ := hC _ (lk_mem hu)
 simp only [Option.getD_some, Option.isSome_some] at hl hl2
 have HB : Hid (∀ o, Below w.heap.size w (W.alloc o).drew) := fun o => drew_of (b0.alloc (show w.heap.size ≤ W.heap.size by omega) o)
 have HY : Hid (∀ o, (W.alloc o).drew.heap[w.heap.size + 1]? = some (.cells #[.int .i64 0, .int .i64 0, .int .i64 0, .slice none 0 0, .slice none 0 0] 34)) := fun o => heap_alloc_old y0 o
 clear b0 B1 B2 x0 y0 hC hu
 have HN : Hid (∀ o, (W.alloc o).drew.heap[W.heap.size]? = some o) := fun o => heap_alloc_new W o
 clear z0 z1 z2 z3 z4 c0 r0 r1 zf
 have c0 : W.cell? ⟨g, 0, none⟩ = some (.map (some h)) := HC0.out.1
 have r0 := HC0.out.2.1
 have r1 := HC0.out.2.2
 go_region
 all_goals
  clear hl hl2 c0 r0 r1
  have y1 := HY.out (.cells #[.int .i64 va, .int .i64 vs, .int .i64 vt, .slice vd vn vc, .slice vo vm ve] 34)
  have n1 := HN.out (.cells #[.int .i64 va, .int .i64 vs, .int .i64 vt, .slice vd vn vc, .slice vo vm ve] 34)
  have bb := HB.out (.cells #[.int .i64 va, .int .i64 vs, .int .i64 vt, .slice vd vn vc, .slice vo vm ve] 34)
  have hne : w.heap.size + 1 ≠ W.heap.size := by omega
  generalize (W.alloc (.cells #[.int .i64 va, .int .i64 vs, .int .i64 vt, .slice vd vn vc, .slice vo vm ve] 34)).drew = V at *
  have m0 : V.cell? ⟨W.heap.size, 0, none⟩ = some (.int .i64 va) := Lib.cell_of_heap n1 0
  have m1 : V.cell? ⟨W.heap.size, 1, none⟩ = some (.int .i64 vs) := Lib.cell_of_heap n1 1
  have m2 : V.cell? ⟨W.heap.size, 2, none⟩ = some (.int .i64 vt) := Lib.cell_of_heap n1 2
  have m3 : V.cell? ⟨W.heap.size, 3, none⟩ = some (.slice vd vn vc) := Lib.cell_of_heap n1 3
  have m4 : V.cell? ⟨W.heap.size, 4, none⟩ = some (.slice vo vm ve) := Lib.cell_of_heap n1 4
  have z0 : V.cell? ⟨w.heap.size + 1, 0, none⟩ = some (.int .i64 0) := Lib.cell_of_heap y1 0
  have z1 : V.cell? ⟨w.heap.size + 1, 1, none⟩ = some (.int .i64 0) := Lib.cell_of_heap y1 1
  have z2 : V.cell? ⟨w.heap.size + 1, 2, none⟩ = some (.int .i64 0) := Lib.cell_of_heap y1 2
  have z3 : V.cell? ⟨w.heap.size + 1, 3, none⟩ = some (.slice none 0 0) := Lib.cell_of_heap y1 3
  have z4 : V.cell? ⟨w.heap.size + 1, 4, none⟩ = some (.slice none 0 0) := Lib.cell_of_heap y1 4
  have zf := Lib.frozen_of_heap y1
  have HX : Hid (_ ∧ _) := ⟨set_at (set_at (set_at (set_at (set_at y1 0 (.int .i64 va)) 1 (.int .i64 vs)) 2 (.int .i64 vt)) 3 (.slice vd vn vc)) 4 (.slice vo vm ve), ((((bb.setCell (p := ⟨w.heap.size + 1, 0, none⟩) (Nat.le_succ _) (.int .i64 va)).setCell (p := ⟨w.heap.size + 1, 1, none⟩) (Nat.le_succ _) (.int .i64 vs)).setCell (p := ⟨w.heap.size + 1, 2, none⟩) (Nat.le_succ _) (.int .i64 vt)).setCell (p := ⟨w.heap.size + 1, 3, none⟩) (Nat.le_succ _) (.slice vd vn vc)).setCell (p := ⟨w.heap.size + 1, 4, none⟩) (Nat.le_succ _) (.slice vo vm ve)⟩
  clear y1 n1 bb
  go_wp2
  obtain ⟨X, bz⟩ := HX.out
  clear HX m0 m1 m2 m3 m4 z0 z1 z2 z3 z4 zf
  generalize (((((V.setCell ⟨w.heap.size + 1, 0, none⟩ (.int .i64 va)).setCell ⟨w.heap.size + 1, 1, none⟩ (.int .i64 vs)).setCell ⟨w.heap.size + 1, 2, none⟩ (.int .i64 vt)).setCell ⟨w.heap.size + 1, 3, none⟩ (.slice vd vn vc)).setCell ⟨w.heap.size + 1, 4, none⟩ (.slice vo vm ve)) = Z at *
  have q0 : Z.cell? ⟨w.heap.size + 1, 0, none⟩ = some (.int .i64 va) := Lib.cell_of_heap X 0
  have q1 : Z.cell? ⟨w.heap.size + 1, 1, none⟩ = some (.int .i64 vs) := Lib.cell_of_heap X 1
  have q2 : Z.cell? ⟨w.heap.size + 1, 2, none⟩ = some (.int .i64 vt) := Lib.cell_of_heap X 2
  have q3 : Z.cell? ⟨w.heap.size + 1, 3, none⟩ = some (.slice vd vn vc) := Lib.cell_of_heap X 3
  have q4 : Z.cell? ⟨w.heap.size + 1, 4, none⟩ = some (.slice vo vm ve) := Lib.cell_of_heap X 4
  exact bodyPost_ret (v := .tuple #[.agg #[.int .i64 va, .int .i64 vs, .int .i64 vt, .slice vd vn vc, .slice vo vm ve], .bool true]) (by simp [results, Tryz.results27, go_sem, q0, q1, q2, q3, q4]) rfl ⟨rfl, bz⟩
set_option maxRecDepth 100000 in
set_option maxHeartbeats 8000000 in
theorem dfind_no (g h q : Nat) (LH LW : List (Pr × Value)) (r : Pr) (w : World) (B : BookAt w g h q LH LW) (hr : R64 r) (hC : ∀ q ∈ LW, CV q.2) (hu : lk LH r = none) :
 Calls Tryz.prog 27 #[.pointer (some ⟨g, 0, none⟩), refV r] w fun e w' => e = .returned (.tuple #[(lk LW r).getD zC, .bool (lk LW r).isSome]) ∧ Below w.heap.size w w' := by
 have b0 := ((Below.refl w.heap.size w).alloc (Nat.le_refl _) (.cells #[.int .i64 r.1, .int .i64 r.2] 25)).alloc (by simp) (.cells #[.int .i64 0, .int .i64 0, .int .i64 0, .slice none 0 0, .slice none 0 0] 34)
 have B1 := B.below b0
 have x0 := heap_alloc_old (heap_alloc_new w (.cells #[.int .i64 r.1, .int .i64 r.2] 25)) (.cells #[.int .i64 0, .int .i64 0, .int .i64 0, .slice none 0 0, .slice none 0 0] 34)
 have y0 : ((w.alloc (.cells #[.int .i64 r.1, .int .i64 r.2] 25)).alloc (.cells #[.int .i64 0, .int .i64 0, .int .i64 0, .slice none 0 0, .slice none 0 0] 34)).heap[w.heap.size + 1]? = some (.cells #[.int .i64 0, .int .i64 0, .int .i64 0, .slice none 0 0, .slice none 0 0] 34) := by
  have := heap_alloc_new (w.alloc (.cells #[.int .i64 r.1, .int .i64 r.2] 25)) (.cells #[.int .i64 0, .int .i64 0, .int .i64 0, .slice none 0 0, .slice none 0 0] 34)
  simpa using this
 have HA : Hid (_ ∧ _ ∧ _ ∧ _) := ⟨b0, B1, x0, y0⟩
 clear B B1 b0 x0 y0
 obtain ⟨va, vs, vt, vd, vn, vc, vo, vm, ve, hv⟩ := cv_look hC r
 obtain ⟨ib, HI⟩ : ∃ b : Bool, Hid (b = (lk LW r).isSome) := ⟨_, rfl⟩
 have HV : Hid _ := hv
 rw [← HI.out, hv]
 clear hC hv
 go_enter Tryz.func27, Tryz.ntmps27
 go_wp2
 obtain ⟨b0, B1, x0, y0⟩ := HA.out
 clear HA
 generalize (w.alloc (.cells #[.int .i64 r.1, .int .i64 r.2] 25)).alloc (.cells #[.int .i64 0, .int .i64 0, .int .i64 0, .slice none 0 0, .slice none 0 0] 34) = W at *
 have c0 : W.cell? ⟨g, 0, none⟩ = some (.map (some h)) := Lib.cell_of_heap B1.box 0
 have r0 : W.cell? ⟨w.heap.size, 0, none⟩ = some (.int .i64 r.1) := Lib.cell_of_heap x0 0
 have r1 : W.cell? ⟨w.heap.size, 1, none⟩ = some (.int .i64 r.2) := Lib.cell_of_heap x0 1
 have hg := lt_of_heap B1.box
 have hx := lt_of_heap x0
 have hy := lt_of_heap y0
 have hl := MapL.look (w := W.drew) ⟨B1.has.own, B1.has.nd, B1.has.r64⟩ Tryz.underlying53 (zeroC _) hr
 have b2 := (Below.refl W.heap.size W).alloc (Nat.le_refl _) (.cells #[.int .i64 0, .int .i64 0, .int .i64 0, .slice none 0 0, .slice none 0 0] 34)
 have B2 := B1.below b2
 have hl2 := MapL.look (w := (W.alloc (.cells #[.int .i64 0, .int .i64 0, .int .i64 0, .slice none 0 0, .slice none 0 0] 34)).drew) ⟨B2.has.own, B2.has.nd, B2.has.r64⟩ Tryz.underlying53 (zeroC _) hr
 rw [hu] at hl hl2
 simp only [Option.getD_none, Option.isSome_none] at hl hl2
 have HN : Hid (_ ∧ _ ∧ _ ∧ _) := ⟨B2, heap_alloc_old x0 (.cells #[.int .i64 0, .int .i64 0, .int .i64 0, .slice none 0 0, .slice none 0 0] 34), heap_alloc_old y0 (.cells #[.int .i64 0, .int .i64 0, .int .i64 0, .slice none 0 0, .slice none 0 0] 34), b0.alloc (show w.heap.size ≤ W.heap.size by omega) (.cells #[.int .i64 0, .int .i64 0, .int .i64 0, .slice none 0 0, .slice none 0 0] 34)⟩
 clear b0 B1 B2 b2 x0 y0 hu
 go_region
 all_goals
  clear hl hl2 c0 r0 r1
  obtain ⟨B2, x2, y2, bb⟩ := HN.out
  clear HN
  generalize W.alloc (.cells #[.int .i64 0, .int .i64 0, .int .i64 0, .slice none 0 0, .slice none 0 0] 34) = V at *
  have c0 : V.cell? ⟨g, 1, none⟩ = some (.map (some q)) := Lib.cell_of_heap B2.box 1
  have r0 : V.cell? ⟨w.heap.size, 0, none⟩ = some (.int .i64 r.1) := Lib.cell_of_heap x2 0
  have r1 : V.cell? ⟨w.heap.size, 1, none⟩ = some (.int .i64 r.2) := Lib.cell_of_heap x2 1
  have hg2 := lt_of_heap B2.box
  have hx2 := lt_of_heap x2
  have hy2 := lt_of_heap y2
  have hl := MapL.look (w := V.drew.drew) ⟨B2.wait.own, B2.wait.nd, B2.wait.r64⟩ Tryz.underlying53 (zeroC _) hr
  have B3 := B2.wait.below ((Below.refl V.heap.size V).alloc (Nat.le_refl _) (.cells #[.int .i64 0, .int .i64 0, .int .i64 0, .slice none 0 0, .slice none 0 0] 34))
  have hl2 := MapL.look (w := (V.alloc (.cells #[.int .i64 0, .int .i64 0, .int .i64 0, .slice none 0 0, .slice none 0 0] 34)).drew.drew) ⟨B3.own, B3.nd, B3.r64⟩ Tryz.underlying53 (zeroC _) hr
  rw [← HI.out, HV.out] at hl hl2
  have HY : Hid (∀ o, (V.alloc o).drew.drew.heap[w.heap.size + 1]? = some (.cells #[.int .i64 0, .int .i64 0, .int .i64 0, .slice none 0 0, .slice none 0 0] 34)) := fun o => heap_alloc_old y2 o
  have HM : Hid (∀ o, (V.alloc o).drew.drew.heap[V.heap.size]? = some o) := fun o => heap_alloc_new V o
  have HB : Hid (∀ o, Below w.heap.size w (V.alloc o).drew.drew) := fun o => drew_of (drew_of (bb.alloc (show w.heap.size ≤ V.heap.size by omega) o))
  clear B2 B3 x2 y2 bb
  go_wp2
  go_region
  all_goals
   clear hl hl2 c0 r0 r1
   have y1 := HY.out (.cells #[.int .i64 va, .int .i64 vs, .int .i64 vt, .slice vd vn vc, .slice vo vm ve] 34)
   have n1 := HM.out (.cells #[.int .i64 va, .int .i64 vs, .int .i64 vt, .slice vd vn vc, .slice vo vm ve] 34)
   have bb := HB.out (.cells #[.int .i64 va, .int .i64 vs, .int .i64 vt, .slice vd vn vc, .slice vo vm ve] 34)
   have hne : w.heap.size + 1 ≠ V.heap.size := by omega
   generalize (V.alloc (.cells #[.int .i64 va, .int .i64 vs, .int .i64 vt, .slice vd vn vc, .slice vo vm ve] 34)).drew.drew = U at *
   have m0 : U.cell? ⟨V.heap.size, 0, none⟩ = some (.int .i64 va) := Lib.cell_of_heap n1 0
   have m1 : U.cell? ⟨V.heap.size, 1, none⟩ = some (.int .i64 vs) := Lib.cell_of_heap n1 1
   have m2 : U.cell? ⟨V.heap.size, 2, none⟩ = some (.int .i64 vt) := Lib.cell_of_heap n1 2
   have m3 : U.cell? ⟨V.heap.size, 3, none⟩ = some (.slice vd vn vc) := Lib.cell_of_heap n1 3
   have m4 : U.cell? ⟨V.heap.size, 4, none⟩ = some (.slice vo vm ve) := Lib.cell_of_heap n1 4
   have z0 : U.cell? ⟨w.heap.size + 1, 0, none⟩ = some (.int .i64 0) := Lib.cell_of_heap y1 0
   have z1 : U.cell? ⟨w.heap.size + 1, 1, none⟩ = some (.int .i64 0) := Lib.cell_of_heap y1 1
   have z2 : U.cell? ⟨w.heap.size + 1, 2, none⟩ = some (.int .i64 0) := Lib.cell_of_heap y1 2
   have z3 : U.cell? ⟨w.heap.size + 1, 3, none⟩ = some (.slice none 0 0) := Lib.cell_of_heap y1 3
   have z4 : U.cell? ⟨w.heap.size + 1, 4, none⟩ = some (.slice none 0 0) := Lib.cell_of_heap y1 4
   have zf := Lib.frozen_of_heap y1
   have HX : Hid (_ ∧ _) := ⟨set_at (set_at (set_at (set_at (set_at y1 0 (.int .i64 va)) 1 (.int .i64 vs)) 2 (.int .i64 vt)) 3 (.slice vd vn vc)) 4 (.slice vo vm ve), ((((bb.setCell (p := ⟨w.heap.size + 1, 0, none⟩) (Nat.le_succ _) (.int .i64 va)).setCell (p := ⟨w.heap.size + 1, 1, none⟩) (Nat.le_succ _) (.int .i64 vs)).setCell (p := ⟨w.heap.size + 1, 2, none⟩) (Nat.le_succ _) (.int .i64 vt)).setCell (p := ⟨w.heap.size + 1, 3, none⟩) (Nat.le_succ _) (.slice vd vn vc)).setCell (p := ⟨w.heap.size + 1, 4, none⟩) (Nat.le_succ _) (.slice vo vm ve)⟩
   clear y1 n1 bb
   go_wp2
   obtain ⟨X, bz⟩ := HX.out
   clear HX m0 m1 m2 m3 m4 z0 z1 z2 z3 z4 zf
   generalize (((((U.setCell ⟨w.heap.size + 1, 0, none⟩ (.int .i64 va)).setCell ⟨w.heap.size + 1, 1, none⟩ (.int .i64 vs)).setCell ⟨w.heap.size + 1, 2, none⟩ (.int .i64 vt)).setCell ⟨w.heap.size + 1, 3, none⟩ (.slice vd vn vc)).setCell ⟨w.heap.size + 1, 4, none⟩ (.slice vo vm ve)) = Z at *
   have q0 : Z.cell? ⟨w.heap.size + 1, 0, none⟩ = some (.int .i64 va) := Lib.cell_of_heap X 0
   have q1 : Z.cell? ⟨w.heap.size + 1, 1, none⟩ = some (.int .i64 vs) := Lib.cell_of_heap X 1
   have q2 : Z.cell? ⟨w.heap.size + 1, 2, none⟩ = some (.int .i64 vt) := Lib.cell_of_heap X 2
   have q3 : Z.cell? ⟨w.heap.size + 1, 3, none⟩ = some (.slice vd vn vc) := Lib.cell_of_heap X 3
   have q4 : Z.cell? ⟨w.heap.size + 1, 4, none⟩ = some (.slice vo vm ve) := Lib.cell_of_heap X 4
   exact bodyPost_ret (v := .tuple #[.agg #[.int .i64 va, .int .i64 vs, .int .i64 vt, .slice vd vn vc, .slice vo vm ve], .bool ib]) (by simp [results, Tryz.results27, go_sem, q0, q1, q2, q3, q4]) rfl ⟨rfl, bz⟩
theorem find_any (g h q : Nat) (LH LW : List (Pr × Value)) (r : Pr) (w : World) (B : BookAt w g h q LH LW) (hr : R64 r) (hH : ∀ q ∈ LH, CV q.2) (hW : ∀ q ∈ LW, CV q.2) :
 Calls Tryz.prog 27 #[.pointer (some ⟨g, 0, none⟩), refV r] w fun e w' => e = .returned (.tuple #[(fnd LH LW r).getD zC, .bool (fnd LH LW r).isSome]) ∧ Below w.heap.size w w' := by
 unfold fnd
 cases hl : lk LH r with
 | none => simpa using dfind_no g h q LH LW r w B hr hW hl
 | some u => simpa using dfind_yes g h q LH LW r u w B hr hH hl
end Go.Proofs.YtejfemdkommfhaaGreatDoor
namespace Go.Proofs.YtejfemdkommfhaaGreatDoor
open Go.RowKit Go.Maps
structure CX where
 c : Chg
 ud : Value
 uo : Value
abbrev CX.cells (x : CX) : List Value := [.int .i64 x.c.actor, .int .i64 x.c.seq, .int .i64 x.c.start, x.ud, x.uo]
abbrev CX.val (x : CX) : Value := .agg #[.int .i64 x.c.actor, .int .i64 x.c.seq, .int .i64 x.c.start, x.ud, x.uo]
def CX.In (w : World) (x : CX) : Prop := IsChg w x.val x.c
def IsChgs (w : World) (v : Value) (l : List CX) : Prop :=
 ∃ a cap, v = .slice a l.length cap ∧ l.length ≤ cap ∧ l.length ≤ 1000000 ∧ (∀ x ∈ l, x.In w) ∧ (l ≠ [] → ∃ b off, a = some ⟨b, off, none⟩ ∧ b < w.heap.size ∧ ∀ i (h : i < l.length) j, j < 5 → w.cell? ⟨b, off + i * 5 + j, none⟩ = l[i].cells[j]?)
theorem IsChgs.below {w w' : World} {v : Value} {l : List CX} (h : IsChgs w v l) (hb : Below w.heap.size w w') : IsChgs w' v l := by
 obtain ⟨a, cap, rfl, h1, h2, hr, h3⟩ := h
 refine ⟨a, cap, rfl, h1, h2, fun x hx => IsChg.below (hr x hx) hb, fun hl => ?_⟩
 obtain ⟨b, off, rfl, h4, h5⟩ := h3 hl
 exact ⟨b, off, rfl, Nat.lt_of_lt_of_le h4 hb.size, fun i hi j hj => by rw [hb.cell (p := ⟨b, off + i * 5 + j, none⟩) h4]; exact h5 i hi j hj⟩
theorem CX.form {w : World} {x : CX} (h : x.In w) : (I64 x.c.actor ∧ I64 x.c.seq ∧ I64 x.c.start) ∧ ∃ (d : Option Addr) (n k : Nat) (o : Option Addr) (m e : Nat), x.ud = .slice d n k ∧ x.uo = .slice o m e := by
 obtain ⟨ud, uo, l, h1, h2, h3, h4, h5, h6, _⟩ := h
 simp at h1
 obtain ⟨rfl, rfl⟩ := h1
 obtain ⟨a, c, e1, _⟩ := h5
 obtain ⟨a', c', e2, _⟩ := h6
 exact ⟨⟨h2, h3, h4⟩, a, _, c, a', _, c', e1, e2⟩
end Go.Proofs.YtejfemdkommfhaaGreatDoor
namespace Go.Proofs.YtejfemdkommfhaaGreatDoor
open Go.RowKit Go.Maps
end Go.Proofs.YtejfemdkommfhaaGreatDoor
