/-
  What is proved: as each theorem says.
  Conditions: as each theorem says.
-/
import Derived.Test.YtejfemdkommfhaaGreatDoorG22
namespace Go.Proofs.YtejfemdkommfhaaGreatDoor
open Go.RowKit Go.Sort
set_option maxRecDepth 100000 in
set_option maxHeartbeats 4000000 in
theorem rElem_any (p : OpM) (qa : Option Addr) (qn qc : Nat) (x : Pr) (w : World) :
 Calls Tryz.prog 110 #[.agg #[.int .i64 p.kind, .int .i64 p.obj.1, .int .i64 p.obj.2, .string p.key, .int .i64 p.elem.1, .int .i64 p.elem.2, .bool p.ins, .int .i64 p.val.k, .int .i64 p.val.n, .string p.val.t, .int .i64 p.val.o, .int .i64 p.val.a, .slice qa qn qc, .int .i64 x.1, .int .i64 x.2]] w fun e w' => e = .returned (refV (elemM p x)) ∧ Below w.heap.size w w' := by
 unfold elemM
 obtain ⟨ok, oo, oy, oe, oi, ⟨wk, wn, wt, wo, wa⟩, op⟩ := p
 dsimp only at *
 cases oi with
 | true =>
  rw [if_pos rfl]
  go_enter Tryz.func110, Tryz.ntmps110
  go_wp2
  go_returns
  exact ⟨rfl, ((Below.refl _ _).alloc (Nat.le_refl _) _).alloc (by simp) _⟩
 | false =>
  rw [if_neg (by simp)]
  go_enter Tryz.func110, Tryz.ntmps110
  go_wp2
  go_returns
  exact ⟨rfl, ((Below.refl _ _).alloc (Nat.le_refl _) _).alloc (by simp) _⟩
set_option maxRecDepth 100000 in
set_option maxHeartbeats 8000000 in
theorem rPlace_any (p o : OpM) (qa ra : Option Addr) (qn qc rn rc : Nat) (x y : Pr) (w : World) :
 Calls Tryz.prog 77 #[.agg #[.int .i64 p.kind, .int .i64 p.obj.1, .int .i64 p.obj.2, .string p.key, .int .i64 p.elem.1, .int .i64 p.elem.2, .bool p.ins, .int .i64 p.val.k, .int .i64 p.val.n, .string p.val.t, .int .i64 p.val.o, .int .i64 p.val.a, .slice qa qn qc, .int .i64 x.1, .int .i64 x.2], .agg #[.int .i64 o.kind, .int .i64 o.obj.1, .int .i64 o.obj.2, .string o.key, .int .i64 o.elem.1, .int .i64 o.elem.2, .bool o.ins, .int .i64 o.val.k, .int .i64 o.val.n, .string o.val.t, .int .i64 o.val.o, .int .i64 o.val.a, .slice ra rn rc, .int .i64 y.1, .int .i64 y.2]] w fun e w' => e = .returned (.bool (placeB p x o y)) ∧ Below w.heap.size w w' := by
 have b1 := (Below.refl w.heap.size w).alloc (Nat.le_refl _) (.cells #[.int .i64 p.kind, .int .i64 p.obj.1, .int .i64 p.obj.2, .string p.key, .int .i64 p.elem.1, .int .i64 p.elem.2, .bool p.ins, .int .i64 p.val.k, .int .i64 p.val.n, .string p.val.t, .int .i64 p.val.o, .int .i64 p.val.a, .slice qa qn qc, .int .i64 x.1, .int .i64 x.2] 87)
 have b2 : Below (w.heap.size + 1) (w.alloc (.cells #[.int .i64 p.kind, .int .i64 p.obj.1, .int .i64 p.obj.2, .string p.key, .int .i64 p.elem.1, .int .i64 p.elem.2, .bool p.ins, .int .i64 p.val.k, .int .i64 p.val.n, .string p.val.t, .int .i64 p.val.o, .int .i64 p.val.a, .slice qa qn qc, .int .i64 x.1, .int .i64 x.2] 87)) ((w.alloc (.cells #[.int .i64 p.kind, .int .i64 p.obj.1, .int .i64 p.obj.2, .string p.key, .int .i64 p.elem.1, .int .i64 p.elem.2, .bool p.ins, .int .i64 p.val.k, .int .i64 p.val.n, .string p.val.t, .int .i64 p.val.o, .int .i64 p.val.a, .slice qa qn qc, .int .i64 x.1, .int .i64 x.2] 87)).alloc (.cells #[.int .i64 o.kind, .int .i64 o.obj.1, .int .i64 o.obj.2, .string o.key, .int .i64 o.elem.1, .int .i64 o.elem.2, .bool o.ins, .int .i64 o.val.k, .int .i64 o.val.n, .string o.val.t, .int .i64 o.val.o, .int .i64 o.val.a, .slice ra rn rc, .int .i64 y.1, .int .i64 y.2] 87)) := (Below.refl _ _).alloc (by simp) _
 have n1 : ((w.alloc (.cells #[.int .i64 p.kind, .int .i64 p.obj.1, .int .i64 p.obj.2, .string p.key, .int .i64 p.elem.1, .int .i64 p.elem.2, .bool p.ins, .int .i64 p.val.k, .int .i64 p.val.n, .string p.val.t, .int .i64 p.val.o, .int .i64 p.val.a, .slice qa qn qc, .int .i64 x.1, .int .i64 x.2] 87)).alloc (.cells #[.int .i64 o.kind, .int .i64 o.obj.1, .int .i64 o.obj.2, .string o.key, .int .i64 o.elem.1, .int .i64 o.elem.2, .bool o.ins, .int .i64 o.val.k, .int .i64 o.val.n, .string o.val.t, .int .i64 o.val.o, .int .i64 o.val.a, .slice ra rn rc, .int .i64 y.1, .int .i64 y.2] 87)).heap[w.heap.size]? = some (.cells #[.int .i64 p.kind, .int .i64 p.obj.1, .int .i64 p.obj.2, .string p.key, .int .i64 p.elem.1, .int .i64 p.elem.2, .bool p.ins, .int .i64 p.val.k, .int .i64 p.val.n, .string p.val.t, .int .i64 p.val.o, .int .i64 p.val.a, .slice qa qn qc, .int .i64 x.1, .int .i64 x.2] 87) := (b2.block _ (by omega)).trans (heap_alloc_new w _)
 have n2 : ((w.alloc (.cells #[.int .i64 p.kind, .int .i64 p.obj.1, .int .i64 p.obj.2, .string p.key, .int .i64 p.elem.1, .int .i64 p.elem.2, .bool p.ins, .int .i64 p.val.k, .int .i64 p.val.n, .string p.val.t, .int .i64 p.val.o, .int .i64 p.val.a, .slice qa qn qc, .int .i64 x.1, .int .i64 x.2] 87)).alloc (.cells #[.int .i64 o.kind, .int .i64 o.obj.1, .int .i64 o.obj.2, .string o.key, .int .i64 o.elem.1, .int .i64 o.elem.2, .bool o.ins, .int .i64 o.val.k, .int .i64 o.val.n, .string o.val.t, .int .i64 o.val.o, .int .i64 o.val.a, .slice ra rn rc, .int .i64 y.1, .int .i64 y.2] 87)).heap[w.heap.size + 1]? = some (.cells #[.int .i64 o.kind, .int .i64 o.obj.1, .int .i64 o.obj.2, .string o.key, .int .i64 o.elem.1, .int .i64 o.elem.2, .bool o.ins, .int .i64 o.val.k, .int .i64 o.val.n, .string o.val.t, .int .i64 o.val.o, .int .i64 o.val.a, .slice ra rn rc, .int .i64 y.1, .int .i64 y.2] 87) := by
  have := heap_alloc_new (w.alloc (.cells #[.int .i64 p.kind, .int .i64 p.obj.1, .int .i64 p.obj.2, .string p.key, .int .i64 p.elem.1, .int .i64 p.elem.2, .bool p.ins, .int .i64 p.val.k, .int .i64 p.val.n, .string p.val.t, .int .i64 p.val.o, .int .i64 p.val.a, .slice qa qn qc, .int .i64 x.1, .int .i64 x.2] 87)) (.cells #[.int .i64 o.kind, .int .i64 o.obj.1, .int .i64 o.obj.2, .string o.key, .int .i64 o.elem.1, .int .i64 o.elem.2, .bool o.ins, .int .i64 o.val.k, .int .i64 o.val.n, .string o.val.t, .int .i64 o.val.o, .int .i64 o.val.a, .slice ra rn rc, .int .i64 y.1, .int .i64 y.2] 87)
  simpa using this
 have bb : Below w.heap.size w ((w.alloc (.cells #[.int .i64 p.kind, .int .i64 p.obj.1, .int .i64 p.obj.2, .string p.key, .int .i64 p.elem.1, .int .i64 p.elem.2, .bool p.ins, .int .i64 p.val.k, .int .i64 p.val.n, .string p.val.t, .int .i64 p.val.o, .int .i64 p.val.a, .slice qa qn qc, .int .i64 x.1, .int .i64 x.2] 87)).alloc (.cells #[.int .i64 o.kind, .int .i64 o.obj.1, .int .i64 o.obj.2, .string o.key, .int .i64 o.elem.1, .int .i64 o.elem.2, .bool o.ins, .int .i64 o.val.k, .int .i64 o.val.n, .string o.val.t, .int .i64 o.val.o, .int .i64 o.val.a, .slice ra rn rc, .int .i64 y.1, .int .i64 y.2] 87)) := b1.trans (b2.mono (by omega))
 have E1 := rElem_any p qa qn qc x ((w.alloc (.cells #[.int .i64 p.kind, .int .i64 p.obj.1, .int .i64 p.obj.2, .string p.key, .int .i64 p.elem.1, .int .i64 p.elem.2, .bool p.ins, .int .i64 p.val.k, .int .i64 p.val.n, .string p.val.t, .int .i64 p.val.o, .int .i64 p.val.a, .slice qa qn qc, .int .i64 x.1, .int .i64 x.2] 87)).alloc (.cells #[.int .i64 o.kind, .int .i64 o.obj.1, .int .i64 o.obj.2, .string o.key, .int .i64 o.elem.1, .int .i64 o.elem.2, .bool o.ins, .int .i64 o.val.k, .int .i64 o.val.n, .string o.val.t, .int .i64 o.val.o, .int .i64 o.val.a, .slice ra rn rc, .int .i64 y.1, .int .i64 y.2] 87))
 obtain ⟨e1, he1⟩ : ∃ z : Pr, elemM p x = z := ⟨_, rfl⟩
 obtain ⟨e2, he2⟩ : ∃ z : Pr, elemM o y = z := ⟨_, rfl⟩
 rw [he1] at E1
 have HN : Hid (_ ∧ _ ∧ _) := ⟨n1, n2, bb⟩
 have HE : Hid (elemM p x = e1 ∧ elemM o y = e2) := ⟨he1, he2⟩
 obtain ⟨pb, hpb⟩ : ∃ z : Bool, placeB p x o y = z := ⟨_, rfl⟩
 rw [hpb]
 have HPB : Hid (placeB p x o y = pb) := hpb
 clear hpb
 have k0 : ((w.alloc (.cells #[.int .i64 p.kind, .int .i64 p.obj.1, .int .i64 p.obj.2, .string p.key, .int .i64 p.elem.1, .int .i64 p.elem.2, .bool p.ins, .int .i64 p.val.k, .int .i64 p.val.n, .string p.val.t, .int .i64 p.val.o, .int .i64 p.val.a, .slice qa qn qc, .int .i64 x.1, .int .i64 x.2] 87)).alloc (.cells #[.int .i64 o.kind, .int .i64 o.obj.1, .int .i64 o.obj.2, .string o.key, .int .i64 o.elem.1, .int .i64 o.elem.2, .bool o.ins, .int .i64 o.val.k, .int .i64 o.val.n, .string o.val.t, .int .i64 o.val.o, .int .i64 o.val.a, .slice ra rn rc, .int .i64 y.1, .int .i64 y.2] 87)).cell? ⟨w.heap.size, 0, none⟩ = some (.int .i64 p.kind) := Lib.cell_of_heap n1 0
 have k1 : ((w.alloc (.cells #[.int .i64 p.kind, .int .i64 p.obj.1, .int .i64 p.obj.2, .string p.key, .int .i64 p.elem.1, .int .i64 p.elem.2, .bool p.ins, .int .i64 p.val.k, .int .i64 p.val.n, .string p.val.t, .int .i64 p.val.o, .int .i64 p.val.a, .slice qa qn qc, .int .i64 x.1, .int .i64 x.2] 87)).alloc (.cells #[.int .i64 o.kind, .int .i64 o.obj.1, .int .i64 o.obj.2, .string o.key, .int .i64 o.elem.1, .int .i64 o.elem.2, .bool o.ins, .int .i64 o.val.k, .int .i64 o.val.n, .string o.val.t, .int .i64 o.val.o, .int .i64 o.val.a, .slice ra rn rc, .int .i64 y.1, .int .i64 y.2] 87)).cell? ⟨w.heap.size, 1, none⟩ = some (.int .i64 p.obj.1) := Lib.cell_of_heap n1 1
 have k2 : ((w.alloc (.cells #[.int .i64 p.kind, .int .i64 p.obj.1, .int .i64 p.obj.2, .string p.key, .int .i64 p.elem.1, .int .i64 p.elem.2, .bool p.ins, .int .i64 p.val.k, .int .i64 p.val.n, .string p.val.t, .int .i64 p.val.o, .int .i64 p.val.a, .slice qa qn qc, .int .i64 x.1, .int .i64 x.2] 87)).alloc (.cells #[.int .i64 o.kind, .int .i64 o.obj.1, .int .i64 o.obj.2, .string o.key, .int .i64 o.elem.1, .int .i64 o.elem.2, .bool o.ins, .int .i64 o.val.k, .int .i64 o.val.n, .string o.val.t, .int .i64 o.val.o, .int .i64 o.val.a, .slice ra rn rc, .int .i64 y.1, .int .i64 y.2] 87)).cell? ⟨w.heap.size, 2, none⟩ = some (.int .i64 p.obj.2) := Lib.cell_of_heap n1 2
 have k3 : ((w.alloc (.cells #[.int .i64 p.kind, .int .i64 p.obj.1, .int .i64 p.obj.2, .string p.key, .int .i64 p.elem.1, .int .i64 p.elem.2, .bool p.ins, .int .i64 p.val.k, .int .i64 p.val.n, .string p.val.t, .int .i64 p.val.o, .int .i64 p.val.a, .slice qa qn qc, .int .i64 x.1, .int .i64 x.2] 87)).alloc (.cells #[.int .i64 o.kind, .int .i64 o.obj.1, .int .i64 o.obj.2, .string o.key, .int .i64 o.elem.1, .int .i64 o.elem.2, .bool o.ins, .int .i64 o.val.k, .int .i64 o.val.n, .string o.val.t, .int .i64 o.val.o, .int .i64 o.val.a, .slice ra rn rc, .int .i64 y.1, .int .i64 y.2] 87)).cell? ⟨w.heap.size, 3, none⟩ = some (.string p.key) := Lib.cell_of_heap n1 3
 have k4 : ((w.alloc (.cells #[.int .i64 p.kind, .int .i64 p.obj.1, .int .i64 p.obj.2, .string p.key, .int .i64 p.elem.1, .int .i64 p.elem.2, .bool p.ins, .int .i64 p.val.k, .int .i64 p.val.n, .string p.val.t, .int .i64 p.val.o, .int .i64 p.val.a, .slice qa qn qc, .int .i64 x.1, .int .i64 x.2] 87)).alloc (.cells #[.int .i64 o.kind, .int .i64 o.obj.1, .int .i64 o.obj.2, .string o.key, .int .i64 o.elem.1, .int .i64 o.elem.2, .bool o.ins, .int .i64 o.val.k, .int .i64 o.val.n, .string o.val.t, .int .i64 o.val.o, .int .i64 o.val.a, .slice ra rn rc, .int .i64 y.1, .int .i64 y.2] 87)).cell? ⟨w.heap.size, 4, none⟩ = some (.int .i64 p.elem.1) := Lib.cell_of_heap n1 4
 have k5 : ((w.alloc (.cells #[.int .i64 p.kind, .int .i64 p.obj.1, .int .i64 p.obj.2, .string p.key, .int .i64 p.elem.1, .int .i64 p.elem.2, .bool p.ins, .int .i64 p.val.k, .int .i64 p.val.n, .string p.val.t, .int .i64 p.val.o, .int .i64 p.val.a, .slice qa qn qc, .int .i64 x.1, .int .i64 x.2] 87)).alloc (.cells #[.int .i64 o.kind, .int .i64 o.obj.1, .int .i64 o.obj.2, .string o.key, .int .i64 o.elem.1, .int .i64 o.elem.2, .bool o.ins, .int .i64 o.val.k, .int .i64 o.val.n, .string o.val.t, .int .i64 o.val.o, .int .i64 o.val.a, .slice ra rn rc, .int .i64 y.1, .int .i64 y.2] 87)).cell? ⟨w.heap.size, 5, none⟩ = some (.int .i64 p.elem.2) := Lib.cell_of_heap n1 5
 have k6 : ((w.alloc (.cells #[.int .i64 p.kind, .int .i64 p.obj.1, .int .i64 p.obj.2, .string p.key, .int .i64 p.elem.1, .int .i64 p.elem.2, .bool p.ins, .int .i64 p.val.k, .int .i64 p.val.n, .string p.val.t, .int .i64 p.val.o, .int .i64 p.val.a, .slice qa qn qc, .int .i64 x.1, .int .i64 x.2] 87)).alloc (.cells #[.int .i64 o.kind, .int .i64 o.obj.1, .int .i64 o.obj.2, .string o.key, .int .i64 o.elem.1, .int .i64 o.elem.2, .bool o.ins, .int .i64 o.val.k, .int .i64 o.val.n, .string o.val.t, .int .i64 o.val.o, .int .i64 o.val.a, .slice ra rn rc, .int .i64 y.1, .int .i64 y.2] 87)).cell? ⟨w.heap.size, 6, none⟩ = some (.bool p.ins) := Lib.cell_of_heap n1 6
 have k7 : ((w.alloc (.cells #[.int .i64 p.kind, .int .i64 p.obj.1, .int .i64 p.obj.2, .string p.key, .int .i64 p.elem.1, .int .i64 p.elem.2, .bool p.ins, .int .i64 p.val.k, .int .i64 p.val.n, .string p.val.t, .int .i64 p.val.o, .int .i64 p.val.a, .slice qa qn qc, .int .i64 x.1, .int .i64 x.2] 87)).alloc (.cells #[.int .i64 o.kind, .int .i64 o.obj.1, .int .i64 o.obj.2, .string o.key, .int .i64 o.elem.1, .int .i64 o.elem.2, .bool o.ins, .int .i64 o.val.k, .int .i64 o.val.n, .string o.val.t, .int .i64 o.val.o, .int .i64 o.val.a, .slice ra rn rc, .int .i64 y.1, .int .i64 y.2] 87)).cell? ⟨w.heap.size, 7, none⟩ = some (.int .i64 p.val.k) := Lib.cell_of_heap n1 7
 have k8 : ((w.alloc (.cells #[.int .i64 p.kind, .int .i64 p.obj.1, .int .i64 p.obj.2, .string p.key, .int .i64 p.elem.1, .int .i64 p.elem.2, .bool p.ins, .int .i64 p.val.k, .int .i64 p.val.n, .string p.val.t, .int .i64 p.val.o, .int .i64 p.val.a, .slice qa qn qc, .int .i64 x.1, .int .i64 x.2] 87)).alloc (.cells #[.int .i64 o.kind, .int .i64 o.obj.1, .int .i64 o.obj.2, .string o.key, .int .i64 o.elem.1, .int .i64 o.elem.2, .bool o.ins, .int .i64 o.val.k, .int .i64 o.val.n, .string o.val.t, .int .i64 o.val.o, .int .i64 o.val.a, .slice ra rn rc, .int .i64 y.1, .int .i64 y.2] 87)).cell? ⟨w.heap.size, 8, none⟩ = some (.int .i64 p.val.n) := Lib.cell_of_heap n1 8
 have k9 : ((w.alloc (.cells #[.int .i64 p.kind, .int .i64 p.obj.1, .int .i64 p.obj.2, .string p.key, .int .i64 p.elem.1, .int .i64 p.elem.2, .bool p.ins, .int .i64 p.val.k, .int .i64 p.val.n, .string p.val.t, .int .i64 p.val.o, .int .i64 p.val.a, .slice qa qn qc, .int .i64 x.1, .int .i64 x.2] 87)).alloc (.cells #[.int .i64 o.kind, .int .i64 o.obj.1, .int .i64 o.obj.2, .string o.key, .int .i64 o.elem.1, .int .i64 o.elem.2, .bool o.ins, .int .i64 o.val.k, .int .i64 o.val.n, .string o.val.t, .int .i64 o.val.o, .int .i64 o.val.a, .slice ra rn rc, .int .i64 y.1, .int .i64 y.2] 87)).cell? ⟨w.heap.size, 9, none⟩ = some (.string p.val.t) := Lib.cell_of_heap n1 9
 have k10 : ((w.alloc (.cells #[.int .i64 p.kind, .int .i64 p.obj.1, .int .i64 p.obj.2, .string p.key, .int .i64 p.elem.1, .int .i64 p.elem.2, .bool p.ins, .int .i64 p.val.k, .int .i64 p.val.n, .string p.val.t, .int .i64 p.val.o, .int .i64 p.val.a, .slice qa qn qc, .int .i64 x.1, .int .i64 x.2] 87)).alloc (.cells #[.int .i64 o.kind, .int .i64 o.obj.1, .int .i64 o.obj.2, .string o.key, .int .i64 o.elem.1, .int .i64 o.elem.2, .bool o.ins, .int .i64 o.val.k, .int .i64 o.val.n, .string o.val.t, .int .i64 o.val.o, .int .i64 o.val.a, .slice ra rn rc, .int .i64 y.1, .int .i64 y.2] 87)).cell? ⟨w.heap.size, 10, none⟩ = some (.int .i64 p.val.o) := Lib.cell_of_heap n1 10
 have k11 : ((w.alloc (.cells #[.int .i64 p.kind, .int .i64 p.obj.1, .int .i64 p.obj.2, .string p.key, .int .i64 p.elem.1, .int .i64 p.elem.2, .bool p.ins, .int .i64 p.val.k, .int .i64 p.val.n, .string p.val.t, .int .i64 p.val.o, .int .i64 p.val.a, .slice qa qn qc, .int .i64 x.1, .int .i64 x.2] 87)).alloc (.cells #[.int .i64 o.kind, .int .i64 o.obj.1, .int .i64 o.obj.2, .string o.key, .int .i64 o.elem.1, .int .i64 o.elem.2, .bool o.ins, .int .i64 o.val.k, .int .i64 o.val.n, .string o.val.t, .int .i64 o.val.o, .int .i64 o.val.a, .slice ra rn rc, .int .i64 y.1, .int .i64 y.2] 87)).cell? ⟨w.heap.size, 11, none⟩ = some (.int .i64 p.val.a) := Lib.cell_of_heap n1 11
 have k12 : ((w.alloc (.cells #[.int .i64 p.kind, .int .i64 p.obj.1, .int .i64 p.obj.2, .string p.key, .int .i64 p.elem.1, .int .i64 p.elem.2, .bool p.ins, .int .i64 p.val.k, .int .i64 p.val.n, .string p.val.t, .int .i64 p.val.o, .int .i64 p.val.a, .slice qa qn qc, .int .i64 x.1, .int .i64 x.2] 87)).alloc (.cells #[.int .i64 o.kind, .int .i64 o.obj.1, .int .i64 o.obj.2, .string o.key, .int .i64 o.elem.1, .int .i64 o.elem.2, .bool o.ins, .int .i64 o.val.k, .int .i64 o.val.n, .string o.val.t, .int .i64 o.val.o, .int .i64 o.val.a, .slice ra rn rc, .int .i64 y.1, .int .i64 y.2] 87)).cell? ⟨w.heap.size, 12, none⟩ = some (.slice qa qn qc) := Lib.cell_of_heap n1 12
 have k13 : ((w.alloc (.cells #[.int .i64 p.kind, .int .i64 p.obj.1, .int .i64 p.obj.2, .string p.key, .int .i64 p.elem.1, .int .i64 p.elem.2, .bool p.ins, .int .i64 p.val.k, .int .i64 p.val.n, .string p.val.t, .int .i64 p.val.o, .int .i64 p.val.a, .slice qa qn qc, .int .i64 x.1, .int .i64 x.2] 87)).alloc (.cells #[.int .i64 o.kind, .int .i64 o.obj.1, .int .i64 o.obj.2, .string o.key, .int .i64 o.elem.1, .int .i64 o.elem.2, .bool o.ins, .int .i64 o.val.k, .int .i64 o.val.n, .string o.val.t, .int .i64 o.val.o, .int .i64 o.val.a, .slice ra rn rc, .int .i64 y.1, .int .i64 y.2] 87)).cell? ⟨w.heap.size, 13, none⟩ = some (.int .i64 x.1) := Lib.cell_of_heap n1 13
 have k14 : ((w.alloc (.cells #[.int .i64 p.kind, .int .i64 p.obj.1, .int .i64 p.obj.2, .string p.key, .int .i64 p.elem.1, .int .i64 p.elem.2, .bool p.ins, .int .i64 p.val.k, .int .i64 p.val.n, .string p.val.t, .int .i64 p.val.o, .int .i64 p.val.a, .slice qa qn qc, .int .i64 x.1, .int .i64 x.2] 87)).alloc (.cells #[.int .i64 o.kind, .int .i64 o.obj.1, .int .i64 o.obj.2, .string o.key, .int .i64 o.elem.1, .int .i64 o.elem.2, .bool o.ins, .int .i64 o.val.k, .int .i64 o.val.n, .string o.val.t, .int .i64 o.val.o, .int .i64 o.val.a, .slice ra rn rc, .int .i64 y.1, .int .i64 y.2] 87)).cell? ⟨w.heap.size, 14, none⟩ = some (.int .i64 x.2) := Lib.cell_of_heap n1 14
 clear b1 b2 n1 n2 bb he1 he2
 unfold refV at E1
 go_enter Tryz.func77, Tryz.ntmps77
 go_wp2_with fail
 go_fit E1
 rintro e w1 ⟨rfl, b1⟩
 clear E1 k0 k1 k2 k3 k4 k5 k6 k7 k8 k9 k10 k11 k12 k13 k14
 have bA := (Below.refl w1.heap.size w1).alloc (Nat.le_refl _) (.cells #[.int .i64 e1.1, .int .i64 e1.2] 78)
 have HN1 : Hid ((w1.alloc (.cells #[.int .i64 e1.1, .int .i64 e1.2] 78)).heap[w.heap.size]? = some (.cells #[.int .i64 p.kind, .int .i64 p.obj.1, .int .i64 p.obj.2, .string p.key, .int .i64 p.elem.1, .int .i64 p.elem.2, .bool p.ins, .int .i64 p.val.k, .int .i64 p.val.n, .string p.val.t, .int .i64 p.val.o, .int .i64 p.val.a, .slice qa qn qc, .int .i64 x.1, .int .i64 x.2] 87) ∧ (w1.alloc (.cells #[.int .i64 e1.1, .int .i64 e1.2] 78)).heap[w.heap.size + 1]? = some (.cells #[.int .i64 o.kind, .int .i64 o.obj.1, .int .i64 o.obj.2, .string o.key, .int .i64 o.elem.1, .int .i64 o.elem.2, .bool o.ins, .int .i64 o.val.k, .int .i64 o.val.n, .string o.val.t, .int .i64 o.val.o, .int .i64 o.val.a, .slice ra rn rc, .int .i64 y.1, .int .i64 y.2] 87) ∧ Below w.heap.size w (w1.alloc (.cells #[.int .i64 e1.1, .int .i64 e1.2] 78)) ∧ (w1.alloc (.cells #[.int .i64 e1.1, .int .i64 e1.2] 78)).heap[w1.heap.size]? = some (.cells #[.int .i64 e1.1, .int .i64 e1.2] 78)) := by
  have h1 := heap_below (heap_below HN.out.1 b1 (Nat.le_refl _)) bA (Nat.le_refl _)
  have h2 := heap_below (heap_below HN.out.2.1 b1 (Nat.le_refl _)) bA (Nat.le_refl _)
  have h3 := HN.out.2.2.trans (b1.mono HN.out.2.2.size)
  exact ⟨h1, h2, h3.trans (bA.mono h3.size), heap_alloc_new w1 _⟩
 clear b1 bA HN
 go_upto_region 2 with fail
 obtain ⟨xb, hxb⟩ : ∃ z, w1.heap.size = z := ⟨_, rfl⟩
 rw [hxb] at HN1 ⊢
 generalize (w1.alloc (.cells #[.int .i64 e1.1, .int .i64 e1.2] 78)) = W1 at *
 clear hxb
 have E2 := rElem_any o ra rn rc y W1
 rw [HE.out.2] at E2
 unfold refV at E2
 have k0 : W1.cell? ⟨w.heap.size + 1, 0, none⟩ = some (.int .i64 o.kind) := Lib.cell_of_heap HN1.out.2.1 0
 have k1 : W1.cell? ⟨w.heap.size + 1, 1, none⟩ = some (.int .i64 o.obj.1) := Lib.cell_of_heap HN1.out.2.1 1
 have k2 : W1.cell? ⟨w.heap.size + 1, 2, none⟩ = some (.int .i64 o.obj.2) := Lib.cell_of_heap HN1.out.2.1 2
 have k3 : W1.cell? ⟨w.heap.size + 1, 3, none⟩ = some (.string o.key) := Lib.cell_of_heap HN1.out.2.1 3
 have k4 : W1.cell? ⟨w.heap.size + 1, 4, none⟩ = some (.int .i64 o.elem.1) := Lib.cell_of_heap HN1.out.2.1 4
 have k5 : W1.cell? ⟨w.heap.size + 1, 5, none⟩ = some (.int .i64 o.elem.2) := Lib.cell_of_heap HN1.out.2.1 5
 have k6 : W1.cell? ⟨w.heap.size + 1, 6, none⟩ = some (.bool o.ins) := Lib.cell_of_heap HN1.out.2.1 6
 have k7 : W1.cell? ⟨w.heap.size + 1, 7, none⟩ = some (.int .i64 o.val.k) := Lib.cell_of_heap HN1.out.2.1 7
 have k8 : W1.cell? ⟨w.heap.size + 1, 8, none⟩ = some (.int .i64 o.val.n) := Lib.cell_of_heap HN1.out.2.1 8
 have k9 : W1.cell? ⟨w.heap.size + 1, 9, none⟩ = some (.string o.val.t) := Lib.cell_of_heap HN1.out.2.1 9
 have k10 : W1.cell? ⟨w.heap.size + 1, 10, none⟩ = some (.int .i64 o.val.o) := Lib.cell_of_heap HN1.out.2.1 10
 have k11 : W1.cell? ⟨w.heap.size + 1, 11, none⟩ = some (.int .i64 o.val.a) := Lib.cell_of_heap HN1.out.2.1 11
 have k12 : W1.cell? ⟨w.heap.size + 1, 12, none⟩ = some (.slice ra rn rc) := Lib.cell_of_heap HN1.out.2.1 12
 have k13 : W1.cell? ⟨w.heap.size + 1, 13, none⟩ = some (.int .i64 y.1) := Lib.cell_of_heap HN1.out.2.1 13
 have k14 : W1.cell? ⟨w.heap.size + 1, 14, none⟩ = some (.int .i64 y.2) := Lib.cell_of_heap HN1.out.2.1 14
 go_wp2_with fail
 go_fit E2
 rintro e w2 ⟨rfl, b2⟩
 clear E2 k0 k1 k2 k3 k4 k5 k6 k7 k8 k9 k10 k11 k12 k13 k14
 have bB := (Below.refl w2.heap.size w2).alloc (Nat.le_refl _) (.cells #[.int .i64 e2.1, .int .i64 e2.2] 78)
 have HN2 : Hid ((w2.alloc (.cells #[.int .i64 e2.1, .int .i64 e2.2] 78)).heap[w.heap.size]? = some (.cells #[.int .i64 p.kind, .int .i64 p.obj.1, .int .i64 p.obj.2, .string p.key, .int .i64 p.elem.1, .int .i64 p.elem.2, .bool p.ins, .int .i64 p.val.k, .int .i64 p.val.n, .string p.val.t, .int .i64 p.val.o, .int .i64 p.val.a, .slice qa qn qc, .int .i64 x.1, .int .i64 x.2] 87) ∧ (w2.alloc (.cells #[.int .i64 e2.1, .int .i64 e2.2] 78)).heap[w.heap.size + 1]? = some (.cells #[.int .i64 o.kind, .int .i64 o.obj.1, .int .i64 o.obj.2, .string o.key, .int .i64 o.elem.1, .int .i64 o.elem.2, .bool o.ins, .int .i64 o.val.k, .int .i64 o.val.n, .string o.val.t, .int .i64 o.val.o, .int .i64 o.val.a, .slice ra rn rc, .int .i64 y.1, .int .i64 y.2] 87) ∧ Below w.heap.size w (w2.alloc (.cells #[.int .i64 e2.1, .int .i64 e2.2] 78)) ∧ (w2.alloc (.cells #[.int .i64 e2.1, .int .i64 e2.2] 78)).heap[xb]? = some (.cells #[.int .i64 e1.1, .int .i64 e1.2] 78) ∧ (w2.alloc (.cells #[.int .i64 e2.1, .int .i64 e2.2] 78)).heap[w2.heap.size]? = some (.cells #[.int .i64 e2.1, .int .i64 e2.2] 78)) := by
  have h1 := heap_below (heap_below HN1.out.1 b2 (Nat.le_refl _)) bB (Nat.le_refl _)
  have h2 := heap_below (heap_below HN1.out.2.1 b2 (Nat.le_refl _)) bB (Nat.le_refl _)
  have h3 := HN1.out.2.2.1.trans (b2.mono HN1.out.2.2.1.size)
  have h4 := heap_below (heap_below HN1.out.2.2.2 b2 (Nat.le_refl _)) bB (Nat.le_refl _)
  exact ⟨h1, h2, h3.trans (bB.mono h3.size), h4, heap_alloc_new w2 _⟩
 clear b2 bB HN1
 go_upto_region 3 with fail
 obtain ⟨yb, hyb⟩ : ∃ z, w2.heap.size = z := ⟨_, rfl⟩
 rw [hyb] at HN2 ⊢
 generalize (w2.alloc (.cells #[.int .i64 e2.1, .int .i64 e2.2] 78)) = W2 at *
 clear hyb
 have k1 : W2.cell? ⟨w.heap.size, 1, none⟩ = some (.int .i64 p.obj.1) := Lib.cell_of_heap HN2.out.1 1
 have k2 : W2.cell? ⟨w.heap.size, 2, none⟩ = some (.int .i64 p.obj.2) := Lib.cell_of_heap HN2.out.1 2
 have k3 : W2.cell? ⟨w.heap.size, 3, none⟩ = some (.string p.key) := Lib.cell_of_heap HN2.out.1 3
 have l1 : W2.cell? ⟨w.heap.size + 1, 1, none⟩ = some (.int .i64 o.obj.1) := Lib.cell_of_heap HN2.out.2.1 1
 have l2 : W2.cell? ⟨w.heap.size + 1, 2, none⟩ = some (.int .i64 o.obj.2) := Lib.cell_of_heap HN2.out.2.1 2
 have l3 : W2.cell? ⟨w.heap.size + 1, 3, none⟩ = some (.string o.key) := Lib.cell_of_heap HN2.out.2.1 3
 have m0 : W2.cell? ⟨xb, 0, none⟩ = some (.int .i64 e1.1) := Lib.cell_of_heap HN2.out.2.2.2.1 0
 have m1 : W2.cell? ⟨xb, 1, none⟩ = some (.int .i64 e1.2) := Lib.cell_of_heap HN2.out.2.2.2.1 1
 have o0 : W2.cell? ⟨yb, 0, none⟩ = some (.int .i64 e2.1) := Lib.cell_of_heap HN2.out.2.2.2.2 0
 have o1 : W2.cell? ⟨yb, 1, none⟩ = some (.int .i64 e2.2) := Lib.cell_of_heap HN2.out.2.2.2.2 1
 have Q1 := eqD p.obj o.obj
 have Q3 := eqD e1 e2
 obtain ⟨s1, h1⟩ : ∃ z : Bool, samePr p.obj o.obj = z := ⟨_, rfl⟩
 obtain ⟨s2, h2⟩ : ∃ z : Bool, (p.key.toList == o.key.toList) = z := ⟨_, rfl⟩
 obtain ⟨s3, h3⟩ : ∃ z : Bool, samePr e1 e2 = z := ⟨_, rfl⟩
 rw [h1] at Q1
 rw [h3] at Q3
 have HZ : Hid (pb = (s1 && s2 && s3)) := by
  show _ = _
  rw [← HPB.out]
  unfold placeB
  rw [HE.out.1, HE.out.2, h1, h2, h3]
 have HB : Hid (Below w.heap.size w W2) := HN2.out.2.2.1
 clear HN2 HPB HE h1 h3
 cases s1 with
 | false =>
  go_wp2
  go_ret
  exact ⟨by rw [HZ.out]; rfl, HB.out⟩
 | true =>
  cases s2 with
  | false =>
   go_wp2
   go_ret
   exact ⟨by rw [HZ.out]; rfl, HB.out⟩
  | true =>
   cases s3 with
   | false =>
    go_wp2
    go_ret
    exact ⟨by rw [HZ.out]; rfl, HB.out⟩
   | true =>
    go_wp2
    go_ret
    exact ⟨by rw [HZ.out]; rfl, HB.out⟩
end Go.Proofs.YtejfemdkommfhaaGreatDoor
