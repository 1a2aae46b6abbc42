/-
  What is proved: the law JsonSets, called with any tree, path and value that lie in memory, returns true, and nothing that was there has turned.
  Conditions: they lie in memory.
-/
import Derived.Test.YtnhijdhapokcbaaJSLawM
import Derived.Test.YtnhijdhapokcbaaJGetJ
import Derived.Test.YtnhijdhapokcbaaJSame
namespace Go.Proofs.Ytnhijdhapokcbaa
open Go.RowKit Go.Sort

theorem IsTG.len {w : World} {x : V} {k a : Value} {T : JT} {p : Option Addr} {n c : Nat} (h : IsT w (tval (x, k, a)) T) (e : a = .slice p n c) : n = T.ts.length ∧ x = T.x := by
  obtain ⟨N⟩ := h.node
  obtain ⟨a1, c1, a2, c2, us, hu, -, -, -, -, -, -⟩ := N
  obtain ⟨h1, h2, h3⟩ := Prod.mk.inj hu |>.imp id Prod.mk.inj
  subst e
  exact ⟨(Value.slice.inj h3).2.1, h1⟩

set_option maxRecDepth 100000 in
set_option maxHeartbeats 8000000 in
theorem sets_any {v p : Value} {T : JT} {l : List Stp} (y : V) (w : World) (h : IsT w v T) (hp : IsSteps w p l) :
    Calls Try.prog 3 #[v, p, y.val] w fun e w' => e = .returned (.bool true) ∧ Below w.heap.size w w' := by
  obtain ⟨u, rfl⟩ := h.of_val
  obtain ⟨N⟩ := h.node
  obtain ⟨a1, c1, a2, c2, us, hu, -, -, -, -, -, -⟩ := N
  subst hu
  have hpf : ∃ pa pn pc, p = .slice pa pn pc := by obtain ⟨a, c, e, _⟩ := hp; exact ⟨_, _, _, e⟩
  obtain ⟨pa, pn, pc, rfl⟩ := hpf
  have HT : Hid (IsT w (tval (T.x, .slice a1 T.ks.length c1, .slice a2 T.ts.length c2)) T) := h
  have HP : Hid (IsSteps w (.slice pa pn pc) l) := hp
  obtain ⟨y', hy'⟩ : ∃ y', y' = y := ⟨_, rfl⟩
  have HY : Hid (y' = y) := hy'
  clear hy'
  obtain ⟨yk, yn, yt, yo, ya⟩ := y
  obtain ⟨x0, y0, b0⟩ := two_boxes w (.cells #[.int .i64 T.x.k, .int .i64 T.x.n, .string T.x.t, .int .i64 T.x.o, .int .i64 T.x.a, .slice a1 T.ks.length c1, .slice a2 T.ts.length c2] 29) (.cells #[.int .i64 yk, .int .i64 yn, .string yt, .int .i64 yo, .int .i64 ya] 25)
  obtain ⟨s0, p0, b1⟩ := two_boxes ((w.alloc (.cells #[.int .i64 T.x.k, .int .i64 T.x.n, .string T.x.t, .int .i64 T.x.o, .int .i64 T.x.a, .slice a1 T.ks.length c1, .slice a2 T.ts.length c2] 29)).alloc (.cells #[.int .i64 yk, .int .i64 yn, .string yt, .int .i64 yo, .int .i64 ya] 25)) (.cells #[.string ⟨#[97]⟩, .int .i64 0] 36) (.cells #[.int .i64 1, .slice (some ⟨w.heap.size + 2, 0, none⟩) 1 1, .int .i64 2, .int .i64 1, .string ⟨#[]⟩, .int .i64 0, .int .i64 0] 38)
  have e0 : ((w.alloc (.cells #[.int .i64 T.x.k, .int .i64 T.x.n, .string T.x.t, .int .i64 T.x.o, .int .i64 T.x.a, .slice a1 T.ks.length c1, .slice a2 T.ts.length c2] 29)).alloc (.cells #[.int .i64 yk, .int .i64 yn, .string yt, .int .i64 yo, .int .i64 ya] 25)).heap.size = w.heap.size + 2 := by simp
  have HX1 : Hid (((((w.alloc (.cells #[.int .i64 T.x.k, .int .i64 T.x.n, .string T.x.t, .int .i64 T.x.o, .int .i64 T.x.a, .slice a1 T.ks.length c1, .slice a2 T.ts.length c2] 29)).alloc (.cells #[.int .i64 yk, .int .i64 yn, .string yt, .int .i64 yo, .int .i64 ya] 25)).alloc (.cells #[.string ⟨#[97]⟩, .int .i64 0] 36)).alloc (.cells #[.int .i64 1, .slice (some ⟨w.heap.size + 2, 0, none⟩) 1 1, .int .i64 2, .int .i64 1, .string ⟨#[]⟩, .int .i64 0, .int .i64 0] 38)).heap[w.heap.size]? = some (.cells #[.int .i64 T.x.k, .int .i64 T.x.n, .string T.x.t, .int .i64 T.x.o, .int .i64 T.x.a, .slice a1 T.ks.length c1, .slice a2 T.ts.length c2] 29)) := (b1.block _ (lt_of_heap x0)).trans x0
  have HV1 : Hid (((((w.alloc (.cells #[.int .i64 T.x.k, .int .i64 T.x.n, .string T.x.t, .int .i64 T.x.o, .int .i64 T.x.a, .slice a1 T.ks.length c1, .slice a2 T.ts.length c2] 29)).alloc (.cells #[.int .i64 yk, .int .i64 yn, .string yt, .int .i64 yo, .int .i64 ya] 25)).alloc (.cells #[.string ⟨#[97]⟩, .int .i64 0] 36)).alloc (.cells #[.int .i64 1, .slice (some ⟨w.heap.size + 2, 0, none⟩) 1 1, .int .i64 2, .int .i64 1, .string ⟨#[]⟩, .int .i64 0, .int .i64 0] 38)).heap[w.heap.size + 1]? = some (.cells #[.int .i64 yk, .int .i64 yn, .string yt, .int .i64 yo, .int .i64 ya] 25)) := (b1.block _ (lt_of_heap y0)).trans y0
  have HB1 : Hid (Below w.heap.size w ((((w.alloc (.cells #[.int .i64 T.x.k, .int .i64 T.x.n, .string T.x.t, .int .i64 T.x.o, .int .i64 T.x.a, .slice a1 T.ks.length c1, .slice a2 T.ts.length c2] 29)).alloc (.cells #[.int .i64 yk, .int .i64 yn, .string yt, .int .i64 yo, .int .i64 ya] 25)).alloc (.cells #[.string ⟨#[97]⟩, .int .i64 0] 36)).alloc (.cells #[.int .i64 1, .slice (some ⟨w.heap.size + 2, 0, none⟩) 1 1, .int .i64 2, .int .i64 1, .string ⟨#[]⟩, .int .i64 0, .int .i64 0] 38))) := b0.trans (b1.mono b0.size)
  rw [e0] at s0 p0
  have E1 := applyJ_any fy ((((w.alloc (.cells #[.int .i64 T.x.k, .int .i64 T.x.n, .string T.x.t, .int .i64 T.x.o, .int .i64 T.x.a, .slice a1 T.ks.length c1, .slice a2 T.ts.length c2] 29)).alloc (.cells #[.int .i64 yk, .int .i64 yn, .string yt, .int .i64 yo, .int .i64 ya] 25)).alloc (.cells #[.string ⟨#[97]⟩, .int .i64 0] 36)).alloc (.cells #[.int .i64 1, .slice (some ⟨w.heap.size + 2, 0, none⟩) 1 1, .int .i64 2, .int .i64 1, .string ⟨#[]⟩, .int .i64 0, .int .i64 0] 38)) (leaf_at _ fx) (p := .slice (some ⟨w.heap.size + 2, 0, none⟩) 1 1) (l := [fs]) ⟨_, 1, rfl, Nat.le_refl _, by decide, fun _ => ⟨_, 0, rfl, lt_of_heap s0, fun i hi => by
    obtain rfl : i = 0 := by simpa using hi
    exact ⟨Lib.cell_of_heap s0 0, Lib.cell_of_heap s0 1⟩⟩⟩ p0
  clear h hp x0 y0 b0 s0 p0 b1 e0
  unfold tval V.val leafV at *
  dsimp only at *
  go_enter Try.func3, Try.ntmps3
  go_wp2_with fail
  go_fit E1
  rintro e w2 ⟨hA, b2⟩
  have HX2 : Hid (w2.heap[w.heap.size]? = some (.cells #[.int .i64 T.x.k, .int .i64 T.x.n, .string T.x.t, .int .i64 T.x.o, .int .i64 T.x.a, .slice a1 T.ks.length c1, .slice a2 T.ts.length c2] 29)) := (b2.block _ (lt_of_heap HX1.out)).trans HX1.out
  have HV2 : Hid (w2.heap[w.heap.size + 1]? = some (.cells #[.int .i64 yk, .int .i64 yn, .string yt, .int .i64 yo, .int .i64 ya] 25)) := (b2.block _ (lt_of_heap HV1.out)).trans HV1.out
  have HB2 : Hid (Below w.heap.size w w2) := HB1.out.trans (b2.mono HB1.out.size)
  clear b2 E1 HX1 HV1 HB1
  rcases hA.symm with ⟨c, -, hno⟩ | ⟨T1, u1, rfl, -, -, hU, -, hI⟩
  · exact absurd hno fact_ok
  obtain ⟨⟨fk, fn, ft, fo, fa⟩, fz1, fz2, fz3, fz4, fz5, fz6, hu⟩ := hI.parts
  subst hu
  obtain ⟨hl, _⟩ := IsTG.len hI rfl
  rw [(fact_one hU).1] at hl
  subst hl
  clear hI hU
  have d2 := (Below.refl w2.heap.size w2).alloc (Nat.le_refl _) (.cells #[.int .i64 fk, .int .i64 fn, .string ft, .int .i64 fo, .int .i64 fa, .slice fz1 fz2 fz3, .slice fz4 1 fz6] 29)
  have HX3 : Hid ((w2.alloc (.cells #[.int .i64 fk, .int .i64 fn, .string ft, .int .i64 fo, .int .i64 fa, .slice fz1 fz2 fz3, .slice fz4 1 fz6] 29)).heap[w.heap.size]? = some (.cells #[.int .i64 T.x.k, .int .i64 T.x.n, .string T.x.t, .int .i64 T.x.o, .int .i64 T.x.a, .slice a1 T.ks.length c1, .slice a2 T.ts.length c2] 29)) := (d2.block _ (lt_of_heap HX2.out)).trans HX2.out
  have HV3 : Hid ((w2.alloc (.cells #[.int .i64 fk, .int .i64 fn, .string ft, .int .i64 fo, .int .i64 fa, .slice fz1 fz2 fz3, .slice fz4 1 fz6] 29)).heap[w.heap.size + 1]? = some (.cells #[.int .i64 yk, .int .i64 yn, .string yt, .int .i64 yo, .int .i64 ya] 25)) := (d2.block _ (lt_of_heap HV2.out)).trans HV2.out
  have HB3 : Hid (Below w.heap.size w (w2.alloc (.cells #[.int .i64 fk, .int .i64 fn, .string ft, .int .i64 fo, .int .i64 fa, .slice fz1 fz2 fz3, .slice fz4 1 fz6] 29))) := HB2.out.trans (d2.mono HB2.out.size)
  clear d2 HX2 HV2 HB2
  dsimp only [tval]
  go_upto_region 4 with fail
  generalize (w2.alloc (.cells #[.int .i64 fk, .int .i64 fn, .string ft, .int .i64 fo, .int .i64 fa, .slice fz1 fz2 fz3, .slice fz4 1 fz6] 29)) = W3 at *
  -- what was there
  have E2 := getJ_any W3 (HT.out.stay HB3.out) (HP.out.below HB3.out)
  have k0 : W3.cell? ⟨w.heap.size, 0, none⟩ = some (.int .i64 T.x.k) := Lib.cell_of_heap HX3.out 0
  have k1 : W3.cell? ⟨w.heap.size, 1, none⟩ = some (.int .i64 T.x.n) := Lib.cell_of_heap HX3.out 1
  have k2 : W3.cell? ⟨w.heap.size, 2, none⟩ = some (.string T.x.t) := Lib.cell_of_heap HX3.out 2
  have k3 : W3.cell? ⟨w.heap.size, 3, none⟩ = some (.int .i64 T.x.o) := Lib.cell_of_heap HX3.out 3
  have k4 : W3.cell? ⟨w.heap.size, 4, none⟩ = some (.int .i64 T.x.a) := Lib.cell_of_heap HX3.out 4
  have k5 : W3.cell? ⟨w.heap.size, 5, none⟩ = some (.slice a1 T.ks.length c1) := Lib.cell_of_heap HX3.out 5
  have k6 : W3.cell? ⟨w.heap.size, 6, none⟩ = some (.slice a2 T.ts.length c2) := Lib.cell_of_heap HX3.out 6
  go_wp2_with fail
  go_fit E2
  rintro e w4 ⟨⟨v4, rfl, hI4⟩, b4⟩
  clear E2 k0 k1 k2 k3 k4 k5 k6
  have HX4 : Hid (w4.heap[w.heap.size]? = some (.cells #[.int .i64 T.x.k, .int .i64 T.x.n, .string T.x.t, .int .i64 T.x.o, .int .i64 T.x.a, .slice a1 T.ks.length c1, .slice a2 T.ts.length c2] 29)) := (b4.block _ (lt_of_heap HX3.out)).trans HX3.out
  have HV4 : Hid (w4.heap[w.heap.size + 1]? = some (.cells #[.int .i64 yk, .int .i64 yn, .string yt, .int .i64 yo, .int .i64 ya] 25)) := (b4.block _ (lt_of_heap HV3.out)).trans HV3.out
  have HB4 : Hid (Below w.heap.size w w4) := HB3.out.trans (b4.mono HB3.out.size)
  clear b4 HX3 HV3 HB3
  obtain ⟨u4, rfl⟩ := hI4.of_val
  obtain ⟨⟨gk, gn, gt, go, ga⟩, gz1, gz2, gz3, gz4, gz5, gz6, hu⟩ := hI4.parts
  subst hu
  have HWX : Hid ((⟨gk, gn, gt, go, ga⟩ : V) = (resT T l).x) := (IsTG.len hI4 rfl).2
  clear hI4
  obtain ⟨er, HER⟩ : ∃ er, Hid (errV (resE T l) = er) := ⟨_, rfl⟩
  rw [HER.out]
  have c4 := (Below.refl w4.heap.size w4).alloc (Nat.le_refl _) (.cells #[.int .i64 gk, .int .i64 gn, .string gt, .int .i64 go, .int .i64 ga, .slice gz1 gz2 gz3, .slice gz4 gz5 gz6] 29)
  have HX5 : Hid ((w4.alloc (.cells #[.int .i64 gk, .int .i64 gn, .string gt, .int .i64 go, .int .i64 ga, .slice gz1 gz2 gz3, .slice gz4 gz5 gz6] 29)).heap[w.heap.size]? = some (.cells #[.int .i64 T.x.k, .int .i64 T.x.n, .string T.x.t, .int .i64 T.x.o, .int .i64 T.x.a, .slice a1 T.ks.length c1, .slice a2 T.ts.length c2] 29)) := (c4.block _ (lt_of_heap HX4.out)).trans HX4.out
  have HV5 : Hid ((w4.alloc (.cells #[.int .i64 gk, .int .i64 gn, .string gt, .int .i64 go, .int .i64 ga, .slice gz1 gz2 gz3, .slice gz4 gz5 gz6] 29)).heap[w.heap.size + 1]? = some (.cells #[.int .i64 yk, .int .i64 yn, .string yt, .int .i64 yo, .int .i64 ya] 25)) := (c4.block _ (lt_of_heap HV4.out)).trans HV4.out
  have HW5 : Hid ((w4.alloc (.cells #[.int .i64 gk, .int .i64 gn, .string gt, .int .i64 go, .int .i64 ga, .slice gz1 gz2 gz3, .slice gz4 gz5 gz6] 29)).heap[w4.heap.size]? = some (.cells #[.int .i64 gk, .int .i64 gn, .string gt, .int .i64 go, .int .i64 ga, .slice gz1 gz2 gz3, .slice gz4 gz5 gz6] 29)) := (MapKept.heap_alloc w4 _).1
  have HB5 : Hid (Below w.heap.size w (w4.alloc (.cells #[.int .i64 gk, .int .i64 gn, .string gt, .int .i64 go, .int .i64 ga, .slice gz1 gz2 gz3, .slice gz4 gz5 gz6] 29))) := HB4.out.trans (c4.mono HB4.out.size)
  clear c4 HX4 HV4 HB4
  dsimp only [tval]
  go_upto_region 5 with fail
  generalize (w4.alloc (.cells #[.int .i64 gk, .int .i64 gn, .string gt, .int .i64 go, .int .i64 ga, .slice gz1 gz2 gz3, .slice gz4 gz5 gz6] 29)) = W5 at *
  generalize w4.heap.size = nw at *
  -- what is set
  have c5 := (Below.refl W5.heap.size W5).alloc (Nat.le_refl _) (.cells #[.int .i64 1, .slice pa pn pc, .int .i64 yk, .int .i64 yn, .string yt, .int .i64 yo, .int .i64 ya] 38)
  have HX6 : Hid ((W5.alloc (.cells #[.int .i64 1, .slice pa pn pc, .int .i64 yk, .int .i64 yn, .string yt, .int .i64 yo, .int .i64 ya] 38)).heap[w.heap.size]? = some (.cells #[.int .i64 T.x.k, .int .i64 T.x.n, .string T.x.t, .int .i64 T.x.o, .int .i64 T.x.a, .slice a1 T.ks.length c1, .slice a2 T.ts.length c2] 29)) := (c5.block _ (lt_of_heap HX5.out)).trans HX5.out
  have HV6 : Hid ((W5.alloc (.cells #[.int .i64 1, .slice pa pn pc, .int .i64 yk, .int .i64 yn, .string yt, .int .i64 yo, .int .i64 ya] 38)).heap[w.heap.size + 1]? = some (.cells #[.int .i64 yk, .int .i64 yn, .string yt, .int .i64 yo, .int .i64 ya] 25)) := (c5.block _ (lt_of_heap HV5.out)).trans HV5.out
  have HW6 : Hid ((W5.alloc (.cells #[.int .i64 1, .slice pa pn pc, .int .i64 yk, .int .i64 yn, .string yt, .int .i64 yo, .int .i64 ya] 38)).heap[nw]? = some (.cells #[.int .i64 gk, .int .i64 gn, .string gt, .int .i64 go, .int .i64 ga, .slice gz1 gz2 gz3, .slice gz4 gz5 gz6] 29)) := (c5.block _ (lt_of_heap HW5.out)).trans HW5.out
  have HB6 : Hid (Below w.heap.size w (W5.alloc (.cells #[.int .i64 1, .slice pa pn pc, .int .i64 yk, .int .i64 yn, .string yt, .int .i64 yo, .int .i64 ya] 38))) := HB5.out.trans (c5.mono HB5.out.size)
  have E3 := applyJ_any (T := T) (l := l) (qb := W5.heap.size) ⟨yk, yn, yt, yo, ya⟩ (W5.alloc (.cells #[.int .i64 1, .slice pa pn pc, .int .i64 yk, .int .i64 yn, .string yt, .int .i64 yo, .int .i64 ya] 38)) (HT.out.stay HB6.out) (HP.out.below HB6.out) (MapKept.heap_alloc W5 _).1
  have k0 : W5.cell? ⟨w.heap.size, 0, none⟩ = some (.int .i64 T.x.k) := Lib.cell_of_heap HX5.out 0
  have k1 : W5.cell? ⟨w.heap.size, 1, none⟩ = some (.int .i64 T.x.n) := Lib.cell_of_heap HX5.out 1
  have k2 : W5.cell? ⟨w.heap.size, 2, none⟩ = some (.string T.x.t) := Lib.cell_of_heap HX5.out 2
  have k3 : W5.cell? ⟨w.heap.size, 3, none⟩ = some (.int .i64 T.x.o) := Lib.cell_of_heap HX5.out 3
  have k4 : W5.cell? ⟨w.heap.size, 4, none⟩ = some (.int .i64 T.x.a) := Lib.cell_of_heap HX5.out 4
  have k5 : W5.cell? ⟨w.heap.size, 5, none⟩ = some (.slice a1 T.ks.length c1) := Lib.cell_of_heap HX5.out 5
  have k6 : W5.cell? ⟨w.heap.size, 6, none⟩ = some (.slice a2 T.ts.length c2) := Lib.cell_of_heap HX5.out 6
  have l0 : W5.cell? ⟨w.heap.size + 1, 0, none⟩ = some (.int .i64 yk) := Lib.cell_of_heap HV5.out 0
  have l1 : W5.cell? ⟨w.heap.size + 1, 1, none⟩ = some (.int .i64 yn) := Lib.cell_of_heap HV5.out 1
  have l2 : W5.cell? ⟨w.heap.size + 1, 2, none⟩ = some (.string yt) := Lib.cell_of_heap HV5.out 2
  have l3 : W5.cell? ⟨w.heap.size + 1, 3, none⟩ = some (.int .i64 yo) := Lib.cell_of_heap HV5.out 3
  have l4 : W5.cell? ⟨w.heap.size + 1, 4, none⟩ = some (.int .i64 ya) := Lib.cell_of_heap HV5.out 4
  clear c5 HX5 HV5 HW5 HB5
  go_wp2_with fail
  go_fit E3
  rintro e w7 ⟨hA, b7⟩
  clear E3 k0 k1 k2 k3 k4 k5 k6 l0 l1 l2 l3 l4
  have HX7 : Hid (w7.heap[w.heap.size]? = some (.cells #[.int .i64 T.x.k, .int .i64 T.x.n, .string T.x.t, .int .i64 T.x.o, .int .i64 T.x.a, .slice a1 T.ks.length c1, .slice a2 T.ts.length c2] 29)) := (b7.block _ (lt_of_heap HX6.out)).trans HX6.out
  have HV7 : Hid (w7.heap[w.heap.size + 1]? = some (.cells #[.int .i64 yk, .int .i64 yn, .string yt, .int .i64 yo, .int .i64 ya] 25)) := (b7.block _ (lt_of_heap HV6.out)).trans HV6.out
  have HW7 : Hid (w7.heap[nw]? = some (.cells #[.int .i64 gk, .int .i64 gn, .string gt, .int .i64 go, .int .i64 ga, .slice gz1 gz2 gz3, .slice gz4 gz5 gz6] 29)) := (b7.block _ (lt_of_heap HW6.out)).trans HW6.out
  have HB7 : Hid (Below w.heap.size w w7) := HB6.out.trans (b7.mono HB6.out.size)
  clear b7 HX6 HV6 HW6 HB6
  rcases hA.symm with ⟨c, rfl, -⟩ | ⟨T', u', rfl, hc, hpat, hU, hs, hI⟩
  · have c7 := (Below.refl w7.heap.size w7).alloc (Nat.le_refl _) (.cells #[.int .i64 0, .int .i64 0, .string ⟨#[]⟩, .int .i64 0, .int .i64 0, .slice none 0 0, .slice none 0 0] 29)
    have HE : Hid (Below w.heap.size w (w7.alloc (.cells #[.int .i64 0, .int .i64 0, .string ⟨#[]⟩, .int .i64 0, .int .i64 0, .slice none 0 0, .slice none 0 0] 29))) := HB7.out.trans (c7.mono HB7.out.size)
    clear c7
    dsimp only [zT]
    go_wp2
    go_ret
    exact ⟨rfl, HE.out⟩
  have HU : Hid (chkT T = 0 ∧ patB l ⟨yk, yn, yt, yo, ya⟩ = true ∧ UpdR T l ⟨yk, yn, yt, yo, ya⟩ T' ∧ T'.size ≤ 400) := ⟨hc, hpat, hU, hs⟩
  clear hc hpat hU hs
  obtain ⟨⟨uk, un, ut, uo, ua⟩, uz1, uz2, uz3, uz4, uz5, uz6, hu⟩ := hI.parts
  subst hu
  have c7 := (Below.refl w7.heap.size w7).alloc (Nat.le_refl _) (.cells #[.int .i64 uk, .int .i64 un, .string ut, .int .i64 uo, .int .i64 ua, .slice uz1 uz2 uz3, .slice uz4 uz5 uz6] 29)
  have HX8 : Hid ((w7.alloc (.cells #[.int .i64 uk, .int .i64 un, .string ut, .int .i64 uo, .int .i64 ua, .slice uz1 uz2 uz3, .slice uz4 uz5 uz6] 29)).heap[w.heap.size]? = some (.cells #[.int .i64 T.x.k, .int .i64 T.x.n, .string T.x.t, .int .i64 T.x.o, .int .i64 T.x.a, .slice a1 T.ks.length c1, .slice a2 T.ts.length c2] 29)) := (c7.block _ (lt_of_heap HX7.out)).trans HX7.out
  have HV8 : Hid ((w7.alloc (.cells #[.int .i64 uk, .int .i64 un, .string ut, .int .i64 uo, .int .i64 ua, .slice uz1 uz2 uz3, .slice uz4 uz5 uz6] 29)).heap[w.heap.size + 1]? = some (.cells #[.int .i64 yk, .int .i64 yn, .string yt, .int .i64 yo, .int .i64 ya] 25)) := (c7.block _ (lt_of_heap HV7.out)).trans HV7.out
  have HW8 : Hid ((w7.alloc (.cells #[.int .i64 uk, .int .i64 un, .string ut, .int .i64 uo, .int .i64 ua, .slice uz1 uz2 uz3, .slice uz4 uz5 uz6] 29)).heap[nw]? = some (.cells #[.int .i64 gk, .int .i64 gn, .string gt, .int .i64 go, .int .i64 ga, .slice gz1 gz2 gz3, .slice gz4 gz5 gz6] 29)) := (c7.block _ (lt_of_heap HW7.out)).trans HW7.out
  have HU8 : Hid ((w7.alloc (.cells #[.int .i64 uk, .int .i64 un, .string ut, .int .i64 uo, .int .i64 ua, .slice uz1 uz2 uz3, .slice uz4 uz5 uz6] 29)).heap[w7.heap.size]? = some (.cells #[.int .i64 uk, .int .i64 un, .string ut, .int .i64 uo, .int .i64 ua, .slice uz1 uz2 uz3, .slice uz4 uz5 uz6] 29)) := (MapKept.heap_alloc w7 _).1
  have HI8 : Hid (IsT (w7.alloc (.cells #[.int .i64 uk, .int .i64 un, .string ut, .int .i64 uo, .int .i64 ua, .slice uz1 uz2 uz3, .slice uz4 uz5 uz6] 29)) (tval (⟨uk, un, ut, uo, ua⟩, .slice uz1 uz2 uz3, .slice uz4 uz5 uz6)) T') := hI.stay c7
  have HB8 : Hid (Below w.heap.size w (w7.alloc (.cells #[.int .i64 uk, .int .i64 un, .string ut, .int .i64 uo, .int .i64 ua, .slice uz1 uz2 uz3, .slice uz4 uz5 uz6] 29))) := HB7.out.trans (c7.mono HB7.out.size)
  clear c7 HX7 HV7 HW7 HB7 hI
  dsimp only [tval]
  go_upto_region 8 with fail
  generalize (w7.alloc (.cells #[.int .i64 uk, .int .i64 un, .string ut, .int .i64 uo, .int .i64 ua, .slice uz1 uz2 uz3, .slice uz4 uz5 uz6] 29)) = W8 at *
  generalize w7.heap.size = nu at *
  -- what is there then
  have E4 := getJ_any W8 HI8.out (HP.out.below HB8.out)
  have k0 : W8.cell? ⟨nu, 0, none⟩ = some (.int .i64 uk) := Lib.cell_of_heap HU8.out 0
  have k1 : W8.cell? ⟨nu, 1, none⟩ = some (.int .i64 un) := Lib.cell_of_heap HU8.out 1
  have k2 : W8.cell? ⟨nu, 2, none⟩ = some (.string ut) := Lib.cell_of_heap HU8.out 2
  have k3 : W8.cell? ⟨nu, 3, none⟩ = some (.int .i64 uo) := Lib.cell_of_heap HU8.out 3
  have k4 : W8.cell? ⟨nu, 4, none⟩ = some (.int .i64 ua) := Lib.cell_of_heap HU8.out 4
  have k5 : W8.cell? ⟨nu, 5, none⟩ = some (.slice uz1 uz2 uz3) := Lib.cell_of_heap HU8.out 5
  have k6 : W8.cell? ⟨nu, 6, none⟩ = some (.slice uz4 uz5 uz6) := Lib.cell_of_heap HU8.out 6
  dsimp only [tval] at E4
  go_wp2_with fail
  go_fit E4
  rintro e w9 ⟨⟨v9, he9, hI9⟩, b9⟩
  clear E4 k0 k1 k2 k3 k4 k5 k6
  obtain ⟨hn1, hn2, hn3⟩ := now_ok HU.out.1 HU.out.2.1 HU.out.2.2.1 HU.out.2.2.2
  have he0 : errV 0 = .nilIface := rfl
  rw [hn2, he0] at he9
  subst he9
  rw [hn3] at hI9
  obtain ⟨u9, rfl⟩ := hI9.of_val
  obtain ⟨⟨mk, mn, mt, mo, ma⟩, mz1, mz2, mz3, mz4, mz5, mz6, hu⟩ := hI9.parts
  subst hu
  obtain ⟨hl9, hx9⟩ := IsTG.len hI9 rfl
  have hl9' : mz5 = 0 := hl9
  have hx9' : (⟨mk, mn, mt, mo, ma⟩ : V) = ⟨yk, yn, yt, yo, ya⟩ := hx9
  injection hx9' with i1 i2 i3 i4 i5
  subst hl9' i1 i2 i3 i4 i5
  have HX9 : Hid (w9.heap[w.heap.size]? = some (.cells #[.int .i64 T.x.k, .int .i64 T.x.n, .string T.x.t, .int .i64 T.x.o, .int .i64 T.x.a, .slice a1 T.ks.length c1, .slice a2 T.ts.length c2] 29)) := (b9.block _ (lt_of_heap HX8.out)).trans HX8.out
  have HV9 : Hid (w9.heap[w.heap.size + 1]? = some (.cells #[.int .i64 mk, .int .i64 mn, .string mt, .int .i64 mo, .int .i64 ma] 25)) := (b9.block _ (lt_of_heap HV8.out)).trans HV8.out
  have HW9 : Hid (w9.heap[nw]? = some (.cells #[.int .i64 gk, .int .i64 gn, .string gt, .int .i64 go, .int .i64 ga, .slice gz1 gz2 gz3, .slice gz4 gz5 gz6] 29)) := (b9.block _ (lt_of_heap HW8.out)).trans HW8.out
  have HU9 : Hid (w9.heap[nu]? = some (.cells #[.int .i64 uk, .int .i64 un, .string ut, .int .i64 uo, .int .i64 ua, .slice uz1 uz2 uz3, .slice uz4 uz5 uz6] 29)) := (b9.block _ (lt_of_heap HU8.out)).trans HU8.out
  have HI9 : Hid (IsT w9 (tval (⟨uk, un, ut, uo, ua⟩, .slice uz1 uz2 uz3, .slice uz4 uz5 uz6)) T') := HI8.out.stay b9
  have HB9 : Hid (Below w.heap.size w w9) := HB8.out.trans (b9.mono HB8.out.size)
  clear b9 HX8 HV8 HW8 HU8 HI8 HB8 hI9 hl9 hx9 hn1 hn2 hn3 he0
  have c9 := (Below.refl w9.heap.size w9).alloc (Nat.le_refl _) (.cells #[.int .i64 mk, .int .i64 mn, .string mt, .int .i64 mo, .int .i64 ma, .slice mz1 mz2 mz3, .slice mz4 0 mz6] 29)
  have HX10 : Hid ((w9.alloc (.cells #[.int .i64 mk, .int .i64 mn, .string mt, .int .i64 mo, .int .i64 ma, .slice mz1 mz2 mz3, .slice mz4 0 mz6] 29)).heap[w.heap.size]? = some (.cells #[.int .i64 T.x.k, .int .i64 T.x.n, .string T.x.t, .int .i64 T.x.o, .int .i64 T.x.a, .slice a1 T.ks.length c1, .slice a2 T.ts.length c2] 29)) := (c9.block _ (lt_of_heap HX9.out)).trans HX9.out
  have HV10 : Hid ((w9.alloc (.cells #[.int .i64 mk, .int .i64 mn, .string mt, .int .i64 mo, .int .i64 ma, .slice mz1 mz2 mz3, .slice mz4 0 mz6] 29)).heap[w.heap.size + 1]? = some (.cells #[.int .i64 mk, .int .i64 mn, .string mt, .int .i64 mo, .int .i64 ma] 25)) := (c9.block _ (lt_of_heap HV9.out)).trans HV9.out
  have HW10 : Hid ((w9.alloc (.cells #[.int .i64 mk, .int .i64 mn, .string mt, .int .i64 mo, .int .i64 ma, .slice mz1 mz2 mz3, .slice mz4 0 mz6] 29)).heap[nw]? = some (.cells #[.int .i64 gk, .int .i64 gn, .string gt, .int .i64 go, .int .i64 ga, .slice gz1 gz2 gz3, .slice gz4 gz5 gz6] 29)) := (c9.block _ (lt_of_heap HW9.out)).trans HW9.out
  have HU10 : Hid ((w9.alloc (.cells #[.int .i64 mk, .int .i64 mn, .string mt, .int .i64 mo, .int .i64 ma, .slice mz1 mz2 mz3, .slice mz4 0 mz6] 29)).heap[nu]? = some (.cells #[.int .i64 uk, .int .i64 un, .string ut, .int .i64 uo, .int .i64 ua, .slice uz1 uz2 uz3, .slice uz4 uz5 uz6] 29)) := (c9.block _ (lt_of_heap HU9.out)).trans HU9.out
  have HN10 : Hid ((w9.alloc (.cells #[.int .i64 mk, .int .i64 mn, .string mt, .int .i64 mo, .int .i64 ma, .slice mz1 mz2 mz3, .slice mz4 0 mz6] 29)).heap[w9.heap.size]? = some (.cells #[.int .i64 mk, .int .i64 mn, .string mt, .int .i64 mo, .int .i64 ma, .slice mz1 mz2 mz3, .slice mz4 0 mz6] 29)) := (MapKept.heap_alloc w9 _).1
  have HI10 : Hid (IsT (w9.alloc (.cells #[.int .i64 mk, .int .i64 mn, .string mt, .int .i64 mo, .int .i64 ma, .slice mz1 mz2 mz3, .slice mz4 0 mz6] 29)) (tval (⟨uk, un, ut, uo, ua⟩, .slice uz1 uz2 uz3, .slice uz4 uz5 uz6)) T') := HI9.out.stay c9
  have HB10 : Hid (Below w.heap.size w (w9.alloc (.cells #[.int .i64 mk, .int .i64 mn, .string mt, .int .i64 mo, .int .i64 ma, .slice mz1 mz2 mz3, .slice mz4 0 mz6] 29))) := HB9.out.trans (c9.mono HB9.out.size)
  clear c9 HX9 HV9 HW9 HU9 HI9 HB9
  dsimp only [tval]
  go_upto_region 9 with fail
  generalize (w9.alloc (.cells #[.int .i64 mk, .int .i64 mn, .string mt, .int .i64 mo, .int .i64 ma, .slice mz1 mz2 mz3, .slice mz4 0 mz6] 29)) = W10 at *
  generalize w9.heap.size = nn at *
  have n0 : W10.cell? ⟨nn, 0, none⟩ = some (.int .i64 mk) := Lib.cell_of_heap HN10.out 0
  have n1 : W10.cell? ⟨nn, 1, none⟩ = some (.int .i64 mn) := Lib.cell_of_heap HN10.out 1
  have n2 : W10.cell? ⟨nn, 2, none⟩ = some (.string mt) := Lib.cell_of_heap HN10.out 2
  have n3 : W10.cell? ⟨nn, 3, none⟩ = some (.int .i64 mo) := Lib.cell_of_heap HN10.out 3
  have n4 : W10.cell? ⟨nn, 4, none⟩ = some (.int .i64 ma) := Lib.cell_of_heap HN10.out 4
  have n5 : W10.cell? ⟨nn, 5, none⟩ = some (.slice mz1 mz2 mz3) := Lib.cell_of_heap HN10.out 5
  have n6 : W10.cell? ⟨nn, 6, none⟩ = some (.slice mz4 0 mz6) := Lib.cell_of_heap HN10.out 6
  have l0 : W10.cell? ⟨w.heap.size + 1, 0, none⟩ = some (.int .i64 mk) := Lib.cell_of_heap HV10.out 0
  have l1 : W10.cell? ⟨w.heap.size + 1, 1, none⟩ = some (.int .i64 mn) := Lib.cell_of_heap HV10.out 1
  have l2 : W10.cell? ⟨w.heap.size + 1, 2, none⟩ = some (.string mt) := Lib.cell_of_heap HV10.out 2
  have l3 : W10.cell? ⟨w.heap.size + 1, 3, none⟩ = some (.int .i64 mo) := Lib.cell_of_heap HV10.out 3
  have l4 : W10.cell? ⟨w.heap.size + 1, 4, none⟩ = some (.int .i64 ma) := Lib.cell_of_heap HV10.out 4
  have eq0 : ∀ W, (Op.equalIn 10000 25 (.agg #[.int .i64 mk, .int .i64 mn, .string mt, .int .i64 mo, .int .i64 ma]) (.agg #[.int .i64 mk, .int .i64 mn, .string mt, .int .i64 mo, .int .i64 ma])).run Try.prog W = .ok true W := fun W => by
    have h := eqV ⟨mk, mn, mt, mo, ma⟩ ⟨mk, mn, mt, mo, ma⟩ W
    have h2 : sameB ⟨mk, mn, mt, mo, ma⟩ ⟨mk, mn, mt, mo, ma⟩ = true := by simp [sameB]
    rw [h2] at h
    exact h
  go_upto_region 11 with fail
  clear n0 n1 n2 n3 n4 n5 n6 l0 l1 l2 l3 l4 eq0 HN10
  by_cases he : resE T l = 0
  · obtain rfl : er = .nilIface := by rw [← HER.out, he]; rfl
    have g0 : W10.cell? ⟨nw, 0, none⟩ = some (.int .i64 gk) := Lib.cell_of_heap HW10.out 0
    have g1 : W10.cell? ⟨nw, 1, none⟩ = some (.int .i64 gn) := Lib.cell_of_heap HW10.out 1
    have g2 : W10.cell? ⟨nw, 2, none⟩ = some (.string gt) := Lib.cell_of_heap HW10.out 2
    have g3 : W10.cell? ⟨nw, 3, none⟩ = some (.int .i64 go) := Lib.cell_of_heap HW10.out 3
    have g4 : W10.cell? ⟨nw, 4, none⟩ = some (.int .i64 ga) := Lib.cell_of_heap HW10.out 4
    have g5 : W10.cell? ⟨nw, 5, none⟩ = some (.slice gz1 gz2 gz3) := Lib.cell_of_heap HW10.out 5
    have g6 : W10.cell? ⟨nw, 6, none⟩ = some (.slice gz4 gz5 gz6) := Lib.cell_of_heap HW10.out 6
    by_cases hk : gk ≤ 3
    · have hk' : ¬ 3 < gk := by omega
      have hbk := back_ok HT.out HU.out.1 HU.out.2.1 HU.out.2.2.1 HU.out.2.2.2 he (by rw [← HWX.out]; exact hk)
      rw [← HWX.out] at hbk
      have HBK : Hid (¬ NoApply T' l ⟨gk, gn, gt, go, ga⟩ ∧ ∀ T'', UpdR T' l ⟨gk, gn, gt, go, ga⟩ T'' → T'' = T) := hbk
      clear hbk he
      go_upto_region 13 with fail
      clear hk hk'
      have c10 := (Below.refl W10.heap.size W10).alloc (Nat.le_refl _) (.cells #[.int .i64 1, .slice pa pn pc, .int .i64 gk, .int .i64 gn, .string gt, .int .i64 go, .int .i64 ga] 38)
      have HX11 : Hid ((W10.alloc (.cells #[.int .i64 1, .slice pa pn pc, .int .i64 gk, .int .i64 gn, .string gt, .int .i64 go, .int .i64 ga] 38)).heap[w.heap.size]? = some (.cells #[.int .i64 T.x.k, .int .i64 T.x.n, .string T.x.t, .int .i64 T.x.o, .int .i64 T.x.a, .slice a1 T.ks.length c1, .slice a2 T.ts.length c2] 29)) := (c10.block _ (lt_of_heap HX10.out)).trans HX10.out
      have HB11 : Hid (Below w.heap.size w (W10.alloc (.cells #[.int .i64 1, .slice pa pn pc, .int .i64 gk, .int .i64 gn, .string gt, .int .i64 go, .int .i64 ga] 38))) := HB10.out.trans (c10.mono HB10.out.size)
      have E5 := applyJ_any (T := T') (l := l) (qb := W10.heap.size) ⟨gk, gn, gt, go, ga⟩ (W10.alloc (.cells #[.int .i64 1, .slice pa pn pc, .int .i64 gk, .int .i64 gn, .string gt, .int .i64 go, .int .i64 ga] 38)) (HI10.out.stay c10) (HP.out.below HB11.out) (MapKept.heap_alloc W10 _).1
      have k0 : W10.cell? ⟨nu, 0, none⟩ = some (.int .i64 uk) := Lib.cell_of_heap HU10.out 0
      have k1 : W10.cell? ⟨nu, 1, none⟩ = some (.int .i64 un) := Lib.cell_of_heap HU10.out 1
      have k2 : W10.cell? ⟨nu, 2, none⟩ = some (.string ut) := Lib.cell_of_heap HU10.out 2
      have k3 : W10.cell? ⟨nu, 3, none⟩ = some (.int .i64 uo) := Lib.cell_of_heap HU10.out 3
      have k4 : W10.cell? ⟨nu, 4, none⟩ = some (.int .i64 ua) := Lib.cell_of_heap HU10.out 4
      have k5 : W10.cell? ⟨nu, 5, none⟩ = some (.slice uz1 uz2 uz3) := Lib.cell_of_heap HU10.out 5
      have k6 : W10.cell? ⟨nu, 6, none⟩ = some (.slice uz4 uz5 uz6) := Lib.cell_of_heap HU10.out 6
      clear c10 HV10 HW10 HU10
      dsimp only [tval] at E5
      go_wp2_with fail
      go_fit E5
      rintro e w12 ⟨hA, b12⟩
      clear E5 k0 k1 k2 k3 k4 k5 k6 g0 g1 g2 g3 g4 g5 g6
      have HX12 : Hid (w12.heap[w.heap.size]? = some (.cells #[.int .i64 T.x.k, .int .i64 T.x.n, .string T.x.t, .int .i64 T.x.o, .int .i64 T.x.a, .slice a1 T.ks.length c1, .slice a2 T.ts.length c2] 29)) := (b12.block _ (lt_of_heap HX11.out)).trans HX11.out
      have HB12 : Hid (Below w.heap.size w w12) := HB11.out.trans (b12.mono HB11.out.size)
      clear b12 HX11 HX10 HB11 HB10 HI10
      rcases hA.symm with ⟨c, -, hno⟩ | ⟨T2, u2, rfl, -, -, hU2, -, hI2⟩
      · exact absurd hno HBK.out.1
      have hT2 : T = T2 := (HBK.out.2 T2 hU2).symm
      subst hT2
      obtain ⟨⟨bk, bn, bt, bo, ba⟩, bz1, bz2, bz3, bz4, bz5, bz6, hu⟩ := hI2.parts
      subst hu
      have c12 := (Below.refl w12.heap.size w12).alloc (Nat.le_refl _) (.cells #[.int .i64 bk, .int .i64 bn, .string bt, .int .i64 bo, .int .i64 ba, .slice bz1 bz2 bz3, .slice bz4 bz5 bz6] 29)
      have HX13 : Hid ((w12.alloc (.cells #[.int .i64 bk, .int .i64 bn, .string bt, .int .i64 bo, .int .i64 ba, .slice bz1 bz2 bz3, .slice bz4 bz5 bz6] 29)).heap[w.heap.size]? = some (.cells #[.int .i64 T.x.k, .int .i64 T.x.n, .string T.x.t, .int .i64 T.x.o, .int .i64 T.x.a, .slice a1 T.ks.length c1, .slice a2 T.ts.length c2] 29)) := (c12.block _ (lt_of_heap HX12.out)).trans HX12.out
      have HK13 : Hid ((w12.alloc (.cells #[.int .i64 bk, .int .i64 bn, .string bt, .int .i64 bo, .int .i64 ba, .slice bz1 bz2 bz3, .slice bz4 bz5 bz6] 29)).heap[w12.heap.size]? = some (.cells #[.int .i64 bk, .int .i64 bn, .string bt, .int .i64 bo, .int .i64 ba, .slice bz1 bz2 bz3, .slice bz4 bz5 bz6] 29)) := (MapKept.heap_alloc w12 _).1
      have HB13 : Hid (Below w.heap.size w (w12.alloc (.cells #[.int .i64 bk, .int .i64 bn, .string bt, .int .i64 bo, .int .i64 ba, .slice bz1 bz2 bz3, .slice bz4 bz5 bz6] 29))) := HB12.out.trans (c12.mono HB12.out.size)
      have E6 := same_any hI2 (w12.alloc (.cells #[.int .i64 bk, .int .i64 bn, .string bt, .int .i64 bo, .int .i64 ba, .slice bz1 bz2 bz3, .slice bz4 bz5 bz6] 29)) _ (HT.out.stay HB12.out) c12
      clear c12 HX12 HB12 hI2 hU2
      dsimp only [tval] at E6 ⊢
      go_upto_region 14 with fail
      generalize (w12.alloc (.cells #[.int .i64 bk, .int .i64 bn, .string bt, .int .i64 bo, .int .i64 ba, .slice bz1 bz2 bz3, .slice bz4 bz5 bz6] 29)) = W13 at *
      generalize w12.heap.size = nb at *
      have k0 : W13.cell? ⟨w.heap.size, 0, none⟩ = some (.int .i64 T.x.k) := Lib.cell_of_heap HX13.out 0
      have k1 : W13.cell? ⟨w.heap.size, 1, none⟩ = some (.int .i64 T.x.n) := Lib.cell_of_heap HX13.out 1
      have k2 : W13.cell? ⟨w.heap.size, 2, none⟩ = some (.string T.x.t) := Lib.cell_of_heap HX13.out 2
      have k3 : W13.cell? ⟨w.heap.size, 3, none⟩ = some (.int .i64 T.x.o) := Lib.cell_of_heap HX13.out 3
      have k4 : W13.cell? ⟨w.heap.size, 4, none⟩ = some (.int .i64 T.x.a) := Lib.cell_of_heap HX13.out 4
      have k5 : W13.cell? ⟨w.heap.size, 5, none⟩ = some (.slice a1 T.ks.length c1) := Lib.cell_of_heap HX13.out 5
      have k6 : W13.cell? ⟨w.heap.size, 6, none⟩ = some (.slice a2 T.ts.length c2) := Lib.cell_of_heap HX13.out 6
      have g0 : W13.cell? ⟨nb, 0, none⟩ = some (.int .i64 bk) := Lib.cell_of_heap HK13.out 0
      have g1 : W13.cell? ⟨nb, 1, none⟩ = some (.int .i64 bn) := Lib.cell_of_heap HK13.out 1
      have g2 : W13.cell? ⟨nb, 2, none⟩ = some (.string bt) := Lib.cell_of_heap HK13.out 2
      have g3 : W13.cell? ⟨nb, 3, none⟩ = some (.int .i64 bo) := Lib.cell_of_heap HK13.out 3
      have g4 : W13.cell? ⟨nb, 4, none⟩ = some (.int .i64 ba) := Lib.cell_of_heap HK13.out 4
      have g5 : W13.cell? ⟨nb, 5, none⟩ = some (.slice bz1 bz2 bz3) := Lib.cell_of_heap HK13.out 5
      have g6 : W13.cell? ⟨nb, 6, none⟩ = some (.slice bz4 bz5 bz6) := Lib.cell_of_heap HK13.out 6
      go_wp2_with fail
      go_fit E6
      rintro r w14 ⟨rfl, b14⟩
      have HB14 : Hid (Below w.heap.size w w14) := HB13.out.trans (b14.mono HB13.out.size)
      clear b14 E6 k0 k1 k2 k3 k4 k5 k6 g0 g1 g2 g3 g4 g5 g6
      go_wp2
      go_ret
      exact ⟨rfl, HB14.out⟩
    · have hk' : 3 < gk := by omega
      go_wp2
      go_ret
      exact ⟨rfl, HB10.out⟩
  · obtain ⟨ee, hee⟩ : ∃ ee, er = .iface 48 (.int .i64 ee) := ⟨resE T l, by rw [← HER.out]; unfold errV; rw [if_neg he]⟩
    subst hee
    go_wp2
    go_ret
    exact ⟨rfl, HB10.out⟩
end Go.Proofs.Ytnhijdhapokcbaa
