/-
  What is proved: the law JsonGets, called with any tree and path that lie in memory, returns true, and nothing that was there has turned.
  Conditions: both lie in memory; the package variable errorType of package errors lies as the text lays it.
-/
import Derived.Test.YtemannmcjioimaaDoorJGetJ
import Derived.Test.YtemannmcjioimaaDoorJSame
import Derived.Test.YtemannmcjioimaaDoorToldC
namespace Go.Proofs.YtemannmcjioimaaDoor
open Go.RowKit Go.Sort

theorem error_any (e : Int) (w : World) (h : Et w) : Calls Tryd.prog 12 #[errV e, .int .i64 e] w fun r w' => r = .returned (.bool true) ∧ Below w.heap.size w w' := by
  unfold errV
  by_cases he : e = 0
  · subst he
    rw [if_pos rfl]
    exact error_nil w
  · rw [if_neg he]
    exact error_errno e w h

set_option maxRecDepth 100000 in
set_option maxHeartbeats 4000000 in
theorem tree_any {v v' : Value} {t : JT} (e : Int) (w : World) (h : IsT w v t) (h' : IsT w v' t) (hE : Et w) :
    Calls Tryd.prog 8 #[v, errV e, v', .int .i64 e] w fun r w' => r = .returned (.bool true) ∧ Below w.heap.size w w' := by
  obtain ⟨u, rfl⟩ := h.of_val
  obtain ⟨⟨xk, xn, xt, xo, xa⟩, a1, n1, c1, a2, n2, c2, hu⟩ := h.parts
  subst hu
  obtain ⟨u', rfl⟩ := h'.of_val
  obtain ⟨⟨yk, yn, yt, yo, ya⟩, f1, g1, h1, f2, g2, h2, hu'⟩ := h'.parts
  subst hu'
  obtain ⟨x0, y0, b0⟩ := two_boxes w (.cells #[.int .i64 xk, .int .i64 xn, .string xt, .int .i64 xo, .int .i64 xa, .slice a1 n1 c1, .slice a2 n2 c2] 29) (.cells #[.int .i64 yk, .int .i64 yn, .string yt, .int .i64 yo, .int .i64 ya, .slice f1 g1 h1, .slice f2 g2 h2] 29)
  have E1 := error_any e _ (hE.below b0)
  have HX : Hid (_ = some (Obj.cells #[.int .i64 xk, .int .i64 xn, .string xt, .int .i64 xo, .int .i64 xa, .slice a1 n1 c1, .slice a2 n2 c2] 29)) := x0
  have HY : Hid (_ = some (Obj.cells #[.int .i64 yk, .int .i64 yn, .string yt, .int .i64 yo, .int .i64 ya, .slice f1 g1 h1, .slice f2 g2 h2] 29)) := y0
  have HB : Hid (Below w.heap.size w _) := b0
  have HT : Hid (IsT w (tval (⟨xk, xn, xt, xo, xa⟩, .slice a1 n1 c1, .slice a2 n2 c2)) t ∧ IsT w (tval (⟨yk, yn, yt, yo, ya⟩, .slice f1 g1 h1, .slice f2 g2 h2)) t) := ⟨h, h'⟩
  clear h h' hE x0 y0 b0
  generalize errV e = er at *
  unfold tval
  dsimp only
  go_enter Tryd.func8, Tryd.ntmps8
  go_wp2_with fail
  go_fit E1
  rintro r w1 ⟨rfl, b1⟩
  have HX1 : Hid (w1.heap[w.heap.size]? = some _) := (b1.block _ (lt_of_heap HX.out)).trans HX.out
  have HY1 : Hid (w1.heap[w.heap.size + 1]? = some _) := (b1.block _ (lt_of_heap HY.out)).trans HY.out
  have HB1 : Hid (Below w.heap.size w w1) := HB.out.trans (b1.mono HB.out.size)
  clear b1 E1
  have E2 := same_any HT.out.1 w1 _ HT.out.2 HB1.out
  obtain ⟨k0, k1, k2, k3, k4, k5, k6⟩ := tboxed (u := (⟨xk, xn, xt, xo, xa⟩, .slice a1 n1 c1, .slice a2 n2 c2)) HX1.out
  obtain ⟨l0, l1, l2, l3, l4, l5, l6⟩ := tboxed (u := (⟨yk, yn, yt, yo, ya⟩, .slice f1 g1 h1, .slice f2 g2 h2)) HY1.out
  dsimp only [tval] at E2 k0 k1 k2 k3 k4 k5 k6 l0 l1 l2 l3 l4 l5 l6
  go_wp2_with fail
  go_fit E2
  rintro r w2 ⟨rfl, b2⟩
  have HB2 : Hid (Below w.heap.size w w2) := HB1.out.trans (b2.mono HB1.out.size)
  clear b2 E2 k0 k1 k2 k3 k4 k5 k6 l0 l1 l2 l3 l4 l5 l6
  go_wp2
  go_ret
  exact ⟨rfl, HB2.out⟩

set_option maxRecDepth 100000 in
set_option maxHeartbeats 8000000 in
theorem gets_any {v p : Value} {T : JT} {l : List Stp} (w : World) (h : IsT w v T) (hp : IsSteps w p l) (hE : Et w) :
    Calls Tryd.prog 3 #[v, p] w fun e w' => e = .returned (.bool true) ∧ Below w.heap.size w w' := by
  obtain ⟨u, rfl⟩ := h.of_val
  obtain ⟨N⟩ := h.node
  obtain ⟨a1, c1, a2, c2, us, hu, -, -, -, -, -, -⟩ := N
  subst hu
  have hpf : ∃ pa pn pc, p = .slice pa pn pc := by obtain ⟨a, c, e, _⟩ := hp; exact ⟨_, _, _, e⟩
  obtain ⟨pa, pn, pc, rfl⟩ := hpf
  have b0 := (Below.refl w.heap.size w).alloc (Nat.le_refl _) (.cells #[.int .i64 T.x.k, .int .i64 T.x.n, .string T.x.t, .int .i64 T.x.o, .int .i64 T.x.a, .slice a1 T.ks.length c1, .slice a2 T.ts.length c2] 29)
  have x0 : (w.alloc (.cells #[.int .i64 T.x.k, .int .i64 T.x.n, .string T.x.t, .int .i64 T.x.o, .int .i64 T.x.a, .slice a1 T.ks.length c1, .slice a2 T.ts.length c2] 29)).heap[w.heap.size]? = some _ := (MapKept.heap_alloc w _).1
  have E1 := checkH_any _ (h.stay b0)
  have HT : Hid (IsT w (tval (T.x, .slice a1 T.ks.length c1, .slice a2 T.ts.length c2)) T ∧ IsSteps w (.slice pa pn pc) l ∧ Et w) := ⟨h, hp, hE⟩
  have HX : Hid (_ = some (Obj.cells #[.int .i64 T.x.k, .int .i64 T.x.n, .string T.x.t, .int .i64 T.x.o, .int .i64 T.x.a, .slice a1 T.ks.length c1, .slice a2 T.ts.length c2] 29)) := x0
  have HB : Hid (Below w.heap.size w _) := b0
  have HE : Hid (resE T l = if chkT T = 0 then (if (getT T l).isSome = true then 0 else 6) else chkT T) := rfl
  have HR : Hid (resT T l = if chkT T = 0 then (getT T l).getD zJ else zJ) := rfl
  clear h hp hE b0 x0
  unfold tval at E1 ⊢
  dsimp only at E1 ⊢
  go_enter Tryd.func3, Tryd.ntmps3
  go_wp2_with fail
  go_fit E1
  rintro r w1 ⟨rfl, b1⟩
  have HX1 : Hid (w1.heap[w.heap.size]? = some _) := (b1.block _ (lt_of_heap HX.out)).trans HX.out
  have HB1 : Hid (Below w.heap.size w w1) := HB.out.trans (b1.mono HB.out.size)
  clear b1 E1 HX HB
  -- the box of what is wanted
  have b2 := (Below.refl w1.heap.size w1).alloc (Nat.le_refl _) (.cells #[.int .i64 0, .int .i64 0, .string ⟨#[]⟩, .int .i64 0, .int .i64 0, .slice none 0 0, .slice none 0 0] 29)
  have HX2 : Hid ((w1.alloc (.cells #[.int .i64 0, .int .i64 0, .string ⟨#[]⟩, .int .i64 0, .int .i64 0, .slice none 0 0, .slice none 0 0] 29)).heap[w.heap.size]? = some _) := (b2.block _ (lt_of_heap HX1.out)).trans HX1.out
  have HW2 : Hid ((w1.alloc (.cells #[.int .i64 0, .int .i64 0, .string ⟨#[]⟩, .int .i64 0, .int .i64 0, .slice none 0 0, .slice none 0 0] 29)).heap[w1.heap.size]? = some _) := (MapKept.heap_alloc w1 _).1
  have HB2 : Hid (Below w.heap.size w _) := HB1.out.trans (b2.mono HB1.out.size)
  clear b2
  by_cases hc : chkT T = 0
  · have HC : Hid (chkT T = 0) := hc
    rw [hc]
    have E3 := getH_any (w1.alloc (.cells #[.int .i64 0, .int .i64 0, .string ⟨#[]⟩, .int .i64 0, .int .i64 0, .slice none 0 0, .slice none 0 0] 29)) HB2.out HT.out.1 HT.out.2.1 (chkT_zero hc).1
    obtain ⟨k0, k1, k2, k3, k4, k5, k6⟩ := tboxed (u := (T.x, .slice a1 T.ks.length c1, .slice a2 T.ts.length c2)) HX2.out
    dsimp only [tval] at E3 k0 k1 k2 k3 k4 k5 k6
    clear hc
    go_wp2_with fail
    go_fit E3
    rintro r w3 ⟨hG, b3⟩
    have HX3 : Hid (w3.heap[w.heap.size]? = some _) := (b3.block _ (lt_of_heap HX2.out)).trans HX2.out
    have HW3 : Hid (w3.heap[w1.heap.size]? = some _) := (b3.block _ (lt_of_heap HW2.out)).trans HW2.out
    have HB3 : Hid (Below w.heap.size w w3) := HB2.out.trans (b3.mono HB2.out.size)
    clear E3 k0 k1 k2 k3 k4 k5 k6
    rcases hG with ⟨t, v3, hq, rfl, hT3⟩ | ⟨hq, rfl⟩
    · obtain ⟨u3, rfl⟩ := hT3.of_val
      obtain ⟨⟨xk, xn, xt, xo, xa⟩, d1, d2, d3, d4, d5, d6, hu3⟩ := hT3.parts
      subst hu3
      have HRE : Hid (resE T l = 0) := by show resE T l = 0; rw [HE.out, if_pos HC.out, hq]; rfl
      have HRT : Hid (resT T l = t) := by show resT T l = t; rw [HR.out, if_pos HC.out, hq]; rfl
      have HT3 : Hid (IsT w (tval (⟨xk, xn, xt, xo, xa⟩, .slice d1 d2 d3, .slice d4 d5 d6)) t) := hT3
      have b4 := (Below.refl w3.heap.size w3).alloc (Nat.le_refl _) (.cells #[.int .i64 xk, .int .i64 xn, .string xt, .int .i64 xo, .int .i64 xa, .slice d1 d2 d3, .slice d4 d5 d6] 29)
      have hx4 := (b4.block _ (lt_of_heap HX3.out)).trans HX3.out
      have hw4 := (b4.block _ (lt_of_heap HW3.out)).trans HW3.out
      have hne : w.heap.size < w1.heap.size := lt_of_heap HX1.out
      have HBK : Hid (Below w.heap.size w (put7 (w3.alloc (.cells #[.int .i64 xk, .int .i64 xn, .string xt, .int .i64 xo, .int .i64 xa, .slice d1 d2 d3, .slice d4 d5 d6] 29)) w1.heap.size 0 (⟨xk, xn, xt, xo, xa⟩, .slice d1 d2 d3, .slice d4 d5 d6))) := put7_below (HB3.out.trans (b4.mono HB3.out.size)) _ _ _ (Nat.le_of_lt hne)
      have HWK : Hid ((put7 (w3.alloc (.cells #[.int .i64 xk, .int .i64 xn, .string xt, .int .i64 xo, .int .i64 xa, .slice d1 d2 d3, .slice d4 d5 d6] 29)) w1.heap.size 0 (⟨xk, xn, xt, xo, xa⟩, .slice d1 d2 d3, .slice d4 d5 d6)).heap[w1.heap.size]? = some _) := set7 hw4 (.int .i64 xk) (.int .i64 xn) (.string xt) (.int .i64 xo) (.int .i64 xa) (.slice d1 d2 d3) (.slice d4 d5 d6)
      have HXK : Hid ((put7 (w3.alloc (.cells #[.int .i64 xk, .int .i64 xn, .string xt, .int .i64 xo, .int .i64 xa, .slice d1 d2 d3, .slice d4 d5 d6] 29)) w1.heap.size 0 (⟨xk, xn, xt, xo, xa⟩, .slice d1 d2 d3, .slice d4 d5 d6)).heap[w.heap.size]? = some _) := (put7_other _ _ _ _ _ (Nat.ne_of_lt hne)).trans hx4
      have z0 : (w3.alloc (.cells #[.int .i64 xk, .int .i64 xn, .string xt, .int .i64 xo, .int .i64 xa, .slice d1 d2 d3, .slice d4 d5 d6] 29)).cell? ⟨w1.heap.size, 0, none⟩ = some (.int .i64 0) := Lib.cell_of_heap hw4 0
      have z1 : (w3.alloc (.cells #[.int .i64 xk, .int .i64 xn, .string xt, .int .i64 xo, .int .i64 xa, .slice d1 d2 d3, .slice d4 d5 d6] 29)).cell? ⟨w1.heap.size, 1, none⟩ = some (.int .i64 0) := Lib.cell_of_heap hw4 1
      have z2 : (w3.alloc (.cells #[.int .i64 xk, .int .i64 xn, .string xt, .int .i64 xo, .int .i64 xa, .slice d1 d2 d3, .slice d4 d5 d6] 29)).cell? ⟨w1.heap.size, 2, none⟩ = some (.string ⟨#[]⟩) := Lib.cell_of_heap hw4 2
      have z3 : (w3.alloc (.cells #[.int .i64 xk, .int .i64 xn, .string xt, .int .i64 xo, .int .i64 xa, .slice d1 d2 d3, .slice d4 d5 d6] 29)).cell? ⟨w1.heap.size, 3, none⟩ = some (.int .i64 0) := Lib.cell_of_heap hw4 3
      have z4 : (w3.alloc (.cells #[.int .i64 xk, .int .i64 xn, .string xt, .int .i64 xo, .int .i64 xa, .slice d1 d2 d3, .slice d4 d5 d6] 29)).cell? ⟨w1.heap.size, 4, none⟩ = some (.int .i64 0) := Lib.cell_of_heap hw4 4
      have z5 : (w3.alloc (.cells #[.int .i64 xk, .int .i64 xn, .string xt, .int .i64 xo, .int .i64 xa, .slice d1 d2 d3, .slice d4 d5 d6] 29)).cell? ⟨w1.heap.size, 5, none⟩ = some (.slice none 0 0) := Lib.cell_of_heap hw4 5
      have z6 : (w3.alloc (.cells #[.int .i64 xk, .int .i64 xn, .string xt, .int .i64 xo, .int .i64 xa, .slice d1 d2 d3, .slice d4 d5 d6] 29)).cell? ⟨w1.heap.size, 6, none⟩ = some (.slice none 0 0) := Lib.cell_of_heap hw4 6
      have zf := Lib.frozen_of_heap hw4
      clear hT3 hq b3 b4 hx4 hw4 hne HE HR
      dsimp only [tval]
      go_upto_region 8 with fail
      clear z0 z1 z2 z3 z4 z5 z6 zf
      dsimp only [put7, Nat.zero_add] at HBK HWK HXK
      generalize ((((((((w3.alloc (.cells #[.int .i64 xk, .int .i64 xn, .string xt, .int .i64 xo, .int .i64 xa, .slice d1 d2 d3, .slice d4 d5 d6] 29))).setCell ⟨w1.heap.size, 0, none⟩ (.int .i64 xk)).setCell ⟨w1.heap.size, 1, none⟩ (.int .i64 xn)).setCell ⟨w1.heap.size, 2, none⟩ (.string xt)).setCell ⟨w1.heap.size, 3, none⟩ (.int .i64 xo)).setCell ⟨w1.heap.size, 4, none⟩ (.int .i64 xa)).setCell ⟨w1.heap.size, 5, none⟩ (.slice d1 d2 d3)).setCell ⟨w1.heap.size, 6, none⟩ (.slice d4 d5 d6) = W5 at *
      have BK := HBK.out
      have XK := HXK.out
      have E4 := getJ_any W5 (HT.out.1.stay BK) (HT.out.2.1.below BK)
      obtain ⟨k0, k1, k2, k3, k4, k5, k6⟩ := tboxed (u := (T.x, .slice a1 T.ks.length c1, .slice a2 T.ts.length c2)) XK
      dsimp only [tval] at E4 k0 k1 k2 k3 k4 k5 k6
      clear BK XK
      go_wp2_with fail
      go_fit E4
      rintro r w6 ⟨⟨v6, rfl, hT6⟩, b6⟩
      obtain ⟨u6, rfl⟩ := hT6.of_val
      obtain ⟨⟨yk, yn, yt, yo, ya⟩, i1, j1, l1, i2, j2, l2, hu6⟩ := hT6.parts
      subst hu6
      rw [HRE.out] at *
      rw [HRT.out] at hT6
      have HW6 : Hid (w6.heap[w1.heap.size]? = some _) := (b6.block _ (lt_of_heap HWK.out)).trans HWK.out
      have HB6 : Hid (Below w.heap.size w w6) := HBK.out.trans (b6.mono HBK.out.size)
      have b7 := (Below.refl w6.heap.size w6).alloc (Nat.le_refl _) (.cells #[.int .i64 yk, .int .i64 yn, .string yt, .int .i64 yo, .int .i64 ya, .slice i1 j1 l1, .slice i2 j2 l2] 29)
      have hB7 := HB6.out.trans (b7.mono HB6.out.size)
      have hW7 : (w6.alloc (.cells #[.int .i64 yk, .int .i64 yn, .string yt, .int .i64 yo, .int .i64 ya, .slice i1 j1 l1, .slice i2 j2 l2] 29)).heap[w1.heap.size]? = some _ := (b7.block _ (lt_of_heap HW6.out)).trans HW6.out
      have E5 := tree_any 0 _ (hT6.stay b7) (HT3.out.stay hB7) (HT.out.2.2.below hB7)
      obtain ⟨p0, p1, p2, p3, p4, p5, p6⟩ := tboxed (u := (⟨xk, xn, xt, xo, xa⟩, .slice d1 d2 d3, .slice d4 d5 d6)) hW7
      have HB7 : Hid (Below w.heap.size w _) := hB7
      clear E4 k0 k1 k2 k3 k4 k5 k6 b6 hT6 b7 hB7 hW7
      dsimp only [errV] at E5 ⊢
      dsimp only [tval] at E5 p0 p1 p2 p3 p4 p5 p6 ⊢
      go_wp2_with fail
      go_fit E5
      rintro r w8 ⟨rfl, b8⟩
      have HB8 : Hid (Below w.heap.size w w8) := HB7.out.trans (b8.mono HB7.out.size)
      clear b8 E5 p0 p1 p2 p3 p4 p5 p6
      go_wp2
      go_ret
      exact ⟨rfl, HB8.out⟩
    · have HRE : Hid (resE T l = 6) := by show resE T l = 6; rw [HE.out, if_pos HC.out, hq]; rfl
      have HRT : Hid (resT T l = zJ) := by show resT T l = zJ; rw [HR.out, if_pos HC.out, hq]; rfl
      have b4 := (Below.refl w3.heap.size w3).alloc (Nat.le_refl _) (.cells #[.int .i64 0, .int .i64 0, .string ⟨#[]⟩, .int .i64 0, .int .i64 0, .slice none 0 0, .slice none 0 0] 29)
      have XK := (b4.block _ (lt_of_heap HX3.out)).trans HX3.out
      have HWK : Hid ((w3.alloc (.cells #[.int .i64 0, .int .i64 0, .string ⟨#[]⟩, .int .i64 0, .int .i64 0, .slice none 0 0, .slice none 0 0] 29)).heap[w1.heap.size]? = some _) := (b4.block _ (lt_of_heap HW3.out)).trans HW3.out
      have BK := HB3.out.trans (b4.mono HB3.out.size)
      have HBK : Hid (Below w.heap.size w _) := BK
      clear hq b3 b4 HE HR
      have E4 := getJ_any (w3.alloc (.cells #[.int .i64 0, .int .i64 0, .string ⟨#[]⟩, .int .i64 0, .int .i64 0, .slice none 0 0, .slice none 0 0] 29)) (HT.out.1.stay BK) (HT.out.2.1.below BK)
      obtain ⟨k0, k1, k2, k3, k4, k5, k6⟩ := tboxed (u := (T.x, .slice a1 T.ks.length c1, .slice a2 T.ts.length c2)) XK
      dsimp only [tval] at E4 k0 k1 k2 k3 k4 k5 k6
      clear BK XK
      go_wp2_with fail
      go_fit E4
      rintro r w6 ⟨⟨v6, rfl, hT6⟩, b6⟩
      obtain ⟨u6, rfl⟩ := hT6.of_val
      obtain ⟨⟨yk, yn, yt, yo, ya⟩, i1, j1, l1, i2, j2, l2, hu6⟩ := hT6.parts
      subst hu6
      rw [HRE.out] at *
      rw [HRT.out] at hT6
      have HW6 : Hid (w6.heap[w1.heap.size]? = some _) := (b6.block _ (lt_of_heap HWK.out)).trans HWK.out
      have HB6 : Hid (Below w.heap.size w w6) := HBK.out.trans (b6.mono HBK.out.size)
      have b7 := (Below.refl w6.heap.size w6).alloc (Nat.le_refl _) (.cells #[.int .i64 yk, .int .i64 yn, .string yt, .int .i64 yo, .int .i64 ya, .slice i1 j1 l1, .slice i2 j2 l2] 29)
      have hB7 := HB6.out.trans (b7.mono HB6.out.size)
      have hW7 : (w6.alloc (.cells #[.int .i64 yk, .int .i64 yn, .string yt, .int .i64 yo, .int .i64 ya, .slice i1 j1 l1, .slice i2 j2 l2] 29)).heap[w1.heap.size]? = some _ := (b7.block _ (lt_of_heap HW6.out)).trans HW6.out
      have E5 := tree_any 6 _ (hT6.stay b7) (zJ_at _) (HT.out.2.2.below hB7)
      obtain ⟨p0, p1, p2, p3, p4, p5, p6⟩ := tboxed (u := (⟨0, 0, ⟨#[]⟩, 0, 0⟩, .slice none 0 0, .slice none 0 0)) hW7
      have HB7 : Hid (Below w.heap.size w _) := hB7
      clear E4 k0 k1 k2 k3 k4 k5 k6 b6 hT6 b7 hB7 hW7
      dsimp only [errV] at E5 ⊢
      dsimp only [tval] at E5 p0 p1 p2 p3 p4 p5 p6 ⊢
      go_wp2_with fail
      go_fit E5
      rintro r w8 ⟨rfl, b8⟩
      have HB8 : Hid (Below w.heap.size w w8) := HB7.out.trans (b8.mono HB7.out.size)
      clear b8 E5 p0 p1 p2 p3 p4 p5 p6
      go_wp2
      go_ret
      exact ⟨rfl, HB8.out⟩
  · have HRE : Hid (resE T l = chkT T) := by show resE T l = _; rw [HE.out, if_neg hc]
    have HRT : Hid (resT T l = zJ) := by show resT T l = zJ; rw [HR.out, if_neg hc]
    have hc' : (chkT T == 0) = false := by simpa using hc
    have HCC : Hid (errV (chkT T) = errV (chkT T)) := rfl
    clear hc HE HR
    have HWK : Hid _ := HW2
    have HBK : Hid _ := HB2
    have BK := HB2.out
    have XK := HX2.out
    have E4 := getJ_any (w1.alloc (.cells #[.int .i64 0, .int .i64 0, .string ⟨#[]⟩, .int .i64 0, .int .i64 0, .slice none 0 0, .slice none 0 0] 29)) (HT.out.1.stay BK) (HT.out.2.1.below BK)
    obtain ⟨k0, k1, k2, k3, k4, k5, k6⟩ := tboxed (u := (T.x, .slice a1 T.ks.length c1, .slice a2 T.ts.length c2)) XK
    dsimp only [tval] at E4 k0 k1 k2 k3 k4 k5 k6
    clear BK XK
    go_wp2_with fail
    go_fit E4
    rintro r w6 ⟨⟨v6, rfl, hT6⟩, b6⟩
    obtain ⟨u6, rfl⟩ := hT6.of_val
    obtain ⟨⟨yk, yn, yt, yo, ya⟩, i1, j1, l1, i2, j2, l2, hu6⟩ := hT6.parts
    subst hu6
    rw [HRE.out] at *
    rw [HRT.out] at hT6
    have HW6 : Hid (w6.heap[w1.heap.size]? = some _) := (b6.block _ (lt_of_heap HWK.out)).trans HWK.out
    have HB6 : Hid (Below w.heap.size w w6) := HBK.out.trans (b6.mono HBK.out.size)
    have b7 := (Below.refl w6.heap.size w6).alloc (Nat.le_refl _) (.cells #[.int .i64 yk, .int .i64 yn, .string yt, .int .i64 yo, .int .i64 ya, .slice i1 j1 l1, .slice i2 j2 l2] 29)
    have hB7 := HB6.out.trans (b7.mono HB6.out.size)
    have hW7 : (w6.alloc (.cells #[.int .i64 yk, .int .i64 yn, .string yt, .int .i64 yo, .int .i64 ya, .slice i1 j1 l1, .slice i2 j2 l2] 29)).heap[w1.heap.size]? = some _ := (b7.block _ (lt_of_heap HW6.out)).trans HW6.out
    have E5 := tree_any (chkT T) _ (hT6.stay b7) (zJ_at _) (HT.out.2.2.below hB7)
    obtain ⟨p0, p1, p2, p3, p4, p5, p6⟩ := tboxed (u := (⟨0, 0, ⟨#[]⟩, 0, 0⟩, .slice none 0 0, .slice none 0 0)) hW7
    have HB7 : Hid (Below w.heap.size w _) := hB7
    clear E4 k0 k1 k2 k3 k4 k5 k6 b6 hT6 b7 hB7 hW7
    generalize errV (chkT T) = er at *
    dsimp only [tval] at E5 p0 p1 p2 p3 p4 p5 p6 ⊢
    go_wp2_with fail
    go_fit E5
    rintro r w8 ⟨rfl, b8⟩
    have HB8 : Hid (Below w.heap.size w w8) := HB7.out.trans (b8.mono HB7.out.size)
    clear b8 E5 p0 p1 p2 p3 p4 p5 p6
    go_wp2
    go_ret
    exact ⟨rfl, HB8.out⟩
end Go.Proofs.YtemannmcjioimaaDoor
