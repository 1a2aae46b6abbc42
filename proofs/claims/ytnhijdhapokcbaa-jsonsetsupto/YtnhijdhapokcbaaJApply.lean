/-
  What is proved: the function Apply of package json, called with a tree and one patch that sets.
  Conditions: the tree, the patch and its path lie in memory.
-/
import Derived.Test.YtnhijdhapokcbaaJApp
import Derived.Test.YtnhijdhapokcbaaJCopyI
import Derived.Laws.EntriesVeiled
namespace Go.Proofs.Ytnhijdhapokcbaa
open Go.RowKit Go.Sort

/-- Why Apply does nothing. -/
def NoApply (T : JT) (l : List Stp) (y : V) : Prop := chkT T ≠ 0 ∨ NoApp T l y
/-- What Apply answers. -/
def ApplyP (w : World) (T : JT) (l : List Stp) (y : V) (e : Ending) : Prop :=
  (∃ T' u', e = .returned (.tuple #[tval u', .nilIface]) ∧ chkT T = 0 ∧ patB l y = true ∧ UpdR T l y T' ∧ T'.size ≤ 400 ∧ IsT w (tval u') T') ∨ (∃ c : Int, e = .returned (.tuple #[zT, .iface 48 (.int .i64 c)]) ∧ NoApply T l y)
/-- A list of one patch that sets. -/
def OnePatch (w : World) (qb : Nat) (p : Value) (y : V) : Prop := w.heap[qb]? = some (.cells #[.int .i64 1, p, .int .i64 y.k, .int .i64 y.n, .string y.t, .int .i64 y.o, .int .i64 y.a] 38)

set_option maxRecDepth 100000 in
set_option maxHeartbeats 8000000 in
theorem applyJ_any {v p : Value} {T : JT} {l : List Stp} {qb : Nat} (y : V) (w : World) (h : IsT w v T) (hp : IsSteps w p l) (hq : OnePatch w qb p y) :
    Calls Try.prog 4 #[v, .slice (some ⟨qb, 0, none⟩) 1 1] w fun e w' => ApplyP w' T l y e ∧ Below w.heap.size w w' := by
  obtain ⟨u, rfl⟩ := h.of_val
  obtain ⟨N⟩ := h.node
  obtain ⟨a1, c1, a2, c2, us, hu, -, -, -, -, -, -⟩ := N
  subst hu
  have hpf : ∃ pa pn pc, p = .slice pa pn pc := by obtain ⟨a, c, e, _⟩ := hp; exact ⟨_, _, _, e⟩
  obtain ⟨pa, pn, pc, rfl⟩ := hpf
  obtain ⟨x0, y0, b0⟩ := two_boxes w (.cells #[.int .i64 T.x.k, .int .i64 T.x.n, .string T.x.t, .int .i64 T.x.o, .int .i64 T.x.a, .slice a1 T.ks.length c1, .slice a2 T.ts.length c2] 29) (.cells #[.int .i64 0, .int .i64 0, .string ⟨#[]⟩, .int .i64 0, .int .i64 0, .slice none 0 0, .slice none 0 0] 29)
  have E1 := checkT_any _ (h.stay b0)
  have HT : Hid (IsT w (tval (T.x, .slice a1 T.ks.length c1, .slice a2 T.ts.length c2)) T) := h
  have HP : Hid (IsSteps w (.slice pa pn pc) l) := hp
  have HQ : Hid (OnePatch w qb (.slice pa pn pc) y) := hq
  have HZ : Hid (chkT T = 0 → formedB T = true ∧ T.size ≤ 400) := chkT_zero
  have HX : Hid (_ = some (Obj.cells #[.int .i64 T.x.k, .int .i64 T.x.n, .string T.x.t, .int .i64 T.x.o, .int .i64 T.x.a, .slice a1 T.ks.length c1, .slice a2 T.ts.length c2] 29)) := x0
  have HY : Hid (_ = some (Obj.cells #[.int .i64 0, .int .i64 0, .string ⟨#[]⟩, .int .i64 0, .int .i64 0, .slice none 0 0, .slice none 0 0] 29)) := y0
  have HB : Hid (Below w.heap.size w _) := b0
  obtain ⟨post, hpost⟩ : ∃ post, post = fun (e : Ending) (w' : World) => ApplyP w' T l y e ∧ Below w.heap.size w w' := ⟨_, rfl⟩
  rw [← hpost]
  have HPO : Hid (post = fun (e : Ending) (w' : World) => ApplyP w' T l y e ∧ Below w.heap.size w w') := hpost
  clear h hp hq x0 y0 b0 hpost
  unfold tval at E1 ⊢
  dsimp only at E1 ⊢
  by_cases hc : chkT T = 0
  · rw [if_pos hc] at E1
    have HC : Hid (chkT T = 0) := hc
    clear hc
    go_enter Try.func4, Try.ntmps4
    go_wp2_with fail
    go_fit E1
    rintro e w1 ⟨rfl, b1⟩
    have HX1 : Hid (w1.heap[w.heap.size]? = some _) := (b1.block _ (lt_of_heap HX.out)).trans HX.out
    have HY1 : Hid (w1.heap[w.heap.size + 1]? = some _) := (b1.block _ (lt_of_heap HY.out)).trans HY.out
    have HB1 : Hid (Below w.heap.size w w1) := HB.out.trans (b1.mono HB.out.size)
    clear b1 E1 HX HY HB
    have E2 := copyI_any (HT.out.stay HB1.out) w1 (Below.refl _ _) (HZ.out HC.out).1 (HZ.out HC.out).2
    unfold tval at E2
    dsimp only at E2
    have x0 : w1.cell? ⟨w.heap.size, 0, none⟩ = some (.int .i64 T.x.k) := Lib.cell_of_heap HX1.out 0
    have x1 : w1.cell? ⟨w.heap.size, 1, none⟩ = some (.int .i64 T.x.n) := Lib.cell_of_heap HX1.out 1
    have x2 : w1.cell? ⟨w.heap.size, 2, none⟩ = some (.string T.x.t) := Lib.cell_of_heap HX1.out 2
    have x3 : w1.cell? ⟨w.heap.size, 3, none⟩ = some (.int .i64 T.x.o) := Lib.cell_of_heap HX1.out 3
    have x4 : w1.cell? ⟨w.heap.size, 4, none⟩ = some (.int .i64 T.x.a) := Lib.cell_of_heap HX1.out 4
    have x5 : w1.cell? ⟨w.heap.size, 5, none⟩ = some (.slice a1 T.ks.length c1) := Lib.cell_of_heap HX1.out 5
    have x6 : w1.cell? ⟨w.heap.size, 6, none⟩ = some (.slice a2 T.ts.length c2) := Lib.cell_of_heap HX1.out 6
    go_wp2_with fail
    go_fit E2
    rintro e w2 ⟨⟨u, rfl, hI⟩, b2⟩
    have HX2 : Hid (w2.heap[w.heap.size]? = some _) := (b2.block _ (lt_of_heap HX1.out)).trans HX1.out
    have HY2 : Hid (w2.heap[w.heap.size + 1]? = some _) := (b2.block _ (lt_of_heap HY1.out)).trans HY1.out
    have HB2 : Hid (Below w.heap.size w w2) := HB1.out.trans (b2.mono HB1.out.size)
    have HLO : Hid (w.heap.size + 1 < w1.heap.size) := lt_of_heap HY1.out
    have HHI : Hid (w1.heap.size ≤ w2.heap.size) := b2.size
    clear b2 E2 HX1 HY1 HB1 x0 x1 x2 x3 x4 x5 x6
    generalize w1.heap.size = lo at *
    obtain ⟨⟨uk, un, ut, uo, ua⟩, i1, j1, l1, i2, j2, l2, hu⟩ := hI.tree.parts
    subst hu
    have HI : Hid (IsTI w2 lo w2.heap.size (⟨uk, un, ut, uo, ua⟩, .slice i1 j1 l1, .slice i2 j2 l2) T) := hI
    clear hI
    have x0 : w2.cell? ⟨w.heap.size, 0, none⟩ = some (.int .i64 T.x.k) := Lib.cell_of_heap HX2.out 0
    have x1 : w2.cell? ⟨w.heap.size, 1, none⟩ = some (.int .i64 T.x.n) := Lib.cell_of_heap HX2.out 1
    have x2 : w2.cell? ⟨w.heap.size, 2, none⟩ = some (.string T.x.t) := Lib.cell_of_heap HX2.out 2
    have x3 : w2.cell? ⟨w.heap.size, 3, none⟩ = some (.int .i64 T.x.o) := Lib.cell_of_heap HX2.out 3
    have x4 : w2.cell? ⟨w.heap.size, 4, none⟩ = some (.int .i64 T.x.a) := Lib.cell_of_heap HX2.out 4
    have x5 : w2.cell? ⟨w.heap.size, 5, none⟩ = some (.slice a1 T.ks.length c1) := Lib.cell_of_heap HX2.out 5
    have x6 : w2.cell? ⟨w.heap.size, 6, none⟩ = some (.slice a2 T.ts.length c2) := Lib.cell_of_heap HX2.out 6
    have zf := Lib.frozen_of_heap HX2.out
    have hlo := HLO.out
    have HX3 : Hid (_ = some _) := set7 HX2.out (.int .i64 uk) (.int .i64 un) (.string ut) (.int .i64 uo) (.int .i64 ua) (.slice i1 j1 l1) (.slice i2 j2 l2)
    have HY3 : Hid (_ = some _) := set7_other HY2.out (show w.heap.size + 1 ≠ w.heap.size by omega) (.int .i64 uk) (.int .i64 un) (.string ut) (.int .i64 uo) (.int .i64 ua) (.slice i1 j1 l1) (.slice i2 j2 l2)
    have HB3 : Hid (Below w.heap.size w _) := set7_below HB2.out (Nat.le_refl w.heap.size) (.int .i64 uk) (.int .i64 un) (.string ut) (.int .i64 uo) (.int .i64 ua) (.slice i1 j1 l1) (.slice i2 j2 l2)
    have HI3 : Hid (IsTI (put7 w2 w.heap.size 0 (⟨uk, un, ut, uo, ua⟩, .slice i1 j1 l1, .slice i2 j2 l2)) lo w2.heap.size (⟨uk, un, ut, uo, ua⟩, .slice i1 j1 l1, .slice i2 j2 l2) T) := HI.out.keep (fun k k1 _ => put7_other w2 _ _ _ k (by omega))
    have HS3 : Hid (w2.heap.size ≤ (put7 w2 w.heap.size 0 (⟨uk, un, ut, uo, ua⟩, .slice i1 j1 l1, .slice i2 j2 l2)).heap.size) := (put7_below (Below.refl 0 w2) _ _ _ (Nat.zero_le _)).size
    clear HX2 HY2 HB2 HI hlo
    dsimp only [put7, Nat.zero_add] at HI3 HS3
    dsimp only [tval]
    go_upto_region 5 with fail
    clear x0 x1 x2 x3 x4 x5 x6 zf
    generalize ((((((w2.setCell ⟨w.heap.size, 0, none⟩ (.int .i64 uk)).setCell ⟨w.heap.size, 1, none⟩ (.int .i64 un)).setCell ⟨w.heap.size, 2, none⟩ (.string ut)).setCell ⟨w.heap.size, 3, none⟩ (.int .i64 uo)).setCell ⟨w.heap.size, 4, none⟩ (.int .i64 ua)).setCell ⟨w.heap.size, 5, none⟩ (.slice i1 j1 l1)).setCell ⟨w.heap.size, 6, none⟩ (.slice i2 j2 l2) = W3 at *
    generalize w2.heap.size = hi at *
    obtain ⟨yk, yn, yt, yo, ya⟩ := y
    have hqh : W3.heap[qb]? = some _ := (HB3.out.block qb (lt_of_heap HQ.out)).trans HQ.out
    have q0 : W3.cell? ⟨qb, 0, none⟩ = some (.int .i64 1) := Lib.cell_of_heap hqh 0
    have q1 : W3.cell? ⟨qb, 1, none⟩ = some (.slice pa pn pc) := Lib.cell_of_heap hqh 1
    have q2 : W3.cell? ⟨qb, 2, none⟩ = some (.int .i64 yk) := Lib.cell_of_heap hqh 2
    have q3 : W3.cell? ⟨qb, 3, none⟩ = some (.int .i64 yn) := Lib.cell_of_heap hqh 3
    have q4 : W3.cell? ⟨qb, 4, none⟩ = some (.string yt) := Lib.cell_of_heap hqh 4
    have q5 : W3.cell? ⟨qb, 5, none⟩ = some (.int .i64 yo) := Lib.cell_of_heap hqh 5
    have q6 : W3.cell? ⟨qb, 6, none⟩ = some (.int .i64 ya) := Lib.cell_of_heap hqh 6
    have c3 := (Below.refl W3.heap.size W3).alloc (Nat.le_refl _) (.cells #[.int .i64 1, .slice pa pn pc, .int .i64 yk, .int .i64 yn, .string yt, .int .i64 yo, .int .i64 ya] 38)
    have ff3 := Lib.frozen_of_heap HX3.out
    have hlo := HLO.out
    have hhi := HHI.out
    have hs3 := HS3.out
    have hb3 := HB3.out
    have E3 := apply_any (o0 := 0) ⟨yk, yn, yt, yo, ya⟩ (W3.alloc (.cells #[.int .i64 1, .slice pa pn pc, .int .i64 yk, .int .i64 yn, .string yt, .int .i64 yo, .int .i64 ya] 38)) HP.out (hb3.trans (c3.mono hb3.size)) (TAt.below (u := (⟨uk, un, ut, uo, ua⟩, .slice i1 j1 l1, .slice i2 j2 l2)) ⟨lt_of_heap HX3.out, tboxed HX3.out⟩ c3) (HI3.out.keep (fun k _ k2 => c3.block k (by omega))) (HZ.out HC.out).1 (by omega) (by have := c3.size; omega) (fun d => by rw [c3.frozen (p := ⟨w.heap.size, d, none⟩) (lt_of_heap HX3.out)]; exact Lib.frozen_of_heap HX3.out d) (by omega) (Nat.le_refl _)
    have HY4 : Hid ((W3.alloc (.cells #[.int .i64 1, .slice pa pn pc, .int .i64 yk, .int .i64 yn, .string yt, .int .i64 yo, .int .i64 ya] 38)).heap[w.heap.size + 1]? = some _) := (c3.block _ (lt_of_heap HY3.out)).trans HY3.out
    have HB4 : Hid (Below w.heap.size w (W3.alloc (.cells #[.int .i64 1, .slice pa pn pc, .int .i64 yk, .int .i64 yn, .string yt, .int .i64 yo, .int .i64 ya] 38))) := hb3.trans (c3.mono hb3.size)
    clear c3 ff3 hlo hhi hs3 hb3 hqh
    dsimp only [pchV] at E3
    go_wp2_with fail
    refine wp_loop_rounds 2 ?_
    rw [rounds_succ]
    go_wp2_with fail
    go_fit E3
    rintro e w4 hA
    clear E3 q0 q1 q2 q3 q4 q5 q6
    have HW4 : Hid (Turn w.heap.size 0 lo hi (W3.alloc (.cells #[.int .i64 1, .slice pa pn pc, .int .i64 yk, .int .i64 yn, .string yt, .int .i64 yo, .int .i64 ya] 38)) w4) := by
      rcases hA with ⟨T', u', _, _, _, _, hT, _⟩ | ⟨_, _, _, hT⟩ <;> exact hT
    have HY5 : Hid (w4.heap[w.heap.size + 1]? = some (.cells #[.int .i64 0, .int .i64 0, .string ⟨#[]⟩, .int .i64 0, .int .i64 0, .slice none 0 0, .slice none 0 0] 29)) := (HW4.out.block _ (lt_of_heap HY4.out) (by have := HLO.out; omega) (by omega)).trans HY4.out
    have HB5 : Hid (Below w.heap.size w w4) := by
      have hz4 := HB4.out.size
      have hlo := HLO.out
      exact ⟨HW4.out.os.trans HB4.out.os, HW4.out.tape.trans HB4.out.tape, HW4.out.output.trans HB4.out.output, Nat.le_trans hz4 HW4.out.size, fun k hk => (HW4.out.block k (by omega) (by omega) (by omega)).trans (HB4.out.block k hk)⟩
    clear HW4 HY4 HB4 HX3 HY3 HB3 HI3 HS3
    rcases hA with ⟨T', u', rfl, hpat, hU, hz, _, hAt, hIH⟩ | ⟨c, rfl, hno, _⟩
    · obtain ⟨⟨rk, rn, rt, ro, ra⟩, r1, s1, t1, r2, s2, t2, hu⟩ := hIH.tree.parts
      subst hu
      obtain ⟨_, k0, k1, k2, k3, k4, k5, k6⟩ := hAt
      dsimp only at k0 k1 k2 k3 k4 k5 k6
      simp only [Nat.zero_add] at k0 k1 k2 k3 k4 k5 k6
      have HU : Hid (patB l ⟨yk, yn, yt, yo, ya⟩ = true ∧ UpdR T l ⟨yk, yn, yt, yo, ya⟩ T' ∧ T'.size ≤ 400) := ⟨hpat, hU, hz⟩
      have HIH : Hid (IsTH lo w4 (tval (⟨rk, rn, rt, ro, ra⟩, .slice r1 s1 t1, .slice r2 s2 t2)) T') := hIH
      clear hpat hU hz hIH
      have z0 : w4.cell? ⟨w.heap.size + 1, 0, none⟩ = some (.int .i64 0) := Lib.cell_of_heap HY5.out 0
      have z1 : w4.cell? ⟨w.heap.size + 1, 1, none⟩ = some (.int .i64 0) := Lib.cell_of_heap HY5.out 1
      have z2 : w4.cell? ⟨w.heap.size + 1, 2, none⟩ = some (.string ⟨#[]⟩) := Lib.cell_of_heap HY5.out 2
      have z3 : w4.cell? ⟨w.heap.size + 1, 3, none⟩ = some (.int .i64 0) := Lib.cell_of_heap HY5.out 3
      have z4 : w4.cell? ⟨w.heap.size + 1, 4, none⟩ = some (.int .i64 0) := Lib.cell_of_heap HY5.out 4
      have z5 : w4.cell? ⟨w.heap.size + 1, 5, none⟩ = some (.slice none 0 0) := Lib.cell_of_heap HY5.out 5
      have z6 : w4.cell? ⟨w.heap.size + 1, 6, none⟩ = some (.slice none 0 0) := Lib.cell_of_heap HY5.out 6
      have zf := Lib.frozen_of_heap HY5.out
      have hlo := HLO.out
      have HFF : Hid (From lo w4 (put7 w4 (w.heap.size + 1) 0 (⟨rk, rn, rt, ro, ra⟩, .slice r1 s1 t1, .slice r2 s2 t2))) := ⟨(put7_below (Below.refl 0 w4) _ _ _ (Nat.zero_le _)).size, fun k hk _ => put7_other w4 _ _ _ k (by omega)⟩
      have HBF : Hid (Below w.heap.size w (put7 w4 (w.heap.size + 1) 0 (⟨rk, rn, rt, ro, ra⟩, .slice r1 s1 t1, .slice r2 s2 t2))) := put7_below HB5.out _ _ _ (Nat.le_succ _)
      have HHF : Hid ((put7 w4 (w.heap.size + 1) 0 (⟨rk, rn, rt, ro, ra⟩, .slice r1 s1 t1, .slice r2 s2 t2)).heap[w.heap.size + 1]? = some _) := set7 HY5.out (.int .i64 rk) (.int .i64 rn) (.string rt) (.int .i64 ro) (.int .i64 ra) (.slice r1 s1 t1) (.slice r2 s2 t2)
      clear hlo
      go_wp2_with fail
      rw [rounds_succ]
      go_wp2
      clear z0 z1 z2 z3 z4 z5 z6 zf k0 k1 k2 k3 k4 k5 k6
      dsimp only [put7, Nat.zero_add] at HFF HBF HHF
      generalize ((((((w4.setCell ⟨w.heap.size + 1, 0, none⟩ (.int .i64 rk)).setCell ⟨w.heap.size + 1, 1, none⟩ (.int .i64 rn)).setCell ⟨w.heap.size + 1, 2, none⟩ (.string rt)).setCell ⟨w.heap.size + 1, 3, none⟩ (.int .i64 ro)).setCell ⟨w.heap.size + 1, 4, none⟩ (.int .i64 ra)).setCell ⟨w.heap.size + 1, 5, none⟩ (.slice r1 s1 t1)).setCell ⟨w.heap.size + 1, 6, none⟩ (.slice r2 s2 t2) = VV at *
      obtain ⟨q0, q1, q2, q3, q4, q5, q6⟩ := tboxed (u := (⟨rk, rn, rt, ro, ra⟩, .slice r1 s1 t1, .slice r2 s2 t2)) HHF.out
      dsimp only at q0 q1 q2 q3 q4 q5 q6
      refine bodyPost_ret (v := .tuple #[tval (⟨rk, rn, rt, ro, ra⟩, .slice r1 s1 t1, .slice r2 s2 t2), .nilIface]) (by simp [tval, results, Try.results4, go_sem, q0, q1, q2, q3, q4, q5, q6]) rfl ?_
      rw [HPO.out]
      exact ⟨Or.inl ⟨T', _, rfl, HC.out, HU.out.1, HU.out.2.1, HU.out.2.2, (HIH.out.keep HFF.out).tree⟩, HBF.out⟩
    · have HNO : Hid (NoApp T l ⟨yk, yn, yt, yo, ya⟩) := hno
      clear hno
      have z0 : w4.cell? ⟨w.heap.size + 1, 0, none⟩ = some (.int .i64 0) := Lib.cell_of_heap HY5.out 0
      have z1 : w4.cell? ⟨w.heap.size + 1, 1, none⟩ = some (.int .i64 0) := Lib.cell_of_heap HY5.out 1
      have z2 : w4.cell? ⟨w.heap.size + 1, 2, none⟩ = some (.string ⟨#[]⟩) := Lib.cell_of_heap HY5.out 2
      have z3 : w4.cell? ⟨w.heap.size + 1, 3, none⟩ = some (.int .i64 0) := Lib.cell_of_heap HY5.out 3
      have z4 : w4.cell? ⟨w.heap.size + 1, 4, none⟩ = some (.int .i64 0) := Lib.cell_of_heap HY5.out 4
      have z5 : w4.cell? ⟨w.heap.size + 1, 5, none⟩ = some (.slice none 0 0) := Lib.cell_of_heap HY5.out 5
      have z6 : w4.cell? ⟨w.heap.size + 1, 6, none⟩ = some (.slice none 0 0) := Lib.cell_of_heap HY5.out 6
      have zf := Lib.frozen_of_heap HY5.out
      have HBF : Hid (Below w.heap.size w _) := set7_below HB5.out (Nat.le_succ w.heap.size) (.int .i64 0) (.int .i64 0) (.string ⟨#[]⟩) (.int .i64 0) (.int .i64 0) (.slice none 0 0) (.slice none 0 0)
      have HHF : Hid (_ = some _) := set7 HY5.out (.int .i64 0) (.int .i64 0) (.string ⟨#[]⟩) (.int .i64 0) (.int .i64 0) (.slice none 0 0) (.slice none 0 0)
      go_wp2
      clear z0 z1 z2 z3 z4 z5 z6 zf
      generalize ((((((w4.setCell ⟨w.heap.size + 1, 0, none⟩ (.int .i64 0)).setCell ⟨w.heap.size + 1, 1, none⟩ (.int .i64 0)).setCell ⟨w.heap.size + 1, 2, none⟩ (.string ⟨#[]⟩)).setCell ⟨w.heap.size + 1, 3, none⟩ (.int .i64 0)).setCell ⟨w.heap.size + 1, 4, none⟩ (.int .i64 0)).setCell ⟨w.heap.size + 1, 5, none⟩ (.slice none 0 0)).setCell ⟨w.heap.size + 1, 6, none⟩ (.slice none 0 0) = VV at *
      obtain ⟨q0, q1, q2, q3, q4, q5, q6⟩ := tboxed (u := (⟨0, 0, ⟨#[]⟩, 0, 0⟩, .slice none 0 0, .slice none 0 0)) HHF.out
      dsimp only at q0 q1 q2 q3 q4 q5 q6
      refine bodyPost_ret (v := .tuple #[zT, .iface 48 (.int .i64 c)]) (by simp [results, Try.results4, go_sem, q0, q1, q2, q3, q4, q5, q6]) rfl ?_
      rw [HPO.out]
      exact ⟨Or.inr ⟨_, rfl, Or.inr HNO.out⟩, HBF.out⟩
  · rw [if_neg hc] at E1
    have HRE : Hid (chkT T ≠ 0) := hc
    clear hc HZ
    obtain ⟨ct, hct⟩ : ∃ ct, chkT T = ct := ⟨_, rfl⟩
    rw [hct] at E1
    clear hct
    go_enter Try.func4, Try.ntmps4
    go_wp2_with fail
    go_fit E1
    rintro e w2 ⟨rfl, b1⟩
    have HY2 : Hid (w2.heap[w.heap.size + 1]? = some (.cells #[.int .i64 0, .int .i64 0, .string ⟨#[]⟩, .int .i64 0, .int .i64 0, .slice none 0 0, .slice none 0 0] 29)) := (b1.block _ (lt_of_heap HY.out)).trans HY.out
    have HB2 : Hid (Below w.heap.size w w2) := HB.out.trans (b1.mono HB.out.size)
    clear b1 E1 HX HY HB
    have z0 : w2.cell? ⟨w.heap.size + 1, 0, none⟩ = some (.int .i64 0) := Lib.cell_of_heap HY2.out 0
    have z1 : w2.cell? ⟨w.heap.size + 1, 1, none⟩ = some (.int .i64 0) := Lib.cell_of_heap HY2.out 1
    have z2 : w2.cell? ⟨w.heap.size + 1, 2, none⟩ = some (.string ⟨#[]⟩) := Lib.cell_of_heap HY2.out 2
    have z3 : w2.cell? ⟨w.heap.size + 1, 3, none⟩ = some (.int .i64 0) := Lib.cell_of_heap HY2.out 3
    have z4 : w2.cell? ⟨w.heap.size + 1, 4, none⟩ = some (.int .i64 0) := Lib.cell_of_heap HY2.out 4
    have z5 : w2.cell? ⟨w.heap.size + 1, 5, none⟩ = some (.slice none 0 0) := Lib.cell_of_heap HY2.out 5
    have z6 : w2.cell? ⟨w.heap.size + 1, 6, none⟩ = some (.slice none 0 0) := Lib.cell_of_heap HY2.out 6
    have zf := Lib.frozen_of_heap HY2.out
    have HBF : Hid (Below w.heap.size w _) := set7_below HB2.out (Nat.le_succ w.heap.size) (.int .i64 0) (.int .i64 0) (.string ⟨#[]⟩) (.int .i64 0) (.int .i64 0) (.slice none 0 0) (.slice none 0 0)
    have HHF : Hid (_ = some _) := set7 HY2.out (.int .i64 0) (.int .i64 0) (.string ⟨#[]⟩) (.int .i64 0) (.int .i64 0) (.slice none 0 0) (.slice none 0 0)
    go_wp2
    clear z0 z1 z2 z3 z4 z5 z6 zf
    generalize ((((((w2.setCell ⟨w.heap.size + 1, 0, none⟩ (.int .i64 0)).setCell ⟨w.heap.size + 1, 1, none⟩ (.int .i64 0)).setCell ⟨w.heap.size + 1, 2, none⟩ (.string ⟨#[]⟩)).setCell ⟨w.heap.size + 1, 3, none⟩ (.int .i64 0)).setCell ⟨w.heap.size + 1, 4, none⟩ (.int .i64 0)).setCell ⟨w.heap.size + 1, 5, none⟩ (.slice none 0 0)).setCell ⟨w.heap.size + 1, 6, none⟩ (.slice none 0 0) = VV at *
    obtain ⟨q0, q1, q2, q3, q4, q5, q6⟩ := tboxed (u := (⟨0, 0, ⟨#[]⟩, 0, 0⟩, .slice none 0 0, .slice none 0 0)) HHF.out
    dsimp only at q0 q1 q2 q3 q4 q5 q6
    refine bodyPost_ret (v := .tuple #[zT, .iface 48 (.int .i64 ct)]) (by simp [results, Try.results4, go_sem, q0, q1, q2, q3, q4, q5, q6]) rfl ?_
    rw [HPO.out]
    exact ⟨Or.inr ⟨_, rfl, Or.inl HRE.out⟩, HBF.out⟩
end Go.Proofs.Ytnhijdhapokcbaa
