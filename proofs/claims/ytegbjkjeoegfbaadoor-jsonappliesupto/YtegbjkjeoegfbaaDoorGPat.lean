/-
  What is proved: bookref3's patched, called with a tree, a patch and a path, answers the tree that the patch makes of it at the path's end, or that there is no such place. bookref3's patched, called with a tree, a patch and a path, answers the tree that the patch makes of it at the path's end, or that there is no such place. bookref3's patched, called with a tree, a patch of a kind that there is, and a path, answers the tree that the patch makes of it at the path's end, or that there is no such place.
  Conditions: as each theorem says.
-/
import Derived.Test.YtegbjkjeoegfbaaDoorJPutK
import Derived.Laws.EntriesVeiled
namespace Go.Proofs.YtegbjkjeoegfbaaDoor
open Go.RowKit Go.Sort

set_option maxRecDepth 100000 in
set_option maxHeartbeats 8000000 in
theorem pat_2 {P : Nat → Prop} {v p pp : Value} {T : JT} {s : Stp} (y : V) (w : World) (hP : ∀ b, P b → b < w.heap.size) (hT : IsTP P w v T) (hf : formedB T = true) (hsz : T.size ≤ 400) (hp : IsSteps w p ([s])) (hpp : ∃ a n c, pp = .slice a n c) :
    Calls Tryd.prog 9 #[v, pchK 2 pp y, p] w fun e w' => PatP P w 2 T ([s]) y e w' ∧ Below w.heap.size w w' := by
  obtain ⟨qa, qn, qc, rfl⟩ := hpp
  have HPP : Hid (∀ b, P b → b < w.heap.size) := hP
  obtain ⟨eT, uk, a2, c2, us, rfl, nk0, nl, nc, nz, nr0, ni⟩ := hT.inv
  have nr := nr0.row
  have nk := nk0.strs
  obtain ⟨a1, c1, rfl, -, -, -⟩ := id nk
  clear eT nk0 nr0
  have HT : Hid (IsTP P w (tval (T.x, .slice a1 T.ks.length c1, .slice a2 T.ts.length c2)) T ∧ formedB T = true ∧ T.size ≤ 400) := ⟨hT, hf, hsz⟩
  have HROW : Hid (us.length = T.ts.length ∧ T.ts.length ≤ c2 ∧ RowT w a2 us ∧ (∀ i (h : i < us.length) (h' : i < T.ts.length), IsTP P w (tval us[i]) T.ts[i]) ∧ IsStrs w (.slice a1 T.ks.length c1) T.ks) := ⟨nl, nc.1, nr, ni, nk⟩
  obtain ⟨pa, pc, rfl, hp1, hp2, hp3⟩ := id hp
  obtain ⟨pb, po, rfl, hpb, hpm⟩ := hp3 (by simp)
  have HPA : Hid (IsSteps w (.slice (some ⟨pb, po, none⟩) ([s]).length pc) ([s])) := hp
  have hp0 := hpm 0 (by simp)
  simp only [Nat.zero_mul, Nat.add_zero, List.getElem_cons_zero] at hp0
  obtain ⟨post, hpost⟩ : ∃ post, post = fun (e : Ending) (w' : World) => PatP P w 2 T ([s]) y e w' ∧ Below w.heap.size w w' := ⟨_, rfl⟩
  rw [← hpost]
  have HPO : Hid (post = fun (e : Ending) (w' : World) => PatP P w 2 T ([s]) y e w' ∧ Below w.heap.size w w') := hpost
  clear hpost
  obtain ⟨tn, htn⟩ : ∃ tn, tn = T.ts.length := ⟨_, rfl⟩
  obtain ⟨kn, hkn⟩ : ∃ kn, kn = T.ks.length := ⟨_, rfl⟩
  have HN : Hid (tn = T.ts.length ∧ kn = T.ks.length) := ⟨htn, hkn⟩
  obtain ⟨q, hq⟩ : ∃ q, kidOf T.x T.ks T.ts.length s = q := ⟨_, rfl⟩
  have HQ : Hid (kidOf T.x T.ks T.ts.length s = q) := hq
  obtain ⟨xx, hxx⟩ : ∃ xx, xx = T.x := ⟨_, rfl⟩
  have HXX : Hid (xx = T.x) := hxx
  have HYY : Hid (∃ y', y' = y) := ⟨y, rfl⟩
  obtain ⟨y', hy'⟩ := HYY.out
  clear HYY
  rw [← hy'] at HPO
  have HY : Hid (y' = y) := hy'
  clear hy'
  obtain ⟨ss, hss⟩ : ∃ ss, ss = s := ⟨_, rfl⟩
  have HSS : Hid (ss = s) := hss
  rw [← hss] at hp0
  obtain ⟨xk, xn, xt, xo, xa⟩ := xx
  obtain ⟨yk, yn, yt, yo, ya⟩ := y
  obtain ⟨sb, si⟩ := ss
  obtain ⟨X4, P4, Z4, S4, b4, b3⟩ := four_boxes w (.cells #[.int .i64 xk, .int .i64 xn, .string xt, .int .i64 xo, .int .i64 xa, .slice a1 kn c1, .slice a2 tn c2] 29) (.cells #[.int .i64 2, .slice qa qn qc, .int .i64 yk, .int .i64 yn, .string yt, .int .i64 yo, .int .i64 ya] 43) (.cells #[.int .i64 0, .int .i64 0, .string ⟨#[]⟩, .int .i64 0, .int .i64 0, .slice none 0 0, .slice none 0 0] 29) (.cells #[.string sb, .int .i64 si] 45)
  have E1 := index_any T.x T.ks a1 a2 c1 T.ts.length c2 s ((((w.alloc (.cells #[.int .i64 xk, .int .i64 xn, .string xt, .int .i64 xo, .int .i64 xa, .slice a1 kn c1, .slice a2 tn c2] 29)).alloc (.cells #[.int .i64 2, .slice qa qn qc, .int .i64 yk, .int .i64 yn, .string yt, .int .i64 yo, .int .i64 ya] 43)).alloc (.cells #[.int .i64 0, .int .i64 0, .string ⟨#[]⟩, .int .i64 0, .int .i64 0, .slice none 0 0, .slice none 0 0] 29)).alloc (.cells #[.string sb, .int .i64 si] 45)) (nk.below b4)
  rw [hq, ← htn, ← hkn, ← hxx, ← hss] at E1
  rw [← htn, ← hkn, ← hxx]
  have HTT : Hid (∀ W, Below w.heap.size w W → IsTP (fun b => P b ∨ w.heap.size + 4 ≤ b) W (tval (⟨xk, xn, xt, xo, xa⟩, .slice a1 kn c1, .slice a2 tn c2)) T) := by
    intro W hW
    have h9 : IsTP (fun b => P b ∨ w.heap.size + 4 ≤ b) W _ T := hT.move hW.size (fun b _ h2 => hW.block b h2) (fun _ h => Or.inl h)
    rw [← htn, ← hkn, ← hxx] at h9
    exact h9
  have HTP : Hid (∀ W, Below w.heap.size w W → IsTP P W (tval (⟨xk, xn, xt, xo, xa⟩, .slice a1 kn c1, .slice a2 tn c2)) T) := by
    intro W hW
    have h9 : IsTP P W _ T := hT.move hW.size (fun b _ h2 => hW.block b h2) (fun _ h => h)
    rw [← htn, ← hkn, ← hxx] at h9
    exact h9
  have e0 : (((w.alloc (.cells #[.int .i64 xk, .int .i64 xn, .string xt, .int .i64 xo, .int .i64 xa, .slice a1 kn c1, .slice a2 tn c2] 29)).alloc (.cells #[.int .i64 2, .slice qa qn qc, .int .i64 yk, .int .i64 yn, .string yt, .int .i64 yo, .int .i64 ya] 43)).alloc (.cells #[.int .i64 0, .int .i64 0, .string ⟨#[]⟩, .int .i64 0, .int .i64 0, .slice none 0 0, .slice none 0 0] 29)).cell? ⟨pb, po, none⟩ = some (.string sb) := (b3.cell (p := ⟨pb, po, none⟩) hpb).trans hp0.1
  have e1 : (((w.alloc (.cells #[.int .i64 xk, .int .i64 xn, .string xt, .int .i64 xo, .int .i64 xa, .slice a1 kn c1, .slice a2 tn c2] 29)).alloc (.cells #[.int .i64 2, .slice qa qn qc, .int .i64 yk, .int .i64 yn, .string yt, .int .i64 yo, .int .i64 ya] 43)).alloc (.cells #[.int .i64 0, .int .i64 0, .string ⟨#[]⟩, .int .i64 0, .int .i64 0, .slice none 0 0, .slice none 0 0] 29)).cell? ⟨pb, po + 1, none⟩ = some (.int .i64 si) := (b3.cell (p := ⟨pb, po + 1, none⟩) hpb).trans hp0.2
  have HX : Hid (_ = some _) := X4
  have HP : Hid (_ = some _) := P4
  have HZ : Hid (_ = some _) := Z4
  have HS : Hid (_ = some _) := S4
  have HB : Hid (Below w.heap.size w _) := b4
  have hln : ([s] : List Stp).length = 1 := rfl
  rw [hln]
  clear hln
  clear hP hT hf hsz nk nl nc nz nr ni hp hp1 hp2 hp3 hpm hp0 htn hkn hq hxx hss X4 P4 Z4 S4 b4 b3 hpb
  unfold tval at E1 ⊢
  dsimp only [pchK, stpV] at E1 ⊢
  go_enter Tryd.func9, Tryd.ntmps9
  go_wp2_with fail
  go_fit E1
  rintro e w1 ⟨rfl, b1⟩
  have HX1 : Hid (w1.heap[w.heap.size]? = some (.cells #[.int .i64 xk, .int .i64 xn, .string xt, .int .i64 xo, .int .i64 xa, .slice a1 kn c1, .slice a2 tn c2] 29)) := (b1.block _ (lt_of_heap HX.out)).trans HX.out
  have HP1 : Hid (w1.heap[w.heap.size + 1]? = some (.cells #[.int .i64 2, .slice qa qn qc, .int .i64 yk, .int .i64 yn, .string yt, .int .i64 yo, .int .i64 ya] 43)) := (b1.block _ (lt_of_heap HP.out)).trans HP.out
  have HZ1 : Hid (w1.heap[w.heap.size + 2]? = some (.cells #[.int .i64 0, .int .i64 0, .string ⟨#[]⟩, .int .i64 0, .int .i64 0, .slice none 0 0, .slice none 0 0] 29)) := (b1.block _ (lt_of_heap HZ.out)).trans HZ.out
  have HS1 : Hid (w1.heap[w.heap.size + 3]? = some (.cells #[.string sb, .int .i64 si] 45)) := (b1.block _ (lt_of_heap HS.out)).trans HS.out
  have HB1 : Hid (Below w.heap.size w w1) := HB.out.trans (b1.mono HB.out.size)
  clear b1 E1 HX HP HZ HS HB e0 e1
  cases q with
  | none =>
    have hi1 : idxI none = -1 := rfl
    rw [hi1]
    have c2w := (Below.refl w1.heap.size w1).alloc (Nat.le_refl _) (.cells #[.int .i64 yk, .int .i64 yn, .string yt, .int .i64 yo, .int .i64 ya, .slice none 0 0, .slice none 0 0] 29)
    have HX2 : Hid ((w1.alloc (.cells #[.int .i64 yk, .int .i64 yn, .string yt, .int .i64 yo, .int .i64 ya, .slice none 0 0, .slice none 0 0] 29)).heap[w.heap.size]? = some _) := (c2w.block _ (lt_of_heap HX1.out)).trans HX1.out
    have HP2 : Hid ((w1.alloc (.cells #[.int .i64 yk, .int .i64 yn, .string yt, .int .i64 yo, .int .i64 ya, .slice none 0 0, .slice none 0 0] 29)).heap[w.heap.size + 1]? = some _) := (c2w.block _ (lt_of_heap HP1.out)).trans HP1.out
    have HZ2 : Hid ((w1.alloc (.cells #[.int .i64 yk, .int .i64 yn, .string yt, .int .i64 yo, .int .i64 ya, .slice none 0 0, .slice none 0 0] 29)).heap[w.heap.size + 2]? = some _) := (c2w.block _ (lt_of_heap HZ1.out)).trans HZ1.out
    have HS2 : Hid ((w1.alloc (.cells #[.int .i64 yk, .int .i64 yn, .string yt, .int .i64 yo, .int .i64 ya, .slice none 0 0, .slice none 0 0] 29)).heap[w.heap.size + 3]? = some _) := (c2w.block _ (lt_of_heap HS1.out)).trans HS1.out
    have HL2 : Hid ((w1.alloc (.cells #[.int .i64 yk, .int .i64 yn, .string yt, .int .i64 yo, .int .i64 ya, .slice none 0 0, .slice none 0 0] 29)).heap[w1.heap.size]? = some (.cells #[.int .i64 yk, .int .i64 yn, .string yt, .int .i64 yo, .int .i64 ya, .slice none 0 0, .slice none 0 0] 29)) := (MapKept.heap_alloc w1 _).1
    have HB2 : Hid (Below w.heap.size w (w1.alloc (.cells #[.int .i64 yk, .int .i64 yn, .string yt, .int .i64 yo, .int .i64 ya, .slice none 0 0, .slice none 0 0] 29))) := HB1.out.trans (c2w.mono HB1.out.size)
    clear c2w
    have p2 : w1.cell? ⟨w.heap.size + 1, 2, none⟩ = some (.int .i64 yk) := Lib.cell_of_heap HP1.out 2
    have p3 : w1.cell? ⟨w.heap.size + 1, 3, none⟩ = some (.int .i64 yn) := Lib.cell_of_heap HP1.out 3
    have p4 : w1.cell? ⟨w.heap.size + 1, 4, none⟩ = some (.string yt) := Lib.cell_of_heap HP1.out 4
    have p5 : w1.cell? ⟨w.heap.size + 1, 5, none⟩ = some (.int .i64 yo) := Lib.cell_of_heap HP1.out 5
    have p6 : w1.cell? ⟨w.heap.size + 1, 6, none⟩ = some (.int .i64 ya) := Lib.cell_of_heap HP1.out 6
    go_upto_region 11 with fail
    clear p2 p3 p4 p5 p6 HX1 HP1 HZ1 HS1 HB1
    generalize w1.alloc (.cells #[.int .i64 yk, .int .i64 yn, .string yt, .int .i64 yo, .int .i64 ya, .slice none 0 0, .slice none 0 0] 29) = w2 at *
    obtain ⟨lb, HLB⟩ : ∃ lb, Hid (w1.heap.size = lb) := ⟨_, rfl⟩
    rw [HLB.out] at HL2 ⊢
    clear HLB
    have p0 : w2.cell? ⟨w.heap.size + 1, 0, none⟩ = some (.int .i64 2) := Lib.cell_of_heap HP2.out 0
    have t0 : w2.cell? ⟨w.heap.size, 0, none⟩ = some (.int .i64 xk) := Lib.cell_of_heap HX2.out 0
    have t1 : w2.cell? ⟨w.heap.size, 1, none⟩ = some (.int .i64 xn) := Lib.cell_of_heap HX2.out 1
    have t2 : w2.cell? ⟨w.heap.size, 2, none⟩ = some (.string xt) := Lib.cell_of_heap HX2.out 2
    have t3 : w2.cell? ⟨w.heap.size, 3, none⟩ = some (.int .i64 xo) := Lib.cell_of_heap HX2.out 3
    have t4 : w2.cell? ⟨w.heap.size, 4, none⟩ = some (.int .i64 xa) := Lib.cell_of_heap HX2.out 4
    have t5 : w2.cell? ⟨w.heap.size, 5, none⟩ = some (.slice a1 kn c1) := Lib.cell_of_heap HX2.out 5
    have t6 : w2.cell? ⟨w.heap.size, 6, none⟩ = some (.slice a2 tn c2) := Lib.cell_of_heap HX2.out 6
    have z0 : w2.cell? ⟨w.heap.size + 2, 0, none⟩ = some (.int .i64 0) := Lib.cell_of_heap HZ2.out 0
    have z1 : w2.cell? ⟨w.heap.size + 2, 1, none⟩ = some (.int .i64 0) := Lib.cell_of_heap HZ2.out 1
    have z2 : w2.cell? ⟨w.heap.size + 2, 2, none⟩ = some (.string ⟨#[]⟩) := Lib.cell_of_heap HZ2.out 2
    have z3 : w2.cell? ⟨w.heap.size + 2, 3, none⟩ = some (.int .i64 0) := Lib.cell_of_heap HZ2.out 3
    have z4 : w2.cell? ⟨w.heap.size + 2, 4, none⟩ = some (.int .i64 0) := Lib.cell_of_heap HZ2.out 4
    have z5 : w2.cell? ⟨w.heap.size + 2, 5, none⟩ = some (.slice none 0 0) := Lib.cell_of_heap HZ2.out 5
    have z6 : w2.cell? ⟨w.heap.size + 2, 6, none⟩ = some (.slice none 0 0) := Lib.cell_of_heap HZ2.out 6
    have zf := Lib.frozen_of_heap HZ2.out
    have HBF : Hid (Below w.heap.size w (put7 w2 (w.heap.size + 2) 0 (⟨xk, xn, xt, xo, xa⟩, .slice a1 kn c1, .slice a2 tn c2))) := put7_below HB2.out _ _ _ (by omega)
    have HHF : Hid ((put7 w2 (w.heap.size + 2) 0 (⟨xk, xn, xt, xo, xa⟩, .slice a1 kn c1, .slice a2 tn c2)).heap[w.heap.size + 2]? = some _) := set7 HZ2.out (.int .i64 xk) (.int .i64 xn) (.string xt) (.int .i64 xo) (.int .i64 xa) (.slice a1 kn c1) (.slice a2 tn c2)
    have HIF : Hid (IsTP (fun b => P b ∨ w.heap.size + 4 ≤ b) (put7 w2 (w.heap.size + 2) 0 (⟨xk, xn, xt, xo, xa⟩, .slice a1 kn c1, .slice a2 tn c2)) (tval (⟨xk, xn, xt, xo, xa⟩, .slice a1 kn c1, .slice a2 tn c2)) T) := HTT.out _ (put7_below HB2.out _ _ _ (by omega))
    go_wp2
    clear z0 z1 z2 z3 z4 z5 z6 zf
    dsimp only [put7, Nat.zero_add] at HBF HHF HIF
    generalize ((((((w2.setCell ⟨w.heap.size + 2, 0, none⟩ (.int .i64 xk)).setCell ⟨w.heap.size + 2, 1, none⟩ (.int .i64 xn)).setCell ⟨w.heap.size + 2, 2, none⟩ (.string xt)).setCell ⟨w.heap.size + 2, 3, none⟩ (.int .i64 xo)).setCell ⟨w.heap.size + 2, 4, none⟩ (.int .i64 xa)).setCell ⟨w.heap.size + 2, 5, none⟩ (.slice a1 kn c1)).setCell ⟨w.heap.size + 2, 6, none⟩ (.slice a2 tn c2) = VV at *
    obtain ⟨q0, q1, q2, q3, q4, q5, q6⟩ := tboxed (u := (⟨xk, xn, xt, xo, xa⟩, .slice a1 kn c1, .slice a2 tn c2)) HHF.out
    dsimp only at q0 q1 q2 q3 q4 q5 q6
    refine bodyPost_ret (v := .tuple #[tval (⟨xk, xn, xt, xo, xa⟩, .slice a1 kn c1, .slice a2 tn c2), .bool false]) (by simp [tval, results, Tryd.results9, go_sem, q0, q1, q2, q3, q4, q5, q6]) rfl ?_
    rw [HPO.out]
    refine ⟨⟨_, _, false, rfl, HIF.out, ?_, ?_⟩, HBF.out⟩
    · exact (fun h => by cases h)
    · exact (fun _ T' h => by
        rw [UpdK] at h
        rcases h with ⟨h, _⟩ | ⟨_, i, h, _⟩ | ⟨h, _⟩
        · exact absurd h (by decide)
        · rw [HQ.out] at h; cases h
        · exact absurd h (by decide))
  | some i =>
    have hi1 : idxI (some i) = (i : Int) := rfl
    rw [hi1]
    clear hi1
    have c2w := (Below.refl w1.heap.size w1).alloc (Nat.le_refl _) (.cells #[.int .i64 yk, .int .i64 yn, .string yt, .int .i64 yo, .int .i64 ya, .slice none 0 0, .slice none 0 0] 29)
    have HX2 : Hid ((w1.alloc (.cells #[.int .i64 yk, .int .i64 yn, .string yt, .int .i64 yo, .int .i64 ya, .slice none 0 0, .slice none 0 0] 29)).heap[w.heap.size]? = some _) := (c2w.block _ (lt_of_heap HX1.out)).trans HX1.out
    have HP2 : Hid ((w1.alloc (.cells #[.int .i64 yk, .int .i64 yn, .string yt, .int .i64 yo, .int .i64 ya, .slice none 0 0, .slice none 0 0] 29)).heap[w.heap.size + 1]? = some _) := (c2w.block _ (lt_of_heap HP1.out)).trans HP1.out
    have HZ2 : Hid ((w1.alloc (.cells #[.int .i64 yk, .int .i64 yn, .string yt, .int .i64 yo, .int .i64 ya, .slice none 0 0, .slice none 0 0] 29)).heap[w.heap.size + 2]? = some _) := (c2w.block _ (lt_of_heap HZ1.out)).trans HZ1.out
    have HS2 : Hid ((w1.alloc (.cells #[.int .i64 yk, .int .i64 yn, .string yt, .int .i64 yo, .int .i64 ya, .slice none 0 0, .slice none 0 0] 29)).heap[w.heap.size + 3]? = some _) := (c2w.block _ (lt_of_heap HS1.out)).trans HS1.out
    have HL2 : Hid ((w1.alloc (.cells #[.int .i64 yk, .int .i64 yn, .string yt, .int .i64 yo, .int .i64 ya, .slice none 0 0, .slice none 0 0] 29)).heap[w1.heap.size]? = some (.cells #[.int .i64 yk, .int .i64 yn, .string yt, .int .i64 yo, .int .i64 ya, .slice none 0 0, .slice none 0 0] 29)) := (MapKept.heap_alloc w1 _).1
    have HB2 : Hid (Below w.heap.size w (w1.alloc (.cells #[.int .i64 yk, .int .i64 yn, .string yt, .int .i64 yo, .int .i64 ya, .slice none 0 0, .slice none 0 0] 29))) := HB1.out.trans (c2w.mono HB1.out.size)
    clear c2w
    have p2 : w1.cell? ⟨w.heap.size + 1, 2, none⟩ = some (.int .i64 yk) := Lib.cell_of_heap HP1.out 2
    have p3 : w1.cell? ⟨w.heap.size + 1, 3, none⟩ = some (.int .i64 yn) := Lib.cell_of_heap HP1.out 3
    have p4 : w1.cell? ⟨w.heap.size + 1, 4, none⟩ = some (.string yt) := Lib.cell_of_heap HP1.out 4
    have p5 : w1.cell? ⟨w.heap.size + 1, 5, none⟩ = some (.int .i64 yo) := Lib.cell_of_heap HP1.out 5
    have p6 : w1.cell? ⟨w.heap.size + 1, 6, none⟩ = some (.int .i64 ya) := Lib.cell_of_heap HP1.out 6
    go_upto_region 11 with fail
    clear p2 p3 p4 p5 p6 HX1 HP1 HZ1 HS1 HB1
    generalize w1.alloc (.cells #[.int .i64 yk, .int .i64 yn, .string yt, .int .i64 yo, .int .i64 ya, .slice none 0 0, .slice none 0 0] 29) = w2 at *
    obtain ⟨lb, HLB⟩ : ∃ lb, Hid (w1.heap.size = lb) := ⟨_, rfl⟩
    rw [HLB.out] at HL2 ⊢
    clear HLB
    have p0 : w2.cell? ⟨w.heap.size + 1, 0, none⟩ = some (.int .i64 2) := Lib.cell_of_heap HP2.out 0
    have t0 : w2.cell? ⟨w.heap.size, 0, none⟩ = some (.int .i64 xk) := Lib.cell_of_heap HX2.out 0
    have t1 : w2.cell? ⟨w.heap.size, 1, none⟩ = some (.int .i64 xn) := Lib.cell_of_heap HX2.out 1
    have t2 : w2.cell? ⟨w.heap.size, 2, none⟩ = some (.string xt) := Lib.cell_of_heap HX2.out 2
    have t3 : w2.cell? ⟨w.heap.size, 3, none⟩ = some (.int .i64 xo) := Lib.cell_of_heap HX2.out 3
    have t4 : w2.cell? ⟨w.heap.size, 4, none⟩ = some (.int .i64 xa) := Lib.cell_of_heap HX2.out 4
    have t5 : w2.cell? ⟨w.heap.size, 5, none⟩ = some (.slice a1 kn c1) := Lib.cell_of_heap HX2.out 5
    have t6 : w2.cell? ⟨w.heap.size, 6, none⟩ = some (.slice a2 tn c2) := Lib.cell_of_heap HX2.out 6
    have l0 : w2.cell? ⟨lb, 0, none⟩ = some (.int .i64 yk) := Lib.cell_of_heap HL2.out 0
    have l1 : w2.cell? ⟨lb, 1, none⟩ = some (.int .i64 yn) := Lib.cell_of_heap HL2.out 1
    have l2 : w2.cell? ⟨lb, 2, none⟩ = some (.string yt) := Lib.cell_of_heap HL2.out 2
    have l3 : w2.cell? ⟨lb, 3, none⟩ = some (.int .i64 yo) := Lib.cell_of_heap HL2.out 3
    have l4 : w2.cell? ⟨lb, 4, none⟩ = some (.int .i64 ya) := Lib.cell_of_heap HL2.out 4
    have l5 : w2.cell? ⟨lb, 5, none⟩ = some (.slice none 0 0) := Lib.cell_of_heap HL2.out 5
    have l6 : w2.cell? ⟨lb, 6, none⟩ = some (.slice none 0 0) := Lib.cell_of_heap HL2.out 6
    have s0 : w2.cell? ⟨w.heap.size + 3, 0, none⟩ = some (.string sb) := Lib.cell_of_heap HS2.out 0
    have s1 : w2.cell? ⟨w.heap.size + 3, 1, none⟩ = some (.int .i64 si) := Lib.cell_of_heap HS2.out 1
    have EP := putGone_any (P := P) (X := leafT ⟨yk, yn, yt, yo, ya⟩) ⟨#[]⟩ w2 (HTP.out w2 HB2.out) (leafP P w2 ⟨yk, yn, yt, yo, ya⟩) HT.out.2.1 HT.out.2.2 HQ.out
    unfold tval at EP
    dsimp only [leafV] at EP
    go_wp2_with fail
    go_fit EP
    rintro e w9 hput
    clear EP t0 t1 t2 t3 t4 t5 t6 l0 l1 l2 l3 l4 l5 l6 s0 s1
    obtain ⟨u9, rfl, hI9, b9⟩ := hput
    obtain ⟨⟨rk, rn, rt, ro, ra⟩, r1, s1, t1, r2, s2, t2, hu9⟩ := hI9.plain.parts
    subst hu9
    have HZ9 : Hid (w9.heap[w.heap.size + 2]? = some (.cells #[.int .i64 0, .int .i64 0, .string ⟨#[]⟩, .int .i64 0, .int .i64 0, .slice none 0 0, .slice none 0 0] 29)) := (b9.block _ (lt_of_heap HZ2.out)).trans HZ2.out
    have HB9 : Hid (Below w.heap.size w w9) := HB2.out.trans (b9.mono HB2.out.size)
    have HI9 : Hid (IsTP _ w9 (tval (⟨rk, rn, rt, ro, ra⟩, .slice r1 s1 t1, .slice r2 s2 t2)) _) := hI9
    clear hI9 b9
    dsimp only [tval]
    have z0 : w9.cell? ⟨w.heap.size + 2, 0, none⟩ = some (.int .i64 0) := Lib.cell_of_heap HZ9.out 0
    have z1 : w9.cell? ⟨w.heap.size + 2, 1, none⟩ = some (.int .i64 0) := Lib.cell_of_heap HZ9.out 1
    have z2 : w9.cell? ⟨w.heap.size + 2, 2, none⟩ = some (.string ⟨#[]⟩) := Lib.cell_of_heap HZ9.out 2
    have z3 : w9.cell? ⟨w.heap.size + 2, 3, none⟩ = some (.int .i64 0) := Lib.cell_of_heap HZ9.out 3
    have z4 : w9.cell? ⟨w.heap.size + 2, 4, none⟩ = some (.int .i64 0) := Lib.cell_of_heap HZ9.out 4
    have z5 : w9.cell? ⟨w.heap.size + 2, 5, none⟩ = some (.slice none 0 0) := Lib.cell_of_heap HZ9.out 5
    have z6 : w9.cell? ⟨w.heap.size + 2, 6, none⟩ = some (.slice none 0 0) := Lib.cell_of_heap HZ9.out 6
    have zf := Lib.frozen_of_heap HZ9.out
    have HBF : Hid (Below w.heap.size w (put7 w9 (w.heap.size + 2) 0 (⟨rk, rn, rt, ro, ra⟩, .slice r1 s1 t1, .slice r2 s2 t2))) := put7_below HB9.out _ _ _ (by omega)
    have HHF : Hid ((put7 w9 (w.heap.size + 2) 0 (⟨rk, rn, rt, ro, ra⟩, .slice r1 s1 t1, .slice r2 s2 t2)).heap[w.heap.size + 2]? = some _) := set7 HZ9.out (.int .i64 rk) (.int .i64 rn) (.string rt) (.int .i64 ro) (.int .i64 ra) (.slice r1 s1 t1) (.slice r2 s2 t2)
    have HIF : Hid (IsTP (fun b => P b ∨ w.heap.size + 4 ≤ b) (put7 w9 (w.heap.size + 2) 0 (⟨rk, rn, rt, ro, ra⟩, .slice r1 s1 t1, .slice r2 s2 t2)) (tval (⟨rk, rn, rt, ro, ra⟩, .slice r1 s1 t1, .slice r2 s2 t2)) _) := fresh_put HI9.out (fun _ h => Or.inl h) (by have := lt_of_heap HS2.out; omega) HPP.out
    go_wp2
    clear z0 z1 z2 z3 z4 z5 z6 zf
    dsimp only [put7, Nat.zero_add] at HBF HHF HIF
    generalize ((((((w9.setCell ⟨w.heap.size + 2, 0, none⟩ (.int .i64 rk)).setCell ⟨w.heap.size + 2, 1, none⟩ (.int .i64 rn)).setCell ⟨w.heap.size + 2, 2, none⟩ (.string rt)).setCell ⟨w.heap.size + 2, 3, none⟩ (.int .i64 ro)).setCell ⟨w.heap.size + 2, 4, none⟩ (.int .i64 ra)).setCell ⟨w.heap.size + 2, 5, none⟩ (.slice r1 s1 t1)).setCell ⟨w.heap.size + 2, 6, none⟩ (.slice r2 s2 t2) = VV at *
    obtain ⟨q0, q1, q2, q3, q4, q5, q6⟩ := tboxed (u := (⟨rk, rn, rt, ro, ra⟩, .slice r1 s1 t1, .slice r2 s2 t2)) HHF.out
    dsimp only at q0 q1 q2 q3 q4 q5 q6
    refine bodyPost_ret (v := .tuple #[tval (⟨rk, rn, rt, ro, ra⟩, .slice r1 s1 t1, .slice r2 s2 t2), .bool true]) (by simp [tval, results, Tryd.results9, go_sem, q0, q1, q2, q3, q4, q5, q6]) rfl ?_
    rw [HPO.out]
    refine ⟨⟨_, _, true, rfl, HIF.out, ?_, ?_⟩, HBF.out⟩
    · exact (fun _ => by
        rw [UpdK]
        exact Or.inr (Or.inl ⟨rfl, i, HQ.out, kidOf_lt HQ.out (fun h5 => ((nodeB_map h5).1 ((formed_iff T).1 HT.out.2.1).1).2.1), rfl⟩))
    · exact (fun h => by cases h)

set_option maxRecDepth 100000 in
set_option maxHeartbeats 8000000 in
theorem pat_3 {P : Nat → Prop} {v p pp : Value} {T : JT} {s : Stp} (y : V) (w : World) (hP : ∀ b, P b → b < w.heap.size) (hT : IsTP P w v T) (hf : formedB T = true) (hsz : T.size ≤ 400) (hp : IsSteps w p ([s])) (hpp : ∃ a n c, pp = .slice a n c) :
    Calls Tryd.prog 9 #[v, pchK 3 pp y, p] w fun e w' => PatP P w 3 T ([s]) y e w' ∧ Below w.heap.size w w' := by
  obtain ⟨qa, qn, qc, rfl⟩ := hpp
  have HPP : Hid (∀ b, P b → b < w.heap.size) := hP
  obtain ⟨eT, uk, a2, c2, us, rfl, nk0, nl, nc, nz, nr0, ni⟩ := hT.inv
  have nr := nr0.row
  have nk := nk0.strs
  obtain ⟨a1, c1, rfl, -, -, -⟩ := id nk
  clear eT nk0 nr0
  have HT : Hid (IsTP P w (tval (T.x, .slice a1 T.ks.length c1, .slice a2 T.ts.length c2)) T ∧ formedB T = true ∧ T.size ≤ 400) := ⟨hT, hf, hsz⟩
  have HROW : Hid (us.length = T.ts.length ∧ T.ts.length ≤ c2 ∧ RowT w a2 us ∧ (∀ i (h : i < us.length) (h' : i < T.ts.length), IsTP P w (tval us[i]) T.ts[i]) ∧ IsStrs w (.slice a1 T.ks.length c1) T.ks) := ⟨nl, nc.1, nr, ni, nk⟩
  obtain ⟨pa, pc, rfl, hp1, hp2, hp3⟩ := id hp
  obtain ⟨pb, po, rfl, hpb, hpm⟩ := hp3 (by simp)
  have HPA : Hid (IsSteps w (.slice (some ⟨pb, po, none⟩) ([s]).length pc) ([s])) := hp
  have hp0 := hpm 0 (by simp)
  simp only [Nat.zero_mul, Nat.add_zero, List.getElem_cons_zero] at hp0
  obtain ⟨post, hpost⟩ : ∃ post, post = fun (e : Ending) (w' : World) => PatP P w 3 T ([s]) y e w' ∧ Below w.heap.size w w' := ⟨_, rfl⟩
  rw [← hpost]
  have HPO : Hid (post = fun (e : Ending) (w' : World) => PatP P w 3 T ([s]) y e w' ∧ Below w.heap.size w w') := hpost
  clear hpost
  obtain ⟨tn, htn⟩ : ∃ tn, tn = T.ts.length := ⟨_, rfl⟩
  obtain ⟨kn, hkn⟩ : ∃ kn, kn = T.ks.length := ⟨_, rfl⟩
  have HN : Hid (tn = T.ts.length ∧ kn = T.ks.length) := ⟨htn, hkn⟩
  obtain ⟨q, hq⟩ : ∃ q, kidOf T.x T.ks T.ts.length s = q := ⟨_, rfl⟩
  have HQ : Hid (kidOf T.x T.ks T.ts.length s = q) := hq
  obtain ⟨xx, hxx⟩ : ∃ xx, xx = T.x := ⟨_, rfl⟩
  have HXX : Hid (xx = T.x) := hxx
  have HYY : Hid (∃ y', y' = y) := ⟨y, rfl⟩
  obtain ⟨y', hy'⟩ := HYY.out
  clear HYY
  rw [← hy'] at HPO
  have HY : Hid (y' = y) := hy'
  clear hy'
  obtain ⟨ss, hss⟩ : ∃ ss, ss = s := ⟨_, rfl⟩
  have HSS : Hid (ss = s) := hss
  rw [← hss] at hp0
  obtain ⟨xk, xn, xt, xo, xa⟩ := xx
  obtain ⟨yk, yn, yt, yo, ya⟩ := y
  obtain ⟨sb, si⟩ := ss
  obtain ⟨X4, P4, Z4, S4, b4, b3⟩ := four_boxes w (.cells #[.int .i64 xk, .int .i64 xn, .string xt, .int .i64 xo, .int .i64 xa, .slice a1 kn c1, .slice a2 tn c2] 29) (.cells #[.int .i64 3, .slice qa qn qc, .int .i64 yk, .int .i64 yn, .string yt, .int .i64 yo, .int .i64 ya] 43) (.cells #[.int .i64 0, .int .i64 0, .string ⟨#[]⟩, .int .i64 0, .int .i64 0, .slice none 0 0, .slice none 0 0] 29) (.cells #[.string sb, .int .i64 si] 45)
  have E1 := index_any T.x T.ks a1 a2 c1 T.ts.length c2 s ((((w.alloc (.cells #[.int .i64 xk, .int .i64 xn, .string xt, .int .i64 xo, .int .i64 xa, .slice a1 kn c1, .slice a2 tn c2] 29)).alloc (.cells #[.int .i64 3, .slice qa qn qc, .int .i64 yk, .int .i64 yn, .string yt, .int .i64 yo, .int .i64 ya] 43)).alloc (.cells #[.int .i64 0, .int .i64 0, .string ⟨#[]⟩, .int .i64 0, .int .i64 0, .slice none 0 0, .slice none 0 0] 29)).alloc (.cells #[.string sb, .int .i64 si] 45)) (nk.below b4)
  rw [hq, ← htn, ← hkn, ← hxx, ← hss] at E1
  rw [← htn, ← hkn, ← hxx]
  have HTT : Hid (∀ W, Below w.heap.size w W → IsTP (fun b => P b ∨ w.heap.size + 4 ≤ b) W (tval (⟨xk, xn, xt, xo, xa⟩, .slice a1 kn c1, .slice a2 tn c2)) T) := by
    intro W hW
    have h9 : IsTP (fun b => P b ∨ w.heap.size + 4 ≤ b) W _ T := hT.move hW.size (fun b _ h2 => hW.block b h2) (fun _ h => Or.inl h)
    rw [← htn, ← hkn, ← hxx] at h9
    exact h9
  have HTP : Hid (∀ W, Below w.heap.size w W → IsTP P W (tval (⟨xk, xn, xt, xo, xa⟩, .slice a1 kn c1, .slice a2 tn c2)) T) := by
    intro W hW
    have h9 : IsTP P W _ T := hT.move hW.size (fun b _ h2 => hW.block b h2) (fun _ h => h)
    rw [← htn, ← hkn, ← hxx] at h9
    exact h9
  have e0 : (((w.alloc (.cells #[.int .i64 xk, .int .i64 xn, .string xt, .int .i64 xo, .int .i64 xa, .slice a1 kn c1, .slice a2 tn c2] 29)).alloc (.cells #[.int .i64 3, .slice qa qn qc, .int .i64 yk, .int .i64 yn, .string yt, .int .i64 yo, .int .i64 ya] 43)).alloc (.cells #[.int .i64 0, .int .i64 0, .string ⟨#[]⟩, .int .i64 0, .int .i64 0, .slice none 0 0, .slice none 0 0] 29)).cell? ⟨pb, po, none⟩ = some (.string sb) := (b3.cell (p := ⟨pb, po, none⟩) hpb).trans hp0.1
  have e1 : (((w.alloc (.cells #[.int .i64 xk, .int .i64 xn, .string xt, .int .i64 xo, .int .i64 xa, .slice a1 kn c1, .slice a2 tn c2] 29)).alloc (.cells #[.int .i64 3, .slice qa qn qc, .int .i64 yk, .int .i64 yn, .string yt, .int .i64 yo, .int .i64 ya] 43)).alloc (.cells #[.int .i64 0, .int .i64 0, .string ⟨#[]⟩, .int .i64 0, .int .i64 0, .slice none 0 0, .slice none 0 0] 29)).cell? ⟨pb, po + 1, none⟩ = some (.int .i64 si) := (b3.cell (p := ⟨pb, po + 1, none⟩) hpb).trans hp0.2
  have HX : Hid (_ = some _) := X4
  have HP : Hid (_ = some _) := P4
  have HZ : Hid (_ = some _) := Z4
  have HS : Hid (_ = some _) := S4
  have HB : Hid (Below w.heap.size w _) := b4
  have hln : ([s] : List Stp).length = 1 := rfl
  rw [hln]
  clear hln
  clear hP hT hf hsz nk nl nc nz nr ni hp hp1 hp2 hp3 hpm hp0 htn hkn hq hxx hss X4 P4 Z4 S4 b4 b3 hpb
  unfold tval at E1 ⊢
  dsimp only [pchK, stpV] at E1 ⊢
  go_enter Tryd.func9, Tryd.ntmps9
  go_wp2_with fail
  go_fit E1
  rintro e w1 ⟨rfl, b1⟩
  have HX1 : Hid (w1.heap[w.heap.size]? = some (.cells #[.int .i64 xk, .int .i64 xn, .string xt, .int .i64 xo, .int .i64 xa, .slice a1 kn c1, .slice a2 tn c2] 29)) := (b1.block _ (lt_of_heap HX.out)).trans HX.out
  have HP1 : Hid (w1.heap[w.heap.size + 1]? = some (.cells #[.int .i64 3, .slice qa qn qc, .int .i64 yk, .int .i64 yn, .string yt, .int .i64 yo, .int .i64 ya] 43)) := (b1.block _ (lt_of_heap HP.out)).trans HP.out
  have HZ1 : Hid (w1.heap[w.heap.size + 2]? = some (.cells #[.int .i64 0, .int .i64 0, .string ⟨#[]⟩, .int .i64 0, .int .i64 0, .slice none 0 0, .slice none 0 0] 29)) := (b1.block _ (lt_of_heap HZ.out)).trans HZ.out
  have HS1 : Hid (w1.heap[w.heap.size + 3]? = some (.cells #[.string sb, .int .i64 si] 45)) := (b1.block _ (lt_of_heap HS.out)).trans HS.out
  have HB1 : Hid (Below w.heap.size w w1) := HB.out.trans (b1.mono HB.out.size)
  clear b1 E1 HX HP HZ HS HB e0 e1
  obtain ⟨iv, hiv⟩ : ∃ iv, idxI q = iv := ⟨_, rfl⟩
  rw [hiv]
  clear hiv
  have HAT : Hid (atStep T.x T.ts.length s = (decide (xk = 6) && (sb.toList.isEmpty && (decide (0 ≤ si) && decide (si ≤ tn))))) := by
    show _ = _
    rw [← HXX.out, ← HSS.out, ← HN.out.1]
    rfl
  have c2w := (Below.refl w1.heap.size w1).alloc (Nat.le_refl _) (.cells #[.int .i64 yk, .int .i64 yn, .string yt, .int .i64 yo, .int .i64 ya, .slice none 0 0, .slice none 0 0] 29)
  have HX2 : Hid ((w1.alloc (.cells #[.int .i64 yk, .int .i64 yn, .string yt, .int .i64 yo, .int .i64 ya, .slice none 0 0, .slice none 0 0] 29)).heap[w.heap.size]? = some _) := (c2w.block _ (lt_of_heap HX1.out)).trans HX1.out
  have HP2 : Hid ((w1.alloc (.cells #[.int .i64 yk, .int .i64 yn, .string yt, .int .i64 yo, .int .i64 ya, .slice none 0 0, .slice none 0 0] 29)).heap[w.heap.size + 1]? = some _) := (c2w.block _ (lt_of_heap HP1.out)).trans HP1.out
  have HZ2 : Hid ((w1.alloc (.cells #[.int .i64 yk, .int .i64 yn, .string yt, .int .i64 yo, .int .i64 ya, .slice none 0 0, .slice none 0 0] 29)).heap[w.heap.size + 2]? = some _) := (c2w.block _ (lt_of_heap HZ1.out)).trans HZ1.out
  have HS2 : Hid ((w1.alloc (.cells #[.int .i64 yk, .int .i64 yn, .string yt, .int .i64 yo, .int .i64 ya, .slice none 0 0, .slice none 0 0] 29)).heap[w.heap.size + 3]? = some _) := (c2w.block _ (lt_of_heap HS1.out)).trans HS1.out
  have HL2 : Hid ((w1.alloc (.cells #[.int .i64 yk, .int .i64 yn, .string yt, .int .i64 yo, .int .i64 ya, .slice none 0 0, .slice none 0 0] 29)).heap[w1.heap.size]? = some (.cells #[.int .i64 yk, .int .i64 yn, .string yt, .int .i64 yo, .int .i64 ya, .slice none 0 0, .slice none 0 0] 29)) := (MapKept.heap_alloc w1 _).1
  have HB2 : Hid (Below w.heap.size w (w1.alloc (.cells #[.int .i64 yk, .int .i64 yn, .string yt, .int .i64 yo, .int .i64 ya, .slice none 0 0, .slice none 0 0] 29))) := HB1.out.trans (c2w.mono HB1.out.size)
  clear c2w
  have p2 : w1.cell? ⟨w.heap.size + 1, 2, none⟩ = some (.int .i64 yk) := Lib.cell_of_heap HP1.out 2
  have p3 : w1.cell? ⟨w.heap.size + 1, 3, none⟩ = some (.int .i64 yn) := Lib.cell_of_heap HP1.out 3
  have p4 : w1.cell? ⟨w.heap.size + 1, 4, none⟩ = some (.string yt) := Lib.cell_of_heap HP1.out 4
  have p5 : w1.cell? ⟨w.heap.size + 1, 5, none⟩ = some (.int .i64 yo) := Lib.cell_of_heap HP1.out 5
  have p6 : w1.cell? ⟨w.heap.size + 1, 6, none⟩ = some (.int .i64 ya) := Lib.cell_of_heap HP1.out 6
  go_upto_region 11 with fail
  clear p2 p3 p4 p5 p6 HX1 HP1 HZ1 HS1 HB1
  generalize w1.alloc (.cells #[.int .i64 yk, .int .i64 yn, .string yt, .int .i64 yo, .int .i64 ya, .slice none 0 0, .slice none 0 0] 29) = w2 at *
  obtain ⟨lb, HLB⟩ : ∃ lb, Hid (w1.heap.size = lb) := ⟨_, rfl⟩
  rw [HLB.out] at HL2 ⊢
  clear HLB
  generalize hbe : sb.toList.isEmpty = be at *
  by_cases h6 : xk = 6
  · have h6' : (xk == 6) = true := by simpa using h6
    have HK6 : Hid (xk = 6) := h6
    clear h6
    cases be with
    | false =>
      have p0 : w2.cell? ⟨w.heap.size + 1, 0, none⟩ = some (.int .i64 3) := Lib.cell_of_heap HP2.out 0
      have s0 : w2.cell? ⟨w.heap.size + 3, 0, none⟩ = some (.string sb) := Lib.cell_of_heap HS2.out 0
      have s1 : w2.cell? ⟨w.heap.size + 3, 1, none⟩ = some (.int .i64 si) := Lib.cell_of_heap HS2.out 1
      have t0 : w2.cell? ⟨w.heap.size, 0, none⟩ = some (.int .i64 xk) := Lib.cell_of_heap HX2.out 0
      have t1 : w2.cell? ⟨w.heap.size, 1, none⟩ = some (.int .i64 xn) := Lib.cell_of_heap HX2.out 1
      have t2 : w2.cell? ⟨w.heap.size, 2, none⟩ = some (.string xt) := Lib.cell_of_heap HX2.out 2
      have t3 : w2.cell? ⟨w.heap.size, 3, none⟩ = some (.int .i64 xo) := Lib.cell_of_heap HX2.out 3
      have t4 : w2.cell? ⟨w.heap.size, 4, none⟩ = some (.int .i64 xa) := Lib.cell_of_heap HX2.out 4
      have t5 : w2.cell? ⟨w.heap.size, 5, none⟩ = some (.slice a1 kn c1) := Lib.cell_of_heap HX2.out 5
      have t6 : w2.cell? ⟨w.heap.size, 6, none⟩ = some (.slice a2 tn c2) := Lib.cell_of_heap HX2.out 6
      have z0 : w2.cell? ⟨w.heap.size + 2, 0, none⟩ = some (.int .i64 0) := Lib.cell_of_heap HZ2.out 0
      have z1 : w2.cell? ⟨w.heap.size + 2, 1, none⟩ = some (.int .i64 0) := Lib.cell_of_heap HZ2.out 1
      have z2 : w2.cell? ⟨w.heap.size + 2, 2, none⟩ = some (.string ⟨#[]⟩) := Lib.cell_of_heap HZ2.out 2
      have z3 : w2.cell? ⟨w.heap.size + 2, 3, none⟩ = some (.int .i64 0) := Lib.cell_of_heap HZ2.out 3
      have z4 : w2.cell? ⟨w.heap.size + 2, 4, none⟩ = some (.int .i64 0) := Lib.cell_of_heap HZ2.out 4
      have z5 : w2.cell? ⟨w.heap.size + 2, 5, none⟩ = some (.slice none 0 0) := Lib.cell_of_heap HZ2.out 5
      have z6 : w2.cell? ⟨w.heap.size + 2, 6, none⟩ = some (.slice none 0 0) := Lib.cell_of_heap HZ2.out 6
      have zf := Lib.frozen_of_heap HZ2.out
      have HBF : Hid (Below w.heap.size w (put7 w2 (w.heap.size + 2) 0 (⟨xk, xn, xt, xo, xa⟩, .slice a1 kn c1, .slice a2 tn c2))) := put7_below HB2.out _ _ _ (by omega)
      have HHF : Hid ((put7 w2 (w.heap.size + 2) 0 (⟨xk, xn, xt, xo, xa⟩, .slice a1 kn c1, .slice a2 tn c2)).heap[w.heap.size + 2]? = some _) := set7 HZ2.out (.int .i64 xk) (.int .i64 xn) (.string xt) (.int .i64 xo) (.int .i64 xa) (.slice a1 kn c1) (.slice a2 tn c2)
      have HIF : Hid (IsTP (fun b => P b ∨ w.heap.size + 4 ≤ b) (put7 w2 (w.heap.size + 2) 0 (⟨xk, xn, xt, xo, xa⟩, .slice a1 kn c1, .slice a2 tn c2)) (tval (⟨xk, xn, xt, xo, xa⟩, .slice a1 kn c1, .slice a2 tn c2)) T) := HTT.out _ (put7_below HB2.out _ _ _ (by omega))
      go_wp2
      clear z0 z1 z2 z3 z4 z5 z6 zf
      dsimp only [put7, Nat.zero_add] at HBF HHF HIF
      generalize ((((((w2.setCell ⟨w.heap.size + 2, 0, none⟩ (.int .i64 xk)).setCell ⟨w.heap.size + 2, 1, none⟩ (.int .i64 xn)).setCell ⟨w.heap.size + 2, 2, none⟩ (.string xt)).setCell ⟨w.heap.size + 2, 3, none⟩ (.int .i64 xo)).setCell ⟨w.heap.size + 2, 4, none⟩ (.int .i64 xa)).setCell ⟨w.heap.size + 2, 5, none⟩ (.slice a1 kn c1)).setCell ⟨w.heap.size + 2, 6, none⟩ (.slice a2 tn c2) = VV at *
      obtain ⟨q0, q1, q2, q3, q4, q5, q6⟩ := tboxed (u := (⟨xk, xn, xt, xo, xa⟩, .slice a1 kn c1, .slice a2 tn c2)) HHF.out
      dsimp only at q0 q1 q2 q3 q4 q5 q6
      refine bodyPost_ret (v := .tuple #[tval (⟨xk, xn, xt, xo, xa⟩, .slice a1 kn c1, .slice a2 tn c2), .bool false]) (by simp [tval, results, Tryd.results9, go_sem, q0, q1, q2, q3, q4, q5, q6]) rfl ?_
      rw [HPO.out]
      refine ⟨⟨_, _, false, rfl, HIF.out, ?_, ?_⟩, HBF.out⟩
      · exact (fun h => by cases h)
      · exact (fun _ T' h => by
          rw [UpdK] at h
          rcases h with ⟨h, _⟩ | ⟨h, _⟩ | ⟨_, h, _⟩
          · exact absurd h (by decide)
          · exact absurd h (by decide)
          · rw [HAT.out] at h; simp at h)
    | true =>
      by_cases h0 : 0 ≤ si
      · by_cases hn : si ≤ tn
        · obtain ⟨j, hsj⟩ : ∃ j : Nat, (j : Int) = si := ⟨si.toNat, by omega⟩
          have HJ : Hid (j ≤ T.ts.length ∧ s.2.toNat = j) := ⟨by have := HN.out.1; omega, by rw [← HSS.out]; show si.toNat = j; omega⟩
          have HTA : Hid (atStep T.x T.ts.length s = true) := by show _ = _; rw [HAT.out, HK6.out]; simp [h0, hn]
          have p0 : w2.cell? ⟨w.heap.size + 1, 0, none⟩ = some (.int .i64 3) := Lib.cell_of_heap HP2.out 0
          have t0 : w2.cell? ⟨w.heap.size, 0, none⟩ = some (.int .i64 xk) := Lib.cell_of_heap HX2.out 0
          have t1 : w2.cell? ⟨w.heap.size, 1, none⟩ = some (.int .i64 xn) := Lib.cell_of_heap HX2.out 1
          have t2 : w2.cell? ⟨w.heap.size, 2, none⟩ = some (.string xt) := Lib.cell_of_heap HX2.out 2
          have t3 : w2.cell? ⟨w.heap.size, 3, none⟩ = some (.int .i64 xo) := Lib.cell_of_heap HX2.out 3
          have t4 : w2.cell? ⟨w.heap.size, 4, none⟩ = some (.int .i64 xa) := Lib.cell_of_heap HX2.out 4
          have t5 : w2.cell? ⟨w.heap.size, 5, none⟩ = some (.slice a1 kn c1) := Lib.cell_of_heap HX2.out 5
          have t6 : w2.cell? ⟨w.heap.size, 6, none⟩ = some (.slice a2 tn c2) := Lib.cell_of_heap HX2.out 6
          have l0 : w2.cell? ⟨lb, 0, none⟩ = some (.int .i64 yk) := Lib.cell_of_heap HL2.out 0
          have l1 : w2.cell? ⟨lb, 1, none⟩ = some (.int .i64 yn) := Lib.cell_of_heap HL2.out 1
          have l2 : w2.cell? ⟨lb, 2, none⟩ = some (.string yt) := Lib.cell_of_heap HL2.out 2
          have l3 : w2.cell? ⟨lb, 3, none⟩ = some (.int .i64 yo) := Lib.cell_of_heap HL2.out 3
          have l4 : w2.cell? ⟨lb, 4, none⟩ = some (.int .i64 ya) := Lib.cell_of_heap HL2.out 4
          have l5 : w2.cell? ⟨lb, 5, none⟩ = some (.slice none 0 0) := Lib.cell_of_heap HL2.out 5
          have l6 : w2.cell? ⟨lb, 6, none⟩ = some (.slice none 0 0) := Lib.cell_of_heap HL2.out 6
          have s0 : w2.cell? ⟨w.heap.size + 3, 0, none⟩ = some (.string sb) := Lib.cell_of_heap HS2.out 0
          have s1 : w2.cell? ⟨w.heap.size + 3, 1, none⟩ = some (.int .i64 si) := Lib.cell_of_heap HS2.out 1
          have EP := putIn_any (P := P) (X := leafT ⟨yk, yn, yt, yo, ya⟩) ⟨#[]⟩ w2 (HTP.out w2 HB2.out) (leafP P w2 ⟨yk, yn, yt, yo, ya⟩) HT.out.2.1 HT.out.2.2 HTA.out HJ.out.1
          unfold tval at EP
          dsimp only [leafV] at EP
          rw [hsj] at EP
          clear hsj
          go_wp2_with fail
          go_fit EP
          rintro e w9 hput
          clear EP t0 t1 t2 t3 t4 t5 t6 l0 l1 l2 l3 l4 l5 l6 s0 s1
          obtain ⟨u9, rfl, hI9, b9⟩ := hput
          obtain ⟨⟨rk, rn, rt, ro, ra⟩, r1, s1, t1, r2, s2, t2, hu9⟩ := hI9.plain.parts
          subst hu9
          have HZ9 : Hid (w9.heap[w.heap.size + 2]? = some (.cells #[.int .i64 0, .int .i64 0, .string ⟨#[]⟩, .int .i64 0, .int .i64 0, .slice none 0 0, .slice none 0 0] 29)) := (b9.block _ (lt_of_heap HZ2.out)).trans HZ2.out
          have HB9 : Hid (Below w.heap.size w w9) := HB2.out.trans (b9.mono HB2.out.size)
          have HI9 : Hid (IsTP _ w9 (tval (⟨rk, rn, rt, ro, ra⟩, .slice r1 s1 t1, .slice r2 s2 t2)) _) := hI9
          clear hI9 b9
          dsimp only [tval]
          have z0 : w9.cell? ⟨w.heap.size + 2, 0, none⟩ = some (.int .i64 0) := Lib.cell_of_heap HZ9.out 0
          have z1 : w9.cell? ⟨w.heap.size + 2, 1, none⟩ = some (.int .i64 0) := Lib.cell_of_heap HZ9.out 1
          have z2 : w9.cell? ⟨w.heap.size + 2, 2, none⟩ = some (.string ⟨#[]⟩) := Lib.cell_of_heap HZ9.out 2
          have z3 : w9.cell? ⟨w.heap.size + 2, 3, none⟩ = some (.int .i64 0) := Lib.cell_of_heap HZ9.out 3
          have z4 : w9.cell? ⟨w.heap.size + 2, 4, none⟩ = some (.int .i64 0) := Lib.cell_of_heap HZ9.out 4
          have z5 : w9.cell? ⟨w.heap.size + 2, 5, none⟩ = some (.slice none 0 0) := Lib.cell_of_heap HZ9.out 5
          have z6 : w9.cell? ⟨w.heap.size + 2, 6, none⟩ = some (.slice none 0 0) := Lib.cell_of_heap HZ9.out 6
          have zf := Lib.frozen_of_heap HZ9.out
          have HBF : Hid (Below w.heap.size w (put7 w9 (w.heap.size + 2) 0 (⟨rk, rn, rt, ro, ra⟩, .slice r1 s1 t1, .slice r2 s2 t2))) := put7_below HB9.out _ _ _ (by omega)
          have HHF : Hid ((put7 w9 (w.heap.size + 2) 0 (⟨rk, rn, rt, ro, ra⟩, .slice r1 s1 t1, .slice r2 s2 t2)).heap[w.heap.size + 2]? = some _) := set7 HZ9.out (.int .i64 rk) (.int .i64 rn) (.string rt) (.int .i64 ro) (.int .i64 ra) (.slice r1 s1 t1) (.slice r2 s2 t2)
          have HIF : Hid (IsTP (fun b => P b ∨ w.heap.size + 4 ≤ b) (put7 w9 (w.heap.size + 2) 0 (⟨rk, rn, rt, ro, ra⟩, .slice r1 s1 t1, .slice r2 s2 t2)) (tval (⟨rk, rn, rt, ro, ra⟩, .slice r1 s1 t1, .slice r2 s2 t2)) _) := fresh_put HI9.out (fun _ h => Or.inl h) (by have := lt_of_heap HS2.out; omega) HPP.out
          go_wp2
          clear z0 z1 z2 z3 z4 z5 z6 zf
          dsimp only [put7, Nat.zero_add] at HBF HHF HIF
          generalize ((((((w9.setCell ⟨w.heap.size + 2, 0, none⟩ (.int .i64 rk)).setCell ⟨w.heap.size + 2, 1, none⟩ (.int .i64 rn)).setCell ⟨w.heap.size + 2, 2, none⟩ (.string rt)).setCell ⟨w.heap.size + 2, 3, none⟩ (.int .i64 ro)).setCell ⟨w.heap.size + 2, 4, none⟩ (.int .i64 ra)).setCell ⟨w.heap.size + 2, 5, none⟩ (.slice r1 s1 t1)).setCell ⟨w.heap.size + 2, 6, none⟩ (.slice r2 s2 t2) = VV at *
          obtain ⟨q0, q1, q2, q3, q4, q5, q6⟩ := tboxed (u := (⟨rk, rn, rt, ro, ra⟩, .slice r1 s1 t1, .slice r2 s2 t2)) HHF.out
          dsimp only at q0 q1 q2 q3 q4 q5 q6
          refine bodyPost_ret (v := .tuple #[tval (⟨rk, rn, rt, ro, ra⟩, .slice r1 s1 t1, .slice r2 s2 t2), .bool true]) (by simp [tval, results, Tryd.results9, go_sem, q0, q1, q2, q3, q4, q5, q6]) rfl ?_
          rw [HPO.out]
          refine ⟨⟨_, _, true, rfl, HIF.out, ?_, ?_⟩, HBF.out⟩
          · exact (fun _ => by
              rw [UpdK]
              exact Or.inr (Or.inr ⟨rfl, HTA.out, by rw [HJ.out.2, HY.out]⟩))
          · exact (fun h => by cases h)
        · have HN9 : Hid (¬ si ≤ tn) := hn
          have p0 : w2.cell? ⟨w.heap.size + 1, 0, none⟩ = some (.int .i64 3) := Lib.cell_of_heap HP2.out 0
          have s0 : w2.cell? ⟨w.heap.size + 3, 0, none⟩ = some (.string sb) := Lib.cell_of_heap HS2.out 0
          have s1 : w2.cell? ⟨w.heap.size + 3, 1, none⟩ = some (.int .i64 si) := Lib.cell_of_heap HS2.out 1
          have t0 : w2.cell? ⟨w.heap.size, 0, none⟩ = some (.int .i64 xk) := Lib.cell_of_heap HX2.out 0
          have t1 : w2.cell? ⟨w.heap.size, 1, none⟩ = some (.int .i64 xn) := Lib.cell_of_heap HX2.out 1
          have t2 : w2.cell? ⟨w.heap.size, 2, none⟩ = some (.string xt) := Lib.cell_of_heap HX2.out 2
          have t3 : w2.cell? ⟨w.heap.size, 3, none⟩ = some (.int .i64 xo) := Lib.cell_of_heap HX2.out 3
          have t4 : w2.cell? ⟨w.heap.size, 4, none⟩ = some (.int .i64 xa) := Lib.cell_of_heap HX2.out 4
          have t5 : w2.cell? ⟨w.heap.size, 5, none⟩ = some (.slice a1 kn c1) := Lib.cell_of_heap HX2.out 5
          have t6 : w2.cell? ⟨w.heap.size, 6, none⟩ = some (.slice a2 tn c2) := Lib.cell_of_heap HX2.out 6
          have z0 : w2.cell? ⟨w.heap.size + 2, 0, none⟩ = some (.int .i64 0) := Lib.cell_of_heap HZ2.out 0
          have z1 : w2.cell? ⟨w.heap.size + 2, 1, none⟩ = some (.int .i64 0) := Lib.cell_of_heap HZ2.out 1
          have z2 : w2.cell? ⟨w.heap.size + 2, 2, none⟩ = some (.string ⟨#[]⟩) := Lib.cell_of_heap HZ2.out 2
          have z3 : w2.cell? ⟨w.heap.size + 2, 3, none⟩ = some (.int .i64 0) := Lib.cell_of_heap HZ2.out 3
          have z4 : w2.cell? ⟨w.heap.size + 2, 4, none⟩ = some (.int .i64 0) := Lib.cell_of_heap HZ2.out 4
          have z5 : w2.cell? ⟨w.heap.size + 2, 5, none⟩ = some (.slice none 0 0) := Lib.cell_of_heap HZ2.out 5
          have z6 : w2.cell? ⟨w.heap.size + 2, 6, none⟩ = some (.slice none 0 0) := Lib.cell_of_heap HZ2.out 6
          have zf := Lib.frozen_of_heap HZ2.out
          have HBF : Hid (Below w.heap.size w (put7 w2 (w.heap.size + 2) 0 (⟨xk, xn, xt, xo, xa⟩, .slice a1 kn c1, .slice a2 tn c2))) := put7_below HB2.out _ _ _ (by omega)
          have HHF : Hid ((put7 w2 (w.heap.size + 2) 0 (⟨xk, xn, xt, xo, xa⟩, .slice a1 kn c1, .slice a2 tn c2)).heap[w.heap.size + 2]? = some _) := set7 HZ2.out (.int .i64 xk) (.int .i64 xn) (.string xt) (.int .i64 xo) (.int .i64 xa) (.slice a1 kn c1) (.slice a2 tn c2)
          have HIF : Hid (IsTP (fun b => P b ∨ w.heap.size + 4 ≤ b) (put7 w2 (w.heap.size + 2) 0 (⟨xk, xn, xt, xo, xa⟩, .slice a1 kn c1, .slice a2 tn c2)) (tval (⟨xk, xn, xt, xo, xa⟩, .slice a1 kn c1, .slice a2 tn c2)) T) := HTT.out _ (put7_below HB2.out _ _ _ (by omega))
          go_wp2
          clear z0 z1 z2 z3 z4 z5 z6 zf
          dsimp only [put7, Nat.zero_add] at HBF HHF HIF
          generalize ((((((w2.setCell ⟨w.heap.size + 2, 0, none⟩ (.int .i64 xk)).setCell ⟨w.heap.size + 2, 1, none⟩ (.int .i64 xn)).setCell ⟨w.heap.size + 2, 2, none⟩ (.string xt)).setCell ⟨w.heap.size + 2, 3, none⟩ (.int .i64 xo)).setCell ⟨w.heap.size + 2, 4, none⟩ (.int .i64 xa)).setCell ⟨w.heap.size + 2, 5, none⟩ (.slice a1 kn c1)).setCell ⟨w.heap.size + 2, 6, none⟩ (.slice a2 tn c2) = VV at *
          obtain ⟨q0, q1, q2, q3, q4, q5, q6⟩ := tboxed (u := (⟨xk, xn, xt, xo, xa⟩, .slice a1 kn c1, .slice a2 tn c2)) HHF.out
          dsimp only at q0 q1 q2 q3 q4 q5 q6
          refine bodyPost_ret (v := .tuple #[tval (⟨xk, xn, xt, xo, xa⟩, .slice a1 kn c1, .slice a2 tn c2), .bool false]) (by simp [tval, results, Tryd.results9, go_sem, q0, q1, q2, q3, q4, q5, q6]) rfl ?_
          rw [HPO.out]
          refine ⟨⟨_, _, false, rfl, HIF.out, ?_, ?_⟩, HBF.out⟩
          · exact (fun h => by cases h)
          · exact (fun _ T' h => by
              rw [UpdK] at h
              rcases h with ⟨h, _⟩ | ⟨h, _⟩ | ⟨_, h, _⟩
              · exact absurd h (by decide)
              · exact absurd h (by decide)
              · rw [HAT.out] at h; simp at h
                exact absurd h.2 (by have := HN9.out; omega))
      · have HN9 : Hid (¬ 0 ≤ si) := h0
        have p0 : w2.cell? ⟨w.heap.size + 1, 0, none⟩ = some (.int .i64 3) := Lib.cell_of_heap HP2.out 0
        have s0 : w2.cell? ⟨w.heap.size + 3, 0, none⟩ = some (.string sb) := Lib.cell_of_heap HS2.out 0
        have s1 : w2.cell? ⟨w.heap.size + 3, 1, none⟩ = some (.int .i64 si) := Lib.cell_of_heap HS2.out 1
        have t0 : w2.cell? ⟨w.heap.size, 0, none⟩ = some (.int .i64 xk) := Lib.cell_of_heap HX2.out 0
        have t1 : w2.cell? ⟨w.heap.size, 1, none⟩ = some (.int .i64 xn) := Lib.cell_of_heap HX2.out 1
        have t2 : w2.cell? ⟨w.heap.size, 2, none⟩ = some (.string xt) := Lib.cell_of_heap HX2.out 2
        have t3 : w2.cell? ⟨w.heap.size, 3, none⟩ = some (.int .i64 xo) := Lib.cell_of_heap HX2.out 3
        have t4 : w2.cell? ⟨w.heap.size, 4, none⟩ = some (.int .i64 xa) := Lib.cell_of_heap HX2.out 4
        have t5 : w2.cell? ⟨w.heap.size, 5, none⟩ = some (.slice a1 kn c1) := Lib.cell_of_heap HX2.out 5
        have t6 : w2.cell? ⟨w.heap.size, 6, none⟩ = some (.slice a2 tn c2) := Lib.cell_of_heap HX2.out 6
        have z0 : w2.cell? ⟨w.heap.size + 2, 0, none⟩ = some (.int .i64 0) := Lib.cell_of_heap HZ2.out 0
        have z1 : w2.cell? ⟨w.heap.size + 2, 1, none⟩ = some (.int .i64 0) := Lib.cell_of_heap HZ2.out 1
        have z2 : w2.cell? ⟨w.heap.size + 2, 2, none⟩ = some (.string ⟨#[]⟩) := Lib.cell_of_heap HZ2.out 2
        have z3 : w2.cell? ⟨w.heap.size + 2, 3, none⟩ = some (.int .i64 0) := Lib.cell_of_heap HZ2.out 3
        have z4 : w2.cell? ⟨w.heap.size + 2, 4, none⟩ = some (.int .i64 0) := Lib.cell_of_heap HZ2.out 4
        have z5 : w2.cell? ⟨w.heap.size + 2, 5, none⟩ = some (.slice none 0 0) := Lib.cell_of_heap HZ2.out 5
        have z6 : w2.cell? ⟨w.heap.size + 2, 6, none⟩ = some (.slice none 0 0) := Lib.cell_of_heap HZ2.out 6
        have zf := Lib.frozen_of_heap HZ2.out
        have HBF : Hid (Below w.heap.size w (put7 w2 (w.heap.size + 2) 0 (⟨xk, xn, xt, xo, xa⟩, .slice a1 kn c1, .slice a2 tn c2))) := put7_below HB2.out _ _ _ (by omega)
        have HHF : Hid ((put7 w2 (w.heap.size + 2) 0 (⟨xk, xn, xt, xo, xa⟩, .slice a1 kn c1, .slice a2 tn c2)).heap[w.heap.size + 2]? = some _) := set7 HZ2.out (.int .i64 xk) (.int .i64 xn) (.string xt) (.int .i64 xo) (.int .i64 xa) (.slice a1 kn c1) (.slice a2 tn c2)
        have HIF : Hid (IsTP (fun b => P b ∨ w.heap.size + 4 ≤ b) (put7 w2 (w.heap.size + 2) 0 (⟨xk, xn, xt, xo, xa⟩, .slice a1 kn c1, .slice a2 tn c2)) (tval (⟨xk, xn, xt, xo, xa⟩, .slice a1 kn c1, .slice a2 tn c2)) T) := HTT.out _ (put7_below HB2.out _ _ _ (by omega))
        go_wp2
        clear z0 z1 z2 z3 z4 z5 z6 zf
        dsimp only [put7, Nat.zero_add] at HBF HHF HIF
        generalize ((((((w2.setCell ⟨w.heap.size + 2, 0, none⟩ (.int .i64 xk)).setCell ⟨w.heap.size + 2, 1, none⟩ (.int .i64 xn)).setCell ⟨w.heap.size + 2, 2, none⟩ (.string xt)).setCell ⟨w.heap.size + 2, 3, none⟩ (.int .i64 xo)).setCell ⟨w.heap.size + 2, 4, none⟩ (.int .i64 xa)).setCell ⟨w.heap.size + 2, 5, none⟩ (.slice a1 kn c1)).setCell ⟨w.heap.size + 2, 6, none⟩ (.slice a2 tn c2) = VV at *
        obtain ⟨q0, q1, q2, q3, q4, q5, q6⟩ := tboxed (u := (⟨xk, xn, xt, xo, xa⟩, .slice a1 kn c1, .slice a2 tn c2)) HHF.out
        dsimp only at q0 q1 q2 q3 q4 q5 q6
        refine bodyPost_ret (v := .tuple #[tval (⟨xk, xn, xt, xo, xa⟩, .slice a1 kn c1, .slice a2 tn c2), .bool false]) (by simp [tval, results, Tryd.results9, go_sem, q0, q1, q2, q3, q4, q5, q6]) rfl ?_
        rw [HPO.out]
        refine ⟨⟨_, _, false, rfl, HIF.out, ?_, ?_⟩, HBF.out⟩
        · exact (fun h => by cases h)
        · exact (fun _ T' h => by
            rw [UpdK] at h
            rcases h with ⟨h, _⟩ | ⟨h, _⟩ | ⟨_, h, _⟩
            · exact absurd h (by decide)
            · exact absurd h (by decide)
            · rw [HAT.out] at h; simp at h
              exact absurd h.1 (by have := HN9.out; omega))
  · have h6' : (xk == 6) = false := by simpa using h6
    have HN9 : Hid (¬ xk = 6) := h6
    clear h6
    have p0 : w2.cell? ⟨w.heap.size + 1, 0, none⟩ = some (.int .i64 3) := Lib.cell_of_heap HP2.out 0
    have s0 : w2.cell? ⟨w.heap.size + 3, 0, none⟩ = some (.string sb) := Lib.cell_of_heap HS2.out 0
    have s1 : w2.cell? ⟨w.heap.size + 3, 1, none⟩ = some (.int .i64 si) := Lib.cell_of_heap HS2.out 1
    have t0 : w2.cell? ⟨w.heap.size, 0, none⟩ = some (.int .i64 xk) := Lib.cell_of_heap HX2.out 0
    have t1 : w2.cell? ⟨w.heap.size, 1, none⟩ = some (.int .i64 xn) := Lib.cell_of_heap HX2.out 1
    have t2 : w2.cell? ⟨w.heap.size, 2, none⟩ = some (.string xt) := Lib.cell_of_heap HX2.out 2
    have t3 : w2.cell? ⟨w.heap.size, 3, none⟩ = some (.int .i64 xo) := Lib.cell_of_heap HX2.out 3
    have t4 : w2.cell? ⟨w.heap.size, 4, none⟩ = some (.int .i64 xa) := Lib.cell_of_heap HX2.out 4
    have t5 : w2.cell? ⟨w.heap.size, 5, none⟩ = some (.slice a1 kn c1) := Lib.cell_of_heap HX2.out 5
    have t6 : w2.cell? ⟨w.heap.size, 6, none⟩ = some (.slice a2 tn c2) := Lib.cell_of_heap HX2.out 6
    have z0 : w2.cell? ⟨w.heap.size + 2, 0, none⟩ = some (.int .i64 0) := Lib.cell_of_heap HZ2.out 0
    have z1 : w2.cell? ⟨w.heap.size + 2, 1, none⟩ = some (.int .i64 0) := Lib.cell_of_heap HZ2.out 1
    have z2 : w2.cell? ⟨w.heap.size + 2, 2, none⟩ = some (.string ⟨#[]⟩) := Lib.cell_of_heap HZ2.out 2
    have z3 : w2.cell? ⟨w.heap.size + 2, 3, none⟩ = some (.int .i64 0) := Lib.cell_of_heap HZ2.out 3
    have z4 : w2.cell? ⟨w.heap.size + 2, 4, none⟩ = some (.int .i64 0) := Lib.cell_of_heap HZ2.out 4
    have z5 : w2.cell? ⟨w.heap.size + 2, 5, none⟩ = some (.slice none 0 0) := Lib.cell_of_heap HZ2.out 5
    have z6 : w2.cell? ⟨w.heap.size + 2, 6, none⟩ = some (.slice none 0 0) := Lib.cell_of_heap HZ2.out 6
    have zf := Lib.frozen_of_heap HZ2.out
    have HBF : Hid (Below w.heap.size w (put7 w2 (w.heap.size + 2) 0 (⟨xk, xn, xt, xo, xa⟩, .slice a1 kn c1, .slice a2 tn c2))) := put7_below HB2.out _ _ _ (by omega)
    have HHF : Hid ((put7 w2 (w.heap.size + 2) 0 (⟨xk, xn, xt, xo, xa⟩, .slice a1 kn c1, .slice a2 tn c2)).heap[w.heap.size + 2]? = some _) := set7 HZ2.out (.int .i64 xk) (.int .i64 xn) (.string xt) (.int .i64 xo) (.int .i64 xa) (.slice a1 kn c1) (.slice a2 tn c2)
    have HIF : Hid (IsTP (fun b => P b ∨ w.heap.size + 4 ≤ b) (put7 w2 (w.heap.size + 2) 0 (⟨xk, xn, xt, xo, xa⟩, .slice a1 kn c1, .slice a2 tn c2)) (tval (⟨xk, xn, xt, xo, xa⟩, .slice a1 kn c1, .slice a2 tn c2)) T) := HTT.out _ (put7_below HB2.out _ _ _ (by omega))
    go_wp2
    clear z0 z1 z2 z3 z4 z5 z6 zf
    dsimp only [put7, Nat.zero_add] at HBF HHF HIF
    generalize ((((((w2.setCell ⟨w.heap.size + 2, 0, none⟩ (.int .i64 xk)).setCell ⟨w.heap.size + 2, 1, none⟩ (.int .i64 xn)).setCell ⟨w.heap.size + 2, 2, none⟩ (.string xt)).setCell ⟨w.heap.size + 2, 3, none⟩ (.int .i64 xo)).setCell ⟨w.heap.size + 2, 4, none⟩ (.int .i64 xa)).setCell ⟨w.heap.size + 2, 5, none⟩ (.slice a1 kn c1)).setCell ⟨w.heap.size + 2, 6, none⟩ (.slice a2 tn c2) = VV at *
    obtain ⟨q0, q1, q2, q3, q4, q5, q6⟩ := tboxed (u := (⟨xk, xn, xt, xo, xa⟩, .slice a1 kn c1, .slice a2 tn c2)) HHF.out
    dsimp only at q0 q1 q2 q3 q4 q5 q6
    refine bodyPost_ret (v := .tuple #[tval (⟨xk, xn, xt, xo, xa⟩, .slice a1 kn c1, .slice a2 tn c2), .bool false]) (by simp [tval, results, Tryd.results9, go_sem, q0, q1, q2, q3, q4, q5, q6]) rfl ?_
    rw [HPO.out]
    refine ⟨⟨_, _, false, rfl, HIF.out, ?_, ?_⟩, HBF.out⟩
    · exact (fun h => by cases h)
    · exact (fun _ T' h => by
        rw [UpdK] at h
        rcases h with ⟨h, _⟩ | ⟨h, _⟩ | ⟨_, h, _⟩
        · exact absurd h (by decide)
        · exact absurd h (by decide)
        · rw [HAT.out] at h; simp at h
          exact HN9.out h.1)

set_option maxRecDepth 100000 in
set_option maxHeartbeats 8000000 in
theorem pat_1 {P : Nat → Prop} {v p pp : Value} {T : JT} {s : Stp} (y : V) (w : World) (hP : ∀ b, P b → b < w.heap.size) (hT : IsTP P w v T) (hf : formedB T = true) (hsz : T.size ≤ 400) (hp : IsSteps w p ([s])) (hpp : ∃ a n c, pp = .slice a n c) :
    Calls Tryd.prog 9 #[v, pchK 1 pp y, p] w fun e w' => PatP P w 1 T ([s]) y e w' ∧ Below w.heap.size w w' := by
  obtain ⟨qa, qn, qc, rfl⟩ := hpp
  have HPP : Hid (∀ b, P b → b < w.heap.size) := hP
  obtain ⟨eT, uk, a2, c2, us, rfl, nk0, nl, nc, nz, nr0, ni⟩ := hT.inv
  have nr := nr0.row
  have nk := nk0.strs
  obtain ⟨a1, c1, rfl, -, -, -⟩ := id nk
  clear eT nk0 nr0
  have HT : Hid (IsTP P w (tval (T.x, .slice a1 T.ks.length c1, .slice a2 T.ts.length c2)) T ∧ formedB T = true ∧ T.size ≤ 400) := ⟨hT, hf, hsz⟩
  have HROW : Hid (us.length = T.ts.length ∧ T.ts.length ≤ c2 ∧ RowT w a2 us ∧ (∀ i (h : i < us.length) (h' : i < T.ts.length), IsTP P w (tval us[i]) T.ts[i]) ∧ IsStrs w (.slice a1 T.ks.length c1) T.ks) := ⟨nl, nc.1, nr, ni, nk⟩
  obtain ⟨pa, pc, rfl, hp1, hp2, hp3⟩ := id hp
  obtain ⟨pb, po, rfl, hpb, hpm⟩ := hp3 (by simp)
  have HPA : Hid (IsSteps w (.slice (some ⟨pb, po, none⟩) ([s]).length pc) ([s])) := hp
  have hp0 := hpm 0 (by simp)
  simp only [Nat.zero_mul, Nat.add_zero, List.getElem_cons_zero] at hp0
  obtain ⟨post, hpost⟩ : ∃ post, post = fun (e : Ending) (w' : World) => PatP P w 1 T ([s]) y e w' ∧ Below w.heap.size w w' := ⟨_, rfl⟩
  rw [← hpost]
  have HPO : Hid (post = fun (e : Ending) (w' : World) => PatP P w 1 T ([s]) y e w' ∧ Below w.heap.size w w') := hpost
  clear hpost
  obtain ⟨tn, htn⟩ : ∃ tn, tn = T.ts.length := ⟨_, rfl⟩
  obtain ⟨kn, hkn⟩ : ∃ kn, kn = T.ks.length := ⟨_, rfl⟩
  have HN : Hid (tn = T.ts.length ∧ kn = T.ks.length) := ⟨htn, hkn⟩
  obtain ⟨q, hq⟩ : ∃ q, kidOf T.x T.ks T.ts.length s = q := ⟨_, rfl⟩
  have HQ : Hid (kidOf T.x T.ks T.ts.length s = q) := hq
  obtain ⟨xx, hxx⟩ : ∃ xx, xx = T.x := ⟨_, rfl⟩
  have HXX : Hid (xx = T.x) := hxx
  have HYY : Hid (∃ y', y' = y) := ⟨y, rfl⟩
  obtain ⟨y', hy'⟩ := HYY.out
  clear HYY
  rw [← hy'] at HPO
  have HY : Hid (y' = y) := hy'
  clear hy'
  obtain ⟨ss, hss⟩ : ∃ ss, ss = s := ⟨_, rfl⟩
  have HSS : Hid (ss = s) := hss
  rw [← hss] at hp0
  obtain ⟨xk, xn, xt, xo, xa⟩ := xx
  obtain ⟨yk, yn, yt, yo, ya⟩ := y
  obtain ⟨sb, si⟩ := ss
  obtain ⟨X4, P4, Z4, S4, b4, b3⟩ := four_boxes w (.cells #[.int .i64 xk, .int .i64 xn, .string xt, .int .i64 xo, .int .i64 xa, .slice a1 kn c1, .slice a2 tn c2] 29) (.cells #[.int .i64 1, .slice qa qn qc, .int .i64 yk, .int .i64 yn, .string yt, .int .i64 yo, .int .i64 ya] 43) (.cells #[.int .i64 0, .int .i64 0, .string ⟨#[]⟩, .int .i64 0, .int .i64 0, .slice none 0 0, .slice none 0 0] 29) (.cells #[.string sb, .int .i64 si] 45)
  have E1 := index_any T.x T.ks a1 a2 c1 T.ts.length c2 s ((((w.alloc (.cells #[.int .i64 xk, .int .i64 xn, .string xt, .int .i64 xo, .int .i64 xa, .slice a1 kn c1, .slice a2 tn c2] 29)).alloc (.cells #[.int .i64 1, .slice qa qn qc, .int .i64 yk, .int .i64 yn, .string yt, .int .i64 yo, .int .i64 ya] 43)).alloc (.cells #[.int .i64 0, .int .i64 0, .string ⟨#[]⟩, .int .i64 0, .int .i64 0, .slice none 0 0, .slice none 0 0] 29)).alloc (.cells #[.string sb, .int .i64 si] 45)) (nk.below b4)
  rw [hq, ← htn, ← hkn, ← hxx, ← hss] at E1
  rw [← htn, ← hkn, ← hxx]
  have HTT : Hid (∀ W, Below w.heap.size w W → IsTP (fun b => P b ∨ w.heap.size + 4 ≤ b) W (tval (⟨xk, xn, xt, xo, xa⟩, .slice a1 kn c1, .slice a2 tn c2)) T) := by
    intro W hW
    have h9 : IsTP (fun b => P b ∨ w.heap.size + 4 ≤ b) W _ T := hT.move hW.size (fun b _ h2 => hW.block b h2) (fun _ h => Or.inl h)
    rw [← htn, ← hkn, ← hxx] at h9
    exact h9
  have HTP : Hid (∀ W, Below w.heap.size w W → IsTP P W (tval (⟨xk, xn, xt, xo, xa⟩, .slice a1 kn c1, .slice a2 tn c2)) T) := by
    intro W hW
    have h9 : IsTP P W _ T := hT.move hW.size (fun b _ h2 => hW.block b h2) (fun _ h => h)
    rw [← htn, ← hkn, ← hxx] at h9
    exact h9
  have e0 : (((w.alloc (.cells #[.int .i64 xk, .int .i64 xn, .string xt, .int .i64 xo, .int .i64 xa, .slice a1 kn c1, .slice a2 tn c2] 29)).alloc (.cells #[.int .i64 1, .slice qa qn qc, .int .i64 yk, .int .i64 yn, .string yt, .int .i64 yo, .int .i64 ya] 43)).alloc (.cells #[.int .i64 0, .int .i64 0, .string ⟨#[]⟩, .int .i64 0, .int .i64 0, .slice none 0 0, .slice none 0 0] 29)).cell? ⟨pb, po, none⟩ = some (.string sb) := (b3.cell (p := ⟨pb, po, none⟩) hpb).trans hp0.1
  have e1 : (((w.alloc (.cells #[.int .i64 xk, .int .i64 xn, .string xt, .int .i64 xo, .int .i64 xa, .slice a1 kn c1, .slice a2 tn c2] 29)).alloc (.cells #[.int .i64 1, .slice qa qn qc, .int .i64 yk, .int .i64 yn, .string yt, .int .i64 yo, .int .i64 ya] 43)).alloc (.cells #[.int .i64 0, .int .i64 0, .string ⟨#[]⟩, .int .i64 0, .int .i64 0, .slice none 0 0, .slice none 0 0] 29)).cell? ⟨pb, po + 1, none⟩ = some (.int .i64 si) := (b3.cell (p := ⟨pb, po + 1, none⟩) hpb).trans hp0.2
  have HX : Hid (_ = some _) := X4
  have HP : Hid (_ = some _) := P4
  have HZ : Hid (_ = some _) := Z4
  have HS : Hid (_ = some _) := S4
  have HB : Hid (Below w.heap.size w _) := b4
  have hln : ([s] : List Stp).length = 1 := rfl
  rw [hln]
  clear hln
  clear hP hT hf hsz nk nl nc nz nr ni hp hp1 hp2 hp3 hpm hp0 htn hkn hq hxx hss X4 P4 Z4 S4 b4 b3 hpb
  unfold tval at E1 ⊢
  dsimp only [pchK, stpV] at E1 ⊢
  go_enter Tryd.func9, Tryd.ntmps9
  go_wp2_with fail
  go_fit E1
  rintro e w1 ⟨rfl, b1⟩
  have HX1 : Hid (w1.heap[w.heap.size]? = some (.cells #[.int .i64 xk, .int .i64 xn, .string xt, .int .i64 xo, .int .i64 xa, .slice a1 kn c1, .slice a2 tn c2] 29)) := (b1.block _ (lt_of_heap HX.out)).trans HX.out
  have HP1 : Hid (w1.heap[w.heap.size + 1]? = some (.cells #[.int .i64 1, .slice qa qn qc, .int .i64 yk, .int .i64 yn, .string yt, .int .i64 yo, .int .i64 ya] 43)) := (b1.block _ (lt_of_heap HP.out)).trans HP.out
  have HZ1 : Hid (w1.heap[w.heap.size + 2]? = some (.cells #[.int .i64 0, .int .i64 0, .string ⟨#[]⟩, .int .i64 0, .int .i64 0, .slice none 0 0, .slice none 0 0] 29)) := (b1.block _ (lt_of_heap HZ.out)).trans HZ.out
  have HS1 : Hid (w1.heap[w.heap.size + 3]? = some (.cells #[.string sb, .int .i64 si] 45)) := (b1.block _ (lt_of_heap HS.out)).trans HS.out
  have HB1 : Hid (Below w.heap.size w w1) := HB.out.trans (b1.mono HB.out.size)
  clear b1 E1 HX HP HZ HS HB e0 e1
  cases q with
  | some i =>
    have hi1 : idxI (some i) = (i : Int) := rfl
    rw [hi1]
    clear hi1
    have c2w := (Below.refl w1.heap.size w1).alloc (Nat.le_refl _) (.cells #[.int .i64 yk, .int .i64 yn, .string yt, .int .i64 yo, .int .i64 ya, .slice none 0 0, .slice none 0 0] 29)
    have HX2 : Hid ((w1.alloc (.cells #[.int .i64 yk, .int .i64 yn, .string yt, .int .i64 yo, .int .i64 ya, .slice none 0 0, .slice none 0 0] 29)).heap[w.heap.size]? = some _) := (c2w.block _ (lt_of_heap HX1.out)).trans HX1.out
    have HP2 : Hid ((w1.alloc (.cells #[.int .i64 yk, .int .i64 yn, .string yt, .int .i64 yo, .int .i64 ya, .slice none 0 0, .slice none 0 0] 29)).heap[w.heap.size + 1]? = some _) := (c2w.block _ (lt_of_heap HP1.out)).trans HP1.out
    have HZ2 : Hid ((w1.alloc (.cells #[.int .i64 yk, .int .i64 yn, .string yt, .int .i64 yo, .int .i64 ya, .slice none 0 0, .slice none 0 0] 29)).heap[w.heap.size + 2]? = some _) := (c2w.block _ (lt_of_heap HZ1.out)).trans HZ1.out
    have HS2 : Hid ((w1.alloc (.cells #[.int .i64 yk, .int .i64 yn, .string yt, .int .i64 yo, .int .i64 ya, .slice none 0 0, .slice none 0 0] 29)).heap[w.heap.size + 3]? = some _) := (c2w.block _ (lt_of_heap HS1.out)).trans HS1.out
    have HL2 : Hid ((w1.alloc (.cells #[.int .i64 yk, .int .i64 yn, .string yt, .int .i64 yo, .int .i64 ya, .slice none 0 0, .slice none 0 0] 29)).heap[w1.heap.size]? = some (.cells #[.int .i64 yk, .int .i64 yn, .string yt, .int .i64 yo, .int .i64 ya, .slice none 0 0, .slice none 0 0] 29)) := (MapKept.heap_alloc w1 _).1
    have HB2 : Hid (Below w.heap.size w (w1.alloc (.cells #[.int .i64 yk, .int .i64 yn, .string yt, .int .i64 yo, .int .i64 ya, .slice none 0 0, .slice none 0 0] 29))) := HB1.out.trans (c2w.mono HB1.out.size)
    clear c2w
    have p2 : w1.cell? ⟨w.heap.size + 1, 2, none⟩ = some (.int .i64 yk) := Lib.cell_of_heap HP1.out 2
    have p3 : w1.cell? ⟨w.heap.size + 1, 3, none⟩ = some (.int .i64 yn) := Lib.cell_of_heap HP1.out 3
    have p4 : w1.cell? ⟨w.heap.size + 1, 4, none⟩ = some (.string yt) := Lib.cell_of_heap HP1.out 4
    have p5 : w1.cell? ⟨w.heap.size + 1, 5, none⟩ = some (.int .i64 yo) := Lib.cell_of_heap HP1.out 5
    have p6 : w1.cell? ⟨w.heap.size + 1, 6, none⟩ = some (.int .i64 ya) := Lib.cell_of_heap HP1.out 6
    go_upto_region 11 with fail
    clear p2 p3 p4 p5 p6 HX1 HP1 HZ1 HS1 HB1
    generalize w1.alloc (.cells #[.int .i64 yk, .int .i64 yn, .string yt, .int .i64 yo, .int .i64 ya, .slice none 0 0, .slice none 0 0] 29) = w2 at *
    obtain ⟨lb, HLB⟩ : ∃ lb, Hid (w1.heap.size = lb) := ⟨_, rfl⟩
    rw [HLB.out] at HL2 ⊢
    clear HLB
    have p0 : w2.cell? ⟨w.heap.size + 1, 0, none⟩ = some (.int .i64 1) := Lib.cell_of_heap HP2.out 0
    have t0 : w2.cell? ⟨w.heap.size, 0, none⟩ = some (.int .i64 xk) := Lib.cell_of_heap HX2.out 0
    have t1 : w2.cell? ⟨w.heap.size, 1, none⟩ = some (.int .i64 xn) := Lib.cell_of_heap HX2.out 1
    have t2 : w2.cell? ⟨w.heap.size, 2, none⟩ = some (.string xt) := Lib.cell_of_heap HX2.out 2
    have t3 : w2.cell? ⟨w.heap.size, 3, none⟩ = some (.int .i64 xo) := Lib.cell_of_heap HX2.out 3
    have t4 : w2.cell? ⟨w.heap.size, 4, none⟩ = some (.int .i64 xa) := Lib.cell_of_heap HX2.out 4
    have t5 : w2.cell? ⟨w.heap.size, 5, none⟩ = some (.slice a1 kn c1) := Lib.cell_of_heap HX2.out 5
    have t6 : w2.cell? ⟨w.heap.size, 6, none⟩ = some (.slice a2 tn c2) := Lib.cell_of_heap HX2.out 6
    have l0 : w2.cell? ⟨lb, 0, none⟩ = some (.int .i64 yk) := Lib.cell_of_heap HL2.out 0
    have l1 : w2.cell? ⟨lb, 1, none⟩ = some (.int .i64 yn) := Lib.cell_of_heap HL2.out 1
    have l2 : w2.cell? ⟨lb, 2, none⟩ = some (.string yt) := Lib.cell_of_heap HL2.out 2
    have l3 : w2.cell? ⟨lb, 3, none⟩ = some (.int .i64 yo) := Lib.cell_of_heap HL2.out 3
    have l4 : w2.cell? ⟨lb, 4, none⟩ = some (.int .i64 ya) := Lib.cell_of_heap HL2.out 4
    have l5 : w2.cell? ⟨lb, 5, none⟩ = some (.slice none 0 0) := Lib.cell_of_heap HL2.out 5
    have l6 : w2.cell? ⟨lb, 6, none⟩ = some (.slice none 0 0) := Lib.cell_of_heap HL2.out 6
    have s0 : w2.cell? ⟨w.heap.size + 3, 0, none⟩ = some (.string sb) := Lib.cell_of_heap HS2.out 0
    have s1 : w2.cell? ⟨w.heap.size + 3, 1, none⟩ = some (.int .i64 si) := Lib.cell_of_heap HS2.out 1
    have EP := putKid_any (P := P) (s := s) (X := leafT ⟨yk, yn, yt, yo, ya⟩) w2 (HTP.out w2 HB2.out) (leafP P w2 ⟨yk, yn, yt, yo, ya⟩) HT.out.2.1 HT.out.2.2 HQ.out
    rw [← HSS.out] at EP
    unfold tval at EP
    dsimp only [leafV] at EP
    go_wp2_with fail
    go_fit EP
    rintro e w9 hput
    clear EP t0 t1 t2 t3 t4 t5 t6 l0 l1 l2 l3 l4 l5 l6 s0 s1
    obtain ⟨u9, rfl, hI9, b9⟩ := hput
    obtain ⟨⟨rk, rn, rt, ro, ra⟩, r1, s1, t1, r2, s2, t2, hu9⟩ := hI9.plain.parts
    subst hu9
    have HZ9 : Hid (w9.heap[w.heap.size + 2]? = some (.cells #[.int .i64 0, .int .i64 0, .string ⟨#[]⟩, .int .i64 0, .int .i64 0, .slice none 0 0, .slice none 0 0] 29)) := (b9.block _ (lt_of_heap HZ2.out)).trans HZ2.out
    have HB9 : Hid (Below w.heap.size w w9) := HB2.out.trans (b9.mono HB2.out.size)
    have HI9 : Hid (IsTP _ w9 (tval (⟨rk, rn, rt, ro, ra⟩, .slice r1 s1 t1, .slice r2 s2 t2)) _) := hI9
    clear hI9 b9
    dsimp only [tval]
    have z0 : w9.cell? ⟨w.heap.size + 2, 0, none⟩ = some (.int .i64 0) := Lib.cell_of_heap HZ9.out 0
    have z1 : w9.cell? ⟨w.heap.size + 2, 1, none⟩ = some (.int .i64 0) := Lib.cell_of_heap HZ9.out 1
    have z2 : w9.cell? ⟨w.heap.size + 2, 2, none⟩ = some (.string ⟨#[]⟩) := Lib.cell_of_heap HZ9.out 2
    have z3 : w9.cell? ⟨w.heap.size + 2, 3, none⟩ = some (.int .i64 0) := Lib.cell_of_heap HZ9.out 3
    have z4 : w9.cell? ⟨w.heap.size + 2, 4, none⟩ = some (.int .i64 0) := Lib.cell_of_heap HZ9.out 4
    have z5 : w9.cell? ⟨w.heap.size + 2, 5, none⟩ = some (.slice none 0 0) := Lib.cell_of_heap HZ9.out 5
    have z6 : w9.cell? ⟨w.heap.size + 2, 6, none⟩ = some (.slice none 0 0) := Lib.cell_of_heap HZ9.out 6
    have zf := Lib.frozen_of_heap HZ9.out
    have HBF : Hid (Below w.heap.size w (put7 w9 (w.heap.size + 2) 0 (⟨rk, rn, rt, ro, ra⟩, .slice r1 s1 t1, .slice r2 s2 t2))) := put7_below HB9.out _ _ _ (by omega)
    have HHF : Hid ((put7 w9 (w.heap.size + 2) 0 (⟨rk, rn, rt, ro, ra⟩, .slice r1 s1 t1, .slice r2 s2 t2)).heap[w.heap.size + 2]? = some _) := set7 HZ9.out (.int .i64 rk) (.int .i64 rn) (.string rt) (.int .i64 ro) (.int .i64 ra) (.slice r1 s1 t1) (.slice r2 s2 t2)
    have HIF : Hid (IsTP (fun b => P b ∨ w.heap.size + 4 ≤ b) (put7 w9 (w.heap.size + 2) 0 (⟨rk, rn, rt, ro, ra⟩, .slice r1 s1 t1, .slice r2 s2 t2)) (tval (⟨rk, rn, rt, ro, ra⟩, .slice r1 s1 t1, .slice r2 s2 t2)) _) := fresh_put HI9.out (fun _ h => Or.inl h) (by have := lt_of_heap HS2.out; omega) HPP.out
    go_wp2
    clear z0 z1 z2 z3 z4 z5 z6 zf
    dsimp only [put7, Nat.zero_add] at HBF HHF HIF
    generalize ((((((w9.setCell ⟨w.heap.size + 2, 0, none⟩ (.int .i64 rk)).setCell ⟨w.heap.size + 2, 1, none⟩ (.int .i64 rn)).setCell ⟨w.heap.size + 2, 2, none⟩ (.string rt)).setCell ⟨w.heap.size + 2, 3, none⟩ (.int .i64 ro)).setCell ⟨w.heap.size + 2, 4, none⟩ (.int .i64 ra)).setCell ⟨w.heap.size + 2, 5, none⟩ (.slice r1 s1 t1)).setCell ⟨w.heap.size + 2, 6, none⟩ (.slice r2 s2 t2) = VV at *
    obtain ⟨q0, q1, q2, q3, q4, q5, q6⟩ := tboxed (u := (⟨rk, rn, rt, ro, ra⟩, .slice r1 s1 t1, .slice r2 s2 t2)) HHF.out
    dsimp only at q0 q1 q2 q3 q4 q5 q6
    refine bodyPost_ret (v := .tuple #[tval (⟨rk, rn, rt, ro, ra⟩, .slice r1 s1 t1, .slice r2 s2 t2), .bool true]) (by simp [tval, results, Tryd.results9, go_sem, q0, q1, q2, q3, q4, q5, q6]) rfl ?_
    rw [HPO.out]
    refine ⟨⟨_, _, true, rfl, HIF.out, ?_, ?_⟩, HBF.out⟩
    · exact (fun _ => by
        rw [UpdK]
        exact Or.inl ⟨rfl, Or.inl ⟨i, HQ.out, kidOf_lt HQ.out (fun h5 => ((nodeB_map h5).1 ((formed_iff T).1 HT.out.2.1).1).2.1), by rw [HY.out]⟩⟩)
    · exact (fun h => by cases h)
  | none =>
    have hi1 : idxI none = -1 := rfl
    rw [hi1]
    clear hi1
    have HKY : Hid (keyStep T.x s = (decide (xk = 5) && (!sb.toList.isEmpty && decide (si = 0)))) := by
      show _ = _
      rw [← HXX.out, ← HSS.out]
      rfl
    have c2w := (Below.refl w1.heap.size w1).alloc (Nat.le_refl _) (.cells #[.int .i64 yk, .int .i64 yn, .string yt, .int .i64 yo, .int .i64 ya, .slice none 0 0, .slice none 0 0] 29)
    have HX2 : Hid ((w1.alloc (.cells #[.int .i64 yk, .int .i64 yn, .string yt, .int .i64 yo, .int .i64 ya, .slice none 0 0, .slice none 0 0] 29)).heap[w.heap.size]? = some _) := (c2w.block _ (lt_of_heap HX1.out)).trans HX1.out
    have HP2 : Hid ((w1.alloc (.cells #[.int .i64 yk, .int .i64 yn, .string yt, .int .i64 yo, .int .i64 ya, .slice none 0 0, .slice none 0 0] 29)).heap[w.heap.size + 1]? = some _) := (c2w.block _ (lt_of_heap HP1.out)).trans HP1.out
    have HZ2 : Hid ((w1.alloc (.cells #[.int .i64 yk, .int .i64 yn, .string yt, .int .i64 yo, .int .i64 ya, .slice none 0 0, .slice none 0 0] 29)).heap[w.heap.size + 2]? = some _) := (c2w.block _ (lt_of_heap HZ1.out)).trans HZ1.out
    have HS2 : Hid ((w1.alloc (.cells #[.int .i64 yk, .int .i64 yn, .string yt, .int .i64 yo, .int .i64 ya, .slice none 0 0, .slice none 0 0] 29)).heap[w.heap.size + 3]? = some _) := (c2w.block _ (lt_of_heap HS1.out)).trans HS1.out
    have HL2 : Hid ((w1.alloc (.cells #[.int .i64 yk, .int .i64 yn, .string yt, .int .i64 yo, .int .i64 ya, .slice none 0 0, .slice none 0 0] 29)).heap[w1.heap.size]? = some (.cells #[.int .i64 yk, .int .i64 yn, .string yt, .int .i64 yo, .int .i64 ya, .slice none 0 0, .slice none 0 0] 29)) := (MapKept.heap_alloc w1 _).1
    have HB2 : Hid (Below w.heap.size w (w1.alloc (.cells #[.int .i64 yk, .int .i64 yn, .string yt, .int .i64 yo, .int .i64 ya, .slice none 0 0, .slice none 0 0] 29))) := HB1.out.trans (c2w.mono HB1.out.size)
    clear c2w
    have p2 : w1.cell? ⟨w.heap.size + 1, 2, none⟩ = some (.int .i64 yk) := Lib.cell_of_heap HP1.out 2
    have p3 : w1.cell? ⟨w.heap.size + 1, 3, none⟩ = some (.int .i64 yn) := Lib.cell_of_heap HP1.out 3
    have p4 : w1.cell? ⟨w.heap.size + 1, 4, none⟩ = some (.string yt) := Lib.cell_of_heap HP1.out 4
    have p5 : w1.cell? ⟨w.heap.size + 1, 5, none⟩ = some (.int .i64 yo) := Lib.cell_of_heap HP1.out 5
    have p6 : w1.cell? ⟨w.heap.size + 1, 6, none⟩ = some (.int .i64 ya) := Lib.cell_of_heap HP1.out 6
    go_upto_region 11 with fail
    clear p2 p3 p4 p5 p6 HX1 HP1 HZ1 HS1 HB1
    generalize w1.alloc (.cells #[.int .i64 yk, .int .i64 yn, .string yt, .int .i64 yo, .int .i64 ya, .slice none 0 0, .slice none 0 0] 29) = w2 at *
    obtain ⟨lb, HLB⟩ : ∃ lb, Hid (w1.heap.size = lb) := ⟨_, rfl⟩
    rw [HLB.out] at HL2 ⊢
    clear HLB
    generalize hbe : sb.toList.isEmpty = be at *
    by_cases h5 : xk = 5
    · have h5' : (xk == 5) = true := by simpa using h5
      have h5n : (xk != 5) = false := by simpa using h5
      have HKX : Hid (xk = 5) := h5
      clear h5
      cases be with
      | true =>
        have p0 : w2.cell? ⟨w.heap.size + 1, 0, none⟩ = some (.int .i64 1) := Lib.cell_of_heap HP2.out 0
        have s0 : w2.cell? ⟨w.heap.size + 3, 0, none⟩ = some (.string sb) := Lib.cell_of_heap HS2.out 0
        have s1 : w2.cell? ⟨w.heap.size + 3, 1, none⟩ = some (.int .i64 si) := Lib.cell_of_heap HS2.out 1
        have t0 : w2.cell? ⟨w.heap.size, 0, none⟩ = some (.int .i64 xk) := Lib.cell_of_heap HX2.out 0
        have t1 : w2.cell? ⟨w.heap.size, 1, none⟩ = some (.int .i64 xn) := Lib.cell_of_heap HX2.out 1
        have t2 : w2.cell? ⟨w.heap.size, 2, none⟩ = some (.string xt) := Lib.cell_of_heap HX2.out 2
        have t3 : w2.cell? ⟨w.heap.size, 3, none⟩ = some (.int .i64 xo) := Lib.cell_of_heap HX2.out 3
        have t4 : w2.cell? ⟨w.heap.size, 4, none⟩ = some (.int .i64 xa) := Lib.cell_of_heap HX2.out 4
        have t5 : w2.cell? ⟨w.heap.size, 5, none⟩ = some (.slice a1 kn c1) := Lib.cell_of_heap HX2.out 5
        have t6 : w2.cell? ⟨w.heap.size, 6, none⟩ = some (.slice a2 tn c2) := Lib.cell_of_heap HX2.out 6
        have z0 : w2.cell? ⟨w.heap.size + 2, 0, none⟩ = some (.int .i64 0) := Lib.cell_of_heap HZ2.out 0
        have z1 : w2.cell? ⟨w.heap.size + 2, 1, none⟩ = some (.int .i64 0) := Lib.cell_of_heap HZ2.out 1
        have z2 : w2.cell? ⟨w.heap.size + 2, 2, none⟩ = some (.string ⟨#[]⟩) := Lib.cell_of_heap HZ2.out 2
        have z3 : w2.cell? ⟨w.heap.size + 2, 3, none⟩ = some (.int .i64 0) := Lib.cell_of_heap HZ2.out 3
        have z4 : w2.cell? ⟨w.heap.size + 2, 4, none⟩ = some (.int .i64 0) := Lib.cell_of_heap HZ2.out 4
        have z5 : w2.cell? ⟨w.heap.size + 2, 5, none⟩ = some (.slice none 0 0) := Lib.cell_of_heap HZ2.out 5
        have z6 : w2.cell? ⟨w.heap.size + 2, 6, none⟩ = some (.slice none 0 0) := Lib.cell_of_heap HZ2.out 6
        have zf := Lib.frozen_of_heap HZ2.out
        have HBF : Hid (Below w.heap.size w (put7 w2 (w.heap.size + 2) 0 (⟨xk, xn, xt, xo, xa⟩, .slice a1 kn c1, .slice a2 tn c2))) := put7_below HB2.out _ _ _ (by omega)
        have HHF : Hid ((put7 w2 (w.heap.size + 2) 0 (⟨xk, xn, xt, xo, xa⟩, .slice a1 kn c1, .slice a2 tn c2)).heap[w.heap.size + 2]? = some _) := set7 HZ2.out (.int .i64 xk) (.int .i64 xn) (.string xt) (.int .i64 xo) (.int .i64 xa) (.slice a1 kn c1) (.slice a2 tn c2)
        have HIF : Hid (IsTP (fun b => P b ∨ w.heap.size + 4 ≤ b) (put7 w2 (w.heap.size + 2) 0 (⟨xk, xn, xt, xo, xa⟩, .slice a1 kn c1, .slice a2 tn c2)) (tval (⟨xk, xn, xt, xo, xa⟩, .slice a1 kn c1, .slice a2 tn c2)) T) := HTT.out _ (put7_below HB2.out _ _ _ (by omega))
        go_wp2
        clear z0 z1 z2 z3 z4 z5 z6 zf
        dsimp only [put7, Nat.zero_add] at HBF HHF HIF
        generalize ((((((w2.setCell ⟨w.heap.size + 2, 0, none⟩ (.int .i64 xk)).setCell ⟨w.heap.size + 2, 1, none⟩ (.int .i64 xn)).setCell ⟨w.heap.size + 2, 2, none⟩ (.string xt)).setCell ⟨w.heap.size + 2, 3, none⟩ (.int .i64 xo)).setCell ⟨w.heap.size + 2, 4, none⟩ (.int .i64 xa)).setCell ⟨w.heap.size + 2, 5, none⟩ (.slice a1 kn c1)).setCell ⟨w.heap.size + 2, 6, none⟩ (.slice a2 tn c2) = VV at *
        obtain ⟨q0, q1, q2, q3, q4, q5, q6⟩ := tboxed (u := (⟨xk, xn, xt, xo, xa⟩, .slice a1 kn c1, .slice a2 tn c2)) HHF.out
        dsimp only at q0 q1 q2 q3 q4 q5 q6
        refine bodyPost_ret (v := .tuple #[tval (⟨xk, xn, xt, xo, xa⟩, .slice a1 kn c1, .slice a2 tn c2), .bool false]) (by simp [tval, results, Tryd.results9, go_sem, q0, q1, q2, q3, q4, q5, q6]) rfl ?_
        rw [HPO.out]
        refine ⟨⟨_, _, false, rfl, HIF.out, ?_, ?_⟩, HBF.out⟩
        · exact (fun h => by cases h)
        · exact (fun _ T' h => by
            rw [UpdK] at h
            rcases h with ⟨_, h⟩ | ⟨h, _⟩ | ⟨h, _⟩
            · exact set_none HQ.out (by rw [HKY.out]; simp) h
            · exact absurd h (by decide)
            · exact absurd h (by decide))
      | false =>
        by_cases h0 : si = 0
        · have h0' : (si == 0) = true := by simpa using h0
          have h0n : (si != 0) = false := by simpa using h0
          have HKT : Hid (keyStep T.x s = true) := by show _ = _; rw [HKY.out, HKX.out, h0]; simp
          have HK5 : Hid (T.x.k = 5) := (keyStep_parts HKT.out).1
          have HUP : Hid (T.ks.length = T.ts.length ∧ upB [] T.ks = true) := ⟨((nodeB_map HK5.out).1 ((formed_iff T).1 HT.out.2.1).1).2.1, ((nodeB_map HK5.out).1 ((formed_iff T).1 HT.out.2.1).1).2.2⟩
          have HKN : Hid (T.ks.length ≤ 1000) := (few_put HT.out.2.1 HT.out.2.2).1
          clear h0
          have p0 : w2.cell? ⟨w.heap.size + 1, 0, none⟩ = some (.int .i64 1) := Lib.cell_of_heap HP2.out 0
          have s0 : w2.cell? ⟨w.heap.size + 3, 0, none⟩ = some (.string sb) := Lib.cell_of_heap HS2.out 0
          have s1 : w2.cell? ⟨w.heap.size + 3, 1, none⟩ = some (.int .i64 si) := Lib.cell_of_heap HS2.out 1
          have t0 : w2.cell? ⟨w.heap.size, 0, none⟩ = some (.int .i64 xk) := Lib.cell_of_heap HX2.out 0
          go_wp2_with fail
          clear p0 s0 s1 t0
          go_loopw [9] (fun i wr => ∃ j : Nat, j ≤ kn ∧ i = .int .i64 j ∧ Hid (∀ t (h : t < T.ks.length), t < j → T.ks[t].toList < sb.toList) ∧ Hid (Below w2.heap.size w2 wr)) (fun i _ => kn - (RowKit.intOf i).toNat)
          case atStart => exact ⟨0, Nat.zero_le _, rfl, fun t _ h => absurd h (Nat.not_lt_zero _), Below.refl _ _⟩
          case round =>
            obtain ⟨j, hj, rfl, HLS, HBR⟩ := hrel
            by_cases hlt : j < kn
            · have g1 : (j : Int) < kn := by omega
              have hjk : j < T.ks.length := by have := HN.out.2; omega
              obtain ⟨-, -, -, -, hkk⟩ := HROW.out
              obtain ⟨ka', kc', ek, hk1, hk2, hk3⟩ := hkk
              obtain ⟨ek1, ek2, ek3⟩ := Value.slice.inj ek
              obtain ⟨kb, ko, ek4, hk4, hk5⟩ := hk3 (fun e => by rw [e] at hjk; simp at hjk)
              obtain ⟨kj, hkj⟩ : ∃ kj, T.ks[j]'hjk = kj := ⟨_, rfl⟩
              have HCELL : Hid (∀ W, Below w2.heap.size w2 W → W.cell? ⟨w.heap.size, 5, none⟩ = some (.slice (some ⟨kb, ko, none⟩) kn c1) ∧ W.cell? ⟨w.heap.size + 3, 0, none⟩ = some (.string sb) ∧ W.cell? ⟨kb, ko + j, none⟩ = some (.string kj)) := by
                intro W hW
                have hx := (hW.block _ (lt_of_heap HX2.out)).trans HX2.out
                have hs := (hW.block _ (lt_of_heap HS2.out)).trans HS2.out
                refine ⟨?_, Lib.cell_of_heap hs 0, ?_⟩
                · have h9 : W.cell? ⟨w.heap.size, 5, none⟩ = some (.slice a1 kn c1) := Lib.cell_of_heap hx 5
                  rw [ek1, ek4] at h9
                  exact h9
                · have hz2 := HB2.out.size
                  rw [hW.cell (p := ⟨kb, ko + j, none⟩) (show kb < w2.heap.size by omega), HB2.out.cell (p := ⟨kb, ko + j, none⟩) hk4, hk5 j hjk, hkj]
              have HKJ : Hid (T.ks[j]'hjk = kj) := hkj
              have hkn' : (j : Int) ≤ 1000 := by have := HKN.out; omega
              by_cases hl : kj.toList < sb.toList
              · have hbl : Op.bytesLess kj.toList sb.toList = true := by rw [bytesLess_eq]; exact decide_eq_true hl
                have HLS' : Hid (∀ t (h : t < T.ks.length), t < j + 1 → T.ks[t].toList < sb.toList) := fun t h h' => by
                  rcases Nat.lt_or_ge t j with h8 | h8
                  · exact HLS.out t h h8
                  · obtain rfl : t = j := by omega
                    rw [HKJ.out]
                    exact hl
                clear hl HKJ hkj ek ek1 ek2 ek3 ek4 hk1 hk2 hk3 hk4 hk5 hjk
                go_upto_region 18 with fail
                refine wp_region_noPanic ?_
                refine wp_region_held_drew (S := fun W => Below w2.heap.size w2 W) (by kernel_rfl) (HBR.out.drew) (fun hHeld => ?_)
                refine wpAnyH_take (i := 0) (oi := { dst := some 76, op := Op.move (Operand.tmp 9), type := 3, pos := "json.go:289", after := #[], guard := none }) (v := ?_) rfl (by kernel_rfl) (by kernel_rfl) (by kernel_rfl) (fun _ _ _ h => h) (Or.inl ⟨by rfl, ?_⟩) (by assumption) ?_
                rotate_left
                · intro wz hSw
                  try dsimp only at hSw
                  obtain ⟨f5, fs, fk⟩ := HCELL.out wz hSw
                  go_simp
                  try with_reducible rfl
                try simp only [Act.put, List.setIfInBounds_toArray, List.set_cons_zero, List.set_cons_succ]
                refine wpAnyH_take (i := 1) (oi := { dst := some 77, op := Op.fieldAddr 29 (Operand.tmp 3) 1, type := 0, pos := "json.go:289", after := #[], guard := none }) (v := ?_) rfl (by kernel_rfl) (by kernel_rfl) (by kernel_rfl) (fun _ _ _ h => h) (Or.inl ⟨by rfl, ?_⟩) (by assumption) ?_
                rotate_left
                · intro wz hSw
                  try dsimp only at hSw
                  obtain ⟨f5, fs, fk⟩ := HCELL.out wz hSw
                  go_simp
                  try with_reducible rfl
                try simp only [Act.put, List.setIfInBounds_toArray, List.set_cons_zero, List.set_cons_succ]
                refine wpAnyH_take (i := 2) (oi := { dst := some 78, op := Op.load 26 (Operand.tmp 77), type := 26, pos := "json.go:289", after := #[{ on := 1, ground := Ground.data }], guard := none }) (v := ?_) rfl (by kernel_rfl) (by kernel_rfl) (by kernel_rfl) (fun _ _ _ h => h) (Or.inl ⟨by rfl, ?_⟩) (by assumption) ?_
                rotate_left
                · intro wz hSw
                  try dsimp only at hSw
                  obtain ⟨f5, fs, fk⟩ := HCELL.out wz hSw
                  go_simp
                  try with_reducible rfl
                try simp only [Act.put, List.setIfInBounds_toArray, List.set_cons_zero, List.set_cons_succ]
                refine wpAnyH_take (i := 3) (oi := { dst := some 79, op := Op.call { callee := Callee.builtin Builtin.len, args := #[Operand.tmp 78], argTypes := #[26] }, type := 3, pos := "json.go:289", after := #[{ on := 2, ground := Ground.data }], guard := none }) (v := ?_) rfl (by kernel_rfl) (by kernel_rfl) (by kernel_rfl) (fun _ _ _ h => h) (Or.inl ⟨by rfl, ?_⟩) (by assumption) ?_
                rotate_left
                · intro wz hSw
                  try dsimp only at hSw
                  obtain ⟨f5, fs, fk⟩ := HCELL.out wz hSw
                  go_simp
                  try with_reducible rfl
                try simp only [Act.put, List.setIfInBounds_toArray, List.set_cons_zero, List.set_cons_succ]
                refine wpAnyH_take (i := 4) (oi := { dst := some 80, op := Op.binOp BinOp.lss 3 (Operand.tmp 76) (Operand.tmp 79) 3, type := 4, pos := "json.go:289", after := #[{ on := 0, ground := Ground.data }, { on := 3, ground := Ground.data }], guard := none }) (v := ?_) rfl (by kernel_rfl) (by kernel_rfl) (by kernel_rfl) (fun _ _ _ h => h) (Or.inl ⟨by rfl, ?_⟩) (by assumption) ?_
                rotate_left
                · intro wz hSw
                  try dsimp only at hSw
                  obtain ⟨f5, fs, fk⟩ := HCELL.out wz hSw
                  go_simp
                  try with_reducible rfl
                try simp only [Act.put, List.setIfInBounds_toArray, List.set_cons_zero, List.set_cons_succ]
                refine wpAnyH_take (i := 5) (oi := { dst := some 81, op := Op.move (Operand.tmp 80), type := 4, pos := "json.go:289", after := #[{ on := 4, ground := Ground.data }], guard := none }) (v := ?_) rfl (by kernel_rfl) (by kernel_rfl) (by kernel_rfl) (fun _ _ _ h => h) (Or.inl ⟨by rfl, ?_⟩) (by assumption) ?_
                rotate_left
                · intro wz hSw
                  try dsimp only at hSw
                  obtain ⟨f5, fs, fk⟩ := HCELL.out wz hSw
                  go_simp
                  try with_reducible rfl
                try simp only [Act.put, List.setIfInBounds_toArray, List.set_cons_zero, List.set_cons_succ]
                refine wpAnyH_take (i := 6) (oi := { dst := some 82, op := Op.fieldAddr 29 (Operand.tmp 3) 1, type := 0, pos := "json.go:289", after := #[{ on := 5, ground := Ground.guard }], guard := some (5, true) }) (v := ?_) rfl (by kernel_rfl) (by kernel_rfl) (by kernel_rfl) (fun _ _ _ h => h) (Or.inl ⟨by rfl, ?_⟩) (by assumption) ?_
                rotate_left
                · intro wz hSw
                  try dsimp only at hSw
                  obtain ⟨f5, fs, fk⟩ := HCELL.out wz hSw
                  go_simp
                  try with_reducible rfl
                try simp only [Act.put, List.setIfInBounds_toArray, List.set_cons_zero, List.set_cons_succ]
                refine wpAnyH_take (i := 7) (oi := { dst := some 83, op := Op.load 26 (Operand.tmp 82), type := 26, pos := "json.go:289", after := #[{ on := 6, ground := Ground.data }, { on := 5, ground := Ground.guard }], guard := some (5, true) }) (v := ?_) rfl (by kernel_rfl) (by kernel_rfl) (by kernel_rfl) (fun _ _ _ h => h) (Or.inl ⟨by rfl, ?_⟩) (by assumption) ?_
                rotate_left
                · intro wz hSw
                  try dsimp only at hSw
                  obtain ⟨f5, fs, fk⟩ := HCELL.out wz hSw
                  go_simp
                  try with_reducible rfl
                try simp only [Act.put, List.setIfInBounds_toArray, List.set_cons_zero, List.set_cons_succ]
                refine wpAnyH_take (i := 8) (oi := { dst := some 84, op := Op.move (Operand.tmp 9), type := 3, pos := "json.go:289", after := #[{ on := 5, ground := Ground.guard }], guard := some (5, true) }) (v := ?_) rfl (by kernel_rfl) (by kernel_rfl) (by kernel_rfl) (fun _ _ _ h => h) (Or.inl ⟨by rfl, ?_⟩) (by assumption) ?_
                rotate_left
                · intro wz hSw
                  try dsimp only at hSw
                  obtain ⟨f5, fs, fk⟩ := HCELL.out wz hSw
                  go_simp
                  try with_reducible rfl
                try simp only [Act.put, List.setIfInBounds_toArray, List.set_cons_zero, List.set_cons_succ]
                refine wpAnyH_take (i := 9) (oi := { dst := some 85, op := Op.indexAddr 26 (Operand.tmp 83) (Operand.tmp 84), type := 0, pos := "json.go:289", after := #[{ on := 7, ground := Ground.data }, { on := 8, ground := Ground.data }, { on := 5, ground := Ground.guard }], guard := some (5, true) }) (v := ?_) rfl (by kernel_rfl) (by kernel_rfl) (by kernel_rfl) (fun _ _ _ h => h) (Or.inl ⟨by rfl, ?_⟩) (by assumption) ?_
                rotate_left
                · intro wz hSw
                  try dsimp only at hSw
                  obtain ⟨f5, fs, fk⟩ := HCELL.out wz hSw
                  go_simp
                  try with_reducible rfl
                try simp only [Act.put, List.setIfInBounds_toArray, List.set_cons_zero, List.set_cons_succ]
                refine wpAnyH_take (i := 10) (oi := { dst := some 86, op := Op.load 9 (Operand.tmp 85), type := 9, pos := "json.go:289", after := #[{ on := 9, ground := Ground.data }, { on := 5, ground := Ground.guard }], guard := some (5, true) }) (v := ?_) rfl (by kernel_rfl) (by kernel_rfl) (by kernel_rfl) (fun _ _ _ h => h) (Or.inl ⟨by rfl, ?_⟩) (by assumption) ?_
                rotate_left
                · intro wz hSw
                  try dsimp only at hSw
                  obtain ⟨f5, fs, fk⟩ := HCELL.out wz hSw
                  go_simp
                  try with_reducible rfl
                try simp only [Act.put, List.setIfInBounds_toArray, List.set_cons_zero, List.set_cons_succ]
                refine wpAnyH_take (i := 11) (oi := { dst := some 87, op := Op.fieldAddr 45 (Operand.tmp 8) 0, type := 0, pos := "json.go:289", after := #[{ on := 5, ground := Ground.guard }], guard := some (5, true) }) (v := ?_) rfl (by kernel_rfl) (by kernel_rfl) (by kernel_rfl) (fun _ _ _ h => h) (Or.inl ⟨by rfl, ?_⟩) (by assumption) ?_
                rotate_left
                · intro wz hSw
                  try dsimp only at hSw
                  obtain ⟨f5, fs, fk⟩ := HCELL.out wz hSw
                  go_simp
                  try with_reducible rfl
                try simp only [Act.put, List.setIfInBounds_toArray, List.set_cons_zero, List.set_cons_succ]
                refine wpAnyH_take (i := 12) (oi := { dst := some 88, op := Op.load 9 (Operand.tmp 87), type := 9, pos := "json.go:289", after := #[{ on := 11, ground := Ground.data }, { on := 5, ground := Ground.guard }], guard := some (5, true) }) (v := ?_) rfl (by kernel_rfl) (by kernel_rfl) (by kernel_rfl) (fun _ _ _ h => h) (Or.inl ⟨by rfl, ?_⟩) (by assumption) ?_
                rotate_left
                · intro wz hSw
                  try dsimp only at hSw
                  obtain ⟨f5, fs, fk⟩ := HCELL.out wz hSw
                  go_simp
                  try with_reducible rfl
                try simp only [Act.put, List.setIfInBounds_toArray, List.set_cons_zero, List.set_cons_succ]
                refine wpAnyH_take (i := 13) (oi := { dst := some 89, op := Op.binOp BinOp.lss 9 (Operand.tmp 86) (Operand.tmp 88) 9, type := 4, pos := "json.go:289", after := #[{ on := 10, ground := Ground.data }, { on := 12, ground := Ground.data }, { on := 5, ground := Ground.guard }], guard := some (5, true) }) (v := ?_) rfl (by kernel_rfl) (by kernel_rfl) (by kernel_rfl) (fun _ _ _ h => h) (Or.inl ⟨by rfl, ?_⟩) (by assumption) ?_
                rotate_left
                · intro wz hSw
                  try dsimp only at hSw
                  obtain ⟨f5, fs, fk⟩ := HCELL.out wz hSw
                  go_simp
                  try with_reducible rfl
                try simp only [Act.put, List.setIfInBounds_toArray, List.set_cons_zero, List.set_cons_succ]
                refine wpAnyH_take (i := 14) (oi := { dst := some 90, op := Op.pick (Operand.tmp 81) (Operand.tmp 89) (Operand.const (Value.bool false)), type := 4, pos := "json.go:289", after := #[{ on := 5, ground := Ground.data }, { on := 13, ground := Ground.data }], guard := none }) (v := ?_) rfl (by kernel_rfl) (by kernel_rfl) (by kernel_rfl) (fun _ _ _ h => h) (Or.inl ⟨by rfl, ?_⟩) (by assumption) ?_
                rotate_left
                · intro wz hSw
                  try dsimp only at hSw
                  obtain ⟨f5, fs, fk⟩ := HCELL.out wz hSw
                  go_simp
                  try with_reducible rfl
                try simp only [Act.put, List.setIfInBounds_toArray, List.set_cons_zero, List.set_cons_succ]
                refine wpAnyH_done (by kernel_rfl) ?_ _
                refine NoPanic.normal ?_
                clear hHeld hbl
                go_wp2_with fail
                go_roundw
                case rel => exact ⟨j + 1, by omega, by go_num, HLS', HBR.out.drew⟩
                case measure => simp [intOf]; omega
              · have hbl : Op.bytesLess kj.toList sb.toList = false := by rw [bytesLess_eq]; exact decide_eq_false hl
                have HST : Hid (∀ h : j < T.ks.length, ¬ T.ks[j].toList < sb.toList) := fun h => by rw [HKJ.out]; exact hl
                clear hl HKJ hkj ek ek1 ek2 ek3 ek4 hk1 hk2 hk3 hk4 hk5 hjk
                go_upto_region 18 with fail
                refine wp_region_noPanic ?_
                refine wp_region_held_drew (S := fun W => Below w2.heap.size w2 W) (by kernel_rfl) (HBR.out.drew) (fun hHeld => ?_)
                refine wpAnyH_take (i := 0) (oi := { dst := some 76, op := Op.move (Operand.tmp 9), type := 3, pos := "json.go:289", after := #[], guard := none }) (v := ?_) rfl (by kernel_rfl) (by kernel_rfl) (by kernel_rfl) (fun _ _ _ h => h) (Or.inl ⟨by rfl, ?_⟩) (by assumption) ?_
                rotate_left
                · intro wz hSw
                  try dsimp only at hSw
                  obtain ⟨f5, fs, fk⟩ := HCELL.out wz hSw
                  go_simp
                  try with_reducible rfl
                try simp only [Act.put, List.setIfInBounds_toArray, List.set_cons_zero, List.set_cons_succ]
                refine wpAnyH_take (i := 1) (oi := { dst := some 77, op := Op.fieldAddr 29 (Operand.tmp 3) 1, type := 0, pos := "json.go:289", after := #[], guard := none }) (v := ?_) rfl (by kernel_rfl) (by kernel_rfl) (by kernel_rfl) (fun _ _ _ h => h) (Or.inl ⟨by rfl, ?_⟩) (by assumption) ?_
                rotate_left
                · intro wz hSw
                  try dsimp only at hSw
                  obtain ⟨f5, fs, fk⟩ := HCELL.out wz hSw
                  go_simp
                  try with_reducible rfl
                try simp only [Act.put, List.setIfInBounds_toArray, List.set_cons_zero, List.set_cons_succ]
                refine wpAnyH_take (i := 2) (oi := { dst := some 78, op := Op.load 26 (Operand.tmp 77), type := 26, pos := "json.go:289", after := #[{ on := 1, ground := Ground.data }], guard := none }) (v := ?_) rfl (by kernel_rfl) (by kernel_rfl) (by kernel_rfl) (fun _ _ _ h => h) (Or.inl ⟨by rfl, ?_⟩) (by assumption) ?_
                rotate_left
                · intro wz hSw
                  try dsimp only at hSw
                  obtain ⟨f5, fs, fk⟩ := HCELL.out wz hSw
                  go_simp
                  try with_reducible rfl
                try simp only [Act.put, List.setIfInBounds_toArray, List.set_cons_zero, List.set_cons_succ]
                refine wpAnyH_take (i := 3) (oi := { dst := some 79, op := Op.call { callee := Callee.builtin Builtin.len, args := #[Operand.tmp 78], argTypes := #[26] }, type := 3, pos := "json.go:289", after := #[{ on := 2, ground := Ground.data }], guard := none }) (v := ?_) rfl (by kernel_rfl) (by kernel_rfl) (by kernel_rfl) (fun _ _ _ h => h) (Or.inl ⟨by rfl, ?_⟩) (by assumption) ?_
                rotate_left
                · intro wz hSw
                  try dsimp only at hSw
                  obtain ⟨f5, fs, fk⟩ := HCELL.out wz hSw
                  go_simp
                  try with_reducible rfl
                try simp only [Act.put, List.setIfInBounds_toArray, List.set_cons_zero, List.set_cons_succ]
                refine wpAnyH_take (i := 4) (oi := { dst := some 80, op := Op.binOp BinOp.lss 3 (Operand.tmp 76) (Operand.tmp 79) 3, type := 4, pos := "json.go:289", after := #[{ on := 0, ground := Ground.data }, { on := 3, ground := Ground.data }], guard := none }) (v := ?_) rfl (by kernel_rfl) (by kernel_rfl) (by kernel_rfl) (fun _ _ _ h => h) (Or.inl ⟨by rfl, ?_⟩) (by assumption) ?_
                rotate_left
                · intro wz hSw
                  try dsimp only at hSw
                  obtain ⟨f5, fs, fk⟩ := HCELL.out wz hSw
                  go_simp
                  try with_reducible rfl
                try simp only [Act.put, List.setIfInBounds_toArray, List.set_cons_zero, List.set_cons_succ]
                refine wpAnyH_take (i := 5) (oi := { dst := some 81, op := Op.move (Operand.tmp 80), type := 4, pos := "json.go:289", after := #[{ on := 4, ground := Ground.data }], guard := none }) (v := ?_) rfl (by kernel_rfl) (by kernel_rfl) (by kernel_rfl) (fun _ _ _ h => h) (Or.inl ⟨by rfl, ?_⟩) (by assumption) ?_
                rotate_left
                · intro wz hSw
                  try dsimp only at hSw
                  obtain ⟨f5, fs, fk⟩ := HCELL.out wz hSw
                  go_simp
                  try with_reducible rfl
                try simp only [Act.put, List.setIfInBounds_toArray, List.set_cons_zero, List.set_cons_succ]
                refine wpAnyH_take (i := 6) (oi := { dst := some 82, op := Op.fieldAddr 29 (Operand.tmp 3) 1, type := 0, pos := "json.go:289", after := #[{ on := 5, ground := Ground.guard }], guard := some (5, true) }) (v := ?_) rfl (by kernel_rfl) (by kernel_rfl) (by kernel_rfl) (fun _ _ _ h => h) (Or.inl ⟨by rfl, ?_⟩) (by assumption) ?_
                rotate_left
                · intro wz hSw
                  try dsimp only at hSw
                  obtain ⟨f5, fs, fk⟩ := HCELL.out wz hSw
                  go_simp
                  try with_reducible rfl
                try simp only [Act.put, List.setIfInBounds_toArray, List.set_cons_zero, List.set_cons_succ]
                refine wpAnyH_take (i := 7) (oi := { dst := some 83, op := Op.load 26 (Operand.tmp 82), type := 26, pos := "json.go:289", after := #[{ on := 6, ground := Ground.data }, { on := 5, ground := Ground.guard }], guard := some (5, true) }) (v := ?_) rfl (by kernel_rfl) (by kernel_rfl) (by kernel_rfl) (fun _ _ _ h => h) (Or.inl ⟨by rfl, ?_⟩) (by assumption) ?_
                rotate_left
                · intro wz hSw
                  try dsimp only at hSw
                  obtain ⟨f5, fs, fk⟩ := HCELL.out wz hSw
                  go_simp
                  try with_reducible rfl
                try simp only [Act.put, List.setIfInBounds_toArray, List.set_cons_zero, List.set_cons_succ]
                refine wpAnyH_take (i := 8) (oi := { dst := some 84, op := Op.move (Operand.tmp 9), type := 3, pos := "json.go:289", after := #[{ on := 5, ground := Ground.guard }], guard := some (5, true) }) (v := ?_) rfl (by kernel_rfl) (by kernel_rfl) (by kernel_rfl) (fun _ _ _ h => h) (Or.inl ⟨by rfl, ?_⟩) (by assumption) ?_
                rotate_left
                · intro wz hSw
                  try dsimp only at hSw
                  obtain ⟨f5, fs, fk⟩ := HCELL.out wz hSw
                  go_simp
                  try with_reducible rfl
                try simp only [Act.put, List.setIfInBounds_toArray, List.set_cons_zero, List.set_cons_succ]
                refine wpAnyH_take (i := 9) (oi := { dst := some 85, op := Op.indexAddr 26 (Operand.tmp 83) (Operand.tmp 84), type := 0, pos := "json.go:289", after := #[{ on := 7, ground := Ground.data }, { on := 8, ground := Ground.data }, { on := 5, ground := Ground.guard }], guard := some (5, true) }) (v := ?_) rfl (by kernel_rfl) (by kernel_rfl) (by kernel_rfl) (fun _ _ _ h => h) (Or.inl ⟨by rfl, ?_⟩) (by assumption) ?_
                rotate_left
                · intro wz hSw
                  try dsimp only at hSw
                  obtain ⟨f5, fs, fk⟩ := HCELL.out wz hSw
                  go_simp
                  try with_reducible rfl
                try simp only [Act.put, List.setIfInBounds_toArray, List.set_cons_zero, List.set_cons_succ]
                refine wpAnyH_take (i := 10) (oi := { dst := some 86, op := Op.load 9 (Operand.tmp 85), type := 9, pos := "json.go:289", after := #[{ on := 9, ground := Ground.data }, { on := 5, ground := Ground.guard }], guard := some (5, true) }) (v := ?_) rfl (by kernel_rfl) (by kernel_rfl) (by kernel_rfl) (fun _ _ _ h => h) (Or.inl ⟨by rfl, ?_⟩) (by assumption) ?_
                rotate_left
                · intro wz hSw
                  try dsimp only at hSw
                  obtain ⟨f5, fs, fk⟩ := HCELL.out wz hSw
                  go_simp
                  try with_reducible rfl
                try simp only [Act.put, List.setIfInBounds_toArray, List.set_cons_zero, List.set_cons_succ]
                refine wpAnyH_take (i := 11) (oi := { dst := some 87, op := Op.fieldAddr 45 (Operand.tmp 8) 0, type := 0, pos := "json.go:289", after := #[{ on := 5, ground := Ground.guard }], guard := some (5, true) }) (v := ?_) rfl (by kernel_rfl) (by kernel_rfl) (by kernel_rfl) (fun _ _ _ h => h) (Or.inl ⟨by rfl, ?_⟩) (by assumption) ?_
                rotate_left
                · intro wz hSw
                  try dsimp only at hSw
                  obtain ⟨f5, fs, fk⟩ := HCELL.out wz hSw
                  go_simp
                  try with_reducible rfl
                try simp only [Act.put, List.setIfInBounds_toArray, List.set_cons_zero, List.set_cons_succ]
                refine wpAnyH_take (i := 12) (oi := { dst := some 88, op := Op.load 9 (Operand.tmp 87), type := 9, pos := "json.go:289", after := #[{ on := 11, ground := Ground.data }, { on := 5, ground := Ground.guard }], guard := some (5, true) }) (v := ?_) rfl (by kernel_rfl) (by kernel_rfl) (by kernel_rfl) (fun _ _ _ h => h) (Or.inl ⟨by rfl, ?_⟩) (by assumption) ?_
                rotate_left
                · intro wz hSw
                  try dsimp only at hSw
                  obtain ⟨f5, fs, fk⟩ := HCELL.out wz hSw
                  go_simp
                  try with_reducible rfl
                try simp only [Act.put, List.setIfInBounds_toArray, List.set_cons_zero, List.set_cons_succ]
                refine wpAnyH_take (i := 13) (oi := { dst := some 89, op := Op.binOp BinOp.lss 9 (Operand.tmp 86) (Operand.tmp 88) 9, type := 4, pos := "json.go:289", after := #[{ on := 10, ground := Ground.data }, { on := 12, ground := Ground.data }, { on := 5, ground := Ground.guard }], guard := some (5, true) }) (v := ?_) rfl (by kernel_rfl) (by kernel_rfl) (by kernel_rfl) (fun _ _ _ h => h) (Or.inl ⟨by rfl, ?_⟩) (by assumption) ?_
                rotate_left
                · intro wz hSw
                  try dsimp only at hSw
                  obtain ⟨f5, fs, fk⟩ := HCELL.out wz hSw
                  go_simp
                  try with_reducible rfl
                try simp only [Act.put, List.setIfInBounds_toArray, List.set_cons_zero, List.set_cons_succ]
                refine wpAnyH_take (i := 14) (oi := { dst := some 90, op := Op.pick (Operand.tmp 81) (Operand.tmp 89) (Operand.const (Value.bool false)), type := 4, pos := "json.go:289", after := #[{ on := 5, ground := Ground.data }, { on := 13, ground := Ground.data }], guard := none }) (v := ?_) rfl (by kernel_rfl) (by kernel_rfl) (by kernel_rfl) (fun _ _ _ h => h) (Or.inl ⟨by rfl, ?_⟩) (by assumption) ?_
                rotate_left
                · intro wz hSw
                  try dsimp only at hSw
                  obtain ⟨f5, fs, fk⟩ := HCELL.out wz hSw
                  go_simp
                  try with_reducible rfl
                try simp only [Act.put, List.setIfInBounds_toArray, List.set_cons_zero, List.set_cons_succ]
                refine wpAnyH_done (by kernel_rfl) ?_ _
                refine NoPanic.normal ?_
                clear hHeld hbl HCELL g1 hkn'
                have HF : Hid (Found T.ks s.1.toList j false) := found_of (HUP.out).2 (by have := HN.out.2; omega) (by rw [← HSS.out]; exact HLS.out) (by rw [← HSS.out]; exact HST.out) (by
                  have h9 := HQ.out
                  unfold kidOf at h9
                  rw [if_pos HKT.out] at h9
                  exact h9)
                have hb3 : Below w2.heap.size w2 wr.drew := HBR.out.drew
                have HX3 : Hid (wr.drew.heap[w.heap.size]? = some _) := (hb3.block _ (lt_of_heap HX2.out)).trans HX2.out
                have HL3 : Hid (wr.drew.heap[lb]? = some _) := (hb3.block _ (lt_of_heap HL2.out)).trans HL2.out
                have HZ3 : Hid (wr.drew.heap[w.heap.size + 2]? = some _) := (hb3.block _ (lt_of_heap HZ2.out)).trans HZ2.out
                have HS3 : Hid (wr.drew.heap[w.heap.size + 3]? = some _) := (hb3.block _ (lt_of_heap HS2.out)).trans HS2.out
                have HB3 : Hid (Below w.heap.size w wr.drew) := HB2.out.trans (hb3.mono HB2.out.size)
                have HLU : Hid (wr.drew = wr.drew) := rfl
                clear hb3 HLU
                generalize wr.drew = w3 at *
                have t0 : w3.cell? ⟨w.heap.size, 0, none⟩ = some (.int .i64 xk) := Lib.cell_of_heap HX3.out 0
                have t1 : w3.cell? ⟨w.heap.size, 1, none⟩ = some (.int .i64 xn) := Lib.cell_of_heap HX3.out 1
                have t2 : w3.cell? ⟨w.heap.size, 2, none⟩ = some (.string xt) := Lib.cell_of_heap HX3.out 2
                have t3 : w3.cell? ⟨w.heap.size, 3, none⟩ = some (.int .i64 xo) := Lib.cell_of_heap HX3.out 3
                have t4 : w3.cell? ⟨w.heap.size, 4, none⟩ = some (.int .i64 xa) := Lib.cell_of_heap HX3.out 4
                have t5 : w3.cell? ⟨w.heap.size, 5, none⟩ = some (.slice a1 kn c1) := Lib.cell_of_heap HX3.out 5
                have t6 : w3.cell? ⟨w.heap.size, 6, none⟩ = some (.slice a2 tn c2) := Lib.cell_of_heap HX3.out 6
                have l0 : w3.cell? ⟨lb, 0, none⟩ = some (.int .i64 yk) := Lib.cell_of_heap HL3.out 0
                have l1 : w3.cell? ⟨lb, 1, none⟩ = some (.int .i64 yn) := Lib.cell_of_heap HL3.out 1
                have l2 : w3.cell? ⟨lb, 2, none⟩ = some (.string yt) := Lib.cell_of_heap HL3.out 2
                have l3 : w3.cell? ⟨lb, 3, none⟩ = some (.int .i64 yo) := Lib.cell_of_heap HL3.out 3
                have l4 : w3.cell? ⟨lb, 4, none⟩ = some (.int .i64 ya) := Lib.cell_of_heap HL3.out 4
                have l5 : w3.cell? ⟨lb, 5, none⟩ = some (.slice none 0 0) := Lib.cell_of_heap HL3.out 5
                have l6 : w3.cell? ⟨lb, 6, none⟩ = some (.slice none 0 0) := Lib.cell_of_heap HL3.out 6
                have s0 : w3.cell? ⟨w.heap.size + 3, 0, none⟩ = some (.string sb) := Lib.cell_of_heap HS3.out 0
                have s1 : w3.cell? ⟨w.heap.size + 3, 1, none⟩ = some (.int .i64 si) := Lib.cell_of_heap HS3.out 1
                have EP := putNew_any (P := P) (X := leafT ⟨yk, yn, yt, yo, ya⟩) sb w3 (HTP.out w3 HB3.out) (leafP P w3 ⟨yk, yn, yt, yo, ya⟩) HT.out.2.1 HT.out.2.2 HK5.out HF.out.1
                unfold tval at EP
                dsimp only [leafV] at EP
                go_wp2_with fail
                go_fit EP
                rintro e w9 hput
                clear EP t0 t1 t2 t3 t4 t5 t6 l0 l1 l2 l3 l4 l5 l6 s0 s1
                obtain ⟨u9, rfl, hI9, b9⟩ := hput
                obtain ⟨⟨rk, rn, rt, ro, ra⟩, r1, s1, t1, r2, s2, t2, hu9⟩ := hI9.plain.parts
                subst hu9
                have HZ9 : Hid (w9.heap[w.heap.size + 2]? = some (.cells #[.int .i64 0, .int .i64 0, .string ⟨#[]⟩, .int .i64 0, .int .i64 0, .slice none 0 0, .slice none 0 0] 29)) := (b9.block _ (lt_of_heap HZ3.out)).trans HZ3.out
                have HB9 : Hid (Below w.heap.size w w9) := HB3.out.trans (b9.mono HB3.out.size)
                have HI9 : Hid (IsTP _ w9 (tval (⟨rk, rn, rt, ro, ra⟩, .slice r1 s1 t1, .slice r2 s2 t2)) _) := hI9
                clear hI9 b9
                dsimp only [tval]
                have z0 : w9.cell? ⟨w.heap.size + 2, 0, none⟩ = some (.int .i64 0) := Lib.cell_of_heap HZ9.out 0
                have z1 : w9.cell? ⟨w.heap.size + 2, 1, none⟩ = some (.int .i64 0) := Lib.cell_of_heap HZ9.out 1
                have z2 : w9.cell? ⟨w.heap.size + 2, 2, none⟩ = some (.string ⟨#[]⟩) := Lib.cell_of_heap HZ9.out 2
                have z3 : w9.cell? ⟨w.heap.size + 2, 3, none⟩ = some (.int .i64 0) := Lib.cell_of_heap HZ9.out 3
                have z4 : w9.cell? ⟨w.heap.size + 2, 4, none⟩ = some (.int .i64 0) := Lib.cell_of_heap HZ9.out 4
                have z5 : w9.cell? ⟨w.heap.size + 2, 5, none⟩ = some (.slice none 0 0) := Lib.cell_of_heap HZ9.out 5
                have z6 : w9.cell? ⟨w.heap.size + 2, 6, none⟩ = some (.slice none 0 0) := Lib.cell_of_heap HZ9.out 6
                have zf := Lib.frozen_of_heap HZ9.out
                have HBF : Hid (Below w.heap.size w (put7 w9 (w.heap.size + 2) 0 (⟨rk, rn, rt, ro, ra⟩, .slice r1 s1 t1, .slice r2 s2 t2))) := put7_below HB9.out _ _ _ (by omega)
                have HHF : Hid ((put7 w9 (w.heap.size + 2) 0 (⟨rk, rn, rt, ro, ra⟩, .slice r1 s1 t1, .slice r2 s2 t2)).heap[w.heap.size + 2]? = some _) := set7 HZ9.out (.int .i64 rk) (.int .i64 rn) (.string rt) (.int .i64 ro) (.int .i64 ra) (.slice r1 s1 t1) (.slice r2 s2 t2)
                have HIF : Hid (IsTP (fun b => P b ∨ w.heap.size + 4 ≤ b) (put7 w9 (w.heap.size + 2) 0 (⟨rk, rn, rt, ro, ra⟩, .slice r1 s1 t1, .slice r2 s2 t2)) (tval (⟨rk, rn, rt, ro, ra⟩, .slice r1 s1 t1, .slice r2 s2 t2)) _) := fresh_put HI9.out (fun _ h => Or.inl h) (by have := lt_of_heap HS3.out; omega) HPP.out
                go_wp2
                clear z0 z1 z2 z3 z4 z5 z6 zf
                dsimp only [put7, Nat.zero_add] at HBF HHF HIF
                generalize ((((((w9.setCell ⟨w.heap.size + 2, 0, none⟩ (.int .i64 rk)).setCell ⟨w.heap.size + 2, 1, none⟩ (.int .i64 rn)).setCell ⟨w.heap.size + 2, 2, none⟩ (.string rt)).setCell ⟨w.heap.size + 2, 3, none⟩ (.int .i64 ro)).setCell ⟨w.heap.size + 2, 4, none⟩ (.int .i64 ra)).setCell ⟨w.heap.size + 2, 5, none⟩ (.slice r1 s1 t1)).setCell ⟨w.heap.size + 2, 6, none⟩ (.slice r2 s2 t2) = VV at *
                obtain ⟨q0, q1, q2, q3, q4, q5, q6⟩ := tboxed (u := (⟨rk, rn, rt, ro, ra⟩, .slice r1 s1 t1, .slice r2 s2 t2)) HHF.out
                dsimp only at q0 q1 q2 q3 q4 q5 q6
                refine bodyPost_ret (v := .tuple #[tval (⟨rk, rn, rt, ro, ra⟩, .slice r1 s1 t1, .slice r2 s2 t2), .bool true]) (by simp [tval, results, Tryd.results9, go_sem, q0, q1, q2, q3, q4, q5, q6]) rfl ?_
                rw [HPO.out]
                refine ⟨⟨_, _, true, rfl, HIF.out, ?_, ?_⟩, HBF.out⟩
                · exact (fun _ => by
                    rw [UpdK]
                    exact Or.inl ⟨rfl, Or.inr ⟨HQ.out, HKT.out, j, HF.out, by rw [HY.out, ← HSS.out]⟩⟩)
                · exact (fun h => by cases h)
            · have hjn : ¬ (j : Int) < kn := by omega
              have HST : Hid (∀ h : j < T.ks.length, ¬ T.ks[j].toList < sb.toList) := fun h => absurd h (by have := HN.out.2; omega)
              have HCELL : Hid (∀ W, Below w2.heap.size w2 W → W.cell? ⟨w.heap.size, 5, none⟩ = some (.slice a1 kn c1) ∧ W.cell? ⟨w.heap.size + 3, 0, none⟩ = some (.string sb)) := by
                intro W hW
                have hx := (hW.block _ (lt_of_heap HX2.out)).trans HX2.out
                have hs := (hW.block _ (lt_of_heap HS2.out)).trans HS2.out
                exact ⟨Lib.cell_of_heap hx 5, Lib.cell_of_heap hs 0⟩
              go_upto_region 18 with fail
              refine wp_region_noPanic ?_
              refine wp_region_held_drew (S := fun W => Below w2.heap.size w2 W) (by kernel_rfl) (HBR.out.drew) (fun hHeld => ?_)
              refine wpAnyH_take (i := 0) (oi := { dst := some 76, op := Op.move (Operand.tmp 9), type := 3, pos := "json.go:289", after := #[], guard := none }) (v := ?_) rfl (by kernel_rfl) (by kernel_rfl) (by kernel_rfl) (fun _ _ _ h => h) (Or.inl ⟨by rfl, ?_⟩) (by assumption) ?_
              rotate_left
              · intro wz hSw
                try dsimp only at hSw
                obtain ⟨f5, fs⟩ := HCELL.out wz hSw
                go_simp
                try with_reducible rfl
              try simp only [Act.put, List.setIfInBounds_toArray, List.set_cons_zero, List.set_cons_succ]
              refine wpAnyH_take (i := 1) (oi := { dst := some 77, op := Op.fieldAddr 29 (Operand.tmp 3) 1, type := 0, pos := "json.go:289", after := #[], guard := none }) (v := ?_) rfl (by kernel_rfl) (by kernel_rfl) (by kernel_rfl) (fun _ _ _ h => h) (Or.inl ⟨by rfl, ?_⟩) (by assumption) ?_
              rotate_left
              · intro wz hSw
                try dsimp only at hSw
                obtain ⟨f5, fs⟩ := HCELL.out wz hSw
                go_simp
                try with_reducible rfl
              try simp only [Act.put, List.setIfInBounds_toArray, List.set_cons_zero, List.set_cons_succ]
              refine wpAnyH_take (i := 2) (oi := { dst := some 78, op := Op.load 26 (Operand.tmp 77), type := 26, pos := "json.go:289", after := #[{ on := 1, ground := Ground.data }], guard := none }) (v := ?_) rfl (by kernel_rfl) (by kernel_rfl) (by kernel_rfl) (fun _ _ _ h => h) (Or.inl ⟨by rfl, ?_⟩) (by assumption) ?_
              rotate_left
              · intro wz hSw
                try dsimp only at hSw
                obtain ⟨f5, fs⟩ := HCELL.out wz hSw
                go_simp
                try with_reducible rfl
              try simp only [Act.put, List.setIfInBounds_toArray, List.set_cons_zero, List.set_cons_succ]
              refine wpAnyH_take (i := 3) (oi := { dst := some 79, op := Op.call { callee := Callee.builtin Builtin.len, args := #[Operand.tmp 78], argTypes := #[26] }, type := 3, pos := "json.go:289", after := #[{ on := 2, ground := Ground.data }], guard := none }) (v := ?_) rfl (by kernel_rfl) (by kernel_rfl) (by kernel_rfl) (fun _ _ _ h => h) (Or.inl ⟨by rfl, ?_⟩) (by assumption) ?_
              rotate_left
              · intro wz hSw
                try dsimp only at hSw
                obtain ⟨f5, fs⟩ := HCELL.out wz hSw
                go_simp
                try with_reducible rfl
              try simp only [Act.put, List.setIfInBounds_toArray, List.set_cons_zero, List.set_cons_succ]
              refine wpAnyH_take (i := 4) (oi := { dst := some 80, op := Op.binOp BinOp.lss 3 (Operand.tmp 76) (Operand.tmp 79) 3, type := 4, pos := "json.go:289", after := #[{ on := 0, ground := Ground.data }, { on := 3, ground := Ground.data }], guard := none }) (v := ?_) rfl (by kernel_rfl) (by kernel_rfl) (by kernel_rfl) (fun _ _ _ h => h) (Or.inl ⟨by rfl, ?_⟩) (by assumption) ?_
              rotate_left
              · intro wz hSw
                try dsimp only at hSw
                obtain ⟨f5, fs⟩ := HCELL.out wz hSw
                go_simp
                try with_reducible rfl
              try simp only [Act.put, List.setIfInBounds_toArray, List.set_cons_zero, List.set_cons_succ]
              refine wpAnyH_take (i := 5) (oi := { dst := some 81, op := Op.move (Operand.tmp 80), type := 4, pos := "json.go:289", after := #[{ on := 4, ground := Ground.data }], guard := none }) (v := ?_) rfl (by kernel_rfl) (by kernel_rfl) (by kernel_rfl) (fun _ _ _ h => h) (Or.inl ⟨by rfl, ?_⟩) (by assumption) ?_
              rotate_left
              · intro wz hSw
                try dsimp only at hSw
                obtain ⟨f5, fs⟩ := HCELL.out wz hSw
                go_simp
                try with_reducible rfl
              try simp only [Act.put, List.setIfInBounds_toArray, List.set_cons_zero, List.set_cons_succ]
              refine wpAnyH_take (i := 6) (oi := { dst := some 82, op := Op.fieldAddr 29 (Operand.tmp 3) 1, type := 0, pos := "json.go:289", after := #[{ on := 5, ground := Ground.guard }], guard := some (5, true) }) (v := undef) rfl (by kernel_rfl) (by kernel_rfl) (by kernel_rfl) (fun _ _ _ h => h) (Or.inr ⟨by rfl, rfl⟩) (by assumption) ?_
              try simp only [Act.put, List.setIfInBounds_toArray, List.set_cons_zero, List.set_cons_succ]
              refine wpAnyH_take (i := 7) (oi := { dst := some 83, op := Op.load 26 (Operand.tmp 82), type := 26, pos := "json.go:289", after := #[{ on := 6, ground := Ground.data }, { on := 5, ground := Ground.guard }], guard := some (5, true) }) (v := undef) rfl (by kernel_rfl) (by kernel_rfl) (by kernel_rfl) (fun _ _ _ h => h) (Or.inr ⟨by rfl, rfl⟩) (by assumption) ?_
              try simp only [Act.put, List.setIfInBounds_toArray, List.set_cons_zero, List.set_cons_succ]
              refine wpAnyH_take (i := 8) (oi := { dst := some 84, op := Op.move (Operand.tmp 9), type := 3, pos := "json.go:289", after := #[{ on := 5, ground := Ground.guard }], guard := some (5, true) }) (v := undef) rfl (by kernel_rfl) (by kernel_rfl) (by kernel_rfl) (fun _ _ _ h => h) (Or.inr ⟨by rfl, rfl⟩) (by assumption) ?_
              try simp only [Act.put, List.setIfInBounds_toArray, List.set_cons_zero, List.set_cons_succ]
              refine wpAnyH_take (i := 9) (oi := { dst := some 85, op := Op.indexAddr 26 (Operand.tmp 83) (Operand.tmp 84), type := 0, pos := "json.go:289", after := #[{ on := 7, ground := Ground.data }, { on := 8, ground := Ground.data }, { on := 5, ground := Ground.guard }], guard := some (5, true) }) (v := undef) rfl (by kernel_rfl) (by kernel_rfl) (by kernel_rfl) (fun _ _ _ h => h) (Or.inr ⟨by rfl, rfl⟩) (by assumption) ?_
              try simp only [Act.put, List.setIfInBounds_toArray, List.set_cons_zero, List.set_cons_succ]
              refine wpAnyH_take (i := 10) (oi := { dst := some 86, op := Op.load 9 (Operand.tmp 85), type := 9, pos := "json.go:289", after := #[{ on := 9, ground := Ground.data }, { on := 5, ground := Ground.guard }], guard := some (5, true) }) (v := undef) rfl (by kernel_rfl) (by kernel_rfl) (by kernel_rfl) (fun _ _ _ h => h) (Or.inr ⟨by rfl, rfl⟩) (by assumption) ?_
              try simp only [Act.put, List.setIfInBounds_toArray, List.set_cons_zero, List.set_cons_succ]
              refine wpAnyH_take (i := 11) (oi := { dst := some 87, op := Op.fieldAddr 45 (Operand.tmp 8) 0, type := 0, pos := "json.go:289", after := #[{ on := 5, ground := Ground.guard }], guard := some (5, true) }) (v := undef) rfl (by kernel_rfl) (by kernel_rfl) (by kernel_rfl) (fun _ _ _ h => h) (Or.inr ⟨by rfl, rfl⟩) (by assumption) ?_
              try simp only [Act.put, List.setIfInBounds_toArray, List.set_cons_zero, List.set_cons_succ]
              refine wpAnyH_take (i := 12) (oi := { dst := some 88, op := Op.load 9 (Operand.tmp 87), type := 9, pos := "json.go:289", after := #[{ on := 11, ground := Ground.data }, { on := 5, ground := Ground.guard }], guard := some (5, true) }) (v := undef) rfl (by kernel_rfl) (by kernel_rfl) (by kernel_rfl) (fun _ _ _ h => h) (Or.inr ⟨by rfl, rfl⟩) (by assumption) ?_
              try simp only [Act.put, List.setIfInBounds_toArray, List.set_cons_zero, List.set_cons_succ]
              refine wpAnyH_take (i := 13) (oi := { dst := some 89, op := Op.binOp BinOp.lss 9 (Operand.tmp 86) (Operand.tmp 88) 9, type := 4, pos := "json.go:289", after := #[{ on := 10, ground := Ground.data }, { on := 12, ground := Ground.data }, { on := 5, ground := Ground.guard }], guard := some (5, true) }) (v := undef) rfl (by kernel_rfl) (by kernel_rfl) (by kernel_rfl) (fun _ _ _ h => h) (Or.inr ⟨by rfl, rfl⟩) (by assumption) ?_
              try simp only [Act.put, List.setIfInBounds_toArray, List.set_cons_zero, List.set_cons_succ]
              refine wpAnyH_take (i := 14) (oi := { dst := some 90, op := Op.pick (Operand.tmp 81) (Operand.tmp 89) (Operand.const (Value.bool false)), type := 4, pos := "json.go:289", after := #[{ on := 5, ground := Ground.data }, { on := 13, ground := Ground.data }], guard := none }) (v := ?_) rfl (by kernel_rfl) (by kernel_rfl) (by kernel_rfl) (fun _ _ _ h => h) (Or.inl ⟨by rfl, ?_⟩) (by assumption) ?_
              rotate_left
              · intro wz hSw
                try dsimp only at hSw
                obtain ⟨f5, fs⟩ := HCELL.out wz hSw
                go_simp
                try with_reducible rfl
              try simp only [Act.put, List.setIfInBounds_toArray, List.set_cons_zero, List.set_cons_succ]
              refine wpAnyH_done (by kernel_rfl) ?_ _
              refine NoPanic.normal ?_
              clear hHeld HCELL hjn
              have HF : Hid (Found T.ks s.1.toList j false) := found_of (HUP.out).2 (by have := HN.out.2; omega) (by rw [← HSS.out]; exact HLS.out) (by rw [← HSS.out]; exact HST.out) (by
                have h9 := HQ.out
                unfold kidOf at h9
                rw [if_pos HKT.out] at h9
                exact h9)
              have hb3 : Below w2.heap.size w2 wr.drew := HBR.out.drew
              have HX3 : Hid (wr.drew.heap[w.heap.size]? = some _) := (hb3.block _ (lt_of_heap HX2.out)).trans HX2.out
              have HL3 : Hid (wr.drew.heap[lb]? = some _) := (hb3.block _ (lt_of_heap HL2.out)).trans HL2.out
              have HZ3 : Hid (wr.drew.heap[w.heap.size + 2]? = some _) := (hb3.block _ (lt_of_heap HZ2.out)).trans HZ2.out
              have HS3 : Hid (wr.drew.heap[w.heap.size + 3]? = some _) := (hb3.block _ (lt_of_heap HS2.out)).trans HS2.out
              have HB3 : Hid (Below w.heap.size w wr.drew) := HB2.out.trans (hb3.mono HB2.out.size)
              have HLU : Hid (wr.drew = wr.drew) := rfl
              clear hb3 HLU
              generalize wr.drew = w3 at *
              have t0 : w3.cell? ⟨w.heap.size, 0, none⟩ = some (.int .i64 xk) := Lib.cell_of_heap HX3.out 0
              have t1 : w3.cell? ⟨w.heap.size, 1, none⟩ = some (.int .i64 xn) := Lib.cell_of_heap HX3.out 1
              have t2 : w3.cell? ⟨w.heap.size, 2, none⟩ = some (.string xt) := Lib.cell_of_heap HX3.out 2
              have t3 : w3.cell? ⟨w.heap.size, 3, none⟩ = some (.int .i64 xo) := Lib.cell_of_heap HX3.out 3
              have t4 : w3.cell? ⟨w.heap.size, 4, none⟩ = some (.int .i64 xa) := Lib.cell_of_heap HX3.out 4
              have t5 : w3.cell? ⟨w.heap.size, 5, none⟩ = some (.slice a1 kn c1) := Lib.cell_of_heap HX3.out 5
              have t6 : w3.cell? ⟨w.heap.size, 6, none⟩ = some (.slice a2 tn c2) := Lib.cell_of_heap HX3.out 6
              have l0 : w3.cell? ⟨lb, 0, none⟩ = some (.int .i64 yk) := Lib.cell_of_heap HL3.out 0
              have l1 : w3.cell? ⟨lb, 1, none⟩ = some (.int .i64 yn) := Lib.cell_of_heap HL3.out 1
              have l2 : w3.cell? ⟨lb, 2, none⟩ = some (.string yt) := Lib.cell_of_heap HL3.out 2
              have l3 : w3.cell? ⟨lb, 3, none⟩ = some (.int .i64 yo) := Lib.cell_of_heap HL3.out 3
              have l4 : w3.cell? ⟨lb, 4, none⟩ = some (.int .i64 ya) := Lib.cell_of_heap HL3.out 4
              have l5 : w3.cell? ⟨lb, 5, none⟩ = some (.slice none 0 0) := Lib.cell_of_heap HL3.out 5
              have l6 : w3.cell? ⟨lb, 6, none⟩ = some (.slice none 0 0) := Lib.cell_of_heap HL3.out 6
              have s0 : w3.cell? ⟨w.heap.size + 3, 0, none⟩ = some (.string sb) := Lib.cell_of_heap HS3.out 0
              have s1 : w3.cell? ⟨w.heap.size + 3, 1, none⟩ = some (.int .i64 si) := Lib.cell_of_heap HS3.out 1
              have EP := putNew_any (P := P) (X := leafT ⟨yk, yn, yt, yo, ya⟩) sb w3 (HTP.out w3 HB3.out) (leafP P w3 ⟨yk, yn, yt, yo, ya⟩) HT.out.2.1 HT.out.2.2 HK5.out HF.out.1
              unfold tval at EP
              dsimp only [leafV] at EP
              go_wp2_with fail
              go_fit EP
              rintro e w9 hput
              clear EP t0 t1 t2 t3 t4 t5 t6 l0 l1 l2 l3 l4 l5 l6 s0 s1
              obtain ⟨u9, rfl, hI9, b9⟩ := hput
              obtain ⟨⟨rk, rn, rt, ro, ra⟩, r1, s1, t1, r2, s2, t2, hu9⟩ := hI9.plain.parts
              subst hu9
              have HZ9 : Hid (w9.heap[w.heap.size + 2]? = some (.cells #[.int .i64 0, .int .i64 0, .string ⟨#[]⟩, .int .i64 0, .int .i64 0, .slice none 0 0, .slice none 0 0] 29)) := (b9.block _ (lt_of_heap HZ3.out)).trans HZ3.out
              have HB9 : Hid (Below w.heap.size w w9) := HB3.out.trans (b9.mono HB3.out.size)
              have HI9 : Hid (IsTP _ w9 (tval (⟨rk, rn, rt, ro, ra⟩, .slice r1 s1 t1, .slice r2 s2 t2)) _) := hI9
              clear hI9 b9
              dsimp only [tval]
              have z0 : w9.cell? ⟨w.heap.size + 2, 0, none⟩ = some (.int .i64 0) := Lib.cell_of_heap HZ9.out 0
              have z1 : w9.cell? ⟨w.heap.size + 2, 1, none⟩ = some (.int .i64 0) := Lib.cell_of_heap HZ9.out 1
              have z2 : w9.cell? ⟨w.heap.size + 2, 2, none⟩ = some (.string ⟨#[]⟩) := Lib.cell_of_heap HZ9.out 2
              have z3 : w9.cell? ⟨w.heap.size + 2, 3, none⟩ = some (.int .i64 0) := Lib.cell_of_heap HZ9.out 3
              have z4 : w9.cell? ⟨w.heap.size + 2, 4, none⟩ = some (.int .i64 0) := Lib.cell_of_heap HZ9.out 4
              have z5 : w9.cell? ⟨w.heap.size + 2, 5, none⟩ = some (.slice none 0 0) := Lib.cell_of_heap HZ9.out 5
              have z6 : w9.cell? ⟨w.heap.size + 2, 6, none⟩ = some (.slice none 0 0) := Lib.cell_of_heap HZ9.out 6
              have zf := Lib.frozen_of_heap HZ9.out
              have HBF : Hid (Below w.heap.size w (put7 w9 (w.heap.size + 2) 0 (⟨rk, rn, rt, ro, ra⟩, .slice r1 s1 t1, .slice r2 s2 t2))) := put7_below HB9.out _ _ _ (by omega)
              have HHF : Hid ((put7 w9 (w.heap.size + 2) 0 (⟨rk, rn, rt, ro, ra⟩, .slice r1 s1 t1, .slice r2 s2 t2)).heap[w.heap.size + 2]? = some _) := set7 HZ9.out (.int .i64 rk) (.int .i64 rn) (.string rt) (.int .i64 ro) (.int .i64 ra) (.slice r1 s1 t1) (.slice r2 s2 t2)
              have HIF : Hid (IsTP (fun b => P b ∨ w.heap.size + 4 ≤ b) (put7 w9 (w.heap.size + 2) 0 (⟨rk, rn, rt, ro, ra⟩, .slice r1 s1 t1, .slice r2 s2 t2)) (tval (⟨rk, rn, rt, ro, ra⟩, .slice r1 s1 t1, .slice r2 s2 t2)) _) := fresh_put HI9.out (fun _ h => Or.inl h) (by have := lt_of_heap HS3.out; omega) HPP.out
              go_wp2
              clear z0 z1 z2 z3 z4 z5 z6 zf
              dsimp only [put7, Nat.zero_add] at HBF HHF HIF
              generalize ((((((w9.setCell ⟨w.heap.size + 2, 0, none⟩ (.int .i64 rk)).setCell ⟨w.heap.size + 2, 1, none⟩ (.int .i64 rn)).setCell ⟨w.heap.size + 2, 2, none⟩ (.string rt)).setCell ⟨w.heap.size + 2, 3, none⟩ (.int .i64 ro)).setCell ⟨w.heap.size + 2, 4, none⟩ (.int .i64 ra)).setCell ⟨w.heap.size + 2, 5, none⟩ (.slice r1 s1 t1)).setCell ⟨w.heap.size + 2, 6, none⟩ (.slice r2 s2 t2) = VV at *
              obtain ⟨q0, q1, q2, q3, q4, q5, q6⟩ := tboxed (u := (⟨rk, rn, rt, ro, ra⟩, .slice r1 s1 t1, .slice r2 s2 t2)) HHF.out
              dsimp only at q0 q1 q2 q3 q4 q5 q6
              refine bodyPost_ret (v := .tuple #[tval (⟨rk, rn, rt, ro, ra⟩, .slice r1 s1 t1, .slice r2 s2 t2), .bool true]) (by simp [tval, results, Tryd.results9, go_sem, q0, q1, q2, q3, q4, q5, q6]) rfl ?_
              rw [HPO.out]
              refine ⟨⟨_, _, true, rfl, HIF.out, ?_, ?_⟩, HBF.out⟩
              · exact (fun _ => by
                  rw [UpdK]
                  exact Or.inl ⟨rfl, Or.inr ⟨HQ.out, HKT.out, j, HF.out, by rw [HY.out, ← HSS.out]⟩⟩)
              · exact (fun h => by cases h)
        · have HN9 : Hid (¬ si = 0) := h0
          have h0' : (si == 0) = false := by simpa using h0
          have h0n : (si != 0) = true := by simpa using h0
          clear h0
          have p0 : w2.cell? ⟨w.heap.size + 1, 0, none⟩ = some (.int .i64 1) := Lib.cell_of_heap HP2.out 0
          have s0 : w2.cell? ⟨w.heap.size + 3, 0, none⟩ = some (.string sb) := Lib.cell_of_heap HS2.out 0
          have s1 : w2.cell? ⟨w.heap.size + 3, 1, none⟩ = some (.int .i64 si) := Lib.cell_of_heap HS2.out 1
          have t0 : w2.cell? ⟨w.heap.size, 0, none⟩ = some (.int .i64 xk) := Lib.cell_of_heap HX2.out 0
          have t1 : w2.cell? ⟨w.heap.size, 1, none⟩ = some (.int .i64 xn) := Lib.cell_of_heap HX2.out 1
          have t2 : w2.cell? ⟨w.heap.size, 2, none⟩ = some (.string xt) := Lib.cell_of_heap HX2.out 2
          have t3 : w2.cell? ⟨w.heap.size, 3, none⟩ = some (.int .i64 xo) := Lib.cell_of_heap HX2.out 3
          have t4 : w2.cell? ⟨w.heap.size, 4, none⟩ = some (.int .i64 xa) := Lib.cell_of_heap HX2.out 4
          have t5 : w2.cell? ⟨w.heap.size, 5, none⟩ = some (.slice a1 kn c1) := Lib.cell_of_heap HX2.out 5
          have t6 : w2.cell? ⟨w.heap.size, 6, none⟩ = some (.slice a2 tn c2) := Lib.cell_of_heap HX2.out 6
          have z0 : w2.cell? ⟨w.heap.size + 2, 0, none⟩ = some (.int .i64 0) := Lib.cell_of_heap HZ2.out 0
          have z1 : w2.cell? ⟨w.heap.size + 2, 1, none⟩ = some (.int .i64 0) := Lib.cell_of_heap HZ2.out 1
          have z2 : w2.cell? ⟨w.heap.size + 2, 2, none⟩ = some (.string ⟨#[]⟩) := Lib.cell_of_heap HZ2.out 2
          have z3 : w2.cell? ⟨w.heap.size + 2, 3, none⟩ = some (.int .i64 0) := Lib.cell_of_heap HZ2.out 3
          have z4 : w2.cell? ⟨w.heap.size + 2, 4, none⟩ = some (.int .i64 0) := Lib.cell_of_heap HZ2.out 4
          have z5 : w2.cell? ⟨w.heap.size + 2, 5, none⟩ = some (.slice none 0 0) := Lib.cell_of_heap HZ2.out 5
          have z6 : w2.cell? ⟨w.heap.size + 2, 6, none⟩ = some (.slice none 0 0) := Lib.cell_of_heap HZ2.out 6
          have zf := Lib.frozen_of_heap HZ2.out
          have HBF : Hid (Below w.heap.size w (put7 w2 (w.heap.size + 2) 0 (⟨xk, xn, xt, xo, xa⟩, .slice a1 kn c1, .slice a2 tn c2))) := put7_below HB2.out _ _ _ (by omega)
          have HHF : Hid ((put7 w2 (w.heap.size + 2) 0 (⟨xk, xn, xt, xo, xa⟩, .slice a1 kn c1, .slice a2 tn c2)).heap[w.heap.size + 2]? = some _) := set7 HZ2.out (.int .i64 xk) (.int .i64 xn) (.string xt) (.int .i64 xo) (.int .i64 xa) (.slice a1 kn c1) (.slice a2 tn c2)
          have HIF : Hid (IsTP (fun b => P b ∨ w.heap.size + 4 ≤ b) (put7 w2 (w.heap.size + 2) 0 (⟨xk, xn, xt, xo, xa⟩, .slice a1 kn c1, .slice a2 tn c2)) (tval (⟨xk, xn, xt, xo, xa⟩, .slice a1 kn c1, .slice a2 tn c2)) T) := HTT.out _ (put7_below HB2.out _ _ _ (by omega))
          go_wp2
          clear z0 z1 z2 z3 z4 z5 z6 zf
          dsimp only [put7, Nat.zero_add] at HBF HHF HIF
          generalize ((((((w2.setCell ⟨w.heap.size + 2, 0, none⟩ (.int .i64 xk)).setCell ⟨w.heap.size + 2, 1, none⟩ (.int .i64 xn)).setCell ⟨w.heap.size + 2, 2, none⟩ (.string xt)).setCell ⟨w.heap.size + 2, 3, none⟩ (.int .i64 xo)).setCell ⟨w.heap.size + 2, 4, none⟩ (.int .i64 xa)).setCell ⟨w.heap.size + 2, 5, none⟩ (.slice a1 kn c1)).setCell ⟨w.heap.size + 2, 6, none⟩ (.slice a2 tn c2) = VV at *
          obtain ⟨q0, q1, q2, q3, q4, q5, q6⟩ := tboxed (u := (⟨xk, xn, xt, xo, xa⟩, .slice a1 kn c1, .slice a2 tn c2)) HHF.out
          dsimp only at q0 q1 q2 q3 q4 q5 q6
          refine bodyPost_ret (v := .tuple #[tval (⟨xk, xn, xt, xo, xa⟩, .slice a1 kn c1, .slice a2 tn c2), .bool false]) (by simp [tval, results, Tryd.results9, go_sem, q0, q1, q2, q3, q4, q5, q6]) rfl ?_
          rw [HPO.out]
          refine ⟨⟨_, _, false, rfl, HIF.out, ?_, ?_⟩, HBF.out⟩
          · exact (fun h => by cases h)
          · exact (fun _ T' h => by
              rw [UpdK] at h
              rcases h with ⟨_, h⟩ | ⟨h, _⟩ | ⟨h, _⟩
              · exact set_none HQ.out (by rw [HKY.out]; simp [HN9.out]) h
              · exact absurd h (by decide)
              · exact absurd h (by decide))
    · have h5' : (xk == 5) = false := by simpa using h5
      have h5n : (xk != 5) = true := by simpa using h5
      have HN9 : Hid (¬ xk = 5) := h5
      clear h5
      have p0 : w2.cell? ⟨w.heap.size + 1, 0, none⟩ = some (.int .i64 1) := Lib.cell_of_heap HP2.out 0
      have s0 : w2.cell? ⟨w.heap.size + 3, 0, none⟩ = some (.string sb) := Lib.cell_of_heap HS2.out 0
      have s1 : w2.cell? ⟨w.heap.size + 3, 1, none⟩ = some (.int .i64 si) := Lib.cell_of_heap HS2.out 1
      have t0 : w2.cell? ⟨w.heap.size, 0, none⟩ = some (.int .i64 xk) := Lib.cell_of_heap HX2.out 0
      have t1 : w2.cell? ⟨w.heap.size, 1, none⟩ = some (.int .i64 xn) := Lib.cell_of_heap HX2.out 1
      have t2 : w2.cell? ⟨w.heap.size, 2, none⟩ = some (.string xt) := Lib.cell_of_heap HX2.out 2
      have t3 : w2.cell? ⟨w.heap.size, 3, none⟩ = some (.int .i64 xo) := Lib.cell_of_heap HX2.out 3
      have t4 : w2.cell? ⟨w.heap.size, 4, none⟩ = some (.int .i64 xa) := Lib.cell_of_heap HX2.out 4
      have t5 : w2.cell? ⟨w.heap.size, 5, none⟩ = some (.slice a1 kn c1) := Lib.cell_of_heap HX2.out 5
      have t6 : w2.cell? ⟨w.heap.size, 6, none⟩ = some (.slice a2 tn c2) := Lib.cell_of_heap HX2.out 6
      have z0 : w2.cell? ⟨w.heap.size + 2, 0, none⟩ = some (.int .i64 0) := Lib.cell_of_heap HZ2.out 0
      have z1 : w2.cell? ⟨w.heap.size + 2, 1, none⟩ = some (.int .i64 0) := Lib.cell_of_heap HZ2.out 1
      have z2 : w2.cell? ⟨w.heap.size + 2, 2, none⟩ = some (.string ⟨#[]⟩) := Lib.cell_of_heap HZ2.out 2
      have z3 : w2.cell? ⟨w.heap.size + 2, 3, none⟩ = some (.int .i64 0) := Lib.cell_of_heap HZ2.out 3
      have z4 : w2.cell? ⟨w.heap.size + 2, 4, none⟩ = some (.int .i64 0) := Lib.cell_of_heap HZ2.out 4
      have z5 : w2.cell? ⟨w.heap.size + 2, 5, none⟩ = some (.slice none 0 0) := Lib.cell_of_heap HZ2.out 5
      have z6 : w2.cell? ⟨w.heap.size + 2, 6, none⟩ = some (.slice none 0 0) := Lib.cell_of_heap HZ2.out 6
      have zf := Lib.frozen_of_heap HZ2.out
      have HBF : Hid (Below w.heap.size w (put7 w2 (w.heap.size + 2) 0 (⟨xk, xn, xt, xo, xa⟩, .slice a1 kn c1, .slice a2 tn c2))) := put7_below HB2.out _ _ _ (by omega)
      have HHF : Hid ((put7 w2 (w.heap.size + 2) 0 (⟨xk, xn, xt, xo, xa⟩, .slice a1 kn c1, .slice a2 tn c2)).heap[w.heap.size + 2]? = some _) := set7 HZ2.out (.int .i64 xk) (.int .i64 xn) (.string xt) (.int .i64 xo) (.int .i64 xa) (.slice a1 kn c1) (.slice a2 tn c2)
      have HIF : Hid (IsTP (fun b => P b ∨ w.heap.size + 4 ≤ b) (put7 w2 (w.heap.size + 2) 0 (⟨xk, xn, xt, xo, xa⟩, .slice a1 kn c1, .slice a2 tn c2)) (tval (⟨xk, xn, xt, xo, xa⟩, .slice a1 kn c1, .slice a2 tn c2)) T) := HTT.out _ (put7_below HB2.out _ _ _ (by omega))
      go_wp2
      clear z0 z1 z2 z3 z4 z5 z6 zf
      dsimp only [put7, Nat.zero_add] at HBF HHF HIF
      generalize ((((((w2.setCell ⟨w.heap.size + 2, 0, none⟩ (.int .i64 xk)).setCell ⟨w.heap.size + 2, 1, none⟩ (.int .i64 xn)).setCell ⟨w.heap.size + 2, 2, none⟩ (.string xt)).setCell ⟨w.heap.size + 2, 3, none⟩ (.int .i64 xo)).setCell ⟨w.heap.size + 2, 4, none⟩ (.int .i64 xa)).setCell ⟨w.heap.size + 2, 5, none⟩ (.slice a1 kn c1)).setCell ⟨w.heap.size + 2, 6, none⟩ (.slice a2 tn c2) = VV at *
      obtain ⟨q0, q1, q2, q3, q4, q5, q6⟩ := tboxed (u := (⟨xk, xn, xt, xo, xa⟩, .slice a1 kn c1, .slice a2 tn c2)) HHF.out
      dsimp only at q0 q1 q2 q3 q4 q5 q6
      refine bodyPost_ret (v := .tuple #[tval (⟨xk, xn, xt, xo, xa⟩, .slice a1 kn c1, .slice a2 tn c2), .bool false]) (by simp [tval, results, Tryd.results9, go_sem, q0, q1, q2, q3, q4, q5, q6]) rfl ?_
      rw [HPO.out]
      refine ⟨⟨_, _, false, rfl, HIF.out, ?_, ?_⟩, HBF.out⟩
      · exact (fun h => by cases h)
      · exact (fun _ T' h => by
          rw [UpdK] at h
          rcases h with ⟨_, h⟩ | ⟨h, _⟩ | ⟨h, _⟩
          · exact set_none HQ.out (by rw [HKY.out]; simp [HN9.out]) h
          · exact absurd h (by decide)
          · exact absurd h (by decide))
end Go.Proofs.YtegbjkjeoegfbaaDoor

namespace Go.Proofs.YtegbjkjeoegfbaaDoor
open Go.RowKit Go.Sort

set_option maxRecDepth 100000 in
set_option maxHeartbeats 8000000 in
theorem pat_d {P : Nat → Prop} {v p pp : Value} {T : JT} {s : Stp} {r : List Stp} {kk : Int} (y : V) (w : World) (hP : ∀ b, P b → b < w.heap.size) (hT : IsTP P w v T) (hf : formedB T = true) (hsz : T.size ≤ 400) (hp : IsSteps w p (s :: r)) (hpp : ∃ a n c, pp = .slice a n c) (hr : r ≠ []) (IH : ∀ (t : JT) (vt pt : Value) (W : World), t ∈ T.ts → (∀ b, P b → b < W.heap.size) → IsTP P W vt t → IsSteps W pt r → Calls Tryd.prog 9 #[vt, pchK kk pp y, pt] W fun e w' => PatP P W kk t r y e w' ∧ Below W.heap.size W w') :
    Calls Tryd.prog 9 #[v, pchK kk pp y, p] w fun e w' => PatP P w kk T (s :: r) y e w' ∧ Below w.heap.size w w' := by
  obtain ⟨qa, qn, qc, rfl⟩ := hpp
  have HPP : Hid (∀ b, P b → b < w.heap.size) := hP
  obtain ⟨eT, uk, a2, c2, us, rfl, nk0, nl, nc, nz, nr0, ni⟩ := hT.inv
  have nr := nr0.row
  have nk := nk0.strs
  obtain ⟨a1, c1, rfl, -, -, -⟩ := id nk
  clear eT nk0 nr0
  have HT : Hid (IsTP P w (tval (T.x, .slice a1 T.ks.length c1, .slice a2 T.ts.length c2)) T ∧ formedB T = true ∧ T.size ≤ 400) := ⟨hT, hf, hsz⟩
  have HROW : Hid (us.length = T.ts.length ∧ T.ts.length ≤ c2 ∧ RowT w a2 us ∧ (∀ i (h : i < us.length) (h' : i < T.ts.length), IsTP P w (tval us[i]) T.ts[i]) ∧ IsStrs w (.slice a1 T.ks.length c1) T.ks) := ⟨nl, nc.1, nr, ni, nk⟩
  obtain ⟨pa, pc, rfl, hp1, hp2, hp3⟩ := id hp
  obtain ⟨pb, po, rfl, hpb, hpm⟩ := hp3 (by simp)
  have HPA : Hid (IsSteps w (.slice (some ⟨pb, po, none⟩) (s :: r).length pc) (s :: r)) := hp
  have hp0 := hpm 0 (by simp)
  simp only [Nat.zero_mul, Nat.add_zero, List.getElem_cons_zero] at hp0
  obtain ⟨post, hpost⟩ : ∃ post, post = fun (e : Ending) (w' : World) => PatP P w kk T (s :: r) y e w' ∧ Below w.heap.size w w' := ⟨_, rfl⟩
  rw [← hpost]
  have HPO : Hid (post = fun (e : Ending) (w' : World) => PatP P w kk T (s :: r) y e w' ∧ Below w.heap.size w w') := hpost
  clear hpost
  obtain ⟨tn, htn⟩ : ∃ tn, tn = T.ts.length := ⟨_, rfl⟩
  obtain ⟨kn, hkn⟩ : ∃ kn, kn = T.ks.length := ⟨_, rfl⟩
  have HN : Hid (tn = T.ts.length ∧ kn = T.ks.length) := ⟨htn, hkn⟩
  obtain ⟨q, hq⟩ : ∃ q, kidOf T.x T.ks T.ts.length s = q := ⟨_, rfl⟩
  have HQ : Hid (kidOf T.x T.ks T.ts.length s = q) := hq
  obtain ⟨xx, hxx⟩ : ∃ xx, xx = T.x := ⟨_, rfl⟩
  have HXX : Hid (xx = T.x) := hxx
  have HYY : Hid (∃ y', y' = y) := ⟨y, rfl⟩
  obtain ⟨y', hy'⟩ := HYY.out
  clear HYY
  rw [← hy'] at HPO
  have HY : Hid (y' = y) := hy'
  clear hy'
  obtain ⟨ss, hss⟩ : ∃ ss, ss = s := ⟨_, rfl⟩
  have HSS : Hid (ss = s) := hss
  rw [← hss] at hp0
  obtain ⟨xk, xn, xt, xo, xa⟩ := xx
  obtain ⟨yk, yn, yt, yo, ya⟩ := y
  obtain ⟨sb, si⟩ := ss
  obtain ⟨X4, P4, Z4, S4, b4, b3⟩ := four_boxes w (.cells #[.int .i64 xk, .int .i64 xn, .string xt, .int .i64 xo, .int .i64 xa, .slice a1 kn c1, .slice a2 tn c2] 29) (.cells #[.int .i64 kk, .slice qa qn qc, .int .i64 yk, .int .i64 yn, .string yt, .int .i64 yo, .int .i64 ya] 43) (.cells #[.int .i64 0, .int .i64 0, .string ⟨#[]⟩, .int .i64 0, .int .i64 0, .slice none 0 0, .slice none 0 0] 29) (.cells #[.string sb, .int .i64 si] 45)
  have E1 := index_any T.x T.ks a1 a2 c1 T.ts.length c2 s ((((w.alloc (.cells #[.int .i64 xk, .int .i64 xn, .string xt, .int .i64 xo, .int .i64 xa, .slice a1 kn c1, .slice a2 tn c2] 29)).alloc (.cells #[.int .i64 kk, .slice qa qn qc, .int .i64 yk, .int .i64 yn, .string yt, .int .i64 yo, .int .i64 ya] 43)).alloc (.cells #[.int .i64 0, .int .i64 0, .string ⟨#[]⟩, .int .i64 0, .int .i64 0, .slice none 0 0, .slice none 0 0] 29)).alloc (.cells #[.string sb, .int .i64 si] 45)) (nk.below b4)
  rw [hq, ← htn, ← hkn, ← hxx, ← hss] at E1
  rw [← htn, ← hkn, ← hxx]
  have HTT : Hid (∀ W, Below w.heap.size w W → IsTP (fun b => P b ∨ w.heap.size + 4 ≤ b) W (tval (⟨xk, xn, xt, xo, xa⟩, .slice a1 kn c1, .slice a2 tn c2)) T) := by
    intro W hW
    have h9 : IsTP (fun b => P b ∨ w.heap.size + 4 ≤ b) W _ T := hT.move hW.size (fun b _ h2 => hW.block b h2) (fun _ h => Or.inl h)
    rw [← htn, ← hkn, ← hxx] at h9
    exact h9
  have HTP : Hid (∀ W, Below w.heap.size w W → IsTP P W (tval (⟨xk, xn, xt, xo, xa⟩, .slice a1 kn c1, .slice a2 tn c2)) T) := by
    intro W hW
    have h9 : IsTP P W _ T := hT.move hW.size (fun b _ h2 => hW.block b h2) (fun _ h => h)
    rw [← htn, ← hkn, ← hxx] at h9
    exact h9
  have e0 : (((w.alloc (.cells #[.int .i64 xk, .int .i64 xn, .string xt, .int .i64 xo, .int .i64 xa, .slice a1 kn c1, .slice a2 tn c2] 29)).alloc (.cells #[.int .i64 kk, .slice qa qn qc, .int .i64 yk, .int .i64 yn, .string yt, .int .i64 yo, .int .i64 ya] 43)).alloc (.cells #[.int .i64 0, .int .i64 0, .string ⟨#[]⟩, .int .i64 0, .int .i64 0, .slice none 0 0, .slice none 0 0] 29)).cell? ⟨pb, po, none⟩ = some (.string sb) := (b3.cell (p := ⟨pb, po, none⟩) hpb).trans hp0.1
  have e1 : (((w.alloc (.cells #[.int .i64 xk, .int .i64 xn, .string xt, .int .i64 xo, .int .i64 xa, .slice a1 kn c1, .slice a2 tn c2] 29)).alloc (.cells #[.int .i64 kk, .slice qa qn qc, .int .i64 yk, .int .i64 yn, .string yt, .int .i64 yo, .int .i64 ya] 43)).alloc (.cells #[.int .i64 0, .int .i64 0, .string ⟨#[]⟩, .int .i64 0, .int .i64 0, .slice none 0 0, .slice none 0 0] 29)).cell? ⟨pb, po + 1, none⟩ = some (.int .i64 si) := (b3.cell (p := ⟨pb, po + 1, none⟩) hpb).trans hp0.2
  have HX : Hid (_ = some _) := X4
  have HP : Hid (_ = some _) := P4
  have HZ : Hid (_ = some _) := Z4
  have HS : Hid (_ = some _) := S4
  have HB : Hid (Below w.heap.size w _) := b4
  obtain ⟨ln, hln⟩ : ∃ ln, ln = (s :: r).length := ⟨_, rfl⟩
  have hr1 : r.length ≠ 0 := fun e => hr (List.length_eq_zero_iff.1 e)
  have HLN : Hid (ln = r.length + 1 ∧ 1 ≤ r.length ∧ ln ≤ pc) := ⟨by rw [hln]; rfl, by omega, by rw [hln]; exact hp1⟩
  rw [← hln] at HPA ⊢
  have g2 : (1 : Int) < ln := by have := HLN.out; omega
  have HRR : Hid (r ≠ []) := hr
  have HIH : Hid (∀ (t : JT) (vt pt : Value) (W : World), t ∈ T.ts → (∀ b, P b → b < W.heap.size) → IsTP P W vt t → IsSteps W pt r → Calls Tryd.prog 9 #[vt, pchK kk (.slice qa qn qc) ⟨yk, yn, yt, yo, ya⟩, pt] W fun e w' => PatP P W kk t r ⟨yk, yn, yt, yo, ya⟩ e w' ∧ Below W.heap.size W w') := IH
  clear hln hr1 hr IH
  clear hP hT hf hsz nk nl nc nz nr ni hp hp1 hp2 hp3 hpm hp0 htn hkn hq hxx hss X4 P4 Z4 S4 b4 b3 hpb
  unfold tval at E1 ⊢
  dsimp only [pchK, stpV] at E1 ⊢
  go_enter Tryd.func9, Tryd.ntmps9
  go_wp2_with fail
  go_fit E1
  rintro e w1 ⟨rfl, b1⟩
  have HX1 : Hid (w1.heap[w.heap.size]? = some (.cells #[.int .i64 xk, .int .i64 xn, .string xt, .int .i64 xo, .int .i64 xa, .slice a1 kn c1, .slice a2 tn c2] 29)) := (b1.block _ (lt_of_heap HX.out)).trans HX.out
  have HP1 : Hid (w1.heap[w.heap.size + 1]? = some (.cells #[.int .i64 kk, .slice qa qn qc, .int .i64 yk, .int .i64 yn, .string yt, .int .i64 yo, .int .i64 ya] 43)) := (b1.block _ (lt_of_heap HP.out)).trans HP.out
  have HZ1 : Hid (w1.heap[w.heap.size + 2]? = some (.cells #[.int .i64 0, .int .i64 0, .string ⟨#[]⟩, .int .i64 0, .int .i64 0, .slice none 0 0, .slice none 0 0] 29)) := (b1.block _ (lt_of_heap HZ.out)).trans HZ.out
  have HS1 : Hid (w1.heap[w.heap.size + 3]? = some (.cells #[.string sb, .int .i64 si] 45)) := (b1.block _ (lt_of_heap HS.out)).trans HS.out
  have HB1 : Hid (Below w.heap.size w w1) := HB.out.trans (b1.mono HB.out.size)
  clear b1 E1 HX HP HZ HS HB e0 e1
  cases q with
  | none =>
    have hi1 : idxI none = -1 := rfl
    rw [hi1]
    clear hi1
    have t0 : w1.cell? ⟨w.heap.size, 0, none⟩ = some (.int .i64 xk) := Lib.cell_of_heap HX1.out 0
    have t1 : w1.cell? ⟨w.heap.size, 1, none⟩ = some (.int .i64 xn) := Lib.cell_of_heap HX1.out 1
    have t2 : w1.cell? ⟨w.heap.size, 2, none⟩ = some (.string xt) := Lib.cell_of_heap HX1.out 2
    have t3 : w1.cell? ⟨w.heap.size, 3, none⟩ = some (.int .i64 xo) := Lib.cell_of_heap HX1.out 3
    have t4 : w1.cell? ⟨w.heap.size, 4, none⟩ = some (.int .i64 xa) := Lib.cell_of_heap HX1.out 4
    have t5 : w1.cell? ⟨w.heap.size, 5, none⟩ = some (.slice a1 kn c1) := Lib.cell_of_heap HX1.out 5
    have t6 : w1.cell? ⟨w.heap.size, 6, none⟩ = some (.slice a2 tn c2) := Lib.cell_of_heap HX1.out 6
    have z0 : w1.cell? ⟨w.heap.size + 2, 0, none⟩ = some (.int .i64 0) := Lib.cell_of_heap HZ1.out 0
    have z1 : w1.cell? ⟨w.heap.size + 2, 1, none⟩ = some (.int .i64 0) := Lib.cell_of_heap HZ1.out 1
    have z2 : w1.cell? ⟨w.heap.size + 2, 2, none⟩ = some (.string ⟨#[]⟩) := Lib.cell_of_heap HZ1.out 2
    have z3 : w1.cell? ⟨w.heap.size + 2, 3, none⟩ = some (.int .i64 0) := Lib.cell_of_heap HZ1.out 3
    have z4 : w1.cell? ⟨w.heap.size + 2, 4, none⟩ = some (.int .i64 0) := Lib.cell_of_heap HZ1.out 4
    have z5 : w1.cell? ⟨w.heap.size + 2, 5, none⟩ = some (.slice none 0 0) := Lib.cell_of_heap HZ1.out 5
    have z6 : w1.cell? ⟨w.heap.size + 2, 6, none⟩ = some (.slice none 0 0) := Lib.cell_of_heap HZ1.out 6
    have zf := Lib.frozen_of_heap HZ1.out
    have HBF : Hid (Below w.heap.size w (put7 w1 (w.heap.size + 2) 0 (⟨xk, xn, xt, xo, xa⟩, .slice a1 kn c1, .slice a2 tn c2))) := put7_below HB1.out _ _ _ (by omega)
    have HHF : Hid ((put7 w1 (w.heap.size + 2) 0 (⟨xk, xn, xt, xo, xa⟩, .slice a1 kn c1, .slice a2 tn c2)).heap[w.heap.size + 2]? = some _) := set7 HZ1.out (.int .i64 xk) (.int .i64 xn) (.string xt) (.int .i64 xo) (.int .i64 xa) (.slice a1 kn c1) (.slice a2 tn c2)
    have HIF : Hid (IsTP (fun b => P b ∨ w.heap.size + 4 ≤ b) (put7 w1 (w.heap.size + 2) 0 (⟨xk, xn, xt, xo, xa⟩, .slice a1 kn c1, .slice a2 tn c2)) (tval (⟨xk, xn, xt, xo, xa⟩, .slice a1 kn c1, .slice a2 tn c2)) T) := HTT.out _ (put7_below HB1.out _ _ _ (by omega))
    go_wp2
    clear z0 z1 z2 z3 z4 z5 z6 zf
    dsimp only [put7, Nat.zero_add] at HBF HHF HIF
    generalize ((((((w1.setCell ⟨w.heap.size + 2, 0, none⟩ (.int .i64 xk)).setCell ⟨w.heap.size + 2, 1, none⟩ (.int .i64 xn)).setCell ⟨w.heap.size + 2, 2, none⟩ (.string xt)).setCell ⟨w.heap.size + 2, 3, none⟩ (.int .i64 xo)).setCell ⟨w.heap.size + 2, 4, none⟩ (.int .i64 xa)).setCell ⟨w.heap.size + 2, 5, none⟩ (.slice a1 kn c1)).setCell ⟨w.heap.size + 2, 6, none⟩ (.slice a2 tn c2) = VV at *
    obtain ⟨q0, q1, q2, q3, q4, q5, q6⟩ := tboxed (u := (⟨xk, xn, xt, xo, xa⟩, .slice a1 kn c1, .slice a2 tn c2)) HHF.out
    dsimp only at q0 q1 q2 q3 q4 q5 q6
    refine bodyPost_ret (v := .tuple #[tval (⟨xk, xn, xt, xo, xa⟩, .slice a1 kn c1, .slice a2 tn c2), .bool false]) (by simp [tval, results, Tryd.results9, go_sem, q0, q1, q2, q3, q4, q5, q6]) rfl ?_
    rw [HPO.out]
    refine ⟨⟨_, _, false, rfl, HIF.out, ?_, ?_⟩, HBF.out⟩
    · exact (fun h => by cases h)
    · exact (fun _ T' h => by
        obtain ⟨i, t, t', h1, _⟩ := (updk_cons HRR.out).1 h
        rw [HQ.out] at h1
        cases h1)
  | some i =>
    have hi1 : idxI (some i) = (i : Int) := rfl
    rw [hi1]
    clear hi1
    have hil : i < T.ts.length := kidOf_lt HQ.out (fun h5 => ((nodeB_map h5).1 ((formed_iff T).1 HT.out.2.1).1).2.1)
    obtain ⟨hul, huc, hrow, hkids, -⟩ := HROW.out
    have hiu : i < us.length := by omega
    obtain ⟨kb, ko, ek4, hk4, hk5⟩ := hrow (fun e => by rw [e] at hiu; simp at hiu)
    have hkid := hkids i hiu hil
    obtain ⟨⟨ik, im, it, io, ia⟩, j1, j2, j3, j4, j5, j6, hui⟩ := hkid.plain.parts
    obtain ⟨t, ht⟩ : ∃ t, T.ts[i]'hil = t := ⟨_, rfl⟩
    have HTI : Hid (T.ts[i]? = some t) := by show _ = _; rw [List.getElem?_eq_getElem hil, ht]
    have htm : t ∈ T.ts := by rw [← ht]; exact List.getElem_mem hil
    rw [hui, ht] at hkid
    have hz1 := HB1.out.size
    have hs1 := lt_of_heap HS1.out
    have HCELL : Hid (∀ W, Below w1.heap.size w1 W → W.cell? ⟨w.heap.size, 6, none⟩ = some (.slice (some ⟨kb, ko, none⟩) tn c2) ∧ W.cell? ⟨kb, ko + i * 7, none⟩ = some (.int .i64 ik) ∧ W.cell? ⟨kb, ko + i * 7 + 1, none⟩ = some (.int .i64 im) ∧ W.cell? ⟨kb, ko + i * 7 + 2, none⟩ = some (.string it) ∧ W.cell? ⟨kb, ko + i * 7 + 3, none⟩ = some (.int .i64 io) ∧ W.cell? ⟨kb, ko + i * 7 + 4, none⟩ = some (.int .i64 ia) ∧ W.cell? ⟨kb, ko + i * 7 + 5, none⟩ = some (.slice j1 j2 j3) ∧ W.cell? ⟨kb, ko + i * 7 + 6, none⟩ = some (.slice j4 j5 j6) ∧ W.cell? ⟨w.heap.size + 1, 0, none⟩ = some (.int .i64 kk) ∧ W.cell? ⟨w.heap.size + 1, 1, none⟩ = some (.slice qa qn qc) ∧ W.cell? ⟨w.heap.size + 1, 2, none⟩ = some (.int .i64 yk) ∧ W.cell? ⟨w.heap.size + 1, 3, none⟩ = some (.int .i64 yn) ∧ W.cell? ⟨w.heap.size + 1, 4, none⟩ = some (.string yt) ∧ W.cell? ⟨w.heap.size + 1, 5, none⟩ = some (.int .i64 yo) ∧ W.cell? ⟨w.heap.size + 1, 6, none⟩ = some (.int .i64 ya)) := by
      intro W hW
      have hx := (hW.block _ (lt_of_heap HX1.out)).trans HX1.out
      have hpp := (hW.block _ (lt_of_heap HP1.out)).trans HP1.out
      have hc : ∀ d, W.cell? ⟨kb, d, none⟩ = w.cell? ⟨kb, d, none⟩ := fun d => (hW.cell (p := ⟨kb, d, none⟩) (show kb < w1.heap.size by omega)).trans (HB1.out.cell (p := ⟨kb, d, none⟩) hk4)
      have hk6 := fun j hj => (hc _).trans (hk5 i hiu j hj)
      rw [hui] at hk6
      refine ⟨?_, hk6 0 (by decide), hk6 1 (by decide), hk6 2 (by decide), hk6 3 (by decide), hk6 4 (by decide), hk6 5 (by decide), hk6 6 (by decide), Lib.cell_of_heap hpp 0, Lib.cell_of_heap hpp 1, Lib.cell_of_heap hpp 2, Lib.cell_of_heap hpp 3, Lib.cell_of_heap hpp 4, Lib.cell_of_heap hpp 5, Lib.cell_of_heap hpp 6⟩
      have h9 : W.cell? ⟨w.heap.size, 6, none⟩ = some (.slice a2 tn c2) := Lib.cell_of_heap hx 6
      rw [ek4] at h9
      exact h9
    obtain ⟨rl, hrl⟩ : ∃ rl, rl = r.length := ⟨_, rfl⟩
    obtain ⟨pc1, hpc1'⟩ : ∃ pc1, pc1 = pc - 1 := ⟨_, rfl⟩
    have EP := fun (W : World) (hW : Below w1.heap.size w1 W) => HIH.out t (tval (⟨ik, im, it, io, ia⟩, .slice j1 j2 j3, .slice j4 j5 j6)) (.slice (some ⟨pb, po + 2, none⟩) rl pc1) W htm (fun b hb => by have := HPP.out b hb; have := hW.size; omega) (hkid.move (Nat.le_trans hz1 hW.size) (fun b _ h2 => (hW.block b (by omega)).trans (HB1.out.block b h2)) (fun _ h => h)) (by
      have h9 := ((HPA.out).tail).below (HB1.out.trans (hW.mono hz1))
      rw [hrl, hpc1']
      exact h9)
    unfold tval at EP
    dsimp only [pchK] at EP
    have hpc1 : ¬ pc = 1 := by have := HLN.out; omega
    have hln1 : ln - 1 = rl := by have := HLN.out; omega
    have hpc2 : pc - 1 = pc1 := hpc1'.symm
    have g3 : (i : Int) < tn := by have := HN.out.1; omega
    have g4 : (1 : Int) ≤ ln := by omega
    clear hil hul huc hrow hkids hiu ek4 hk4 hk5 hkid hui ht htm hrl hpc1' hz1 hs1
    go_upto_region 6 with fail
    refine wp_region_noPanic ?_
    refine wp_region_held_drew (S := fun W => Below w1.heap.size w1 W) (by kernel_rfl) ((Below.refl _ _).drew) (fun hHeld => ?_)
    refine wpAnyH_take (i := 0) (oi := { dst := some 26, op := Op.fieldAddr 29 (Operand.tmp 3) 2, type := 0, pos := "json.go:274", after := #[], guard := none }) (v := ?_) rfl (by kernel_rfl) (by kernel_rfl) (by kernel_rfl) (fun _ _ _ h => h) (Or.inl ⟨by rfl, ?_⟩) (by assumption) ?_
    rotate_left
    · intro wz hSw
      try dsimp only at hSw
      obtain ⟨f6, i0, i1, i2, i3, i4, i5, i6, p0, p1, p2, p3, p4, p5, p6⟩ := HCELL.out wz hSw
      go_simp
      try with_reducible rfl
    try simp only [Act.put, List.setIfInBounds_toArray, List.set_cons_zero, List.set_cons_succ]
    refine wpAnyH_take (i := 1) (oi := { dst := some 27, op := Op.load 27 (Operand.tmp 26), type := 27, pos := "json.go:274", after := #[{ on := 0, ground := Ground.data }], guard := none }) (v := ?_) rfl (by kernel_rfl) (by kernel_rfl) (by kernel_rfl) (fun _ _ _ h => h) (Or.inl ⟨by rfl, ?_⟩) (by assumption) ?_
    rotate_left
    · intro wz hSw
      try dsimp only at hSw
      obtain ⟨f6, i0, i1, i2, i3, i4, i5, i6, p0, p1, p2, p3, p4, p5, p6⟩ := HCELL.out wz hSw
      go_simp
      try with_reducible rfl
    try simp only [Act.put, List.setIfInBounds_toArray, List.set_cons_zero, List.set_cons_succ]
    refine wpAnyH_take (i := 2) (oi := { dst := some 28, op := Op.move (Operand.tmp 9), type := 3, pos := "json.go:274", after := #[], guard := none }) (v := ?_) rfl (by kernel_rfl) (by kernel_rfl) (by kernel_rfl) (fun _ _ _ h => h) (Or.inl ⟨by rfl, ?_⟩) (by assumption) ?_
    rotate_left
    · intro wz hSw
      try dsimp only at hSw
      obtain ⟨f6, i0, i1, i2, i3, i4, i5, i6, p0, p1, p2, p3, p4, p5, p6⟩ := HCELL.out wz hSw
      go_simp
      try with_reducible rfl
    try simp only [Act.put, List.setIfInBounds_toArray, List.set_cons_zero, List.set_cons_succ]
    refine wpAnyH_take (i := 3) (oi := { dst := some 29, op := Op.indexAddr 27 (Operand.tmp 27) (Operand.tmp 28), type := 0, pos := "json.go:274", after := #[{ on := 1, ground := Ground.data }, { on := 2, ground := Ground.data }], guard := none }) (v := ?_) rfl (by kernel_rfl) (by kernel_rfl) (by kernel_rfl) (fun _ _ _ h => h) (Or.inl ⟨by rfl, ?_⟩) (by assumption) ?_
    rotate_left
    · intro wz hSw
      try dsimp only at hSw
      obtain ⟨f6, i0, i1, i2, i3, i4, i5, i6, p0, p1, p2, p3, p4, p5, p6⟩ := HCELL.out wz hSw
      go_simp
      try with_reducible rfl
    try simp only [Act.put, List.setIfInBounds_toArray, List.set_cons_zero, List.set_cons_succ]
    refine wpAnyH_take (i := 4) (oi := { dst := some 30, op := Op.load 29 (Operand.tmp 29), type := 29, pos := "json.go:274", after := #[{ on := 3, ground := Ground.data }], guard := none }) (v := ?_) rfl (by kernel_rfl) (by kernel_rfl) (by kernel_rfl) (fun _ _ _ h => h) (Or.inl ⟨by rfl, ?_⟩) (by assumption) ?_
    rotate_left
    · intro wz hSw
      try dsimp only at hSw
      obtain ⟨f6, i0, i1, i2, i3, i4, i5, i6, p0, p1, p2, p3, p4, p5, p6⟩ := HCELL.out wz hSw
      go_simp
      try with_reducible rfl
    try simp only [Act.put, List.setIfInBounds_toArray, List.set_cons_zero, List.set_cons_succ]
    refine wpAnyH_take (i := 5) (oi := { dst := some 31, op := Op.load 43 (Operand.tmp 4), type := 43, pos := "json.go:274", after := #[], guard := none }) (v := ?_) rfl (by kernel_rfl) (by kernel_rfl) (by kernel_rfl) (fun _ _ _ h => h) (Or.inl ⟨by rfl, ?_⟩) (by assumption) ?_
    rotate_left
    · intro wz hSw
      try dsimp only at hSw
      obtain ⟨f6, i0, i1, i2, i3, i4, i5, i6, p0, p1, p2, p3, p4, p5, p6⟩ := HCELL.out wz hSw
      go_simp
      try with_reducible rfl
    try simp only [Act.put, List.setIfInBounds_toArray, List.set_cons_zero, List.set_cons_succ]
    refine wpAnyH_take (i := 6) (oi := { dst := some 32, op := Op.move (Operand.tmp 2), type := 41, pos := "json.go:274", after := #[], guard := none }) (v := ?_) rfl (by kernel_rfl) (by kernel_rfl) (by kernel_rfl) (fun _ _ _ h => h) (Or.inl ⟨by rfl, ?_⟩) (by assumption) ?_
    rotate_left
    · intro wz hSw
      try dsimp only at hSw
      obtain ⟨f6, i0, i1, i2, i3, i4, i5, i6, p0, p1, p2, p3, p4, p5, p6⟩ := HCELL.out wz hSw
      go_simp
      try with_reducible rfl
    try simp only [Act.put, List.setIfInBounds_toArray, List.set_cons_zero, List.set_cons_succ]
    refine wpAnyH_take (i := 7) (oi := { dst := some 33, op := Op.slice 41 (Operand.tmp 32) (some (Operand.const (Value.int IntKind.i64 1))) none none, type := 41, pos := "json.go:274", after := #[{ on := 6, ground := Ground.data }], guard := none }) (v := .slice (some ⟨pb, po + 2, none⟩) rl pc1) rfl (by kernel_rfl) (by kernel_rfl) (by kernel_rfl) (fun _ _ _ h => h) (Or.inl ⟨by rfl, ?_⟩) (by assumption) ?_
    · intro wz hSw
      obtain ⟨f6, i0, i1, i2, i3, i4, i5, i6, p0, p1, p2, p3, p4, p5, p6⟩ := HCELL.out wz hSw
      go_simp
      try simp [hpc1, hln1, hpc2]
    try simp only [Act.put, List.setIfInBounds_toArray, List.set_cons_zero, List.set_cons_succ]
    refine wpAnyH_ready (rs := [8, 12]) (by kernel_rfl) (by simp) (AllReadyH.cons (o := { dst := some 34, op := Op.call { callee := Callee.value (Operand.func 9), args := #[Operand.tmp 30, Operand.tmp 31, Operand.tmp 33], argTypes := #[29, 43, 41] }, type := 46, pos := "json.go:274", after := #[{ on := 4, ground := Ground.data }, { on := 5, ground := Ground.data }, { on := 7, ground := Ground.data }], guard := none }) rfl (fun K hK => ?_) (AllReadyH.cons (o := { dst := some 10, op := Op.alloc 29, type := 0, pos := "json.go:274", after := #[], guard := none }) rfl (fun K hK => ?_) AllReadyH.nil))
    · go_simp
      go_at_call 9
      refine Calls.mono (EP _ ((Below.refl _ _).drew)) ?_
      rintro e w8 ⟨⟨u8, X8, ok, rfl, hI8, hy8, hn8⟩, b8⟩
      obtain ⟨⟨mk, mn, mt, mo, ma⟩, m1, m2, m3, m4, m5, m6, hu8⟩ := hI8.plain.parts
      subst hu8
      dsimp only [tval]
      go_wp2_with fail
      refine hK.out _ _ (show Below w1.heap.size w1 w8 from ((Below.refl w1.heap.size w1).drew).trans b8) (fun hHeld8 => ?_)
      clear hK K
      try simp only [Act.put, List.setIfInBounds_toArray, List.set_cons_zero, List.set_cons_succ]
      refine wpAnyH_take (i := 9) (oi := { dst := some 25, op := Op.move (Operand.tmp 34), type := 46, pos := "json.go:274", after := #[{ on := 8, ground := Ground.data }], guard := none }) (v := ?_) rfl (by kernel_rfl) (by kernel_rfl) (by kernel_rfl) (fun _ _ _ h => h) (Or.inl ⟨by rfl, ?_⟩) (by assumption) ?_
      rotate_left
      · intro wz hSw
        try dsimp only at hSw
        obtain ⟨f6, i0, i1, i2, i3, i4, i5, i6, p0, p1, p2, p3, p4, p5, p6⟩ := HCELL.out wz hSw
        go_simp
        try with_reducible rfl
      try simp only [Act.put, List.setIfInBounds_toArray, List.set_cons_zero, List.set_cons_succ]
      refine wpAnyH_take (i := 10) (oi := { dst := some 35, op := Op.extract (Operand.tmp 25) 0, type := 29, pos := "json.go:274", after := #[{ on := 9, ground := Ground.data }], guard := none }) (v := ?_) rfl (by kernel_rfl) (by kernel_rfl) (by kernel_rfl) (fun _ _ _ h => h) (Or.inl ⟨by rfl, ?_⟩) (by assumption) ?_
      rotate_left
      · intro wz hSw
        try dsimp only at hSw
        obtain ⟨f6, i0, i1, i2, i3, i4, i5, i6, p0, p1, p2, p3, p4, p5, p6⟩ := HCELL.out wz hSw
        go_simp
        try with_reducible rfl
      try simp only [Act.put, List.setIfInBounds_toArray, List.set_cons_zero, List.set_cons_succ]
      refine wpAnyH_take (i := 11) (oi := { dst := some 36, op := Op.extract (Operand.tmp 25) 1, type := 4, pos := "json.go:274", after := #[{ on := 9, ground := Ground.data }, { on := 13, ground := Ground.gcOnly Departure.lateStores }], guard := none }) (v := ?_) rfl (by kernel_rfl) (by kernel_rfl) (by kernel_rfl) (fun _ _ _ h => h) (Or.inl ⟨by rfl, ?_⟩) (by assumption) ?_
      rotate_left
      · intro wz hSw
        try dsimp only at hSw
        obtain ⟨f6, i0, i1, i2, i3, i4, i5, i6, p0, p1, p2, p3, p4, p5, p6⟩ := HCELL.out wz hSw
        go_simp
        try with_reducible rfl
      try simp only [Act.put, List.setIfInBounds_toArray, List.set_cons_zero, List.set_cons_succ]
      refine wpAnyH_ready (rs := [12]) (by kernel_rfl) (by simp) (AllReadyH.cons (o := { dst := some 10, op := Op.alloc 29, type := 0, pos := "json.go:274", after := #[], guard := none }) rfl (fun K hK => ?_) AllReadyH.nil)
      go_simp
      refine hK.out _ _ ((((Below.refl w1.heap.size w1).drew).trans b8).alloc (show w1.heap.size ≤ w8.heap.size from b8.size) _) (fun hHeld12 => ?_)
      clear hK K
      try simp only [Act.put, List.setIfInBounds_toArray, List.set_cons_zero, List.set_cons_succ]
      have hW : Below w1.heap.size w1 (w8.alloc (.cells #[.int .i64 0, .int .i64 0, .string ⟨#[]⟩, .int .i64 0, .int .i64 0, .slice none 0 0, .slice none 0 0] 29)) := (((Below.refl w1.heap.size w1).drew).trans b8).alloc (show w1.heap.size ≤ w8.heap.size from b8.size) _
      have nb : (w8.alloc (.cells #[.int .i64 0, .int .i64 0, .string ⟨#[]⟩, .int .i64 0, .int .i64 0, .slice none 0 0, .slice none 0 0] 29)).heap[w8.heap.size]? = some (.cells #[.int .i64 0, .int .i64 0, .string ⟨#[]⟩, .int .i64 0, .int .i64 0, .slice none 0 0, .slice none 0 0] 29) := (MapKept.heap_alloc w8 _).1
      have HBK : Hid (∀ b, b < w8.heap.size → (w8.alloc (.cells #[.int .i64 0, .int .i64 0, .string ⟨#[]⟩, .int .i64 0, .int .i64 0, .slice none 0 0, .slice none 0 0] 29)).heap[b]? = w8.heap[b]?) := fun b hlt => ((Below.refl w8.heap.size w8).alloc (Nat.le_refl _) (.cells #[.int .i64 0, .int .i64 0, .string ⟨#[]⟩, .int .i64 0, .int .i64 0, .slice none 0 0, .slice none 0 0] 29)).block b hlt
      have HSZ : Hid ((w8.alloc (.cells #[.int .i64 0, .int .i64 0, .string ⟨#[]⟩, .int .i64 0, .int .i64 0, .slice none 0 0, .slice none 0 0] 29)).heap.size = w8.heap.size + 1) := by show _ = _; simp
      generalize w8.alloc (.cells #[.int .i64 0, .int .i64 0, .string ⟨#[]⟩, .int .i64 0, .int .i64 0, .slice none 0 0, .slice none 0 0] 29) = WA at *
      have HXB : Hid (∃ xb, xb = w8.heap.size) := ⟨_, rfl⟩
      obtain ⟨xb, hxb⟩ := HXB.out
      clear HXB
      rw [← hxb] at nb ⊢
      have HXB : Hid (xb = w8.heap.size) := hxb
      clear hxb
      have n0 : WA.cell? ⟨xb, 0, none⟩ = some (.int .i64 0) := Lib.cell_of_heap nb 0
      have n1 : WA.cell? ⟨xb, 1, none⟩ = some (.int .i64 0) := Lib.cell_of_heap nb 1
      have n2 : WA.cell? ⟨xb, 2, none⟩ = some (.string ⟨#[]⟩) := Lib.cell_of_heap nb 2
      have n3 : WA.cell? ⟨xb, 3, none⟩ = some (.int .i64 0) := Lib.cell_of_heap nb 3
      have n4 : WA.cell? ⟨xb, 4, none⟩ = some (.int .i64 0) := Lib.cell_of_heap nb 4
      have n5 : WA.cell? ⟨xb, 5, none⟩ = some (.slice none 0 0) := Lib.cell_of_heap nb 5
      have n6 : WA.cell? ⟨xb, 6, none⟩ = some (.slice none 0 0) := Lib.cell_of_heap nb 6
      have nf := Lib.frozen_of_heap nb
      have hz1 : w1.heap.size ≤ xb := by rw [HXB.out]; exact b8.size
      have hs1 := lt_of_heap HS1.out
      refine wpAnyH_ready (rs := [13]) (by kernel_rfl) (by simp) (AllReadyH.cons (o := { dst := none, op := Op.store 29 (Operand.tmp 10) (Operand.tmp 35), type := 0, pos := "json.go:274", after := #[{ on := 12, ground := Ground.data }, { on := 10, ground := Ground.data }, { on := 8, ground := Ground.chain }, { on := 0, ground := Ground.phase }, { on := 1, ground := Ground.phase }, { on := 2, ground := Ground.phase }, { on := 3, ground := Ground.phase }, { on := 4, ground := Ground.phase }, { on := 5, ground := Ground.phase }, { on := 6, ground := Ground.phase }, { on := 7, ground := Ground.phase }, { on := 8, ground := Ground.phase }, { on := 9, ground := Ground.phase }, { on := 10, ground := Ground.phase }, { on := 11, ground := Ground.textOnly Departure.lateStores }, { on := 12, ground := Ground.phase }], guard := none }) rfl (fun K hK => ?_) AllReadyH.nil)
      go_simp
      refine hK.out _ _ (set7_below hW hz1 (.int .i64 mk) (.int .i64 mn) (.string mt) (.int .i64 mo) (.int .i64 ma) (.slice m1 m2 m3) (.slice m4 m5 m6)) (fun hHeld13 => ?_)
      clear hK K
      try simp only [Act.put, List.setIfInBounds_toArray, List.set_cons_zero, List.set_cons_succ]
      refine wpAnyH_take (i := 14) (oi := { dst := some 11, op := Op.assign (Operand.tmp 36), type := 4, pos := "json.go:274", after := #[{ on := 11, ground := Ground.data }, { on := 13, ground := Ground.chain }, { on := 0, ground := Ground.phase }, { on := 1, ground := Ground.phase }, { on := 2, ground := Ground.phase }, { on := 3, ground := Ground.phase }, { on := 4, ground := Ground.phase }, { on := 5, ground := Ground.phase }, { on := 6, ground := Ground.phase }, { on := 7, ground := Ground.phase }, { on := 8, ground := Ground.phase }, { on := 9, ground := Ground.phase }, { on := 10, ground := Ground.phase }, { on := 11, ground := Ground.phase }, { on := 12, ground := Ground.phase }, { on := 13, ground := Ground.phase }], guard := none }) (v := ?_) rfl (by kernel_rfl) (by kernel_rfl) (by kernel_rfl) (fun _ _ _ h => h) (Or.inl ⟨by rfl, ?_⟩) (by assumption) ?_
      rotate_left
      · intro wz hSw
        try dsimp only at hSw
        obtain ⟨f6, i0, i1, i2, i3, i4, i5, i6, p0, p1, p2, p3, p4, p5, p6⟩ := HCELL.out wz hSw
        go_simp
        try with_reducible rfl
      try simp only [Act.put, List.setIfInBounds_toArray, List.set_cons_zero, List.set_cons_succ]
      refine wpAnyH_done (by kernel_rfl) ?_ _
      refine NoPanic.normal ?_
      have HM5 : Hid ((((((((WA.setCell ⟨xb, 0, none⟩ (.int .i64 mk)).setCell ⟨xb, 1, none⟩ (.int .i64 mn)).setCell ⟨xb, 2, none⟩ (.string mt)).setCell ⟨xb, 3, none⟩ (.int .i64 mo)).setCell ⟨xb, 4, none⟩ (.int .i64 ma)).setCell ⟨xb, 5, none⟩ (.slice m1 m2 m3)).setCell ⟨xb, 6, none⟩ (.slice m4 m5 m6)).heap[xb]? = some (.cells #[.int .i64 mk, .int .i64 mn, .string mt, .int .i64 mo, .int .i64 ma, .slice m1 m2 m3, .slice m4 m5 m6] 29)) := set7 nb (.int .i64 mk) (.int .i64 mn) (.string mt) (.int .i64 mo) (.int .i64 ma) (.slice m1 m2 m3) (.slice m4 m5 m6)
      have HX5 : Hid ((((((((WA.setCell ⟨xb, 0, none⟩ (.int .i64 mk)).setCell ⟨xb, 1, none⟩ (.int .i64 mn)).setCell ⟨xb, 2, none⟩ (.string mt)).setCell ⟨xb, 3, none⟩ (.int .i64 mo)).setCell ⟨xb, 4, none⟩ (.int .i64 ma)).setCell ⟨xb, 5, none⟩ (.slice m1 m2 m3)).setCell ⟨xb, 6, none⟩ (.slice m4 m5 m6)).heap[w.heap.size]? = some (.cells #[.int .i64 xk, .int .i64 xn, .string xt, .int .i64 xo, .int .i64 xa, .slice a1 kn c1, .slice a2 tn c2] 29)) := set7_other ((hW.block _ (lt_of_heap HX1.out)).trans HX1.out) (by omega) (.int .i64 mk) (.int .i64 mn) (.string mt) (.int .i64 mo) (.int .i64 ma) (.slice m1 m2 m3) (.slice m4 m5 m6)
      have HZ5 : Hid ((((((((WA.setCell ⟨xb, 0, none⟩ (.int .i64 mk)).setCell ⟨xb, 1, none⟩ (.int .i64 mn)).setCell ⟨xb, 2, none⟩ (.string mt)).setCell ⟨xb, 3, none⟩ (.int .i64 mo)).setCell ⟨xb, 4, none⟩ (.int .i64 ma)).setCell ⟨xb, 5, none⟩ (.slice m1 m2 m3)).setCell ⟨xb, 6, none⟩ (.slice m4 m5 m6)).heap[w.heap.size + 2]? = some (.cells #[.int .i64 0, .int .i64 0, .string ⟨#[]⟩, .int .i64 0, .int .i64 0, .slice none 0 0, .slice none 0 0] 29)) := set7_other ((hW.block _ (lt_of_heap HZ1.out)).trans HZ1.out) (by omega) (.int .i64 mk) (.int .i64 mn) (.string mt) (.int .i64 mo) (.int .i64 ma) (.slice m1 m2 m3) (.slice m4 m5 m6)
      have HS5 : Hid ((((((((WA.setCell ⟨xb, 0, none⟩ (.int .i64 mk)).setCell ⟨xb, 1, none⟩ (.int .i64 mn)).setCell ⟨xb, 2, none⟩ (.string mt)).setCell ⟨xb, 3, none⟩ (.int .i64 mo)).setCell ⟨xb, 4, none⟩ (.int .i64 ma)).setCell ⟨xb, 5, none⟩ (.slice m1 m2 m3)).setCell ⟨xb, 6, none⟩ (.slice m4 m5 m6)).heap[w.heap.size + 3]? = some (.cells #[.string sb, .int .i64 si] 45)) := set7_other ((hW.block _ (lt_of_heap HS1.out)).trans HS1.out) (by omega) (.int .i64 mk) (.int .i64 mn) (.string mt) (.int .i64 mo) (.int .i64 ma) (.slice m1 m2 m3) (.slice m4 m5 m6)
      have HB5 : Hid (Below w.heap.size w (((((((WA.setCell ⟨xb, 0, none⟩ (.int .i64 mk)).setCell ⟨xb, 1, none⟩ (.int .i64 mn)).setCell ⟨xb, 2, none⟩ (.string mt)).setCell ⟨xb, 3, none⟩ (.int .i64 mo)).setCell ⟨xb, 4, none⟩ (.int .i64 ma)).setCell ⟨xb, 5, none⟩ (.slice m1 m2 m3)).setCell ⟨xb, 6, none⟩ (.slice m4 m5 m6))) := set7_below (HB1.out.trans (hW.mono HB1.out.size)) (by omega) (.int .i64 mk) (.int .i64 mn) (.string mt) (.int .i64 mo) (.int .i64 ma) (.slice m1 m2 m3) (.slice m4 m5 m6)
      have HI5 : Hid (IsTP (fun b => P b ∨ w1.heap.size + 4 ≤ b) (((((((WA.setCell ⟨xb, 0, none⟩ (.int .i64 mk)).setCell ⟨xb, 1, none⟩ (.int .i64 mn)).setCell ⟨xb, 2, none⟩ (.string mt)).setCell ⟨xb, 3, none⟩ (.int .i64 mo)).setCell ⟨xb, 4, none⟩ (.int .i64 ma)).setCell ⟨xb, 5, none⟩ (.slice m1 m2 m3)).setCell ⟨xb, 6, none⟩ (.slice m4 m5 m6)) (tval (⟨mk, mn, mt, mo, ma⟩, .slice m1 m2 m3, .slice m4 m5 m6)) X8) := by
        have h8 : IsTP (fun b => P b ∨ w1.heap.size + 4 ≤ b) (put7 WA (xb) 0 (⟨mk, mn, mt, mo, ma⟩, .slice m1 m2 m3, .slice m4 m5 m6)) (tval (⟨mk, mn, mt, mo, ma⟩, .slice m1 m2 m3, .slice m4 m5 m6)) X8 := hI8.move (by
          have h7 := (put7_below (Below.refl 0 WA) xb 0 (⟨mk, mn, mt, mo, ma⟩, .slice m1 m2 m3, .slice m4 m5 m6) (Nat.zero_le _)).size
          have h6 := HSZ.out
          omega) (fun b hb hlt => (put7_other WA _ _ _ b (by have := HXB.out; omega)).trans (HBK.out b hlt)) (fun _ h => h)
        dsimp only [put7, Nat.zero_add] at h8
        exact h8
      have HY8 : Hid (ok = true → UpdK kk t r ⟨yk, yn, yt, yo, ya⟩ X8) := hy8
      have HN8 : Hid (ok = false → ∀ T', ¬ UpdK kk t r ⟨yk, yn, yt, yo, ya⟩ T') := hn8
      have HW15 : Hid (w.heap.size + 3 < w1.heap.size) := hs1
      clear hz1 hs1 hW hy8 hn8 hI8 b8
      clear hHeld hHeld8 hHeld12 hHeld13 n0 n1 n2 n3 n4 n5 n6 nf nb EP
      generalize ((((((WA.setCell ⟨xb, 0, none⟩ (.int .i64 mk)).setCell ⟨xb, 1, none⟩ (.int .i64 mn)).setCell ⟨xb, 2, none⟩ (.string mt)).setCell ⟨xb, 3, none⟩ (.int .i64 mo)).setCell ⟨xb, 4, none⟩ (.int .i64 ma)).setCell ⟨xb, 5, none⟩ (.slice m1 m2 m3)).setCell ⟨xb, 6, none⟩ (.slice m4 m5 m6) = w5 at *
      obtain ⟨mb, HMB⟩ : ∃ mb, Hid (xb = mb) := ⟨_, rfl⟩
      rw [HMB.out] at HM5 ⊢
      clear HMB
      cases ok with
      | false =>
        have t0 : w5.cell? ⟨w.heap.size, 0, none⟩ = some (.int .i64 xk) := Lib.cell_of_heap HX5.out 0
        have t1 : w5.cell? ⟨w.heap.size, 1, none⟩ = some (.int .i64 xn) := Lib.cell_of_heap HX5.out 1
        have t2 : w5.cell? ⟨w.heap.size, 2, none⟩ = some (.string xt) := Lib.cell_of_heap HX5.out 2
        have t3 : w5.cell? ⟨w.heap.size, 3, none⟩ = some (.int .i64 xo) := Lib.cell_of_heap HX5.out 3
        have t4 : w5.cell? ⟨w.heap.size, 4, none⟩ = some (.int .i64 xa) := Lib.cell_of_heap HX5.out 4
        have t5 : w5.cell? ⟨w.heap.size, 5, none⟩ = some (.slice a1 kn c1) := Lib.cell_of_heap HX5.out 5
        have t6 : w5.cell? ⟨w.heap.size, 6, none⟩ = some (.slice a2 tn c2) := Lib.cell_of_heap HX5.out 6
        have z0 : w5.cell? ⟨w.heap.size + 2, 0, none⟩ = some (.int .i64 0) := Lib.cell_of_heap HZ5.out 0
        have z1 : w5.cell? ⟨w.heap.size + 2, 1, none⟩ = some (.int .i64 0) := Lib.cell_of_heap HZ5.out 1
        have z2 : w5.cell? ⟨w.heap.size + 2, 2, none⟩ = some (.string ⟨#[]⟩) := Lib.cell_of_heap HZ5.out 2
        have z3 : w5.cell? ⟨w.heap.size + 2, 3, none⟩ = some (.int .i64 0) := Lib.cell_of_heap HZ5.out 3
        have z4 : w5.cell? ⟨w.heap.size + 2, 4, none⟩ = some (.int .i64 0) := Lib.cell_of_heap HZ5.out 4
        have z5 : w5.cell? ⟨w.heap.size + 2, 5, none⟩ = some (.slice none 0 0) := Lib.cell_of_heap HZ5.out 5
        have z6 : w5.cell? ⟨w.heap.size + 2, 6, none⟩ = some (.slice none 0 0) := Lib.cell_of_heap HZ5.out 6
        have zf := Lib.frozen_of_heap HZ5.out
        have HBF : Hid (Below w.heap.size w (put7 w5 (w.heap.size + 2) 0 (⟨xk, xn, xt, xo, xa⟩, .slice a1 kn c1, .slice a2 tn c2))) := put7_below HB5.out _ _ _ (by omega)
        have HHF : Hid ((put7 w5 (w.heap.size + 2) 0 (⟨xk, xn, xt, xo, xa⟩, .slice a1 kn c1, .slice a2 tn c2)).heap[w.heap.size + 2]? = some _) := set7 HZ5.out (.int .i64 xk) (.int .i64 xn) (.string xt) (.int .i64 xo) (.int .i64 xa) (.slice a1 kn c1) (.slice a2 tn c2)
        have HIF : Hid (IsTP (fun b => P b ∨ w.heap.size + 4 ≤ b) (put7 w5 (w.heap.size + 2) 0 (⟨xk, xn, xt, xo, xa⟩, .slice a1 kn c1, .slice a2 tn c2)) (tval (⟨xk, xn, xt, xo, xa⟩, .slice a1 kn c1, .slice a2 tn c2)) T) := HTT.out _ (put7_below HB5.out _ _ _ (by omega))
        go_wp2
        clear z0 z1 z2 z3 z4 z5 z6 zf
        dsimp only [put7, Nat.zero_add] at HBF HHF HIF
        generalize ((((((w5.setCell ⟨w.heap.size + 2, 0, none⟩ (.int .i64 xk)).setCell ⟨w.heap.size + 2, 1, none⟩ (.int .i64 xn)).setCell ⟨w.heap.size + 2, 2, none⟩ (.string xt)).setCell ⟨w.heap.size + 2, 3, none⟩ (.int .i64 xo)).setCell ⟨w.heap.size + 2, 4, none⟩ (.int .i64 xa)).setCell ⟨w.heap.size + 2, 5, none⟩ (.slice a1 kn c1)).setCell ⟨w.heap.size + 2, 6, none⟩ (.slice a2 tn c2) = VV at *
        obtain ⟨q0, q1, q2, q3, q4, q5, q6⟩ := tboxed (u := (⟨xk, xn, xt, xo, xa⟩, .slice a1 kn c1, .slice a2 tn c2)) HHF.out
        dsimp only at q0 q1 q2 q3 q4 q5 q6
        refine bodyPost_ret (v := .tuple #[tval (⟨xk, xn, xt, xo, xa⟩, .slice a1 kn c1, .slice a2 tn c2), .bool false]) (by simp [tval, results, Tryd.results9, go_sem, q0, q1, q2, q3, q4, q5, q6]) rfl ?_
        rw [HPO.out]
        refine ⟨⟨_, _, false, rfl, HIF.out, ?_, ?_⟩, HBF.out⟩
        · exact (fun h => by cases h)
        · exact (fun _ T' h => by
            obtain ⟨i', t', t2, h1, h2, h3, _⟩ := (updk_cons HRR.out).1 h
            rw [HQ.out] at h1
            obtain rfl := Option.some.inj h1
            rw [HTI.out] at h2
            obtain rfl := Option.some.inj h2
            rw [HY.out] at h3
            exact HN8.out (by simp) _ h3)
      | true =>
        have t0 : w5.cell? ⟨w.heap.size, 0, none⟩ = some (.int .i64 xk) := Lib.cell_of_heap HX5.out 0
        have t1 : w5.cell? ⟨w.heap.size, 1, none⟩ = some (.int .i64 xn) := Lib.cell_of_heap HX5.out 1
        have t2 : w5.cell? ⟨w.heap.size, 2, none⟩ = some (.string xt) := Lib.cell_of_heap HX5.out 2
        have t3 : w5.cell? ⟨w.heap.size, 3, none⟩ = some (.int .i64 xo) := Lib.cell_of_heap HX5.out 3
        have t4 : w5.cell? ⟨w.heap.size, 4, none⟩ = some (.int .i64 xa) := Lib.cell_of_heap HX5.out 4
        have t5 : w5.cell? ⟨w.heap.size, 5, none⟩ = some (.slice a1 kn c1) := Lib.cell_of_heap HX5.out 5
        have t6 : w5.cell? ⟨w.heap.size, 6, none⟩ = some (.slice a2 tn c2) := Lib.cell_of_heap HX5.out 6
        have l0 : w5.cell? ⟨mb, 0, none⟩ = some (.int .i64 mk) := Lib.cell_of_heap HM5.out 0
        have l1 : w5.cell? ⟨mb, 1, none⟩ = some (.int .i64 mn) := Lib.cell_of_heap HM5.out 1
        have l2 : w5.cell? ⟨mb, 2, none⟩ = some (.string mt) := Lib.cell_of_heap HM5.out 2
        have l3 : w5.cell? ⟨mb, 3, none⟩ = some (.int .i64 mo) := Lib.cell_of_heap HM5.out 3
        have l4 : w5.cell? ⟨mb, 4, none⟩ = some (.int .i64 ma) := Lib.cell_of_heap HM5.out 4
        have l5 : w5.cell? ⟨mb, 5, none⟩ = some (.slice m1 m2 m3) := Lib.cell_of_heap HM5.out 5
        have l6 : w5.cell? ⟨mb, 6, none⟩ = some (.slice m4 m5 m6) := Lib.cell_of_heap HM5.out 6
        have s0 : w5.cell? ⟨w.heap.size + 3, 0, none⟩ = some (.string sb) := Lib.cell_of_heap HS5.out 0
        have s1 : w5.cell? ⟨w.heap.size + 3, 1, none⟩ = some (.int .i64 si) := Lib.cell_of_heap HS5.out 1
        have EP2 := putKid_any (P := fun b => P b ∨ w1.heap.size + 4 ≤ b) (s := s) (X := X8) w5 ((HTP.out w5 HB5.out).move (Nat.le_refl _) (fun _ _ _ => rfl) (fun _ h => Or.inl h)) HI5.out HT.out.2.1 HT.out.2.2 HQ.out
        rw [← HSS.out] at EP2
        unfold tval at EP2
        dsimp only at EP2
        go_wp2_with fail
        go_fit EP2
        rintro e w9 hput
        clear EP2 t0 t1 t2 t3 t4 t5 t6 l0 l1 l2 l3 l4 l5 l6 s0 s1
        obtain ⟨u9, rfl, hI9, b9⟩ := hput
        obtain ⟨⟨rk, rn, rt, ro, ra⟩, r1, s1, t1, r2, s2, t2, hu9⟩ := hI9.plain.parts
        subst hu9
        have HZ9 : Hid (w9.heap[w.heap.size + 2]? = some (.cells #[.int .i64 0, .int .i64 0, .string ⟨#[]⟩, .int .i64 0, .int .i64 0, .slice none 0 0, .slice none 0 0] 29)) := (b9.block _ (lt_of_heap HZ5.out)).trans HZ5.out
        have HB9 : Hid (Below w.heap.size w w9) := HB5.out.trans (b9.mono HB5.out.size)
        have HI9 : Hid (IsTP _ w9 (tval (⟨rk, rn, rt, ro, ra⟩, .slice r1 s1 t1, .slice r2 s2 t2)) _) := hI9
        clear hI9 b9
        dsimp only [tval]
        have z0 : w9.cell? ⟨w.heap.size + 2, 0, none⟩ = some (.int .i64 0) := Lib.cell_of_heap HZ9.out 0
        have z1 : w9.cell? ⟨w.heap.size + 2, 1, none⟩ = some (.int .i64 0) := Lib.cell_of_heap HZ9.out 1
        have z2 : w9.cell? ⟨w.heap.size + 2, 2, none⟩ = some (.string ⟨#[]⟩) := Lib.cell_of_heap HZ9.out 2
        have z3 : w9.cell? ⟨w.heap.size + 2, 3, none⟩ = some (.int .i64 0) := Lib.cell_of_heap HZ9.out 3
        have z4 : w9.cell? ⟨w.heap.size + 2, 4, none⟩ = some (.int .i64 0) := Lib.cell_of_heap HZ9.out 4
        have z5 : w9.cell? ⟨w.heap.size + 2, 5, none⟩ = some (.slice none 0 0) := Lib.cell_of_heap HZ9.out 5
        have z6 : w9.cell? ⟨w.heap.size + 2, 6, none⟩ = some (.slice none 0 0) := Lib.cell_of_heap HZ9.out 6
        have zf := Lib.frozen_of_heap HZ9.out
        have HBF : Hid (Below w.heap.size w (put7 w9 (w.heap.size + 2) 0 (⟨rk, rn, rt, ro, ra⟩, .slice r1 s1 t1, .slice r2 s2 t2))) := put7_below HB9.out _ _ _ (by omega)
        have HHF : Hid ((put7 w9 (w.heap.size + 2) 0 (⟨rk, rn, rt, ro, ra⟩, .slice r1 s1 t1, .slice r2 s2 t2)).heap[w.heap.size + 2]? = some _) := set7 HZ9.out (.int .i64 rk) (.int .i64 rn) (.string rt) (.int .i64 ro) (.int .i64 ra) (.slice r1 s1 t1) (.slice r2 s2 t2)
        have HIF : Hid (IsTP (fun b => P b ∨ w.heap.size + 4 ≤ b) (put7 w9 (w.heap.size + 2) 0 (⟨rk, rn, rt, ro, ra⟩, .slice r1 s1 t1, .slice r2 s2 t2)) (tval (⟨rk, rn, rt, ro, ra⟩, .slice r1 s1 t1, .slice r2 s2 t2)) _) := fresh_put HI9.out (fun b h => by
            rcases h with h | h
            · exact Or.inl h
            · exact Or.inr (by have := HW15.out; omega)) (by have := lt_of_heap HS5.out; omega) HPP.out
        go_wp2
        clear z0 z1 z2 z3 z4 z5 z6 zf
        dsimp only [put7, Nat.zero_add] at HBF HHF HIF
        generalize ((((((w9.setCell ⟨w.heap.size + 2, 0, none⟩ (.int .i64 rk)).setCell ⟨w.heap.size + 2, 1, none⟩ (.int .i64 rn)).setCell ⟨w.heap.size + 2, 2, none⟩ (.string rt)).setCell ⟨w.heap.size + 2, 3, none⟩ (.int .i64 ro)).setCell ⟨w.heap.size + 2, 4, none⟩ (.int .i64 ra)).setCell ⟨w.heap.size + 2, 5, none⟩ (.slice r1 s1 t1)).setCell ⟨w.heap.size + 2, 6, none⟩ (.slice r2 s2 t2) = VV at *
        obtain ⟨q0, q1, q2, q3, q4, q5, q6⟩ := tboxed (u := (⟨rk, rn, rt, ro, ra⟩, .slice r1 s1 t1, .slice r2 s2 t2)) HHF.out
        dsimp only at q0 q1 q2 q3 q4 q5 q6
        refine bodyPost_ret (v := .tuple #[tval (⟨rk, rn, rt, ro, ra⟩, .slice r1 s1 t1, .slice r2 s2 t2), .bool true]) (by simp [tval, results, Tryd.results9, go_sem, q0, q1, q2, q3, q4, q5, q6]) rfl ?_
        rw [HPO.out]
        refine ⟨⟨_, _, true, rfl, HIF.out, ?_, ?_⟩, HBF.out⟩
        · exact (fun _ => by
            refine (updk_cons HRR.out).2 ⟨i, t, X8, HQ.out, HTI.out, ?_, rfl⟩
            rw [HY.out]
            exact HY8.out (by simp))
        · exact (fun h => by cases h)
    · go_simp
      refine hK.out _ _ (((Below.refl w1.heap.size w1).drew).alloc (Nat.le_refl _) _) (fun hHeld12 => ?_)
      clear hK K
      try simp only [Act.put, List.setIfInBounds_toArray, List.set_cons_zero, List.set_cons_succ]
      have hWB : Below w1.heap.size w1 (w1.drew.alloc (.cells #[.int .i64 0, .int .i64 0, .string ⟨#[]⟩, .int .i64 0, .int .i64 0, .slice none 0 0, .slice none 0 0] 29)) := ((Below.refl w1.heap.size w1).drew).alloc (Nat.le_refl _) _
      have nb0 : (w1.drew.alloc (.cells #[.int .i64 0, .int .i64 0, .string ⟨#[]⟩, .int .i64 0, .int .i64 0, .slice none 0 0, .slice none 0 0] 29)).heap[w1.heap.size]? = some (.cells #[.int .i64 0, .int .i64 0, .string ⟨#[]⟩, .int .i64 0, .int .i64 0, .slice none 0 0, .slice none 0 0] 29) := (MapKept.heap_alloc w1.drew _).1
      have hzB : Hid ((w1.drew.alloc (.cells #[.int .i64 0, .int .i64 0, .string ⟨#[]⟩, .int .i64 0, .int .i64 0, .slice none 0 0, .slice none 0 0] 29)).heap.size = w1.heap.size + 1) := by show _ = _; simp
      refine wpAnyH_ready (rs := [8]) (by kernel_rfl) (by simp) (AllReadyH.cons (o := { dst := some 34, op := Op.call { callee := Callee.value (Operand.func 9), args := #[Operand.tmp 30, Operand.tmp 31, Operand.tmp 33], argTypes := #[29, 43, 41] }, type := 46, pos := "json.go:274", after := #[{ on := 4, ground := Ground.data }, { on := 5, ground := Ground.data }, { on := 7, ground := Ground.data }], guard := none }) rfl (fun K hK => ?_) AllReadyH.nil)
      go_simp
      go_at_call 9
      refine Calls.mono (EP _ (hWB)) ?_
      rintro e w8 ⟨⟨u8, X8, ok, rfl, hI8, hy8, hn8⟩, b8⟩
      obtain ⟨⟨mk, mn, mt, mo, ma⟩, m1, m2, m3, m4, m5, m6, hu8⟩ := hI8.plain.parts
      subst hu8
      dsimp only [tval]
      go_wp2_with fail
      refine hK.out _ _ (show Below w1.heap.size w1 w8 from hWB.trans (b8.mono hWB.size)) (fun hHeld8 => ?_)
      clear hK K
      try simp only [Act.put, List.setIfInBounds_toArray, List.set_cons_zero, List.set_cons_succ]
      refine wpAnyH_take (i := 9) (oi := { dst := some 25, op := Op.move (Operand.tmp 34), type := 46, pos := "json.go:274", after := #[{ on := 8, ground := Ground.data }], guard := none }) (v := ?_) rfl (by kernel_rfl) (by kernel_rfl) (by kernel_rfl) (fun _ _ _ h => h) (Or.inl ⟨by rfl, ?_⟩) (by assumption) ?_
      rotate_left
      · intro wz hSw
        try dsimp only at hSw
        obtain ⟨f6, i0, i1, i2, i3, i4, i5, i6, p0, p1, p2, p3, p4, p5, p6⟩ := HCELL.out wz hSw
        go_simp
        try with_reducible rfl
      try simp only [Act.put, List.setIfInBounds_toArray, List.set_cons_zero, List.set_cons_succ]
      refine wpAnyH_take (i := 10) (oi := { dst := some 35, op := Op.extract (Operand.tmp 25) 0, type := 29, pos := "json.go:274", after := #[{ on := 9, ground := Ground.data }], guard := none }) (v := ?_) rfl (by kernel_rfl) (by kernel_rfl) (by kernel_rfl) (fun _ _ _ h => h) (Or.inl ⟨by rfl, ?_⟩) (by assumption) ?_
      rotate_left
      · intro wz hSw
        try dsimp only at hSw
        obtain ⟨f6, i0, i1, i2, i3, i4, i5, i6, p0, p1, p2, p3, p4, p5, p6⟩ := HCELL.out wz hSw
        go_simp
        try with_reducible rfl
      try simp only [Act.put, List.setIfInBounds_toArray, List.set_cons_zero, List.set_cons_succ]
      refine wpAnyH_take (i := 11) (oi := { dst := some 36, op := Op.extract (Operand.tmp 25) 1, type := 4, pos := "json.go:274", after := #[{ on := 9, ground := Ground.data }, { on := 13, ground := Ground.gcOnly Departure.lateStores }], guard := none }) (v := ?_) rfl (by kernel_rfl) (by kernel_rfl) (by kernel_rfl) (fun _ _ _ h => h) (Or.inl ⟨by rfl, ?_⟩) (by assumption) ?_
      rotate_left
      · intro wz hSw
        try dsimp only at hSw
        obtain ⟨f6, i0, i1, i2, i3, i4, i5, i6, p0, p1, p2, p3, p4, p5, p6⟩ := HCELL.out wz hSw
        go_simp
        try with_reducible rfl
      try simp only [Act.put, List.setIfInBounds_toArray, List.set_cons_zero, List.set_cons_succ]
      have hI8' : IsTP (fun b => P b ∨ (w1.drew.alloc (.cells #[.int .i64 0, .int .i64 0, .string ⟨#[]⟩, .int .i64 0, .int .i64 0, .slice none 0 0, .slice none 0 0] 29)).heap.size + 4 ≤ b) w8 (tval (⟨mk, mn, mt, mo, ma⟩, .slice m1 m2 m3, .slice m4 m5 m6)) X8 := hI8
      rw [hzB.out] at hI8'
      clear hI8
      have hI8 := hI8'
      clear hI8'
      have hW : Below w1.heap.size w1 w8 := hWB.trans (b8.mono hWB.size)
      have nb : w8.heap[w1.heap.size]? = some (.cells #[.int .i64 0, .int .i64 0, .string ⟨#[]⟩, .int .i64 0, .int .i64 0, .slice none 0 0, .slice none 0 0] 29) := (b8.block _ (lt_of_heap nb0)).trans nb0
      have n0 : w8.cell? ⟨w1.heap.size, 0, none⟩ = some (.int .i64 0) := Lib.cell_of_heap nb 0
      have n1 : w8.cell? ⟨w1.heap.size, 1, none⟩ = some (.int .i64 0) := Lib.cell_of_heap nb 1
      have n2 : w8.cell? ⟨w1.heap.size, 2, none⟩ = some (.string ⟨#[]⟩) := Lib.cell_of_heap nb 2
      have n3 : w8.cell? ⟨w1.heap.size, 3, none⟩ = some (.int .i64 0) := Lib.cell_of_heap nb 3
      have n4 : w8.cell? ⟨w1.heap.size, 4, none⟩ = some (.int .i64 0) := Lib.cell_of_heap nb 4
      have n5 : w8.cell? ⟨w1.heap.size, 5, none⟩ = some (.slice none 0 0) := Lib.cell_of_heap nb 5
      have n6 : w8.cell? ⟨w1.heap.size, 6, none⟩ = some (.slice none 0 0) := Lib.cell_of_heap nb 6
      have nf := Lib.frozen_of_heap nb
      have hz1 : w1.heap.size ≤ w8.heap.size := hW.size
      have hs1 := lt_of_heap HS1.out
      refine wpAnyH_ready (rs := [13]) (by kernel_rfl) (by simp) (AllReadyH.cons (o := { dst := none, op := Op.store 29 (Operand.tmp 10) (Operand.tmp 35), type := 0, pos := "json.go:274", after := #[{ on := 12, ground := Ground.data }, { on := 10, ground := Ground.data }, { on := 8, ground := Ground.chain }, { on := 0, ground := Ground.phase }, { on := 1, ground := Ground.phase }, { on := 2, ground := Ground.phase }, { on := 3, ground := Ground.phase }, { on := 4, ground := Ground.phase }, { on := 5, ground := Ground.phase }, { on := 6, ground := Ground.phase }, { on := 7, ground := Ground.phase }, { on := 8, ground := Ground.phase }, { on := 9, ground := Ground.phase }, { on := 10, ground := Ground.phase }, { on := 11, ground := Ground.textOnly Departure.lateStores }, { on := 12, ground := Ground.phase }], guard := none }) rfl (fun K hK => ?_) AllReadyH.nil)
      go_simp
      refine hK.out _ _ (set7_below hW (Nat.le_refl _) (.int .i64 mk) (.int .i64 mn) (.string mt) (.int .i64 mo) (.int .i64 ma) (.slice m1 m2 m3) (.slice m4 m5 m6)) (fun hHeld13 => ?_)
      clear hK K
      try simp only [Act.put, List.setIfInBounds_toArray, List.set_cons_zero, List.set_cons_succ]
      refine wpAnyH_take (i := 14) (oi := { dst := some 11, op := Op.assign (Operand.tmp 36), type := 4, pos := "json.go:274", after := #[{ on := 11, ground := Ground.data }, { on := 13, ground := Ground.chain }, { on := 0, ground := Ground.phase }, { on := 1, ground := Ground.phase }, { on := 2, ground := Ground.phase }, { on := 3, ground := Ground.phase }, { on := 4, ground := Ground.phase }, { on := 5, ground := Ground.phase }, { on := 6, ground := Ground.phase }, { on := 7, ground := Ground.phase }, { on := 8, ground := Ground.phase }, { on := 9, ground := Ground.phase }, { on := 10, ground := Ground.phase }, { on := 11, ground := Ground.phase }, { on := 12, ground := Ground.phase }, { on := 13, ground := Ground.phase }], guard := none }) (v := ?_) rfl (by kernel_rfl) (by kernel_rfl) (by kernel_rfl) (fun _ _ _ h => h) (Or.inl ⟨by rfl, ?_⟩) (by assumption) ?_
      rotate_left
      · intro wz hSw
        try dsimp only at hSw
        obtain ⟨f6, i0, i1, i2, i3, i4, i5, i6, p0, p1, p2, p3, p4, p5, p6⟩ := HCELL.out wz hSw
        go_simp
        try with_reducible rfl
      try simp only [Act.put, List.setIfInBounds_toArray, List.set_cons_zero, List.set_cons_succ]
      refine wpAnyH_done (by kernel_rfl) ?_ _
      refine NoPanic.normal ?_
      have HM5 : Hid ((((((((w8.setCell ⟨w1.heap.size, 0, none⟩ (.int .i64 mk)).setCell ⟨w1.heap.size, 1, none⟩ (.int .i64 mn)).setCell ⟨w1.heap.size, 2, none⟩ (.string mt)).setCell ⟨w1.heap.size, 3, none⟩ (.int .i64 mo)).setCell ⟨w1.heap.size, 4, none⟩ (.int .i64 ma)).setCell ⟨w1.heap.size, 5, none⟩ (.slice m1 m2 m3)).setCell ⟨w1.heap.size, 6, none⟩ (.slice m4 m5 m6)).heap[w1.heap.size]? = some (.cells #[.int .i64 mk, .int .i64 mn, .string mt, .int .i64 mo, .int .i64 ma, .slice m1 m2 m3, .slice m4 m5 m6] 29)) := set7 nb (.int .i64 mk) (.int .i64 mn) (.string mt) (.int .i64 mo) (.int .i64 ma) (.slice m1 m2 m3) (.slice m4 m5 m6)
      have HX5 : Hid ((((((((w8.setCell ⟨w1.heap.size, 0, none⟩ (.int .i64 mk)).setCell ⟨w1.heap.size, 1, none⟩ (.int .i64 mn)).setCell ⟨w1.heap.size, 2, none⟩ (.string mt)).setCell ⟨w1.heap.size, 3, none⟩ (.int .i64 mo)).setCell ⟨w1.heap.size, 4, none⟩ (.int .i64 ma)).setCell ⟨w1.heap.size, 5, none⟩ (.slice m1 m2 m3)).setCell ⟨w1.heap.size, 6, none⟩ (.slice m4 m5 m6)).heap[w.heap.size]? = some (.cells #[.int .i64 xk, .int .i64 xn, .string xt, .int .i64 xo, .int .i64 xa, .slice a1 kn c1, .slice a2 tn c2] 29)) := set7_other ((hW.block _ (lt_of_heap HX1.out)).trans HX1.out) (by omega) (.int .i64 mk) (.int .i64 mn) (.string mt) (.int .i64 mo) (.int .i64 ma) (.slice m1 m2 m3) (.slice m4 m5 m6)
      have HZ5 : Hid ((((((((w8.setCell ⟨w1.heap.size, 0, none⟩ (.int .i64 mk)).setCell ⟨w1.heap.size, 1, none⟩ (.int .i64 mn)).setCell ⟨w1.heap.size, 2, none⟩ (.string mt)).setCell ⟨w1.heap.size, 3, none⟩ (.int .i64 mo)).setCell ⟨w1.heap.size, 4, none⟩ (.int .i64 ma)).setCell ⟨w1.heap.size, 5, none⟩ (.slice m1 m2 m3)).setCell ⟨w1.heap.size, 6, none⟩ (.slice m4 m5 m6)).heap[w.heap.size + 2]? = some (.cells #[.int .i64 0, .int .i64 0, .string ⟨#[]⟩, .int .i64 0, .int .i64 0, .slice none 0 0, .slice none 0 0] 29)) := set7_other ((hW.block _ (lt_of_heap HZ1.out)).trans HZ1.out) (by omega) (.int .i64 mk) (.int .i64 mn) (.string mt) (.int .i64 mo) (.int .i64 ma) (.slice m1 m2 m3) (.slice m4 m5 m6)
      have HS5 : Hid ((((((((w8.setCell ⟨w1.heap.size, 0, none⟩ (.int .i64 mk)).setCell ⟨w1.heap.size, 1, none⟩ (.int .i64 mn)).setCell ⟨w1.heap.size, 2, none⟩ (.string mt)).setCell ⟨w1.heap.size, 3, none⟩ (.int .i64 mo)).setCell ⟨w1.heap.size, 4, none⟩ (.int .i64 ma)).setCell ⟨w1.heap.size, 5, none⟩ (.slice m1 m2 m3)).setCell ⟨w1.heap.size, 6, none⟩ (.slice m4 m5 m6)).heap[w.heap.size + 3]? = some (.cells #[.string sb, .int .i64 si] 45)) := set7_other ((hW.block _ (lt_of_heap HS1.out)).trans HS1.out) (by omega) (.int .i64 mk) (.int .i64 mn) (.string mt) (.int .i64 mo) (.int .i64 ma) (.slice m1 m2 m3) (.slice m4 m5 m6)
      have HB5 : Hid (Below w.heap.size w (((((((w8.setCell ⟨w1.heap.size, 0, none⟩ (.int .i64 mk)).setCell ⟨w1.heap.size, 1, none⟩ (.int .i64 mn)).setCell ⟨w1.heap.size, 2, none⟩ (.string mt)).setCell ⟨w1.heap.size, 3, none⟩ (.int .i64 mo)).setCell ⟨w1.heap.size, 4, none⟩ (.int .i64 ma)).setCell ⟨w1.heap.size, 5, none⟩ (.slice m1 m2 m3)).setCell ⟨w1.heap.size, 6, none⟩ (.slice m4 m5 m6))) := set7_below (HB1.out.trans (hW.mono HB1.out.size)) (by omega) (.int .i64 mk) (.int .i64 mn) (.string mt) (.int .i64 mo) (.int .i64 ma) (.slice m1 m2 m3) (.slice m4 m5 m6)
      have HI5 : Hid (IsTP (fun b => P b ∨ w1.heap.size + 4 ≤ b) (((((((w8.setCell ⟨w1.heap.size, 0, none⟩ (.int .i64 mk)).setCell ⟨w1.heap.size, 1, none⟩ (.int .i64 mn)).setCell ⟨w1.heap.size, 2, none⟩ (.string mt)).setCell ⟨w1.heap.size, 3, none⟩ (.int .i64 mo)).setCell ⟨w1.heap.size, 4, none⟩ (.int .i64 ma)).setCell ⟨w1.heap.size, 5, none⟩ (.slice m1 m2 m3)).setCell ⟨w1.heap.size, 6, none⟩ (.slice m4 m5 m6)) (tval (⟨mk, mn, mt, mo, ma⟩, .slice m1 m2 m3, .slice m4 m5 m6)) X8) := by
        have h8 : IsTP (fun b => P b ∨ w1.heap.size + 4 ≤ b) (put7 w8 (w1.heap.size) 0 (⟨mk, mn, mt, mo, ma⟩, .slice m1 m2 m3, .slice m4 m5 m6)) (tval (⟨mk, mn, mt, mo, ma⟩, .slice m1 m2 m3, .slice m4 m5 m6)) X8 := hI8.move ((put7_below (Below.refl 0 w8) _ _ _ (Nat.zero_le _)).size) (fun b hb hlt => (put7_other w8 _ _ _ b (by
          rcases hb with h | h
          · have := HPP.out b h
            omega
          · omega)).trans (rfl)) (fun b h => by
          rcases h with h | h
          · exact Or.inl h
          · exact Or.inr (by omega))
        dsimp only [put7, Nat.zero_add] at h8
        exact h8
      have HY8 : Hid (ok = true → UpdK kk t r ⟨yk, yn, yt, yo, ya⟩ X8) := hy8
      have HN8 : Hid (ok = false → ∀ T', ¬ UpdK kk t r ⟨yk, yn, yt, yo, ya⟩ T') := hn8
      have HW15 : Hid (w.heap.size + 3 < w1.heap.size) := hs1
      clear hz1 hs1 hW hy8 hn8 hI8 b8
      clear hHeld hHeld8 hHeld12 hHeld13 n0 n1 n2 n3 n4 n5 n6 nf nb EP hWB nb0 hzB
      generalize ((((((w8.setCell ⟨w1.heap.size, 0, none⟩ (.int .i64 mk)).setCell ⟨w1.heap.size, 1, none⟩ (.int .i64 mn)).setCell ⟨w1.heap.size, 2, none⟩ (.string mt)).setCell ⟨w1.heap.size, 3, none⟩ (.int .i64 mo)).setCell ⟨w1.heap.size, 4, none⟩ (.int .i64 ma)).setCell ⟨w1.heap.size, 5, none⟩ (.slice m1 m2 m3)).setCell ⟨w1.heap.size, 6, none⟩ (.slice m4 m5 m6) = w5 at *
      obtain ⟨mb, HMB⟩ : ∃ mb, Hid (w1.heap.size = mb) := ⟨_, rfl⟩
      rw [HMB.out] at HM5 ⊢
      clear HMB
      cases ok with
      | false =>
        have t0 : w5.cell? ⟨w.heap.size, 0, none⟩ = some (.int .i64 xk) := Lib.cell_of_heap HX5.out 0
        have t1 : w5.cell? ⟨w.heap.size, 1, none⟩ = some (.int .i64 xn) := Lib.cell_of_heap HX5.out 1
        have t2 : w5.cell? ⟨w.heap.size, 2, none⟩ = some (.string xt) := Lib.cell_of_heap HX5.out 2
        have t3 : w5.cell? ⟨w.heap.size, 3, none⟩ = some (.int .i64 xo) := Lib.cell_of_heap HX5.out 3
        have t4 : w5.cell? ⟨w.heap.size, 4, none⟩ = some (.int .i64 xa) := Lib.cell_of_heap HX5.out 4
        have t5 : w5.cell? ⟨w.heap.size, 5, none⟩ = some (.slice a1 kn c1) := Lib.cell_of_heap HX5.out 5
        have t6 : w5.cell? ⟨w.heap.size, 6, none⟩ = some (.slice a2 tn c2) := Lib.cell_of_heap HX5.out 6
        have z0 : w5.cell? ⟨w.heap.size + 2, 0, none⟩ = some (.int .i64 0) := Lib.cell_of_heap HZ5.out 0
        have z1 : w5.cell? ⟨w.heap.size + 2, 1, none⟩ = some (.int .i64 0) := Lib.cell_of_heap HZ5.out 1
        have z2 : w5.cell? ⟨w.heap.size + 2, 2, none⟩ = some (.string ⟨#[]⟩) := Lib.cell_of_heap HZ5.out 2
        have z3 : w5.cell? ⟨w.heap.size + 2, 3, none⟩ = some (.int .i64 0) := Lib.cell_of_heap HZ5.out 3
        have z4 : w5.cell? ⟨w.heap.size + 2, 4, none⟩ = some (.int .i64 0) := Lib.cell_of_heap HZ5.out 4
        have z5 : w5.cell? ⟨w.heap.size + 2, 5, none⟩ = some (.slice none 0 0) := Lib.cell_of_heap HZ5.out 5
        have z6 : w5.cell? ⟨w.heap.size + 2, 6, none⟩ = some (.slice none 0 0) := Lib.cell_of_heap HZ5.out 6
        have zf := Lib.frozen_of_heap HZ5.out
        have HBF : Hid (Below w.heap.size w (put7 w5 (w.heap.size + 2) 0 (⟨xk, xn, xt, xo, xa⟩, .slice a1 kn c1, .slice a2 tn c2))) := put7_below HB5.out _ _ _ (by omega)
        have HHF : Hid ((put7 w5 (w.heap.size + 2) 0 (⟨xk, xn, xt, xo, xa⟩, .slice a1 kn c1, .slice a2 tn c2)).heap[w.heap.size + 2]? = some _) := set7 HZ5.out (.int .i64 xk) (.int .i64 xn) (.string xt) (.int .i64 xo) (.int .i64 xa) (.slice a1 kn c1) (.slice a2 tn c2)
        have HIF : Hid (IsTP (fun b => P b ∨ w.heap.size + 4 ≤ b) (put7 w5 (w.heap.size + 2) 0 (⟨xk, xn, xt, xo, xa⟩, .slice a1 kn c1, .slice a2 tn c2)) (tval (⟨xk, xn, xt, xo, xa⟩, .slice a1 kn c1, .slice a2 tn c2)) T) := HTT.out _ (put7_below HB5.out _ _ _ (by omega))
        go_wp2
        clear z0 z1 z2 z3 z4 z5 z6 zf
        dsimp only [put7, Nat.zero_add] at HBF HHF HIF
        generalize ((((((w5.setCell ⟨w.heap.size + 2, 0, none⟩ (.int .i64 xk)).setCell ⟨w.heap.size + 2, 1, none⟩ (.int .i64 xn)).setCell ⟨w.heap.size + 2, 2, none⟩ (.string xt)).setCell ⟨w.heap.size + 2, 3, none⟩ (.int .i64 xo)).setCell ⟨w.heap.size + 2, 4, none⟩ (.int .i64 xa)).setCell ⟨w.heap.size + 2, 5, none⟩ (.slice a1 kn c1)).setCell ⟨w.heap.size + 2, 6, none⟩ (.slice a2 tn c2) = VV at *
        obtain ⟨q0, q1, q2, q3, q4, q5, q6⟩ := tboxed (u := (⟨xk, xn, xt, xo, xa⟩, .slice a1 kn c1, .slice a2 tn c2)) HHF.out
        dsimp only at q0 q1 q2 q3 q4 q5 q6
        refine bodyPost_ret (v := .tuple #[tval (⟨xk, xn, xt, xo, xa⟩, .slice a1 kn c1, .slice a2 tn c2), .bool false]) (by simp [tval, results, Tryd.results9, go_sem, q0, q1, q2, q3, q4, q5, q6]) rfl ?_
        rw [HPO.out]
        refine ⟨⟨_, _, false, rfl, HIF.out, ?_, ?_⟩, HBF.out⟩
        · exact (fun h => by cases h)
        · exact (fun _ T' h => by
            obtain ⟨i', t', t2, h1, h2, h3, _⟩ := (updk_cons HRR.out).1 h
            rw [HQ.out] at h1
            obtain rfl := Option.some.inj h1
            rw [HTI.out] at h2
            obtain rfl := Option.some.inj h2
            rw [HY.out] at h3
            exact HN8.out (by simp) _ h3)
      | true =>
        have t0 : w5.cell? ⟨w.heap.size, 0, none⟩ = some (.int .i64 xk) := Lib.cell_of_heap HX5.out 0
        have t1 : w5.cell? ⟨w.heap.size, 1, none⟩ = some (.int .i64 xn) := Lib.cell_of_heap HX5.out 1
        have t2 : w5.cell? ⟨w.heap.size, 2, none⟩ = some (.string xt) := Lib.cell_of_heap HX5.out 2
        have t3 : w5.cell? ⟨w.heap.size, 3, none⟩ = some (.int .i64 xo) := Lib.cell_of_heap HX5.out 3
        have t4 : w5.cell? ⟨w.heap.size, 4, none⟩ = some (.int .i64 xa) := Lib.cell_of_heap HX5.out 4
        have t5 : w5.cell? ⟨w.heap.size, 5, none⟩ = some (.slice a1 kn c1) := Lib.cell_of_heap HX5.out 5
        have t6 : w5.cell? ⟨w.heap.size, 6, none⟩ = some (.slice a2 tn c2) := Lib.cell_of_heap HX5.out 6
        have l0 : w5.cell? ⟨mb, 0, none⟩ = some (.int .i64 mk) := Lib.cell_of_heap HM5.out 0
        have l1 : w5.cell? ⟨mb, 1, none⟩ = some (.int .i64 mn) := Lib.cell_of_heap HM5.out 1
        have l2 : w5.cell? ⟨mb, 2, none⟩ = some (.string mt) := Lib.cell_of_heap HM5.out 2
        have l3 : w5.cell? ⟨mb, 3, none⟩ = some (.int .i64 mo) := Lib.cell_of_heap HM5.out 3
        have l4 : w5.cell? ⟨mb, 4, none⟩ = some (.int .i64 ma) := Lib.cell_of_heap HM5.out 4
        have l5 : w5.cell? ⟨mb, 5, none⟩ = some (.slice m1 m2 m3) := Lib.cell_of_heap HM5.out 5
        have l6 : w5.cell? ⟨mb, 6, none⟩ = some (.slice m4 m5 m6) := Lib.cell_of_heap HM5.out 6
        have s0 : w5.cell? ⟨w.heap.size + 3, 0, none⟩ = some (.string sb) := Lib.cell_of_heap HS5.out 0
        have s1 : w5.cell? ⟨w.heap.size + 3, 1, none⟩ = some (.int .i64 si) := Lib.cell_of_heap HS5.out 1
        have EP2 := putKid_any (P := fun b => P b ∨ w1.heap.size + 4 ≤ b) (s := s) (X := X8) w5 ((HTP.out w5 HB5.out).move (Nat.le_refl _) (fun _ _ _ => rfl) (fun _ h => Or.inl h)) HI5.out HT.out.2.1 HT.out.2.2 HQ.out
        rw [← HSS.out] at EP2
        unfold tval at EP2
        dsimp only at EP2
        go_wp2_with fail
        go_fit EP2
        rintro e w9 hput
        clear EP2 t0 t1 t2 t3 t4 t5 t6 l0 l1 l2 l3 l4 l5 l6 s0 s1
        obtain ⟨u9, rfl, hI9, b9⟩ := hput
        obtain ⟨⟨rk, rn, rt, ro, ra⟩, r1, s1, t1, r2, s2, t2, hu9⟩ := hI9.plain.parts
        subst hu9
        have HZ9 : Hid (w9.heap[w.heap.size + 2]? = some (.cells #[.int .i64 0, .int .i64 0, .string ⟨#[]⟩, .int .i64 0, .int .i64 0, .slice none 0 0, .slice none 0 0] 29)) := (b9.block _ (lt_of_heap HZ5.out)).trans HZ5.out
        have HB9 : Hid (Below w.heap.size w w9) := HB5.out.trans (b9.mono HB5.out.size)
        have HI9 : Hid (IsTP _ w9 (tval (⟨rk, rn, rt, ro, ra⟩, .slice r1 s1 t1, .slice r2 s2 t2)) _) := hI9
        clear hI9 b9
        dsimp only [tval]
        have z0 : w9.cell? ⟨w.heap.size + 2, 0, none⟩ = some (.int .i64 0) := Lib.cell_of_heap HZ9.out 0
        have z1 : w9.cell? ⟨w.heap.size + 2, 1, none⟩ = some (.int .i64 0) := Lib.cell_of_heap HZ9.out 1
        have z2 : w9.cell? ⟨w.heap.size + 2, 2, none⟩ = some (.string ⟨#[]⟩) := Lib.cell_of_heap HZ9.out 2
        have z3 : w9.cell? ⟨w.heap.size + 2, 3, none⟩ = some (.int .i64 0) := Lib.cell_of_heap HZ9.out 3
        have z4 : w9.cell? ⟨w.heap.size + 2, 4, none⟩ = some (.int .i64 0) := Lib.cell_of_heap HZ9.out 4
        have z5 : w9.cell? ⟨w.heap.size + 2, 5, none⟩ = some (.slice none 0 0) := Lib.cell_of_heap HZ9.out 5
        have z6 : w9.cell? ⟨w.heap.size + 2, 6, none⟩ = some (.slice none 0 0) := Lib.cell_of_heap HZ9.out 6
        have zf := Lib.frozen_of_heap HZ9.out
        have HBF : Hid (Below w.heap.size w (put7 w9 (w.heap.size + 2) 0 (⟨rk, rn, rt, ro, ra⟩, .slice r1 s1 t1, .slice r2 s2 t2))) := put7_below HB9.out _ _ _ (by omega)
        have HHF : Hid ((put7 w9 (w.heap.size + 2) 0 (⟨rk, rn, rt, ro, ra⟩, .slice r1 s1 t1, .slice r2 s2 t2)).heap[w.heap.size + 2]? = some _) := set7 HZ9.out (.int .i64 rk) (.int .i64 rn) (.string rt) (.int .i64 ro) (.int .i64 ra) (.slice r1 s1 t1) (.slice r2 s2 t2)
        have HIF : Hid (IsTP (fun b => P b ∨ w.heap.size + 4 ≤ b) (put7 w9 (w.heap.size + 2) 0 (⟨rk, rn, rt, ro, ra⟩, .slice r1 s1 t1, .slice r2 s2 t2)) (tval (⟨rk, rn, rt, ro, ra⟩, .slice r1 s1 t1, .slice r2 s2 t2)) _) := fresh_put HI9.out (fun b h => by
            rcases h with h | h
            · exact Or.inl h
            · exact Or.inr (by have := HW15.out; omega)) (by have := lt_of_heap HS5.out; omega) HPP.out
        go_wp2
        clear z0 z1 z2 z3 z4 z5 z6 zf
        dsimp only [put7, Nat.zero_add] at HBF HHF HIF
        generalize ((((((w9.setCell ⟨w.heap.size + 2, 0, none⟩ (.int .i64 rk)).setCell ⟨w.heap.size + 2, 1, none⟩ (.int .i64 rn)).setCell ⟨w.heap.size + 2, 2, none⟩ (.string rt)).setCell ⟨w.heap.size + 2, 3, none⟩ (.int .i64 ro)).setCell ⟨w.heap.size + 2, 4, none⟩ (.int .i64 ra)).setCell ⟨w.heap.size + 2, 5, none⟩ (.slice r1 s1 t1)).setCell ⟨w.heap.size + 2, 6, none⟩ (.slice r2 s2 t2) = VV at *
        obtain ⟨q0, q1, q2, q3, q4, q5, q6⟩ := tboxed (u := (⟨rk, rn, rt, ro, ra⟩, .slice r1 s1 t1, .slice r2 s2 t2)) HHF.out
        dsimp only at q0 q1 q2 q3 q4 q5 q6
        refine bodyPost_ret (v := .tuple #[tval (⟨rk, rn, rt, ro, ra⟩, .slice r1 s1 t1, .slice r2 s2 t2), .bool true]) (by simp [tval, results, Tryd.results9, go_sem, q0, q1, q2, q3, q4, q5, q6]) rfl ?_
        rw [HPO.out]
        refine ⟨⟨_, _, true, rfl, HIF.out, ?_, ?_⟩, HBF.out⟩
        · exact (fun _ => by
            refine (updk_cons HRR.out).2 ⟨i, t, X8, HQ.out, HTI.out, ?_, rfl⟩
            rw [HY.out]
            exact HY8.out (by simp))
        · exact (fun h => by cases h)
end Go.Proofs.YtegbjkjeoegfbaaDoor

namespace Go.Proofs.YtegbjkjeoegfbaaDoor
open Go.RowKit Go.Sort

theorem IsTG.inrow {P : Nat → Prop} {w : World} {v : Value} {T : JT} (h : IsTP P w v T) : IsTP (fun b => P b ∧ b < w.heap.size) w v T := by
  induction h using IsTG.ind with
  | mk x ks ts uk a cap us hk hl hc hz hr _ ih =>
    refine IsTG.mk x ks ts uk a cap us ?_ hl hc hz (fun hu => ?_) ih
    · obtain ⟨a, cap, e, h1, h2, h3⟩ := hk
      exact ⟨a, cap, e, h1, h2, fun hl => by obtain ⟨b, off, e1, h4, h6, h5⟩ := h3 hl; exact ⟨b, off, e1, h4, ⟨h6, h4⟩, h5⟩⟩
    · obtain ⟨b, off, e1, h4, h6, h5⟩ := hr hu
      exact ⟨b, off, e1, h4, ⟨h6, h4⟩, h5⟩
theorem patched_any {P : Nat → Prop} {kk : Int} (hk : 1 ≤ kk ∧ kk ≤ 3) (y : V) {pp : Value} (hpp : ∃ a n c, pp = .slice a n c) : ∀ (l : List Stp) {v p : Value} {T : JT} (w : World), (∀ b, P b → b < w.heap.size) → IsTP P w v T → formedB T = true → T.size ≤ 400 → IsSteps w p l → l ≠ [] →
    Calls Tryd.prog 9 #[v, pchK kk pp y, p] w fun e w' => PatP P w kk T l y e w' ∧ Below w.heap.size w w'
  | [], _, _, _, _, _, _, _, _, _, h => absurd rfl h
  | [s], v, p, T, w, hP, hT, hf, hsz, hp, _ => by
    obtain rfl | rfl | rfl : kk = 1 ∨ kk = 2 ∨ kk = 3 := by omega
    · exact pat_1 y w hP hT hf hsz hp hpp
    · exact pat_2 y w hP hT hf hsz hp hpp
    · exact pat_3 y w hP hT hf hsz hp hpp
  | s :: q :: r, v, p, T, w, hP, hT, hf, hsz, hp, _ => by
    refine pat_d y w hP hT hf hsz hp hpp (by simp) (fun t vt pt W ht hPW hIt hpt => ?_)
    have h1 := mem_sizes ht
    have h2 := size_eq T
    exact patched_any hk y hpp (q :: r) W hPW hIt (((formed_iff T).1 hf).2 t ht) (by omega) hpt (by simp)
end Go.Proofs.YtegbjkjeoegfbaaDoor
