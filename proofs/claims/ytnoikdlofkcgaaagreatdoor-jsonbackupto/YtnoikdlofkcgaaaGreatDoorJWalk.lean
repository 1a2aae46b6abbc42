/-
  What is proved: the function inside Paths of package json, called with a tree and a path that lie in memory, puts the paths of all trees in it with the value that it has caught, each behind that path, behind those in the list that it has caught.
  Conditions: the tree is one and has at most 400 trees in it; path and list are short; the three boxes lie as Paths makes them.
-/
import Derived.Test.YtnoikdlofkcgaaaGreatDoorG20
namespace Go.Proofs.YtnoikdlofkcgaaaGreatDoor
open Go.RowKit Go.Sort

theorem keep15 {W W' : World} {p0 p1 p2 p3 p4 p5 p6 p7 p8 p9 p10 p11 p12 p13 p14 : Addr} {v0 v1 v2 v3 v4 v5 v6 v7 v8 v9 v10 v11 v12 v13 v14 : Value} (h : W.cell? p0 = some v0 ∧ W.cell? p1 = some v1 ∧ W.cell? p2 = some v2 ∧ W.cell? p3 = some v3 ∧ W.cell? p4 = some v4 ∧ W.cell? p5 = some v5 ∧ W.cell? p6 = some v6 ∧ W.cell? p7 = some v7 ∧ W.cell? p8 = some v8 ∧ W.cell? p9 = some v9 ∧ W.cell? p10 = some v10 ∧ W.cell? p11 = some v11 ∧ W.cell? p12 = some v12 ∧ W.cell? p13 = some v13 ∧ W.cell? p14 = some v14) (hb : Below W.heap.size W W') : W'.cell? p0 = some v0 ∧ W'.cell? p1 = some v1 ∧ W'.cell? p2 = some v2 ∧ W'.cell? p3 = some v3 ∧ W'.cell? p4 = some v4 ∧ W'.cell? p5 = some v5 ∧ W'.cell? p6 = some v6 ∧ W'.cell? p7 = some v7 ∧ W'.cell? p8 = some v8 ∧ W'.cell? p9 = some v9 ∧ W'.cell? p10 = some v10 ∧ W'.cell? p11 = some v11 ∧ W'.cell? p12 = some v12 ∧ W'.cell? p13 = some v13 ∧ W'.cell? p14 = some v14 := by
  obtain ⟨h0, h1, h2, h3, h4, h5, h6, h7, h8, h9, h10, h11, h12, h13, h14⟩ := h
  exact ⟨(hb.cell (cell_in h0)).trans h0, (hb.cell (cell_in h1)).trans h1, (hb.cell (cell_in h2)).trans h2, (hb.cell (cell_in h3)).trans h3, (hb.cell (cell_in h4)).trans h4, (hb.cell (cell_in h5)).trans h5, (hb.cell (cell_in h6)).trans h6, (hb.cell (cell_in h7)).trans h7, (hb.cell (cell_in h8)).trans h8, (hb.cell (cell_in h9)).trans h9, (hb.cell (cell_in h10)).trans h10, (hb.cell (cell_in h11)).trans h11, (hb.cell (cell_in h12)).trans h12, (hb.cell (cell_in h13)).trans h13, (hb.cell (cell_in h14)).trans h14⟩
theorem keep15b {W W' : World} {p0 p1 p2 p3 p4 p5 p6 p7 p8 p9 p10 p11 p12 p13 p14 : Addr} {v0 v1 v2 v3 v4 v5 v6 v7 v8 v9 v10 v11 v12 v13 v14 : Value} (h : W.cell? p0 = some v0 ∧ W.cell? p1 = some v1 ∧ W.cell? p2 = some v2 ∧ W.cell? p3 = some v3 ∧ W.cell? p4 = some v4 ∧ W.cell? p5 = some v5 ∧ W.cell? p6 = some v6 ∧ W.cell? p7 = some v7 ∧ W.cell? p8 = some v8 ∧ W.cell? p9 = some v9 ∧ W.cell? p10 = some v10 ∧ W.cell? p11 = some v11 ∧ W.cell? p12 = some v12 ∧ W.cell? p13 = some v13 ∧ W.cell? p14 = some v14) (hne : W'.heap[p0.block]? = W.heap[p0.block]? ∧ W'.heap[p1.block]? = W.heap[p1.block]? ∧ W'.heap[p2.block]? = W.heap[p2.block]? ∧ W'.heap[p3.block]? = W.heap[p3.block]? ∧ W'.heap[p4.block]? = W.heap[p4.block]? ∧ W'.heap[p5.block]? = W.heap[p5.block]? ∧ W'.heap[p6.block]? = W.heap[p6.block]? ∧ W'.heap[p7.block]? = W.heap[p7.block]? ∧ W'.heap[p8.block]? = W.heap[p8.block]? ∧ W'.heap[p9.block]? = W.heap[p9.block]? ∧ W'.heap[p10.block]? = W.heap[p10.block]? ∧ W'.heap[p11.block]? = W.heap[p11.block]? ∧ W'.heap[p12.block]? = W.heap[p12.block]? ∧ W'.heap[p13.block]? = W.heap[p13.block]? ∧ W'.heap[p14.block]? = W.heap[p14.block]?) : W'.cell? p0 = some v0 ∧ W'.cell? p1 = some v1 ∧ W'.cell? p2 = some v2 ∧ W'.cell? p3 = some v3 ∧ W'.cell? p4 = some v4 ∧ W'.cell? p5 = some v5 ∧ W'.cell? p6 = some v6 ∧ W'.cell? p7 = some v7 ∧ W'.cell? p8 = some v8 ∧ W'.cell? p9 = some v9 ∧ W'.cell? p10 = some v10 ∧ W'.cell? p11 = some v11 ∧ W'.cell? p12 = some v12 ∧ W'.cell? p13 = some v13 ∧ W'.cell? p14 = some v14 := by
  obtain ⟨h0, h1, h2, h3, h4, h5, h6, h7, h8, h9, h10, h11, h12, h13, h14⟩ := h
  obtain ⟨q0, q1, q2, q3, q4, q5, q6, q7, q8, q9, q10, q11, q12, q13, q14⟩ := hne
  exact ⟨(World.cell?_of_block q0).trans h0, (World.cell?_of_block q1).trans h1, (World.cell?_of_block q2).trans h2, (World.cell?_of_block q3).trans h3, (World.cell?_of_block q4).trans h4, (World.cell?_of_block q5).trans h5, (World.cell?_of_block q6).trans h6, (World.cell?_of_block q7).trans h7, (World.cell?_of_block q8).trans h8, (World.cell?_of_block q9).trans h9, (World.cell?_of_block q10).trans h10, (World.cell?_of_block q11).trans h11, (World.cell?_of_block q12).trans h12, (World.cell?_of_block q13).trans h13, (World.cell?_of_block q14).trans h14⟩
theorem RS.cap {B : Nat} {w : World} {a : Option Addr} {n c : Nat} {l : List Stp} (h : RS B w (.slice a n c) l) : l.length ≤ c := by
  rcases h.2 with ⟨e, h0⟩ | ⟨g, cap, cur, e, _, _, hc, _⟩
  · omega
  · have := (Value.slice.inj e).2.2
    omega

set_option maxRecDepth 100000 in
set_option maxHeartbeats 8000000 in
theorem walk_any {w0 : World} {v : Value} {T : JT} (h : IsT w0 v T) (y : V) (gv gl gw : Nat) (hg : w0.heap.size ≤ gl) : ∀ (w : World) (L : List (List Stp)) (pv : Value) (p : List Stp), Below w0.heap.size w0 w → PS w0.heap.size gv gl gw y L w → RS 0 w pv p → formedB T = true → T.size ≤ 400 → p.length + T.size ≤ 1000 → L.length + T.size ≤ 1000 →
    Calls Tryz.prog 15 #[v, pv, .pointer (some ⟨gv, 0, none⟩), .pointer (some ⟨gl, 0, none⟩), .pointer (some ⟨gw, 0, none⟩)] w fun e w' => e = .returned (.tuple #[]) ∧ PS w0.heap.size gv gl gw y (L ++ pathsT y T p) w' ∧ Fp w0.heap.size gl w w' := by
  have HG : Hid (w0.heap.size ≤ gl) := hg
  clear hg
  induction h using IsTG.ind with
  | mk x ks ts uk a cap us hk hl hc hz hr hi ih =>
    intro w L pv p hb hps hp hf hs hd hd2
    have HI : Hid (∀ i (h : i < us.length) (h' : i < ts.length) (w : World) (L : List (List Stp)) (pv : Value) (p : List Stp), Below w0.heap.size w0 w → PS w0.heap.size gv gl gw y L w → RS 0 w pv p → formedB ts[i] = true → ts[i].size ≤ 400 → p.length + ts[i].size ≤ 1000 → L.length + ts[i].size ≤ 1000 → Calls Tryz.prog 15 #[tval us[i], pv, .pointer (some ⟨gv, 0, none⟩), .pointer (some ⟨gl, 0, none⟩), .pointer (some ⟨gw, 0, none⟩)] w fun e w' => e = .returned (.tuple #[]) ∧ PS w0.heap.size gv gl gw y (L ++ pathsT y ts[i] p) w' ∧ Fp w0.heap.size gl w w') := ih
    obtain ⟨T, hT⟩ : ∃ T, T = JT.node x ks ts := ⟨_, rfl⟩
    have HPT : Hid (pathsT y T p = (if sameB x y = true then [p] else []) ++ pathsL y x ks ts 0 p) := by rw [hT]; exact pathsT_node y x ks ts p
    have eks : T.ks = ks := by rw [hT]; rfl
    have ets : T.ts = ts := by rw [hT]; exact node_ts x ks ts
    have hx : T.x = x := by rw [hT]; rfl
    have hsz : T.size = sizes T.ts + 1 := size_eq T
    rw [← hT] at hf hs hd hd2 ⊢
    subst eks ets hx
    clear hT
    obtain ⟨ak, ck, rfl, hk1, hk2, hk3⟩ := hk
    have hks : IsStrs w0 (.slice ak T.ks.length ck) T.ks := ⟨ak, ck, rfl, hk1, hk2, hk3⟩
    have HF : Hid ((T.ts.length ≤ 400 ∧ T.ks.length ≤ 400 ∧ ∀ t ∈ T.ts, t.size ≤ 400) ∧ (T.x.k = 5 → T.ks.length = T.ts.length ∧ upB [] T.ks = true) ∧ (∀ t ∈ T.ts, formedB t = true) ∧ T.size ≤ 400 ∧ p.length + T.size ≤ 1000 ∧ T.size = sizes T.ts + 1 ∧ L.length + T.size ≤ 1000) := ⟨few_kids hf hs, (formed_node hf).1, (formed_node hf).2, hs, hd, hsz, hd2⟩
    have HS : Hid (IsStrs w0 (.slice ak T.ks.length ck) T.ks) := hks
    have HL : Hid (us.length = T.ts.length) := hl
    have HR : Hid (RowT w0 a us) := hr
    have HT : Hid (∀ i (h : i < us.length) (h' : i < T.ts.length), IsT w0 (tval us[i]) T.ts[i]) := hi
    have HB : Hid (Below w0.heap.size w0 w) := hb
    have HP : Hid (RS 0 w pv p) := hp
    have hpf := hp.form
    obtain ⟨pa, pc, hpv, hpn⟩ := hpf
    obtain ⟨pl, hpl⟩ : ∃ pl, p.length = pl := ⟨_, rfl⟩
    rw [hpl] at hpv
    subst hpv
    have HPE : Hid (p.length = pl) := hpl
    have HPC : Hid (pl ≤ pc) := by show pl ≤ pc; rw [← hpl]; exact RS.cap HP.out
    clear hpl hk1 hk2 hk3 hks hl hc hz hr hi hb ih hf hs hd hd2 hp hsz hpn
    have q0 := eqV T.x y
    obtain ⟨sm, HSM⟩ : ∃ sm, Hid (sameB T.x y = sm) := ⟨_, rfl⟩
    rw [HSM.out] at q0 HPT
    obtain ⟨yk, yn, yt, yo, ya⟩ := y
    unfold V.val at q0
    obtain ⟨xx, HXX⟩ : ∃ xx, Hid (T.x = xx) := ⟨_, rfl⟩
    rw [HXX.out] at q0 ⊢
    obtain ⟨xk, xn, xt, xo, xa⟩ := xx
    unfold tval
    dsimp only at *
    have b0 := (Below.refl w.heap.size w).alloc (Nat.le_refl _) (.cells #[.int .i64 xk, .int .i64 xn, .string xt, .int .i64 xo, .int .i64 xa, .slice ak T.ks.length ck, .slice a T.ts.length cap] 29)
    have x0 : (w.alloc (.cells #[.int .i64 xk, .int .i64 xn, .string xt, .int .i64 xo, .int .i64 xa, .slice ak T.ks.length ck, .slice a T.ts.length cap] 29)).heap[w.heap.size]? = some (.cells #[.int .i64 xk, .int .i64 xn, .string xt, .int .i64 xo, .int .i64 xa, .slice ak T.ks.length ck, .slice a T.ts.length cap] 29) := (MapKept.heap_alloc w _).1
    have p0 := hps.below b0
    have HA : Hid (_ ∧ _ ∧ _) := ⟨x0, p0, b0⟩
    have zB : w0.heap.size ≤ w.heap.size := HB.out.size
    have F0 : Fp w0.heap.size gl w _ := Fp.of b0 zB
    have rs0 : RS 0 (w.alloc (.cells #[.int .i64 xk, .int .i64 xn, .string xt, .int .i64 xo, .int .i64 xa, .slice ak T.ks.length ck, .slice a T.ts.length cap] 29)) (.slice pa pl pc) p := own_below HP.out b0 (Nat.le_refl _)
    obtain ⟨la, ln, lc, hgl, _⟩ := p0.l
    have zB1 := b0.size
    have HN : Hid (PS w0.heap.size gv gl gw ⟨yk, yn, yt, yo, ya⟩ L w) := hps
    clear hps
    -- the boxes' cells in the world of the start
    have u0 : (w.alloc (.cells #[.int .i64 xk, .int .i64 xn, .string xt, .int .i64 xo, .int .i64 xa, .slice ak T.ks.length ck, .slice a T.ts.length cap] 29)).cell? ⟨gv, 0, none⟩ = some (.int .i64 yk) := Lib.cell_of_heap p0.v 0
    have u1 : (w.alloc (.cells #[.int .i64 xk, .int .i64 xn, .string xt, .int .i64 xo, .int .i64 xa, .slice ak T.ks.length ck, .slice a T.ts.length cap] 29)).cell? ⟨gv, 1, none⟩ = some (.int .i64 yn) := Lib.cell_of_heap p0.v 1
    have u2 : (w.alloc (.cells #[.int .i64 xk, .int .i64 xn, .string xt, .int .i64 xo, .int .i64 xa, .slice ak T.ks.length ck, .slice a T.ts.length cap] 29)).cell? ⟨gv, 2, none⟩ = some (.string yt) := Lib.cell_of_heap p0.v 2
    have u3 : (w.alloc (.cells #[.int .i64 xk, .int .i64 xn, .string xt, .int .i64 xo, .int .i64 xa, .slice ak T.ks.length ck, .slice a T.ts.length cap] 29)).cell? ⟨gv, 3, none⟩ = some (.int .i64 yo) := Lib.cell_of_heap p0.v 3
    have u4 : (w.alloc (.cells #[.int .i64 xk, .int .i64 xn, .string xt, .int .i64 xo, .int .i64 xa, .slice ak T.ks.length ck, .slice a T.ts.length cap] 29)).cell? ⟨gv, 4, none⟩ = some (.int .i64 ya) := Lib.cell_of_heap p0.v 4
    cases sm with
    | false =>
      clear x0 p0 b0 F0 rs0 hgl zB zB1
      go_enter Tryz.func15, Tryz.ntmps15
      go_upto_region 3 with fail
      obtain ⟨x0, p0, b0⟩ := HA.out
      have F0 : Fp w0.heap.size gl w _ := Fp.of b0 HB.out.size
      clear HA q0 u0 u1 u2 u3 u4
      generalize (w.alloc (.cells #[.int .i64 xk, .int .i64 xn, .string xt, .int .i64 xo, .int .i64 xa, .slice ak T.ks.length ck, .slice a T.ts.length cap] 29)) = W at *
      have p1 : PS w0.heap.size gv gl gw ⟨yk, yn, yt, yo, ya⟩ (L ++ ([] : List (List Stp))) W := by simpa using p0
      clear p0
      have x6 : W.cell? ⟨w.heap.size, 6, none⟩ = some (.slice a T.ts.length cap) := Lib.cell_of_heap x0 6
      have HX0 : Hid (W.heap[w.heap.size]? = some (.cells #[.int .i64 xk, .int .i64 xn, .string xt, .int .i64 xo, .int .i64 xa, .slice ak T.ks.length ck, .slice a T.ts.length cap] 29)) := x0
      have HP0 : Hid (PS w0.heap.size gv gl gw ⟨yk, yn, yt, yo, ya⟩ (L ++ ([] : List (List Stp))) W) := p1
      have HF0 : Hid (Fp w0.heap.size gl w W) := F0
      clear x0 p1 F0
      go_wp2_with fail
      go_loopw [7, 19] (fun _ i wr => ∃ (j : Nat), j ≤ T.ts.length ∧ i = .int .i64 j ∧ Hid (PS w0.heap.size gv gl gw ⟨yk, yn, yt, yo, ya⟩ (L ++ ([] : List (List Stp)) ++ pathsL ⟨yk, yn, yt, yo, ya⟩ T.x T.ks (T.ts.take j) 0 p) wr) ∧ Hid (wr.heap[w.heap.size]? = some (.cells #[.int .i64 xk, .int .i64 xn, .string xt, .int .i64 xo, .int .i64 xa, .slice ak T.ks.length ck, .slice a T.ts.length cap] 29)) ∧ Hid (Fp w0.heap.size gl w wr)) (fun _ i _ => T.ts.length - (RowKit.intOf i).toNat)
      case atStart => exact ⟨0, Nat.zero_le _, rfl, by show PS _ _ _ _ _ _ _; simpa [pathsL_nil] using HP0.out, HX0, HF0⟩
      case round =>
        clear x6 HX0 HP0 HF0
        obtain ⟨j, hj, rfl, HPj, HX, HFj⟩ := hrel
        by_cases hlt : j < T.ts.length
        · have g1 : (j : Int) < T.ts.length := by omega
          have g2 : (pl : Int) ≤ pc := by have := HPC.out; omega
          have zB : w0.heap.size ≤ w.heap.size := HB.out.size
          have zW : w.heap.size ≤ wr.heap.size := HFj.out.size
          have hju : j < us.length := by have := HL.out; omega
          have tj := HT.out j hju hlt
          obtain ⟨⟨pk, pn, pt, po, pq⟩, pa1, pn1, pc1, pa2, pn2', pc2, hpp⟩ := tj.parts
          have hbw := HB.out.trans HFj.out.below
          obtain ⟨b2, o2, rfl, hb2, m0, m1, m2, m3, m4, m5, m6⟩ := HR.out.cells hbw j hju _ hpp
          have hsz2 : T.ts[j].size + 1 ≤ T.size := by
            have e1 := sizes_take T.ts j hlt
            have e2 := sizes_le T.ts (j + 1)
            have e3 := HF.out.2.2.2.2.2.1
            omega
          obtain ⟨x0, x1, x2, x3, x4, x5, x6⟩ := tboxed (u := (⟨xk, xn, xt, xo, xa⟩, .slice ak T.ks.length ck, .slice (some ⟨b2, o2, none⟩) T.ts.length cap)) HX.out
          have c0 : wr.cell? ⟨gw, 0, none⟩ = some (.func (Fn.func 15) #[] #[.pointer (some ⟨gv, 0, none⟩), .pointer (some ⟨gl, 0, none⟩), .pointer (some ⟨gw, 0, none⟩)]) := Lib.cell_of_heap HPj.out.f 0
          obtain ⟨ql, qn, qc, hgl, _⟩ := HN.out.l
          have RSj : RS 0 wr (.slice pa pl pc) p := HFj.out.steps hgl HP.out
          have E1 := fun (W : World) (hb : Below wr.heap.size wr W) => stepTo_any ⟨xk, xn, xt, xo, xa⟩ T.ks ak (some ⟨b2, o2, none⟩) ck T.ts.length cap j W (HS.out.below (hbw.trans (hb.mono hbw.size))) (fun e => by have := (HF.out.2.1 (by rw [HXX.out]; exact e)).1; omega)
          have E2 := fun (W : World) (u : Value) (s : Stp) (hb : Below wr.heap.size wr W) (hr : RS 0 W u (p ++ [s])) => HI.out j hju hlt W (L ++ ([] : List (List Stp)) ++ pathsL ⟨yk, yn, yt, yo, ya⟩ T.x T.ks (T.ts.take j) 0 p) u (p ++ [s]) (hbw.trans (hb.mono hbw.size)) (HPj.out.below hb) hr (HF.out.2.2.1 _ (List.getElem_mem hlt)) (HF.out.1.2.2 _ (List.getElem_mem hlt)) (by have := HF.out; rw [List.length_append, List.length_singleton]; omega) (by
            have e1 := pathsL_len ⟨yk, yn, yt, yo, ya⟩ T.x T.ks (T.ts.take j) 0 p
            have e2 := sizes_take T.ts j hlt
            have e2' := sizes_le T.ts (j + 1)
            have e4 := HF.out
            rw [List.length_append, List.length_append]
            have e5 : (([] : List (List Stp))).length ≤ 1 := by simp
            omega)
          rw [hpp] at E2
          have HST : Hid (stepOf T.x T.ks (0 + j) = stepOf ⟨xk, xn, xt, xo, xa⟩ T.ks j) := by
            show _ = _
            rw [HXX.out, Nat.zero_add]
          have HLL : Hid (pathsL ⟨yk, yn, yt, yo, ya⟩ T.x T.ks (T.ts.take (j + 1)) 0 p = pathsL ⟨yk, yn, yt, yo, ya⟩ T.x T.ks (T.ts.take j) 0 p ++ pathsT ⟨yk, yn, yt, yo, ya⟩ T.ts[j] (p ++ [stepOf ⟨xk, xn, xt, xo, xa⟩ T.ks j])) := by
            show _ = _
            rw [pathsL_take _ _ _ _ _ _ _ hlt, HST.out]
          have HRS : Hid (RS 0 wr (.slice pa pl pc) p) := RSj
          have HZ : Hid (w0.heap.size ≤ w.heap.size ∧ w.heap.size ≤ wr.heap.size ∧ b2 < w0.heap.size) := ⟨zB, zW, hb2⟩
          have hgw : w.heap.size ≠ gl := by have := lt_of_heap hgl; omega
          have HNE : Hid (w.heap.size ≠ gl ∧ gw ≠ gl) := ⟨hgw, HPj.out.apart.2⟩
          have KNE : ∀ W17 W16 : World, Below wr.heap.size wr W16 → Fp w0.heap.size gl W16 W17 → W17.heap[w.heap.size]? = W16.heap[w.heap.size]? ∧ W17.heap[w.heap.size]? = W16.heap[w.heap.size]? ∧ W17.heap[w.heap.size]? = W16.heap[w.heap.size]? ∧ W17.heap[w.heap.size]? = W16.heap[w.heap.size]? ∧ W17.heap[w.heap.size]? = W16.heap[w.heap.size]? ∧ W17.heap[w.heap.size]? = W16.heap[w.heap.size]? ∧ W17.heap[w.heap.size]? = W16.heap[w.heap.size]? ∧ W17.heap[b2]? = W16.heap[b2]? ∧ W17.heap[b2]? = W16.heap[b2]? ∧ W17.heap[b2]? = W16.heap[b2]? ∧ W17.heap[b2]? = W16.heap[b2]? ∧ W17.heap[b2]? = W16.heap[b2]? ∧ W17.heap[b2]? = W16.heap[b2]? ∧ W17.heap[b2]? = W16.heap[b2]? ∧ W17.heap[gw]? = W16.heap[gw]? := by
            intro W17 W16 hb hF
            have e1 := hF.same ((hb.block _ (lt_of_heap HX.out)).trans HX.out) HNE.out.1 (by decide)
            have e2 := hF.low b2 HZ.out.2.2
            have e3 := hF.same ((hb.block _ (lt_of_heap HPj.out.f)).trans HPj.out.f) HNE.out.2 (by decide)
            exact ⟨e1, e1, e1, e1, e1, e1, e1, e2, e2, e2, e2, e2, e2, e2, e3⟩
          have KNE' : Hid (∀ W17 W16 : World, Below wr.heap.size wr W16 → Fp w0.heap.size gl W16 W17 → W17.heap[w.heap.size]? = W16.heap[w.heap.size]? ∧ W17.heap[w.heap.size]? = W16.heap[w.heap.size]? ∧ W17.heap[w.heap.size]? = W16.heap[w.heap.size]? ∧ W17.heap[w.heap.size]? = W16.heap[w.heap.size]? ∧ W17.heap[w.heap.size]? = W16.heap[w.heap.size]? ∧ W17.heap[w.heap.size]? = W16.heap[w.heap.size]? ∧ W17.heap[w.heap.size]? = W16.heap[w.heap.size]? ∧ W17.heap[b2]? = W16.heap[b2]? ∧ W17.heap[b2]? = W16.heap[b2]? ∧ W17.heap[b2]? = W16.heap[b2]? ∧ W17.heap[b2]? = W16.heap[b2]? ∧ W17.heap[b2]? = W16.heap[b2]? ∧ W17.heap[b2]? = W16.heap[b2]? ∧ W17.heap[b2]? = W16.heap[b2]? ∧ W17.heap[gw]? = W16.heap[gw]?) := KNE
          clear KNE
          generalize stepOf ⟨xk, xn, xt, xo, xa⟩ T.ks j = st at *
          obtain ⟨sb, si⟩ := st
          generalize T.ts[j] = Tj at *
          have HJ : Hid (j < T.ts.length) := hlt
          have HPL : Hid (p.length ≤ 1000) := by show _ ≤ _; have := HF.out.2.2.2.2.1; omega
          dsimp only [tval, stpV] at E1 E2
          dsimp only at x0 x1 x2 x3 x4 x5 x6 m0 m1 m2 m3 m4 m5 m6
          clear hpp hju hlt hj tj zB zW hb2 hsz2 hgl RSj HST hgw hbw
          go_upto_region 6 with fail
          refine wp_region_noPanic ?_
          refine wp_region_held_drew (S := fun W => W.cell? ⟨w.heap.size, 0, none⟩ = some (.int .i64 xk) ∧ W.cell? ⟨w.heap.size, 1, none⟩ = some (.int .i64 xn) ∧ W.cell? ⟨w.heap.size, 2, none⟩ = some (.string xt) ∧ W.cell? ⟨w.heap.size, 3, none⟩ = some (.int .i64 xo) ∧ W.cell? ⟨w.heap.size, 4, none⟩ = some (.int .i64 xa) ∧ W.cell? ⟨w.heap.size, 5, none⟩ = some (.slice ak T.ks.length ck) ∧ W.cell? ⟨w.heap.size, 6, none⟩ = some (.slice (some ⟨b2, o2, none⟩) T.ts.length cap) ∧ W.cell? ⟨b2, o2 + j * 7, none⟩ = some (.int .i64 pk) ∧ W.cell? ⟨b2, o2 + j * 7 + 1, none⟩ = some (.int .i64 pn) ∧ W.cell? ⟨b2, o2 + j * 7 + 2, none⟩ = some (.string pt) ∧ W.cell? ⟨b2, o2 + j * 7 + 3, none⟩ = some (.int .i64 po) ∧ W.cell? ⟨b2, o2 + j * 7 + 4, none⟩ = some (.int .i64 pq) ∧ W.cell? ⟨b2, o2 + j * 7 + 5, none⟩ = some (.slice pa1 pn1 pc1) ∧ W.cell? ⟨b2, o2 + j * 7 + 6, none⟩ = some (.slice pa2 pn2' pc2) ∧ W.cell? ⟨gw, 0, none⟩ = some (.func (Fn.func 15) #[] #[.pointer (some ⟨gv, 0, none⟩), .pointer (some ⟨gl, 0, none⟩), .pointer (some ⟨gw, 0, none⟩)])) (by kernel_rfl) (⟨x0, x1, x2, x3, x4, x5, x6, m0, m1, m2, m3, m4, m5, m6, c0⟩) (fun hHeld => ?_)
          refine wpAnyH_take (i := 0) (oi := { dst := some 22, op := Op.load 58 (Operand.tmp 4), type := 58, pos := "path.go:37", after := #[], guard := none }) (v := ?_) rfl (by kernel_rfl) (by kernel_rfl) (by kernel_rfl) (fun _ _ _ h => h) (Or.inl ⟨by rfl, ?_⟩) (by assumption) ?_
          rotate_left
          · intro wz hSw
            try dsimp only at hSw
            go_simp
            try with_reducible rfl
          try simp only [Act.put, List.setIfInBounds_toArray, List.set_cons_zero, List.set_cons_succ]
          refine wpAnyH_take (i := 1) (oi := { dst := some 23, op := Op.fieldAddr 29 (Operand.tmp 5) 2, type := 0, pos := "path.go:37", after := #[], guard := none }) (v := ?_) rfl (by kernel_rfl) (by kernel_rfl) (by kernel_rfl) (fun _ _ _ h => h) (Or.inl ⟨by rfl, ?_⟩) (by assumption) ?_
          rotate_left
          · intro wz hSw
            try dsimp only at hSw
            go_simp
            try with_reducible rfl
          try simp only [Act.put, List.setIfInBounds_toArray, List.set_cons_zero, List.set_cons_succ]
          refine wpAnyH_take (i := 2) (oi := { dst := some 24, op := Op.load 27 (Operand.tmp 23), type := 27, pos := "path.go:37", after := #[{ on := 1, ground := Ground.data }], guard := none }) (v := ?_) rfl (by kernel_rfl) (by kernel_rfl) (by kernel_rfl) (fun _ _ _ h => h) (Or.inl ⟨by rfl, ?_⟩) (by assumption) ?_
          rotate_left
          · intro wz hSw
            try dsimp only at hSw
            go_simp
            try with_reducible rfl
          try simp only [Act.put, List.setIfInBounds_toArray, List.set_cons_zero, List.set_cons_succ]
          refine wpAnyH_take (i := 3) (oi := { dst := some 25, op := Op.move (Operand.tmp 7), type := 3, pos := "path.go:37", after := #[], guard := none }) (v := ?_) rfl (by kernel_rfl) (by kernel_rfl) (by kernel_rfl) (fun _ _ _ h => h) (Or.inl ⟨by rfl, ?_⟩) (by assumption) ?_
          rotate_left
          · intro wz hSw
            try dsimp only at hSw
            go_simp
            try with_reducible rfl
          try simp only [Act.put, List.setIfInBounds_toArray, List.set_cons_zero, List.set_cons_succ]
          refine wpAnyH_take (i := 4) (oi := { dst := some 26, op := Op.indexAddr 27 (Operand.tmp 24) (Operand.tmp 25), type := 0, pos := "path.go:37", after := #[{ on := 2, ground := Ground.data }, { on := 3, ground := Ground.data }], guard := none }) (v := ?_) rfl (by kernel_rfl) (by kernel_rfl) (by kernel_rfl) (fun _ _ _ h => h) (Or.inl ⟨by rfl, ?_⟩) (by assumption) ?_
          rotate_left
          · intro wz hSw
            try dsimp only at hSw
            go_simp
            try with_reducible rfl
          try simp only [Act.put, List.setIfInBounds_toArray, List.set_cons_zero, List.set_cons_succ]
          refine wpAnyH_take (i := 5) (oi := { dst := some 27, op := Op.load 29 (Operand.tmp 26), type := 29, pos := "path.go:37", after := #[{ on := 4, ground := Ground.data }], guard := none }) (v := ?_) rfl (by kernel_rfl) (by kernel_rfl) (by kernel_rfl) (fun _ _ _ h => h) (Or.inl ⟨by rfl, ?_⟩) (by assumption) ?_
          rotate_left
          · intro wz hSw
            try dsimp only at hSw
            go_simp
            try with_reducible rfl
          try simp only [Act.put, List.setIfInBounds_toArray, List.set_cons_zero, List.set_cons_succ]
          refine wpAnyH_take (i := 6) (oi := { dst := some 28, op := Op.move (Operand.tmp 1), type := 42, pos := "path.go:37", after := #[], guard := none }) (v := ?_) rfl (by kernel_rfl) (by kernel_rfl) (by kernel_rfl) (fun _ _ _ h => h) (Or.inl ⟨by rfl, ?_⟩) (by assumption) ?_
          rotate_left
          · intro wz hSw
            try dsimp only at hSw
            go_simp
            try with_reducible rfl
          try simp only [Act.put, List.setIfInBounds_toArray, List.set_cons_zero, List.set_cons_succ]
          refine wpAnyH_take (i := 7) (oi := { dst := some 29, op := Op.move (Operand.tmp 1), type := 42, pos := "path.go:37", after := #[], guard := none }) (v := ?_) rfl (by kernel_rfl) (by kernel_rfl) (by kernel_rfl) (fun _ _ _ h => h) (Or.inl ⟨by rfl, ?_⟩) (by assumption) ?_
          rotate_left
          · intro wz hSw
            try dsimp only at hSw
            go_simp
            try with_reducible rfl
          try simp only [Act.put, List.setIfInBounds_toArray, List.set_cons_zero, List.set_cons_succ]
          refine wpAnyH_take (i := 8) (oi := { dst := some 30, op := Op.call { callee := Callee.builtin Builtin.len, args := #[Operand.tmp 29], argTypes := #[42] }, type := 3, pos := "path.go:37", after := #[{ on := 7, ground := Ground.data }], guard := none }) (v := ?_) rfl (by kernel_rfl) (by kernel_rfl) (by kernel_rfl) (fun _ _ _ h => h) (Or.inl ⟨by rfl, ?_⟩) (by assumption) ?_
          rotate_left
          · intro wz hSw
            try dsimp only at hSw
            go_simp
            try with_reducible rfl
          try simp only [Act.put, List.setIfInBounds_toArray, List.set_cons_zero, List.set_cons_succ]
          refine wpAnyH_take (i := 9) (oi := { dst := some 31, op := Op.move (Operand.tmp 1), type := 42, pos := "path.go:37", after := #[], guard := none }) (v := ?_) rfl (by kernel_rfl) (by kernel_rfl) (by kernel_rfl) (fun _ _ _ h => h) (Or.inl ⟨by rfl, ?_⟩) (by assumption) ?_
          rotate_left
          · intro wz hSw
            try dsimp only at hSw
            go_simp
            try with_reducible rfl
          try simp only [Act.put, List.setIfInBounds_toArray, List.set_cons_zero, List.set_cons_succ]
          refine wpAnyH_take (i := 10) (oi := { dst := some 32, op := Op.call { callee := Callee.builtin Builtin.len, args := #[Operand.tmp 31], argTypes := #[42] }, type := 3, pos := "path.go:37", after := #[{ on := 9, ground := Ground.data }], guard := none }) (v := ?_) rfl (by kernel_rfl) (by kernel_rfl) (by kernel_rfl) (fun _ _ _ h => h) (Or.inl ⟨by rfl, ?_⟩) (by assumption) ?_
          rotate_left
          · intro wz hSw
            try dsimp only at hSw
            go_simp
            try with_reducible rfl
          try simp only [Act.put, List.setIfInBounds_toArray, List.set_cons_zero, List.set_cons_succ]
          refine wpAnyH_take (i := 11) (oi := { dst := some 33, op := Op.slice 42 (Operand.tmp 28) none (some (Operand.tmp 30)) (some (Operand.tmp 32)), type := 42, pos := "path.go:37", after := #[{ on := 6, ground := Ground.data }, { on := 8, ground := Ground.data }, { on := 10, ground := Ground.data }], guard := none }) (v := .slice pa pl pl) rfl (by kernel_rfl) (by kernel_rfl) (by kernel_rfl) (fun _ _ _ h => h) (Or.inl ⟨by rfl, ?_⟩) (by assumption) ?_
          · intro wz hSw
            have hl := slice3 pa pl pc HPC.out wz
            simp [Act.eval, hl, go_sem]
          try simp only [Act.put, List.setIfInBounds_toArray, List.set_cons_zero, List.set_cons_succ]
          refine wpAnyH_take (i := 12) (oi := { dst := some 34, op := Op.load 29 (Operand.tmp 5), type := 29, pos := "path.go:37", after := #[], guard := none }) (v := ?_) rfl (by kernel_rfl) (by kernel_rfl) (by kernel_rfl) (fun _ _ _ h => h) (Or.inl ⟨by rfl, ?_⟩) (by assumption) ?_
          rotate_left
          · intro wz hSw
            try dsimp only at hSw
            go_simp
            try with_reducible rfl
          try simp only [Act.put, List.setIfInBounds_toArray, List.set_cons_zero, List.set_cons_succ]
          refine wpAnyH_take (i := 13) (oi := { dst := some 35, op := Op.move (Operand.tmp 7), type := 3, pos := "path.go:37", after := #[], guard := none }) (v := ?_) rfl (by kernel_rfl) (by kernel_rfl) (by kernel_rfl) (fun _ _ _ h => h) (Or.inl ⟨by rfl, ?_⟩) (by assumption) ?_
          rotate_left
          · intro wz hSw
            try dsimp only at hSw
            go_simp
            try with_reducible rfl
          try simp only [Act.put, List.setIfInBounds_toArray, List.set_cons_zero, List.set_cons_succ]
          refine wpAnyH_ready (rs := [14]) (by kernel_rfl) (by simp) (AllReadyH.cons (o := { dst := some 36, op := Op.call { callee := Callee.value (Operand.func 16), args := #[Operand.tmp 34, Operand.tmp 35], argTypes := #[29, 3] }, type := 60, pos := "path.go:37", after := #[{ on := 12, ground := Ground.data }, { on := 13, ground := Ground.data }], guard := none }) rfl (fun K hK => ?_) AllReadyH.nil)
          go_simp
          go_at_call 16
          refine Calls.mono (E1 _ ((Below.refl wr.heap.size wr).drew)) ?_
          rintro e w14 ⟨rfl, b14⟩
          go_wp2_with fail
          refine hK.out _ _ (keep15 (by assumption) b14) (fun hHeld14 => ?_)
          clear hK K
          try simp only [Act.put, List.setIfInBounds_toArray, List.set_cons_zero, List.set_cons_succ]
          have bW14 : Below wr.heap.size wr w14 := ⟨b14.os, b14.tape, b14.output, b14.size, b14.block⟩
          have b15 := (Below.refl w14.heap.size w14).alloc (Nat.le_refl _) (.cells #[.string sb, .int .i64 si] 60)
          have n15 : (w14.alloc (.cells #[.string sb, .int .i64 si] 60)).heap[w14.heap.size]? = some (.cells #[.string sb, .int .i64 si] 60) := (MapKept.heap_alloc w14 _).1
          refine wpAnyH_ready (rs := [15]) (by kernel_rfl) (by simp) (AllReadyH.cons (o := { dst := some 37, op := Op.buildSlice 42 1 #[(0, Operand.tmp 36)], type := 42, pos := "path.go:37", after := #[{ on := 14, ground := Ground.data }], guard := none }) rfl (fun K hK => ?_) AllReadyH.nil)
          go_simp
          refine hK.out _ _ (keep15 (by assumption) b15) (fun hHeld15 => ?_)
          clear hK K
          try simp only [Act.put, List.setIfInBounds_toArray, List.set_cons_zero, List.set_cons_succ]
          have bW15 := bW14.trans (b15.mono bW14.size)
          obtain ⟨u16, W16, r16, s16, b16⟩ := app_cut' 42 (w14.alloc (.cells #[.string sb, .int .i64 si] 60)) pa pc p pl HPE.out (own_below HRS.out bW15 (Nat.le_refl _)) ⟨w14.heap.size, 0, none⟩ (sb, si) (Lib.cell_of_heap n15 0) (Lib.cell_of_heap n15 1) (by have := HPL.out; omega)
          have bW16 := bW15.trans (b16.mono bW15.size)
          refine wpAnyH_ready (rs := [16]) (by kernel_rfl) (by simp) (AllReadyH.cons (o := { dst := some 38, op := Op.call { callee := Callee.builtin Builtin.append, args := #[Operand.tmp 33, Operand.tmp 37], argTypes := #[42, 42] }, type := 42, pos := "path.go:37", after := #[{ on := 11, ground := Ground.data }, { on := 15, ground := Ground.data }, { on := 14, ground := Ground.chain }], guard := none }) rfl (fun K hK => ?_) AllReadyH.nil)
          refine step_append_known rfl (.tmp 33) (.tmp 37) 42 rfl (.slice pa pl pl) (.slice (some ⟨w14.heap.size, 0, none⟩) 1 1) u16 W16 (by simp [Act.eval]) (by simp [Act.eval]) r16 ?_
          refine hK.out _ _ (keep15 (by assumption) b16) (fun hHeld16 => ?_)
          clear hK K
          try simp only [Act.put, List.setIfInBounds_toArray, List.set_cons_zero, List.set_cons_succ]
          refine wpAnyH_ready (rs := [17]) (by kernel_rfl) (by simp) (AllReadyH.cons (o := { dst := some 39, op := Op.call { callee := Callee.value (Operand.tmp 22), args := #[Operand.tmp 27, Operand.tmp 38], argTypes := #[29, 42] }, type := 0, pos := "path.go:37", after := #[{ on := 0, ground := Ground.data }, { on := 5, ground := Ground.data }, { on := 16, ground := Ground.data }, { on := 16, ground := Ground.chain }], guard := none }) rfl (fun K hK => ?_) AllReadyH.nil)
          go_simp
          go_at_call 15
          refine Calls.mono (E2 W16 u16 (sb, si) bW16 (s16.mono (Nat.zero_le _))) ?_
          rintro e w17 ⟨rfl, hP17, hF17⟩
          go_wp2_with fail
          refine hK.out _ _ (keep15b (by assumption) (KNE'.out w17 W16 bW16 hF17)) (fun hHeld17 => ?_)
          clear hK K
          try simp only [Act.put, List.setIfInBounds_toArray, List.set_cons_zero, List.set_cons_succ]
          refine wpAnyH_done (by kernel_rfl) ?_ _
          refine NoPanic.normal ?_
          have HP9 : Hid (PS w0.heap.size gv gl gw ⟨yk, yn, yt, yo, ya⟩ (L ++ ([] : List (List Stp)) ++ pathsL ⟨yk, yn, yt, yo, ya⟩ T.x T.ks (T.ts.take (j + 1)) 0 p) w17) := by
            show PS _ _ _ _ _ _ _
            rw [HLL.out, ← List.append_assoc]
            exact hP17
          have hF16 : Fp w0.heap.size gl w W16 := HFj.out.trans (Fp.of bW16 (by have := HZ.out; omega))
          have HX9 : Hid (w17.heap[w.heap.size]? = some _) := hF17.heap ((bW16.block _ (lt_of_heap HX.out)).trans HX.out) HNE.out.1 (by decide)
          have HF9 : Hid (Fp w0.heap.size gl w w17) := hF16.trans hF17
          have g3 : (j : Int) < 8796093022208 := by have := HF.out.1.1; have := HJ.out; omega
          clear hHeld hHeld14 hHeld15 hHeld16 hHeld17 b14 bW14 b15 n15 bW15 r16 s16 b16 bW16 hP17 hF16 hF17 E1 E2 m0 m1 m2 m3 m4 m5 m6 x0 x1 x2 x3 x4 x5 x6 c0 KNE' HLL
          go_wp2
          go_roundw
          case rel => exact ⟨j + 1, HJ.out, by go_num, HP9, HX9, HF9⟩
          case measure => simp [RowKit.intOf]; have := HJ.out; omega
        · have g1 : ¬ (j : Int) < T.ts.length := by omega
          have HR9 : Hid (PS w0.heap.size gv gl gw ⟨yk, yn, yt, yo, ya⟩ (L ++ pathsT ⟨yk, yn, yt, yo, ya⟩ T p) wr) := by
            show PS _ _ _ _ _ _ _
            have e : T.ts.take j = T.ts := List.take_of_length_le (by omega)
            have h9 := HPj.out
            rw [e] at h9
            rw [HPT.out]
            simpa using h9
          clear hlt hj
          go_wp2
          go_end0
          exact ⟨rfl, HR9.out, HFj.out⟩
    | true =>
      obtain ⟨na, nn, nc, W1, r1, hgl1, p1, F1⟩ := p0.more hgl rs0 (by omega) HG.out (by have := HF.out.2.2.2.2.2.2; omega)
      have hz1 : (w.alloc (.cells #[.int .i64 xk, .int .i64 xn, .string xt, .int .i64 xo, .int .i64 xa, .slice ak T.ks.length ck, .slice a T.ts.length cap] 29)).heap.size = w.heap.size + 1 := by simp
      rw [hz1] at r1
      clear hz1
      have l0 : (w.alloc (.cells #[.int .i64 xk, .int .i64 xn, .string xt, .int .i64 xo, .int .i64 xa, .slice ak T.ks.length ck, .slice a T.ts.length cap] 29)).cell? ⟨gl, 0, none⟩ = some (.slice la ln lc) := Lib.cell_of_heap hgl 0
      have m0 : W1.cell? ⟨gl, 0, none⟩ = some (.slice la ln lc) := Lib.cell_of_heap hgl1 0
      have mf := Lib.frozen_of_heap hgl1
      have hne : w.heap.size ≠ gl := by
        intro e
        have := lt_of_heap ((HN.out.l).choose_spec.choose_spec.choose_spec.1)
        omega
      have HX1 : Hid ((W1.setCell ⟨gl, 0, none⟩ (.slice na nn nc)).heap[w.heap.size]? = some (.cells #[.int .i64 xk, .int .i64 xn, .string xt, .int .i64 xo, .int .i64 xa, .slice ak T.ks.length ck, .slice a T.ts.length cap] 29)) := F1.heap x0 hne (by decide)
      have HP1 : Hid (PS w0.heap.size gv gl gw ⟨yk, yn, yt, yo, ya⟩ (L ++ [p]) (W1.setCell ⟨gl, 0, none⟩ (.slice na nn nc))) := p1
      have HF1 : Hid (Fp w0.heap.size gl w (W1.setCell ⟨gl, 0, none⟩ (.slice na nn nc))) := F0.trans F1
      clear x0 p0 b0 F0 rs0 hgl zB zB1 p1 F1 hne hgl1
      go_enter Tryz.func15, Tryz.ntmps15
      go_upto_region 3 with (first | (at_builtin; refine wp_append rfl _ _ 37 rfl _ _ _ _ rfl rfl r1 ?_))
      clear HA q0 u0 u1 u2 u3 u4 l0 m0 mf r1
      have x0 := HX1.out
      have p1 := HP1.out
      have F0 := HF1.out
      clear HX1 HP1 HF1
      generalize (W1.setCell ⟨gl, 0, none⟩ (.slice na nn nc)) = W at *
      have x6 : W.cell? ⟨w.heap.size, 6, none⟩ = some (.slice a T.ts.length cap) := Lib.cell_of_heap x0 6
      have HX0 : Hid (W.heap[w.heap.size]? = some (.cells #[.int .i64 xk, .int .i64 xn, .string xt, .int .i64 xo, .int .i64 xa, .slice ak T.ks.length ck, .slice a T.ts.length cap] 29)) := x0
      have HP0 : Hid (PS w0.heap.size gv gl gw ⟨yk, yn, yt, yo, ya⟩ (L ++ [p]) W) := p1
      have HF0 : Hid (Fp w0.heap.size gl w W) := F0
      clear x0 p1 F0
      go_wp2_with fail
      go_loopw [7, 19] (fun _ i wr => ∃ (j : Nat), j ≤ T.ts.length ∧ i = .int .i64 j ∧ Hid (PS w0.heap.size gv gl gw ⟨yk, yn, yt, yo, ya⟩ (L ++ [p] ++ pathsL ⟨yk, yn, yt, yo, ya⟩ T.x T.ks (T.ts.take j) 0 p) wr) ∧ Hid (wr.heap[w.heap.size]? = some (.cells #[.int .i64 xk, .int .i64 xn, .string xt, .int .i64 xo, .int .i64 xa, .slice ak T.ks.length ck, .slice a T.ts.length cap] 29)) ∧ Hid (Fp w0.heap.size gl w wr)) (fun _ i _ => T.ts.length - (RowKit.intOf i).toNat)
      case atStart => exact ⟨0, Nat.zero_le _, rfl, by show PS _ _ _ _ _ _ _; simpa [pathsL_nil] using HP0.out, HX0, HF0⟩
      case round =>
        clear x6 HX0 HP0 HF0
        obtain ⟨j, hj, rfl, HPj, HX, HFj⟩ := hrel
        by_cases hlt : j < T.ts.length
        · have g1 : (j : Int) < T.ts.length := by omega
          have g2 : (pl : Int) ≤ pc := by have := HPC.out; omega
          have zB : w0.heap.size ≤ w.heap.size := HB.out.size
          have zW : w.heap.size ≤ wr.heap.size := HFj.out.size
          have hju : j < us.length := by have := HL.out; omega
          have tj := HT.out j hju hlt
          obtain ⟨⟨pk, pn, pt, po, pq⟩, pa1, pn1, pc1, pa2, pn2', pc2, hpp⟩ := tj.parts
          have hbw := HB.out.trans HFj.out.below
          obtain ⟨b2, o2, rfl, hb2, m0, m1, m2, m3, m4, m5, m6⟩ := HR.out.cells hbw j hju _ hpp
          have hsz2 : T.ts[j].size + 1 ≤ T.size := by
            have e1 := sizes_take T.ts j hlt
            have e2 := sizes_le T.ts (j + 1)
            have e3 := HF.out.2.2.2.2.2.1
            omega
          obtain ⟨x0, x1, x2, x3, x4, x5, x6⟩ := tboxed (u := (⟨xk, xn, xt, xo, xa⟩, .slice ak T.ks.length ck, .slice (some ⟨b2, o2, none⟩) T.ts.length cap)) HX.out
          have c0 : wr.cell? ⟨gw, 0, none⟩ = some (.func (Fn.func 15) #[] #[.pointer (some ⟨gv, 0, none⟩), .pointer (some ⟨gl, 0, none⟩), .pointer (some ⟨gw, 0, none⟩)]) := Lib.cell_of_heap HPj.out.f 0
          obtain ⟨ql, qn, qc, hgl, _⟩ := HN.out.l
          have RSj : RS 0 wr (.slice pa pl pc) p := HFj.out.steps hgl HP.out
          have E1 := fun (W : World) (hb : Below wr.heap.size wr W) => stepTo_any ⟨xk, xn, xt, xo, xa⟩ T.ks ak (some ⟨b2, o2, none⟩) ck T.ts.length cap j W (HS.out.below (hbw.trans (hb.mono hbw.size))) (fun e => by have := (HF.out.2.1 (by rw [HXX.out]; exact e)).1; omega)
          have E2 := fun (W : World) (u : Value) (s : Stp) (hb : Below wr.heap.size wr W) (hr : RS 0 W u (p ++ [s])) => HI.out j hju hlt W (L ++ [p] ++ pathsL ⟨yk, yn, yt, yo, ya⟩ T.x T.ks (T.ts.take j) 0 p) u (p ++ [s]) (hbw.trans (hb.mono hbw.size)) (HPj.out.below hb) hr (HF.out.2.2.1 _ (List.getElem_mem hlt)) (HF.out.1.2.2 _ (List.getElem_mem hlt)) (by have := HF.out; rw [List.length_append, List.length_singleton]; omega) (by
            have e1 := pathsL_len ⟨yk, yn, yt, yo, ya⟩ T.x T.ks (T.ts.take j) 0 p
            have e2 := sizes_take T.ts j hlt
            have e2' := sizes_le T.ts (j + 1)
            have e4 := HF.out
            rw [List.length_append, List.length_append]
            have e5 : ([p]).length ≤ 1 := by simp
            omega)
          rw [hpp] at E2
          have HST : Hid (stepOf T.x T.ks (0 + j) = stepOf ⟨xk, xn, xt, xo, xa⟩ T.ks j) := by
            show _ = _
            rw [HXX.out, Nat.zero_add]
          have HLL : Hid (pathsL ⟨yk, yn, yt, yo, ya⟩ T.x T.ks (T.ts.take (j + 1)) 0 p = pathsL ⟨yk, yn, yt, yo, ya⟩ T.x T.ks (T.ts.take j) 0 p ++ pathsT ⟨yk, yn, yt, yo, ya⟩ T.ts[j] (p ++ [stepOf ⟨xk, xn, xt, xo, xa⟩ T.ks j])) := by
            show _ = _
            rw [pathsL_take _ _ _ _ _ _ _ hlt, HST.out]
          have HRS : Hid (RS 0 wr (.slice pa pl pc) p) := RSj
          have HZ : Hid (w0.heap.size ≤ w.heap.size ∧ w.heap.size ≤ wr.heap.size ∧ b2 < w0.heap.size) := ⟨zB, zW, hb2⟩
          have hgw : w.heap.size ≠ gl := by have := lt_of_heap hgl; omega
          have HNE : Hid (w.heap.size ≠ gl ∧ gw ≠ gl) := ⟨hgw, HPj.out.apart.2⟩
          have KNE : ∀ W17 W16 : World, Below wr.heap.size wr W16 → Fp w0.heap.size gl W16 W17 → W17.heap[w.heap.size]? = W16.heap[w.heap.size]? ∧ W17.heap[w.heap.size]? = W16.heap[w.heap.size]? ∧ W17.heap[w.heap.size]? = W16.heap[w.heap.size]? ∧ W17.heap[w.heap.size]? = W16.heap[w.heap.size]? ∧ W17.heap[w.heap.size]? = W16.heap[w.heap.size]? ∧ W17.heap[w.heap.size]? = W16.heap[w.heap.size]? ∧ W17.heap[w.heap.size]? = W16.heap[w.heap.size]? ∧ W17.heap[b2]? = W16.heap[b2]? ∧ W17.heap[b2]? = W16.heap[b2]? ∧ W17.heap[b2]? = W16.heap[b2]? ∧ W17.heap[b2]? = W16.heap[b2]? ∧ W17.heap[b2]? = W16.heap[b2]? ∧ W17.heap[b2]? = W16.heap[b2]? ∧ W17.heap[b2]? = W16.heap[b2]? ∧ W17.heap[gw]? = W16.heap[gw]? := by
            intro W17 W16 hb hF
            have e1 := hF.same ((hb.block _ (lt_of_heap HX.out)).trans HX.out) HNE.out.1 (by decide)
            have e2 := hF.low b2 HZ.out.2.2
            have e3 := hF.same ((hb.block _ (lt_of_heap HPj.out.f)).trans HPj.out.f) HNE.out.2 (by decide)
            exact ⟨e1, e1, e1, e1, e1, e1, e1, e2, e2, e2, e2, e2, e2, e2, e3⟩
          have KNE' : Hid (∀ W17 W16 : World, Below wr.heap.size wr W16 → Fp w0.heap.size gl W16 W17 → W17.heap[w.heap.size]? = W16.heap[w.heap.size]? ∧ W17.heap[w.heap.size]? = W16.heap[w.heap.size]? ∧ W17.heap[w.heap.size]? = W16.heap[w.heap.size]? ∧ W17.heap[w.heap.size]? = W16.heap[w.heap.size]? ∧ W17.heap[w.heap.size]? = W16.heap[w.heap.size]? ∧ W17.heap[w.heap.size]? = W16.heap[w.heap.size]? ∧ W17.heap[w.heap.size]? = W16.heap[w.heap.size]? ∧ W17.heap[b2]? = W16.heap[b2]? ∧ W17.heap[b2]? = W16.heap[b2]? ∧ W17.heap[b2]? = W16.heap[b2]? ∧ W17.heap[b2]? = W16.heap[b2]? ∧ W17.heap[b2]? = W16.heap[b2]? ∧ W17.heap[b2]? = W16.heap[b2]? ∧ W17.heap[b2]? = W16.heap[b2]? ∧ W17.heap[gw]? = W16.heap[gw]?) := KNE
          clear KNE
          generalize stepOf ⟨xk, xn, xt, xo, xa⟩ T.ks j = st at *
          obtain ⟨sb, si⟩ := st
          generalize T.ts[j] = Tj at *
          have HJ : Hid (j < T.ts.length) := hlt
          have HPL : Hid (p.length ≤ 1000) := by show _ ≤ _; have := HF.out.2.2.2.2.1; omega
          dsimp only [tval, stpV] at E1 E2
          dsimp only at x0 x1 x2 x3 x4 x5 x6 m0 m1 m2 m3 m4 m5 m6
          clear hpp hju hlt hj tj zB zW hb2 hsz2 hgl RSj HST hgw hbw
          go_upto_region 6 with fail
          refine wp_region_noPanic ?_
          refine wp_region_held_drew (S := fun W => W.cell? ⟨w.heap.size, 0, none⟩ = some (.int .i64 xk) ∧ W.cell? ⟨w.heap.size, 1, none⟩ = some (.int .i64 xn) ∧ W.cell? ⟨w.heap.size, 2, none⟩ = some (.string xt) ∧ W.cell? ⟨w.heap.size, 3, none⟩ = some (.int .i64 xo) ∧ W.cell? ⟨w.heap.size, 4, none⟩ = some (.int .i64 xa) ∧ W.cell? ⟨w.heap.size, 5, none⟩ = some (.slice ak T.ks.length ck) ∧ W.cell? ⟨w.heap.size, 6, none⟩ = some (.slice (some ⟨b2, o2, none⟩) T.ts.length cap) ∧ W.cell? ⟨b2, o2 + j * 7, none⟩ = some (.int .i64 pk) ∧ W.cell? ⟨b2, o2 + j * 7 + 1, none⟩ = some (.int .i64 pn) ∧ W.cell? ⟨b2, o2 + j * 7 + 2, none⟩ = some (.string pt) ∧ W.cell? ⟨b2, o2 + j * 7 + 3, none⟩ = some (.int .i64 po) ∧ W.cell? ⟨b2, o2 + j * 7 + 4, none⟩ = some (.int .i64 pq) ∧ W.cell? ⟨b2, o2 + j * 7 + 5, none⟩ = some (.slice pa1 pn1 pc1) ∧ W.cell? ⟨b2, o2 + j * 7 + 6, none⟩ = some (.slice pa2 pn2' pc2) ∧ W.cell? ⟨gw, 0, none⟩ = some (.func (Fn.func 15) #[] #[.pointer (some ⟨gv, 0, none⟩), .pointer (some ⟨gl, 0, none⟩), .pointer (some ⟨gw, 0, none⟩)])) (by kernel_rfl) (⟨x0, x1, x2, x3, x4, x5, x6, m0, m1, m2, m3, m4, m5, m6, c0⟩) (fun hHeld => ?_)
          refine wpAnyH_take (i := 0) (oi := { dst := some 22, op := Op.load 58 (Operand.tmp 4), type := 58, pos := "path.go:37", after := #[], guard := none }) (v := ?_) rfl (by kernel_rfl) (by kernel_rfl) (by kernel_rfl) (fun _ _ _ h => h) (Or.inl ⟨by rfl, ?_⟩) (by assumption) ?_
          rotate_left
          · intro wz hSw
            try dsimp only at hSw
            go_simp
            try with_reducible rfl
          try simp only [Act.put, List.setIfInBounds_toArray, List.set_cons_zero, List.set_cons_succ]
          refine wpAnyH_take (i := 1) (oi := { dst := some 23, op := Op.fieldAddr 29 (Operand.tmp 5) 2, type := 0, pos := "path.go:37", after := #[], guard := none }) (v := ?_) rfl (by kernel_rfl) (by kernel_rfl) (by kernel_rfl) (fun _ _ _ h => h) (Or.inl ⟨by rfl, ?_⟩) (by assumption) ?_
          rotate_left
          · intro wz hSw
            try dsimp only at hSw
            go_simp
            try with_reducible rfl
          try simp only [Act.put, List.setIfInBounds_toArray, List.set_cons_zero, List.set_cons_succ]
          refine wpAnyH_take (i := 2) (oi := { dst := some 24, op := Op.load 27 (Operand.tmp 23), type := 27, pos := "path.go:37", after := #[{ on := 1, ground := Ground.data }], guard := none }) (v := ?_) rfl (by kernel_rfl) (by kernel_rfl) (by kernel_rfl) (fun _ _ _ h => h) (Or.inl ⟨by rfl, ?_⟩) (by assumption) ?_
          rotate_left
          · intro wz hSw
            try dsimp only at hSw
            go_simp
            try with_reducible rfl
          try simp only [Act.put, List.setIfInBounds_toArray, List.set_cons_zero, List.set_cons_succ]
          refine wpAnyH_take (i := 3) (oi := { dst := some 25, op := Op.move (Operand.tmp 7), type := 3, pos := "path.go:37", after := #[], guard := none }) (v := ?_) rfl (by kernel_rfl) (by kernel_rfl) (by kernel_rfl) (fun _ _ _ h => h) (Or.inl ⟨by rfl, ?_⟩) (by assumption) ?_
          rotate_left
          · intro wz hSw
            try dsimp only at hSw
            go_simp
            try with_reducible rfl
          try simp only [Act.put, List.setIfInBounds_toArray, List.set_cons_zero, List.set_cons_succ]
          refine wpAnyH_take (i := 4) (oi := { dst := some 26, op := Op.indexAddr 27 (Operand.tmp 24) (Operand.tmp 25), type := 0, pos := "path.go:37", after := #[{ on := 2, ground := Ground.data }, { on := 3, ground := Ground.data }], guard := none }) (v := ?_) rfl (by kernel_rfl) (by kernel_rfl) (by kernel_rfl) (fun _ _ _ h => h) (Or.inl ⟨by rfl, ?_⟩) (by assumption) ?_
          rotate_left
          · intro wz hSw
            try dsimp only at hSw
            go_simp
            try with_reducible rfl
          try simp only [Act.put, List.setIfInBounds_toArray, List.set_cons_zero, List.set_cons_succ]
          refine wpAnyH_take (i := 5) (oi := { dst := some 27, op := Op.load 29 (Operand.tmp 26), type := 29, pos := "path.go:37", after := #[{ on := 4, ground := Ground.data }], guard := none }) (v := ?_) rfl (by kernel_rfl) (by kernel_rfl) (by kernel_rfl) (fun _ _ _ h => h) (Or.inl ⟨by rfl, ?_⟩) (by assumption) ?_
          rotate_left
          · intro wz hSw
            try dsimp only at hSw
            go_simp
            try with_reducible rfl
          try simp only [Act.put, List.setIfInBounds_toArray, List.set_cons_zero, List.set_cons_succ]
          refine wpAnyH_take (i := 6) (oi := { dst := some 28, op := Op.move (Operand.tmp 1), type := 42, pos := "path.go:37", after := #[], guard := none }) (v := ?_) rfl (by kernel_rfl) (by kernel_rfl) (by kernel_rfl) (fun _ _ _ h => h) (Or.inl ⟨by rfl, ?_⟩) (by assumption) ?_
          rotate_left
          · intro wz hSw
            try dsimp only at hSw
            go_simp
            try with_reducible rfl
          try simp only [Act.put, List.setIfInBounds_toArray, List.set_cons_zero, List.set_cons_succ]
          refine wpAnyH_take (i := 7) (oi := { dst := some 29, op := Op.move (Operand.tmp 1), type := 42, pos := "path.go:37", after := #[], guard := none }) (v := ?_) rfl (by kernel_rfl) (by kernel_rfl) (by kernel_rfl) (fun _ _ _ h => h) (Or.inl ⟨by rfl, ?_⟩) (by assumption) ?_
          rotate_left
          · intro wz hSw
            try dsimp only at hSw
            go_simp
            try with_reducible rfl
          try simp only [Act.put, List.setIfInBounds_toArray, List.set_cons_zero, List.set_cons_succ]
          refine wpAnyH_take (i := 8) (oi := { dst := some 30, op := Op.call { callee := Callee.builtin Builtin.len, args := #[Operand.tmp 29], argTypes := #[42] }, type := 3, pos := "path.go:37", after := #[{ on := 7, ground := Ground.data }], guard := none }) (v := ?_) rfl (by kernel_rfl) (by kernel_rfl) (by kernel_rfl) (fun _ _ _ h => h) (Or.inl ⟨by rfl, ?_⟩) (by assumption) ?_
          rotate_left
          · intro wz hSw
            try dsimp only at hSw
            go_simp
            try with_reducible rfl
          try simp only [Act.put, List.setIfInBounds_toArray, List.set_cons_zero, List.set_cons_succ]
          refine wpAnyH_take (i := 9) (oi := { dst := some 31, op := Op.move (Operand.tmp 1), type := 42, pos := "path.go:37", after := #[], guard := none }) (v := ?_) rfl (by kernel_rfl) (by kernel_rfl) (by kernel_rfl) (fun _ _ _ h => h) (Or.inl ⟨by rfl, ?_⟩) (by assumption) ?_
          rotate_left
          · intro wz hSw
            try dsimp only at hSw
            go_simp
            try with_reducible rfl
          try simp only [Act.put, List.setIfInBounds_toArray, List.set_cons_zero, List.set_cons_succ]
          refine wpAnyH_take (i := 10) (oi := { dst := some 32, op := Op.call { callee := Callee.builtin Builtin.len, args := #[Operand.tmp 31], argTypes := #[42] }, type := 3, pos := "path.go:37", after := #[{ on := 9, ground := Ground.data }], guard := none }) (v := ?_) rfl (by kernel_rfl) (by kernel_rfl) (by kernel_rfl) (fun _ _ _ h => h) (Or.inl ⟨by rfl, ?_⟩) (by assumption) ?_
          rotate_left
          · intro wz hSw
            try dsimp only at hSw
            go_simp
            try with_reducible rfl
          try simp only [Act.put, List.setIfInBounds_toArray, List.set_cons_zero, List.set_cons_succ]
          refine wpAnyH_take (i := 11) (oi := { dst := some 33, op := Op.slice 42 (Operand.tmp 28) none (some (Operand.tmp 30)) (some (Operand.tmp 32)), type := 42, pos := "path.go:37", after := #[{ on := 6, ground := Ground.data }, { on := 8, ground := Ground.data }, { on := 10, ground := Ground.data }], guard := none }) (v := .slice pa pl pl) rfl (by kernel_rfl) (by kernel_rfl) (by kernel_rfl) (fun _ _ _ h => h) (Or.inl ⟨by rfl, ?_⟩) (by assumption) ?_
          · intro wz hSw
            have hl := slice3 pa pl pc HPC.out wz
            simp [Act.eval, hl, go_sem]
          try simp only [Act.put, List.setIfInBounds_toArray, List.set_cons_zero, List.set_cons_succ]
          refine wpAnyH_take (i := 12) (oi := { dst := some 34, op := Op.load 29 (Operand.tmp 5), type := 29, pos := "path.go:37", after := #[], guard := none }) (v := ?_) rfl (by kernel_rfl) (by kernel_rfl) (by kernel_rfl) (fun _ _ _ h => h) (Or.inl ⟨by rfl, ?_⟩) (by assumption) ?_
          rotate_left
          · intro wz hSw
            try dsimp only at hSw
            go_simp
            try with_reducible rfl
          try simp only [Act.put, List.setIfInBounds_toArray, List.set_cons_zero, List.set_cons_succ]
          refine wpAnyH_take (i := 13) (oi := { dst := some 35, op := Op.move (Operand.tmp 7), type := 3, pos := "path.go:37", after := #[], guard := none }) (v := ?_) rfl (by kernel_rfl) (by kernel_rfl) (by kernel_rfl) (fun _ _ _ h => h) (Or.inl ⟨by rfl, ?_⟩) (by assumption) ?_
          rotate_left
          · intro wz hSw
            try dsimp only at hSw
            go_simp
            try with_reducible rfl
          try simp only [Act.put, List.setIfInBounds_toArray, List.set_cons_zero, List.set_cons_succ]
          refine wpAnyH_ready (rs := [14]) (by kernel_rfl) (by simp) (AllReadyH.cons (o := { dst := some 36, op := Op.call { callee := Callee.value (Operand.func 16), args := #[Operand.tmp 34, Operand.tmp 35], argTypes := #[29, 3] }, type := 60, pos := "path.go:37", after := #[{ on := 12, ground := Ground.data }, { on := 13, ground := Ground.data }], guard := none }) rfl (fun K hK => ?_) AllReadyH.nil)
          go_simp
          go_at_call 16
          refine Calls.mono (E1 _ ((Below.refl wr.heap.size wr).drew)) ?_
          rintro e w14 ⟨rfl, b14⟩
          go_wp2_with fail
          refine hK.out _ _ (keep15 (by assumption) b14) (fun hHeld14 => ?_)
          clear hK K
          try simp only [Act.put, List.setIfInBounds_toArray, List.set_cons_zero, List.set_cons_succ]
          have bW14 : Below wr.heap.size wr w14 := ⟨b14.os, b14.tape, b14.output, b14.size, b14.block⟩
          have b15 := (Below.refl w14.heap.size w14).alloc (Nat.le_refl _) (.cells #[.string sb, .int .i64 si] 60)
          have n15 : (w14.alloc (.cells #[.string sb, .int .i64 si] 60)).heap[w14.heap.size]? = some (.cells #[.string sb, .int .i64 si] 60) := (MapKept.heap_alloc w14 _).1
          refine wpAnyH_ready (rs := [15]) (by kernel_rfl) (by simp) (AllReadyH.cons (o := { dst := some 37, op := Op.buildSlice 42 1 #[(0, Operand.tmp 36)], type := 42, pos := "path.go:37", after := #[{ on := 14, ground := Ground.data }], guard := none }) rfl (fun K hK => ?_) AllReadyH.nil)
          go_simp
          refine hK.out _ _ (keep15 (by assumption) b15) (fun hHeld15 => ?_)
          clear hK K
          try simp only [Act.put, List.setIfInBounds_toArray, List.set_cons_zero, List.set_cons_succ]
          have bW15 := bW14.trans (b15.mono bW14.size)
          obtain ⟨u16, W16, r16, s16, b16⟩ := app_cut' 42 (w14.alloc (.cells #[.string sb, .int .i64 si] 60)) pa pc p pl HPE.out (own_below HRS.out bW15 (Nat.le_refl _)) ⟨w14.heap.size, 0, none⟩ (sb, si) (Lib.cell_of_heap n15 0) (Lib.cell_of_heap n15 1) (by have := HPL.out; omega)
          have bW16 := bW15.trans (b16.mono bW15.size)
          refine wpAnyH_ready (rs := [16]) (by kernel_rfl) (by simp) (AllReadyH.cons (o := { dst := some 38, op := Op.call { callee := Callee.builtin Builtin.append, args := #[Operand.tmp 33, Operand.tmp 37], argTypes := #[42, 42] }, type := 42, pos := "path.go:37", after := #[{ on := 11, ground := Ground.data }, { on := 15, ground := Ground.data }, { on := 14, ground := Ground.chain }], guard := none }) rfl (fun K hK => ?_) AllReadyH.nil)
          refine step_append_known rfl (.tmp 33) (.tmp 37) 42 rfl (.slice pa pl pl) (.slice (some ⟨w14.heap.size, 0, none⟩) 1 1) u16 W16 (by simp [Act.eval]) (by simp [Act.eval]) r16 ?_
          refine hK.out _ _ (keep15 (by assumption) b16) (fun hHeld16 => ?_)
          clear hK K
          try simp only [Act.put, List.setIfInBounds_toArray, List.set_cons_zero, List.set_cons_succ]
          refine wpAnyH_ready (rs := [17]) (by kernel_rfl) (by simp) (AllReadyH.cons (o := { dst := some 39, op := Op.call { callee := Callee.value (Operand.tmp 22), args := #[Operand.tmp 27, Operand.tmp 38], argTypes := #[29, 42] }, type := 0, pos := "path.go:37", after := #[{ on := 0, ground := Ground.data }, { on := 5, ground := Ground.data }, { on := 16, ground := Ground.data }, { on := 16, ground := Ground.chain }], guard := none }) rfl (fun K hK => ?_) AllReadyH.nil)
          go_simp
          go_at_call 15
          refine Calls.mono (E2 W16 u16 (sb, si) bW16 (s16.mono (Nat.zero_le _))) ?_
          rintro e w17 ⟨rfl, hP17, hF17⟩
          go_wp2_with fail
          refine hK.out _ _ (keep15b (by assumption) (KNE'.out w17 W16 bW16 hF17)) (fun hHeld17 => ?_)
          clear hK K
          try simp only [Act.put, List.setIfInBounds_toArray, List.set_cons_zero, List.set_cons_succ]
          refine wpAnyH_done (by kernel_rfl) ?_ _
          refine NoPanic.normal ?_
          have HP9 : Hid (PS w0.heap.size gv gl gw ⟨yk, yn, yt, yo, ya⟩ (L ++ [p] ++ pathsL ⟨yk, yn, yt, yo, ya⟩ T.x T.ks (T.ts.take (j + 1)) 0 p) w17) := by
            show PS _ _ _ _ _ _ _
            rw [HLL.out, ← List.append_assoc]
            exact hP17
          have hF16 : Fp w0.heap.size gl w W16 := HFj.out.trans (Fp.of bW16 (by have := HZ.out; omega))
          have HX9 : Hid (w17.heap[w.heap.size]? = some _) := hF17.heap ((bW16.block _ (lt_of_heap HX.out)).trans HX.out) HNE.out.1 (by decide)
          have HF9 : Hid (Fp w0.heap.size gl w w17) := hF16.trans hF17
          have g3 : (j : Int) < 8796093022208 := by have := HF.out.1.1; have := HJ.out; omega
          clear hHeld hHeld14 hHeld15 hHeld16 hHeld17 b14 bW14 b15 n15 bW15 r16 s16 b16 bW16 hP17 hF16 hF17 E1 E2 m0 m1 m2 m3 m4 m5 m6 x0 x1 x2 x3 x4 x5 x6 c0 KNE' HLL
          go_wp2
          go_roundw
          case rel => exact ⟨j + 1, HJ.out, by go_num, HP9, HX9, HF9⟩
          case measure => simp [RowKit.intOf]; have := HJ.out; omega
        · have g1 : ¬ (j : Int) < T.ts.length := by omega
          have HR9 : Hid (PS w0.heap.size gv gl gw ⟨yk, yn, yt, yo, ya⟩ (L ++ pathsT ⟨yk, yn, yt, yo, ya⟩ T p) wr) := by
            show PS _ _ _ _ _ _ _
            have e : T.ts.take j = T.ts := List.take_of_length_le (by omega)
            have h9 := HPj.out
            rw [e] at h9
            rw [HPT.out]
            simpa using h9
          clear hlt hj
          go_wp2
          go_end0
          exact ⟨rfl, HR9.out, HFj.out⟩
end Go.Proofs.YtnoikdlofkcgaaaGreatDoor
