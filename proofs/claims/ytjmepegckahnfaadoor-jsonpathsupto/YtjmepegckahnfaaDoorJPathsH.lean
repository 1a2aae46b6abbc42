/-
  What is proved: the function Paths of bookref3, called with a tree, a value and a path that lie in memory, answers the paths of all trees in it with that value, each behind that path.
  Conditions: the tree is one and has at most 400 trees in it; the path is short.
-/
import Derived.Test.YtjmepegckahnfaaDoorJPathM
namespace Go.Proofs.YtjmepegckahnfaaDoor
open Go.RowKit Go.Sort

theorem RS.cells {B : Nat} {w : World} {a : Option Addr} {n c : Nat} {l : List Stp} (h : RS B w (.slice a n c) l) : ∀ ad, a = some ad → ∀ j u, (stc l)[j]? = some u → w.cell? (ad.add j) = some u := by
  intro ad ha j u hj
  have hjl : j < l.length * 2 := by
    rcases Nat.lt_or_ge j (l.length * 2) with h | h
    · exact h
    · rw [List.getElem?_eq_none (by rw [stc_len]; exact h)] at hj; cases hj
  rcases h.2 with ⟨e, h0⟩ | ⟨g, cap, cur, e, _, hh, _, _, _, ht⟩
  · omega
  · have e1 := Value.slice.inj e
    obtain rfl := Option.some.inj (ha.symm.trans e1.1)
    rw [add_at, Nat.zero_add]
    have h2 : (cur.toList.take (l.length * 2))[j]? = (stc l)[j]? := by rw [ht]
    rw [List.getElem?_take_of_lt hjl, Array.getElem?_toList, hj] at h2
    rw [← h2]
    exact Lib.cell_of_heap hh j
theorem RS.empty {B : Nat} {w : World} {a : Option Addr} {n c : Nat} {l : List Stp} (h : RS B w (.slice a n c) l) (ha : a = none) : l = [] := by
  rcases h.2 with ⟨_, h0⟩ | ⟨_, _, _, e1, _⟩
  · exact List.length_eq_zero_iff.1 h0
  · have := (Value.slice.inj e1).1
    rw [ha] at this
    cases this
theorem RP.mono {B B' : Nat} {w : World} {v : Value} {L : List (List Stp)} (h : RP B w v L) (hB : B' ≤ B) : RP B' w v L := by
  obtain ⟨us, h1, h2⟩ := h
  refine ⟨us, ⟨h1.1, ?_⟩, h2⟩
  rcases h1.2 with h0 | ⟨g, cap, cur, e1, e2, e3⟩
  · exact Or.inl h0
  · exact Or.inr ⟨g, cap, cur, e1, Nat.le_trans hB e2, e3⟩
theorem RP.row {B : Nat} {w : World} {v : Value} {L : List (List Stp)} (h : RP B w v L) : ∃ us a c, v = .slice a us.length c ∧ us.length = L.length ∧ (∀ i (h : i < us.length) (h' : i < L.length), RS 0 w us[i] L[i]) ∧ (a = none → us = [] ∧ c = 0) ∧ ∀ ad, a = some ad → ∀ j u, us[j]? = some u → w.cell? (ad.add j) = some u := by
  obtain ⟨us, h1, h2, h3⟩ := h
  rcases h1.2 with ⟨e, h0⟩ | ⟨g, cap, cur, e, _, hh, _, _, _, ht⟩
  · have hu := List.length_eq_zero_iff.1 h0
    exact ⟨us, none, 0, by rw [e, h0], h2, h3, fun _ => ⟨hu, rfl⟩, fun ad ha => by cases ha⟩
  · refine ⟨us, _, cap, e, h2, h3, fun ha => (by cases ha), fun ad ha j u hj => ?_⟩
    obtain rfl := Option.some.inj ha
    rw [add_at, Nat.zero_add]
    have hjl : j < us.length := by
      rcases Nat.lt_or_ge j us.length with h | h
      · exact h
      · rw [List.getElem?_eq_none h] at hj; cases hj
    have h2' : (cur.toList.take (us.length * 1))[j]? = us[j]? := by rw [ht]
    rw [List.getElem?_take_of_lt (by omega), Array.getElem?_toList, hj] at h2'
    rw [← h2']
    exact Lib.cell_of_heap hh j
theorem keep13 {W W' : World} {p0 p1 p2 p3 p4 p5 p6 p7 p8 p9 p10 p11 p12 : Addr} {v0 v1 v2 v3 v4 v5 v6 v7 v8 v9 v10 v11 v12 : Value} (h : W.cell? p0 = some v0 ∧ W.cell? p1 = some v1 ∧ W.cell? p2 = some v2 ∧ W.cell? p3 = some v3 ∧ W.cell? p4 = some v4 ∧ W.cell? p5 = some v5 ∧ W.cell? p6 = some v6 ∧ W.cell? p7 = some v7 ∧ W.cell? p8 = some v8 ∧ W.cell? p9 = some v9 ∧ W.cell? p10 = some v10 ∧ W.cell? p11 = some v11 ∧ W.cell? p12 = some v12) (hb : Below W.heap.size W W') : W'.cell? p0 = some v0 ∧ W'.cell? p1 = some v1 ∧ W'.cell? p2 = some v2 ∧ W'.cell? p3 = some v3 ∧ W'.cell? p4 = some v4 ∧ W'.cell? p5 = some v5 ∧ W'.cell? p6 = some v6 ∧ W'.cell? p7 = some v7 ∧ W'.cell? p8 = some v8 ∧ W'.cell? p9 = some v9 ∧ W'.cell? p10 = some v10 ∧ W'.cell? p11 = some v11 ∧ W'.cell? p12 = some v12 := by
  obtain ⟨h0, h1, h2, h3, h4, h5, h6, h7, h8, h9, h10, h11, h12⟩ := h
  exact ⟨(hb.cell (cell_in h0)).trans h0, (hb.cell (cell_in h1)).trans h1, (hb.cell (cell_in h2)).trans h2, (hb.cell (cell_in h3)).trans h3, (hb.cell (cell_in h4)).trans h4, (hb.cell (cell_in h5)).trans h5, (hb.cell (cell_in h6)).trans h6, (hb.cell (cell_in h7)).trans h7, (hb.cell (cell_in h8)).trans h8, (hb.cell (cell_in h9)).trans h9, (hb.cell (cell_in h10)).trans h10, (hb.cell (cell_in h11)).trans h11, (hb.cell (cell_in h12)).trans h12⟩
theorem keep13b {W W' : World} {B : Nat} {p0 p1 p2 p3 p4 p5 p6 p7 p8 p9 p10 p11 p12 : Addr} {v0 v1 v2 v3 v4 v5 v6 v7 v8 v9 v10 v11 v12 : Value} (h : W.cell? p0 = some v0 ∧ W.cell? p1 = some v1 ∧ W.cell? p2 = some v2 ∧ W.cell? p3 = some v3 ∧ W.cell? p4 = some v4 ∧ W.cell? p5 = some v5 ∧ W.cell? p6 = some v6 ∧ W.cell? p7 = some v7 ∧ W.cell? p8 = some v8 ∧ W.cell? p9 = some v9 ∧ W.cell? p10 = some v10 ∧ W.cell? p11 = some v11 ∧ W.cell? p12 = some v12) (hb : Below B W W') (hne : p0.block < B ∧ p1.block < B ∧ p2.block < B ∧ p3.block < B ∧ p4.block < B ∧ p5.block < B ∧ p6.block < B ∧ p7.block < B ∧ p8.block < B ∧ p9.block < B ∧ p10.block < B ∧ p11.block < B ∧ p12.block < B) : W'.cell? p0 = some v0 ∧ W'.cell? p1 = some v1 ∧ W'.cell? p2 = some v2 ∧ W'.cell? p3 = some v3 ∧ W'.cell? p4 = some v4 ∧ W'.cell? p5 = some v5 ∧ W'.cell? p6 = some v6 ∧ W'.cell? p7 = some v7 ∧ W'.cell? p8 = some v8 ∧ W'.cell? p9 = some v9 ∧ W'.cell? p10 = some v10 ∧ W'.cell? p11 = some v11 ∧ W'.cell? p12 = some v12 := by
  obtain ⟨h0, h1, h2, h3, h4, h5, h6, h7, h8, h9, h10, h11, h12⟩ := h
  obtain ⟨q0, q1, q2, q3, q4, q5, q6, q7, q8, q9, q10, q11, q12⟩ := hne
  exact ⟨(hb.cell q0).trans h0, (hb.cell q1).trans h1, (hb.cell q2).trans h2, (hb.cell q3).trans h3, (hb.cell q4).trans h4, (hb.cell q5).trans h5, (hb.cell q6).trans h6, (hb.cell q7).trans h7, (hb.cell q8).trans h8, (hb.cell q9).trans h9, (hb.cell q10).trans h10, (hb.cell q11).trans h11, (hb.cell q12).trans h12⟩
theorem step_append_known {ops : Array Oper} {o : Oper} {a : Act} {w : World} {K : Act → World → Prop} {Q : Exit → Act → World → Prop} {E : Prop} (hgd : o.guard = none) (s x : Operand) (T : TypeId)
    (ho : o.op = .call { callee := .builtin .append, args := #[s, x], argTypes := #[T, T] }) (v u r : Value) (w' : World) (hs : a.eval s = v) (hx : a.eval x = u)
    (hrun : (Builtin.append_ #[T, T] o.type #[v, u]).run Tryd.prog w = .ok r w') (hK : K (a.put o.dst r) w') : if Region.wanted o (yielded ops a.tmps) = true then Oper.wp Tryd.prog o a w K Q else E := by
  have hw : Region.wanted o (yielded ops a.tmps) = true := by simp [Region.wanted, hgd]
  rw [if_pos hw]
  unfold Oper.wp
  simp [execOp, ho, resolve, invoke, builtin, hs, hx, hrun, Result.andThen]
  exact hK

/-- What Paths answers. -/
def PathsP (B : Nat) (w : World) (L : List (List Stp)) (e : Ending) : Prop := ∃ r, e = .returned r ∧ RP B w r L
/-- The paths of the first kids. -/
theorem pathsL_take (y x : V) (ks : List ByteArray) (p : List Stp) (l : List JT) (i j : Nat) (hj : j < l.length) : pathsL y x ks (l.take (j + 1)) i p = pathsL y x ks (l.take j) i p ++ pathsT y l[j] (p ++ [stepOf x ks (i + j)]) := by
  induction l generalizing i j with
  | nil => simp at hj
  | cons t r ih =>
    cases j with
    | zero => simp [pathsL_cons, pathsL_nil]
    | succ j =>
      rw [List.take_succ_cons, List.take_succ_cons, pathsL_cons, pathsL_cons, ih (i + 1) j (by simpa using hj), List.append_assoc]
      simp only [List.getElem_cons_succ]
      rw [show i + 1 + j = i + (j + 1) by omega]

set_option maxRecDepth 100000 in
set_option maxHeartbeats 8000000 in
theorem hPaths_any {w0 : World} {v : Value} {T : JT} (h : IsT w0 v T) : ∀ (w : World) (y : V) (pv : Value) (p : List Stp), Below w0.heap.size w0 w → RS 0 w pv p → formedB T = true → T.size ≤ 400 → p.length + T.size ≤ 1000 →
    Calls Tryd.prog 6 #[v, y.val, pv] w fun e w' => PathsP w.heap.size w' (pathsT y T p) e ∧ Below w.heap.size w w' := by
  induction h using IsTG.ind with
  | mk x ks ts uk a cap us hk hl hc hz hr hi ih =>
    intro w y pv p hb hp hf hs hd
    have HI : Hid (∀ i (h : i < us.length) (h' : i < ts.length) (w : World) (y : V) (pv : Value) (p : List Stp), Below w0.heap.size w0 w → RS 0 w pv p → formedB ts[i] = true → ts[i].size ≤ 400 → p.length + ts[i].size ≤ 1000 → Calls Tryd.prog 6 #[tval us[i], y.val, pv] w fun e w' => PathsP w.heap.size w' (pathsT y ts[i] p) e ∧ Below w.heap.size w w') := ih
    obtain ⟨T, hT⟩ : ∃ T, T = JT.node x ks ts := ⟨_, rfl⟩
    have HPT : Hid (pathsT y T p = (if sameB x y = true then [p] else []) ++ pathsL y x ks ts 0 p) := by rw [hT]; exact pathsT_node y x ks ts p
    have eks : T.ks = ks := by rw [hT]; rfl
    have ets : T.ts = ts := by rw [hT]; exact node_ts x ks ts
    have hx : T.x = x := by rw [hT]; rfl
    have hsz : T.size = sizes T.ts + 1 := size_eq T
    rw [← hT] at hf hs hd ⊢
    subst eks ets hx
    clear hT
    obtain ⟨ak, ck, rfl, hk1, hk2, hk3⟩ := hk
    have hks : IsStrs w0 (.slice ak T.ks.length ck) T.ks := ⟨ak, ck, rfl, hk1, hk2, hk3⟩
    have HF : Hid ((T.ts.length ≤ 400 ∧ T.ks.length ≤ 400 ∧ ∀ t ∈ T.ts, t.size ≤ 400) ∧ (T.x.k = 5 → T.ks.length = T.ts.length ∧ upB [] T.ks = true) ∧ (∀ t ∈ T.ts, formedB t = true) ∧ T.size ≤ 400 ∧ p.length + T.size ≤ 1000 ∧ T.size = sizes T.ts + 1) := ⟨few_kids hf hs, (formed_node hf).1, (formed_node hf).2, hs, hd, hsz⟩
    have HS : Hid (IsStrs w0 (.slice ak T.ks.length ck) T.ks) := hks
    have HL : Hid (us.length = T.ts.length) := hl
    have HR : Hid (RowT w0 a us) := hr
    have HT : Hid (∀ i (h : i < us.length) (h' : i < T.ts.length), IsT w0 (tval us[i]) T.ts[i]) := hi
    have HB : Hid (Below w0.heap.size w0 w) := hb
    have HP : Hid (RS 0 w pv p) := hp
    have hpf := hp.form
    obtain ⟨pa, pc, rfl, hpn⟩ := hpf
    clear hk1 hk2 hk3 hks hl hc hz hr hi hb ih hf hs hd hp hsz
    have q0 := eqV T.x y
    obtain ⟨sm, HSM⟩ : ∃ sm, Hid (sameB T.x y = sm) := ⟨_, rfl⟩
    rw [HSM.out] at q0 HPT
    obtain ⟨yk, yn, yt, yo, ya⟩ := y
    unfold V.val at q0
    obtain ⟨xx, HXX⟩ : ∃ xx, Hid (T.x = xx) := ⟨_, rfl⟩
    rw [HXX.out] at q0 ⊢
    obtain ⟨xk, xn, xt, xo, xa⟩ := xx
    unfold V.val tval
    dsimp only at *
    obtain ⟨x0, y0, b0⟩ := two_boxes w (.cells #[.int .i64 xk, .int .i64 xn, .string xt, .int .i64 xo, .int .i64 xa, .slice ak T.ks.length ck, .slice a T.ts.length cap] 29) (.cells #[.int .i64 yk, .int .i64 yn, .string yt, .int .i64 yo, .int .i64 ya] 25)
    have HA : Hid (_ ∧ _ ∧ _) := ⟨x0, y0, b0⟩
    clear x0 y0 b0
    cases sm with
    | false =>
      go_enter Tryd.func6, Tryd.ntmps6
      go_upto_region 4 with fail
      obtain ⟨x0, y0, b0⟩ := HA.out
      clear HA q0
      generalize (w.alloc (.cells #[.int .i64 xk, .int .i64 xn, .string xt, .int .i64 xo, .int .i64 xa, .slice ak T.ks.length ck, .slice a T.ts.length cap] 29)).alloc (.cells #[.int .i64 yk, .int .i64 yn, .string yt, .int .i64 yo, .int .i64 ya] 25) = W at *
      go_wp2_with fail
      go_loopw [7, 8, 9, 10] (fun ov i _ _ wr => ∃ (j on oc : Nat) (oa : Option Addr), j ≤ T.ts.length ∧ i = .int .i64 j ∧ ov = .slice oa on oc ∧ Hid (RP (w.heap.size + 2) wr (.slice oa on oc) (([] : List (List Stp)) ++ pathsL ⟨yk, yn, yt, yo, ya⟩ T.x T.ks (T.ts.take j) 0 p)) ∧ Hid (wr.heap[w.heap.size]? = some (.cells #[.int .i64 xk, .int .i64 xn, .string xt, .int .i64 xo, .int .i64 xa, .slice ak T.ks.length ck, .slice a T.ts.length cap] 29)) ∧ Hid (wr.heap[w.heap.size + 1]? = some (.cells #[.int .i64 yk, .int .i64 yn, .string yt, .int .i64 yo, .int .i64 ya] 25)) ∧ Hid (Below w.heap.size w wr)) (fun _ i _ _ _ => T.ts.length - (RowKit.intOf i).toNat)
      case atStart => exact ⟨0, _, _, _, Nat.zero_le _, rfl, rfl, by show RP _ _ _ _; simpa [pathsL_nil] using (RP.nil (w.heap.size + 2) W), x0, y0, b0⟩
      case round =>
        clear x0 y0 b0
        obtain ⟨j, on, oc, oa, hj, rfl, rfl, HO, HX, HY, HBW⟩ := hrel
        have x6 : wr.cell? ⟨w.heap.size, 6, none⟩ = some (.slice a T.ts.length cap) := Lib.cell_of_heap HX.out 6
        by_cases hlt : j < T.ts.length
        · have g1 : (j : Int) < T.ts.length := by omega
          have bA := (Below.refl wr.heap.size wr).alloc (Nat.le_refl _) (.cells #[.string ⟨#[]⟩, .int .i64 j] 41)
          have nA : (wr.alloc (.cells #[.string ⟨#[]⟩, .int .i64 j] 41)).heap[wr.heap.size]? = some (.cells #[.string ⟨#[]⟩, .int .i64 j] 41) := (MapKept.heap_alloc wr _).1
          have HXA : Hid (_ = some _) := (bA.block _ (lt_of_heap HX.out)).trans HX.out
          have HAA : Hid (_ ∧ _) := ⟨bA, nA⟩
          clear bA nA
          go_upto_region 8 with fail
          obtain ⟨bA, nA⟩ := HAA.out
          clear HAA
          have hxA := HXA.out
          clear HXA
          generalize wr.alloc (.cells #[.string ⟨#[]⟩, .int .i64 j] 41) = WA at *
          have k0 : WA.cell? ⟨w.heap.size, 0, none⟩ = some (.int .i64 xk) := Lib.cell_of_heap hxA 0
          have k5 : WA.cell? ⟨w.heap.size, 5, none⟩ = some (.slice ak T.ks.length ck) := Lib.cell_of_heap hxA 5
          clear x6
          by_cases h5 : xk = 5
          · subst h5
            have hjk : j < T.ks.length := by have := (HF.out.2.1 (by rw [HXX.out])).1; omega
            have hbA := HBW.out.trans (bA.mono HBW.out.size)
            obtain ⟨kb, ko, rfl, hkb, hkm⟩ := HS.out.cells (HB.out.trans (hbA.mono HB.out.size)) (show T.ks ≠ [] from fun e => by rw [e] at hjk; simp at hjk)
            have km := hkm j hjk
            have g4 : (j : Int) < T.ks.length := by omega
            have hSE : stepOf T.x T.ks (0 + j) = (T.ks[j], 0) := by
              unfold stepOf
              rw [HXX.out, if_pos rfl, Nat.zero_add, List.getElem?_eq_getElem hjk]; rfl
            have e0 : WA.cell? ⟨wr.heap.size, 0, none⟩ = some (.string ⟨#[]⟩) := Lib.cell_of_heap nA 0
            have e1 : WA.cell? ⟨wr.heap.size, 1, none⟩ = some (.int .i64 j) := Lib.cell_of_heap nA 1
            have ef := Lib.frozen_of_heap nA
            have HSB : Hid (((WA.setCell ⟨wr.heap.size, 0, none⟩ (.string T.ks[j])).setCell ⟨wr.heap.size, 1, none⟩ (.int .i64 0)).heap[wr.heap.size]? = some (.cells #[.string T.ks[j], .int .i64 0] 41)) := set_at (set_at nA 0 (.string T.ks[j])) 1 (.int .i64 0)
            have HBB : Hid (Below wr.heap.size wr ((WA.setCell ⟨wr.heap.size, 0, none⟩ (.string T.ks[j])).setCell ⟨wr.heap.size, 1, none⟩ (.int .i64 0))) := (bA.setCell (Nat.le_refl _) _).setCell (Nat.le_refl _) _
            generalize T.ks[j] = key at *
            clear hkm hjk hbA bA nA hxA
            go_upto_region 10 with fail
            clear e0 e1 ef k0 k5 km
            have sB := HSB.out
            have bB := HBB.out
            clear HSB HBB
            generalize (WA.setCell ⟨wr.heap.size, 0, none⟩ (.string key)).setCell ⟨wr.heap.size, 1, none⟩ (.int .i64 0) = WB at *
            have zB := bB.size
            have hRp : RS 0 WB (.slice pa p.length pc) p := own_below (own_below HP.out HBW.out (Nat.le_refl _)) bB (Nat.le_refl _)
            obtain ⟨v11, W11, r11, s11, g11⟩ := app_steps 39 WB (wr.heap.size + 1) (by have := lt_of_heap sB; omega) (.slice none 0 0) [] (RS.nil _ _) pa pc p (fun e => ⟨RS.empty HP.out e, hpn e⟩) hRp.cells (by have := HF.out; simp; omega)
            have b11 : Below WB.heap.size WB W11 := ⟨g11.os, g11.tape, g11.output, g11.size, fun k hk => g11.block k hk (by simp [Value.ownBlock])⟩
            have s11' : RS (wr.heap.size + 1) W11 v11 p := by simpa using s11
            obtain ⟨a11, c11, rfl, _⟩ := s11'.form
            have b12 := (Below.refl W11.heap.size W11).alloc (Nat.le_refl _) (.cells #[.string key, .int .i64 0] 41)
            have n12 : (W11.alloc (.cells #[.string key, .int .i64 0] 41)).heap[W11.heap.size]? = some _ := (MapKept.heap_alloc W11 _).1
            have z11 := b11.size
            have z12 := b12.size
            obtain ⟨v12, W12, r12, s12, g12⟩ := app_steps 39 (W11.alloc (.cells #[.string key, .int .i64 0] 41)) (wr.heap.size + 1) (by have := lt_of_heap sB; omega) (.slice a11 p.length c11) p (own_below s11' b12 (Nat.le_refl _)) (some ⟨W11.heap.size, 0, none⟩) 1 [(key, 0)] (fun e => by cases e) (fun ad had jj u hu => by
              obtain rfl := Option.some.inj had
              rw [add_at, Nat.zero_add]
              have e0 : (W11.alloc (.cells #[.string key, .int .i64 0] 41)).cell? ⟨W11.heap.size, jj, none⟩ = (#[Value.string key, .int .i64 0] : Array Value)[jj]? := Lib.cell_of_heap n12 jj
              rw [e0]
              rw [← hu, ← Array.getElem?_toList]
              rfl) (by have := HF.out; simp; omega)
            have bb12 : Below (wr.heap.size + 1) (W11.alloc (.cells #[.string key, .int .i64 0] 41)) W12 := grown_below g12 (own_below s11' b12 (Nat.le_refl _)) (by have := lt_of_heap sB; omega)
            obtain ⟨a12, c12, hv12, _⟩ := s12.form
            obtain ⟨pn2, hpn2⟩ : ∃ n, n = (p ++ [(key, 0)]).length := ⟨_, rfl⟩
            rw [← hpn2] at hv12
            clear hpn2
            subst hv12
            have bAll : Below wr.heap.size wr W12 := ((bB.trans (b11.mono zB)).trans (b12.mono (by omega))).trans (bb12.mono (by omega))
            have sc0 : W11.cell? ⟨wr.heap.size, 0, none⟩ = some (.string key) := Lib.cell_of_heap ((b11.block _ (lt_of_heap sB)).trans sB) 0
            have sc1 : W11.cell? ⟨wr.heap.size, 1, none⟩ = some (.int .i64 0) := Lib.cell_of_heap ((b11.block _ (lt_of_heap sB)).trans sB) 1
            have r12' : (Builtin.append_ #[39, 39] 39 #[.slice a11 p.length c11, .slice (some ⟨W11.heap.size, 0, none⟩) 1 1]).run Tryd.prog (W11.alloc (.cells #[.string key, .int .i64 0] 41)) = .ok (.slice a12 pn2 c12) W12 := r12
            have HQ : Hid (Below wr.heap.size wr W12 ∧ RS (wr.heap.size + 1) W12 (.slice a12 pn2 c12) (p ++ [(key, 0)])) := ⟨bAll, s12⟩
            clear hRp s11 g11 b11 s11' b12 n12 z11 z12 s12 g12 bb12 bAll r12 zB sB bB
            go_upto_region 12 with (first | (at_builtin; refine wp_append rfl _ _ 39 rfl _ _ _ _ rfl rfl r11 ?_))
            clear r11
            go_upto_region 13 with (first | (at_builtin; refine wp_append rfl _ _ 39 rfl _ _ _ _ rfl rfl r12' ?_))
            clear r12' sc0 sc1
            obtain ⟨bAll, s12⟩ := HQ.out
            have hju : j < us.length := by have := HL.out; omega
            have tj := HT.out j hju hlt
            obtain ⟨⟨pk, pn, pt, po, pq⟩, pa1, pn1, pc1, pa2, pn2', pc2, hpp⟩ := tj.parts
            have hbw : Below w.heap.size w W12 := HBW.out.trans (bAll.mono HBW.out.size)
            have hb02 := HB.out.trans (hbw.mono HB.out.size)
            obtain ⟨b2, o2, rfl, hb2, m0, m1, m2, m3, m4, m5, m6⟩ := HR.out.cells hb02 j hju _ hpp
            have hsz2 : T.ts[j].size + 1 ≤ T.size := by
              have e1 := sizes_take T.ts j hlt
              have e2 := sizes_le T.ts (j + 1)
              have e3 := HF.out.2.2.2.2.2
              omega
            have E := fun (W : World) (hb : Below w.heap.size w W) (hr : RS 0 W (.slice a12 pn2 c12) (p ++ [(key, 0)])) => HI.out j hju hlt W ⟨yk, yn, yt, yo, ya⟩ (.slice a12 pn2 c12) (p ++ [(key, 0)]) (HB.out.trans (hb.mono HB.out.size)) hr (HF.out.2.2.1 _ (List.getElem_mem hlt)) (HF.out.1.2.2 _ (List.getElem_mem hlt)) (by have := HF.out; rw [List.length_append, List.length_singleton]; omega)
            rw [hpp] at E
            dsimp only [tval, V.val] at E m0 m1 m2 m3 m4 m5 m6
            have HX3 : Hid (W12.heap[w.heap.size]? = some (.cells #[.int .i64 5, .int .i64 xn, .string xt, .int .i64 xo, .int .i64 xa, (.slice (some ⟨kb, ko, none⟩) T.ks.length ck), .slice (some ⟨b2, o2, none⟩) T.ts.length cap] 29)) := (bAll.block _ (lt_of_heap HX.out)).trans HX.out
            have HY3 : Hid (W12.heap[w.heap.size + 1]? = some (.cells #[.int .i64 yk, .int .i64 yn, .string yt, .int .i64 yo, .int .i64 ya] 25)) := (bAll.block _ (lt_of_heap HY.out)).trans HY.out
            have x6 : W12.cell? ⟨w.heap.size, 6, none⟩ = some (.slice (some ⟨b2, o2, none⟩) T.ts.length cap) := Lib.cell_of_heap HX3.out 6
            have l0 : W12.cell? ⟨w.heap.size + 1, 0, none⟩ = some (.int .i64 yk) := Lib.cell_of_heap HY3.out 0
            have l1 : W12.cell? ⟨w.heap.size + 1, 1, none⟩ = some (.int .i64 yn) := Lib.cell_of_heap HY3.out 1
            have l2 : W12.cell? ⟨w.heap.size + 1, 2, none⟩ = some (.string yt) := Lib.cell_of_heap HY3.out 2
            have l3 : W12.cell? ⟨w.heap.size + 1, 3, none⟩ = some (.int .i64 yo) := Lib.cell_of_heap HY3.out 3
            have l4 : W12.cell? ⟨w.heap.size + 1, 4, none⟩ = some (.int .i64 ya) := Lib.cell_of_heap HY3.out 4
            have RS5 : RS 0 W12 (.slice a12 pn2 c12) (p ++ [(key, 0)]) := s12.mono (Nat.zero_le _)
            have RS5d : RS 0 W12.drew (.slice a12 pn2 c12) (p ++ [(key, 0)]) := own_below RS5 (Below.refl W12.heap.size W12).drew (Nat.le_refl _)
            have rO := HO.out.below bAll
            have hz2 : w.heap.size + 2 ≤ W12.heap.size := by have := lt_of_heap HY3.out; omega
            have hStep : stepOf T.x T.ks (0 + j) = (key, 0) := hSE
            have HLL : Hid (pathsL ⟨yk, yn, yt, yo, ya⟩ T.x T.ks (T.ts.take (j + 1)) 0 p = pathsL ⟨yk, yn, yt, yo, ya⟩ T.x T.ks (T.ts.take j) 0 p ++ pathsT ⟨yk, yn, yt, yo, ya⟩ T.ts[j] (p ++ [(key, 0)])) := by
              show _ = _
              rw [pathsL_take _ _ _ _ _ _ _ hlt, hStep]
            have HLN : Hid ((([] : List (List Stp)) ++ pathsL ⟨yk, yn, yt, yo, ya⟩ T.x T.ks (T.ts.take j) 0 p).length + (pathsT ⟨yk, yn, yt, yo, ya⟩ T.ts[j] (p ++ [(key, 0)])).length ≤ 1000000) := by
              show _ ≤ _
              have e1 := pathsL_len ⟨yk, yn, yt, yo, ya⟩ T.x T.ks (T.ts.take j) 0 p
              have e2 := sizes_le T.ts j
              have e3 := pathsT_len ⟨yk, yn, yt, yo, ya⟩ T.ts[j] (p ++ [(key, 0)])
              have e4 := HF.out
              rw [List.length_append]
              have e5 : (([] : List (List Stp))).length ≤ 1 := by simp
              omega
            have HJ : Hid (j < T.ts.length) := hlt
            generalize T.ts[j] = Tj at *
            clear hpp hju hlt hj tj bAll hb02 HQ hStep
            refine wp_region_noPanic ?_
            refine wp_region_held_drew (S := fun W => W.cell? ⟨w.heap.size, 6, none⟩ = some (.slice (some ⟨b2, o2, none⟩) T.ts.length cap) ∧ W.cell? ⟨b2, o2 + j * 7, none⟩ = some (.int .i64 pk) ∧ W.cell? ⟨b2, o2 + j * 7 + 1, none⟩ = some (.int .i64 pn) ∧ W.cell? ⟨b2, o2 + j * 7 + 2, none⟩ = some (.string pt) ∧ W.cell? ⟨b2, o2 + j * 7 + 3, none⟩ = some (.int .i64 po) ∧ W.cell? ⟨b2, o2 + j * 7 + 4, none⟩ = some (.int .i64 pq) ∧ W.cell? ⟨b2, o2 + j * 7 + 5, none⟩ = some (.slice pa1 pn1 pc1) ∧ W.cell? ⟨b2, o2 + j * 7 + 6, none⟩ = some (.slice pa2 pn2' pc2) ∧ W.cell? ⟨w.heap.size + 1, 0, none⟩ = some (.int .i64 yk) ∧ W.cell? ⟨w.heap.size + 1, 1, none⟩ = some (.int .i64 yn) ∧ W.cell? ⟨w.heap.size + 1, 2, none⟩ = some (.string yt) ∧ W.cell? ⟨w.heap.size + 1, 3, none⟩ = some (.int .i64 yo) ∧ W.cell? ⟨w.heap.size + 1, 4, none⟩ = some (.int .i64 ya)) (by kernel_rfl) (⟨x6, m0, m1, m2, m3, m4, m5, m6, l0, l1, l2, l3, l4⟩) (fun hHeld => ?_)
            refine wpAnyH_take (i := 0) (oi := { dst := some 45, op := Op.move (Operand.tmp 7), type := 32, pos := "json.go:351", after := #[], guard := none }) (v := ?_) rfl (by kernel_rfl) (by kernel_rfl) (by kernel_rfl) (fun _ _ _ h => h) (Or.inl ⟨by rfl, ?_⟩) (by assumption) ?_
            rotate_left
            · intro wz hSw
              try dsimp only at hSw
              go_simp
              try with_reducible rfl
            try simp only [Act.put, List.setIfInBounds_toArray, List.set_cons_zero, List.set_cons_succ]
            refine wpAnyH_take (i := 1) (oi := { dst := some 46, op := Op.fieldAddr 29 (Operand.tmp 3) 2, type := 0, pos := "json.go:351", after := #[], guard := none }) (v := ?_) rfl (by kernel_rfl) (by kernel_rfl) (by kernel_rfl) (fun _ _ _ h => h) (Or.inl ⟨by rfl, ?_⟩) (by assumption) ?_
            rotate_left
            · intro wz hSw
              try dsimp only at hSw
              go_simp
              try with_reducible rfl
            try simp only [Act.put, List.setIfInBounds_toArray, List.set_cons_zero, List.set_cons_succ]
            refine wpAnyH_take (i := 2) (oi := { dst := some 47, op := Op.load 27 (Operand.tmp 46), type := 27, pos := "json.go:351", after := #[{ on := 1, ground := Ground.data }], guard := none }) (v := ?_) rfl (by kernel_rfl) (by kernel_rfl) (by kernel_rfl) (fun _ _ _ h => h) (Or.inl ⟨by rfl, ?_⟩) (by assumption) ?_
            rotate_left
            · intro wz hSw
              try dsimp only at hSw
              go_simp
              try with_reducible rfl
            try simp only [Act.put, List.setIfInBounds_toArray, List.set_cons_zero, List.set_cons_succ]
            refine wpAnyH_take (i := 3) (oi := { dst := some 48, op := Op.move (Operand.tmp 8), type := 3, pos := "json.go:351", after := #[], guard := none }) (v := ?_) rfl (by kernel_rfl) (by kernel_rfl) (by kernel_rfl) (fun _ _ _ h => h) (Or.inl ⟨by rfl, ?_⟩) (by assumption) ?_
            rotate_left
            · intro wz hSw
              try dsimp only at hSw
              go_simp
              try with_reducible rfl
            try simp only [Act.put, List.setIfInBounds_toArray, List.set_cons_zero, List.set_cons_succ]
            refine wpAnyH_take (i := 4) (oi := { dst := some 49, op := Op.indexAddr 27 (Operand.tmp 47) (Operand.tmp 48), type := 0, pos := "json.go:351", after := #[{ on := 2, ground := Ground.data }, { on := 3, ground := Ground.data }], guard := none }) (v := ?_) rfl (by kernel_rfl) (by kernel_rfl) (by kernel_rfl) (fun _ _ _ h => h) (Or.inl ⟨by rfl, ?_⟩) (by assumption) ?_
            rotate_left
            · intro wz hSw
              try dsimp only at hSw
              go_simp
              try with_reducible rfl
            try simp only [Act.put, List.setIfInBounds_toArray, List.set_cons_zero, List.set_cons_succ]
            refine wpAnyH_take (i := 5) (oi := { dst := some 50, op := Op.load 29 (Operand.tmp 49), type := 29, pos := "json.go:351", after := #[{ on := 4, ground := Ground.data }], guard := none }) (v := ?_) rfl (by kernel_rfl) (by kernel_rfl) (by kernel_rfl) (fun _ _ _ h => h) (Or.inl ⟨by rfl, ?_⟩) (by assumption) ?_
            rotate_left
            · intro wz hSw
              try dsimp only at hSw
              go_simp
              try with_reducible rfl
            try simp only [Act.put, List.setIfInBounds_toArray, List.set_cons_zero, List.set_cons_succ]
            refine wpAnyH_take (i := 6) (oi := { dst := some 51, op := Op.load 25 (Operand.tmp 4), type := 25, pos := "json.go:351", after := #[], guard := none }) (v := ?_) rfl (by kernel_rfl) (by kernel_rfl) (by kernel_rfl) (fun _ _ _ h => h) (Or.inl ⟨by rfl, ?_⟩) (by assumption) ?_
            rotate_left
            · intro wz hSw
              try dsimp only at hSw
              go_simp
              try with_reducible rfl
            try simp only [Act.put, List.setIfInBounds_toArray, List.set_cons_zero, List.set_cons_succ]
            refine wpAnyH_take (i := 7) (oi := { dst := some 52, op := Op.move (Operand.tmp 10), type := 39, pos := "json.go:351", after := #[], guard := none }) (v := ?_) rfl (by kernel_rfl) (by kernel_rfl) (by kernel_rfl) (fun _ _ _ h => h) (Or.inl ⟨by rfl, ?_⟩) (by assumption) ?_
            rotate_left
            · intro wz hSw
              try dsimp only at hSw
              go_simp
              try with_reducible rfl
            try simp only [Act.put, List.setIfInBounds_toArray, List.set_cons_zero, List.set_cons_succ]
            refine wpAnyH_ready (rs := [8]) (by kernel_rfl) (by simp) (AllReadyH.cons (o := { dst := some 53, op := Op.call { callee := Callee.value (Operand.func 6), args := #[Operand.tmp 50, Operand.tmp 51, Operand.tmp 52], argTypes := #[29, 25, 39] }, type := 32, pos := "json.go:351", after := #[{ on := 5, ground := Ground.data }, { on := 6, ground := Ground.data }, { on := 7, ground := Ground.data }], guard := none }) rfl (fun K hK => ?_) AllReadyH.nil)
            go_simp
            go_at_call 6
            refine Calls.mono (E _ (hbw.drew) RS5d) ?_
            rintro e w8 ⟨⟨r8, rfl, hP8⟩, b8⟩
            go_wp2_with fail
            refine hK.out _ _ (keep13 (by assumption) b8) (fun hHeld8 => ?_)
            clear hK K
            try simp only [Act.put, List.setIfInBounds_toArray, List.set_cons_zero, List.set_cons_succ]
            have bW8 : Below W12.heap.size W12 w8 := ⟨b8.os, b8.tape, b8.output, b8.size, b8.block⟩
            obtain ⟨us8, ra, rc, hr8, hu8, hR8, hn8, hc8⟩ := hP8.row
            subst hr8
            obtain ⟨u9, W9, r9, p9, _, _, b9⟩ := app_paths 32 w8 (w.heap.size + 2) (by have := bW8.size; omega) (.slice oa on oc) _ (rO.below bW8) ra rc us8 _ hu8 hR8 hn8 hc8 HLN.out
            have KNE : (w.heap.size < w.heap.size + 2) ∧ (b2 < w.heap.size + 2) ∧ (b2 < w.heap.size + 2) ∧ (b2 < w.heap.size + 2) ∧ (b2 < w.heap.size + 2) ∧ (b2 < w.heap.size + 2) ∧ (b2 < w.heap.size + 2) ∧ (b2 < w.heap.size + 2) ∧ (w.heap.size + 1 < w.heap.size + 2) ∧ (w.heap.size + 1 < w.heap.size + 2) ∧ (w.heap.size + 1 < w.heap.size + 2) ∧ (w.heap.size + 1 < w.heap.size + 2) ∧ (w.heap.size + 1 < w.heap.size + 2) := by have := HB.out.size; omega
            obtain ⟨a9, c9, hu9, _⟩ := p9.form
            obtain ⟨n9, hn9⟩ : ∃ n : Nat, .slice a9 n c9 = u9 := ⟨_, hu9.symm⟩
            clear hu9
            subst hn9
            refine wpAnyH_ready (rs := [9]) (by kernel_rfl) (by simp) (AllReadyH.cons (o := { dst := some 54, op := Op.call { callee := Callee.builtin Builtin.append, args := #[Operand.tmp 45, Operand.tmp 53], argTypes := #[32, 32] }, type := 32, pos := "json.go:351", after := #[{ on := 0, ground := Ground.data }, { on := 8, ground := Ground.data }, { on := 8, ground := Ground.chain }], guard := none }) rfl (fun K hK => ?_) AllReadyH.nil)
            refine step_append_known rfl (.tmp 45) (.tmp 53) 32 rfl (.slice oa on oc) (.slice ra us8.length rc) (.slice a9 n9 c9) W9 (by simp [Act.eval]) (by simp [Act.eval]) r9 ?_
            refine hK.out _ _ (keep13b (by assumption) b9 KNE) (fun hHeld9 => ?_)
            clear hK K
            try simp only [Act.put, List.setIfInBounds_toArray, List.set_cons_zero, List.set_cons_succ]
            refine wpAnyH_take (i := 10) (oi := { dst := some 7, op := Op.assign (Operand.tmp 54), type := 32, pos := "json.go:351", after := #[{ on := 9, ground := Ground.data }, { on := 9, ground := Ground.chain }, { on := 0, ground := Ground.phase }, { on := 1, ground := Ground.phase }, { on := 2, ground := Ground.phase }, { on := 3, ground := Ground.phase }, { on := 4, ground := Ground.phase }, { on := 5, ground := Ground.phase }, { on := 6, ground := Ground.phase }, { on := 7, ground := Ground.phase }, { on := 8, ground := Ground.phase }, { on := 9, ground := Ground.phase }], guard := none }) (v := ?_) rfl (by kernel_rfl) (by kernel_rfl) (by kernel_rfl) (fun _ _ _ h => h) (Or.inl ⟨by rfl, ?_⟩) (by assumption) ?_
            rotate_left
            · intro wz hSw
              try dsimp only at hSw
              go_simp
              try with_reducible rfl
            try simp only [Act.put, List.setIfInBounds_toArray, List.set_cons_zero, List.set_cons_succ]
            refine wpAnyH_done (by kernel_rfl) ?_ _
            refine NoPanic.normal ?_
            have HR9 : Hid (RP (w.heap.size + 2) W9 (.slice a9 n9 c9) (([] : List (List Stp)) ++ pathsL ⟨yk, yn, yt, yo, ya⟩ T.x T.ks (T.ts.take (j + 1)) 0 p)) := by
              show RP _ _ _ _
              rw [HLL.out, ← List.append_assoc]
              exact p9
            have HX9 : Hid (W9.heap[w.heap.size]? = some _) := (b9.block _ (by omega)).trans ((bW8.block _ (lt_of_heap HX3.out)).trans HX3.out)
            have HY9 : Hid (W9.heap[w.heap.size + 1]? = some _) := (b9.block _ (by omega)).trans ((bW8.block _ (lt_of_heap HY3.out)).trans HY3.out)
            have HB9 : Hid (Below w.heap.size w W9) := (hbw.trans (bW8.mono hbw.size)).trans (b9.mono (by omega))
            have g3 : (j : Int) < 8796093022208 := by have := HF.out.1.1; have := HJ.out; omega
            clear hHeld hHeld8 hHeld9 b8 bW8 hP8 hR8 hc8 hn8 hu8 p9 b9 KNE E m0 m1 m2 m3 m4 m5 m6 l0 l1 l2 l3 l4 x6 RS5 RS5d rO s12 hbw r9 HLL HLN
            go_wp2
            go_roundw
            case rel => exact ⟨j + 1, _, _, _, HJ.out, by go_num, rfl, HR9, HX9, HY9, HB9⟩
            case measure => simp [RowKit.intOf]; have := HJ.out; omega
          · have h5' : (xk == 5) = false := by simpa using h5
            have hSE : stepOf T.x T.ks (0 + j) = (ByteArray.mk #[], (j : Int)) := by
              unfold stepOf
              rw [HXX.out, if_neg h5, Nat.zero_add]
            clear h5
            go_upto_region 10 with fail
            clear k0 k5
            have sB := nA
            have bB := bA
            clear nA bA hxA
            generalize WA = WB at *
            have zB := bB.size
            have hRp : RS 0 WB (.slice pa p.length pc) p := own_below (own_below HP.out HBW.out (Nat.le_refl _)) bB (Nat.le_refl _)
            obtain ⟨v11, W11, r11, s11, g11⟩ := app_steps 39 WB (wr.heap.size + 1) (by have := lt_of_heap sB; omega) (.slice none 0 0) [] (RS.nil _ _) pa pc p (fun e => ⟨RS.empty HP.out e, hpn e⟩) hRp.cells (by have := HF.out; simp; omega)
            have b11 : Below WB.heap.size WB W11 := ⟨g11.os, g11.tape, g11.output, g11.size, fun k hk => g11.block k hk (by simp [Value.ownBlock])⟩
            have s11' : RS (wr.heap.size + 1) W11 v11 p := by simpa using s11
            obtain ⟨a11, c11, rfl, _⟩ := s11'.form
            have b12 := (Below.refl W11.heap.size W11).alloc (Nat.le_refl _) (.cells #[.string (ByteArray.mk #[]), .int .i64 (j : Int)] 41)
            have n12 : (W11.alloc (.cells #[.string (ByteArray.mk #[]), .int .i64 (j : Int)] 41)).heap[W11.heap.size]? = some _ := (MapKept.heap_alloc W11 _).1
            have z11 := b11.size
            have z12 := b12.size
            obtain ⟨v12, W12, r12, s12, g12⟩ := app_steps 39 (W11.alloc (.cells #[.string (ByteArray.mk #[]), .int .i64 (j : Int)] 41)) (wr.heap.size + 1) (by have := lt_of_heap sB; omega) (.slice a11 p.length c11) p (own_below s11' b12 (Nat.le_refl _)) (some ⟨W11.heap.size, 0, none⟩) 1 [((ByteArray.mk #[]), (j : Int))] (fun e => by cases e) (fun ad had jj u hu => by
              obtain rfl := Option.some.inj had
              rw [add_at, Nat.zero_add]
              have e0 : (W11.alloc (.cells #[.string (ByteArray.mk #[]), .int .i64 (j : Int)] 41)).cell? ⟨W11.heap.size, jj, none⟩ = (#[Value.string (ByteArray.mk #[]), .int .i64 (j : Int)] : Array Value)[jj]? := Lib.cell_of_heap n12 jj
              rw [e0]
              rw [← hu, ← Array.getElem?_toList]
              rfl) (by have := HF.out; simp; omega)
            have bb12 : Below (wr.heap.size + 1) (W11.alloc (.cells #[.string (ByteArray.mk #[]), .int .i64 (j : Int)] 41)) W12 := grown_below g12 (own_below s11' b12 (Nat.le_refl _)) (by have := lt_of_heap sB; omega)
            obtain ⟨a12, c12, hv12, _⟩ := s12.form
            obtain ⟨pn2, hpn2⟩ : ∃ n, n = (p ++ [((ByteArray.mk #[]), (j : Int))]).length := ⟨_, rfl⟩
            rw [← hpn2] at hv12
            clear hpn2
            subst hv12
            have bAll : Below wr.heap.size wr W12 := ((bB.trans (b11.mono zB)).trans (b12.mono (by omega))).trans (bb12.mono (by omega))
            have sc0 : W11.cell? ⟨wr.heap.size, 0, none⟩ = some (.string (ByteArray.mk #[])) := Lib.cell_of_heap ((b11.block _ (lt_of_heap sB)).trans sB) 0
            have sc1 : W11.cell? ⟨wr.heap.size, 1, none⟩ = some (.int .i64 (j : Int)) := Lib.cell_of_heap ((b11.block _ (lt_of_heap sB)).trans sB) 1
            have r12' : (Builtin.append_ #[39, 39] 39 #[.slice a11 p.length c11, .slice (some ⟨W11.heap.size, 0, none⟩) 1 1]).run Tryd.prog (W11.alloc (.cells #[.string (ByteArray.mk #[]), .int .i64 (j : Int)] 41)) = .ok (.slice a12 pn2 c12) W12 := r12
            have HQ : Hid (Below wr.heap.size wr W12 ∧ RS (wr.heap.size + 1) W12 (.slice a12 pn2 c12) (p ++ [((ByteArray.mk #[]), (j : Int))])) := ⟨bAll, s12⟩
            clear hRp s11 g11 b11 s11' b12 n12 z11 z12 s12 g12 bb12 bAll r12 zB sB bB
            go_upto_region 12 with (first | (at_builtin; refine wp_append rfl _ _ 39 rfl _ _ _ _ rfl rfl r11 ?_))
            clear r11
            go_upto_region 13 with (first | (at_builtin; refine wp_append rfl _ _ 39 rfl _ _ _ _ rfl rfl r12' ?_))
            clear r12' sc0 sc1
            obtain ⟨bAll, s12⟩ := HQ.out
            have hju : j < us.length := by have := HL.out; omega
            have tj := HT.out j hju hlt
            obtain ⟨⟨pk, pn, pt, po, pq⟩, pa1, pn1, pc1, pa2, pn2', pc2, hpp⟩ := tj.parts
            have hbw : Below w.heap.size w W12 := HBW.out.trans (bAll.mono HBW.out.size)
            have hb02 := HB.out.trans (hbw.mono HB.out.size)
            obtain ⟨b2, o2, rfl, hb2, m0, m1, m2, m3, m4, m5, m6⟩ := HR.out.cells hb02 j hju _ hpp
            have hsz2 : T.ts[j].size + 1 ≤ T.size := by
              have e1 := sizes_take T.ts j hlt
              have e2 := sizes_le T.ts (j + 1)
              have e3 := HF.out.2.2.2.2.2
              omega
            have E := fun (W : World) (hb : Below w.heap.size w W) (hr : RS 0 W (.slice a12 pn2 c12) (p ++ [((ByteArray.mk #[]), (j : Int))])) => HI.out j hju hlt W ⟨yk, yn, yt, yo, ya⟩ (.slice a12 pn2 c12) (p ++ [((ByteArray.mk #[]), (j : Int))]) (HB.out.trans (hb.mono HB.out.size)) hr (HF.out.2.2.1 _ (List.getElem_mem hlt)) (HF.out.1.2.2 _ (List.getElem_mem hlt)) (by have := HF.out; rw [List.length_append, List.length_singleton]; omega)
            rw [hpp] at E
            dsimp only [tval, V.val] at E m0 m1 m2 m3 m4 m5 m6
            have HX3 : Hid (W12.heap[w.heap.size]? = some (.cells #[.int .i64 xk, .int .i64 xn, .string xt, .int .i64 xo, .int .i64 xa, (.slice ak T.ks.length ck), .slice (some ⟨b2, o2, none⟩) T.ts.length cap] 29)) := (bAll.block _ (lt_of_heap HX.out)).trans HX.out
            have HY3 : Hid (W12.heap[w.heap.size + 1]? = some (.cells #[.int .i64 yk, .int .i64 yn, .string yt, .int .i64 yo, .int .i64 ya] 25)) := (bAll.block _ (lt_of_heap HY.out)).trans HY.out
            have x6 : W12.cell? ⟨w.heap.size, 6, none⟩ = some (.slice (some ⟨b2, o2, none⟩) T.ts.length cap) := Lib.cell_of_heap HX3.out 6
            have l0 : W12.cell? ⟨w.heap.size + 1, 0, none⟩ = some (.int .i64 yk) := Lib.cell_of_heap HY3.out 0
            have l1 : W12.cell? ⟨w.heap.size + 1, 1, none⟩ = some (.int .i64 yn) := Lib.cell_of_heap HY3.out 1
            have l2 : W12.cell? ⟨w.heap.size + 1, 2, none⟩ = some (.string yt) := Lib.cell_of_heap HY3.out 2
            have l3 : W12.cell? ⟨w.heap.size + 1, 3, none⟩ = some (.int .i64 yo) := Lib.cell_of_heap HY3.out 3
            have l4 : W12.cell? ⟨w.heap.size + 1, 4, none⟩ = some (.int .i64 ya) := Lib.cell_of_heap HY3.out 4
            have RS5 : RS 0 W12 (.slice a12 pn2 c12) (p ++ [((ByteArray.mk #[]), (j : Int))]) := s12.mono (Nat.zero_le _)
            have RS5d : RS 0 W12.drew (.slice a12 pn2 c12) (p ++ [((ByteArray.mk #[]), (j : Int))]) := own_below RS5 (Below.refl W12.heap.size W12).drew (Nat.le_refl _)
            have rO := HO.out.below bAll
            have hz2 : w.heap.size + 2 ≤ W12.heap.size := by have := lt_of_heap HY3.out; omega
            have hStep : stepOf T.x T.ks (0 + j) = ((ByteArray.mk #[]), (j : Int)) := hSE
            have HLL : Hid (pathsL ⟨yk, yn, yt, yo, ya⟩ T.x T.ks (T.ts.take (j + 1)) 0 p = pathsL ⟨yk, yn, yt, yo, ya⟩ T.x T.ks (T.ts.take j) 0 p ++ pathsT ⟨yk, yn, yt, yo, ya⟩ T.ts[j] (p ++ [((ByteArray.mk #[]), (j : Int))])) := by
              show _ = _
              rw [pathsL_take _ _ _ _ _ _ _ hlt, hStep]
            have HLN : Hid ((([] : List (List Stp)) ++ pathsL ⟨yk, yn, yt, yo, ya⟩ T.x T.ks (T.ts.take j) 0 p).length + (pathsT ⟨yk, yn, yt, yo, ya⟩ T.ts[j] (p ++ [((ByteArray.mk #[]), (j : Int))])).length ≤ 1000000) := by
              show _ ≤ _
              have e1 := pathsL_len ⟨yk, yn, yt, yo, ya⟩ T.x T.ks (T.ts.take j) 0 p
              have e2 := sizes_le T.ts j
              have e3 := pathsT_len ⟨yk, yn, yt, yo, ya⟩ T.ts[j] (p ++ [((ByteArray.mk #[]), (j : Int))])
              have e4 := HF.out
              rw [List.length_append]
              have e5 : (([] : List (List Stp))).length ≤ 1 := by simp
              omega
            have HJ : Hid (j < T.ts.length) := hlt
            generalize T.ts[j] = Tj at *
            clear hpp hju hlt hj tj bAll hb02 HQ hStep
            refine wp_region_noPanic ?_
            refine wp_region_held_drew (S := fun W => W.cell? ⟨w.heap.size, 6, none⟩ = some (.slice (some ⟨b2, o2, none⟩) T.ts.length cap) ∧ W.cell? ⟨b2, o2 + j * 7, none⟩ = some (.int .i64 pk) ∧ W.cell? ⟨b2, o2 + j * 7 + 1, none⟩ = some (.int .i64 pn) ∧ W.cell? ⟨b2, o2 + j * 7 + 2, none⟩ = some (.string pt) ∧ W.cell? ⟨b2, o2 + j * 7 + 3, none⟩ = some (.int .i64 po) ∧ W.cell? ⟨b2, o2 + j * 7 + 4, none⟩ = some (.int .i64 pq) ∧ W.cell? ⟨b2, o2 + j * 7 + 5, none⟩ = some (.slice pa1 pn1 pc1) ∧ W.cell? ⟨b2, o2 + j * 7 + 6, none⟩ = some (.slice pa2 pn2' pc2) ∧ W.cell? ⟨w.heap.size + 1, 0, none⟩ = some (.int .i64 yk) ∧ W.cell? ⟨w.heap.size + 1, 1, none⟩ = some (.int .i64 yn) ∧ W.cell? ⟨w.heap.size + 1, 2, none⟩ = some (.string yt) ∧ W.cell? ⟨w.heap.size + 1, 3, none⟩ = some (.int .i64 yo) ∧ W.cell? ⟨w.heap.size + 1, 4, none⟩ = some (.int .i64 ya)) (by kernel_rfl) (⟨x6, m0, m1, m2, m3, m4, m5, m6, l0, l1, l2, l3, l4⟩) (fun hHeld => ?_)
            refine wpAnyH_take (i := 0) (oi := { dst := some 45, op := Op.move (Operand.tmp 7), type := 32, pos := "json.go:351", after := #[], guard := none }) (v := ?_) rfl (by kernel_rfl) (by kernel_rfl) (by kernel_rfl) (fun _ _ _ h => h) (Or.inl ⟨by rfl, ?_⟩) (by assumption) ?_
            rotate_left
            · intro wz hSw
              try dsimp only at hSw
              go_simp
              try with_reducible rfl
            try simp only [Act.put, List.setIfInBounds_toArray, List.set_cons_zero, List.set_cons_succ]
            refine wpAnyH_take (i := 1) (oi := { dst := some 46, op := Op.fieldAddr 29 (Operand.tmp 3) 2, type := 0, pos := "json.go:351", after := #[], guard := none }) (v := ?_) rfl (by kernel_rfl) (by kernel_rfl) (by kernel_rfl) (fun _ _ _ h => h) (Or.inl ⟨by rfl, ?_⟩) (by assumption) ?_
            rotate_left
            · intro wz hSw
              try dsimp only at hSw
              go_simp
              try with_reducible rfl
            try simp only [Act.put, List.setIfInBounds_toArray, List.set_cons_zero, List.set_cons_succ]
            refine wpAnyH_take (i := 2) (oi := { dst := some 47, op := Op.load 27 (Operand.tmp 46), type := 27, pos := "json.go:351", after := #[{ on := 1, ground := Ground.data }], guard := none }) (v := ?_) rfl (by kernel_rfl) (by kernel_rfl) (by kernel_rfl) (fun _ _ _ h => h) (Or.inl ⟨by rfl, ?_⟩) (by assumption) ?_
            rotate_left
            · intro wz hSw
              try dsimp only at hSw
              go_simp
              try with_reducible rfl
            try simp only [Act.put, List.setIfInBounds_toArray, List.set_cons_zero, List.set_cons_succ]
            refine wpAnyH_take (i := 3) (oi := { dst := some 48, op := Op.move (Operand.tmp 8), type := 3, pos := "json.go:351", after := #[], guard := none }) (v := ?_) rfl (by kernel_rfl) (by kernel_rfl) (by kernel_rfl) (fun _ _ _ h => h) (Or.inl ⟨by rfl, ?_⟩) (by assumption) ?_
            rotate_left
            · intro wz hSw
              try dsimp only at hSw
              go_simp
              try with_reducible rfl
            try simp only [Act.put, List.setIfInBounds_toArray, List.set_cons_zero, List.set_cons_succ]
            refine wpAnyH_take (i := 4) (oi := { dst := some 49, op := Op.indexAddr 27 (Operand.tmp 47) (Operand.tmp 48), type := 0, pos := "json.go:351", after := #[{ on := 2, ground := Ground.data }, { on := 3, ground := Ground.data }], guard := none }) (v := ?_) rfl (by kernel_rfl) (by kernel_rfl) (by kernel_rfl) (fun _ _ _ h => h) (Or.inl ⟨by rfl, ?_⟩) (by assumption) ?_
            rotate_left
            · intro wz hSw
              try dsimp only at hSw
              go_simp
              try with_reducible rfl
            try simp only [Act.put, List.setIfInBounds_toArray, List.set_cons_zero, List.set_cons_succ]
            refine wpAnyH_take (i := 5) (oi := { dst := some 50, op := Op.load 29 (Operand.tmp 49), type := 29, pos := "json.go:351", after := #[{ on := 4, ground := Ground.data }], guard := none }) (v := ?_) rfl (by kernel_rfl) (by kernel_rfl) (by kernel_rfl) (fun _ _ _ h => h) (Or.inl ⟨by rfl, ?_⟩) (by assumption) ?_
            rotate_left
            · intro wz hSw
              try dsimp only at hSw
              go_simp
              try with_reducible rfl
            try simp only [Act.put, List.setIfInBounds_toArray, List.set_cons_zero, List.set_cons_succ]
            refine wpAnyH_take (i := 6) (oi := { dst := some 51, op := Op.load 25 (Operand.tmp 4), type := 25, pos := "json.go:351", after := #[], guard := none }) (v := ?_) rfl (by kernel_rfl) (by kernel_rfl) (by kernel_rfl) (fun _ _ _ h => h) (Or.inl ⟨by rfl, ?_⟩) (by assumption) ?_
            rotate_left
            · intro wz hSw
              try dsimp only at hSw
              go_simp
              try with_reducible rfl
            try simp only [Act.put, List.setIfInBounds_toArray, List.set_cons_zero, List.set_cons_succ]
            refine wpAnyH_take (i := 7) (oi := { dst := some 52, op := Op.move (Operand.tmp 10), type := 39, pos := "json.go:351", after := #[], guard := none }) (v := ?_) rfl (by kernel_rfl) (by kernel_rfl) (by kernel_rfl) (fun _ _ _ h => h) (Or.inl ⟨by rfl, ?_⟩) (by assumption) ?_
            rotate_left
            · intro wz hSw
              try dsimp only at hSw
              go_simp
              try with_reducible rfl
            try simp only [Act.put, List.setIfInBounds_toArray, List.set_cons_zero, List.set_cons_succ]
            refine wpAnyH_ready (rs := [8]) (by kernel_rfl) (by simp) (AllReadyH.cons (o := { dst := some 53, op := Op.call { callee := Callee.value (Operand.func 6), args := #[Operand.tmp 50, Operand.tmp 51, Operand.tmp 52], argTypes := #[29, 25, 39] }, type := 32, pos := "json.go:351", after := #[{ on := 5, ground := Ground.data }, { on := 6, ground := Ground.data }, { on := 7, ground := Ground.data }], guard := none }) rfl (fun K hK => ?_) AllReadyH.nil)
            go_simp
            go_at_call 6
            refine Calls.mono (E _ (hbw.drew) RS5d) ?_
            rintro e w8 ⟨⟨r8, rfl, hP8⟩, b8⟩
            go_wp2_with fail
            refine hK.out _ _ (keep13 (by assumption) b8) (fun hHeld8 => ?_)
            clear hK K
            try simp only [Act.put, List.setIfInBounds_toArray, List.set_cons_zero, List.set_cons_succ]
            have bW8 : Below W12.heap.size W12 w8 := ⟨b8.os, b8.tape, b8.output, b8.size, b8.block⟩
            obtain ⟨us8, ra, rc, hr8, hu8, hR8, hn8, hc8⟩ := hP8.row
            subst hr8
            obtain ⟨u9, W9, r9, p9, _, _, b9⟩ := app_paths 32 w8 (w.heap.size + 2) (by have := bW8.size; omega) (.slice oa on oc) _ (rO.below bW8) ra rc us8 _ hu8 hR8 hn8 hc8 HLN.out
            have KNE : (w.heap.size < w.heap.size + 2) ∧ (b2 < w.heap.size + 2) ∧ (b2 < w.heap.size + 2) ∧ (b2 < w.heap.size + 2) ∧ (b2 < w.heap.size + 2) ∧ (b2 < w.heap.size + 2) ∧ (b2 < w.heap.size + 2) ∧ (b2 < w.heap.size + 2) ∧ (w.heap.size + 1 < w.heap.size + 2) ∧ (w.heap.size + 1 < w.heap.size + 2) ∧ (w.heap.size + 1 < w.heap.size + 2) ∧ (w.heap.size + 1 < w.heap.size + 2) ∧ (w.heap.size + 1 < w.heap.size + 2) := by have := HB.out.size; omega
            obtain ⟨a9, c9, hu9, _⟩ := p9.form
            obtain ⟨n9, hn9⟩ : ∃ n : Nat, .slice a9 n c9 = u9 := ⟨_, hu9.symm⟩
            clear hu9
            subst hn9
            refine wpAnyH_ready (rs := [9]) (by kernel_rfl) (by simp) (AllReadyH.cons (o := { dst := some 54, op := Op.call { callee := Callee.builtin Builtin.append, args := #[Operand.tmp 45, Operand.tmp 53], argTypes := #[32, 32] }, type := 32, pos := "json.go:351", after := #[{ on := 0, ground := Ground.data }, { on := 8, ground := Ground.data }, { on := 8, ground := Ground.chain }], guard := none }) rfl (fun K hK => ?_) AllReadyH.nil)
            refine step_append_known rfl (.tmp 45) (.tmp 53) 32 rfl (.slice oa on oc) (.slice ra us8.length rc) (.slice a9 n9 c9) W9 (by simp [Act.eval]) (by simp [Act.eval]) r9 ?_
            refine hK.out _ _ (keep13b (by assumption) b9 KNE) (fun hHeld9 => ?_)
            clear hK K
            try simp only [Act.put, List.setIfInBounds_toArray, List.set_cons_zero, List.set_cons_succ]
            refine wpAnyH_take (i := 10) (oi := { dst := some 7, op := Op.assign (Operand.tmp 54), type := 32, pos := "json.go:351", after := #[{ on := 9, ground := Ground.data }, { on := 9, ground := Ground.chain }, { on := 0, ground := Ground.phase }, { on := 1, ground := Ground.phase }, { on := 2, ground := Ground.phase }, { on := 3, ground := Ground.phase }, { on := 4, ground := Ground.phase }, { on := 5, ground := Ground.phase }, { on := 6, ground := Ground.phase }, { on := 7, ground := Ground.phase }, { on := 8, ground := Ground.phase }, { on := 9, ground := Ground.phase }], guard := none }) (v := ?_) rfl (by kernel_rfl) (by kernel_rfl) (by kernel_rfl) (fun _ _ _ h => h) (Or.inl ⟨by rfl, ?_⟩) (by assumption) ?_
            rotate_left
            · intro wz hSw
              try dsimp only at hSw
              go_simp
              try with_reducible rfl
            try simp only [Act.put, List.setIfInBounds_toArray, List.set_cons_zero, List.set_cons_succ]
            refine wpAnyH_done (by kernel_rfl) ?_ _
            refine NoPanic.normal ?_
            have HR9 : Hid (RP (w.heap.size + 2) W9 (.slice a9 n9 c9) (([] : List (List Stp)) ++ pathsL ⟨yk, yn, yt, yo, ya⟩ T.x T.ks (T.ts.take (j + 1)) 0 p)) := by
              show RP _ _ _ _
              rw [HLL.out, ← List.append_assoc]
              exact p9
            have HX9 : Hid (W9.heap[w.heap.size]? = some _) := (b9.block _ (by omega)).trans ((bW8.block _ (lt_of_heap HX3.out)).trans HX3.out)
            have HY9 : Hid (W9.heap[w.heap.size + 1]? = some _) := (b9.block _ (by omega)).trans ((bW8.block _ (lt_of_heap HY3.out)).trans HY3.out)
            have HB9 : Hid (Below w.heap.size w W9) := (hbw.trans (bW8.mono hbw.size)).trans (b9.mono (by omega))
            have g3 : (j : Int) < 8796093022208 := by have := HF.out.1.1; have := HJ.out; omega
            clear hHeld hHeld8 hHeld9 b8 bW8 hP8 hR8 hc8 hn8 hu8 p9 b9 KNE E m0 m1 m2 m3 m4 m5 m6 l0 l1 l2 l3 l4 x6 RS5 RS5d rO s12 hbw r9 HLL HLN
            go_wp2
            go_roundw
            case rel => exact ⟨j + 1, _, _, _, HJ.out, by go_num, rfl, HR9, HX9, HY9, HB9⟩
            case measure => simp [RowKit.intOf]; have := HJ.out; omega
        · have g1 : ¬ (j : Int) < T.ts.length := by omega
          have HR9 : Hid (RP w.heap.size wr (.slice oa on oc) (pathsT ⟨yk, yn, yt, yo, ya⟩ T p)) := by
            show RP _ _ _ _
            refine RP.mono (B := w.heap.size + 2) ?_ (by omega)
            have e : T.ts.take j = T.ts := List.take_of_length_le (by omega)
            have h9 := HO.out
            rw [e] at h9
            rw [HPT.out]
            simpa using h9
          clear hlt hj
          go_wp2
          go_ret
          exact ⟨⟨_, rfl, HR9.out⟩, HBW.out⟩
    | true =>
      go_enter Tryd.func6, Tryd.ntmps6
      go_upto_region 3 with fail
      obtain ⟨x0, y0, b0⟩ := HA.out
      clear HA q0
      generalize (w.alloc (.cells #[.int .i64 xk, .int .i64 xn, .string xt, .int .i64 xo, .int .i64 xa, .slice ak T.ks.length ck, .slice a T.ts.length cap] 29)).alloc (.cells #[.int .i64 yk, .int .i64 yn, .string yt, .int .i64 yo, .int .i64 ya] 25) = W at *
      have b1 := (Below.refl W.heap.size W).alloc (Nat.le_refl _) (.cells #[.slice pa p.length pc] 39)
      have n1 : (W.alloc (.cells #[.slice pa p.length pc] 39)).heap[W.heap.size]? = some _ := (MapKept.heap_alloc W _).1
      have p1 : RS 0 (W.alloc (.cells #[.slice pa p.length pc] 39)) (.slice pa p.length pc) p := own_below (own_below HP.out b0 (Nat.le_refl _)) b1 (Nat.le_refl _)
      have zW := b0.size
      have zW1 := b1.size
      obtain ⟨out, W1, r1, rp1, _, _, bB⟩ := app_paths 32 (W.alloc (.cells #[.slice pa p.length pc] 39)) (w.heap.size + 2) (by have := lt_of_heap y0; omega) (.slice none 0 0) [] (RP.nil _ _) (some ⟨W.heap.size, 0, none⟩) 1 [.slice pa p.length pc] [p] rfl (fun i hi hi' => by
        have e : i = 0 := by simpa using hi
        subst e
        exact p1) (fun h => by cases h) (fun ad had jj u hu => by
        obtain rfl := Option.some.inj had
        rw [add_at, Nat.zero_add]
        have e : jj = 0 := by
          rcases Nat.eq_zero_or_pos jj with e | e
          · exact e
          · rw [List.getElem?_eq_none (by simp; omega)] at hu; cases hu
        subst e
        rw [show (W.alloc (.cells #[.slice pa p.length pc] 39)).cell? ⟨W.heap.size, 0, none⟩ = some (.slice pa p.length pc) from Lib.cell_of_heap n1 0]
        simpa using hu) (by simp)
      have r1' : (Builtin.append_ #[32, 32] 32 #[.slice none 0 0, .slice (some ⟨W.heap.size, 0, none⟩) 1 1]).run Tryd.prog (W.alloc (.cells #[.slice pa p.length pc] 39)) = .ok out W1 := r1
      obtain ⟨oa0, oc0, rfl, _⟩ := rp1.form
      have x1 := (bB.block _ (by omega)).trans ((b1.block _ (lt_of_heap x0)).trans x0)
      have y1 := (bB.block _ (by omega)).trans ((b1.block _ (lt_of_heap y0)).trans y0)
      have bb1 : Below w.heap.size w W1 := (b0.trans (b1.mono zW)).trans (bB.mono (by omega))
      have HN : Hid (_ ∧ _ ∧ _ ∧ _) := ⟨x1, y1, bb1, rp1⟩
      clear x0 y0 b0 b1 n1 p1 zW zW1 bB x1 y1 bb1 rp1 r1
      go_upto_region 4 with (first | (at_builtin; refine wp_append rfl _ _ 32 rfl _ _ _ _ rfl rfl r1' ?_))
      obtain ⟨x0, y0, b0, rp1⟩ := HN.out
      clear HN r1'
      go_wp2_with fail
      go_loopw [7, 8, 9, 10] (fun ov i _ _ wr => ∃ (j on oc : Nat) (oa : Option Addr), j ≤ T.ts.length ∧ i = .int .i64 j ∧ ov = .slice oa on oc ∧ Hid (RP (w.heap.size + 2) wr (.slice oa on oc) ([p] ++ pathsL ⟨yk, yn, yt, yo, ya⟩ T.x T.ks (T.ts.take j) 0 p)) ∧ Hid (wr.heap[w.heap.size]? = some (.cells #[.int .i64 xk, .int .i64 xn, .string xt, .int .i64 xo, .int .i64 xa, .slice ak T.ks.length ck, .slice a T.ts.length cap] 29)) ∧ Hid (wr.heap[w.heap.size + 1]? = some (.cells #[.int .i64 yk, .int .i64 yn, .string yt, .int .i64 yo, .int .i64 ya] 25)) ∧ Hid (Below w.heap.size w wr)) (fun _ i _ _ _ => T.ts.length - (RowKit.intOf i).toNat)
      case atStart => exact ⟨0, _, _, _, Nat.zero_le _, rfl, rfl, by show RP _ _ _ _; simpa [pathsL_nil] using rp1, x0, y0, b0⟩
      case round =>
        clear x0 y0 b0
        obtain ⟨j, on, oc, oa, hj, rfl, rfl, HO, HX, HY, HBW⟩ := hrel
        have x6 : wr.cell? ⟨w.heap.size, 6, none⟩ = some (.slice a T.ts.length cap) := Lib.cell_of_heap HX.out 6
        by_cases hlt : j < T.ts.length
        · have g1 : (j : Int) < T.ts.length := by omega
          have bA := (Below.refl wr.heap.size wr).alloc (Nat.le_refl _) (.cells #[.string ⟨#[]⟩, .int .i64 j] 41)
          have nA : (wr.alloc (.cells #[.string ⟨#[]⟩, .int .i64 j] 41)).heap[wr.heap.size]? = some (.cells #[.string ⟨#[]⟩, .int .i64 j] 41) := (MapKept.heap_alloc wr _).1
          have HXA : Hid (_ = some _) := (bA.block _ (lt_of_heap HX.out)).trans HX.out
          have HAA : Hid (_ ∧ _) := ⟨bA, nA⟩
          clear bA nA
          go_upto_region 8 with fail
          obtain ⟨bA, nA⟩ := HAA.out
          clear HAA
          have hxA := HXA.out
          clear HXA
          generalize wr.alloc (.cells #[.string ⟨#[]⟩, .int .i64 j] 41) = WA at *
          have k0 : WA.cell? ⟨w.heap.size, 0, none⟩ = some (.int .i64 xk) := Lib.cell_of_heap hxA 0
          have k5 : WA.cell? ⟨w.heap.size, 5, none⟩ = some (.slice ak T.ks.length ck) := Lib.cell_of_heap hxA 5
          clear x6
          by_cases h5 : xk = 5
          · subst h5
            have hjk : j < T.ks.length := by have := (HF.out.2.1 (by rw [HXX.out])).1; omega
            have hbA := HBW.out.trans (bA.mono HBW.out.size)
            obtain ⟨kb, ko, rfl, hkb, hkm⟩ := HS.out.cells (HB.out.trans (hbA.mono HB.out.size)) (show T.ks ≠ [] from fun e => by rw [e] at hjk; simp at hjk)
            have km := hkm j hjk
            have g4 : (j : Int) < T.ks.length := by omega
            have hSE : stepOf T.x T.ks (0 + j) = (T.ks[j], 0) := by
              unfold stepOf
              rw [HXX.out, if_pos rfl, Nat.zero_add, List.getElem?_eq_getElem hjk]; rfl
            have e0 : WA.cell? ⟨wr.heap.size, 0, none⟩ = some (.string ⟨#[]⟩) := Lib.cell_of_heap nA 0
            have e1 : WA.cell? ⟨wr.heap.size, 1, none⟩ = some (.int .i64 j) := Lib.cell_of_heap nA 1
            have ef := Lib.frozen_of_heap nA
            have HSB : Hid (((WA.setCell ⟨wr.heap.size, 0, none⟩ (.string T.ks[j])).setCell ⟨wr.heap.size, 1, none⟩ (.int .i64 0)).heap[wr.heap.size]? = some (.cells #[.string T.ks[j], .int .i64 0] 41)) := set_at (set_at nA 0 (.string T.ks[j])) 1 (.int .i64 0)
            have HBB : Hid (Below wr.heap.size wr ((WA.setCell ⟨wr.heap.size, 0, none⟩ (.string T.ks[j])).setCell ⟨wr.heap.size, 1, none⟩ (.int .i64 0))) := (bA.setCell (Nat.le_refl _) _).setCell (Nat.le_refl _) _
            generalize T.ks[j] = key at *
            clear hkm hjk hbA bA nA hxA
            go_upto_region 10 with fail
            clear e0 e1 ef k0 k5 km
            have sB := HSB.out
            have bB := HBB.out
            clear HSB HBB
            generalize (WA.setCell ⟨wr.heap.size, 0, none⟩ (.string key)).setCell ⟨wr.heap.size, 1, none⟩ (.int .i64 0) = WB at *
            have zB := bB.size
            have hRp : RS 0 WB (.slice pa p.length pc) p := own_below (own_below HP.out HBW.out (Nat.le_refl _)) bB (Nat.le_refl _)
            obtain ⟨v11, W11, r11, s11, g11⟩ := app_steps 39 WB (wr.heap.size + 1) (by have := lt_of_heap sB; omega) (.slice none 0 0) [] (RS.nil _ _) pa pc p (fun e => ⟨RS.empty HP.out e, hpn e⟩) hRp.cells (by have := HF.out; simp; omega)
            have b11 : Below WB.heap.size WB W11 := ⟨g11.os, g11.tape, g11.output, g11.size, fun k hk => g11.block k hk (by simp [Value.ownBlock])⟩
            have s11' : RS (wr.heap.size + 1) W11 v11 p := by simpa using s11
            obtain ⟨a11, c11, rfl, _⟩ := s11'.form
            have b12 := (Below.refl W11.heap.size W11).alloc (Nat.le_refl _) (.cells #[.string key, .int .i64 0] 41)
            have n12 : (W11.alloc (.cells #[.string key, .int .i64 0] 41)).heap[W11.heap.size]? = some _ := (MapKept.heap_alloc W11 _).1
            have z11 := b11.size
            have z12 := b12.size
            obtain ⟨v12, W12, r12, s12, g12⟩ := app_steps 39 (W11.alloc (.cells #[.string key, .int .i64 0] 41)) (wr.heap.size + 1) (by have := lt_of_heap sB; omega) (.slice a11 p.length c11) p (own_below s11' b12 (Nat.le_refl _)) (some ⟨W11.heap.size, 0, none⟩) 1 [(key, 0)] (fun e => by cases e) (fun ad had jj u hu => by
              obtain rfl := Option.some.inj had
              rw [add_at, Nat.zero_add]
              have e0 : (W11.alloc (.cells #[.string key, .int .i64 0] 41)).cell? ⟨W11.heap.size, jj, none⟩ = (#[Value.string key, .int .i64 0] : Array Value)[jj]? := Lib.cell_of_heap n12 jj
              rw [e0]
              rw [← hu, ← Array.getElem?_toList]
              rfl) (by have := HF.out; simp; omega)
            have bb12 : Below (wr.heap.size + 1) (W11.alloc (.cells #[.string key, .int .i64 0] 41)) W12 := grown_below g12 (own_below s11' b12 (Nat.le_refl _)) (by have := lt_of_heap sB; omega)
            obtain ⟨a12, c12, hv12, _⟩ := s12.form
            obtain ⟨pn2, hpn2⟩ : ∃ n, n = (p ++ [(key, 0)]).length := ⟨_, rfl⟩
            rw [← hpn2] at hv12
            clear hpn2
            subst hv12
            have bAll : Below wr.heap.size wr W12 := ((bB.trans (b11.mono zB)).trans (b12.mono (by omega))).trans (bb12.mono (by omega))
            have sc0 : W11.cell? ⟨wr.heap.size, 0, none⟩ = some (.string key) := Lib.cell_of_heap ((b11.block _ (lt_of_heap sB)).trans sB) 0
            have sc1 : W11.cell? ⟨wr.heap.size, 1, none⟩ = some (.int .i64 0) := Lib.cell_of_heap ((b11.block _ (lt_of_heap sB)).trans sB) 1
            have r12' : (Builtin.append_ #[39, 39] 39 #[.slice a11 p.length c11, .slice (some ⟨W11.heap.size, 0, none⟩) 1 1]).run Tryd.prog (W11.alloc (.cells #[.string key, .int .i64 0] 41)) = .ok (.slice a12 pn2 c12) W12 := r12
            have HQ : Hid (Below wr.heap.size wr W12 ∧ RS (wr.heap.size + 1) W12 (.slice a12 pn2 c12) (p ++ [(key, 0)])) := ⟨bAll, s12⟩
            clear hRp s11 g11 b11 s11' b12 n12 z11 z12 s12 g12 bb12 bAll r12 zB sB bB
            go_upto_region 12 with (first | (at_builtin; refine wp_append rfl _ _ 39 rfl _ _ _ _ rfl rfl r11 ?_))
            clear r11
            go_upto_region 13 with (first | (at_builtin; refine wp_append rfl _ _ 39 rfl _ _ _ _ rfl rfl r12' ?_))
            clear r12' sc0 sc1
            obtain ⟨bAll, s12⟩ := HQ.out
            have hju : j < us.length := by have := HL.out; omega
            have tj := HT.out j hju hlt
            obtain ⟨⟨pk, pn, pt, po, pq⟩, pa1, pn1, pc1, pa2, pn2', pc2, hpp⟩ := tj.parts
            have hbw : Below w.heap.size w W12 := HBW.out.trans (bAll.mono HBW.out.size)
            have hb02 := HB.out.trans (hbw.mono HB.out.size)
            obtain ⟨b2, o2, rfl, hb2, m0, m1, m2, m3, m4, m5, m6⟩ := HR.out.cells hb02 j hju _ hpp
            have hsz2 : T.ts[j].size + 1 ≤ T.size := by
              have e1 := sizes_take T.ts j hlt
              have e2 := sizes_le T.ts (j + 1)
              have e3 := HF.out.2.2.2.2.2
              omega
            have E := fun (W : World) (hb : Below w.heap.size w W) (hr : RS 0 W (.slice a12 pn2 c12) (p ++ [(key, 0)])) => HI.out j hju hlt W ⟨yk, yn, yt, yo, ya⟩ (.slice a12 pn2 c12) (p ++ [(key, 0)]) (HB.out.trans (hb.mono HB.out.size)) hr (HF.out.2.2.1 _ (List.getElem_mem hlt)) (HF.out.1.2.2 _ (List.getElem_mem hlt)) (by have := HF.out; rw [List.length_append, List.length_singleton]; omega)
            rw [hpp] at E
            dsimp only [tval, V.val] at E m0 m1 m2 m3 m4 m5 m6
            have HX3 : Hid (W12.heap[w.heap.size]? = some (.cells #[.int .i64 5, .int .i64 xn, .string xt, .int .i64 xo, .int .i64 xa, (.slice (some ⟨kb, ko, none⟩) T.ks.length ck), .slice (some ⟨b2, o2, none⟩) T.ts.length cap] 29)) := (bAll.block _ (lt_of_heap HX.out)).trans HX.out
            have HY3 : Hid (W12.heap[w.heap.size + 1]? = some (.cells #[.int .i64 yk, .int .i64 yn, .string yt, .int .i64 yo, .int .i64 ya] 25)) := (bAll.block _ (lt_of_heap HY.out)).trans HY.out
            have x6 : W12.cell? ⟨w.heap.size, 6, none⟩ = some (.slice (some ⟨b2, o2, none⟩) T.ts.length cap) := Lib.cell_of_heap HX3.out 6
            have l0 : W12.cell? ⟨w.heap.size + 1, 0, none⟩ = some (.int .i64 yk) := Lib.cell_of_heap HY3.out 0
            have l1 : W12.cell? ⟨w.heap.size + 1, 1, none⟩ = some (.int .i64 yn) := Lib.cell_of_heap HY3.out 1
            have l2 : W12.cell? ⟨w.heap.size + 1, 2, none⟩ = some (.string yt) := Lib.cell_of_heap HY3.out 2
            have l3 : W12.cell? ⟨w.heap.size + 1, 3, none⟩ = some (.int .i64 yo) := Lib.cell_of_heap HY3.out 3
            have l4 : W12.cell? ⟨w.heap.size + 1, 4, none⟩ = some (.int .i64 ya) := Lib.cell_of_heap HY3.out 4
            have RS5 : RS 0 W12 (.slice a12 pn2 c12) (p ++ [(key, 0)]) := s12.mono (Nat.zero_le _)
            have RS5d : RS 0 W12.drew (.slice a12 pn2 c12) (p ++ [(key, 0)]) := own_below RS5 (Below.refl W12.heap.size W12).drew (Nat.le_refl _)
            have rO := HO.out.below bAll
            have hz2 : w.heap.size + 2 ≤ W12.heap.size := by have := lt_of_heap HY3.out; omega
            have hStep : stepOf T.x T.ks (0 + j) = (key, 0) := hSE
            have HLL : Hid (pathsL ⟨yk, yn, yt, yo, ya⟩ T.x T.ks (T.ts.take (j + 1)) 0 p = pathsL ⟨yk, yn, yt, yo, ya⟩ T.x T.ks (T.ts.take j) 0 p ++ pathsT ⟨yk, yn, yt, yo, ya⟩ T.ts[j] (p ++ [(key, 0)])) := by
              show _ = _
              rw [pathsL_take _ _ _ _ _ _ _ hlt, hStep]
            have HLN : Hid (([p] ++ pathsL ⟨yk, yn, yt, yo, ya⟩ T.x T.ks (T.ts.take j) 0 p).length + (pathsT ⟨yk, yn, yt, yo, ya⟩ T.ts[j] (p ++ [(key, 0)])).length ≤ 1000000) := by
              show _ ≤ _
              have e1 := pathsL_len ⟨yk, yn, yt, yo, ya⟩ T.x T.ks (T.ts.take j) 0 p
              have e2 := sizes_le T.ts j
              have e3 := pathsT_len ⟨yk, yn, yt, yo, ya⟩ T.ts[j] (p ++ [(key, 0)])
              have e4 := HF.out
              rw [List.length_append]
              have e5 : ([p]).length ≤ 1 := by simp
              omega
            have HJ : Hid (j < T.ts.length) := hlt
            generalize T.ts[j] = Tj at *
            clear hpp hju hlt hj tj bAll hb02 HQ hStep
            refine wp_region_noPanic ?_
            refine wp_region_held_drew (S := fun W => W.cell? ⟨w.heap.size, 6, none⟩ = some (.slice (some ⟨b2, o2, none⟩) T.ts.length cap) ∧ W.cell? ⟨b2, o2 + j * 7, none⟩ = some (.int .i64 pk) ∧ W.cell? ⟨b2, o2 + j * 7 + 1, none⟩ = some (.int .i64 pn) ∧ W.cell? ⟨b2, o2 + j * 7 + 2, none⟩ = some (.string pt) ∧ W.cell? ⟨b2, o2 + j * 7 + 3, none⟩ = some (.int .i64 po) ∧ W.cell? ⟨b2, o2 + j * 7 + 4, none⟩ = some (.int .i64 pq) ∧ W.cell? ⟨b2, o2 + j * 7 + 5, none⟩ = some (.slice pa1 pn1 pc1) ∧ W.cell? ⟨b2, o2 + j * 7 + 6, none⟩ = some (.slice pa2 pn2' pc2) ∧ W.cell? ⟨w.heap.size + 1, 0, none⟩ = some (.int .i64 yk) ∧ W.cell? ⟨w.heap.size + 1, 1, none⟩ = some (.int .i64 yn) ∧ W.cell? ⟨w.heap.size + 1, 2, none⟩ = some (.string yt) ∧ W.cell? ⟨w.heap.size + 1, 3, none⟩ = some (.int .i64 yo) ∧ W.cell? ⟨w.heap.size + 1, 4, none⟩ = some (.int .i64 ya)) (by kernel_rfl) (⟨x6, m0, m1, m2, m3, m4, m5, m6, l0, l1, l2, l3, l4⟩) (fun hHeld => ?_)
            refine wpAnyH_take (i := 0) (oi := { dst := some 45, op := Op.move (Operand.tmp 7), type := 32, pos := "json.go:351", after := #[], guard := none }) (v := ?_) rfl (by kernel_rfl) (by kernel_rfl) (by kernel_rfl) (fun _ _ _ h => h) (Or.inl ⟨by rfl, ?_⟩) (by assumption) ?_
            rotate_left
            · intro wz hSw
              try dsimp only at hSw
              go_simp
              try with_reducible rfl
            try simp only [Act.put, List.setIfInBounds_toArray, List.set_cons_zero, List.set_cons_succ]
            refine wpAnyH_take (i := 1) (oi := { dst := some 46, op := Op.fieldAddr 29 (Operand.tmp 3) 2, type := 0, pos := "json.go:351", after := #[], guard := none }) (v := ?_) rfl (by kernel_rfl) (by kernel_rfl) (by kernel_rfl) (fun _ _ _ h => h) (Or.inl ⟨by rfl, ?_⟩) (by assumption) ?_
            rotate_left
            · intro wz hSw
              try dsimp only at hSw
              go_simp
              try with_reducible rfl
            try simp only [Act.put, List.setIfInBounds_toArray, List.set_cons_zero, List.set_cons_succ]
            refine wpAnyH_take (i := 2) (oi := { dst := some 47, op := Op.load 27 (Operand.tmp 46), type := 27, pos := "json.go:351", after := #[{ on := 1, ground := Ground.data }], guard := none }) (v := ?_) rfl (by kernel_rfl) (by kernel_rfl) (by kernel_rfl) (fun _ _ _ h => h) (Or.inl ⟨by rfl, ?_⟩) (by assumption) ?_
            rotate_left
            · intro wz hSw
              try dsimp only at hSw
              go_simp
              try with_reducible rfl
            try simp only [Act.put, List.setIfInBounds_toArray, List.set_cons_zero, List.set_cons_succ]
            refine wpAnyH_take (i := 3) (oi := { dst := some 48, op := Op.move (Operand.tmp 8), type := 3, pos := "json.go:351", after := #[], guard := none }) (v := ?_) rfl (by kernel_rfl) (by kernel_rfl) (by kernel_rfl) (fun _ _ _ h => h) (Or.inl ⟨by rfl, ?_⟩) (by assumption) ?_
            rotate_left
            · intro wz hSw
              try dsimp only at hSw
              go_simp
              try with_reducible rfl
            try simp only [Act.put, List.setIfInBounds_toArray, List.set_cons_zero, List.set_cons_succ]
            refine wpAnyH_take (i := 4) (oi := { dst := some 49, op := Op.indexAddr 27 (Operand.tmp 47) (Operand.tmp 48), type := 0, pos := "json.go:351", after := #[{ on := 2, ground := Ground.data }, { on := 3, ground := Ground.data }], guard := none }) (v := ?_) rfl (by kernel_rfl) (by kernel_rfl) (by kernel_rfl) (fun _ _ _ h => h) (Or.inl ⟨by rfl, ?_⟩) (by assumption) ?_
            rotate_left
            · intro wz hSw
              try dsimp only at hSw
              go_simp
              try with_reducible rfl
            try simp only [Act.put, List.setIfInBounds_toArray, List.set_cons_zero, List.set_cons_succ]
            refine wpAnyH_take (i := 5) (oi := { dst := some 50, op := Op.load 29 (Operand.tmp 49), type := 29, pos := "json.go:351", after := #[{ on := 4, ground := Ground.data }], guard := none }) (v := ?_) rfl (by kernel_rfl) (by kernel_rfl) (by kernel_rfl) (fun _ _ _ h => h) (Or.inl ⟨by rfl, ?_⟩) (by assumption) ?_
            rotate_left
            · intro wz hSw
              try dsimp only at hSw
              go_simp
              try with_reducible rfl
            try simp only [Act.put, List.setIfInBounds_toArray, List.set_cons_zero, List.set_cons_succ]
            refine wpAnyH_take (i := 6) (oi := { dst := some 51, op := Op.load 25 (Operand.tmp 4), type := 25, pos := "json.go:351", after := #[], guard := none }) (v := ?_) rfl (by kernel_rfl) (by kernel_rfl) (by kernel_rfl) (fun _ _ _ h => h) (Or.inl ⟨by rfl, ?_⟩) (by assumption) ?_
            rotate_left
            · intro wz hSw
              try dsimp only at hSw
              go_simp
              try with_reducible rfl
            try simp only [Act.put, List.setIfInBounds_toArray, List.set_cons_zero, List.set_cons_succ]
            refine wpAnyH_take (i := 7) (oi := { dst := some 52, op := Op.move (Operand.tmp 10), type := 39, pos := "json.go:351", after := #[], guard := none }) (v := ?_) rfl (by kernel_rfl) (by kernel_rfl) (by kernel_rfl) (fun _ _ _ h => h) (Or.inl ⟨by rfl, ?_⟩) (by assumption) ?_
            rotate_left
            · intro wz hSw
              try dsimp only at hSw
              go_simp
              try with_reducible rfl
            try simp only [Act.put, List.setIfInBounds_toArray, List.set_cons_zero, List.set_cons_succ]
            refine wpAnyH_ready (rs := [8]) (by kernel_rfl) (by simp) (AllReadyH.cons (o := { dst := some 53, op := Op.call { callee := Callee.value (Operand.func 6), args := #[Operand.tmp 50, Operand.tmp 51, Operand.tmp 52], argTypes := #[29, 25, 39] }, type := 32, pos := "json.go:351", after := #[{ on := 5, ground := Ground.data }, { on := 6, ground := Ground.data }, { on := 7, ground := Ground.data }], guard := none }) rfl (fun K hK => ?_) AllReadyH.nil)
            go_simp
            go_at_call 6
            refine Calls.mono (E _ (hbw.drew) RS5d) ?_
            rintro e w8 ⟨⟨r8, rfl, hP8⟩, b8⟩
            go_wp2_with fail
            refine hK.out _ _ (keep13 (by assumption) b8) (fun hHeld8 => ?_)
            clear hK K
            try simp only [Act.put, List.setIfInBounds_toArray, List.set_cons_zero, List.set_cons_succ]
            have bW8 : Below W12.heap.size W12 w8 := ⟨b8.os, b8.tape, b8.output, b8.size, b8.block⟩
            obtain ⟨us8, ra, rc, hr8, hu8, hR8, hn8, hc8⟩ := hP8.row
            subst hr8
            obtain ⟨u9, W9, r9, p9, _, _, b9⟩ := app_paths 32 w8 (w.heap.size + 2) (by have := bW8.size; omega) (.slice oa on oc) _ (rO.below bW8) ra rc us8 _ hu8 hR8 hn8 hc8 HLN.out
            have KNE : (w.heap.size < w.heap.size + 2) ∧ (b2 < w.heap.size + 2) ∧ (b2 < w.heap.size + 2) ∧ (b2 < w.heap.size + 2) ∧ (b2 < w.heap.size + 2) ∧ (b2 < w.heap.size + 2) ∧ (b2 < w.heap.size + 2) ∧ (b2 < w.heap.size + 2) ∧ (w.heap.size + 1 < w.heap.size + 2) ∧ (w.heap.size + 1 < w.heap.size + 2) ∧ (w.heap.size + 1 < w.heap.size + 2) ∧ (w.heap.size + 1 < w.heap.size + 2) ∧ (w.heap.size + 1 < w.heap.size + 2) := by have := HB.out.size; omega
            obtain ⟨a9, c9, hu9, _⟩ := p9.form
            obtain ⟨n9, hn9⟩ : ∃ n : Nat, .slice a9 n c9 = u9 := ⟨_, hu9.symm⟩
            clear hu9
            subst hn9
            refine wpAnyH_ready (rs := [9]) (by kernel_rfl) (by simp) (AllReadyH.cons (o := { dst := some 54, op := Op.call { callee := Callee.builtin Builtin.append, args := #[Operand.tmp 45, Operand.tmp 53], argTypes := #[32, 32] }, type := 32, pos := "json.go:351", after := #[{ on := 0, ground := Ground.data }, { on := 8, ground := Ground.data }, { on := 8, ground := Ground.chain }], guard := none }) rfl (fun K hK => ?_) AllReadyH.nil)
            refine step_append_known rfl (.tmp 45) (.tmp 53) 32 rfl (.slice oa on oc) (.slice ra us8.length rc) (.slice a9 n9 c9) W9 (by simp [Act.eval]) (by simp [Act.eval]) r9 ?_
            refine hK.out _ _ (keep13b (by assumption) b9 KNE) (fun hHeld9 => ?_)
            clear hK K
            try simp only [Act.put, List.setIfInBounds_toArray, List.set_cons_zero, List.set_cons_succ]
            refine wpAnyH_take (i := 10) (oi := { dst := some 7, op := Op.assign (Operand.tmp 54), type := 32, pos := "json.go:351", after := #[{ on := 9, ground := Ground.data }, { on := 9, ground := Ground.chain }, { on := 0, ground := Ground.phase }, { on := 1, ground := Ground.phase }, { on := 2, ground := Ground.phase }, { on := 3, ground := Ground.phase }, { on := 4, ground := Ground.phase }, { on := 5, ground := Ground.phase }, { on := 6, ground := Ground.phase }, { on := 7, ground := Ground.phase }, { on := 8, ground := Ground.phase }, { on := 9, ground := Ground.phase }], guard := none }) (v := ?_) rfl (by kernel_rfl) (by kernel_rfl) (by kernel_rfl) (fun _ _ _ h => h) (Or.inl ⟨by rfl, ?_⟩) (by assumption) ?_
            rotate_left
            · intro wz hSw
              try dsimp only at hSw
              go_simp
              try with_reducible rfl
            try simp only [Act.put, List.setIfInBounds_toArray, List.set_cons_zero, List.set_cons_succ]
            refine wpAnyH_done (by kernel_rfl) ?_ _
            refine NoPanic.normal ?_
            have HR9 : Hid (RP (w.heap.size + 2) W9 (.slice a9 n9 c9) ([p] ++ pathsL ⟨yk, yn, yt, yo, ya⟩ T.x T.ks (T.ts.take (j + 1)) 0 p)) := by
              show RP _ _ _ _
              rw [HLL.out, ← List.append_assoc]
              exact p9
            have HX9 : Hid (W9.heap[w.heap.size]? = some _) := (b9.block _ (by omega)).trans ((bW8.block _ (lt_of_heap HX3.out)).trans HX3.out)
            have HY9 : Hid (W9.heap[w.heap.size + 1]? = some _) := (b9.block _ (by omega)).trans ((bW8.block _ (lt_of_heap HY3.out)).trans HY3.out)
            have HB9 : Hid (Below w.heap.size w W9) := (hbw.trans (bW8.mono hbw.size)).trans (b9.mono (by omega))
            have g3 : (j : Int) < 8796093022208 := by have := HF.out.1.1; have := HJ.out; omega
            clear hHeld hHeld8 hHeld9 b8 bW8 hP8 hR8 hc8 hn8 hu8 p9 b9 KNE E m0 m1 m2 m3 m4 m5 m6 l0 l1 l2 l3 l4 x6 RS5 RS5d rO s12 hbw r9 HLL HLN
            go_wp2
            go_roundw
            case rel => exact ⟨j + 1, _, _, _, HJ.out, by go_num, rfl, HR9, HX9, HY9, HB9⟩
            case measure => simp [RowKit.intOf]; have := HJ.out; omega
          · have h5' : (xk == 5) = false := by simpa using h5
            have hSE : stepOf T.x T.ks (0 + j) = (ByteArray.mk #[], (j : Int)) := by
              unfold stepOf
              rw [HXX.out, if_neg h5, Nat.zero_add]
            clear h5
            go_upto_region 10 with fail
            clear k0 k5
            have sB := nA
            have bB := bA
            clear nA bA hxA
            generalize WA = WB at *
            have zB := bB.size
            have hRp : RS 0 WB (.slice pa p.length pc) p := own_below (own_below HP.out HBW.out (Nat.le_refl _)) bB (Nat.le_refl _)
            obtain ⟨v11, W11, r11, s11, g11⟩ := app_steps 39 WB (wr.heap.size + 1) (by have := lt_of_heap sB; omega) (.slice none 0 0) [] (RS.nil _ _) pa pc p (fun e => ⟨RS.empty HP.out e, hpn e⟩) hRp.cells (by have := HF.out; simp; omega)
            have b11 : Below WB.heap.size WB W11 := ⟨g11.os, g11.tape, g11.output, g11.size, fun k hk => g11.block k hk (by simp [Value.ownBlock])⟩
            have s11' : RS (wr.heap.size + 1) W11 v11 p := by simpa using s11
            obtain ⟨a11, c11, rfl, _⟩ := s11'.form
            have b12 := (Below.refl W11.heap.size W11).alloc (Nat.le_refl _) (.cells #[.string (ByteArray.mk #[]), .int .i64 (j : Int)] 41)
            have n12 : (W11.alloc (.cells #[.string (ByteArray.mk #[]), .int .i64 (j : Int)] 41)).heap[W11.heap.size]? = some _ := (MapKept.heap_alloc W11 _).1
            have z11 := b11.size
            have z12 := b12.size
            obtain ⟨v12, W12, r12, s12, g12⟩ := app_steps 39 (W11.alloc (.cells #[.string (ByteArray.mk #[]), .int .i64 (j : Int)] 41)) (wr.heap.size + 1) (by have := lt_of_heap sB; omega) (.slice a11 p.length c11) p (own_below s11' b12 (Nat.le_refl _)) (some ⟨W11.heap.size, 0, none⟩) 1 [((ByteArray.mk #[]), (j : Int))] (fun e => by cases e) (fun ad had jj u hu => by
              obtain rfl := Option.some.inj had
              rw [add_at, Nat.zero_add]
              have e0 : (W11.alloc (.cells #[.string (ByteArray.mk #[]), .int .i64 (j : Int)] 41)).cell? ⟨W11.heap.size, jj, none⟩ = (#[Value.string (ByteArray.mk #[]), .int .i64 (j : Int)] : Array Value)[jj]? := Lib.cell_of_heap n12 jj
              rw [e0]
              rw [← hu, ← Array.getElem?_toList]
              rfl) (by have := HF.out; simp; omega)
            have bb12 : Below (wr.heap.size + 1) (W11.alloc (.cells #[.string (ByteArray.mk #[]), .int .i64 (j : Int)] 41)) W12 := grown_below g12 (own_below s11' b12 (Nat.le_refl _)) (by have := lt_of_heap sB; omega)
            obtain ⟨a12, c12, hv12, _⟩ := s12.form
            obtain ⟨pn2, hpn2⟩ : ∃ n, n = (p ++ [((ByteArray.mk #[]), (j : Int))]).length := ⟨_, rfl⟩
            rw [← hpn2] at hv12
            clear hpn2
            subst hv12
            have bAll : Below wr.heap.size wr W12 := ((bB.trans (b11.mono zB)).trans (b12.mono (by omega))).trans (bb12.mono (by omega))
            have sc0 : W11.cell? ⟨wr.heap.size, 0, none⟩ = some (.string (ByteArray.mk #[])) := Lib.cell_of_heap ((b11.block _ (lt_of_heap sB)).trans sB) 0
            have sc1 : W11.cell? ⟨wr.heap.size, 1, none⟩ = some (.int .i64 (j : Int)) := Lib.cell_of_heap ((b11.block _ (lt_of_heap sB)).trans sB) 1
            have r12' : (Builtin.append_ #[39, 39] 39 #[.slice a11 p.length c11, .slice (some ⟨W11.heap.size, 0, none⟩) 1 1]).run Tryd.prog (W11.alloc (.cells #[.string (ByteArray.mk #[]), .int .i64 (j : Int)] 41)) = .ok (.slice a12 pn2 c12) W12 := r12
            have HQ : Hid (Below wr.heap.size wr W12 ∧ RS (wr.heap.size + 1) W12 (.slice a12 pn2 c12) (p ++ [((ByteArray.mk #[]), (j : Int))])) := ⟨bAll, s12⟩
            clear hRp s11 g11 b11 s11' b12 n12 z11 z12 s12 g12 bb12 bAll r12 zB sB bB
            go_upto_region 12 with (first | (at_builtin; refine wp_append rfl _ _ 39 rfl _ _ _ _ rfl rfl r11 ?_))
            clear r11
            go_upto_region 13 with (first | (at_builtin; refine wp_append rfl _ _ 39 rfl _ _ _ _ rfl rfl r12' ?_))
            clear r12' sc0 sc1
            obtain ⟨bAll, s12⟩ := HQ.out
            have hju : j < us.length := by have := HL.out; omega
            have tj := HT.out j hju hlt
            obtain ⟨⟨pk, pn, pt, po, pq⟩, pa1, pn1, pc1, pa2, pn2', pc2, hpp⟩ := tj.parts
            have hbw : Below w.heap.size w W12 := HBW.out.trans (bAll.mono HBW.out.size)
            have hb02 := HB.out.trans (hbw.mono HB.out.size)
            obtain ⟨b2, o2, rfl, hb2, m0, m1, m2, m3, m4, m5, m6⟩ := HR.out.cells hb02 j hju _ hpp
            have hsz2 : T.ts[j].size + 1 ≤ T.size := by
              have e1 := sizes_take T.ts j hlt
              have e2 := sizes_le T.ts (j + 1)
              have e3 := HF.out.2.2.2.2.2
              omega
            have E := fun (W : World) (hb : Below w.heap.size w W) (hr : RS 0 W (.slice a12 pn2 c12) (p ++ [((ByteArray.mk #[]), (j : Int))])) => HI.out j hju hlt W ⟨yk, yn, yt, yo, ya⟩ (.slice a12 pn2 c12) (p ++ [((ByteArray.mk #[]), (j : Int))]) (HB.out.trans (hb.mono HB.out.size)) hr (HF.out.2.2.1 _ (List.getElem_mem hlt)) (HF.out.1.2.2 _ (List.getElem_mem hlt)) (by have := HF.out; rw [List.length_append, List.length_singleton]; omega)
            rw [hpp] at E
            dsimp only [tval, V.val] at E m0 m1 m2 m3 m4 m5 m6
            have HX3 : Hid (W12.heap[w.heap.size]? = some (.cells #[.int .i64 xk, .int .i64 xn, .string xt, .int .i64 xo, .int .i64 xa, (.slice ak T.ks.length ck), .slice (some ⟨b2, o2, none⟩) T.ts.length cap] 29)) := (bAll.block _ (lt_of_heap HX.out)).trans HX.out
            have HY3 : Hid (W12.heap[w.heap.size + 1]? = some (.cells #[.int .i64 yk, .int .i64 yn, .string yt, .int .i64 yo, .int .i64 ya] 25)) := (bAll.block _ (lt_of_heap HY.out)).trans HY.out
            have x6 : W12.cell? ⟨w.heap.size, 6, none⟩ = some (.slice (some ⟨b2, o2, none⟩) T.ts.length cap) := Lib.cell_of_heap HX3.out 6
            have l0 : W12.cell? ⟨w.heap.size + 1, 0, none⟩ = some (.int .i64 yk) := Lib.cell_of_heap HY3.out 0
            have l1 : W12.cell? ⟨w.heap.size + 1, 1, none⟩ = some (.int .i64 yn) := Lib.cell_of_heap HY3.out 1
            have l2 : W12.cell? ⟨w.heap.size + 1, 2, none⟩ = some (.string yt) := Lib.cell_of_heap HY3.out 2
            have l3 : W12.cell? ⟨w.heap.size + 1, 3, none⟩ = some (.int .i64 yo) := Lib.cell_of_heap HY3.out 3
            have l4 : W12.cell? ⟨w.heap.size + 1, 4, none⟩ = some (.int .i64 ya) := Lib.cell_of_heap HY3.out 4
            have RS5 : RS 0 W12 (.slice a12 pn2 c12) (p ++ [((ByteArray.mk #[]), (j : Int))]) := s12.mono (Nat.zero_le _)
            have RS5d : RS 0 W12.drew (.slice a12 pn2 c12) (p ++ [((ByteArray.mk #[]), (j : Int))]) := own_below RS5 (Below.refl W12.heap.size W12).drew (Nat.le_refl _)
            have rO := HO.out.below bAll
            have hz2 : w.heap.size + 2 ≤ W12.heap.size := by have := lt_of_heap HY3.out; omega
            have hStep : stepOf T.x T.ks (0 + j) = ((ByteArray.mk #[]), (j : Int)) := hSE
            have HLL : Hid (pathsL ⟨yk, yn, yt, yo, ya⟩ T.x T.ks (T.ts.take (j + 1)) 0 p = pathsL ⟨yk, yn, yt, yo, ya⟩ T.x T.ks (T.ts.take j) 0 p ++ pathsT ⟨yk, yn, yt, yo, ya⟩ T.ts[j] (p ++ [((ByteArray.mk #[]), (j : Int))])) := by
              show _ = _
              rw [pathsL_take _ _ _ _ _ _ _ hlt, hStep]
            have HLN : Hid (([p] ++ pathsL ⟨yk, yn, yt, yo, ya⟩ T.x T.ks (T.ts.take j) 0 p).length + (pathsT ⟨yk, yn, yt, yo, ya⟩ T.ts[j] (p ++ [((ByteArray.mk #[]), (j : Int))])).length ≤ 1000000) := by
              show _ ≤ _
              have e1 := pathsL_len ⟨yk, yn, yt, yo, ya⟩ T.x T.ks (T.ts.take j) 0 p
              have e2 := sizes_le T.ts j
              have e3 := pathsT_len ⟨yk, yn, yt, yo, ya⟩ T.ts[j] (p ++ [((ByteArray.mk #[]), (j : Int))])
              have e4 := HF.out
              rw [List.length_append]
              have e5 : ([p]).length ≤ 1 := by simp
              omega
            have HJ : Hid (j < T.ts.length) := hlt
            generalize T.ts[j] = Tj at *
            clear hpp hju hlt hj tj bAll hb02 HQ hStep
            refine wp_region_noPanic ?_
            refine wp_region_held_drew (S := fun W => W.cell? ⟨w.heap.size, 6, none⟩ = some (.slice (some ⟨b2, o2, none⟩) T.ts.length cap) ∧ W.cell? ⟨b2, o2 + j * 7, none⟩ = some (.int .i64 pk) ∧ W.cell? ⟨b2, o2 + j * 7 + 1, none⟩ = some (.int .i64 pn) ∧ W.cell? ⟨b2, o2 + j * 7 + 2, none⟩ = some (.string pt) ∧ W.cell? ⟨b2, o2 + j * 7 + 3, none⟩ = some (.int .i64 po) ∧ W.cell? ⟨b2, o2 + j * 7 + 4, none⟩ = some (.int .i64 pq) ∧ W.cell? ⟨b2, o2 + j * 7 + 5, none⟩ = some (.slice pa1 pn1 pc1) ∧ W.cell? ⟨b2, o2 + j * 7 + 6, none⟩ = some (.slice pa2 pn2' pc2) ∧ W.cell? ⟨w.heap.size + 1, 0, none⟩ = some (.int .i64 yk) ∧ W.cell? ⟨w.heap.size + 1, 1, none⟩ = some (.int .i64 yn) ∧ W.cell? ⟨w.heap.size + 1, 2, none⟩ = some (.string yt) ∧ W.cell? ⟨w.heap.size + 1, 3, none⟩ = some (.int .i64 yo) ∧ W.cell? ⟨w.heap.size + 1, 4, none⟩ = some (.int .i64 ya)) (by kernel_rfl) (⟨x6, m0, m1, m2, m3, m4, m5, m6, l0, l1, l2, l3, l4⟩) (fun hHeld => ?_)
            refine wpAnyH_take (i := 0) (oi := { dst := some 45, op := Op.move (Operand.tmp 7), type := 32, pos := "json.go:351", after := #[], guard := none }) (v := ?_) rfl (by kernel_rfl) (by kernel_rfl) (by kernel_rfl) (fun _ _ _ h => h) (Or.inl ⟨by rfl, ?_⟩) (by assumption) ?_
            rotate_left
            · intro wz hSw
              try dsimp only at hSw
              go_simp
              try with_reducible rfl
            try simp only [Act.put, List.setIfInBounds_toArray, List.set_cons_zero, List.set_cons_succ]
            refine wpAnyH_take (i := 1) (oi := { dst := some 46, op := Op.fieldAddr 29 (Operand.tmp 3) 2, type := 0, pos := "json.go:351", after := #[], guard := none }) (v := ?_) rfl (by kernel_rfl) (by kernel_rfl) (by kernel_rfl) (fun _ _ _ h => h) (Or.inl ⟨by rfl, ?_⟩) (by assumption) ?_
            rotate_left
            · intro wz hSw
              try dsimp only at hSw
              go_simp
              try with_reducible rfl
            try simp only [Act.put, List.setIfInBounds_toArray, List.set_cons_zero, List.set_cons_succ]
            refine wpAnyH_take (i := 2) (oi := { dst := some 47, op := Op.load 27 (Operand.tmp 46), type := 27, pos := "json.go:351", after := #[{ on := 1, ground := Ground.data }], guard := none }) (v := ?_) rfl (by kernel_rfl) (by kernel_rfl) (by kernel_rfl) (fun _ _ _ h => h) (Or.inl ⟨by rfl, ?_⟩) (by assumption) ?_
            rotate_left
            · intro wz hSw
              try dsimp only at hSw
              go_simp
              try with_reducible rfl
            try simp only [Act.put, List.setIfInBounds_toArray, List.set_cons_zero, List.set_cons_succ]
            refine wpAnyH_take (i := 3) (oi := { dst := some 48, op := Op.move (Operand.tmp 8), type := 3, pos := "json.go:351", after := #[], guard := none }) (v := ?_) rfl (by kernel_rfl) (by kernel_rfl) (by kernel_rfl) (fun _ _ _ h => h) (Or.inl ⟨by rfl, ?_⟩) (by assumption) ?_
            rotate_left
            · intro wz hSw
              try dsimp only at hSw
              go_simp
              try with_reducible rfl
            try simp only [Act.put, List.setIfInBounds_toArray, List.set_cons_zero, List.set_cons_succ]
            refine wpAnyH_take (i := 4) (oi := { dst := some 49, op := Op.indexAddr 27 (Operand.tmp 47) (Operand.tmp 48), type := 0, pos := "json.go:351", after := #[{ on := 2, ground := Ground.data }, { on := 3, ground := Ground.data }], guard := none }) (v := ?_) rfl (by kernel_rfl) (by kernel_rfl) (by kernel_rfl) (fun _ _ _ h => h) (Or.inl ⟨by rfl, ?_⟩) (by assumption) ?_
            rotate_left
            · intro wz hSw
              try dsimp only at hSw
              go_simp
              try with_reducible rfl
            try simp only [Act.put, List.setIfInBounds_toArray, List.set_cons_zero, List.set_cons_succ]
            refine wpAnyH_take (i := 5) (oi := { dst := some 50, op := Op.load 29 (Operand.tmp 49), type := 29, pos := "json.go:351", after := #[{ on := 4, ground := Ground.data }], guard := none }) (v := ?_) rfl (by kernel_rfl) (by kernel_rfl) (by kernel_rfl) (fun _ _ _ h => h) (Or.inl ⟨by rfl, ?_⟩) (by assumption) ?_
            rotate_left
            · intro wz hSw
              try dsimp only at hSw
              go_simp
              try with_reducible rfl
            try simp only [Act.put, List.setIfInBounds_toArray, List.set_cons_zero, List.set_cons_succ]
            refine wpAnyH_take (i := 6) (oi := { dst := some 51, op := Op.load 25 (Operand.tmp 4), type := 25, pos := "json.go:351", after := #[], guard := none }) (v := ?_) rfl (by kernel_rfl) (by kernel_rfl) (by kernel_rfl) (fun _ _ _ h => h) (Or.inl ⟨by rfl, ?_⟩) (by assumption) ?_
            rotate_left
            · intro wz hSw
              try dsimp only at hSw
              go_simp
              try with_reducible rfl
            try simp only [Act.put, List.setIfInBounds_toArray, List.set_cons_zero, List.set_cons_succ]
            refine wpAnyH_take (i := 7) (oi := { dst := some 52, op := Op.move (Operand.tmp 10), type := 39, pos := "json.go:351", after := #[], guard := none }) (v := ?_) rfl (by kernel_rfl) (by kernel_rfl) (by kernel_rfl) (fun _ _ _ h => h) (Or.inl ⟨by rfl, ?_⟩) (by assumption) ?_
            rotate_left
            · intro wz hSw
              try dsimp only at hSw
              go_simp
              try with_reducible rfl
            try simp only [Act.put, List.setIfInBounds_toArray, List.set_cons_zero, List.set_cons_succ]
            refine wpAnyH_ready (rs := [8]) (by kernel_rfl) (by simp) (AllReadyH.cons (o := { dst := some 53, op := Op.call { callee := Callee.value (Operand.func 6), args := #[Operand.tmp 50, Operand.tmp 51, Operand.tmp 52], argTypes := #[29, 25, 39] }, type := 32, pos := "json.go:351", after := #[{ on := 5, ground := Ground.data }, { on := 6, ground := Ground.data }, { on := 7, ground := Ground.data }], guard := none }) rfl (fun K hK => ?_) AllReadyH.nil)
            go_simp
            go_at_call 6
            refine Calls.mono (E _ (hbw.drew) RS5d) ?_
            rintro e w8 ⟨⟨r8, rfl, hP8⟩, b8⟩
            go_wp2_with fail
            refine hK.out _ _ (keep13 (by assumption) b8) (fun hHeld8 => ?_)
            clear hK K
            try simp only [Act.put, List.setIfInBounds_toArray, List.set_cons_zero, List.set_cons_succ]
            have bW8 : Below W12.heap.size W12 w8 := ⟨b8.os, b8.tape, b8.output, b8.size, b8.block⟩
            obtain ⟨us8, ra, rc, hr8, hu8, hR8, hn8, hc8⟩ := hP8.row
            subst hr8
            obtain ⟨u9, W9, r9, p9, _, _, b9⟩ := app_paths 32 w8 (w.heap.size + 2) (by have := bW8.size; omega) (.slice oa on oc) _ (rO.below bW8) ra rc us8 _ hu8 hR8 hn8 hc8 HLN.out
            have KNE : (w.heap.size < w.heap.size + 2) ∧ (b2 < w.heap.size + 2) ∧ (b2 < w.heap.size + 2) ∧ (b2 < w.heap.size + 2) ∧ (b2 < w.heap.size + 2) ∧ (b2 < w.heap.size + 2) ∧ (b2 < w.heap.size + 2) ∧ (b2 < w.heap.size + 2) ∧ (w.heap.size + 1 < w.heap.size + 2) ∧ (w.heap.size + 1 < w.heap.size + 2) ∧ (w.heap.size + 1 < w.heap.size + 2) ∧ (w.heap.size + 1 < w.heap.size + 2) ∧ (w.heap.size + 1 < w.heap.size + 2) := by have := HB.out.size; omega
            obtain ⟨a9, c9, hu9, _⟩ := p9.form
            obtain ⟨n9, hn9⟩ : ∃ n : Nat, .slice a9 n c9 = u9 := ⟨_, hu9.symm⟩
            clear hu9
            subst hn9
            refine wpAnyH_ready (rs := [9]) (by kernel_rfl) (by simp) (AllReadyH.cons (o := { dst := some 54, op := Op.call { callee := Callee.builtin Builtin.append, args := #[Operand.tmp 45, Operand.tmp 53], argTypes := #[32, 32] }, type := 32, pos := "json.go:351", after := #[{ on := 0, ground := Ground.data }, { on := 8, ground := Ground.data }, { on := 8, ground := Ground.chain }], guard := none }) rfl (fun K hK => ?_) AllReadyH.nil)
            refine step_append_known rfl (.tmp 45) (.tmp 53) 32 rfl (.slice oa on oc) (.slice ra us8.length rc) (.slice a9 n9 c9) W9 (by simp [Act.eval]) (by simp [Act.eval]) r9 ?_
            refine hK.out _ _ (keep13b (by assumption) b9 KNE) (fun hHeld9 => ?_)
            clear hK K
            try simp only [Act.put, List.setIfInBounds_toArray, List.set_cons_zero, List.set_cons_succ]
            refine wpAnyH_take (i := 10) (oi := { dst := some 7, op := Op.assign (Operand.tmp 54), type := 32, pos := "json.go:351", after := #[{ on := 9, ground := Ground.data }, { on := 9, ground := Ground.chain }, { on := 0, ground := Ground.phase }, { on := 1, ground := Ground.phase }, { on := 2, ground := Ground.phase }, { on := 3, ground := Ground.phase }, { on := 4, ground := Ground.phase }, { on := 5, ground := Ground.phase }, { on := 6, ground := Ground.phase }, { on := 7, ground := Ground.phase }, { on := 8, ground := Ground.phase }, { on := 9, ground := Ground.phase }], guard := none }) (v := ?_) rfl (by kernel_rfl) (by kernel_rfl) (by kernel_rfl) (fun _ _ _ h => h) (Or.inl ⟨by rfl, ?_⟩) (by assumption) ?_
            rotate_left
            · intro wz hSw
              try dsimp only at hSw
              go_simp
              try with_reducible rfl
            try simp only [Act.put, List.setIfInBounds_toArray, List.set_cons_zero, List.set_cons_succ]
            refine wpAnyH_done (by kernel_rfl) ?_ _
            refine NoPanic.normal ?_
            have HR9 : Hid (RP (w.heap.size + 2) W9 (.slice a9 n9 c9) ([p] ++ pathsL ⟨yk, yn, yt, yo, ya⟩ T.x T.ks (T.ts.take (j + 1)) 0 p)) := by
              show RP _ _ _ _
              rw [HLL.out, ← List.append_assoc]
              exact p9
            have HX9 : Hid (W9.heap[w.heap.size]? = some _) := (b9.block _ (by omega)).trans ((bW8.block _ (lt_of_heap HX3.out)).trans HX3.out)
            have HY9 : Hid (W9.heap[w.heap.size + 1]? = some _) := (b9.block _ (by omega)).trans ((bW8.block _ (lt_of_heap HY3.out)).trans HY3.out)
            have HB9 : Hid (Below w.heap.size w W9) := (hbw.trans (bW8.mono hbw.size)).trans (b9.mono (by omega))
            have g3 : (j : Int) < 8796093022208 := by have := HF.out.1.1; have := HJ.out; omega
            clear hHeld hHeld8 hHeld9 b8 bW8 hP8 hR8 hc8 hn8 hu8 p9 b9 KNE E m0 m1 m2 m3 m4 m5 m6 l0 l1 l2 l3 l4 x6 RS5 RS5d rO s12 hbw r9 HLL HLN
            go_wp2
            go_roundw
            case rel => exact ⟨j + 1, _, _, _, HJ.out, by go_num, rfl, HR9, HX9, HY9, HB9⟩
            case measure => simp [RowKit.intOf]; have := HJ.out; omega
        · have g1 : ¬ (j : Int) < T.ts.length := by omega
          have HR9 : Hid (RP w.heap.size wr (.slice oa on oc) (pathsT ⟨yk, yn, yt, yo, ya⟩ T p)) := by
            show RP _ _ _ _
            refine RP.mono (B := w.heap.size + 2) ?_ (by omega)
            have e : T.ts.take j = T.ts := List.take_of_length_le (by omega)
            have h9 := HO.out
            rw [e] at h9
            rw [HPT.out]
            simpa using h9
          clear hlt hj
          go_wp2
          go_ret
          exact ⟨⟨_, rfl, HR9.out⟩, HBW.out⟩
end Go.Proofs.YtjmepegckahnfaaDoor
