/-
  What is proved: the function Get of bookref3, called with a tree and a path that lie in memory, answers the tree at the path's end, or that there is none.
  Conditions: both lie in memory, and the tree is one.
-/
import Derived.Test.YtemannmcjioimaaDoorJGetH
import Derived.Test.YtemannmcjioimaaDoorJCheck
namespace Go.Proofs.YtemannmcjioimaaDoor
open Go.RowKit Go.Sort

/-- A zero tree. -/
abbrev zT : Value := .agg #[.int .i64 0, .int .i64 0, .string ⟨#[]⟩, .int .i64 0, .int .i64 0, .slice none 0 0, .slice none 0 0]
/-- What Get answers. -/
def GetP (w0 : World) (q : Option JT) (e : Ending) : Prop :=
  (∃ t v, q = some t ∧ e = .returned (.tuple #[v, .bool true]) ∧ IsT w0 v t) ∨ (q = none ∧ e = .returned (.tuple #[zT, .bool false]))

theorem cell_in {W : World} {a : Addr} {v : Value} (h : W.cell? a = some v) : a.block < W.heap.size := by
  unfold World.cell? at h
  cases hb : W.heap[a.block]? with
  | none => rw [hb] at h; simp at h
  | some o => exact lt_of_heap hb
theorem keep9 {W W' : World} {p0 p1 p2 p3 p4 p5 p6 p7 p8 : Addr} {v0 v1 v2 v3 v4 v5 v6 v7 v8 : Value} (h : W.cell? p0 = some v0 ∧ W.cell? p1 = some v1 ∧ W.cell? p2 = some v2 ∧ W.cell? p3 = some v3 ∧ W.cell? p4 = some v4 ∧ W.cell? p5 = some v5 ∧ W.cell? p6 = some v6 ∧ W.cell? p7 = some v7 ∧ W.cell? p8 = some v8) (hb : Below W.heap.size W W') :
    W'.cell? p0 = some v0 ∧ W'.cell? p1 = some v1 ∧ W'.cell? p2 = some v2 ∧ W'.cell? p3 = some v3 ∧ W'.cell? p4 = some v4 ∧ W'.cell? p5 = some v5 ∧ W'.cell? p6 = some v6 ∧ W'.cell? p7 = some v7 ∧ W'.cell? p8 = some v8 := by
  obtain ⟨h0, h1, h2, h3, h4, h5, h6, h7, h8⟩ := h
  exact ⟨(hb.cell (cell_in h0)).trans h0, (hb.cell (cell_in h1)).trans h1, (hb.cell (cell_in h2)).trans h2, (hb.cell (cell_in h3)).trans h3, (hb.cell (cell_in h4)).trans h4, (hb.cell (cell_in h5)).trans h5, (hb.cell (cell_in h6)).trans h6, (hb.cell (cell_in h7)).trans h7, (hb.cell (cell_in h8)).trans h8⟩
theorem set7 {w : World} {g : Nat} {T : TypeId} {u0 u1 u2 u3 u4 u5 u6 : Value} (h : w.heap[g]? = some (.cells #[u0, u1, u2, u3, u4, u5, u6] T)) (v0 v1 v2 v3 v4 v5 v6 : Value) :
    (((((((w.setCell ⟨g, 0, none⟩ v0).setCell ⟨g, 1, none⟩ v1).setCell ⟨g, 2, none⟩ v2).setCell ⟨g, 3, none⟩ v3).setCell ⟨g, 4, none⟩ v4).setCell ⟨g, 5, none⟩ v5).setCell ⟨g, 6, none⟩ v6).heap[g]? = some (.cells #[v0, v1, v2, v3, v4, v5, v6] T) := by
  have h0 := set_at h 0 v0
  have h1 := set_at h0 1 v1
  have h2 := set_at h1 2 v2
  have h3 := set_at h2 3 v3
  have h4 := set_at h3 4 v4
  have h5 := set_at h4 5 v5
  have h6 := set_at h5 6 v6
  rw [h6]
  simp
theorem set7_below {w w' : World} {g B : Nat} (h : Below B w w') (hB : B ≤ g) (v0 v1 v2 v3 v4 v5 v6 : Value) :
    Below B w (((((((w'.setCell ⟨g, 0, none⟩ v0).setCell ⟨g, 1, none⟩ v1).setCell ⟨g, 2, none⟩ v2).setCell ⟨g, 3, none⟩ v3).setCell ⟨g, 4, none⟩ v4).setCell ⟨g, 5, none⟩ v5).setCell ⟨g, 6, none⟩ v6) :=
  ((((((h.setCell hB v0).setCell hB v1).setCell hB v2).setCell hB v3).setCell hB v4).setCell hB v5).setCell hB v6
theorem set7_other {w : World} {g b : Nat} {o : Obj} (h : w.heap[b]? = some o) (hb : b ≠ g) (v0 v1 v2 v3 v4 v5 v6 : Value) :
    (((((((w.setCell ⟨g, 0, none⟩ v0).setCell ⟨g, 1, none⟩ v1).setCell ⟨g, 2, none⟩ v2).setCell ⟨g, 3, none⟩ v3).setCell ⟨g, 4, none⟩ v4).setCell ⟨g, 5, none⟩ v5).setCell ⟨g, 6, none⟩ v6).heap[b]? = some o := by
  have hs : ∀ (w : World) (i : Nat) (v : Value), w.heap[b]? = some o → (w.setCell ⟨g, i, none⟩ v).heap[b]? = some o := fun w i v h => by rw [Below.heap_setCell _ _ _ _ (by simpa using hb)]; exact h
  exact hs _ _ _ (hs _ _ _ (hs _ _ _ (hs _ _ _ (hs _ _ _ (hs _ _ _ (hs _ _ _ h))))))

set_option maxRecDepth 100000 in
set_option maxHeartbeats 8000000 in
theorem getH_any {w0 : World} {v p : Value} {T : JT} {l : List Stp} (w : World) (hw0 : Below w0.heap.size w0 w) (h : IsT w0 v T) (hp : IsSteps w0 p l) (hf : formedB T = true) :
    Calls Tryd.prog 6 #[v, p] w fun e w' => GetP w0 (getT T l) e ∧ Below w.heap.size w w' := by
  obtain ⟨u, rfl⟩ := h.of_val
  obtain ⟨N⟩ := h.node
  obtain ⟨a1, c1, a2, c2, us, hu, -, -, -, -, -, -⟩ := N
  have HT : Hid (IsT w0 (tval u) T) := h
  have HP : Hid (IsSteps w0 p l) := hp
  have HF : Hid (formedB T = true) := hf
  have HW0 : Hid (Below w0.heap.size w0 w) := hw0
  obtain ⟨a, cap, rfl, h1, h2, h3⟩ := hp
  have HZ : Hid (l.length ≤ cap ∧ l.length ≤ 8796093022208) := ⟨h1, h2⟩
  subst hu
  clear h hf h1 h2 h3 hw0
  obtain ⟨x0, y0, b0⟩ := two_boxes w (.cells #[.int .i64 T.x.k, .int .i64 T.x.n, .string T.x.t, .int .i64 T.x.o, .int .i64 T.x.a, .slice a1 T.ks.length c1, .slice a2 T.ts.length c2] 29) (.cells #[.int .i64 0, .int .i64 0, .string ⟨#[]⟩, .int .i64 0, .int .i64 0, .slice none 0 0, .slice none 0 0] 29)
  have HX : Hid (_ = some (Obj.cells #[.int .i64 T.x.k, .int .i64 T.x.n, .string T.x.t, .int .i64 T.x.o, .int .i64 T.x.a, .slice a1 T.ks.length c1, .slice a2 T.ts.length c2] 29)) := x0
  have HY : Hid (_ = some (Obj.cells #[.int .i64 0, .int .i64 0, .string ⟨#[]⟩, .int .i64 0, .int .i64 0, .slice none 0 0, .slice none 0 0] 29)) := y0
  have HB : Hid (Below w.heap.size w _) := b0
  clear x0 y0 b0
  unfold tval
  dsimp only
  go_enter Tryd.func6, Tryd.ntmps6
  go_wp2_with fail
  go_loopw [6, 7] (fun i _ wr => ∃ (j : Nat) (Tj : JT) (uj : TV), j ≤ l.length ∧ i = .int .i64 j ∧ Hid (getT T l = getT Tj (l.drop j)) ∧ Hid (IsT w0 (tval uj) Tj ∧ formedB Tj = true) ∧ Hid (wr.heap[w.heap.size]? = some (.cells #[.int .i64 uj.1.k, .int .i64 uj.1.n, .string uj.1.t, .int .i64 uj.1.o, .int .i64 uj.1.a, uj.2.1, uj.2.2] 29)) ∧ Hid (wr.heap[w.heap.size + 1]? = some (.cells #[.int .i64 0, .int .i64 0, .string ⟨#[]⟩, .int .i64 0, .int .i64 0, .slice none 0 0, .slice none 0 0] 29)) ∧ Hid (Below w.heap.size w wr)) (fun i _ _ => l.length - (RowKit.intOf i).toNat)
  case atStart => exact ⟨0, T, _, Nat.zero_le _, rfl, rfl, ⟨HT.out, HF.out⟩, HX, HY, HB⟩
  case round =>
    clear HX HY HB HT HF
    obtain ⟨j, Tj, uj, hj, rfl, HG, HTj, HX, HY, HB⟩ := hrel
    by_cases hlt : j < l.length
    · have g1 : (j : Int) < l.length := by omega
      have g3 : (j : Int) < 8796093022208 := by have := HZ.out; omega
      obtain ⟨b, off, rfl, hb4, hmem⟩ := HP.out.cells (HW0.out.trans (HB.out.mono HW0.out.size)) (show l ≠ [] from fun e => by rw [e] at hlt; simp at hlt)
      obtain ⟨y0, y1⟩ := hmem j hlt
      obtain ⟨N⟩ := HTj.out.1.node
      obtain ⟨a1, c1, a2, c2, us, hu, nk, nl, nc, nz, nr, ni⟩ := N
      subst hu
      have EI := fun (W : World) (hb : Below w.heap.size w W) => index_any Tj.x Tj.ks a1 a2 c1 Tj.ts.length c2 l[j] W (nk.below (HW0.out.trans (hb.mono HW0.out.size)))
      obtain ⟨k0, k1, k2, k3, k4, k5, k6⟩ := tboxed (u := (Tj.x, .slice a1 Tj.ks.length c1, .slice a2 Tj.ts.length c2)) HX.out
      have HD : Hid (l.drop j = l[j] :: l.drop (j + 1) ∧ j < l.length) := ⟨List.drop_eq_getElem_cons hlt, hlt⟩
      have HFN : Hid ((Tj.x.k = 5 → Tj.ks.length = Tj.ts.length ∧ upB [] Tj.ks = true) ∧ ∀ t ∈ Tj.ts, formedB t = true) := formed_node HTj.out.2
      have HLT : Hid (∀ i, kidOf Tj.x Tj.ks Tj.ts.length l[j] = some i → i < Tj.ts.length) := fun i hi => kidOf_lt hi (fun h5 => (HFN.out.1 h5).1)
      have HST : Hid (step1 Tj l[j] = (kidOf Tj.x Tj.ks Tj.ts.length l[j]).bind fun i => Tj.ts[i]?) := rfl
      have HN : Hid (us.length = Tj.ts.length ∧ Tj.ts.length ≤ c2 ∧ Tj.ts.length ≤ 8796093022208) := ⟨nl, nc.1, nz⟩
      have HNR : Hid (RowT w0 a2 us) := nr
      have HNI : Hid (∀ i (h : i < us.length) (h' : i < Tj.ts.length), IsT w0 (tval us[i]) Tj.ts[i]) := ni
      have hbw := HB.out
      clear hmem hj nk nl nc nz nr ni
      generalize l[j] = s at *
      clear hlt
      obtain ⟨sb, si⟩ := s
      generalize hq : kidOf Tj.x Tj.ks Tj.ts.length (sb, si) = q at *
      have HQ : Hid (kidOf Tj.x Tj.ks Tj.ts.length (sb, si) = q) := hq
      clear hq
      generalize hxx : Tj.x = xx at *
      have HXX : Hid (Tj.x = xx) := hxx
      clear hxx
      obtain ⟨xk, xn, xt, xo, xa⟩ := xx
      generalize Tj.ks.length = n1 at *
      unfold tval stpV at EI
      dsimp only at EI k0 k1 k2 k3 k4 k5 k6 y0 y1
      cases q with
      | none =>
        have HR : Hid (getT T l = none) := by
          show getT T l = none
          rw [HG.out, HD.out.1, getT, HST.out]; rfl
        simp only [show idxI none = -1 from rfl] at EI
        go_wp2
        refine wp_region_noPanic ?_
        refine wp_region_held_drew (S := fun W => W.cell? ⟨w.heap.size, 0, none⟩ = some (.int .i64 xk) ∧ W.cell? ⟨w.heap.size, 1, none⟩ = some (.int .i64 xn) ∧ W.cell? ⟨w.heap.size, 2, none⟩ = some (.string xt) ∧ W.cell? ⟨w.heap.size, 3, none⟩ = some (.int .i64 xo) ∧ W.cell? ⟨w.heap.size, 4, none⟩ = some (.int .i64 xa) ∧ W.cell? ⟨w.heap.size, 5, none⟩ = some (.slice a1 n1 c1) ∧ W.cell? ⟨w.heap.size, 6, none⟩ = some (.slice a2 Tj.ts.length c2) ∧ W.cell? ⟨b, off + j * 2, none⟩ = some (.string sb) ∧ W.cell? ⟨b, off + j * 2 + 1, none⟩ = some (.int .i64 si)) (by kernel_rfl) (⟨k0, k1, k2, k3, k4, k5, k6, y0, y1⟩) (fun hHeld => ?_)
        refine wpAnyH_take (i := 0) (oi := { dst := some 14, op := Op.load 29 (Operand.tmp 2), type := 29, pos := "json.go:232", after := #[], guard := none }) (v := ?_) rfl (by kernel_rfl) (by kernel_rfl) (by kernel_rfl) (fun _ _ _ h => h) (Or.inl ⟨by rfl, ?_⟩) (by assumption) ?_
        rotate_left
        · intro wz hSw
          try dsimp only at hSw
          go_simp
          try with_reducible rfl
        try simp only [Act.put, List.setIfInBounds_toArray, List.set_cons_zero, List.set_cons_succ]
        refine wpAnyH_take (i := 1) (oi := { dst := some 15, op := Op.move (Operand.tmp 1), type := 30, pos := "json.go:232", after := #[], guard := none }) (v := ?_) rfl (by kernel_rfl) (by kernel_rfl) (by kernel_rfl) (fun _ _ _ h => h) (Or.inl ⟨by rfl, ?_⟩) (by assumption) ?_
        rotate_left
        · intro wz hSw
          try dsimp only at hSw
          go_simp
          try with_reducible rfl
        try simp only [Act.put, List.setIfInBounds_toArray, List.set_cons_zero, List.set_cons_succ]
        refine wpAnyH_take (i := 2) (oi := { dst := some 16, op := Op.move (Operand.tmp 6), type := 3, pos := "json.go:232", after := #[], guard := none }) (v := ?_) rfl (by kernel_rfl) (by kernel_rfl) (by kernel_rfl) (fun _ _ _ h => h) (Or.inl ⟨by rfl, ?_⟩) (by assumption) ?_
        rotate_left
        · intro wz hSw
          try dsimp only at hSw
          go_simp
          try with_reducible rfl
        try simp only [Act.put, List.setIfInBounds_toArray, List.set_cons_zero, List.set_cons_succ]
        refine wpAnyH_take (i := 3) (oi := { dst := some 17, op := Op.indexAddr 30 (Operand.tmp 15) (Operand.tmp 16), type := 0, pos := "json.go:232", after := #[{ on := 1, ground := Ground.data }, { on := 2, ground := Ground.data }], guard := none }) (v := ?_) rfl (by kernel_rfl) (by kernel_rfl) (by kernel_rfl) (fun _ _ _ h => h) (Or.inl ⟨by rfl, ?_⟩) (by assumption) ?_
        rotate_left
        · intro wz hSw
          try dsimp only at hSw
          go_simp
          try with_reducible rfl
        try simp only [Act.put, List.setIfInBounds_toArray, List.set_cons_zero, List.set_cons_succ]
        refine wpAnyH_take (i := 4) (oi := { dst := some 18, op := Op.load 47 (Operand.tmp 17), type := 47, pos := "json.go:232", after := #[{ on := 3, ground := Ground.data }], guard := none }) (v := ?_) rfl (by kernel_rfl) (by kernel_rfl) (by kernel_rfl) (fun _ _ _ h => h) (Or.inl ⟨by rfl, ?_⟩) (by assumption) ?_
        rotate_left
        · intro wz hSw
          try dsimp only at hSw
          go_simp
          try with_reducible rfl
        try simp only [Act.put, List.setIfInBounds_toArray, List.set_cons_zero, List.set_cons_succ]
        refine wpAnyH_ready (rs := [5]) (by kernel_rfl) (by simp) (AllReadyH.cons (o := { dst := some 19, op := Op.call { callee := Callee.value (Operand.func 14), args := #[Operand.tmp 14, Operand.tmp 18], argTypes := #[29, 47] }, type := 3, pos := "json.go:232", after := #[{ on := 0, ground := Ground.data }, { on := 4, ground := Ground.data }], guard := none }) rfl (fun K hK => ?_) AllReadyH.nil)
        go_simp
        go_at_call 14
        refine Calls.mono (EI _ (hbw.drew)) ?_
        rintro e w5 ⟨rfl, b1⟩
        go_wp2_with fail
        refine hK.out _ _ (keep9 (by assumption) b1) (fun hHeld5 => ?_)
        clear hK K
        try simp only [Act.put, List.setIfInBounds_toArray, List.set_cons_zero, List.set_cons_succ]
        refine wpAnyH_take (i := 6) (oi := { dst := some 7, op := Op.assign (Operand.tmp 19), type := 3, pos := "json.go:232", after := #[{ on := 5, ground := Ground.data }, { on := 5, ground := Ground.chain }, { on := 0, ground := Ground.phase }, { on := 1, ground := Ground.phase }, { on := 2, ground := Ground.phase }, { on := 3, ground := Ground.phase }, { on := 4, ground := Ground.phase }, { on := 5, ground := Ground.phase }], guard := none }) (v := ?_) rfl (by kernel_rfl) (by kernel_rfl) (by kernel_rfl) (fun _ _ _ h => h) (Or.inl ⟨by rfl, ?_⟩) (by assumption) ?_
        rotate_left
        · intro wz hSw
          try dsimp only at hSw
          go_simp
          try with_reducible rfl
        try simp only [Act.put, List.setIfInBounds_toArray, List.set_cons_zero, List.set_cons_succ]
        refine wpAnyH_done (by kernel_rfl) ?_ _
        refine NoPanic.normal ?_
        have HB1 : Hid (Below w.heap.size w w5) := hbw.drew.trans (b1.mono hbw.drew.size)
        have HY1 : Hid (w5.heap[w.heap.size + 1]? = some _) := (b1.block _ (lt_of_heap HY.out)).trans HY.out
        clear hHeld hHeld5 b1 EI k0 k1 k2 k3 k4 k5 k6 y0 y1 hbw
        have z0 : w5.cell? ⟨w.heap.size + 1, 0, none⟩ = some (.int .i64 0) := Lib.cell_of_heap HY1.out 0
        have z1 : w5.cell? ⟨w.heap.size + 1, 1, none⟩ = some (.int .i64 0) := Lib.cell_of_heap HY1.out 1
        have z2 : w5.cell? ⟨w.heap.size + 1, 2, none⟩ = some (.string ⟨#[]⟩) := Lib.cell_of_heap HY1.out 2
        have z3 : w5.cell? ⟨w.heap.size + 1, 3, none⟩ = some (.int .i64 0) := Lib.cell_of_heap HY1.out 3
        have z4 : w5.cell? ⟨w.heap.size + 1, 4, none⟩ = some (.int .i64 0) := Lib.cell_of_heap HY1.out 4
        have z5 : w5.cell? ⟨w.heap.size + 1, 5, none⟩ = some (.slice none 0 0) := Lib.cell_of_heap HY1.out 5
        have z6 : w5.cell? ⟨w.heap.size + 1, 6, none⟩ = some (.slice none 0 0) := Lib.cell_of_heap HY1.out 6
        have zf := Lib.frozen_of_heap HY1.out
        go_wp2
        have hBF := set7_below HB1.out (Nat.le_succ w.heap.size) (.int .i64 0) (.int .i64 0) (.string ⟨#[]⟩) (.int .i64 0) (.int .i64 0) (.slice none 0 0) (.slice none 0 0)
        have hF := set7 HY1.out (.int .i64 0) (.int .i64 0) (.string ⟨#[]⟩) (.int .i64 0) (.int .i64 0) (.slice none 0 0) (.slice none 0 0)
        clear z0 z1 z2 z3 z4 z5 z6 zf
        generalize ((((((w5.setCell ⟨w.heap.size + 1, 0, none⟩ (.int .i64 0)).setCell ⟨w.heap.size + 1, 1, none⟩ (.int .i64 0)).setCell ⟨w.heap.size + 1, 2, none⟩ (.string ⟨#[]⟩)).setCell ⟨w.heap.size + 1, 3, none⟩ (.int .i64 0)).setCell ⟨w.heap.size + 1, 4, none⟩ (.int .i64 0)).setCell ⟨w.heap.size + 1, 5, none⟩ (.slice none 0 0)).setCell ⟨w.heap.size + 1, 6, none⟩ (.slice none 0 0) = W at *
        obtain ⟨q0, q1, q2, q3, q4, q5, q6⟩ := tboxed (u := (⟨0, 0, ⟨#[]⟩, 0, 0⟩, .slice none 0 0, .slice none 0 0)) hF
        dsimp only at q0 q1 q2 q3 q4 q5 q6
        exact bodyPost_ret (v := .tuple #[zT, .bool false]) (by simp [results, Tryd.results6, go_sem, q0, q1, q2, q3, q4, q5, q6]) rfl ⟨Or.inr ⟨HR.out, rfl⟩, hBF⟩
      | some i =>
        have hi : i < Tj.ts.length := HLT.out i rfl
        have HR : Hid (getT T l = getT Tj.ts[i] (l.drop (j + 1))) := by
          show getT T l = _
          rw [HG.out, HD.out.1, getT, HST.out]
          simp [List.getElem?_eq_getElem hi]
        obtain ⟨z, hz⟩ : ∃ z : Int, z = i := ⟨_, rfl⟩
        simp only [show idxI (some i) = z from hz.symm] at EI
        have hiu : i < us.length := by have := HN.out.1; omega
        have hTi := HNI.out i hiu hi
        obtain ⟨N⟩ := hTi.node
        obtain ⟨e1, f1, e2, f2, us2, hu2, -, -, -, -, -, -⟩ := N
        have HTI : Hid (IsT w0 (tval us[i]) Tj.ts[i] ∧ formedB Tj.ts[i] = true) := ⟨hTi, HFN.out.2 _ (List.getElem_mem hi)⟩
        have g5 : z < Tj.ts.length := by omega
        have g6 : ¬ z < 0 := by omega
        have g8 : 0 ≤ z := by omega
        have gz : z.toNat = i := by omega
        clear hTi hz
        go_wp2
        refine wp_region_noPanic ?_
        refine wp_region_held_drew (S := fun W => W.cell? ⟨w.heap.size, 0, none⟩ = some (.int .i64 xk) ∧ W.cell? ⟨w.heap.size, 1, none⟩ = some (.int .i64 xn) ∧ W.cell? ⟨w.heap.size, 2, none⟩ = some (.string xt) ∧ W.cell? ⟨w.heap.size, 3, none⟩ = some (.int .i64 xo) ∧ W.cell? ⟨w.heap.size, 4, none⟩ = some (.int .i64 xa) ∧ W.cell? ⟨w.heap.size, 5, none⟩ = some (.slice a1 n1 c1) ∧ W.cell? ⟨w.heap.size, 6, none⟩ = some (.slice a2 Tj.ts.length c2) ∧ W.cell? ⟨b, off + j * 2, none⟩ = some (.string sb) ∧ W.cell? ⟨b, off + j * 2 + 1, none⟩ = some (.int .i64 si)) (by kernel_rfl) (⟨k0, k1, k2, k3, k4, k5, k6, y0, y1⟩) (fun hHeld => ?_)
        refine wpAnyH_take (i := 0) (oi := { dst := some 14, op := Op.load 29 (Operand.tmp 2), type := 29, pos := "json.go:232", after := #[], guard := none }) (v := ?_) rfl (by kernel_rfl) (by kernel_rfl) (by kernel_rfl) (fun _ _ _ h => h) (Or.inl ⟨by rfl, ?_⟩) (by assumption) ?_
        rotate_left
        · intro wz hSw
          try dsimp only at hSw
          go_simp
          try with_reducible rfl
        try simp only [Act.put, List.setIfInBounds_toArray, List.set_cons_zero, List.set_cons_succ]
        refine wpAnyH_take (i := 1) (oi := { dst := some 15, op := Op.move (Operand.tmp 1), type := 30, pos := "json.go:232", after := #[], guard := none }) (v := ?_) rfl (by kernel_rfl) (by kernel_rfl) (by kernel_rfl) (fun _ _ _ h => h) (Or.inl ⟨by rfl, ?_⟩) (by assumption) ?_
        rotate_left
        · intro wz hSw
          try dsimp only at hSw
          go_simp
          try with_reducible rfl
        try simp only [Act.put, List.setIfInBounds_toArray, List.set_cons_zero, List.set_cons_succ]
        refine wpAnyH_take (i := 2) (oi := { dst := some 16, op := Op.move (Operand.tmp 6), type := 3, pos := "json.go:232", after := #[], guard := none }) (v := ?_) rfl (by kernel_rfl) (by kernel_rfl) (by kernel_rfl) (fun _ _ _ h => h) (Or.inl ⟨by rfl, ?_⟩) (by assumption) ?_
        rotate_left
        · intro wz hSw
          try dsimp only at hSw
          go_simp
          try with_reducible rfl
        try simp only [Act.put, List.setIfInBounds_toArray, List.set_cons_zero, List.set_cons_succ]
        refine wpAnyH_take (i := 3) (oi := { dst := some 17, op := Op.indexAddr 30 (Operand.tmp 15) (Operand.tmp 16), type := 0, pos := "json.go:232", after := #[{ on := 1, ground := Ground.data }, { on := 2, ground := Ground.data }], guard := none }) (v := ?_) rfl (by kernel_rfl) (by kernel_rfl) (by kernel_rfl) (fun _ _ _ h => h) (Or.inl ⟨by rfl, ?_⟩) (by assumption) ?_
        rotate_left
        · intro wz hSw
          try dsimp only at hSw
          go_simp
          try with_reducible rfl
        try simp only [Act.put, List.setIfInBounds_toArray, List.set_cons_zero, List.set_cons_succ]
        refine wpAnyH_take (i := 4) (oi := { dst := some 18, op := Op.load 47 (Operand.tmp 17), type := 47, pos := "json.go:232", after := #[{ on := 3, ground := Ground.data }], guard := none }) (v := ?_) rfl (by kernel_rfl) (by kernel_rfl) (by kernel_rfl) (fun _ _ _ h => h) (Or.inl ⟨by rfl, ?_⟩) (by assumption) ?_
        rotate_left
        · intro wz hSw
          try dsimp only at hSw
          go_simp
          try with_reducible rfl
        try simp only [Act.put, List.setIfInBounds_toArray, List.set_cons_zero, List.set_cons_succ]
        refine wpAnyH_ready (rs := [5]) (by kernel_rfl) (by simp) (AllReadyH.cons (o := { dst := some 19, op := Op.call { callee := Callee.value (Operand.func 14), args := #[Operand.tmp 14, Operand.tmp 18], argTypes := #[29, 47] }, type := 3, pos := "json.go:232", after := #[{ on := 0, ground := Ground.data }, { on := 4, ground := Ground.data }], guard := none }) rfl (fun K hK => ?_) AllReadyH.nil)
        go_simp
        go_at_call 14
        refine Calls.mono (EI _ (hbw.drew)) ?_
        rintro e w5 ⟨rfl, b1⟩
        go_wp2_with fail
        refine hK.out _ _ (keep9 (by assumption) b1) (fun hHeld5 => ?_)
        clear hK K
        try simp only [Act.put, List.setIfInBounds_toArray, List.set_cons_zero, List.set_cons_succ]
        refine wpAnyH_take (i := 6) (oi := { dst := some 7, op := Op.assign (Operand.tmp 19), type := 3, pos := "json.go:232", after := #[{ on := 5, ground := Ground.data }, { on := 5, ground := Ground.chain }, { on := 0, ground := Ground.phase }, { on := 1, ground := Ground.phase }, { on := 2, ground := Ground.phase }, { on := 3, ground := Ground.phase }, { on := 4, ground := Ground.phase }, { on := 5, ground := Ground.phase }], guard := none }) (v := ?_) rfl (by kernel_rfl) (by kernel_rfl) (by kernel_rfl) (fun _ _ _ h => h) (Or.inl ⟨by rfl, ?_⟩) (by assumption) ?_
        rotate_left
        · intro wz hSw
          try dsimp only at hSw
          go_simp
          try with_reducible rfl
        try simp only [Act.put, List.setIfInBounds_toArray, List.set_cons_zero, List.set_cons_succ]
        refine wpAnyH_done (by kernel_rfl) ?_ _
        refine NoPanic.normal ?_
        have HB1 : Hid (Below w.heap.size w w5) := hbw.drew.trans (b1.mono hbw.drew.size)
        have HX1 : Hid (w5.heap[w.heap.size]? = some _) := (b1.block _ (lt_of_heap HX.out)).trans HX.out
        have HY1 : Hid (w5.heap[w.heap.size + 1]? = some _) := (b1.block _ (lt_of_heap HY.out)).trans HY.out
        clear hHeld hHeld5 b1 EI k0 k1 k2 k3 k4 k5 k6 y0 y1 hbw
        obtain ⟨k0, k1, k2, k3, k4, k5, k6⟩ := tboxed (u := (⟨xk, xn, xt, xo, xa⟩, .slice a1 n1 c1, .slice a2 Tj.ts.length c2)) HX1.out
        have kf := Lib.frozen_of_heap HX1.out
        obtain ⟨b2, off2, rfl, hb2, m0, m1, m2, m3, m4, m5, m6⟩ := HNR.out.cells (HW0.out.trans (HB1.out.mono HW0.out.size)) i hiu _ hu2
        dsimp only at k0 k1 k2 k3 k4 k5 k6 m0 m1 m2 m3 m4 m5 m6
        rw [hu2] at HTI
        generalize Tj.ts[i] = Ti at *
        clear hu2 hiu hi
        generalize Ti.x = xi at *
        obtain ⟨xik, xin, xit, xio, xia⟩ := xi
        dsimp only at m0 m1 m2 m3 m4
        clear g3
        go_upto_region 7 with fail
        have g3 : (j : Int) < 8796093022208 := by have := HZ.out; have := HD.out.2; omega
        go_wp2
        go_roundw
        case rel =>
          refine ⟨j + 1, Ti, _, HD.out.2, by go_num, HR, HTI, ?_, ?_, ?_⟩
          · exact set7 HX1.out _ _ _ _ _ _ _
          · exact set7_other HY1.out (by omega) _ _ _ _ _ _ _
          · exact set7_below HB1.out (Nat.le_refl _) _ _ _ _ _ _ _
        case measure => simp [RowKit.intOf]; have := HD.out.2; omega
    · have g1 : ¬ (j : Int) < l.length := by omega
      have HR : Hid (getT T l = some Tj) := by
        show getT T l = _
        rw [HG.out, List.drop_eq_nil_of_le (by omega), getT]
      obtain ⟨N⟩ := HTj.out.1.node
      obtain ⟨a1, c1, a2, c2, us, hu, -, -, -, -, -, -⟩ := N
      subst hu
      obtain ⟨k0, k1, k2, k3, k4, k5, k6⟩ := tboxed (u := (Tj.x, .slice a1 Tj.ks.length c1, .slice a2 Tj.ts.length c2)) HX.out
      dsimp only at k0 k1 k2 k3 k4 k5 k6
      have z0 : wr.cell? ⟨w.heap.size + 1, 0, none⟩ = some (.int .i64 0) := Lib.cell_of_heap HY.out 0
      have z1 : wr.cell? ⟨w.heap.size + 1, 1, none⟩ = some (.int .i64 0) := Lib.cell_of_heap HY.out 1
      have z2 : wr.cell? ⟨w.heap.size + 1, 2, none⟩ = some (.string ⟨#[]⟩) := Lib.cell_of_heap HY.out 2
      have z3 : wr.cell? ⟨w.heap.size + 1, 3, none⟩ = some (.int .i64 0) := Lib.cell_of_heap HY.out 3
      have z4 : wr.cell? ⟨w.heap.size + 1, 4, none⟩ = some (.int .i64 0) := Lib.cell_of_heap HY.out 4
      have z5 : wr.cell? ⟨w.heap.size + 1, 5, none⟩ = some (.slice none 0 0) := Lib.cell_of_heap HY.out 5
      have z6 : wr.cell? ⟨w.heap.size + 1, 6, none⟩ = some (.slice none 0 0) := Lib.cell_of_heap HY.out 6
      have zf := Lib.frozen_of_heap HY.out
      have hBF := set7_below HB.out (Nat.le_succ w.heap.size) (.int .i64 Tj.x.k) (.int .i64 Tj.x.n) (.string Tj.x.t) (.int .i64 Tj.x.o) (.int .i64 Tj.x.a) (.slice a1 Tj.ks.length c1) (.slice a2 Tj.ts.length c2)
      have HTT : Hid (IsT w0 (tval (Tj.x, .slice a1 Tj.ks.length c1, .slice a2 Tj.ts.length c2)) Tj) := HTj.out.1
      have HBF : Hid (Below w.heap.size w _) := hBF
      have HHF : Hid (_ = some _) := set7 HY.out (.int .i64 Tj.x.k) (.int .i64 Tj.x.n) (.string Tj.x.t) (.int .i64 Tj.x.o) (.int .i64 Tj.x.a) (.slice a1 Tj.ks.length c1) (.slice a2 Tj.ts.length c2)
      clear hBF hlt hj
      go_wp2
      clear z0 z1 z2 z3 z4 z5 z6 zf
      generalize ((((((wr.setCell ⟨w.heap.size + 1, 0, none⟩ (.int .i64 Tj.x.k)).setCell ⟨w.heap.size + 1, 1, none⟩ (.int .i64 Tj.x.n)).setCell ⟨w.heap.size + 1, 2, none⟩ (.string Tj.x.t)).setCell ⟨w.heap.size + 1, 3, none⟩ (.int .i64 Tj.x.o)).setCell ⟨w.heap.size + 1, 4, none⟩ (.int .i64 Tj.x.a)).setCell ⟨w.heap.size + 1, 5, none⟩ (.slice a1 Tj.ks.length c1)).setCell ⟨w.heap.size + 1, 6, none⟩ (.slice a2 Tj.ts.length c2) = W at *
      obtain ⟨q0, q1, q2, q3, q4, q5, q6⟩ := tboxed (u := (Tj.x, .slice a1 Tj.ks.length c1, .slice a2 Tj.ts.length c2)) HHF.out
      dsimp only at q0 q1 q2 q3 q4 q5 q6
      exact bodyPost_ret (v := .tuple #[tval (Tj.x, .slice a1 Tj.ks.length c1, .slice a2 Tj.ts.length c2), .bool true]) (by simp [tval, results, Tryd.results6, go_sem, q0, q1, q2, q3, q4, q5, q6]) rfl ⟨Or.inl ⟨Tj, _, HR.out, rfl, HTT.out⟩, HBF.out⟩
end Go.Proofs.YtemannmcjioimaaDoor
