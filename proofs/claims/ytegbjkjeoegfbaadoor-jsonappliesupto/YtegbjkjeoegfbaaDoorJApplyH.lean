/-
  What is proved: bookref3's Apply, called with a tree and patches, does them one after the other, or tells why one is not done.
  Conditions: the tree, the patches and their paths lie in memory.
-/
import Derived.Test.YtegbjkjeoegfbaaDoorGPat
import Derived.Laws.EntriesVeiled
namespace Go.Proofs.YtegbjkjeoegfbaaDoor
open Go.RowKit Go.Sort

/-- What bookref3's Apply answers. -/
def ApplyH (w : World) (T : JT) (L : List Pch) (e : Ending) : Prop :=
  (∃ T' u', e = .returned (.tuple #[tval u', .int .i64 0]) ∧ chkT T = 0 ∧ DoneK T L T' ∧ IsT w (tval u') T') ∨ (∃ c : Int, e = .returned (.tuple #[zT, .int .i64 c]) ∧ ((chkT T ≠ 0 ∧ c = chkT T) ∨ (chkT T = 0 ∧ FailK T L c)))
/-- What holds ahead of each patch. -/
structure AheadH (w : World) (T : JT) (L : List Pch) (j : Nat) (Tj : JT) (uj : TV) (wr : World) : Prop where
  box : wr.heap[w.heap.size]? = some (.cells #[.int .i64 uj.1.k, .int .i64 uj.1.n, .string uj.1.t, .int .i64 uj.1.o, .int .i64 uj.1.a, uj.2.1, uj.2.2] 29)
  zero : wr.heap[w.heap.size + 1]? = some (.cells #[.int .i64 0, .int .i64 0, .string ⟨#[]⟩, .int .i64 0, .int .i64 0, .slice none 0 0, .slice none 0 0] 29)
  tree : IsTP (fun b => b < w.heap.size ∨ w.heap.size + 2 ≤ b) wr (tval uj) Tj
  formed : formedB Tj = true
  small : Tj.size ≤ 400
  below : Below w.heap.size w wr
  done : ∀ T', DoneK Tj (L.drop j) T' → DoneK T L T'
  fail : ∀ c, FailK Tj (L.drop j) c → FailK T L c
theorem formed_leaf (y : V) : formedB (leafT y) = valB y := by
  cases h : valB y with
  | true => exact leaf_formed h
  | false =>
    cases h2 : formedB (leafT y) with
    | false => rfl
    | true =>
      have h3 := ((formed_iff (leafT y)).1 h2).1
      unfold nodeB at h3
      rw [Bool.and_eq_true] at h3
      have h4 : valB y = true := h3.1
      rw [h] at h4
      cases h4

set_option maxRecDepth 100000 in
set_option maxHeartbeats 8000000 in
theorem applyH_any {v p : Value} {T : JT} {L : List Pch} (w : World) (h : IsT w v T) (hp : IsPats w p L) :
    Calls Tryd.prog 4 #[v, p] w fun e w' => ApplyH w' T L e ∧ Below w.heap.size w w' := by
  obtain ⟨u, rfl⟩ := h.of_val
  obtain ⟨N⟩ := h.node
  obtain ⟨a1, c1, a2, c2, us, hu, -, -, -, -, -, -⟩ := N
  subst hu
  obtain ⟨qa, qc, rfl, hq1, hq2, hq3⟩ := hp
  have HQ : Hid (L ≠ [] → ∃ b off, qa = some ⟨b, off, none⟩ ∧ b < w.heap.size ∧ ∀ i (h : i < L.length), ∃ p, IsSteps w p L[i].2.1 ∧ ∀ j, j < 7 → w.cell? ⟨b, off + i * 7 + j, none⟩ = (pcells L[i] p)[j]?) := hq3
  have HQZ : Hid (L.length ≤ qc ∧ L.length ≤ 8796093022208) := ⟨hq1, hq2⟩
  obtain ⟨X0, Y0, b0⟩ := two_boxes w (.cells #[.int .i64 T.x.k, .int .i64 T.x.n, .string T.x.t, .int .i64 T.x.o, .int .i64 T.x.a, .slice a1 T.ks.length c1, .slice a2 T.ts.length c2] 29) (.cells #[.int .i64 0, .int .i64 0, .string ⟨#[]⟩, .int .i64 0, .int .i64 0, .slice none 0 0, .slice none 0 0] 29)
  have E1 := checkH_any _ (h.stay b0)
  have HT : Hid (IsT w (tval (T.x, .slice a1 T.ks.length c1, .slice a2 T.ts.length c2)) T) := h
  have HZ : Hid (chkT T = 0 → formedB T = true ∧ T.size ≤ 400) := chkT_zero
  have HX : Hid (_ = some (Obj.cells #[.int .i64 T.x.k, .int .i64 T.x.n, .string T.x.t, .int .i64 T.x.o, .int .i64 T.x.a, .slice a1 T.ks.length c1, .slice a2 T.ts.length c2] 29)) := X0
  have HY : Hid (_ = some (Obj.cells #[.int .i64 0, .int .i64 0, .string ⟨#[]⟩, .int .i64 0, .int .i64 0, .slice none 0 0, .slice none 0 0] 29)) := Y0
  have HB : Hid (Below w.heap.size w _) := b0
  obtain ⟨post, hpost⟩ : ∃ post, post = fun (e : Ending) (w' : World) => ApplyH w' T L e ∧ Below w.heap.size w w' := ⟨_, rfl⟩
  rw [← hpost]
  have HPO : Hid (post = fun (e : Ending) (w' : World) => ApplyH w' T L e ∧ Below w.heap.size w w') := hpost
  clear h hq1 hq2 hq3 X0 Y0 b0 hpost
  obtain ⟨pn, hpn⟩ : ∃ pn, pn = L.length := ⟨_, rfl⟩
  have HPN : Hid (pn = L.length) := hpn
  rw [← hpn]
  clear hpn
  unfold tval at E1 ⊢
  dsimp only at E1 ⊢
  obtain ⟨ct, hct⟩ : ∃ ct, chkT T = ct := ⟨_, rfl⟩
  have HCT : Hid (chkT T = ct) := hct
  rw [hct] at E1
  clear hct
  by_cases hc : ct = 0
  · subst hc
    have HC : Hid (chkT T = 0) := HCT.out
    go_enter Tryd.func4, Tryd.ntmps4
    go_wp2_with fail
    go_fit E1
    rintro e w1 ⟨rfl, b1⟩
    have HR : Hid (AheadH w T L 0 T (T.x, .slice a1 T.ks.length c1, .slice a2 T.ts.length c2) w1) := by
      have hb1 := HB.out.trans (b1.mono HB.out.size)
      exact ⟨(b1.block _ (lt_of_heap HX.out)).trans HX.out, (b1.block _ (lt_of_heap HY.out)).trans HY.out, HT.out.kind.move hb1.size (fun b h1 _ => hb1.block b h1) (fun _ h => Or.inl h), (HZ.out HC.out).1, (HZ.out HC.out).2, hb1, fun _ h => h, fun _ h => h⟩
    clear b1 E1 HX HY HB
    go_wp2_with fail
    go_loopw [7, 8, 9, 10, 11, 12] (fun i _ _ _ _ _ wr => ∃ (j : Nat) (Tj : JT) (uj : TV), j ≤ pn ∧ i = .int .i64 j ∧ Hid (AheadH w T L j Tj uj wr)) (fun i _ _ _ _ _ _ => pn - (RowKit.intOf i).toNat)
    case atStart => exact ⟨0, T, _, Nat.zero_le _, rfl, HR⟩
    case round =>
      clear HR
      obtain ⟨j, Tj, uj, hj, rfl, HA⟩ := hrel
      obtain ⟨⟨xk, xn, xt, xo, xa⟩, x1, x2, x3, x4, x5, x6, huj⟩ := HA.out.tree.plain.parts
      subst huj
      by_cases hlt : j < pn
      · have g1 : (j : Int) < pn := by omega
        have hjL : j < L.length := by have := HPN.out; omega
        have HJL : Hid (j < L.length) := hjL
        have hL : L ≠ [] := fun e => by rw [e] at hjL; simp at hjL
        obtain ⟨qb, qo, rfl, hqb, hmem⟩ := HQ.out hL
        obtain ⟨pp, hsteps, hcells⟩ := hmem j hjL
        obtain ⟨pa, pl, pc, rfl⟩ : ∃ pa pl pc, pp = .slice pa pl pc := by obtain ⟨a, c, e, _⟩ := hsteps; exact ⟨_, _, _, e⟩
        obtain ⟨q, hq⟩ : ∃ q, L[j]'hjL = q := ⟨_, rfl⟩
        have HQJ : Hid (L[j]'HJL.out = q) := hq
        rw [hq] at hcells hsteps
        clear hq
        obtain ⟨pk, l, yk, yn, yt, yo, ya⟩ := q
        have HST : Hid (IsSteps w (.slice pa pl pc) l) := hsteps
        have HPL : Hid (pl = l.length ∧ l.length ≤ pc ∧ l.length ≤ 8796093022208) := by
          obtain ⟨_, _, e, h1, h2, _⟩ := hsteps
          obtain ⟨e1, e2, e3⟩ := Value.slice.inj e
          subst e3
          exact ⟨e2, h1, h2⟩
        have HCW : Hid (∀ W, Below w.heap.size w W → W.cell? ⟨qb, qo + j * 7, none⟩ = some (.int .i64 pk) ∧ W.cell? ⟨qb, qo + j * 7 + 1, none⟩ = some (.slice pa pl pc) ∧ W.cell? ⟨qb, qo + j * 7 + 2, none⟩ = some (.int .i64 yk) ∧ W.cell? ⟨qb, qo + j * 7 + 3, none⟩ = some (.int .i64 yn) ∧ W.cell? ⟨qb, qo + j * 7 + 4, none⟩ = some (.string yt) ∧ W.cell? ⟨qb, qo + j * 7 + 5, none⟩ = some (.int .i64 yo) ∧ W.cell? ⟨qb, qo + j * 7 + 6, none⟩ = some (.int .i64 ya)) := by
          intro W hW
          have hc : ∀ d, W.cell? ⟨qb, d, none⟩ = w.cell? ⟨qb, d, none⟩ := fun d => hW.cell (p := ⟨qb, d, none⟩) hqb
          exact ⟨(hc _).trans (hcells 0 (by decide)), (hc _).trans (hcells 1 (by decide)), (hc _).trans (hcells 2 (by decide)), (hc _).trans (hcells 3 (by decide)), (hc _).trans (hcells 4 (by decide)), (hc _).trans (hcells 5 (by decide)), (hc _).trans (hcells 6 (by decide))⟩
        have HLT : Hid (j < pn ∧ j ≤ pn) := ⟨hlt, hj⟩
        obtain ⟨vb, HVB⟩ : ∃ vb, Hid (valB ⟨yk, yn, yt, yo, ya⟩ = vb) := ⟨_, rfl⟩
        have E2 := formed_any (leafP (fun _ => True) wr ⟨yk, yn, yt, yo, ya⟩).plain wr (Below.refl _ _)
        rw [formed_leaf, HVB.out] at E2
        unfold tval at E2
        dsimp only [leafV] at E2
        clear hsteps hcells hmem hqb hL hjL hlt hj
        obtain ⟨q0, q1, q2, q3, q4, q5, q6⟩ := HCW.out wr HA.out.below
        go_wp2_with fail
        go_fit E2
        rintro e w2 ⟨rfl, b2⟩
        clear E2 q0 q1 q2 q3 q4 q5 q6
        have HX2 : Hid (w2.heap[w.heap.size]? = some (.cells #[.int .i64 xk, .int .i64 xn, .string xt, .int .i64 xo, .int .i64 xa, .slice x1 x2 x3, .slice x4 x5 x6] 29)) := (b2.block _ (lt_of_heap HA.out.box)).trans HA.out.box
        have HZ2 : Hid (w2.heap[w.heap.size + 1]? = some (.cells #[.int .i64 0, .int .i64 0, .string ⟨#[]⟩, .int .i64 0, .int .i64 0, .slice none 0 0, .slice none 0 0] 29)) := (b2.block _ (lt_of_heap HA.out.zero)).trans HA.out.zero
        have HB2 : Hid (Below w.heap.size w w2) := HA.out.below.trans (b2.mono HA.out.below.size)
        have HT2 : Hid (IsTP (fun b => b < w.heap.size ∨ w.heap.size + 2 ≤ b) w2 (tval (⟨xk, xn, xt, xo, xa⟩, .slice x1 x2 x3, .slice x4 x5 x6)) Tj) := HA.out.tree.move b2.size (fun b _ h2 => b2.block b h2) (fun _ h => h)
        clear b2
        obtain ⟨q0, q1, q2, q3, q4, q5, q6⟩ := HCW.out w2 HB2.out
        by_cases h1 : pk < 1
        · have HK9 : Hid (pk < 1) := h1
          have z0 : w2.cell? ⟨w.heap.size + 1, 0, none⟩ = some (.int .i64 0) := Lib.cell_of_heap HZ2.out 0
          have z1 : w2.cell? ⟨w.heap.size + 1, 1, none⟩ = some (.int .i64 0) := Lib.cell_of_heap HZ2.out 1
          have z2 : w2.cell? ⟨w.heap.size + 1, 2, none⟩ = some (.string ⟨#[]⟩) := Lib.cell_of_heap HZ2.out 2
          have z3 : w2.cell? ⟨w.heap.size + 1, 3, none⟩ = some (.int .i64 0) := Lib.cell_of_heap HZ2.out 3
          have z4 : w2.cell? ⟨w.heap.size + 1, 4, none⟩ = some (.int .i64 0) := Lib.cell_of_heap HZ2.out 4
          have z5 : w2.cell? ⟨w.heap.size + 1, 5, none⟩ = some (.slice none 0 0) := Lib.cell_of_heap HZ2.out 5
          have z6 : w2.cell? ⟨w.heap.size + 1, 6, none⟩ = some (.slice none 0 0) := Lib.cell_of_heap HZ2.out 6
          have zf := Lib.frozen_of_heap HZ2.out
          have HBF : Hid (Below w.heap.size w _) := set7_below HB2.out (Nat.le_succ w.heap.size) (.int .i64 0) (.int .i64 0) (.string ⟨#[]⟩) (.int .i64 0) (.int .i64 0) (.slice none 0 0) (.slice none 0 0)
          have HHF : Hid (_ = some _) := set7 HZ2.out (.int .i64 0) (.int .i64 0) (.string ⟨#[]⟩) (.int .i64 0) (.int .i64 0) (.slice none 0 0) (.slice none 0 0)
          go_wp2
          clear z0 z1 z2 z3 z4 z5 z6 zf
          generalize ((((((w2.setCell ⟨w.heap.size + 1, 0, none⟩ (.int .i64 0)).setCell ⟨w.heap.size + 1, 1, none⟩ (.int .i64 0)).setCell ⟨w.heap.size + 1, 2, none⟩ (.string ⟨#[]⟩)).setCell ⟨w.heap.size + 1, 3, none⟩ (.int .i64 0)).setCell ⟨w.heap.size + 1, 4, none⟩ (.int .i64 0)).setCell ⟨w.heap.size + 1, 5, none⟩ (.slice none 0 0)).setCell ⟨w.heap.size + 1, 6, none⟩ (.slice none 0 0) = VV at *
          obtain ⟨v0, v1, v2, v3, v4, v5, v6⟩ := tboxed (u := (⟨0, 0, ⟨#[]⟩, 0, 0⟩, .slice none 0 0, .slice none 0 0)) HHF.out
          dsimp only at v0 v1 v2 v3 v4 v5 v6
          refine bodyPost_ret (v := .tuple #[zT, .int .i64 1]) (by simp [results, Tryd.results4, go_sem, v0, v1, v2, v3, v4, v5, v6]) rfl ?_
          rw [HPO.out]
          exact ⟨Or.inr ⟨1, rfl, Or.inr ⟨HC.out, HA.out.fail _ (fail_here HJL.out (by rw [HQJ.out]; exact Or.inl ⟨rfl, by unfold patK; rw [decide_eq_false (by have := HK9.out; omega)]; rfl⟩))⟩⟩, HBF.out⟩
        · have HK1 : Hid (¬ pk < 1) := h1
          by_cases h3 : 3 < pk
          · have HK9 : Hid (3 < pk) := h3
            have z0 : w2.cell? ⟨w.heap.size + 1, 0, none⟩ = some (.int .i64 0) := Lib.cell_of_heap HZ2.out 0
            have z1 : w2.cell? ⟨w.heap.size + 1, 1, none⟩ = some (.int .i64 0) := Lib.cell_of_heap HZ2.out 1
            have z2 : w2.cell? ⟨w.heap.size + 1, 2, none⟩ = some (.string ⟨#[]⟩) := Lib.cell_of_heap HZ2.out 2
            have z3 : w2.cell? ⟨w.heap.size + 1, 3, none⟩ = some (.int .i64 0) := Lib.cell_of_heap HZ2.out 3
            have z4 : w2.cell? ⟨w.heap.size + 1, 4, none⟩ = some (.int .i64 0) := Lib.cell_of_heap HZ2.out 4
            have z5 : w2.cell? ⟨w.heap.size + 1, 5, none⟩ = some (.slice none 0 0) := Lib.cell_of_heap HZ2.out 5
            have z6 : w2.cell? ⟨w.heap.size + 1, 6, none⟩ = some (.slice none 0 0) := Lib.cell_of_heap HZ2.out 6
            have zf := Lib.frozen_of_heap HZ2.out
            have HBF : Hid (Below w.heap.size w _) := set7_below HB2.out (Nat.le_succ w.heap.size) (.int .i64 0) (.int .i64 0) (.string ⟨#[]⟩) (.int .i64 0) (.int .i64 0) (.slice none 0 0) (.slice none 0 0)
            have HHF : Hid (_ = some _) := set7 HZ2.out (.int .i64 0) (.int .i64 0) (.string ⟨#[]⟩) (.int .i64 0) (.int .i64 0) (.slice none 0 0) (.slice none 0 0)
            go_wp2
            clear z0 z1 z2 z3 z4 z5 z6 zf
            generalize ((((((w2.setCell ⟨w.heap.size + 1, 0, none⟩ (.int .i64 0)).setCell ⟨w.heap.size + 1, 1, none⟩ (.int .i64 0)).setCell ⟨w.heap.size + 1, 2, none⟩ (.string ⟨#[]⟩)).setCell ⟨w.heap.size + 1, 3, none⟩ (.int .i64 0)).setCell ⟨w.heap.size + 1, 4, none⟩ (.int .i64 0)).setCell ⟨w.heap.size + 1, 5, none⟩ (.slice none 0 0)).setCell ⟨w.heap.size + 1, 6, none⟩ (.slice none 0 0) = VV at *
            obtain ⟨v0, v1, v2, v3, v4, v5, v6⟩ := tboxed (u := (⟨0, 0, ⟨#[]⟩, 0, 0⟩, .slice none 0 0, .slice none 0 0)) HHF.out
            dsimp only at v0 v1 v2 v3 v4 v5 v6
            refine bodyPost_ret (v := .tuple #[zT, .int .i64 1]) (by simp [results, Tryd.results4, go_sem, v0, v1, v2, v3, v4, v5, v6]) rfl ?_
            rw [HPO.out]
            exact ⟨Or.inr ⟨1, rfl, Or.inr ⟨HC.out, HA.out.fail _ (fail_here HJL.out (by rw [HQJ.out]; exact Or.inl ⟨rfl, by unfold patK; rw [decide_eq_false (by have := HK9.out; omega)]; rfl⟩))⟩⟩, HBF.out⟩
          · have HK3 : Hid (¬ 3 < pk) := h3
            cases vb with
            | false =>
              have z0 : w2.cell? ⟨w.heap.size + 1, 0, none⟩ = some (.int .i64 0) := Lib.cell_of_heap HZ2.out 0
              have z1 : w2.cell? ⟨w.heap.size + 1, 1, none⟩ = some (.int .i64 0) := Lib.cell_of_heap HZ2.out 1
              have z2 : w2.cell? ⟨w.heap.size + 1, 2, none⟩ = some (.string ⟨#[]⟩) := Lib.cell_of_heap HZ2.out 2
              have z3 : w2.cell? ⟨w.heap.size + 1, 3, none⟩ = some (.int .i64 0) := Lib.cell_of_heap HZ2.out 3
              have z4 : w2.cell? ⟨w.heap.size + 1, 4, none⟩ = some (.int .i64 0) := Lib.cell_of_heap HZ2.out 4
              have z5 : w2.cell? ⟨w.heap.size + 1, 5, none⟩ = some (.slice none 0 0) := Lib.cell_of_heap HZ2.out 5
              have z6 : w2.cell? ⟨w.heap.size + 1, 6, none⟩ = some (.slice none 0 0) := Lib.cell_of_heap HZ2.out 6
              have zf := Lib.frozen_of_heap HZ2.out
              have HBF : Hid (Below w.heap.size w _) := set7_below HB2.out (Nat.le_succ w.heap.size) (.int .i64 0) (.int .i64 0) (.string ⟨#[]⟩) (.int .i64 0) (.int .i64 0) (.slice none 0 0) (.slice none 0 0)
              have HHF : Hid (_ = some _) := set7 HZ2.out (.int .i64 0) (.int .i64 0) (.string ⟨#[]⟩) (.int .i64 0) (.int .i64 0) (.slice none 0 0) (.slice none 0 0)
              go_wp2
              clear z0 z1 z2 z3 z4 z5 z6 zf
              generalize ((((((w2.setCell ⟨w.heap.size + 1, 0, none⟩ (.int .i64 0)).setCell ⟨w.heap.size + 1, 1, none⟩ (.int .i64 0)).setCell ⟨w.heap.size + 1, 2, none⟩ (.string ⟨#[]⟩)).setCell ⟨w.heap.size + 1, 3, none⟩ (.int .i64 0)).setCell ⟨w.heap.size + 1, 4, none⟩ (.int .i64 0)).setCell ⟨w.heap.size + 1, 5, none⟩ (.slice none 0 0)).setCell ⟨w.heap.size + 1, 6, none⟩ (.slice none 0 0) = VV at *
              obtain ⟨v0, v1, v2, v3, v4, v5, v6⟩ := tboxed (u := (⟨0, 0, ⟨#[]⟩, 0, 0⟩, .slice none 0 0, .slice none 0 0)) HHF.out
              dsimp only at v0 v1 v2 v3 v4 v5 v6
              refine bodyPost_ret (v := .tuple #[zT, .int .i64 1]) (by simp [results, Tryd.results4, go_sem, v0, v1, v2, v3, v4, v5, v6]) rfl ?_
              rw [HPO.out]
              exact ⟨Or.inr ⟨1, rfl, Or.inr ⟨HC.out, HA.out.fail _ (fail_here HJL.out (by rw [HQJ.out]; exact Or.inl ⟨rfl, by unfold patK; rw [HVB.out]; simp⟩))⟩⟩, HBF.out⟩
            | true =>
              go_wp2_with fail
              go_loopw [9] (fun k wr2 => ∃ m : Nat, m ≤ pl ∧ k = .int .i64 m ∧ Hid (∀ t (h : t < l.length), t < m → l[t].1.size ≤ 20) ∧ wr2 = w2) (fun k _ => pl - (RowKit.intOf k).toNat)
              case atStart => exact ⟨0, Nat.zero_le _, rfl, fun t _ h => absurd h (Nat.not_lt_zero _), rfl⟩
              case round =>
                obtain ⟨m, hm, rfl, HSH, hw2⟩ := hrel
                replace hw2 := hw2.symm
                subst hw2
                by_cases hml : m < pl
                · have g2 : (m : Int) < pl := by omega
                  have hmL : m < l.length := by have := HPL.out.1; omega
                  obtain ⟨pb, po, rfl, hpb4, hmem2⟩ := HST.out.cells HB2.out (fun e => by rw [e] at hmL; simp at hmL)
                  have e0 := (hmem2 m hmL).1
                  obtain ⟨kj, hkj⟩ : ∃ kj, (l[m]'hmL).1 = kj := ⟨_, rfl⟩
                  rw [hkj] at e0
                  have HKJ : Hid ((l[m]'hmL).1 = kj ∧ m < l.length) := ⟨hkj, hmL⟩
                  have hsm : (m : Int) ≤ 8796093022208 := by have := HPL.out.2.2; omega
                  by_cases h20 : (20 : Int) < kj.size
                  · have HLG : Hid (patK pk l ⟨yk, yn, yt, yo, ya⟩ = false) := by
                      show _ = _
                      have h7 : l.any longB = true := by
                        rw [List.any_eq_true]
                        refine ⟨l[m]'hmL, List.getElem_mem hmL, ?_⟩
                        unfold longB
                        rw [hkj]
                        exact decide_eq_true (by omega)
                      unfold patK
                      rw [h7]
                      simp
                    clear hmem2 hpb4 hkj HKJ hmL
                    have z0 : w2.cell? ⟨w.heap.size + 1, 0, none⟩ = some (.int .i64 0) := Lib.cell_of_heap HZ2.out 0
                    have z1 : w2.cell? ⟨w.heap.size + 1, 1, none⟩ = some (.int .i64 0) := Lib.cell_of_heap HZ2.out 1
                    have z2 : w2.cell? ⟨w.heap.size + 1, 2, none⟩ = some (.string ⟨#[]⟩) := Lib.cell_of_heap HZ2.out 2
                    have z3 : w2.cell? ⟨w.heap.size + 1, 3, none⟩ = some (.int .i64 0) := Lib.cell_of_heap HZ2.out 3
                    have z4 : w2.cell? ⟨w.heap.size + 1, 4, none⟩ = some (.int .i64 0) := Lib.cell_of_heap HZ2.out 4
                    have z5 : w2.cell? ⟨w.heap.size + 1, 5, none⟩ = some (.slice none 0 0) := Lib.cell_of_heap HZ2.out 5
                    have z6 : w2.cell? ⟨w.heap.size + 1, 6, none⟩ = some (.slice none 0 0) := Lib.cell_of_heap HZ2.out 6
                    have zf := Lib.frozen_of_heap HZ2.out
                    have HBF : Hid (Below w.heap.size w _) := set7_below HB2.out (Nat.le_succ w.heap.size) (.int .i64 0) (.int .i64 0) (.string ⟨#[]⟩) (.int .i64 0) (.int .i64 0) (.slice none 0 0) (.slice none 0 0)
                    have HHF : Hid (_ = some _) := set7 HZ2.out (.int .i64 0) (.int .i64 0) (.string ⟨#[]⟩) (.int .i64 0) (.int .i64 0) (.slice none 0 0) (.slice none 0 0)
                    go_wp2
                    clear z0 z1 z2 z3 z4 z5 z6 zf
                    generalize ((((((w2.setCell ⟨w.heap.size + 1, 0, none⟩ (.int .i64 0)).setCell ⟨w.heap.size + 1, 1, none⟩ (.int .i64 0)).setCell ⟨w.heap.size + 1, 2, none⟩ (.string ⟨#[]⟩)).setCell ⟨w.heap.size + 1, 3, none⟩ (.int .i64 0)).setCell ⟨w.heap.size + 1, 4, none⟩ (.int .i64 0)).setCell ⟨w.heap.size + 1, 5, none⟩ (.slice none 0 0)).setCell ⟨w.heap.size + 1, 6, none⟩ (.slice none 0 0) = VV at *
                    obtain ⟨v0, v1, v2, v3, v4, v5, v6⟩ := tboxed (u := (⟨0, 0, ⟨#[]⟩, 0, 0⟩, .slice none 0 0, .slice none 0 0)) HHF.out
                    dsimp only at v0 v1 v2 v3 v4 v5 v6
                    refine bodyPost_ret (v := .tuple #[zT, .int .i64 1]) (by simp [results, Tryd.results4, go_sem, v0, v1, v2, v3, v4, v5, v6]) rfl ?_
                    rw [HPO.out]
                    exact ⟨Or.inr ⟨1, rfl, Or.inr ⟨HC.out, HA.out.fail _ (fail_here HJL.out (by rw [HQJ.out]; exact Or.inl ⟨rfl, HLG.out⟩))⟩⟩, HBF.out⟩
                  · have HSH' : Hid (∀ t (h : t < l.length), t < m + 1 → l[t].1.size ≤ 20) := fun t h h' => by
                      rcases Nat.lt_or_ge t m with h8 | h8
                      · exact HSH.out t h h8
                      · obtain rfl : t = m := by omega
                        rw [HKJ.out.1]
                        omega
                    clear hmem2 hpb4 hkj HKJ hmL
                    go_wp2_with fail
                    go_roundw
                    case rel => exact ⟨m + 1, by omega, by go_num, HSH', by first | rfl | trivial⟩
                    case measure => simp [intOf]; omega
                · have hmp : m = pl := by omega
                  have HSHA : Hid (∀ s ∈ l, s.1.size ≤ 20) := fun s hs => by
                    obtain ⟨t, ht, rfl⟩ := List.getElem_of_mem hs
                    exact HSH.out t ht (by have := HPL.out.1; omega)
                  have HPK : Hid (patK pk l ⟨yk, yn, yt, yo, ya⟩ = true) := by
                    show _ = _
                    unfold patK
                    have h7 : l.any longB = false := by
                      rw [List.any_eq_false]
                      intro s hs
                      unfold longB
                      have := HSHA.out s hs
                      simp
                      omega
                    rw [HVB.out, h7, decide_eq_true (by have := HK1.out; have := HK3.out; omega)]
                    rfl
                  have hnm : ¬ (m : Int) < pl := by omega
                  clear HSH hm hml
                  by_cases hl0 : pl = 0
                  · have HL0 : Hid (l = []) := List.length_eq_zero_iff.1 (by have := HPL.out.1; omega)
                    subst hl0
                    have z0 : w2.cell? ⟨w.heap.size + 1, 0, none⟩ = some (.int .i64 0) := Lib.cell_of_heap HZ2.out 0
                    have z1 : w2.cell? ⟨w.heap.size + 1, 1, none⟩ = some (.int .i64 0) := Lib.cell_of_heap HZ2.out 1
                    have z2 : w2.cell? ⟨w.heap.size + 1, 2, none⟩ = some (.string ⟨#[]⟩) := Lib.cell_of_heap HZ2.out 2
                    have z3 : w2.cell? ⟨w.heap.size + 1, 3, none⟩ = some (.int .i64 0) := Lib.cell_of_heap HZ2.out 3
                    have z4 : w2.cell? ⟨w.heap.size + 1, 4, none⟩ = some (.int .i64 0) := Lib.cell_of_heap HZ2.out 4
                    have z5 : w2.cell? ⟨w.heap.size + 1, 5, none⟩ = some (.slice none 0 0) := Lib.cell_of_heap HZ2.out 5
                    have z6 : w2.cell? ⟨w.heap.size + 1, 6, none⟩ = some (.slice none 0 0) := Lib.cell_of_heap HZ2.out 6
                    have zf := Lib.frozen_of_heap HZ2.out
                    have HBF : Hid (Below w.heap.size w _) := set7_below HB2.out (Nat.le_succ w.heap.size) (.int .i64 0) (.int .i64 0) (.string ⟨#[]⟩) (.int .i64 0) (.int .i64 0) (.slice none 0 0) (.slice none 0 0)
                    have HHF : Hid (_ = some _) := set7 HZ2.out (.int .i64 0) (.int .i64 0) (.string ⟨#[]⟩) (.int .i64 0) (.int .i64 0) (.slice none 0 0) (.slice none 0 0)
                    go_wp2
                    clear z0 z1 z2 z3 z4 z5 z6 zf
                    generalize ((((((w2.setCell ⟨w.heap.size + 1, 0, none⟩ (.int .i64 0)).setCell ⟨w.heap.size + 1, 1, none⟩ (.int .i64 0)).setCell ⟨w.heap.size + 1, 2, none⟩ (.string ⟨#[]⟩)).setCell ⟨w.heap.size + 1, 3, none⟩ (.int .i64 0)).setCell ⟨w.heap.size + 1, 4, none⟩ (.int .i64 0)).setCell ⟨w.heap.size + 1, 5, none⟩ (.slice none 0 0)).setCell ⟨w.heap.size + 1, 6, none⟩ (.slice none 0 0) = VV at *
                    obtain ⟨v0, v1, v2, v3, v4, v5, v6⟩ := tboxed (u := (⟨0, 0, ⟨#[]⟩, 0, 0⟩, .slice none 0 0, .slice none 0 0)) HHF.out
                    dsimp only at v0 v1 v2 v3 v4 v5 v6
                    refine bodyPost_ret (v := .tuple #[zT, .int .i64 6]) (by simp [results, Tryd.results4, go_sem, v0, v1, v2, v3, v4, v5, v6]) rfl ?_
                    rw [HPO.out]
                    exact ⟨Or.inr ⟨6, rfl, Or.inr ⟨HC.out, HA.out.fail _ (fail_here HJL.out (by rw [HQJ.out]; exact Or.inr (Or.inl ⟨rfl, HPK.out, fun T' h => by rw [HL0.out] at h; simp [UpdK] at h⟩)))⟩⟩, HBF.out⟩
                  · have hl0' : ¬ (pl : Int) = 0 := by omega
                    have hz2 := HB2.out.size
                    have HCELL : Hid (∀ W, Below w2.heap.size w2 W → (W.cell? ⟨w.heap.size, 0, none⟩ = some (.int .i64 xk) ∧ W.cell? ⟨w.heap.size, 1, none⟩ = some (.int .i64 xn) ∧ W.cell? ⟨w.heap.size, 2, none⟩ = some (.string xt) ∧ W.cell? ⟨w.heap.size, 3, none⟩ = some (.int .i64 xo) ∧ W.cell? ⟨w.heap.size, 4, none⟩ = some (.int .i64 xa) ∧ W.cell? ⟨w.heap.size, 5, none⟩ = some (.slice x1 x2 x3) ∧ W.cell? ⟨w.heap.size, 6, none⟩ = some (.slice x4 x5 x6)) ∧ W.cell? ⟨qb, qo + j * 7, none⟩ = some (.int .i64 pk) ∧ W.cell? ⟨qb, qo + j * 7 + 1, none⟩ = some (.slice pa pl pc) ∧ W.cell? ⟨qb, qo + j * 7 + 2, none⟩ = some (.int .i64 yk) ∧ W.cell? ⟨qb, qo + j * 7 + 3, none⟩ = some (.int .i64 yn) ∧ W.cell? ⟨qb, qo + j * 7 + 4, none⟩ = some (.string yt) ∧ W.cell? ⟨qb, qo + j * 7 + 5, none⟩ = some (.int .i64 yo) ∧ W.cell? ⟨qb, qo + j * 7 + 6, none⟩ = some (.int .i64 ya)) := by
                      intro W hW
                      have hx := (hW.block _ (lt_of_heap HX2.out)).trans HX2.out
                      exact ⟨⟨Lib.cell_of_heap hx 0, Lib.cell_of_heap hx 1, Lib.cell_of_heap hx 2, Lib.cell_of_heap hx 3, Lib.cell_of_heap hx 4, Lib.cell_of_heap hx 5, Lib.cell_of_heap hx 6⟩, HCW.out W (HB2.out.trans (hW.mono hz2))⟩
                    have hlne : l ≠ [] := fun e => hl0 (by have := HPL.out.1; rw [e] at this; simpa using this)
                    have EP := fun (W : World) (hW : Below w2.heap.size w2 W) => patched_any (P := fun b => (b < w.heap.size ∨ w.heap.size + 2 ≤ b) ∧ b < w2.heap.size) (pat_parts HPK.out).1 ⟨yk, yn, yt, yo, ya⟩ (pp := .slice pa pl pc) ⟨_, _, _, rfl⟩ l W (fun b hb => Nat.lt_of_lt_of_le hb.2 hW.size) ((HT2.out.inrow).move hW.size (fun b h1 h2 => hW.block b h2) (fun _ h => h)) HA.out.formed HA.out.small (HST.out.below (HB2.out.trans (hW.mono hz2))) hlne
                    unfold tval at EP
                    dsimp only [pchK] at EP
                    have hpp2 := lt_of_heap HZ2.out
                    clear hz2 hlne
                    go_upto_region 17 with fail
                    clear q0 q1 q2 q3 q4 q5 q6
                    refine wp_region_noPanic ?_
                    refine wp_region_held_drew (S := fun W => Below w2.heap.size w2 W) (by kernel_rfl) ((Below.refl _ _).drew) (fun hHeld => ?_)
                    refine wpAnyH_take (i := 0) (oi := { dst := some 82, op := Op.load 29 (Operand.tmp 2), type := 29, pos := "json.go:324", after := #[], guard := none }) (v := ?_) rfl (by kernel_rfl) (by kernel_rfl) (by kernel_rfl) (fun _ _ _ h => h) (Or.inl ⟨by rfl, ?_⟩) (by assumption) ?_
                    rotate_left
                    · intro wz hSw
                      try dsimp only at hSw
                      obtain ⟨⟨b0, b1, b2, b3, b4, b5, b6⟩, q0, q1, q2, q3, q4, q5, q6⟩ := HCELL.out wz hSw
                      go_simp
                      try with_reducible rfl
                    try simp only [Act.put, List.setIfInBounds_toArray, List.set_cons_zero, List.set_cons_succ]
                    refine wpAnyH_take (i := 1) (oi := { dst := some 83, op := Op.move (Operand.tmp 1), type := 30, pos := "json.go:324", after := #[], guard := none }) (v := ?_) rfl (by kernel_rfl) (by kernel_rfl) (by kernel_rfl) (fun _ _ _ h => h) (Or.inl ⟨by rfl, ?_⟩) (by assumption) ?_
                    rotate_left
                    · intro wz hSw
                      try dsimp only at hSw
                      obtain ⟨⟨b0, b1, b2, b3, b4, b5, b6⟩, q0, q1, q2, q3, q4, q5, q6⟩ := HCELL.out wz hSw
                      go_simp
                      try with_reducible rfl
                    try simp only [Act.put, List.setIfInBounds_toArray, List.set_cons_zero, List.set_cons_succ]
                    refine wpAnyH_take (i := 2) (oi := { dst := some 84, op := Op.move (Operand.tmp 7), type := 3, pos := "json.go:324", after := #[], guard := none }) (v := ?_) rfl (by kernel_rfl) (by kernel_rfl) (by kernel_rfl) (fun _ _ _ h => h) (Or.inl ⟨by rfl, ?_⟩) (by assumption) ?_
                    rotate_left
                    · intro wz hSw
                      try dsimp only at hSw
                      obtain ⟨⟨b0, b1, b2, b3, b4, b5, b6⟩, q0, q1, q2, q3, q4, q5, q6⟩ := HCELL.out wz hSw
                      go_simp
                      try with_reducible rfl
                    try simp only [Act.put, List.setIfInBounds_toArray, List.set_cons_zero, List.set_cons_succ]
                    refine wpAnyH_take (i := 3) (oi := { dst := some 85, op := Op.indexAddr 30 (Operand.tmp 83) (Operand.tmp 84), type := 0, pos := "json.go:324", after := #[{ on := 1, ground := Ground.data }, { on := 2, ground := Ground.data }], guard := none }) (v := ?_) rfl (by kernel_rfl) (by kernel_rfl) (by kernel_rfl) (fun _ _ _ h => h) (Or.inl ⟨by rfl, ?_⟩) (by assumption) ?_
                    rotate_left
                    · intro wz hSw
                      try dsimp only at hSw
                      obtain ⟨⟨b0, b1, b2, b3, b4, b5, b6⟩, q0, q1, q2, q3, q4, q5, q6⟩ := HCELL.out wz hSw
                      go_simp
                      try with_reducible rfl
                    try simp only [Act.put, List.setIfInBounds_toArray, List.set_cons_zero, List.set_cons_succ]
                    refine wpAnyH_take (i := 4) (oi := { dst := some 86, op := Op.load 43 (Operand.tmp 85), type := 43, pos := "json.go:324", after := #[{ on := 3, ground := Ground.data }], guard := none }) (v := ?_) rfl (by kernel_rfl) (by kernel_rfl) (by kernel_rfl) (fun _ _ _ h => h) (Or.inl ⟨by rfl, ?_⟩) (by assumption) ?_
                    rotate_left
                    · intro wz hSw
                      try dsimp only at hSw
                      obtain ⟨⟨b0, b1, b2, b3, b4, b5, b6⟩, q0, q1, q2, q3, q4, q5, q6⟩ := HCELL.out wz hSw
                      go_simp
                      try with_reducible rfl
                    try simp only [Act.put, List.setIfInBounds_toArray, List.set_cons_zero, List.set_cons_succ]
                    refine wpAnyH_take (i := 5) (oi := { dst := some 87, op := Op.move (Operand.tmp 1), type := 30, pos := "json.go:324", after := #[], guard := none }) (v := ?_) rfl (by kernel_rfl) (by kernel_rfl) (by kernel_rfl) (fun _ _ _ h => h) (Or.inl ⟨by rfl, ?_⟩) (by assumption) ?_
                    rotate_left
                    · intro wz hSw
                      try dsimp only at hSw
                      obtain ⟨⟨b0, b1, b2, b3, b4, b5, b6⟩, q0, q1, q2, q3, q4, q5, q6⟩ := HCELL.out wz hSw
                      go_simp
                      try with_reducible rfl
                    try simp only [Act.put, List.setIfInBounds_toArray, List.set_cons_zero, List.set_cons_succ]
                    refine wpAnyH_take (i := 6) (oi := { dst := some 88, op := Op.move (Operand.tmp 7), type := 3, pos := "json.go:324", after := #[], guard := none }) (v := ?_) rfl (by kernel_rfl) (by kernel_rfl) (by kernel_rfl) (fun _ _ _ h => h) (Or.inl ⟨by rfl, ?_⟩) (by assumption) ?_
                    rotate_left
                    · intro wz hSw
                      try dsimp only at hSw
                      obtain ⟨⟨b0, b1, b2, b3, b4, b5, b6⟩, q0, q1, q2, q3, q4, q5, q6⟩ := HCELL.out wz hSw
                      go_simp
                      try with_reducible rfl
                    try simp only [Act.put, List.setIfInBounds_toArray, List.set_cons_zero, List.set_cons_succ]
                    refine wpAnyH_take (i := 7) (oi := { dst := some 89, op := Op.indexAddr 30 (Operand.tmp 87) (Operand.tmp 88), type := 0, pos := "json.go:324", after := #[{ on := 5, ground := Ground.data }, { on := 6, ground := Ground.data }], guard := none }) (v := ?_) rfl (by kernel_rfl) (by kernel_rfl) (by kernel_rfl) (fun _ _ _ h => h) (Or.inl ⟨by rfl, ?_⟩) (by assumption) ?_
                    rotate_left
                    · intro wz hSw
                      try dsimp only at hSw
                      obtain ⟨⟨b0, b1, b2, b3, b4, b5, b6⟩, q0, q1, q2, q3, q4, q5, q6⟩ := HCELL.out wz hSw
                      go_simp
                      try with_reducible rfl
                    try simp only [Act.put, List.setIfInBounds_toArray, List.set_cons_zero, List.set_cons_succ]
                    refine wpAnyH_take (i := 8) (oi := { dst := some 90, op := Op.fieldAddr 43 (Operand.tmp 89) 1, type := 0, pos := "json.go:324", after := #[{ on := 7, ground := Ground.data }], guard := none }) (v := ?_) rfl (by kernel_rfl) (by kernel_rfl) (by kernel_rfl) (fun _ _ _ h => h) (Or.inl ⟨by rfl, ?_⟩) (by assumption) ?_
                    rotate_left
                    · intro wz hSw
                      try dsimp only at hSw
                      obtain ⟨⟨b0, b1, b2, b3, b4, b5, b6⟩, q0, q1, q2, q3, q4, q5, q6⟩ := HCELL.out wz hSw
                      go_simp
                      try with_reducible rfl
                    try simp only [Act.put, List.setIfInBounds_toArray, List.set_cons_zero, List.set_cons_succ]
                    refine wpAnyH_take (i := 9) (oi := { dst := some 91, op := Op.load 41 (Operand.tmp 90), type := 41, pos := "json.go:324", after := #[{ on := 8, ground := Ground.data }], guard := none }) (v := ?_) rfl (by kernel_rfl) (by kernel_rfl) (by kernel_rfl) (fun _ _ _ h => h) (Or.inl ⟨by rfl, ?_⟩) (by assumption) ?_
                    rotate_left
                    · intro wz hSw
                      try dsimp only at hSw
                      obtain ⟨⟨b0, b1, b2, b3, b4, b5, b6⟩, q0, q1, q2, q3, q4, q5, q6⟩ := HCELL.out wz hSw
                      go_simp
                      try with_reducible rfl
                    try simp only [Act.put, List.setIfInBounds_toArray, List.set_cons_zero, List.set_cons_succ]
                    refine wpAnyH_ready (rs := [10, 14]) (by kernel_rfl) (by simp) (AllReadyH.cons (o := { dst := some 92, op := Op.call { callee := Callee.value (Operand.func 9), args := #[Operand.tmp 82, Operand.tmp 86, Operand.tmp 91], argTypes := #[29, 43, 41] }, type := 46, pos := "json.go:324", after := #[{ on := 0, ground := Ground.data }, { on := 4, ground := Ground.data }, { on := 9, ground := Ground.data }], guard := none }) rfl (fun K hK => ?_) (AllReadyH.cons (o := { dst := some 10, op := Op.alloc 29, type := 0, pos := "json.go:324", after := #[], guard := none }) rfl (fun K hK => ?_) AllReadyH.nil))
                    · go_simp
                      go_at_call 9
                      refine Calls.mono (EP _ ((Below.refl _ _).drew)) ?_
                      rintro e w8 ⟨⟨u8, X8, ok, rfl, hI8, hy8, hn8⟩, b8⟩
                      obtain ⟨⟨mk, mn, mt, mo, ma⟩, m1, m2, m3, m4, m5, m6, hu8⟩ := hI8.plain.parts
                      subst hu8
                      dsimp only [tval]
                      go_wp2_with fail
                      refine hK.out _ _ (show Below w2.heap.size w2 w8 from ((Below.refl w2.heap.size w2).drew).trans b8) (fun hHeld10 => ?_)
                      clear hK K
                      try simp only [Act.put, List.setIfInBounds_toArray, List.set_cons_zero, List.set_cons_succ]
                      refine wpAnyH_take (i := 11) (oi := { dst := some 81, op := Op.move (Operand.tmp 92), type := 46, pos := "json.go:324", after := #[{ on := 10, ground := Ground.data }], guard := none }) (v := ?_) rfl (by kernel_rfl) (by kernel_rfl) (by kernel_rfl) (fun _ _ _ h => h) (Or.inl ⟨by rfl, ?_⟩) (by assumption) ?_
                      rotate_left
                      · intro wz hSw
                        try dsimp only at hSw
                        obtain ⟨⟨b0, b1, b2, b3, b4, b5, b6⟩, q0, q1, q2, q3, q4, q5, q6⟩ := HCELL.out wz hSw
                        go_simp
                        try with_reducible rfl
                      try simp only [Act.put, List.setIfInBounds_toArray, List.set_cons_zero, List.set_cons_succ]
                      refine wpAnyH_take (i := 12) (oi := { dst := some 93, op := Op.extract (Operand.tmp 81) 0, type := 29, pos := "json.go:324", after := #[{ on := 11, ground := Ground.data }], guard := none }) (v := ?_) rfl (by kernel_rfl) (by kernel_rfl) (by kernel_rfl) (fun _ _ _ h => h) (Or.inl ⟨by rfl, ?_⟩) (by assumption) ?_
                      rotate_left
                      · intro wz hSw
                        try dsimp only at hSw
                        obtain ⟨⟨b0, b1, b2, b3, b4, b5, b6⟩, q0, q1, q2, q3, q4, q5, q6⟩ := HCELL.out wz hSw
                        go_simp
                        try with_reducible rfl
                      try simp only [Act.put, List.setIfInBounds_toArray, List.set_cons_zero, List.set_cons_succ]
                      refine wpAnyH_take (i := 13) (oi := { dst := some 94, op := Op.extract (Operand.tmp 81) 1, type := 4, pos := "json.go:324", after := #[{ on := 11, ground := Ground.data }, { on := 15, ground := Ground.gcOnly Departure.lateStores }], guard := none }) (v := ?_) rfl (by kernel_rfl) (by kernel_rfl) (by kernel_rfl) (fun _ _ _ h => h) (Or.inl ⟨by rfl, ?_⟩) (by assumption) ?_
                      rotate_left
                      · intro wz hSw
                        try dsimp only at hSw
                        obtain ⟨⟨b0, b1, b2, b3, b4, b5, b6⟩, q0, q1, q2, q3, q4, q5, q6⟩ := HCELL.out wz hSw
                        go_simp
                        try with_reducible rfl
                      try simp only [Act.put, List.setIfInBounds_toArray, List.set_cons_zero, List.set_cons_succ]
                      refine wpAnyH_ready (rs := [14]) (by kernel_rfl) (by simp) (AllReadyH.cons (o := { dst := some 10, op := Op.alloc 29, type := 0, pos := "json.go:324", after := #[], guard := none }) rfl (fun K hK => ?_) AllReadyH.nil)
                      go_simp
                      refine hK.out _ _ ((((Below.refl w2.heap.size w2).drew).trans b8).alloc (show w2.heap.size ≤ w8.heap.size from b8.size) _) (fun hHeld14 => ?_)
                      clear hK K
                      try simp only [Act.put, List.setIfInBounds_toArray, List.set_cons_zero, List.set_cons_succ]
                      have hW : Below w2.heap.size w2 (w8.alloc (.cells #[.int .i64 0, .int .i64 0, .string ⟨#[]⟩, .int .i64 0, .int .i64 0, .slice none 0 0, .slice none 0 0] 29)) := (((Below.refl w2.heap.size w2).drew).trans b8).alloc (show w2.heap.size ≤ w8.heap.size from b8.size) _
                      have nb : (w8.alloc (.cells #[.int .i64 0, .int .i64 0, .string ⟨#[]⟩, .int .i64 0, .int .i64 0, .slice none 0 0, .slice none 0 0] 29)).heap[w8.heap.size]? = some (.cells #[.int .i64 0, .int .i64 0, .string ⟨#[]⟩, .int .i64 0, .int .i64 0, .slice none 0 0, .slice none 0 0] 29) := (MapKept.heap_alloc w8 _).1
                      have HBK : Hid (∀ b, b < w8.heap.size → (w8.alloc (.cells #[.int .i64 0, .int .i64 0, .string ⟨#[]⟩, .int .i64 0, .int .i64 0, .slice none 0 0, .slice none 0 0] 29)).heap[b]? = w8.heap[b]?) := fun b hlt => ((Below.refl w8.heap.size w8).alloc (Nat.le_refl _) (.cells #[.int .i64 0, .int .i64 0, .string ⟨#[]⟩, .int .i64 0, .int .i64 0, .slice none 0 0, .slice none 0 0] 29)).block b hlt
                      have HSZ : Hid ((w8.alloc (.cells #[.int .i64 0, .int .i64 0, .string ⟨#[]⟩, .int .i64 0, .int .i64 0, .slice none 0 0, .slice none 0 0] 29)).heap.size = w8.heap.size + 1) := by show _ = _; simp
                      generalize w8.alloc (.cells #[.int .i64 0, .int .i64 0, .string ⟨#[]⟩, .int .i64 0, .int .i64 0, .slice none 0 0, .slice none 0 0] 29) = WA at *
                      have HXB : Hid (∃ xb, xb = w8.heap.size) := ⟨_, rfl⟩
                      obtain ⟨xb, hxb⟩ := HXB.out
                      clear HXB
                      rw [← hxb] at nb ⊢
                      have HXB : Hid (xb = w8.heap.size) := hxb
                      clear hxb
                      have n0 : WA.cell? ⟨xb, 0, none⟩ = some (.int .i64 0) := Lib.cell_of_heap nb 0
                      have n1 : WA.cell? ⟨xb, 1, none⟩ = some (.int .i64 0) := Lib.cell_of_heap nb 1
                      have n2 : WA.cell? ⟨xb, 2, none⟩ = some (.string ⟨#[]⟩) := Lib.cell_of_heap nb 2
                      have n3 : WA.cell? ⟨xb, 3, none⟩ = some (.int .i64 0) := Lib.cell_of_heap nb 3
                      have n4 : WA.cell? ⟨xb, 4, none⟩ = some (.int .i64 0) := Lib.cell_of_heap nb 4
                      have n5 : WA.cell? ⟨xb, 5, none⟩ = some (.slice none 0 0) := Lib.cell_of_heap nb 5
                      have n6 : WA.cell? ⟨xb, 6, none⟩ = some (.slice none 0 0) := Lib.cell_of_heap nb 6
                      have nf := Lib.frozen_of_heap nb
                      have hz1 : w2.heap.size ≤ xb := by rw [HXB.out]; exact b8.size
                      refine wpAnyH_ready (rs := [15]) (by kernel_rfl) (by simp) (AllReadyH.cons (o := { dst := none, op := Op.store 29 (Operand.tmp 10) (Operand.tmp 93), type := 0, pos := "json.go:324", after := #[{ on := 14, ground := Ground.data }, { on := 12, ground := Ground.data }, { on := 10, ground := Ground.chain }, { on := 0, ground := Ground.phase }, { on := 1, ground := Ground.phase }, { on := 2, ground := Ground.phase }, { on := 3, ground := Ground.phase }, { on := 4, ground := Ground.phase }, { on := 5, ground := Ground.phase }, { on := 6, ground := Ground.phase }, { on := 7, ground := Ground.phase }, { on := 8, ground := Ground.phase }, { on := 9, ground := Ground.phase }, { on := 10, ground := Ground.phase }, { on := 11, ground := Ground.phase }, { on := 12, ground := Ground.phase }, { on := 13, ground := Ground.textOnly Departure.lateStores }, { on := 14, ground := Ground.phase }], guard := none }) rfl (fun K hK => ?_) AllReadyH.nil)
                      go_simp
                      refine hK.out _ _ (set7_below hW hz1 (.int .i64 mk) (.int .i64 mn) (.string mt) (.int .i64 mo) (.int .i64 ma) (.slice m1 m2 m3) (.slice m4 m5 m6)) (fun hHeld15 => ?_)
                      clear hK K
                      try simp only [Act.put, List.setIfInBounds_toArray, List.set_cons_zero, List.set_cons_succ]
                      refine wpAnyH_take (i := 16) (oi := { dst := some 11, op := Op.assign (Operand.tmp 94), type := 4, pos := "json.go:324", after := #[{ on := 13, ground := Ground.data }, { on := 15, ground := Ground.chain }, { on := 0, ground := Ground.phase }, { on := 1, ground := Ground.phase }, { on := 2, ground := Ground.phase }, { on := 3, ground := Ground.phase }, { on := 4, ground := Ground.phase }, { on := 5, ground := Ground.phase }, { on := 6, ground := Ground.phase }, { on := 7, ground := Ground.phase }, { on := 8, ground := Ground.phase }, { on := 9, ground := Ground.phase }, { on := 10, ground := Ground.phase }, { on := 11, ground := Ground.phase }, { on := 12, ground := Ground.phase }, { on := 13, ground := Ground.phase }, { on := 14, ground := Ground.phase }, { on := 15, ground := Ground.phase }], guard := none }) (v := ?_) rfl (by kernel_rfl) (by kernel_rfl) (by kernel_rfl) (fun _ _ _ h => h) (Or.inl ⟨by rfl, ?_⟩) (by assumption) ?_
                      rotate_left
                      · intro wz hSw
                        try dsimp only at hSw
                        obtain ⟨⟨b0, b1, b2, b3, b4, b5, b6⟩, q0, q1, q2, q3, q4, q5, q6⟩ := HCELL.out wz hSw
                        go_simp
                        try with_reducible rfl
                      try simp only [Act.put, List.setIfInBounds_toArray, List.set_cons_zero, List.set_cons_succ]
                      refine wpAnyH_done (by kernel_rfl) ?_ _
                      refine NoPanic.normal ?_
                      have HM5 : Hid ((((((((WA.setCell ⟨xb, 0, none⟩ (.int .i64 mk)).setCell ⟨xb, 1, none⟩ (.int .i64 mn)).setCell ⟨xb, 2, none⟩ (.string mt)).setCell ⟨xb, 3, none⟩ (.int .i64 mo)).setCell ⟨xb, 4, none⟩ (.int .i64 ma)).setCell ⟨xb, 5, none⟩ (.slice m1 m2 m3)).setCell ⟨xb, 6, none⟩ (.slice m4 m5 m6)).heap[xb]? = some (.cells #[.int .i64 mk, .int .i64 mn, .string mt, .int .i64 mo, .int .i64 ma, .slice m1 m2 m3, .slice m4 m5 m6] 29)) := set7 nb (.int .i64 mk) (.int .i64 mn) (.string mt) (.int .i64 mo) (.int .i64 ma) (.slice m1 m2 m3) (.slice m4 m5 m6)
                      have HX5 : Hid ((((((((WA.setCell ⟨xb, 0, none⟩ (.int .i64 mk)).setCell ⟨xb, 1, none⟩ (.int .i64 mn)).setCell ⟨xb, 2, none⟩ (.string mt)).setCell ⟨xb, 3, none⟩ (.int .i64 mo)).setCell ⟨xb, 4, none⟩ (.int .i64 ma)).setCell ⟨xb, 5, none⟩ (.slice m1 m2 m3)).setCell ⟨xb, 6, none⟩ (.slice m4 m5 m6)).heap[w.heap.size]? = some (.cells #[.int .i64 xk, .int .i64 xn, .string xt, .int .i64 xo, .int .i64 xa, .slice x1 x2 x3, .slice x4 x5 x6] 29)) := set7_other ((hW.block _ (lt_of_heap HX2.out)).trans HX2.out) (by omega) (.int .i64 mk) (.int .i64 mn) (.string mt) (.int .i64 mo) (.int .i64 ma) (.slice m1 m2 m3) (.slice m4 m5 m6)
                      have HZ5 : Hid ((((((((WA.setCell ⟨xb, 0, none⟩ (.int .i64 mk)).setCell ⟨xb, 1, none⟩ (.int .i64 mn)).setCell ⟨xb, 2, none⟩ (.string mt)).setCell ⟨xb, 3, none⟩ (.int .i64 mo)).setCell ⟨xb, 4, none⟩ (.int .i64 ma)).setCell ⟨xb, 5, none⟩ (.slice m1 m2 m3)).setCell ⟨xb, 6, none⟩ (.slice m4 m5 m6)).heap[w.heap.size + 1]? = some (.cells #[.int .i64 0, .int .i64 0, .string ⟨#[]⟩, .int .i64 0, .int .i64 0, .slice none 0 0, .slice none 0 0] 29)) := set7_other ((hW.block _ (lt_of_heap HZ2.out)).trans HZ2.out) (by omega) (.int .i64 mk) (.int .i64 mn) (.string mt) (.int .i64 mo) (.int .i64 ma) (.slice m1 m2 m3) (.slice m4 m5 m6)
                      have HB5 : Hid (Below w.heap.size w (((((((WA.setCell ⟨xb, 0, none⟩ (.int .i64 mk)).setCell ⟨xb, 1, none⟩ (.int .i64 mn)).setCell ⟨xb, 2, none⟩ (.string mt)).setCell ⟨xb, 3, none⟩ (.int .i64 mo)).setCell ⟨xb, 4, none⟩ (.int .i64 ma)).setCell ⟨xb, 5, none⟩ (.slice m1 m2 m3)).setCell ⟨xb, 6, none⟩ (.slice m4 m5 m6))) := set7_below (HB2.out.trans (hW.mono HB2.out.size)) (by omega) (.int .i64 mk) (.int .i64 mn) (.string mt) (.int .i64 mo) (.int .i64 ma) (.slice m1 m2 m3) (.slice m4 m5 m6)
                      have HI5 : Hid (IsTP (fun b => b < w.heap.size ∨ w.heap.size + 2 ≤ b) (((((((WA.setCell ⟨xb, 0, none⟩ (.int .i64 mk)).setCell ⟨xb, 1, none⟩ (.int .i64 mn)).setCell ⟨xb, 2, none⟩ (.string mt)).setCell ⟨xb, 3, none⟩ (.int .i64 mo)).setCell ⟨xb, 4, none⟩ (.int .i64 ma)).setCell ⟨xb, 5, none⟩ (.slice m1 m2 m3)).setCell ⟨xb, 6, none⟩ (.slice m4 m5 m6)) (tval (⟨mk, mn, mt, mo, ma⟩, .slice m1 m2 m3, .slice m4 m5 m6)) X8) := by
                        have h8 : IsTP (fun b => b < w.heap.size ∨ w.heap.size + 2 ≤ b) (put7 WA (xb) 0 (⟨mk, mn, mt, mo, ma⟩, .slice m1 m2 m3, .slice m4 m5 m6)) (tval (⟨mk, mn, mt, mo, ma⟩, .slice m1 m2 m3, .slice m4 m5 m6)) X8 := hI8.move (by
                          have h7 := (put7_below (Below.refl 0 WA) xb 0 (⟨mk, mn, mt, mo, ma⟩, .slice m1 m2 m3, .slice m4 m5 m6) (Nat.zero_le _)).size
                          have h6 := HSZ.out
                          omega) (fun b hb hlt => (put7_other WA _ _ _ b (by have := HXB.out; omega)).trans (HBK.out b hlt)) (fun b h => by
                          rcases h with h | h
                          · exact h.1
                          · exact Or.inr (by have h9 : w2.heap.size + 4 ≤ b := h; omega))
                        dsimp only [put7, Nat.zero_add] at h8
                        exact h8
                      have HY8 : Hid (ok = true → UpdK pk Tj l ⟨yk, yn, yt, yo, ya⟩ X8) := hy8
                      have HN8 : Hid (ok = false → ∀ T', ¬ UpdK pk Tj l ⟨yk, yn, yt, yo, ya⟩ T') := hn8
                      clear hz1 hpp2 hW hy8 hn8 hI8 b8
                      clear hHeld hHeld10 hHeld14 hHeld15 n0 n1 n2 n3 n4 n5 n6 nf nb EP
                      generalize ((((((WA.setCell ⟨xb, 0, none⟩ (.int .i64 mk)).setCell ⟨xb, 1, none⟩ (.int .i64 mn)).setCell ⟨xb, 2, none⟩ (.string mt)).setCell ⟨xb, 3, none⟩ (.int .i64 mo)).setCell ⟨xb, 4, none⟩ (.int .i64 ma)).setCell ⟨xb, 5, none⟩ (.slice m1 m2 m3)).setCell ⟨xb, 6, none⟩ (.slice m4 m5 m6) = w5 at *
                      obtain ⟨mb, HMB⟩ : ∃ mb, Hid (xb = mb) := ⟨_, rfl⟩
                      rw [HMB.out] at HM5 ⊢
                      clear HMB
                      cases ok with
                      | false =>
                        have z0 : w5.cell? ⟨w.heap.size + 1, 0, none⟩ = some (.int .i64 0) := Lib.cell_of_heap HZ5.out 0
                        have z1 : w5.cell? ⟨w.heap.size + 1, 1, none⟩ = some (.int .i64 0) := Lib.cell_of_heap HZ5.out 1
                        have z2 : w5.cell? ⟨w.heap.size + 1, 2, none⟩ = some (.string ⟨#[]⟩) := Lib.cell_of_heap HZ5.out 2
                        have z3 : w5.cell? ⟨w.heap.size + 1, 3, none⟩ = some (.int .i64 0) := Lib.cell_of_heap HZ5.out 3
                        have z4 : w5.cell? ⟨w.heap.size + 1, 4, none⟩ = some (.int .i64 0) := Lib.cell_of_heap HZ5.out 4
                        have z5 : w5.cell? ⟨w.heap.size + 1, 5, none⟩ = some (.slice none 0 0) := Lib.cell_of_heap HZ5.out 5
                        have z6 : w5.cell? ⟨w.heap.size + 1, 6, none⟩ = some (.slice none 0 0) := Lib.cell_of_heap HZ5.out 6
                        have zf := Lib.frozen_of_heap HZ5.out
                        have HBF : Hid (Below w.heap.size w _) := set7_below HB5.out (Nat.le_succ w.heap.size) (.int .i64 0) (.int .i64 0) (.string ⟨#[]⟩) (.int .i64 0) (.int .i64 0) (.slice none 0 0) (.slice none 0 0)
                        have HHF : Hid (_ = some _) := set7 HZ5.out (.int .i64 0) (.int .i64 0) (.string ⟨#[]⟩) (.int .i64 0) (.int .i64 0) (.slice none 0 0) (.slice none 0 0)
                        go_wp2
                        clear z0 z1 z2 z3 z4 z5 z6 zf
                        generalize ((((((w5.setCell ⟨w.heap.size + 1, 0, none⟩ (.int .i64 0)).setCell ⟨w.heap.size + 1, 1, none⟩ (.int .i64 0)).setCell ⟨w.heap.size + 1, 2, none⟩ (.string ⟨#[]⟩)).setCell ⟨w.heap.size + 1, 3, none⟩ (.int .i64 0)).setCell ⟨w.heap.size + 1, 4, none⟩ (.int .i64 0)).setCell ⟨w.heap.size + 1, 5, none⟩ (.slice none 0 0)).setCell ⟨w.heap.size + 1, 6, none⟩ (.slice none 0 0) = VV at *
                        obtain ⟨v0, v1, v2, v3, v4, v5, v6⟩ := tboxed (u := (⟨0, 0, ⟨#[]⟩, 0, 0⟩, .slice none 0 0, .slice none 0 0)) HHF.out
                        dsimp only at v0 v1 v2 v3 v4 v5 v6
                        refine bodyPost_ret (v := .tuple #[zT, .int .i64 6]) (by simp [results, Tryd.results4, go_sem, v0, v1, v2, v3, v4, v5, v6]) rfl ?_
                        rw [HPO.out]
                        exact ⟨Or.inr ⟨6, rfl, Or.inr ⟨HC.out, HA.out.fail _ (fail_here HJL.out (by rw [HQJ.out]; exact Or.inr (Or.inl ⟨rfl, HPK.out, HN8.out (by simp)⟩)))⟩⟩, HBF.out⟩
                      | true =>
                        have l0 : w5.cell? ⟨mb, 0, none⟩ = some (.int .i64 mk) := Lib.cell_of_heap HM5.out 0
                        have l1 : w5.cell? ⟨mb, 1, none⟩ = some (.int .i64 mn) := Lib.cell_of_heap HM5.out 1
                        have l2 : w5.cell? ⟨mb, 2, none⟩ = some (.string mt) := Lib.cell_of_heap HM5.out 2
                        have l3 : w5.cell? ⟨mb, 3, none⟩ = some (.int .i64 mo) := Lib.cell_of_heap HM5.out 3
                        have l4 : w5.cell? ⟨mb, 4, none⟩ = some (.int .i64 ma) := Lib.cell_of_heap HM5.out 4
                        have l5 : w5.cell? ⟨mb, 5, none⟩ = some (.slice m1 m2 m3) := Lib.cell_of_heap HM5.out 5
                        have l6 : w5.cell? ⟨mb, 6, none⟩ = some (.slice m4 m5 m6) := Lib.cell_of_heap HM5.out 6
                        have t0 : w5.cell? ⟨w.heap.size, 0, none⟩ = some (.int .i64 xk) := Lib.cell_of_heap HX5.out 0
                        have t1 : w5.cell? ⟨w.heap.size, 1, none⟩ = some (.int .i64 xn) := Lib.cell_of_heap HX5.out 1
                        have t2 : w5.cell? ⟨w.heap.size, 2, none⟩ = some (.string xt) := Lib.cell_of_heap HX5.out 2
                        have t3 : w5.cell? ⟨w.heap.size, 3, none⟩ = some (.int .i64 xo) := Lib.cell_of_heap HX5.out 3
                        have t4 : w5.cell? ⟨w.heap.size, 4, none⟩ = some (.int .i64 xa) := Lib.cell_of_heap HX5.out 4
                        have t5 : w5.cell? ⟨w.heap.size, 5, none⟩ = some (.slice x1 x2 x3) := Lib.cell_of_heap HX5.out 5
                        have t6 : w5.cell? ⟨w.heap.size, 6, none⟩ = some (.slice x4 x5 x6) := Lib.cell_of_heap HX5.out 6
                        have tf := Lib.frozen_of_heap HX5.out
                        have HX6 : Hid ((((((((w5.setCell ⟨w.heap.size, 0, none⟩ (.int .i64 mk)).setCell ⟨w.heap.size, 1, none⟩ (.int .i64 mn)).setCell ⟨w.heap.size, 2, none⟩ (.string mt)).setCell ⟨w.heap.size, 3, none⟩ (.int .i64 mo)).setCell ⟨w.heap.size, 4, none⟩ (.int .i64 ma)).setCell ⟨w.heap.size, 5, none⟩ (.slice m1 m2 m3)).setCell ⟨w.heap.size, 6, none⟩ (.slice m4 m5 m6)).heap[w.heap.size]? = some (.cells #[.int .i64 mk, .int .i64 mn, .string mt, .int .i64 mo, .int .i64 ma, .slice m1 m2 m3, .slice m4 m5 m6] 29)) := set7 HX5.out (.int .i64 mk) (.int .i64 mn) (.string mt) (.int .i64 mo) (.int .i64 ma) (.slice m1 m2 m3) (.slice m4 m5 m6)
                        have HZ6 : Hid ((((((((w5.setCell ⟨w.heap.size, 0, none⟩ (.int .i64 mk)).setCell ⟨w.heap.size, 1, none⟩ (.int .i64 mn)).setCell ⟨w.heap.size, 2, none⟩ (.string mt)).setCell ⟨w.heap.size, 3, none⟩ (.int .i64 mo)).setCell ⟨w.heap.size, 4, none⟩ (.int .i64 ma)).setCell ⟨w.heap.size, 5, none⟩ (.slice m1 m2 m3)).setCell ⟨w.heap.size, 6, none⟩ (.slice m4 m5 m6)).heap[w.heap.size + 1]? = some (.cells #[.int .i64 0, .int .i64 0, .string ⟨#[]⟩, .int .i64 0, .int .i64 0, .slice none 0 0, .slice none 0 0] 29)) := set7_other HZ5.out (by omega) (.int .i64 mk) (.int .i64 mn) (.string mt) (.int .i64 mo) (.int .i64 ma) (.slice m1 m2 m3) (.slice m4 m5 m6)
                        have HB6 : Hid (Below w.heap.size w (((((((w5.setCell ⟨w.heap.size, 0, none⟩ (.int .i64 mk)).setCell ⟨w.heap.size, 1, none⟩ (.int .i64 mn)).setCell ⟨w.heap.size, 2, none⟩ (.string mt)).setCell ⟨w.heap.size, 3, none⟩ (.int .i64 mo)).setCell ⟨w.heap.size, 4, none⟩ (.int .i64 ma)).setCell ⟨w.heap.size, 5, none⟩ (.slice m1 m2 m3)).setCell ⟨w.heap.size, 6, none⟩ (.slice m4 m5 m6))) := set7_below HB5.out (Nat.le_refl _) (.int .i64 mk) (.int .i64 mn) (.string mt) (.int .i64 mo) (.int .i64 ma) (.slice m1 m2 m3) (.slice m4 m5 m6)
                        have HI6 : Hid (IsTP (fun b => b < w.heap.size ∨ w.heap.size + 2 ≤ b) (((((((w5.setCell ⟨w.heap.size, 0, none⟩ (.int .i64 mk)).setCell ⟨w.heap.size, 1, none⟩ (.int .i64 mn)).setCell ⟨w.heap.size, 2, none⟩ (.string mt)).setCell ⟨w.heap.size, 3, none⟩ (.int .i64 mo)).setCell ⟨w.heap.size, 4, none⟩ (.int .i64 ma)).setCell ⟨w.heap.size, 5, none⟩ (.slice m1 m2 m3)).setCell ⟨w.heap.size, 6, none⟩ (.slice m4 m5 m6)) (tval (⟨mk, mn, mt, mo, ma⟩, .slice m1 m2 m3, .slice m4 m5 m6)) X8) := by
                          have h8 : IsTP (fun b => b < w.heap.size ∨ w.heap.size + 2 ≤ b) (put7 w5 w.heap.size 0 (⟨mk, mn, mt, mo, ma⟩, .slice m1 m2 m3, .slice m4 m5 m6)) (tval (⟨mk, mn, mt, mo, ma⟩, .slice m1 m2 m3, .slice m4 m5 m6)) X8 := HI5.out.move (put7_below (Below.refl 0 w5) _ _ _ (Nat.zero_le _)).size (fun b hb _ => put7_other w5 _ _ _ b (by omega)) (fun _ h => h)
                          dsimp only [put7, Nat.zero_add] at h8
                          exact h8
                        go_upto_region 21 with fail
                        clear l0 l1 l2 l3 l4 l5 l6 t0 t1 t2 t3 t4 t5 t6 tf HX5 HZ5 HB5 HI5 HM5
                        generalize ((((((w5.setCell ⟨w.heap.size, 0, none⟩ (.int .i64 mk)).setCell ⟨w.heap.size, 1, none⟩ (.int .i64 mn)).setCell ⟨w.heap.size, 2, none⟩ (.string mt)).setCell ⟨w.heap.size, 3, none⟩ (.int .i64 mo)).setCell ⟨w.heap.size, 4, none⟩ (.int .i64 ma)).setCell ⟨w.heap.size, 5, none⟩ (.slice m1 m2 m3)).setCell ⟨w.heap.size, 6, none⟩ (.slice m4 m5 m6) = w6 at *
                        have t0 : w6.cell? ⟨w.heap.size, 0, none⟩ = some (.int .i64 mk) := Lib.cell_of_heap HX6.out 0
                        have t1 : w6.cell? ⟨w.heap.size, 1, none⟩ = some (.int .i64 mn) := Lib.cell_of_heap HX6.out 1
                        have t2 : w6.cell? ⟨w.heap.size, 2, none⟩ = some (.string mt) := Lib.cell_of_heap HX6.out 2
                        have t3 : w6.cell? ⟨w.heap.size, 3, none⟩ = some (.int .i64 mo) := Lib.cell_of_heap HX6.out 3
                        have t4 : w6.cell? ⟨w.heap.size, 4, none⟩ = some (.int .i64 ma) := Lib.cell_of_heap HX6.out 4
                        have t5 : w6.cell? ⟨w.heap.size, 5, none⟩ = some (.slice m1 m2 m3) := Lib.cell_of_heap HX6.out 5
                        have t6 : w6.cell? ⟨w.heap.size, 6, none⟩ = some (.slice m4 m5 m6) := Lib.cell_of_heap HX6.out 6
                        have EC := count_any HI6.out.plain w6 400 (Nat.le_refl _) (Below.refl _ _)
                        obtain ⟨cn, hcn⟩ : ∃ cn : Int, ((min X8.size (400 + 1) : Nat) : Int) = cn := ⟨_, rfl⟩
                        rw [hcn] at EC
                        have HCN : Hid (((min X8.size (400 + 1) : Nat) : Int) = cn) := hcn
                        clear hcn
                        unfold tval at EC
                        dsimp only at EC
                        go_wp2_with fail
                        go_fit EC
                        rintro e w7 ⟨rfl, b7⟩
                        have HX7 : Hid (w7.heap[w.heap.size]? = some (.cells #[.int .i64 mk, .int .i64 mn, .string mt, .int .i64 mo, .int .i64 ma, .slice m1 m2 m3, .slice m4 m5 m6] 29)) := (b7.block _ (lt_of_heap HX6.out)).trans HX6.out
                        have HZ7 : Hid (w7.heap[w.heap.size + 1]? = some (.cells #[.int .i64 0, .int .i64 0, .string ⟨#[]⟩, .int .i64 0, .int .i64 0, .slice none 0 0, .slice none 0 0] 29)) := (b7.block _ (lt_of_heap HZ6.out)).trans HZ6.out
                        have HB7 : Hid (Below w.heap.size w w7) := HB6.out.trans (b7.mono HB6.out.size)
                        have HI7 : Hid (IsTP (fun b => b < w.heap.size ∨ w.heap.size + 2 ≤ b) w7 (tval (⟨mk, mn, mt, mo, ma⟩, .slice m1 m2 m3, .slice m4 m5 m6)) X8) := HI6.out.move b7.size (fun b _ h2 => b7.block b h2) (fun _ h => h)
                        clear b7 EC t0 t1 t2 t3 t4 t5 t6 HX6 HZ6 HB6 HI6
                        by_cases h400 : 400 < cn
                        · have HBG : Hid (400 < X8.size) := by
                            show _ < _
                            have := HCN.out
                            omega
                          have z0 : w7.cell? ⟨w.heap.size + 1, 0, none⟩ = some (.int .i64 0) := Lib.cell_of_heap HZ7.out 0
                          have z1 : w7.cell? ⟨w.heap.size + 1, 1, none⟩ = some (.int .i64 0) := Lib.cell_of_heap HZ7.out 1
                          have z2 : w7.cell? ⟨w.heap.size + 1, 2, none⟩ = some (.string ⟨#[]⟩) := Lib.cell_of_heap HZ7.out 2
                          have z3 : w7.cell? ⟨w.heap.size + 1, 3, none⟩ = some (.int .i64 0) := Lib.cell_of_heap HZ7.out 3
                          have z4 : w7.cell? ⟨w.heap.size + 1, 4, none⟩ = some (.int .i64 0) := Lib.cell_of_heap HZ7.out 4
                          have z5 : w7.cell? ⟨w.heap.size + 1, 5, none⟩ = some (.slice none 0 0) := Lib.cell_of_heap HZ7.out 5
                          have z6 : w7.cell? ⟨w.heap.size + 1, 6, none⟩ = some (.slice none 0 0) := Lib.cell_of_heap HZ7.out 6
                          have zf := Lib.frozen_of_heap HZ7.out
                          have HBF : Hid (Below w.heap.size w _) := set7_below HB7.out (Nat.le_succ w.heap.size) (.int .i64 0) (.int .i64 0) (.string ⟨#[]⟩) (.int .i64 0) (.int .i64 0) (.slice none 0 0) (.slice none 0 0)
                          have HHF : Hid (_ = some _) := set7 HZ7.out (.int .i64 0) (.int .i64 0) (.string ⟨#[]⟩) (.int .i64 0) (.int .i64 0) (.slice none 0 0) (.slice none 0 0)
                          go_wp2
                          clear z0 z1 z2 z3 z4 z5 z6 zf
                          generalize ((((((w7.setCell ⟨w.heap.size + 1, 0, none⟩ (.int .i64 0)).setCell ⟨w.heap.size + 1, 1, none⟩ (.int .i64 0)).setCell ⟨w.heap.size + 1, 2, none⟩ (.string ⟨#[]⟩)).setCell ⟨w.heap.size + 1, 3, none⟩ (.int .i64 0)).setCell ⟨w.heap.size + 1, 4, none⟩ (.int .i64 0)).setCell ⟨w.heap.size + 1, 5, none⟩ (.slice none 0 0)).setCell ⟨w.heap.size + 1, 6, none⟩ (.slice none 0 0) = VV at *
                          obtain ⟨v0, v1, v2, v3, v4, v5, v6⟩ := tboxed (u := (⟨0, 0, ⟨#[]⟩, 0, 0⟩, .slice none 0 0, .slice none 0 0)) HHF.out
                          dsimp only at v0 v1 v2 v3 v4 v5 v6
                          refine bodyPost_ret (v := .tuple #[zT, .int .i64 4]) (by simp [results, Tryd.results4, go_sem, v0, v1, v2, v3, v4, v5, v6]) rfl ?_
                          rw [HPO.out]
                          exact ⟨Or.inr ⟨4, rfl, Or.inr ⟨HC.out, HA.out.fail _ (fail_here HJL.out (by rw [HQJ.out]; exact Or.inr (Or.inr ⟨rfl, HPK.out, X8, HY8.out (by simp), HBG.out⟩)))⟩⟩, HBF.out⟩
                        · have HAN : Hid (AheadH w T L (j + 1) X8 (⟨mk, mn, mt, mo, ma⟩, .slice m1 m2 m3, .slice m4 m5 m6) w7) := by
                            have hsz : X8.size ≤ 400 := by have := HCN.out; omega
                            have hU := HY8.out (by simp)
                            have hst := done_snoc HJL.out (Tj := Tj) (T1 := X8) (by rw [HQJ.out]; exact HPK.out) (by rw [HQJ.out]; exact hU) hsz
                            exact ⟨HX7.out, HZ7.out, HI7.out, updk_formed (pat_parts HPK.out).2.1 _ _ _ hU HA.out.formed (pat_parts HPK.out).2.2, hsz, HB7.out, fun T2 h9 => HA.out.done _ (hst.1 _ h9), fun c h9 => HA.out.fail _ (hst.2 _ h9)⟩
                          go_upto_region 6 with fail
                          clear h400
                          have hjlt := HLT.out.1
                          have hsm : (j : Int) + 1 ≤ 8796093022208 := by have := HPN.out; have := HQZ.out.2; omega
                          go_wp2_with fail
                          go_roundw
                          case rel => exact ⟨j + 1, X8, _, by omega, by go_num, HAN⟩
                          case measure => simp [intOf]; omega
                    · go_simp
                      refine hK.out _ _ (((Below.refl w2.heap.size w2).drew).alloc (Nat.le_refl _) _) (fun hHeld14 => ?_)
                      clear hK K
                      try simp only [Act.put, List.setIfInBounds_toArray, List.set_cons_zero, List.set_cons_succ]
                      have hWB : Below w2.heap.size w2 (w2.drew.alloc (.cells #[.int .i64 0, .int .i64 0, .string ⟨#[]⟩, .int .i64 0, .int .i64 0, .slice none 0 0, .slice none 0 0] 29)) := ((Below.refl w2.heap.size w2).drew).alloc (Nat.le_refl _) _
                      have nb0 : (w2.drew.alloc (.cells #[.int .i64 0, .int .i64 0, .string ⟨#[]⟩, .int .i64 0, .int .i64 0, .slice none 0 0, .slice none 0 0] 29)).heap[w2.heap.size]? = some (.cells #[.int .i64 0, .int .i64 0, .string ⟨#[]⟩, .int .i64 0, .int .i64 0, .slice none 0 0, .slice none 0 0] 29) := (MapKept.heap_alloc w2.drew _).1
                      have hzB : Hid ((w2.drew.alloc (.cells #[.int .i64 0, .int .i64 0, .string ⟨#[]⟩, .int .i64 0, .int .i64 0, .slice none 0 0, .slice none 0 0] 29)).heap.size = w2.heap.size + 1) := by show _ = _; simp
                      refine wpAnyH_ready (rs := [10]) (by kernel_rfl) (by simp) (AllReadyH.cons (o := { dst := some 92, op := Op.call { callee := Callee.value (Operand.func 9), args := #[Operand.tmp 82, Operand.tmp 86, Operand.tmp 91], argTypes := #[29, 43, 41] }, type := 46, pos := "json.go:324", after := #[{ on := 0, ground := Ground.data }, { on := 4, ground := Ground.data }, { on := 9, ground := Ground.data }], guard := none }) rfl (fun K hK => ?_) AllReadyH.nil)
                      go_simp
                      go_at_call 9
                      refine Calls.mono (EP _ (hWB)) ?_
                      rintro e w8 ⟨⟨u8, X8, ok, rfl, hI8, hy8, hn8⟩, b8⟩
                      obtain ⟨⟨mk, mn, mt, mo, ma⟩, m1, m2, m3, m4, m5, m6, hu8⟩ := hI8.plain.parts
                      subst hu8
                      dsimp only [tval]
                      go_wp2_with fail
                      refine hK.out _ _ (show Below w2.heap.size w2 w8 from hWB.trans (b8.mono hWB.size)) (fun hHeld10 => ?_)
                      clear hK K
                      try simp only [Act.put, List.setIfInBounds_toArray, List.set_cons_zero, List.set_cons_succ]
                      refine wpAnyH_take (i := 11) (oi := { dst := some 81, op := Op.move (Operand.tmp 92), type := 46, pos := "json.go:324", after := #[{ on := 10, ground := Ground.data }], guard := none }) (v := ?_) rfl (by kernel_rfl) (by kernel_rfl) (by kernel_rfl) (fun _ _ _ h => h) (Or.inl ⟨by rfl, ?_⟩) (by assumption) ?_
                      rotate_left
                      · intro wz hSw
                        try dsimp only at hSw
                        obtain ⟨⟨b0, b1, b2, b3, b4, b5, b6⟩, q0, q1, q2, q3, q4, q5, q6⟩ := HCELL.out wz hSw
                        go_simp
                        try with_reducible rfl
                      try simp only [Act.put, List.setIfInBounds_toArray, List.set_cons_zero, List.set_cons_succ]
                      refine wpAnyH_take (i := 12) (oi := { dst := some 93, op := Op.extract (Operand.tmp 81) 0, type := 29, pos := "json.go:324", after := #[{ on := 11, ground := Ground.data }], guard := none }) (v := ?_) rfl (by kernel_rfl) (by kernel_rfl) (by kernel_rfl) (fun _ _ _ h => h) (Or.inl ⟨by rfl, ?_⟩) (by assumption) ?_
                      rotate_left
                      · intro wz hSw
                        try dsimp only at hSw
                        obtain ⟨⟨b0, b1, b2, b3, b4, b5, b6⟩, q0, q1, q2, q3, q4, q5, q6⟩ := HCELL.out wz hSw
                        go_simp
                        try with_reducible rfl
                      try simp only [Act.put, List.setIfInBounds_toArray, List.set_cons_zero, List.set_cons_succ]
                      refine wpAnyH_take (i := 13) (oi := { dst := some 94, op := Op.extract (Operand.tmp 81) 1, type := 4, pos := "json.go:324", after := #[{ on := 11, ground := Ground.data }, { on := 15, ground := Ground.gcOnly Departure.lateStores }], guard := none }) (v := ?_) rfl (by kernel_rfl) (by kernel_rfl) (by kernel_rfl) (fun _ _ _ h => h) (Or.inl ⟨by rfl, ?_⟩) (by assumption) ?_
                      rotate_left
                      · intro wz hSw
                        try dsimp only at hSw
                        obtain ⟨⟨b0, b1, b2, b3, b4, b5, b6⟩, q0, q1, q2, q3, q4, q5, q6⟩ := HCELL.out wz hSw
                        go_simp
                        try with_reducible rfl
                      try simp only [Act.put, List.setIfInBounds_toArray, List.set_cons_zero, List.set_cons_succ]
                      have hI8' : IsTP (fun b => ((b < w.heap.size ∨ w.heap.size + 2 ≤ b) ∧ b < w2.heap.size) ∨ (w2.drew.alloc (.cells #[.int .i64 0, .int .i64 0, .string ⟨#[]⟩, .int .i64 0, .int .i64 0, .slice none 0 0, .slice none 0 0] 29)).heap.size + 4 ≤ b) w8 (tval (⟨mk, mn, mt, mo, ma⟩, .slice m1 m2 m3, .slice m4 m5 m6)) X8 := hI8
                      rw [hzB.out] at hI8'
                      clear hI8
                      have hI8 := hI8'
                      clear hI8'
                      have hW : Below w2.heap.size w2 w8 := hWB.trans (b8.mono hWB.size)
                      have nb : w8.heap[w2.heap.size]? = some (.cells #[.int .i64 0, .int .i64 0, .string ⟨#[]⟩, .int .i64 0, .int .i64 0, .slice none 0 0, .slice none 0 0] 29) := (b8.block _ (lt_of_heap nb0)).trans nb0
                      have n0 : w8.cell? ⟨w2.heap.size, 0, none⟩ = some (.int .i64 0) := Lib.cell_of_heap nb 0
                      have n1 : w8.cell? ⟨w2.heap.size, 1, none⟩ = some (.int .i64 0) := Lib.cell_of_heap nb 1
                      have n2 : w8.cell? ⟨w2.heap.size, 2, none⟩ = some (.string ⟨#[]⟩) := Lib.cell_of_heap nb 2
                      have n3 : w8.cell? ⟨w2.heap.size, 3, none⟩ = some (.int .i64 0) := Lib.cell_of_heap nb 3
                      have n4 : w8.cell? ⟨w2.heap.size, 4, none⟩ = some (.int .i64 0) := Lib.cell_of_heap nb 4
                      have n5 : w8.cell? ⟨w2.heap.size, 5, none⟩ = some (.slice none 0 0) := Lib.cell_of_heap nb 5
                      have n6 : w8.cell? ⟨w2.heap.size, 6, none⟩ = some (.slice none 0 0) := Lib.cell_of_heap nb 6
                      have nf := Lib.frozen_of_heap nb
                      have hz1 : w2.heap.size ≤ w8.heap.size := hW.size
                      refine wpAnyH_ready (rs := [15]) (by kernel_rfl) (by simp) (AllReadyH.cons (o := { dst := none, op := Op.store 29 (Operand.tmp 10) (Operand.tmp 93), type := 0, pos := "json.go:324", after := #[{ on := 14, ground := Ground.data }, { on := 12, ground := Ground.data }, { on := 10, ground := Ground.chain }, { on := 0, ground := Ground.phase }, { on := 1, ground := Ground.phase }, { on := 2, ground := Ground.phase }, { on := 3, ground := Ground.phase }, { on := 4, ground := Ground.phase }, { on := 5, ground := Ground.phase }, { on := 6, ground := Ground.phase }, { on := 7, ground := Ground.phase }, { on := 8, ground := Ground.phase }, { on := 9, ground := Ground.phase }, { on := 10, ground := Ground.phase }, { on := 11, ground := Ground.phase }, { on := 12, ground := Ground.phase }, { on := 13, ground := Ground.textOnly Departure.lateStores }, { on := 14, ground := Ground.phase }], guard := none }) rfl (fun K hK => ?_) AllReadyH.nil)
                      go_simp
                      refine hK.out _ _ (set7_below hW (Nat.le_refl _) (.int .i64 mk) (.int .i64 mn) (.string mt) (.int .i64 mo) (.int .i64 ma) (.slice m1 m2 m3) (.slice m4 m5 m6)) (fun hHeld15 => ?_)
                      clear hK K
                      try simp only [Act.put, List.setIfInBounds_toArray, List.set_cons_zero, List.set_cons_succ]
                      refine wpAnyH_take (i := 16) (oi := { dst := some 11, op := Op.assign (Operand.tmp 94), type := 4, pos := "json.go:324", after := #[{ on := 13, ground := Ground.data }, { on := 15, ground := Ground.chain }, { on := 0, ground := Ground.phase }, { on := 1, ground := Ground.phase }, { on := 2, ground := Ground.phase }, { on := 3, ground := Ground.phase }, { on := 4, ground := Ground.phase }, { on := 5, ground := Ground.phase }, { on := 6, ground := Ground.phase }, { on := 7, ground := Ground.phase }, { on := 8, ground := Ground.phase }, { on := 9, ground := Ground.phase }, { on := 10, ground := Ground.phase }, { on := 11, ground := Ground.phase }, { on := 12, ground := Ground.phase }, { on := 13, ground := Ground.phase }, { on := 14, ground := Ground.phase }, { on := 15, ground := Ground.phase }], guard := none }) (v := ?_) rfl (by kernel_rfl) (by kernel_rfl) (by kernel_rfl) (fun _ _ _ h => h) (Or.inl ⟨by rfl, ?_⟩) (by assumption) ?_
                      rotate_left
                      · intro wz hSw
                        try dsimp only at hSw
                        obtain ⟨⟨b0, b1, b2, b3, b4, b5, b6⟩, q0, q1, q2, q3, q4, q5, q6⟩ := HCELL.out wz hSw
                        go_simp
                        try with_reducible rfl
                      try simp only [Act.put, List.setIfInBounds_toArray, List.set_cons_zero, List.set_cons_succ]
                      refine wpAnyH_done (by kernel_rfl) ?_ _
                      refine NoPanic.normal ?_
                      have HM5 : Hid ((((((((w8.setCell ⟨w2.heap.size, 0, none⟩ (.int .i64 mk)).setCell ⟨w2.heap.size, 1, none⟩ (.int .i64 mn)).setCell ⟨w2.heap.size, 2, none⟩ (.string mt)).setCell ⟨w2.heap.size, 3, none⟩ (.int .i64 mo)).setCell ⟨w2.heap.size, 4, none⟩ (.int .i64 ma)).setCell ⟨w2.heap.size, 5, none⟩ (.slice m1 m2 m3)).setCell ⟨w2.heap.size, 6, none⟩ (.slice m4 m5 m6)).heap[w2.heap.size]? = some (.cells #[.int .i64 mk, .int .i64 mn, .string mt, .int .i64 mo, .int .i64 ma, .slice m1 m2 m3, .slice m4 m5 m6] 29)) := set7 nb (.int .i64 mk) (.int .i64 mn) (.string mt) (.int .i64 mo) (.int .i64 ma) (.slice m1 m2 m3) (.slice m4 m5 m6)
                      have HX5 : Hid ((((((((w8.setCell ⟨w2.heap.size, 0, none⟩ (.int .i64 mk)).setCell ⟨w2.heap.size, 1, none⟩ (.int .i64 mn)).setCell ⟨w2.heap.size, 2, none⟩ (.string mt)).setCell ⟨w2.heap.size, 3, none⟩ (.int .i64 mo)).setCell ⟨w2.heap.size, 4, none⟩ (.int .i64 ma)).setCell ⟨w2.heap.size, 5, none⟩ (.slice m1 m2 m3)).setCell ⟨w2.heap.size, 6, none⟩ (.slice m4 m5 m6)).heap[w.heap.size]? = some (.cells #[.int .i64 xk, .int .i64 xn, .string xt, .int .i64 xo, .int .i64 xa, .slice x1 x2 x3, .slice x4 x5 x6] 29)) := set7_other ((hW.block _ (lt_of_heap HX2.out)).trans HX2.out) (by omega) (.int .i64 mk) (.int .i64 mn) (.string mt) (.int .i64 mo) (.int .i64 ma) (.slice m1 m2 m3) (.slice m4 m5 m6)
                      have HZ5 : Hid ((((((((w8.setCell ⟨w2.heap.size, 0, none⟩ (.int .i64 mk)).setCell ⟨w2.heap.size, 1, none⟩ (.int .i64 mn)).setCell ⟨w2.heap.size, 2, none⟩ (.string mt)).setCell ⟨w2.heap.size, 3, none⟩ (.int .i64 mo)).setCell ⟨w2.heap.size, 4, none⟩ (.int .i64 ma)).setCell ⟨w2.heap.size, 5, none⟩ (.slice m1 m2 m3)).setCell ⟨w2.heap.size, 6, none⟩ (.slice m4 m5 m6)).heap[w.heap.size + 1]? = some (.cells #[.int .i64 0, .int .i64 0, .string ⟨#[]⟩, .int .i64 0, .int .i64 0, .slice none 0 0, .slice none 0 0] 29)) := set7_other ((hW.block _ (lt_of_heap HZ2.out)).trans HZ2.out) (by omega) (.int .i64 mk) (.int .i64 mn) (.string mt) (.int .i64 mo) (.int .i64 ma) (.slice m1 m2 m3) (.slice m4 m5 m6)
                      have HB5 : Hid (Below w.heap.size w (((((((w8.setCell ⟨w2.heap.size, 0, none⟩ (.int .i64 mk)).setCell ⟨w2.heap.size, 1, none⟩ (.int .i64 mn)).setCell ⟨w2.heap.size, 2, none⟩ (.string mt)).setCell ⟨w2.heap.size, 3, none⟩ (.int .i64 mo)).setCell ⟨w2.heap.size, 4, none⟩ (.int .i64 ma)).setCell ⟨w2.heap.size, 5, none⟩ (.slice m1 m2 m3)).setCell ⟨w2.heap.size, 6, none⟩ (.slice m4 m5 m6))) := set7_below (HB2.out.trans (hW.mono HB2.out.size)) (by omega) (.int .i64 mk) (.int .i64 mn) (.string mt) (.int .i64 mo) (.int .i64 ma) (.slice m1 m2 m3) (.slice m4 m5 m6)
                      have HI5 : Hid (IsTP (fun b => b < w.heap.size ∨ w.heap.size + 2 ≤ b) (((((((w8.setCell ⟨w2.heap.size, 0, none⟩ (.int .i64 mk)).setCell ⟨w2.heap.size, 1, none⟩ (.int .i64 mn)).setCell ⟨w2.heap.size, 2, none⟩ (.string mt)).setCell ⟨w2.heap.size, 3, none⟩ (.int .i64 mo)).setCell ⟨w2.heap.size, 4, none⟩ (.int .i64 ma)).setCell ⟨w2.heap.size, 5, none⟩ (.slice m1 m2 m3)).setCell ⟨w2.heap.size, 6, none⟩ (.slice m4 m5 m6)) (tval (⟨mk, mn, mt, mo, ma⟩, .slice m1 m2 m3, .slice m4 m5 m6)) X8) := by
                        have h8 : IsTP (fun b => b < w.heap.size ∨ w.heap.size + 2 ≤ b) (put7 w8 (w2.heap.size) 0 (⟨mk, mn, mt, mo, ma⟩, .slice m1 m2 m3, .slice m4 m5 m6)) (tval (⟨mk, mn, mt, mo, ma⟩, .slice m1 m2 m3, .slice m4 m5 m6)) X8 := hI8.move ((put7_below (Below.refl 0 w8) _ _ _ (Nat.zero_le _)).size) (fun b hb hlt => (put7_other w8 _ _ _ b (by
                          rcases hb with h | h
                          · have := h.2
                            omega
                          · omega)).trans (rfl)) (fun b h => by
                          rcases h with h | h
                          · exact h.1
                          · exact Or.inr (by omega))
                        dsimp only [put7, Nat.zero_add] at h8
                        exact h8
                      have HY8 : Hid (ok = true → UpdK pk Tj l ⟨yk, yn, yt, yo, ya⟩ X8) := hy8
                      have HN8 : Hid (ok = false → ∀ T', ¬ UpdK pk Tj l ⟨yk, yn, yt, yo, ya⟩ T') := hn8
                      clear hz1 hpp2 hW hy8 hn8 hI8 b8
                      clear hHeld hHeld10 hHeld14 hHeld15 n0 n1 n2 n3 n4 n5 n6 nf nb EP hWB nb0 hzB
                      generalize ((((((w8.setCell ⟨w2.heap.size, 0, none⟩ (.int .i64 mk)).setCell ⟨w2.heap.size, 1, none⟩ (.int .i64 mn)).setCell ⟨w2.heap.size, 2, none⟩ (.string mt)).setCell ⟨w2.heap.size, 3, none⟩ (.int .i64 mo)).setCell ⟨w2.heap.size, 4, none⟩ (.int .i64 ma)).setCell ⟨w2.heap.size, 5, none⟩ (.slice m1 m2 m3)).setCell ⟨w2.heap.size, 6, none⟩ (.slice m4 m5 m6) = w5 at *
                      obtain ⟨mb, HMB⟩ : ∃ mb, Hid (w2.heap.size = mb) := ⟨_, rfl⟩
                      rw [HMB.out] at HM5 ⊢
                      clear HMB
                      cases ok with
                      | false =>
                        have z0 : w5.cell? ⟨w.heap.size + 1, 0, none⟩ = some (.int .i64 0) := Lib.cell_of_heap HZ5.out 0
                        have z1 : w5.cell? ⟨w.heap.size + 1, 1, none⟩ = some (.int .i64 0) := Lib.cell_of_heap HZ5.out 1
                        have z2 : w5.cell? ⟨w.heap.size + 1, 2, none⟩ = some (.string ⟨#[]⟩) := Lib.cell_of_heap HZ5.out 2
                        have z3 : w5.cell? ⟨w.heap.size + 1, 3, none⟩ = some (.int .i64 0) := Lib.cell_of_heap HZ5.out 3
                        have z4 : w5.cell? ⟨w.heap.size + 1, 4, none⟩ = some (.int .i64 0) := Lib.cell_of_heap HZ5.out 4
                        have z5 : w5.cell? ⟨w.heap.size + 1, 5, none⟩ = some (.slice none 0 0) := Lib.cell_of_heap HZ5.out 5
                        have z6 : w5.cell? ⟨w.heap.size + 1, 6, none⟩ = some (.slice none 0 0) := Lib.cell_of_heap HZ5.out 6
                        have zf := Lib.frozen_of_heap HZ5.out
                        have HBF : Hid (Below w.heap.size w _) := set7_below HB5.out (Nat.le_succ w.heap.size) (.int .i64 0) (.int .i64 0) (.string ⟨#[]⟩) (.int .i64 0) (.int .i64 0) (.slice none 0 0) (.slice none 0 0)
                        have HHF : Hid (_ = some _) := set7 HZ5.out (.int .i64 0) (.int .i64 0) (.string ⟨#[]⟩) (.int .i64 0) (.int .i64 0) (.slice none 0 0) (.slice none 0 0)
                        go_wp2
                        clear z0 z1 z2 z3 z4 z5 z6 zf
                        generalize ((((((w5.setCell ⟨w.heap.size + 1, 0, none⟩ (.int .i64 0)).setCell ⟨w.heap.size + 1, 1, none⟩ (.int .i64 0)).setCell ⟨w.heap.size + 1, 2, none⟩ (.string ⟨#[]⟩)).setCell ⟨w.heap.size + 1, 3, none⟩ (.int .i64 0)).setCell ⟨w.heap.size + 1, 4, none⟩ (.int .i64 0)).setCell ⟨w.heap.size + 1, 5, none⟩ (.slice none 0 0)).setCell ⟨w.heap.size + 1, 6, none⟩ (.slice none 0 0) = VV at *
                        obtain ⟨v0, v1, v2, v3, v4, v5, v6⟩ := tboxed (u := (⟨0, 0, ⟨#[]⟩, 0, 0⟩, .slice none 0 0, .slice none 0 0)) HHF.out
                        dsimp only at v0 v1 v2 v3 v4 v5 v6
                        refine bodyPost_ret (v := .tuple #[zT, .int .i64 6]) (by simp [results, Tryd.results4, go_sem, v0, v1, v2, v3, v4, v5, v6]) rfl ?_
                        rw [HPO.out]
                        exact ⟨Or.inr ⟨6, rfl, Or.inr ⟨HC.out, HA.out.fail _ (fail_here HJL.out (by rw [HQJ.out]; exact Or.inr (Or.inl ⟨rfl, HPK.out, HN8.out (by simp)⟩)))⟩⟩, HBF.out⟩
                      | true =>
                        have l0 : w5.cell? ⟨mb, 0, none⟩ = some (.int .i64 mk) := Lib.cell_of_heap HM5.out 0
                        have l1 : w5.cell? ⟨mb, 1, none⟩ = some (.int .i64 mn) := Lib.cell_of_heap HM5.out 1
                        have l2 : w5.cell? ⟨mb, 2, none⟩ = some (.string mt) := Lib.cell_of_heap HM5.out 2
                        have l3 : w5.cell? ⟨mb, 3, none⟩ = some (.int .i64 mo) := Lib.cell_of_heap HM5.out 3
                        have l4 : w5.cell? ⟨mb, 4, none⟩ = some (.int .i64 ma) := Lib.cell_of_heap HM5.out 4
                        have l5 : w5.cell? ⟨mb, 5, none⟩ = some (.slice m1 m2 m3) := Lib.cell_of_heap HM5.out 5
                        have l6 : w5.cell? ⟨mb, 6, none⟩ = some (.slice m4 m5 m6) := Lib.cell_of_heap HM5.out 6
                        have t0 : w5.cell? ⟨w.heap.size, 0, none⟩ = some (.int .i64 xk) := Lib.cell_of_heap HX5.out 0
                        have t1 : w5.cell? ⟨w.heap.size, 1, none⟩ = some (.int .i64 xn) := Lib.cell_of_heap HX5.out 1
                        have t2 : w5.cell? ⟨w.heap.size, 2, none⟩ = some (.string xt) := Lib.cell_of_heap HX5.out 2
                        have t3 : w5.cell? ⟨w.heap.size, 3, none⟩ = some (.int .i64 xo) := Lib.cell_of_heap HX5.out 3
                        have t4 : w5.cell? ⟨w.heap.size, 4, none⟩ = some (.int .i64 xa) := Lib.cell_of_heap HX5.out 4
                        have t5 : w5.cell? ⟨w.heap.size, 5, none⟩ = some (.slice x1 x2 x3) := Lib.cell_of_heap HX5.out 5
                        have t6 : w5.cell? ⟨w.heap.size, 6, none⟩ = some (.slice x4 x5 x6) := Lib.cell_of_heap HX5.out 6
                        have tf := Lib.frozen_of_heap HX5.out
                        have HX6 : Hid ((((((((w5.setCell ⟨w.heap.size, 0, none⟩ (.int .i64 mk)).setCell ⟨w.heap.size, 1, none⟩ (.int .i64 mn)).setCell ⟨w.heap.size, 2, none⟩ (.string mt)).setCell ⟨w.heap.size, 3, none⟩ (.int .i64 mo)).setCell ⟨w.heap.size, 4, none⟩ (.int .i64 ma)).setCell ⟨w.heap.size, 5, none⟩ (.slice m1 m2 m3)).setCell ⟨w.heap.size, 6, none⟩ (.slice m4 m5 m6)).heap[w.heap.size]? = some (.cells #[.int .i64 mk, .int .i64 mn, .string mt, .int .i64 mo, .int .i64 ma, .slice m1 m2 m3, .slice m4 m5 m6] 29)) := set7 HX5.out (.int .i64 mk) (.int .i64 mn) (.string mt) (.int .i64 mo) (.int .i64 ma) (.slice m1 m2 m3) (.slice m4 m5 m6)
                        have HZ6 : Hid ((((((((w5.setCell ⟨w.heap.size, 0, none⟩ (.int .i64 mk)).setCell ⟨w.heap.size, 1, none⟩ (.int .i64 mn)).setCell ⟨w.heap.size, 2, none⟩ (.string mt)).setCell ⟨w.heap.size, 3, none⟩ (.int .i64 mo)).setCell ⟨w.heap.size, 4, none⟩ (.int .i64 ma)).setCell ⟨w.heap.size, 5, none⟩ (.slice m1 m2 m3)).setCell ⟨w.heap.size, 6, none⟩ (.slice m4 m5 m6)).heap[w.heap.size + 1]? = some (.cells #[.int .i64 0, .int .i64 0, .string ⟨#[]⟩, .int .i64 0, .int .i64 0, .slice none 0 0, .slice none 0 0] 29)) := set7_other HZ5.out (by omega) (.int .i64 mk) (.int .i64 mn) (.string mt) (.int .i64 mo) (.int .i64 ma) (.slice m1 m2 m3) (.slice m4 m5 m6)
                        have HB6 : Hid (Below w.heap.size w (((((((w5.setCell ⟨w.heap.size, 0, none⟩ (.int .i64 mk)).setCell ⟨w.heap.size, 1, none⟩ (.int .i64 mn)).setCell ⟨w.heap.size, 2, none⟩ (.string mt)).setCell ⟨w.heap.size, 3, none⟩ (.int .i64 mo)).setCell ⟨w.heap.size, 4, none⟩ (.int .i64 ma)).setCell ⟨w.heap.size, 5, none⟩ (.slice m1 m2 m3)).setCell ⟨w.heap.size, 6, none⟩ (.slice m4 m5 m6))) := set7_below HB5.out (Nat.le_refl _) (.int .i64 mk) (.int .i64 mn) (.string mt) (.int .i64 mo) (.int .i64 ma) (.slice m1 m2 m3) (.slice m4 m5 m6)
                        have HI6 : Hid (IsTP (fun b => b < w.heap.size ∨ w.heap.size + 2 ≤ b) (((((((w5.setCell ⟨w.heap.size, 0, none⟩ (.int .i64 mk)).setCell ⟨w.heap.size, 1, none⟩ (.int .i64 mn)).setCell ⟨w.heap.size, 2, none⟩ (.string mt)).setCell ⟨w.heap.size, 3, none⟩ (.int .i64 mo)).setCell ⟨w.heap.size, 4, none⟩ (.int .i64 ma)).setCell ⟨w.heap.size, 5, none⟩ (.slice m1 m2 m3)).setCell ⟨w.heap.size, 6, none⟩ (.slice m4 m5 m6)) (tval (⟨mk, mn, mt, mo, ma⟩, .slice m1 m2 m3, .slice m4 m5 m6)) X8) := by
                          have h8 : IsTP (fun b => b < w.heap.size ∨ w.heap.size + 2 ≤ b) (put7 w5 w.heap.size 0 (⟨mk, mn, mt, mo, ma⟩, .slice m1 m2 m3, .slice m4 m5 m6)) (tval (⟨mk, mn, mt, mo, ma⟩, .slice m1 m2 m3, .slice m4 m5 m6)) X8 := HI5.out.move (put7_below (Below.refl 0 w5) _ _ _ (Nat.zero_le _)).size (fun b hb _ => put7_other w5 _ _ _ b (by omega)) (fun _ h => h)
                          dsimp only [put7, Nat.zero_add] at h8
                          exact h8
                        go_upto_region 21 with fail
                        clear l0 l1 l2 l3 l4 l5 l6 t0 t1 t2 t3 t4 t5 t6 tf HX5 HZ5 HB5 HI5 HM5
                        generalize ((((((w5.setCell ⟨w.heap.size, 0, none⟩ (.int .i64 mk)).setCell ⟨w.heap.size, 1, none⟩ (.int .i64 mn)).setCell ⟨w.heap.size, 2, none⟩ (.string mt)).setCell ⟨w.heap.size, 3, none⟩ (.int .i64 mo)).setCell ⟨w.heap.size, 4, none⟩ (.int .i64 ma)).setCell ⟨w.heap.size, 5, none⟩ (.slice m1 m2 m3)).setCell ⟨w.heap.size, 6, none⟩ (.slice m4 m5 m6) = w6 at *
                        have t0 : w6.cell? ⟨w.heap.size, 0, none⟩ = some (.int .i64 mk) := Lib.cell_of_heap HX6.out 0
                        have t1 : w6.cell? ⟨w.heap.size, 1, none⟩ = some (.int .i64 mn) := Lib.cell_of_heap HX6.out 1
                        have t2 : w6.cell? ⟨w.heap.size, 2, none⟩ = some (.string mt) := Lib.cell_of_heap HX6.out 2
                        have t3 : w6.cell? ⟨w.heap.size, 3, none⟩ = some (.int .i64 mo) := Lib.cell_of_heap HX6.out 3
                        have t4 : w6.cell? ⟨w.heap.size, 4, none⟩ = some (.int .i64 ma) := Lib.cell_of_heap HX6.out 4
                        have t5 : w6.cell? ⟨w.heap.size, 5, none⟩ = some (.slice m1 m2 m3) := Lib.cell_of_heap HX6.out 5
                        have t6 : w6.cell? ⟨w.heap.size, 6, none⟩ = some (.slice m4 m5 m6) := Lib.cell_of_heap HX6.out 6
                        have EC := count_any HI6.out.plain w6 400 (Nat.le_refl _) (Below.refl _ _)
                        obtain ⟨cn, hcn⟩ : ∃ cn : Int, ((min X8.size (400 + 1) : Nat) : Int) = cn := ⟨_, rfl⟩
                        rw [hcn] at EC
                        have HCN : Hid (((min X8.size (400 + 1) : Nat) : Int) = cn) := hcn
                        clear hcn
                        unfold tval at EC
                        dsimp only at EC
                        go_wp2_with fail
                        go_fit EC
                        rintro e w7 ⟨rfl, b7⟩
                        have HX7 : Hid (w7.heap[w.heap.size]? = some (.cells #[.int .i64 mk, .int .i64 mn, .string mt, .int .i64 mo, .int .i64 ma, .slice m1 m2 m3, .slice m4 m5 m6] 29)) := (b7.block _ (lt_of_heap HX6.out)).trans HX6.out
                        have HZ7 : Hid (w7.heap[w.heap.size + 1]? = some (.cells #[.int .i64 0, .int .i64 0, .string ⟨#[]⟩, .int .i64 0, .int .i64 0, .slice none 0 0, .slice none 0 0] 29)) := (b7.block _ (lt_of_heap HZ6.out)).trans HZ6.out
                        have HB7 : Hid (Below w.heap.size w w7) := HB6.out.trans (b7.mono HB6.out.size)
                        have HI7 : Hid (IsTP (fun b => b < w.heap.size ∨ w.heap.size + 2 ≤ b) w7 (tval (⟨mk, mn, mt, mo, ma⟩, .slice m1 m2 m3, .slice m4 m5 m6)) X8) := HI6.out.move b7.size (fun b _ h2 => b7.block b h2) (fun _ h => h)
                        clear b7 EC t0 t1 t2 t3 t4 t5 t6 HX6 HZ6 HB6 HI6
                        by_cases h400 : 400 < cn
                        · have HBG : Hid (400 < X8.size) := by
                            show _ < _
                            have := HCN.out
                            omega
                          have z0 : w7.cell? ⟨w.heap.size + 1, 0, none⟩ = some (.int .i64 0) := Lib.cell_of_heap HZ7.out 0
                          have z1 : w7.cell? ⟨w.heap.size + 1, 1, none⟩ = some (.int .i64 0) := Lib.cell_of_heap HZ7.out 1
                          have z2 : w7.cell? ⟨w.heap.size + 1, 2, none⟩ = some (.string ⟨#[]⟩) := Lib.cell_of_heap HZ7.out 2
                          have z3 : w7.cell? ⟨w.heap.size + 1, 3, none⟩ = some (.int .i64 0) := Lib.cell_of_heap HZ7.out 3
                          have z4 : w7.cell? ⟨w.heap.size + 1, 4, none⟩ = some (.int .i64 0) := Lib.cell_of_heap HZ7.out 4
                          have z5 : w7.cell? ⟨w.heap.size + 1, 5, none⟩ = some (.slice none 0 0) := Lib.cell_of_heap HZ7.out 5
                          have z6 : w7.cell? ⟨w.heap.size + 1, 6, none⟩ = some (.slice none 0 0) := Lib.cell_of_heap HZ7.out 6
                          have zf := Lib.frozen_of_heap HZ7.out
                          have HBF : Hid (Below w.heap.size w _) := set7_below HB7.out (Nat.le_succ w.heap.size) (.int .i64 0) (.int .i64 0) (.string ⟨#[]⟩) (.int .i64 0) (.int .i64 0) (.slice none 0 0) (.slice none 0 0)
                          have HHF : Hid (_ = some _) := set7 HZ7.out (.int .i64 0) (.int .i64 0) (.string ⟨#[]⟩) (.int .i64 0) (.int .i64 0) (.slice none 0 0) (.slice none 0 0)
                          go_wp2
                          clear z0 z1 z2 z3 z4 z5 z6 zf
                          generalize ((((((w7.setCell ⟨w.heap.size + 1, 0, none⟩ (.int .i64 0)).setCell ⟨w.heap.size + 1, 1, none⟩ (.int .i64 0)).setCell ⟨w.heap.size + 1, 2, none⟩ (.string ⟨#[]⟩)).setCell ⟨w.heap.size + 1, 3, none⟩ (.int .i64 0)).setCell ⟨w.heap.size + 1, 4, none⟩ (.int .i64 0)).setCell ⟨w.heap.size + 1, 5, none⟩ (.slice none 0 0)).setCell ⟨w.heap.size + 1, 6, none⟩ (.slice none 0 0) = VV at *
                          obtain ⟨v0, v1, v2, v3, v4, v5, v6⟩ := tboxed (u := (⟨0, 0, ⟨#[]⟩, 0, 0⟩, .slice none 0 0, .slice none 0 0)) HHF.out
                          dsimp only at v0 v1 v2 v3 v4 v5 v6
                          refine bodyPost_ret (v := .tuple #[zT, .int .i64 4]) (by simp [results, Tryd.results4, go_sem, v0, v1, v2, v3, v4, v5, v6]) rfl ?_
                          rw [HPO.out]
                          exact ⟨Or.inr ⟨4, rfl, Or.inr ⟨HC.out, HA.out.fail _ (fail_here HJL.out (by rw [HQJ.out]; exact Or.inr (Or.inr ⟨rfl, HPK.out, X8, HY8.out (by simp), HBG.out⟩)))⟩⟩, HBF.out⟩
                        · have HAN : Hid (AheadH w T L (j + 1) X8 (⟨mk, mn, mt, mo, ma⟩, .slice m1 m2 m3, .slice m4 m5 m6) w7) := by
                            have hsz : X8.size ≤ 400 := by have := HCN.out; omega
                            have hU := HY8.out (by simp)
                            have hst := done_snoc HJL.out (Tj := Tj) (T1 := X8) (by rw [HQJ.out]; exact HPK.out) (by rw [HQJ.out]; exact hU) hsz
                            exact ⟨HX7.out, HZ7.out, HI7.out, updk_formed (pat_parts HPK.out).2.1 _ _ _ hU HA.out.formed (pat_parts HPK.out).2.2, hsz, HB7.out, fun T2 h9 => HA.out.done _ (hst.1 _ h9), fun c h9 => HA.out.fail _ (hst.2 _ h9)⟩
                          go_upto_region 6 with fail
                          clear h400
                          have hjlt := HLT.out.1
                          have hsm : (j : Int) + 1 ≤ 8796093022208 := by have := HPN.out; have := HQZ.out.2; omega
                          go_wp2_with fail
                          go_roundw
                          case rel => exact ⟨j + 1, X8, _, by omega, by go_num, HAN⟩
                          case measure => simp [intOf]; omega
      · have hjn : j = pn := by omega
        subst hjn
        have b0 : wr.cell? ⟨w.heap.size, 0, none⟩ = some (.int .i64 xk) := Lib.cell_of_heap HA.out.box 0
        have b1 : wr.cell? ⟨w.heap.size, 1, none⟩ = some (.int .i64 xn) := Lib.cell_of_heap HA.out.box 1
        have b2 : wr.cell? ⟨w.heap.size, 2, none⟩ = some (.string xt) := Lib.cell_of_heap HA.out.box 2
        have b3 : wr.cell? ⟨w.heap.size, 3, none⟩ = some (.int .i64 xo) := Lib.cell_of_heap HA.out.box 3
        have b4 : wr.cell? ⟨w.heap.size, 4, none⟩ = some (.int .i64 xa) := Lib.cell_of_heap HA.out.box 4
        have b5 : wr.cell? ⟨w.heap.size, 5, none⟩ = some (.slice x1 x2 x3) := Lib.cell_of_heap HA.out.box 5
        have b6 : wr.cell? ⟨w.heap.size, 6, none⟩ = some (.slice x4 x5 x6) := Lib.cell_of_heap HA.out.box 6
        have z0 : wr.cell? ⟨w.heap.size + 1, 0, none⟩ = some (.int .i64 0) := Lib.cell_of_heap HA.out.zero 0
        have z1 : wr.cell? ⟨w.heap.size + 1, 1, none⟩ = some (.int .i64 0) := Lib.cell_of_heap HA.out.zero 1
        have z2 : wr.cell? ⟨w.heap.size + 1, 2, none⟩ = some (.string ⟨#[]⟩) := Lib.cell_of_heap HA.out.zero 2
        have z3 : wr.cell? ⟨w.heap.size + 1, 3, none⟩ = some (.int .i64 0) := Lib.cell_of_heap HA.out.zero 3
        have z4 : wr.cell? ⟨w.heap.size + 1, 4, none⟩ = some (.int .i64 0) := Lib.cell_of_heap HA.out.zero 4
        have z5 : wr.cell? ⟨w.heap.size + 1, 5, none⟩ = some (.slice none 0 0) := Lib.cell_of_heap HA.out.zero 5
        have z6 : wr.cell? ⟨w.heap.size + 1, 6, none⟩ = some (.slice none 0 0) := Lib.cell_of_heap HA.out.zero 6
        have zf := Lib.frozen_of_heap HA.out.zero
        have HBF : Hid (Below w.heap.size w (put7 wr (w.heap.size + 1) 0 (⟨xk, xn, xt, xo, xa⟩, .slice x1 x2 x3, .slice x4 x5 x6))) := put7_below HA.out.below _ _ _ (Nat.le_succ _)
        have HHF : Hid ((put7 wr (w.heap.size + 1) 0 (⟨xk, xn, xt, xo, xa⟩, .slice x1 x2 x3, .slice x4 x5 x6)).heap[w.heap.size + 1]? = some _) := set7 HA.out.zero (.int .i64 xk) (.int .i64 xn) (.string xt) (.int .i64 xo) (.int .i64 xa) (.slice x1 x2 x3) (.slice x4 x5 x6)
        have HIF : Hid (IsT (put7 wr (w.heap.size + 1) 0 (⟨xk, xn, xt, xo, xa⟩, .slice x1 x2 x3, .slice x4 x5 x6)) (tval (⟨xk, xn, xt, xo, xa⟩, .slice x1 x2 x3, .slice x4 x5 x6)) Tj) := IsTG.plain (HA.out.tree.move (P' := fun _ => True) (put7_below (Below.refl 0 wr) _ _ _ (Nat.zero_le _)).size (fun b hb _ => put7_other wr _ _ _ b (by omega)) (fun _ _ => trivial))
        have HDN : Hid (DoneK T L Tj) := HA.out.done _ (by rw [List.drop_eq_nil_of_le (by have := HPN.out; omega)]; exact rfl)
        clear hlt hj HA
        go_wp2
        clear z0 z1 z2 z3 z4 z5 z6 zf b0 b1 b2 b3 b4 b5 b6
        dsimp only [put7, Nat.zero_add] at HBF HHF HIF
        generalize ((((((wr.setCell ⟨w.heap.size + 1, 0, none⟩ (.int .i64 xk)).setCell ⟨w.heap.size + 1, 1, none⟩ (.int .i64 xn)).setCell ⟨w.heap.size + 1, 2, none⟩ (.string xt)).setCell ⟨w.heap.size + 1, 3, none⟩ (.int .i64 xo)).setCell ⟨w.heap.size + 1, 4, none⟩ (.int .i64 xa)).setCell ⟨w.heap.size + 1, 5, none⟩ (.slice x1 x2 x3)).setCell ⟨w.heap.size + 1, 6, none⟩ (.slice x4 x5 x6) = VV at *
        obtain ⟨v0, v1, v2, v3, v4, v5, v6⟩ := tboxed (u := (⟨xk, xn, xt, xo, xa⟩, .slice x1 x2 x3, .slice x4 x5 x6)) HHF.out
        dsimp only at v0 v1 v2 v3 v4 v5 v6
        refine bodyPost_ret (v := .tuple #[tval (⟨xk, xn, xt, xo, xa⟩, .slice x1 x2 x3, .slice x4 x5 x6), .int .i64 0]) (by simp [tval, results, Tryd.results4, go_sem, v0, v1, v2, v3, v4, v5, v6]) rfl ?_
        rw [HPO.out]
        exact ⟨Or.inl ⟨Tj, _, rfl, HC.out, HDN.out, HIF.out⟩, HBF.out⟩
  · go_enter Tryd.func4, Tryd.ntmps4
    go_wp2_with fail
    go_fit E1
    rintro e w1 ⟨rfl, b1⟩
    have HZ1 : Hid (w1.heap[w.heap.size + 1]? = some (.cells #[.int .i64 0, .int .i64 0, .string ⟨#[]⟩, .int .i64 0, .int .i64 0, .slice none 0 0, .slice none 0 0] 29)) := (b1.block _ (lt_of_heap HY.out)).trans HY.out
    have HB1 : Hid (Below w.heap.size w w1) := HB.out.trans (b1.mono HB.out.size)
    have HCN : Hid (ct ≠ 0) := hc
    have hc' : (ct == 0) = false := by simpa using hc
    have hcn : (ct != 0) = true := by simpa using hc
    clear b1 E1 hc HX HY HB
    have z0 : w1.cell? ⟨w.heap.size + 1, 0, none⟩ = some (.int .i64 0) := Lib.cell_of_heap HZ1.out 0
    have z1 : w1.cell? ⟨w.heap.size + 1, 1, none⟩ = some (.int .i64 0) := Lib.cell_of_heap HZ1.out 1
    have z2 : w1.cell? ⟨w.heap.size + 1, 2, none⟩ = some (.string ⟨#[]⟩) := Lib.cell_of_heap HZ1.out 2
    have z3 : w1.cell? ⟨w.heap.size + 1, 3, none⟩ = some (.int .i64 0) := Lib.cell_of_heap HZ1.out 3
    have z4 : w1.cell? ⟨w.heap.size + 1, 4, none⟩ = some (.int .i64 0) := Lib.cell_of_heap HZ1.out 4
    have z5 : w1.cell? ⟨w.heap.size + 1, 5, none⟩ = some (.slice none 0 0) := Lib.cell_of_heap HZ1.out 5
    have z6 : w1.cell? ⟨w.heap.size + 1, 6, none⟩ = some (.slice none 0 0) := Lib.cell_of_heap HZ1.out 6
    have zf := Lib.frozen_of_heap HZ1.out
    have HBF : Hid (Below w.heap.size w _) := set7_below HB1.out (Nat.le_succ w.heap.size) (.int .i64 0) (.int .i64 0) (.string ⟨#[]⟩) (.int .i64 0) (.int .i64 0) (.slice none 0 0) (.slice none 0 0)
    have HHF : Hid (_ = some _) := set7 HZ1.out (.int .i64 0) (.int .i64 0) (.string ⟨#[]⟩) (.int .i64 0) (.int .i64 0) (.slice none 0 0) (.slice none 0 0)
    go_wp2
    clear z0 z1 z2 z3 z4 z5 z6 zf
    generalize ((((((w1.setCell ⟨w.heap.size + 1, 0, none⟩ (.int .i64 0)).setCell ⟨w.heap.size + 1, 1, none⟩ (.int .i64 0)).setCell ⟨w.heap.size + 1, 2, none⟩ (.string ⟨#[]⟩)).setCell ⟨w.heap.size + 1, 3, none⟩ (.int .i64 0)).setCell ⟨w.heap.size + 1, 4, none⟩ (.int .i64 0)).setCell ⟨w.heap.size + 1, 5, none⟩ (.slice none 0 0)).setCell ⟨w.heap.size + 1, 6, none⟩ (.slice none 0 0) = VV at *
    obtain ⟨v0, v1, v2, v3, v4, v5, v6⟩ := tboxed (u := (⟨0, 0, ⟨#[]⟩, 0, 0⟩, .slice none 0 0, .slice none 0 0)) HHF.out
    dsimp only at v0 v1 v2 v3 v4 v5 v6
    refine bodyPost_ret (v := .tuple #[zT, .int .i64 ct]) (by simp [results, Tryd.results4, go_sem, v0, v1, v2, v3, v4, v5, v6]) rfl ?_
    rw [HPO.out]
    exact ⟨Or.inr ⟨ct, rfl, Or.inl ⟨by rw [HCT.out]; exact HCN.out, HCT.out.symm⟩⟩, HBF.out⟩
end Go.Proofs.YtegbjkjeoegfbaaDoor
