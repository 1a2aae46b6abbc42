/-
  What is proved: the function Get of package json, called with a tree and a path that lie in memory, answers a copy of the tree at the path's end, or which error there is.
  Conditions: both lie in memory.
-/
import Derived.Test.YtnoikdlofkcgaaaGreatDoorJCopy
namespace Go.Proofs.YtnoikdlofkcgaaaGreatDoor
open Go.RowKit Go.Sort

/-- The zero tree. -/
def zJ : JT := .node ⟨0, 0, ⟨#[]⟩, 0, 0⟩ [] []
/-- Which error there is. -/
def resE (T : JT) (l : List Stp) : Int := if chkT T = 0 then (if (getT T l).isSome = true then 0 else 6) else chkT T
/-- Which tree is answered. -/
def resT (T : JT) (l : List Stp) : JT := if chkT T = 0 then (getT T l).getD zJ else zJ
/-- An error. -/
def errV (e : Int) : Value := if e = 0 then .nilIface else .iface 44 (.int .i64 e)
theorem zJ_at (w : World) : IsT w zT zJ :=
  IsTG.mk ⟨0, 0, ⟨#[]⟩, 0, 0⟩ [] [] (.slice none 0 0) none 0 [] ⟨none, 0, rfl, ⟨Nat.le_refl _, fun _ => rfl⟩, Nat.zero_le _, fun h => absurd rfl h⟩ rfl ⟨Nat.le_refl _, fun _ => rfl⟩ (Nat.zero_le _) (fun h => absurd rfl h) (fun _ hi => absurd hi (Nat.not_lt_zero _))
theorem chkT_zero {T : JT} (h : chkT T = 0) : formedB T = true ∧ T.size ≤ 400 := by
  unfold chkT at h
  by_cases h1 : 400 < T.size
  · rw [if_pos h1] at h; omega
  · rw [if_neg h1] at h
    by_cases h2 : formedB T = true
    · exact ⟨h2, by omega⟩
    · rw [if_neg h2] at h; omega
theorem getT_ok {T t : JT} {l : List Stp} (h : getT T l = some t) (hf : formedB T = true) (hs : T.size ≤ 400) : formedB t = true ∧ t.size ≤ 400 := by
  induction l generalizing T with
  | nil => rw [getT] at h; obtain rfl := Option.some.inj h; exact ⟨hf, hs⟩
  | cons s r ih =>
    rw [getT] at h
    obtain ⟨u, h1, h2⟩ := Option.bind_eq_some_iff.1 h
    unfold step1 at h1
    obtain ⟨i, _, h4⟩ := Option.bind_eq_some_iff.1 h1
    have hm := List.mem_of_getElem? h4
    exact ih h2 ((formed_node hf).2 u hm) ((few_kids hf hs).2.2 u hm)
/-- What Get answers. -/
def GetJP (w : World) (T : JT) (l : List Stp) (e : Ending) : Prop := ∃ v, e = .returned (.tuple #[v, errV (resE T l)]) ∧ IsT w v (resT T l)

set_option maxRecDepth 100000 in
set_option maxHeartbeats 8000000 in
theorem getJ_any {v p : Value} {T : JT} {l : List Stp} (w : World) (h : IsT w v T) (hp : IsSteps w p l) :
    Calls Tryz.prog 8 #[v, p] w fun e w' => GetJP w' T l e ∧ Below w.heap.size w w' := by
  obtain ⟨u, rfl⟩ := h.of_val
  obtain ⟨N⟩ := h.node
  obtain ⟨a1, c1, a2, c2, us, hu, -, -, -, -, -, -⟩ := N
  subst hu
  have hpf : ∃ pa pn pc, p = .slice pa pn pc := by obtain ⟨a, c, e, _⟩ := hp; exact ⟨_, _, _, e⟩
  obtain ⟨pa, pn, pc, rfl⟩ := hpf
  obtain ⟨x0, y0, b0⟩ := two_boxes w (.cells #[.int .i64 T.x.k, .int .i64 T.x.n, .string T.x.t, .int .i64 T.x.o, .int .i64 T.x.a, .slice a1 T.ks.length c1, .slice a2 T.ts.length c2] 29) (.cells #[.int .i64 0, .int .i64 0, .string ⟨#[]⟩, .int .i64 0, .int .i64 0, .slice none 0 0, .slice none 0 0] 29)
  have E1 := checkT_any _ (h.stay b0)
  have HT : Hid (IsT w (tval (T.x, .slice a1 T.ks.length c1, .slice a2 T.ts.length c2)) T) := h
  have HP : Hid (IsSteps w (.slice pa pn pc) l) := hp
  have HE : Hid (resE T l = if chkT T = 0 then (if (getT T l).isSome = true then 0 else 6) else chkT T) := rfl
  have HR : Hid (resT T l = if chkT T = 0 then (getT T l).getD zJ else zJ) := rfl
  have HZ : Hid (chkT T = 0 → formedB T = true ∧ T.size ≤ 400) := chkT_zero
  have HX : Hid (_ = some (Obj.cells #[.int .i64 T.x.k, .int .i64 T.x.n, .string T.x.t, .int .i64 T.x.o, .int .i64 T.x.a, .slice a1 T.ks.length c1, .slice a2 T.ts.length c2] 29)) := x0
  have HY : Hid (_ = some (Obj.cells #[.int .i64 0, .int .i64 0, .string ⟨#[]⟩, .int .i64 0, .int .i64 0, .slice none 0 0, .slice none 0 0] 29)) := y0
  have HB : Hid (Below w.heap.size w _) := b0
  clear h hp x0 y0 b0
  unfold tval at E1 ⊢
  dsimp only at E1 ⊢
  by_cases hc : chkT T = 0
  · rw [if_pos hc] at E1
    have HC : Hid (chkT T = 0) := hc
    clear hc
    go_enter Tryz.func8, Tryz.ntmps8
    go_wp2_with fail
    go_fit E1
    rintro e w1 ⟨rfl, b1⟩
    have HX1 : Hid (w1.heap[w.heap.size]? = some _) := (b1.block _ (lt_of_heap HX.out)).trans HX.out
    have HY1 : Hid (w1.heap[w.heap.size + 1]? = some _) := (b1.block _ (lt_of_heap HY.out)).trans HY.out
    have HB1 : Hid (Below w.heap.size w w1) := HB.out.trans (b1.mono HB.out.size)
    clear b1 E1 HX HY HB
    have E2 := follow_any w1 (b0 := w.heap.size) (o0 := 0) ⟨lt_of_heap HX1.out, tboxed (u := (T.x, .slice a1 T.ks.length c1, .slice a2 T.ts.length c2)) HX1.out⟩ (HT.out.stay HB1.out) (HP.out.below HB1.out) (HZ.out HC.out).1
    go_wp2_with fail
    go_fit E2
    rintro e w2 ⟨hF, b2⟩
    have HY2 : Hid (w2.heap[w.heap.size + 1]? = some _) := (b2.block _ (lt_of_heap HY1.out)).trans HY1.out
    have HB2 : Hid (Below w.heap.size w w2) := HB1.out.trans (b2.mono HB1.out.size)
    clear E2
    rcases hF with ⟨t, b, o, uu, hq, rfl, hTA, hTT⟩ | ⟨hq, rfl⟩
    · have hok := getT_ok hq (HZ.out HC.out).1 (HZ.out HC.out).2
      have hTT2 := hTT.stay b2
      obtain ⟨-, k0, k1, k2, k3, k4, k5, k6⟩ := hTA.below b2
      obtain ⟨⟨xk, xn, xt, xo, xa⟩, f1, g1, h1, f2, g2, h2, huu⟩ := hTT2.parts
      subst huu
      have E3 := copyOf_any hTT2 w2 (Below.refl _ _) hok.1 hok.2
      dsimp only [tval] at E3 k0 k1 k2 k3 k4 k5 k6
      have HRE : Hid (resE T l = 0) := by show resE T l = 0; rw [HE.out, if_pos HC.out, hq]; rfl
      have HRT : Hid (resT T l = t) := by show resT T l = t; rw [HR.out, if_pos HC.out, hq]; rfl
      clear hTA hTT hTT2 hok hq b2
      go_wp2_with fail
      go_fit E3
      rintro e w3 ⟨⟨v3, rfl, hT3⟩, b3⟩
      have HY3 : Hid (w3.heap[w.heap.size + 1]? = some (.cells #[.int .i64 0, .int .i64 0, .string ⟨#[]⟩, .int .i64 0, .int .i64 0, .slice none 0 0, .slice none 0 0] 29)) := (b3.block _ (lt_of_heap HY2.out)).trans HY2.out
      have HB3 : Hid (Below w.heap.size w w3) := HB2.out.trans (b3.mono HB2.out.size)
      obtain ⟨u3, rfl⟩ := hT3.tree.of_val
      obtain ⟨⟨yk, yn, yt, yo, ya⟩, i1, j1, l1, i2, j2, l2, hu3⟩ := hT3.tree.parts
      subst hu3
      have z2s := HB2.out.size
      have hlow : w.heap.size + 2 ≤ w2.heap.size := by have := lt_of_heap HY2.out; omega
      have HT4 : Hid (IsTH (w.heap.size + 2) w3 (tval (⟨yk, yn, yt, yo, ya⟩, .slice i1 j1 l1, .slice i2 j2 l2)) t) := hT3.mono hlow
      have HFF : Hid (From (w.heap.size + 2) w3 (put7 w3 (w.heap.size + 1) 0 (⟨yk, yn, yt, yo, ya⟩, .slice i1 j1 l1, .slice i2 j2 l2))) := ⟨(put7_below (Below.refl 0 w3) _ _ _ (Nat.zero_le _)).size, fun k hk _ => put7_other w3 _ _ _ k (by omega)⟩
      have HBF : Hid (Below w.heap.size w (put7 w3 (w.heap.size + 1) 0 (⟨yk, yn, yt, yo, ya⟩, .slice i1 j1 l1, .slice i2 j2 l2))) := put7_below HB3.out _ _ _ (Nat.le_succ _)
      have HHF : Hid ((put7 w3 (w.heap.size + 1) 0 (⟨yk, yn, yt, yo, ya⟩, .slice i1 j1 l1, .slice i2 j2 l2)).heap[w.heap.size + 1]? = some _) := set7 HY3.out (.int .i64 yk) (.int .i64 yn) (.string yt) (.int .i64 yo) (.int .i64 ya) (.slice i1 j1 l1) (.slice i2 j2 l2)
      have z0 : w3.cell? ⟨w.heap.size + 1, 0, none⟩ = some (.int .i64 0) := Lib.cell_of_heap HY3.out 0
      have z1 : w3.cell? ⟨w.heap.size + 1, 1, none⟩ = some (.int .i64 0) := Lib.cell_of_heap HY3.out 1
      have z2 : w3.cell? ⟨w.heap.size + 1, 2, none⟩ = some (.string ⟨#[]⟩) := Lib.cell_of_heap HY3.out 2
      have z3 : w3.cell? ⟨w.heap.size + 1, 3, none⟩ = some (.int .i64 0) := Lib.cell_of_heap HY3.out 3
      have z4 : w3.cell? ⟨w.heap.size + 1, 4, none⟩ = some (.int .i64 0) := Lib.cell_of_heap HY3.out 4
      have z5 : w3.cell? ⟨w.heap.size + 1, 5, none⟩ = some (.slice none 0 0) := Lib.cell_of_heap HY3.out 5
      have z6 : w3.cell? ⟨w.heap.size + 1, 6, none⟩ = some (.slice none 0 0) := Lib.cell_of_heap HY3.out 6
      have zf := Lib.frozen_of_heap HY3.out
      clear hT3 b3 E3 k0 k1 k2 k3 k4 k5 k6 z2s hlow
      dsimp only [tval]
      go_wp2
      clear z0 z1 z2 z3 z4 z5 z6 zf
      dsimp only [put7, Nat.zero_add] at HFF HBF HHF
      generalize ((((((w3.setCell ⟨w.heap.size + 1, 0, none⟩ (.int .i64 yk)).setCell ⟨w.heap.size + 1, 1, none⟩ (.int .i64 yn)).setCell ⟨w.heap.size + 1, 2, none⟩ (.string yt)).setCell ⟨w.heap.size + 1, 3, none⟩ (.int .i64 yo)).setCell ⟨w.heap.size + 1, 4, none⟩ (.int .i64 ya)).setCell ⟨w.heap.size + 1, 5, none⟩ (.slice i1 j1 l1)).setCell ⟨w.heap.size + 1, 6, none⟩ (.slice i2 j2 l2) = V at *
      obtain ⟨q0, q1, q2, q3, q4, q5, q6⟩ := tboxed (u := (⟨yk, yn, yt, yo, ya⟩, .slice i1 j1 l1, .slice i2 j2 l2)) HHF.out
      dsimp only at q0 q1 q2 q3 q4 q5 q6
      refine bodyPost_ret (v := .tuple #[tval (⟨yk, yn, yt, yo, ya⟩, .slice i1 j1 l1, .slice i2 j2 l2), .nilIface]) (by simp [tval, results, Tryz.results8, go_sem, q0, q1, q2, q3, q4, q5, q6]) rfl ⟨⟨_, by rw [HRE.out]; rfl, ?_⟩, HBF.out⟩
      rw [HRT.out]
      exact (HT4.out.keep HFF.out).tree
    · have HRE : Hid (resE T l = 6) := by show resE T l = 6; rw [HE.out, if_pos HC.out, hq]; rfl
      have HRT : Hid (resT T l = zJ) := by show resT T l = zJ; rw [HR.out, if_pos HC.out, hq]; rfl
      clear hq b2
      have z0 : w2.cell? ⟨w.heap.size + 1, 0, none⟩ = some (.int .i64 0) := Lib.cell_of_heap HY2.out 0
      have z1 : w2.cell? ⟨w.heap.size + 1, 1, none⟩ = some (.int .i64 0) := Lib.cell_of_heap HY2.out 1
      have z2 : w2.cell? ⟨w.heap.size + 1, 2, none⟩ = some (.string ⟨#[]⟩) := Lib.cell_of_heap HY2.out 2
      have z3 : w2.cell? ⟨w.heap.size + 1, 3, none⟩ = some (.int .i64 0) := Lib.cell_of_heap HY2.out 3
      have z4 : w2.cell? ⟨w.heap.size + 1, 4, none⟩ = some (.int .i64 0) := Lib.cell_of_heap HY2.out 4
      have z5 : w2.cell? ⟨w.heap.size + 1, 5, none⟩ = some (.slice none 0 0) := Lib.cell_of_heap HY2.out 5
      have z6 : w2.cell? ⟨w.heap.size + 1, 6, none⟩ = some (.slice none 0 0) := Lib.cell_of_heap HY2.out 6
      have zf := Lib.frozen_of_heap HY2.out
      have HBF : Hid (Below w.heap.size w _) := set7_below HB2.out (Nat.le_succ w.heap.size) (.int .i64 0) (.int .i64 0) (.string ⟨#[]⟩) (.int .i64 0) (.int .i64 0) (.slice none 0 0) (.slice none 0 0)
      have HHF : Hid (_ = some _) := set7 HY2.out (.int .i64 0) (.int .i64 0) (.string ⟨#[]⟩) (.int .i64 0) (.int .i64 0) (.slice none 0 0) (.slice none 0 0)
      go_wp2
      clear z0 z1 z2 z3 z4 z5 z6 zf
      generalize ((((((w2.setCell ⟨w.heap.size + 1, 0, none⟩ (.int .i64 0)).setCell ⟨w.heap.size + 1, 1, none⟩ (.int .i64 0)).setCell ⟨w.heap.size + 1, 2, none⟩ (.string ⟨#[]⟩)).setCell ⟨w.heap.size + 1, 3, none⟩ (.int .i64 0)).setCell ⟨w.heap.size + 1, 4, none⟩ (.int .i64 0)).setCell ⟨w.heap.size + 1, 5, none⟩ (.slice none 0 0)).setCell ⟨w.heap.size + 1, 6, none⟩ (.slice none 0 0) = V at *
      obtain ⟨q0, q1, q2, q3, q4, q5, q6⟩ := tboxed (u := (⟨0, 0, ⟨#[]⟩, 0, 0⟩, .slice none 0 0, .slice none 0 0)) HHF.out
      dsimp only at q0 q1 q2 q3 q4 q5 q6
      refine bodyPost_ret (v := .tuple #[zT, .iface 44 (.int .i64 6)]) (by simp [results, Tryz.results8, go_sem, q0, q1, q2, q3, q4, q5, q6]) rfl ⟨⟨_, by rw [HRE.out]; rfl, ?_⟩, HBF.out⟩
      rw [HRT.out]
      exact zJ_at _
  · rw [if_neg hc] at E1
    have HRE : Hid (resE T l = chkT T ∧ chkT T ≠ 0) := ⟨by rw [HE.out, if_neg hc], hc⟩
    have HRT : Hid (resT T l = zJ) := by show resT T l = zJ; rw [HR.out, if_neg hc]
    clear hc HE HR HZ
    generalize chkT T = ct at *
    go_enter Tryz.func8, Tryz.ntmps8
    go_wp2_with fail
    go_fit E1
    rintro e w2 ⟨rfl, b1⟩
    have HY2 : Hid (w2.heap[w.heap.size + 1]? = some _) := (b1.block _ (lt_of_heap HY.out)).trans HY.out
    have HB2 : Hid (Below w.heap.size w w2) := HB.out.trans (b1.mono HB.out.size)
    clear b1 E1 HX HY HB
    have z0 : w2.cell? ⟨w.heap.size + 1, 0, none⟩ = some (.int .i64 0) := Lib.cell_of_heap HY2.out 0
    have z1 : w2.cell? ⟨w.heap.size + 1, 1, none⟩ = some (.int .i64 0) := Lib.cell_of_heap HY2.out 1
    have z2 : w2.cell? ⟨w.heap.size + 1, 2, none⟩ = some (.string ⟨#[]⟩) := Lib.cell_of_heap HY2.out 2
    have z3 : w2.cell? ⟨w.heap.size + 1, 3, none⟩ = some (.int .i64 0) := Lib.cell_of_heap HY2.out 3
    have z4 : w2.cell? ⟨w.heap.size + 1, 4, none⟩ = some (.int .i64 0) := Lib.cell_of_heap HY2.out 4
    have z5 : w2.cell? ⟨w.heap.size + 1, 5, none⟩ = some (.slice none 0 0) := Lib.cell_of_heap HY2.out 5
    have z6 : w2.cell? ⟨w.heap.size + 1, 6, none⟩ = some (.slice none 0 0) := Lib.cell_of_heap HY2.out 6
    have zf := Lib.frozen_of_heap HY2.out
    have HBF : Hid (Below w.heap.size w _) := set7_below HB2.out (Nat.le_succ w.heap.size) (.int .i64 0) (.int .i64 0) (.string ⟨#[]⟩) (.int .i64 0) (.int .i64 0) (.slice none 0 0) (.slice none 0 0)
    have HHF : Hid (_ = some _) := set7 HY2.out (.int .i64 0) (.int .i64 0) (.string ⟨#[]⟩) (.int .i64 0) (.int .i64 0) (.slice none 0 0) (.slice none 0 0)
    go_wp2
    clear z0 z1 z2 z3 z4 z5 z6 zf
    generalize ((((((w2.setCell ⟨w.heap.size + 1, 0, none⟩ (.int .i64 0)).setCell ⟨w.heap.size + 1, 1, none⟩ (.int .i64 0)).setCell ⟨w.heap.size + 1, 2, none⟩ (.string ⟨#[]⟩)).setCell ⟨w.heap.size + 1, 3, none⟩ (.int .i64 0)).setCell ⟨w.heap.size + 1, 4, none⟩ (.int .i64 0)).setCell ⟨w.heap.size + 1, 5, none⟩ (.slice none 0 0)).setCell ⟨w.heap.size + 1, 6, none⟩ (.slice none 0 0) = V at *
    obtain ⟨q0, q1, q2, q3, q4, q5, q6⟩ := tboxed (u := (⟨0, 0, ⟨#[]⟩, 0, 0⟩, .slice none 0 0, .slice none 0 0)) HHF.out
    dsimp only at q0 q1 q2 q3 q4 q5 q6
    refine bodyPost_ret (v := .tuple #[zT, .iface 44 (.int .i64 ct)]) (by simp [results, Tryz.results8, go_sem, q0, q1, q2, q3, q4, q5, q6]) rfl ⟨⟨_, by rw [HRE.out.1]; unfold errV; rw [if_neg HRE.out.2], ?_⟩, HBF.out⟩
    rw [HRT.out]
    exact zJ_at _
end Go.Proofs.YtnoikdlofkcgaaaGreatDoor
