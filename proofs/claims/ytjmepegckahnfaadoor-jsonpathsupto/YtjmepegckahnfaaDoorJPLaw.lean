/-
  What is proved: the law JsonPaths, called with any tree and value that lie in memory, returns true, and nothing that was there has turned.
  Conditions: the tree lies in memory; the package variable errorType of package errors lies as the text lays it.
-/
import Derived.Test.YtjmepegckahnfaaDoorJPathsJ
import Derived.Test.YtjmepegckahnfaaDoorJLaw
namespace Go.Proofs.YtjmepegckahnfaaDoor
open Go.RowKit Go.Sort

theorem stc_at (l : List Stp) : ∀ k (hk : k < l.length), (stc l)[k * 2]? = some (.string l[k].1) ∧ (stc l)[k * 2 + 1]? = some (.int .i64 l[k].2) := by
  induction l with
  | nil => intro k hk; simp at hk
  | cons s r ih =>
    intro k hk
    have e : stc (s :: r) = .string s.1 :: .int .i64 s.2 :: stc r := rfl
    rw [e]
    cases k with
    | zero => exact ⟨rfl, rfl⟩
    | succ k =>
      have := ih k (by simpa using hk)
      rw [show (k + 1) * 2 = k * 2 + 1 + 1 by omega]
      simpa using this
theorem RS.at {B : Nat} {w : World} {a : Option Addr} {n c : Nat} {l : List Stp} (h : RS B w (.slice a n c) l) (hl : l ≠ []) : ∃ b, a = some ⟨b, 0, none⟩ ∧ b < w.heap.size ∧ ∀ k (hk : k < l.length), w.cell? ⟨b, k * 2, none⟩ = some (.string l[k].1) ∧ w.cell? ⟨b, k * 2 + 1, none⟩ = some (.int .i64 l[k].2) := by
  have hc := h.cells
  rcases h.2 with ⟨_, h0⟩ | ⟨g, cap, cur, e, _, hh, _⟩
  · exact absurd (List.length_eq_zero_iff.1 h0) hl
  · obtain ⟨rfl, _⟩ := Value.slice.inj e
    have h2 := stc_at l
    refine ⟨g, rfl, lt_of_heap hh, fun k hk => ?_⟩
    have q0 := hc _ rfl (k * 2) _ (h2 k hk).1
    have q1 := hc _ rfl (k * 2 + 1) _ (h2 k hk).2
    rw [add_at, Nat.zero_add] at q0 q1
    exact ⟨q0, q1⟩
theorem RP.at {B : Nat} {w : World} {a : Option Addr} {n c : Nat} {L : List (List Stp)} (h : RP B w (.slice a n c) L) (hl : L ≠ []) : ∃ b, a = some ⟨b, 0, none⟩ ∧ b < w.heap.size ∧ ∀ i (hi : i < L.length), ∃ sa sc, w.cell? ⟨b, i, none⟩ = some (.slice sa L[i].length sc) ∧ RS 0 w (.slice sa L[i].length sc) L[i] := by
  obtain ⟨us, h1, h2, h3⟩ := h
  rcases h1.2 with ⟨_, h0⟩ | ⟨g, cap, cur, e, _, hh, _, _, _, ht⟩
  · exact absurd (List.length_eq_zero_iff.1 (h2.symm.trans h0)) hl
  · obtain ⟨rfl, _⟩ := Value.slice.inj e
    refine ⟨g, rfl, lt_of_heap hh, fun i hi => ?_⟩
    have hiu : i < us.length := by omega
    obtain ⟨sa, sc, e1, _⟩ := (h3 i hiu hi).form
    refine ⟨sa, sc, ?_, by rw [← e1]; exact h3 i hiu hi⟩
    rw [← e1]
    have h2' : (cur.toList.take (us.length * 1))[i]? = us[i]? := by rw [ht]
    rw [List.getElem?_take_of_lt (by omega), Array.getElem?_toList, List.getElem?_eq_getElem hiu] at h2'
    rw [← h2']
    exact Lib.cell_of_heap hh i

theorem own_short {B e z n : Nat} {w : World} {v : Value} {xs : List Value} (h : w.ownsRow B e z v n xs) : n ≤ 9223372036854775807 := by
  rcases h.2 with ⟨_, h0⟩ | ⟨g, cap, cur, _, _, _, h1, h2, _⟩
  · omega
  · have e : maxLen = 9223372036854775807 := by decide
    omega
theorem RS.short {B : Nat} {w : World} {v : Value} {l : List Stp} (h : RS B w v l) : l.length ≤ 9223372036854775807 := own_short h
theorem RP.short {B : Nat} {w : World} {v : Value} {l : List (List Stp)} (h : RP B w v l) : l.length ≤ 9223372036854775807 := by
  obtain ⟨us, h1, h2, _⟩ := h
  rw [← h2]
  exact own_short h1
set_option maxRecDepth 100000 in
theorem eqS (s : ByteArray) (i : Int) (w : World) : (Op.equalIn 10000 41 (.agg #[.string s, .int .i64 i]) (.agg #[.string s, .int .i64 i])).run Tryd.prog w = .ok true w := by
  go_simp

theorem formed_one (y : V) : formedB (.node y [] []) = valB y := by
  rw [formedB_node]
  have e : formedsB [] = true := rfl
  have e2 : upB [] [] = true := rfl
  rw [e]
  unfold nodeB
  cases valB y <;> simp [e2]

set_option maxRecDepth 100000 in
set_option maxHeartbeats 8000000 in
theorem paths_law {v : Value} {T : JT} (y : V) (w : World) (h : IsT w v T) (hE : Et w) :
    Calls Tryd.prog 3 #[v, y.val] w fun e w' => e = .returned (.bool true) ∧ Below w.heap.size w w' := by
  obtain ⟨u, rfl⟩ := h.of_val
  obtain ⟨N⟩ := h.node
  obtain ⟨a1, c1, a2, c2, us, hu, -, -, -, -, -, -⟩ := N
  subst hu
  have hone : ∀ W : World, IsT W (tval (y, .slice none 0 0, .slice none 0 0)) (.node y [] []) := fun W => IsTG.mk y [] [] (.slice none 0 0) none 0 [] ⟨none, 0, rfl, ⟨Nat.le_refl _, fun _ => rfl⟩, Nat.zero_le _, fun h => absurd rfl h⟩ rfl ⟨Nat.le_refl _, fun _ => rfl⟩ (Nat.zero_le _) (fun h => absurd rfl h) (fun _ hi => absurd hi (Nat.not_lt_zero _))
  have EF : ∀ W : World, Calls Tryd.prog 5 #[tval (y, .slice none 0 0, .slice none 0 0)] W fun e w' => e = .returned (.bool (valB y)) ∧ Below W.heap.size W w' := fun W => by
    have := formed_any (hone W) W (Below.refl _ _)
    rw [formed_one] at this
    exact this
  have EP := fun W (hb : Below w.heap.size w W) => pathsJ_any y W (h.stay hb)
  have EH := fun W (hb : Below w.heap.size w W) (hc : chkT T = 0) => hPaths_any (h.stay hb) W y (.slice none 0 0) [] (Below.refl _ _) (RS.nil _ _) (chkT_zero hc).1 (chkT_zero hc).2 (by have := (chkT_zero hc).2; simp; omega)
  have HE : Hid (pathE T y = if chkT T = 0 then (if valB y = true then 0 else 1) else chkT T) := rfl
  have HR : Hid (pathR T y = if pathE T y = 0 then pathsT y T [] else []) := rfl
  obtain ⟨yk, yn, yt, yo, ya⟩ := y
  obtain ⟨x0, y0, b0⟩ := two_boxes w (.cells #[.int .i64 T.x.k, .int .i64 T.x.n, .string T.x.t, .int .i64 T.x.o, .int .i64 T.x.a, .slice a1 T.ks.length c1, .slice a2 T.ts.length c2] 29) (.cells #[.int .i64 yk, .int .i64 yn, .string yt, .int .i64 yo, .int .i64 ya] 25)
  have E1 := checkH_any _ (h.stay b0)
  have HT : Hid (Et w) := hE
  have HX : Hid (_ = some (Obj.cells #[.int .i64 T.x.k, .int .i64 T.x.n, .string T.x.t, .int .i64 T.x.o, .int .i64 T.x.a, .slice a1 T.ks.length c1, .slice a2 T.ts.length c2] 29)) := x0
  have HY : Hid (_ = some (Obj.cells #[.int .i64 yk, .int .i64 yn, .string yt, .int .i64 yo, .int .i64 ya] 25)) := y0
  have HB : Hid (Below w.heap.size w _) := b0
  clear h hE x0 y0 b0 hone
  unfold tval V.val at *
  dsimp only at *
  have HEF : Hid (∀ W : World, Calls Tryd.prog 5 #[.agg #[.int .i64 yk, .int .i64 yn, .string yt, .int .i64 yo, .int .i64 ya, .slice none 0 0, .slice none 0 0]] W fun e w' => e = .returned (.bool (valB ⟨yk, yn, yt, yo, ya⟩)) ∧ Below W.heap.size W w') := EF
  have HEP : Hid (∀ W, Below w.heap.size w W → Calls Tryd.prog 7 #[.agg #[.int .i64 T.x.k, .int .i64 T.x.n, .string T.x.t, .int .i64 T.x.o, .int .i64 T.x.a, .slice a1 T.ks.length c1, .slice a2 T.ts.length c2], .agg #[.int .i64 yk, .int .i64 yn, .string yt, .int .i64 yo, .int .i64 ya]] W fun e w' => PathsJP W.heap.size w' T ⟨yk, yn, yt, yo, ya⟩ e ∧ Below W.heap.size W w') := EP
  have HEH : Hid (∀ W, Below w.heap.size w W → chkT T = 0 → Calls Tryd.prog 6 #[.agg #[.int .i64 T.x.k, .int .i64 T.x.n, .string T.x.t, .int .i64 T.x.o, .int .i64 T.x.a, .slice a1 T.ks.length c1, .slice a2 T.ts.length c2], .agg #[.int .i64 yk, .int .i64 yn, .string yt, .int .i64 yo, .int .i64 ya], .slice none 0 0] W fun e w' => PathsP W.heap.size w' (pathsT ⟨yk, yn, yt, yo, ya⟩ T []) e ∧ Below W.heap.size W w') := EH
  clear EF EP EH
  go_enter Tryd.func3, Tryd.ntmps3
  go_wp2_with fail
  go_fit E1
  rintro r w1 ⟨rfl, b1⟩
  have HX1 : Hid (w1.heap[w.heap.size]? = some _) := (b1.block _ (lt_of_heap HX.out)).trans HX.out
  have HY1 : Hid (w1.heap[w.heap.size + 1]? = some _) := (b1.block _ (lt_of_heap HY.out)).trans HY.out
  have HB1 : Hid (Below w.heap.size w w1) := HB.out.trans (b1.mono HB.out.size)
  clear b1 E1 HX HY HB
  have l0 : w1.cell? ⟨w.heap.size + 1, 0, none⟩ = some (.int .i64 yk) := Lib.cell_of_heap HY1.out 0
  have l1 : w1.cell? ⟨w.heap.size + 1, 1, none⟩ = some (.int .i64 yn) := Lib.cell_of_heap HY1.out 1
  have l2 : w1.cell? ⟨w.heap.size + 1, 2, none⟩ = some (.string yt) := Lib.cell_of_heap HY1.out 2
  have l3 : w1.cell? ⟨w.heap.size + 1, 3, none⟩ = some (.int .i64 yo) := Lib.cell_of_heap HY1.out 3
  have l4 : w1.cell? ⟨w.heap.size + 1, 4, none⟩ = some (.int .i64 ya) := Lib.cell_of_heap HY1.out 4
  have E2 := HEF.out w1
  obtain ⟨vb, HVB⟩ : ∃ vb, Hid (valB ⟨yk, yn, yt, yo, ya⟩ = vb) := ⟨_, rfl⟩
  rw [HVB.out] at E2
  go_wp2_with fail
  go_fit E2
  rintro r w2 ⟨rfl, b2⟩
  have HX2 : Hid (w2.heap[w.heap.size]? = some _) := (b2.block _ (lt_of_heap HX1.out)).trans HX1.out
  have HY2 : Hid (w2.heap[w.heap.size + 1]? = some _) := (b2.block _ (lt_of_heap HY1.out)).trans HY1.out
  have HB2 : Hid (Below w.heap.size w w2) := HB1.out.trans (b2.mono HB1.out.size)
  clear b2 E2 HX1 HY1 HB1 HEF l0 l1 l2 l3 l4
  by_cases hc : chkT T = 0
  · have HC : Hid (chkT T = 0) := hc
    rw [hc]
    clear hc
    cases vb with
    | true =>
      have HRE : Hid (pathE T ⟨yk, yn, yt, yo, ya⟩ = 0) := by show pathE _ _ = 0; rw [HE.out, if_pos HC.out, HVB.out]; rfl
      have HRR : Hid (pathR T ⟨yk, yn, yt, yo, ya⟩ = pathsT ⟨yk, yn, yt, yo, ya⟩ T []) := by show pathR _ _ = _; rw [HR.out, HRE.out]; rfl
      obtain ⟨k0, k1, k2, k3, k4, k5, k6⟩ := tboxed (u := (T.x, .slice a1 T.ks.length c1, .slice a2 T.ts.length c2)) HX2.out
      dsimp only at k0 k1 k2 k3 k4 k5 k6
      have l0 : w2.cell? ⟨w.heap.size + 1, 0, none⟩ = some (.int .i64 yk) := Lib.cell_of_heap HY2.out 0
      have l1 : w2.cell? ⟨w.heap.size + 1, 1, none⟩ = some (.int .i64 yn) := Lib.cell_of_heap HY2.out 1
      have l2 : w2.cell? ⟨w.heap.size + 1, 2, none⟩ = some (.string yt) := Lib.cell_of_heap HY2.out 2
      have l3 : w2.cell? ⟨w.heap.size + 1, 3, none⟩ = some (.int .i64 yo) := Lib.cell_of_heap HY2.out 3
      have l4 : w2.cell? ⟨w.heap.size + 1, 4, none⟩ = some (.int .i64 ya) := Lib.cell_of_heap HY2.out 4
      have E3 := HEH.out w2 HB2.out HC.out
      go_wp2_with fail
      go_fit E3
      rintro r w3 ⟨⟨wv, rfl, hW3⟩, b3⟩
      have HX3 : Hid (w3.heap[w.heap.size]? = some _) := (b3.block _ (lt_of_heap HX2.out)).trans HX2.out
      have HY3 : Hid (w3.heap[w.heap.size + 1]? = some _) := (b3.block _ (lt_of_heap HY2.out)).trans HY2.out
      have HB3 : Hid (Below w.heap.size w w3) := HB2.out.trans (b3.mono HB2.out.size)
      have HW3 : Hid (RP 0 w3 wv (pathR T ⟨yk, yn, yt, yo, ya⟩)) := by show RP _ _ _ _; rw [HRR.out]; exact hW3.mono (Nat.zero_le _)
      clear b3 E3 hW3 HX2 HY2 HB2 k0 k1 k2 k3 k4 k5 k6 l0 l1 l2 l3 l4
      obtain ⟨k0, k1, k2, k3, k4, k5, k6⟩ := tboxed (u := (T.x, .slice a1 T.ks.length c1, .slice a2 T.ts.length c2)) HX3.out
      dsimp only at k0 k1 k2 k3 k4 k5 k6
      have l0 : w3.cell? ⟨w.heap.size + 1, 0, none⟩ = some (.int .i64 yk) := Lib.cell_of_heap HY3.out 0
      have l1 : w3.cell? ⟨w.heap.size + 1, 1, none⟩ = some (.int .i64 yn) := Lib.cell_of_heap HY3.out 1
      have l2 : w3.cell? ⟨w.heap.size + 1, 2, none⟩ = some (.string yt) := Lib.cell_of_heap HY3.out 2
      have l3 : w3.cell? ⟨w.heap.size + 1, 3, none⟩ = some (.int .i64 yo) := Lib.cell_of_heap HY3.out 3
      have l4 : w3.cell? ⟨w.heap.size + 1, 4, none⟩ = some (.int .i64 ya) := Lib.cell_of_heap HY3.out 4
      have E4 := HEP.out w3 HB3.out
      go_wp2_with fail
      go_fit E4
      rintro r w4 ⟨⟨gv, rfl, hG4⟩, b4⟩
      have HB4 : Hid (Below w.heap.size w w4) := HB3.out.trans (b4.mono HB3.out.size)
      have hW4 := HW3.out.below b4
      have E5 := error_any (0) w4 (HT.out.below HB4.out)
      rw [HRE.out] at *
      clear b4 E4 HX3 HY3 HB3 HW3 k0 k1 k2 k3 k4 k5 k6 l0 l1 l2 l3 l4
      generalize errV (0) = er at *
      obtain ⟨ga, gc, hgv, _⟩ := hG4.form
      obtain ⟨wa, wc, hwv, _⟩ := hW4.form
      obtain ⟨LL, hLL⟩ : ∃ LL, LL = pathR T ⟨yk, yn, yt, yo, ya⟩ := ⟨_, rfl⟩
      rw [← hLL] at hG4 hW4 hgv hwv
      clear hLL
      obtain ⟨n, hn⟩ : ∃ n, LL.length = n := ⟨_, rfl⟩
      rw [hn] at hgv hwv
      subst hgv hwv
      have HN : Hid (LL.length = n) := hn
      have HG : Hid (RP 0 w4 (.slice ga n gc) LL) := hG4.mono (Nat.zero_le _)
      have HW : Hid (RP 0 w4 (.slice wa n wc) LL) := hW4
      clear hn hG4 hW4
      go_wp2_with fail
      go_fit E5
      rintro r w5 ⟨rfl, b5⟩
      have HB5 : Hid (Below w.heap.size w w5) := HB4.out.trans (b5.mono HB4.out.size)
      have HG5 : Hid (RP 0 w5 (.slice ga n gc) LL) := HG.out.below b5
      have HW5 : Hid (RP 0 w5 (.slice wa n wc) LL) := HW.out.below b5
      clear b5 E5 HB4 HG HW
      go_wp2_with fail
      go_loopw [11, 12] (fun i _ wr => ∃ j : Nat, j ≤ n ∧ i = .int .i64 j ∧ Hid (Below w5.heap.size w5 wr)) (fun i _ _ => n - (RowKit.intOf i).toNat)
      case atStart => exact ⟨0, Nat.zero_le _, rfl, Below.refl _ _⟩
      case round =>
        obtain ⟨j, hj, rfl, HBR⟩ := hrel
        by_cases hlt : j < n
        · have g1 : (j : Int) < n := by omega
          have hne : LL ≠ [] := fun e => by have := HN.out; rw [e] at this; simp at this; omega
          obtain ⟨gb, rfl, hgb, hgc⟩ := HG5.out.at hne
          obtain ⟨wb, rfl, hwb, hwc⟩ := HW5.out.at hne
          have hjl : j < LL.length := by rw [HN.out]; exact hlt
          obtain ⟨sa, sc, s0, s1⟩ := hgc j hjl
          obtain ⟨ta, tc, t0, t1⟩ := hwc j hjl
          have q0 : wr.cell? ⟨gb, j, none⟩ = some (.slice sa LL[j].length sc) := (HBR.out.cell (p := ⟨gb, j, none⟩) hgb).trans s0
          have q1 : wr.cell? ⟨wb, j, none⟩ = some (.slice ta LL[j].length tc) := (HBR.out.cell (p := ⟨wb, j, none⟩) hwb).trans t0
          generalize LL[j] = P at *
          obtain ⟨m, hm⟩ : ∃ m, P.length = m := ⟨_, rfl⟩
          rw [hm] at q0 q1 s0 s1 t0 t1
          have HM : Hid (P.length = m) := hm
          have HS : Hid (RS 0 w5 (.slice sa m sc) P) := s1
          have HTT : Hid (RS 0 w5 (.slice ta m tc) P) := t1
          have HQ : Hid (w5.cell? ⟨gb, j, none⟩ = some (.slice sa m sc) ∧ w5.cell? ⟨wb, j, none⟩ = some (.slice ta m tc) ∧ gb < w5.heap.size ∧ wb < w5.heap.size) := ⟨s0, t0, hgb, hwb⟩
          have HJ : Hid (j < n) := hlt
          clear s0 s1 t0 t1 hgb hwb hgc hwc hne hjl hm hlt hj
          go_wp2
          go_quiet (fail)
          have HBQ : Hid (Below w5.heap.size w5 (wr.drewN nq)) := below_drew HBR.out nq
          clear q0 q1
          generalize wr.drewN nq = wq at *
          go_wp2_with fail
          go_loopw [12] (fun i wr => ∃ k : Nat, k ≤ m ∧ i = .int .i64 k ∧ Hid (Below w5.heap.size w5 wr)) (fun i _ => m - (RowKit.intOf i).toNat)
          case atStart => exact ⟨0, Nat.zero_le _, rfl, HBQ⟩
          case round =>
            obtain ⟨k, hk, rfl, HBK⟩ := hrel
            have q0 : wr.cell? ⟨gb, j, none⟩ = some (.slice sa m sc) := (HBK.out.cell (p := ⟨gb, j, none⟩) HQ.out.2.2.1).trans HQ.out.1
            have q1 : wr.cell? ⟨wb, j, none⟩ = some (.slice ta m tc) := (HBK.out.cell (p := ⟨wb, j, none⟩) HQ.out.2.2.2).trans HQ.out.2.1
            by_cases hkm : k < m
            · have g2 : (k : Int) < m := by omega
              have hnP : P ≠ [] := fun e => by have := HM.out; rw [e] at this; simp at this; omega
              obtain ⟨sb, rfl, hsb, hsc⟩ := HS.out.at hnP
              obtain ⟨tb, rfl, htb, htc⟩ := HTT.out.at hnP
              have hkl : k < P.length := by rw [HM.out]; exact hkm
              have u0 : wr.cell? ⟨sb, k * 2, none⟩ = some (.string P[k].1) := (HBK.out.cell (p := ⟨sb, k * 2, none⟩) hsb).trans (hsc k hkl).1
              have u1 : wr.cell? ⟨sb, k * 2 + 1, none⟩ = some (.int .i64 P[k].2) := (HBK.out.cell (p := ⟨sb, k * 2 + 1, none⟩) hsb).trans (hsc k hkl).2
              have v0 : wr.cell? ⟨tb, k * 2, none⟩ = some (.string P[k].1) := (HBK.out.cell (p := ⟨tb, k * 2, none⟩) htb).trans (htc k hkl).1
              have v1 : wr.cell? ⟨tb, k * 2 + 1, none⟩ = some (.int .i64 P[k].2) := (HBK.out.cell (p := ⟨tb, k * 2 + 1, none⟩) htb).trans (htc k hkl).2
              generalize P[k] = st at *
              obtain ⟨sx, si⟩ := st
              dsimp only at u0 u1 v0 v1
              have eq0 := eqS sx si
              have HK : Hid (k < m) := hkm
              clear hsb hsc htb htc hkl hnP hkm hk
              go_wp2
              go_quiet (fail)
              have HBZ : Hid (Below w5.heap.size w5 (wr.drewN nq)) := below_drew HBK.out nq
              clear q0 q1 u0 u1 v0 v1 eq0
              generalize wr.drewN nq = wz at *
              have g3 : (k : Int) < 9223372036854775807 := by have := HK.out; have e1 := HM.out; have e2 := HS.out.short; omega
              go_wp2
              go_roundw
              case rel => exact ⟨k + 1, HK.out, by go_num, HBZ⟩
              case measure => simp [RowKit.intOf]; have := HK.out; omega
            · have g2 : ¬ (k : Int) < m := by omega
              clear hkm hk
              have g3 : (j : Int) < 9223372036854775807 := by have := HJ.out; have e1 := HN.out; have e2 := HG5.out.short; omega
              go_wp2
              go_roundw
              case rel => exact ⟨j + 1, HJ.out, by go_num, HBK⟩
              case measure => simp [RowKit.intOf]; have := HJ.out; omega
        · have g1 : ¬ (j : Int) < n := by omega
          have HBF : Hid (Below w.heap.size w wr) := HB5.out.trans (HBR.out.mono HB5.out.size)
          clear hlt hj
          go_wp2
          go_ret
          exact ⟨rfl, HBF.out⟩
    | false =>
      have HRE : Hid (pathE T ⟨yk, yn, yt, yo, ya⟩ = 1) := by show pathE _ _ = 1; rw [HE.out, if_pos HC.out, HVB.out]; rfl
      have HRR : Hid (pathR T ⟨yk, yn, yt, yo, ya⟩ = []) := by show pathR _ _ = []; rw [HR.out, HRE.out]; rfl
      obtain ⟨k0, k1, k2, k3, k4, k5, k6⟩ := tboxed (u := (T.x, .slice a1 T.ks.length c1, .slice a2 T.ts.length c2)) HX2.out
      dsimp only at k0 k1 k2 k3 k4 k5 k6
      have l0 : w2.cell? ⟨w.heap.size + 1, 0, none⟩ = some (.int .i64 yk) := Lib.cell_of_heap HY2.out 0
      have l1 : w2.cell? ⟨w.heap.size + 1, 1, none⟩ = some (.int .i64 yn) := Lib.cell_of_heap HY2.out 1
      have l2 : w2.cell? ⟨w.heap.size + 1, 2, none⟩ = some (.string yt) := Lib.cell_of_heap HY2.out 2
      have l3 : w2.cell? ⟨w.heap.size + 1, 3, none⟩ = some (.int .i64 yo) := Lib.cell_of_heap HY2.out 3
      have l4 : w2.cell? ⟨w.heap.size + 1, 4, none⟩ = some (.int .i64 ya) := Lib.cell_of_heap HY2.out 4
      have E4 := HEP.out w2 HB2.out
      go_wp2_with fail
      go_fit E4
      rintro r w4 ⟨⟨gv, rfl, hG4⟩, b4⟩
      have HB4 : Hid (Below w.heap.size w w4) := HB2.out.trans (b4.mono HB2.out.size)
      have E5 := error_any (1) w4 (HT.out.below HB4.out)
      rw [HRE.out] at *
      rw [HRR.out] at *
      clear b4 E4 HX2 HY2 HB2 k0 k1 k2 k3 k4 k5 k6 l0 l1 l2 l3 l4
      generalize errV (1) = er at *
      obtain ⟨ga, gc, hgv, _⟩ := hG4.form
      simp only [List.length_nil] at hgv
      subst hgv
      clear hG4
      go_wp2_with fail
      go_fit E5
      rintro r w5 ⟨rfl, b5⟩
      have HB5 : Hid (Below w.heap.size w w5) := HB4.out.trans (b5.mono HB4.out.size)
      clear b5 E5 HB4
      go_wp2_with fail
      go_rounds 1
      go_wp2
      go_ret
      exact ⟨rfl, HB5.out⟩
  · have HRE : Hid (pathE T ⟨yk, yn, yt, yo, ya⟩ = chkT T) := by show pathE _ _ = _; rw [HE.out, if_neg hc]
    have HRR : Hid (pathR T ⟨yk, yn, yt, yo, ya⟩ = []) := by show pathR _ _ = []; rw [HR.out, HRE.out, if_neg hc]
    have hc' : (chkT T == 0) = false := by simpa using hc
    clear hc HE HR
    generalize chkT T = ct at *
    obtain ⟨k0, k1, k2, k3, k4, k5, k6⟩ := tboxed (u := (T.x, .slice a1 T.ks.length c1, .slice a2 T.ts.length c2)) HX2.out
    dsimp only at k0 k1 k2 k3 k4 k5 k6
    have l0 : w2.cell? ⟨w.heap.size + 1, 0, none⟩ = some (.int .i64 yk) := Lib.cell_of_heap HY2.out 0
    have l1 : w2.cell? ⟨w.heap.size + 1, 1, none⟩ = some (.int .i64 yn) := Lib.cell_of_heap HY2.out 1
    have l2 : w2.cell? ⟨w.heap.size + 1, 2, none⟩ = some (.string yt) := Lib.cell_of_heap HY2.out 2
    have l3 : w2.cell? ⟨w.heap.size + 1, 3, none⟩ = some (.int .i64 yo) := Lib.cell_of_heap HY2.out 3
    have l4 : w2.cell? ⟨w.heap.size + 1, 4, none⟩ = some (.int .i64 ya) := Lib.cell_of_heap HY2.out 4
    have E4 := HEP.out w2 HB2.out
    go_wp2_with fail
    go_fit E4
    rintro r w4 ⟨⟨gv, rfl, hG4⟩, b4⟩
    have HB4 : Hid (Below w.heap.size w w4) := HB2.out.trans (b4.mono HB2.out.size)
    have E5 := error_any (ct) w4 (HT.out.below HB4.out)
    rw [HRE.out] at *
    rw [HRR.out] at *
    clear b4 E4 HX2 HY2 HB2 k0 k1 k2 k3 k4 k5 k6 l0 l1 l2 l3 l4
    generalize errV (ct) = er at *
    obtain ⟨ga, gc, hgv, _⟩ := hG4.form
    simp only [List.length_nil] at hgv
    subst hgv
    clear hG4
    go_wp2_with fail
    go_fit E5
    rintro r w5 ⟨rfl, b5⟩
    have HB5 : Hid (Below w.heap.size w w5) := HB4.out.trans (b5.mono HB4.out.size)
    clear b5 E5 HB4
    go_wp2_with fail
    go_rounds 1
    go_wp2
    go_ret
    exact ⟨rfl, HB5.out⟩
end Go.Proofs.YtjmepegckahnfaaDoor
