/-
  What is proved: the function Text of bookref3, called with a tree that lies in memory, answers its text.
  Conditions: the tree is one, has at most 400 trees in it, and its numbers are of 64 bits.
-/
import Derived.Test.YtnbbamonmmlaeaaDoorJTxtM
import Derived.Test.YtnbbamonmmlaeaaDoorJGetH
import Derived.Test.YtnbbamonmmlaeaaDoorJCopyM
namespace Go.Proofs.YtnbbamonmmlaeaaDoor
open Go.RowKit Go.Sort

/-- A text of bytes. -/
def ba (l : List UInt8) : ByteArray := ⟨l.toArray⟩
theorem addL (l r : List UInt8) (h : l.length ≤ 8388608) (h' : r.length ≤ 8388608) : ∃ s, Hid (s = l ++ r) ∧ ∀ W : World, (Op.stringOp .add (ba l) (ba r)).run Tryd.prog W = .ok (.string (ba s)) W :=
  ⟨l ++ r, rfl, fun W => run_string_add_lists W l r (by omega) (by omega)⟩
theorem addC (l : List UInt8) (c : UInt8) (h : l.length ≤ 8388608) : ∃ s, Hid (s = l ++ [c]) ∧ ∀ W : World, (Op.stringOp .add (ba l) ⟨#[c]⟩).run Tryd.prog W = .ok (.string (ba s)) W :=
  ⟨l ++ [c], rfl, fun W => run_string_add_lists W l [c] (by omega) (by simp)⟩
theorem addF (c : UInt8) (l : List UInt8) (h : l.length ≤ 8388608) : ∃ s, Hid (s = c :: l) ∧ ∀ W : World, (Op.stringOp .add ⟨#[c]⟩ (ba l)).run Tryd.prog W = .ok (.string (ba s)) W :=
  ⟨c :: l, rfl, fun W => run_string_add_lists W [c] l (by simp) (by omega)⟩
theorem few_kids' {T : JT} (_hf : formedB T = true) (hs : T.size ≤ 400) : T.ts.length ≤ 400 ∧ ∀ t ∈ T.ts, t.size ≤ 400 := by
  have h1 := size_eq T
  have h2 := len_sizes T.ts
  refine ⟨by omega, fun t ht => ?_⟩
  obtain ⟨i, hi, rfl⟩ := List.getElem_of_mem ht
  have e1 := sizes_take T.ts i hi
  have e2 := sizes_le T.ts (i + 1)
  omega

set_option maxRecDepth 100000 in
set_option maxHeartbeats 8000000 in
theorem textH_any {w0 : World} {v : Value} {T : JT} (h : IsT w0 v T) : ∀ (w : World), Below w0.heap.size w0 w → formedB T = true → T.size ≤ 400 → rngT T →
    Calls Tryd.prog 7 #[v] w fun e w' => e = .returned (.string (ba (txtT T))) ∧ Below w.heap.size w w' := by
  induction h using IsTG.ind with
  | mk x ks ts uk a cap us hk hl hc hz hr hi ih =>
    intro w hb hf hs hg
    have HI : Hid (∀ i (h : i < us.length) (h' : i < ts.length) (w : World), Below w0.heap.size w0 w → formedB ts[i] = true → ts[i].size ≤ 400 → rngT ts[i] → Calls Tryd.prog 7 #[tval us[i]] w fun e w' => e = .returned (.string (ba (txtT ts[i]))) ∧ Below w.heap.size w w') := ih
    obtain ⟨T, hT⟩ : ∃ T, T = JT.node x ks ts := ⟨_, rfl⟩
    have HPT : Hid (txtT T = wrapT x (txtL (decide (x.k = 5)) ks ts 0)) := by rw [hT]; exact txtT_node x ks ts
    have eks : T.ks = ks := by rw [hT]; rfl
    have ets : T.ts = ts := by rw [hT]; exact node_ts x ks ts
    have hx : T.x = x := by rw [hT]; rfl
    have hsz : T.size = sizes T.ts + 1 := size_eq T
    rw [← hT] at hf hs hg ⊢
    subst eks ets hx
    clear hT
    obtain ⟨ak, ck, rfl, hk1, hk2, hk3⟩ := hk
    have hks : IsStrs w0 (.slice ak T.ks.length ck) T.ks := ⟨ak, ck, rfl, hk1, hk2, hk3⟩
    obtain ⟨g1, g2⟩ := (rngT_eq T).1 hg
    obtain ⟨f1, f2, f3⟩ := formed_kids hf
    have hkid : ∀ t ∈ T.ts, (txtT t).length + 100 ≤ 400 * t.size := fun t ht => txtT_len _ t (Nat.le_refl _) (f2 t ht) (g2 t ht)
    have HF : Hid ((T.ts.length ≤ 400 ∧ ∀ t ∈ T.ts, t.size ≤ 400) ∧ (T.x.k = 5 → T.ks.length = T.ts.length ∧ upB [] T.ks = true) ∧ (∀ t ∈ T.ts, formedB t = true) ∧ T.size ≤ 400 ∧ (∀ t ∈ T.ts, rngT t) ∧ T.size = sizes T.ts + 1 ∧ (∀ k ∈ T.ks, k.size ≤ 20)) := ⟨few_kids' hf hs, f1, f2, hs, g2, hsz, f3⟩
    have HLen : Hid (∀ m j, (txtL m T.ks (T.ts.take j) 0).length ≤ 400 * 400) := by
      intro m j
      have e1 := txtL_len m T.ks f3 (T.ts.take j) 0 (fun t ht => hkid t (List.mem_of_mem_take ht))
      have e2 := sizes_le T.ts j
      omega
    have HKid : Hid (∀ t ∈ T.ts, (txtT t).length ≤ 400 * 400) := by
      intro t ht
      have e1 := hkid t ht
      have e2 := (few_kids' hf hs).2 t ht
      omega
    have HFit : Hid (Fit T.x) := fit_val T.x (formed_val hf) g1
    have HS : Hid (IsStrs w0 (.slice ak T.ks.length ck) T.ks) := hks
    have HL : Hid (us.length = T.ts.length) := hl
    have HR : Hid (RowT w0 a us) := hr
    have HT : Hid (∀ i (h : i < us.length) (h' : i < T.ts.length), IsT w0 (tval us[i]) T.ts[i]) := hi
    have HB : Hid (Below w0.heap.size w0 w) := hb
    clear hk1 hk2 hk3 hks hl hc hz hr hi hb ih hf hs hsz g1 g2 f1 f2 f3 hkid hg
    obtain ⟨xx, HXX⟩ : ∃ xx, Hid (T.x = xx) := ⟨_, rfl⟩
    rw [HXX.out] at HFit ⊢
    have HPT' : Hid (txtT T = wrapT xx (txtL (decide (xx.k = 5)) T.ks T.ts 0)) := by show _ = _; rw [← HXX.out]; exact HPT.out
    clear HPT
    have ES := fun (h5 : xx.k ≠ 5) (h6 : xx.k ≠ 6) W => rShow_any xx W HFit.out h5 h6
    obtain ⟨xk, xn, xt, xo, xa⟩ := xx
    unfold V.val at ES
    unfold tval
    dsimp only at *
    have b0 := (Below.refl w.heap.size w).alloc (Nat.le_refl _) (.cells #[.int .i64 xk, .int .i64 xn, .string xt, .int .i64 xo, .int .i64 xa, .slice ak T.ks.length ck, .slice a T.ts.length cap] 29)
    have x0 : (w.alloc (.cells #[.int .i64 xk, .int .i64 xn, .string xt, .int .i64 xo, .int .i64 xa, .slice ak T.ks.length ck, .slice a T.ts.length cap] 29)).heap[w.heap.size]? = some (.cells #[.int .i64 xk, .int .i64 xn, .string xt, .int .i64 xo, .int .i64 xa, .slice ak T.ks.length ck, .slice a T.ts.length cap] 29) := (MapKept.heap_alloc w _).1
    have HA : Hid (_ ∧ _) := ⟨x0, b0⟩
    clear x0 b0
    by_cases h5 : xk = 5
    · subst h5
      have HW : Hid (txtT T = 123 :: (txtL true T.ks T.ts 0 ++ [125])) := by show _ = _; rw [HPT'.out]; rfl
      clear HPT' ES HFit
      go_enter Tryd.func7, Tryd.ntmps7
      go_upto_region 3 with fail
      obtain ⟨x0, b0⟩ := HA.out
      clear HA
      generalize (w.alloc (.cells #[.int .i64 5, .int .i64 xn, .string xt, .int .i64 xo, .int .i64 xa, .slice ak T.ks.length ck, .slice a T.ts.length cap] 29)) = W0 at *
      go_wp2_with fail
      go_loopw [3, 4, 5, 6] (fun sv i _ _ wr => ∃ (j : Nat) (s : List UInt8), j ≤ T.ts.length ∧ i = .int .i64 j ∧ sv = .string (ba s) ∧ Hid (s = txtL true T.ks (T.ts.take j) 0) ∧ Hid (wr.heap[w.heap.size]? = some (.cells #[.int .i64 5, .int .i64 xn, .string xt, .int .i64 xo, .int .i64 xa, .slice ak T.ks.length ck, .slice a T.ts.length cap] 29)) ∧ Hid (Below w.heap.size w wr)) (fun _ i _ _ _ => T.ts.length - (RowKit.intOf i).toNat)
      case atStart => exact ⟨0, [], Nat.zero_le _, rfl, rfl, by show _ = _; simp [txtL_nil], x0, b0⟩
      case round =>
        clear x0 b0
        obtain ⟨j, s, hj, rfl, rfl, HSJ, HX, HBW⟩ := hrel
        obtain ⟨k0, k1, k2, k3, k4, k5, k6⟩ := tboxed (u := (⟨5, xn, xt, xo, xa⟩, .slice ak T.ks.length ck, .slice a T.ts.length cap)) HX.out
        dsimp only at k0 k1 k2 k3 k4 k5 k6
        have HSL : Hid (s.length ≤ 400 * 400) := by show _ ≤ _; rw [HSJ.out]; exact HLen.out _ _
        by_cases hlt : j < T.ts.length
        · have g1 : (j : Int) < T.ts.length := by omega
          have hju : j < us.length := by have := HL.out; omega
          have tj := HT.out j hju hlt
          obtain ⟨⟨pk, pn, pt, po, pq⟩, pa1, pn1, pc1, pa2, pn2', pc2, hpp⟩ := tj.parts
          have hbw := HB.out.trans (HBW.out.mono HB.out.size)
          obtain ⟨b2, o2, rfl, hb2, m0, m1, m2, m3, m4, m5, m6⟩ := HR.out.cells hbw j hju _ hpp
          have hmem := List.getElem_mem hlt
          have EI := fun (W : World) (hb : Below w0.heap.size w0 W) => HI.out j hju hlt W hb (HF.out.2.2.1 _ hmem) (HF.out.1.2 _ hmem) (HF.out.2.2.2.2.1 _ hmem)
          rw [hpp] at EI
          have HTX : Hid (txtL true T.ks (T.ts.take (j + 1)) 0 = s ++ (sep j ++ (keyT true T.ks j ++ txtT T.ts[j]))) := by
            show _ = _
            rw [txtL_take _ _ _ _ _ hlt, HSJ.out, Nat.zero_add]
          have HXL : Hid ((txtT T.ts[j]).length ≤ 400 * 400) := HKid.out _ hmem
          obtain ⟨X, hX⟩ : ∃ X, X = txtT T.ts[j] := ⟨_, rfl⟩
          rw [← hX] at EI HTX HXL
          dsimp only [tval] at EI m0 m1 m2 m3 m4 m5 m6
          have HEI : Hid (∀ (W : World), Below w0.heap.size w0 W → Calls Tryd.prog 7 #[.agg #[.int .i64 pk, .int .i64 pn, .string pt, .int .i64 po, .int .i64 pq, .slice pa1 pn1 pc1, .slice pa2 pn2' pc2]] W fun e w' => e = .returned (.string (ba X)) ∧ Below W.heap.size W w') := EI
          have HJ : Hid (j < T.ts.length) := hlt
          have HMM : Hid (b2 < w0.heap.size) := hb2
          have HCM : Hid (∀ W : World, Below w0.heap.size w0 W → W.cell? ⟨b2, o2 + j * 7, none⟩ = some (.int .i64 pk) ∧ W.cell? ⟨b2, o2 + j * 7 + 1, none⟩ = some (.int .i64 pn) ∧ W.cell? ⟨b2, o2 + j * 7 + 2, none⟩ = some (.string pt) ∧ W.cell? ⟨b2, o2 + j * 7 + 3, none⟩ = some (.int .i64 po) ∧ W.cell? ⟨b2, o2 + j * 7 + 4, none⟩ = some (.int .i64 pq) ∧ W.cell? ⟨b2, o2 + j * 7 + 5, none⟩ = some (.slice pa1 pn1 pc1) ∧ W.cell? ⟨b2, o2 + j * 7 + 6, none⟩ = some (.slice pa2 pn2' pc2)) := by
            intro W hb
            obtain ⟨b3, o3, e3, _, n0, n1, n2, n3, n4, n5, n6⟩ := HR.out.cells hb j hju _ hpp
            have e4 := Option.some.inj e3
            injection e4 with e5 e6
            subst e5 e6
            exact ⟨n0, n1, n2, n3, n4, n5, n6⟩
          have hjk : j < T.ks.length := by have := (HF.out.2.1 (by rw [HXX.out])).1; omega
          obtain ⟨kb, ko, rfl, hkb, hkm⟩ := HS.out.cells hbw (show T.ks ≠ [] from fun e => by rw [e] at hjk; simp at hjk)
          have km := hkm j hjk
          have g4 : (j : Int) < T.ks.length := by omega
          have hkz : T.ks[j].size ≤ 20 := HF.out.2.2.2.2.2.2 _ (List.getElem_mem hjk)
          have EQ := rQuote_any T.ks[j] wr (by omega)
          have HKT : Hid (keyT true T.ks j = quote T.ks[j].data.toList ++ [58]) := by
            show _ = _
            unfold keyT
            rw [if_pos rfl, List.getElem?_eq_getElem hjk]; rfl
          have HQL : Hid ((quote T.ks[j].data.toList).length ≤ 62) := by
            show _ ≤ _
            have e1 := quote_len T.ks[j].data.toList
            have e2 : T.ks[j].data.toList.length ≤ 20 := hkz
            omega
          generalize T.ks[j] = key at *
          obtain ⟨Q, hQ⟩ : ∃ Q, Q = quote key.data.toList := ⟨_, rfl⟩
          rw [← hQ] at EQ HKT HQL
          have EQ' : Calls Tryd.prog 16 #[.string key] wr fun e w' => e = .returned (.string (ba Q)) ∧ Below wr.heap.size wr w' := EQ
          clear hkm hjk hkz EQ hQ hkb
          clear hX hmem hpp hju hlt hj tj hb2 EI hbw
          by_cases h0 : j = 0
          · have g0 : ¬ (0 : Int) < j := by omega
            have HSEP : Hid (sep j = []) := by show sep j = []; unfold sep; rw [if_pos h0]
            obtain ⟨s1, HS1⟩ : ∃ s1, Hid (s1 = s ++ sep j) := ⟨s, by show _ = _; rw [HSEP.out]; simp⟩
            have e01 : s1 = s := by rw [HS1.out, HSEP.out]; simp
            subst e01
            clear h0
            obtain ⟨s2, HS2, A2⟩ := addL s1 Q (by rw [HS1.out]; have := HSL.out; have := sep_len j; rw [List.length_append]; omega) (by have := HQL.out; omega)
            have HL2 : Hid (s2.length ≤ 200000) := by
              show _ ≤ _
              rw [HS2.out, HS1.out]
              have e1 := HSL.out; have e2 := sep_len j; have e3 := HQL.out
              simp only [List.length_append]
              omega
            obtain ⟨s3, HS3, A3⟩ := addC s2 58 (by have := HL2.out; omega)
            obtain ⟨s4, HS4, A4⟩ := addL s3 X (by rw [HS3.out, List.length_append]; have := HL2.out; simp; omega) (by have := HXL.out; omega)
            go_wp2_with fail
            go_fit EQ'
            rintro e w2 ⟨rfl, b2'⟩
            have HX2 : Hid (w2.heap[w.heap.size]? = some _) := (b2'.block _ (lt_of_heap HX.out)).trans HX.out
            have HB2 : Hid (Below w.heap.size w w2) := HBW.out.trans (b2'.mono HBW.out.size)
            clear m0 m1 m2 m3 m4 m5 m6
            obtain ⟨m0, m1, m2, m3, m4, m5, m6⟩ := HCM.out w2 (HB.out.trans (HB2.out.mono HB.out.size))
            clear k0 k1 k2 k3 k4 k5 k6
            obtain ⟨k0, k1, k2, k3, k4, k5, k6⟩ := tboxed (u := (⟨5, xn, xt, xo, xa⟩, (.slice (some ⟨kb, ko, none⟩) T.ks.length ck), .slice (some ⟨b2, o2, none⟩) T.ts.length cap)) HX2.out
            dsimp only at k0 k1 k2 k3 k4 k5 k6
            have E6 := HEI.out w2 (HB.out.trans (HB2.out.mono HB.out.size))
            clear b2' EQ'
            go_wp2_with fail
            go_fit E6
            rintro e w3 ⟨rfl, b3⟩
            have HX3 : Hid (w3.heap[w.heap.size]? = some _) := (b3.block _ (lt_of_heap HX2.out)).trans HX2.out
            have HB3 : Hid (Below w.heap.size w w3) := HB2.out.trans (b3.mono HB2.out.size)
            have HE4 : Hid (s4 = txtL true T.ks (T.ts.take (j + 1)) 0) := by
              show _ = _
              rw [HTX.out, HS4.out, HS3.out, HS2.out, HSEP.out, HKT.out]; simp only [List.append_assoc, List.nil_append]
            clear b3 E6 k0 k1 k2 k3 k4 k5 k6 m0 m1 m2 m3 m4 m5 m6
            have g3 : (j : Int) < 8796093022208 := by have := HF.out.1.1; have := HJ.out; omega
            go_wp2
            go_roundw
            case rel => exact ⟨j + 1, _, HJ.out, by go_num, rfl, HE4, HX3, HB3⟩
            case measure => simp [RowKit.intOf]; have := HJ.out; omega
          · have g0 : (0 : Int) < j := by omega
            have HSEP : Hid (sep j = [44]) := by show sep j = [44]; unfold sep; rw [if_neg h0]
            obtain ⟨s1, HS1', A1⟩ := addC s 44 (by have := HSL.out; omega)
            have HS1 : Hid (s1 = s ++ sep j) := by show _ = _; rw [HS1'.out, HSEP.out]
            clear h0 HS1'
            obtain ⟨s2, HS2, A2⟩ := addL s1 Q (by rw [HS1.out]; have := HSL.out; have := sep_len j; rw [List.length_append]; omega) (by have := HQL.out; omega)
            have HL2 : Hid (s2.length ≤ 200000) := by
              show _ ≤ _
              rw [HS2.out, HS1.out]
              have e1 := HSL.out; have e2 := sep_len j; have e3 := HQL.out
              simp only [List.length_append]
              omega
            obtain ⟨s3, HS3, A3⟩ := addC s2 58 (by have := HL2.out; omega)
            obtain ⟨s4, HS4, A4⟩ := addL s3 X (by rw [HS3.out, List.length_append]; have := HL2.out; simp; omega) (by have := HXL.out; omega)
            go_wp2_with fail
            go_fit EQ'
            rintro e w2 ⟨rfl, b2'⟩
            have HX2 : Hid (w2.heap[w.heap.size]? = some _) := (b2'.block _ (lt_of_heap HX.out)).trans HX.out
            have HB2 : Hid (Below w.heap.size w w2) := HBW.out.trans (b2'.mono HBW.out.size)
            clear m0 m1 m2 m3 m4 m5 m6
            obtain ⟨m0, m1, m2, m3, m4, m5, m6⟩ := HCM.out w2 (HB.out.trans (HB2.out.mono HB.out.size))
            clear k0 k1 k2 k3 k4 k5 k6
            obtain ⟨k0, k1, k2, k3, k4, k5, k6⟩ := tboxed (u := (⟨5, xn, xt, xo, xa⟩, (.slice (some ⟨kb, ko, none⟩) T.ks.length ck), .slice (some ⟨b2, o2, none⟩) T.ts.length cap)) HX2.out
            dsimp only at k0 k1 k2 k3 k4 k5 k6
            have E6 := HEI.out w2 (HB.out.trans (HB2.out.mono HB.out.size))
            clear b2' EQ'
            go_wp2_with fail
            go_fit E6
            rintro e w3 ⟨rfl, b3⟩
            have HX3 : Hid (w3.heap[w.heap.size]? = some _) := (b3.block _ (lt_of_heap HX2.out)).trans HX2.out
            have HB3 : Hid (Below w.heap.size w w3) := HB2.out.trans (b3.mono HB2.out.size)
            have HE4 : Hid (s4 = txtL true T.ks (T.ts.take (j + 1)) 0) := by
              show _ = _
              rw [HTX.out, HS4.out, HS3.out, HS2.out, HS1.out, HKT.out]; simp only [List.append_assoc]
            clear b3 E6 k0 k1 k2 k3 k4 k5 k6 m0 m1 m2 m3 m4 m5 m6
            have g3 : (j : Int) < 8796093022208 := by have := HF.out.1.1; have := HJ.out; omega
            go_wp2
            go_roundw
            case rel => exact ⟨j + 1, _, HJ.out, by go_num, rfl, HE4, HX3, HB3⟩
            case measure => simp [RowKit.intOf]; have := HJ.out; omega
        · have g1 : ¬ (j : Int) < T.ts.length := by omega
          have HE : Hid (s = txtL true T.ks T.ts 0) := by
            show _ = _
            rw [HSJ.out, List.take_of_length_le (by omega)]
          obtain ⟨s2, HS2, A2⟩ := addF 123 s (by have := HSL.out; omega)
          obtain ⟨s3, HS3, A3⟩ := addC s2 125 (by have := HSL.out; rw [HS2.out]; simp; omega)
          clear hlt hj
          go_wp2
          go_ret
          refine ⟨?_, HBW.out⟩
          rw [HW.out, HS3.out, HS2.out, HE.out]
          rfl
    · by_cases h6 : xk = 6
      · subst h6
        have HW : Hid (txtT T = 91 :: (txtL false T.ks T.ts 0 ++ [93])) := by show _ = _; rw [HPT'.out]; rfl
        clear HPT' ES HFit h5
        go_enter Tryd.func7, Tryd.ntmps7
        go_upto_region 3 with fail
        obtain ⟨x0, b0⟩ := HA.out
        clear HA
        generalize (w.alloc (.cells #[.int .i64 6, .int .i64 xn, .string xt, .int .i64 xo, .int .i64 xa, .slice ak T.ks.length ck, .slice a T.ts.length cap] 29)) = W0 at *
        go_wp2_with fail
        go_loopw [3, 4, 5, 6] (fun sv i _ _ wr => ∃ (j : Nat) (s : List UInt8), j ≤ T.ts.length ∧ i = .int .i64 j ∧ sv = .string (ba s) ∧ Hid (s = txtL false T.ks (T.ts.take j) 0) ∧ Hid (wr.heap[w.heap.size]? = some (.cells #[.int .i64 6, .int .i64 xn, .string xt, .int .i64 xo, .int .i64 xa, .slice ak T.ks.length ck, .slice a T.ts.length cap] 29)) ∧ Hid (Below w.heap.size w wr)) (fun _ i _ _ _ => T.ts.length - (RowKit.intOf i).toNat)
        case atStart => exact ⟨0, [], Nat.zero_le _, rfl, rfl, by show _ = _; simp [txtL_nil], x0, b0⟩
        case round =>
          clear x0 b0
          obtain ⟨j, s, hj, rfl, rfl, HSJ, HX, HBW⟩ := hrel
          obtain ⟨k0, k1, k2, k3, k4, k5, k6⟩ := tboxed (u := (⟨6, xn, xt, xo, xa⟩, .slice ak T.ks.length ck, .slice a T.ts.length cap)) HX.out
          dsimp only at k0 k1 k2 k3 k4 k5 k6
          have HSL : Hid (s.length ≤ 400 * 400) := by show _ ≤ _; rw [HSJ.out]; exact HLen.out _ _
          by_cases hlt : j < T.ts.length
          · have g1 : (j : Int) < T.ts.length := by omega
            have hju : j < us.length := by have := HL.out; omega
            have tj := HT.out j hju hlt
            obtain ⟨⟨pk, pn, pt, po, pq⟩, pa1, pn1, pc1, pa2, pn2', pc2, hpp⟩ := tj.parts
            have hbw := HB.out.trans (HBW.out.mono HB.out.size)
            obtain ⟨b2, o2, rfl, hb2, m0, m1, m2, m3, m4, m5, m6⟩ := HR.out.cells hbw j hju _ hpp
            have hmem := List.getElem_mem hlt
            have EI := fun (W : World) (hb : Below w0.heap.size w0 W) => HI.out j hju hlt W hb (HF.out.2.2.1 _ hmem) (HF.out.1.2 _ hmem) (HF.out.2.2.2.2.1 _ hmem)
            rw [hpp] at EI
            have HTX : Hid (txtL false T.ks (T.ts.take (j + 1)) 0 = s ++ (sep j ++ (keyT false T.ks j ++ txtT T.ts[j]))) := by
              show _ = _
              rw [txtL_take _ _ _ _ _ hlt, HSJ.out, Nat.zero_add]
            have HXL : Hid ((txtT T.ts[j]).length ≤ 400 * 400) := HKid.out _ hmem
            obtain ⟨X, hX⟩ : ∃ X, X = txtT T.ts[j] := ⟨_, rfl⟩
            rw [← hX] at EI HTX HXL
            dsimp only [tval] at EI m0 m1 m2 m3 m4 m5 m6
            have HEI : Hid (∀ (W : World), Below w0.heap.size w0 W → Calls Tryd.prog 7 #[.agg #[.int .i64 pk, .int .i64 pn, .string pt, .int .i64 po, .int .i64 pq, .slice pa1 pn1 pc1, .slice pa2 pn2' pc2]] W fun e w' => e = .returned (.string (ba X)) ∧ Below W.heap.size W w') := EI
            have HJ : Hid (j < T.ts.length) := hlt
            have HMM : Hid (b2 < w0.heap.size) := hb2
            have HCM : Hid (∀ W : World, Below w0.heap.size w0 W → W.cell? ⟨b2, o2 + j * 7, none⟩ = some (.int .i64 pk) ∧ W.cell? ⟨b2, o2 + j * 7 + 1, none⟩ = some (.int .i64 pn) ∧ W.cell? ⟨b2, o2 + j * 7 + 2, none⟩ = some (.string pt) ∧ W.cell? ⟨b2, o2 + j * 7 + 3, none⟩ = some (.int .i64 po) ∧ W.cell? ⟨b2, o2 + j * 7 + 4, none⟩ = some (.int .i64 pq) ∧ W.cell? ⟨b2, o2 + j * 7 + 5, none⟩ = some (.slice pa1 pn1 pc1) ∧ W.cell? ⟨b2, o2 + j * 7 + 6, none⟩ = some (.slice pa2 pn2' pc2)) := by
              intro W hb
              obtain ⟨b3, o3, e3, _, n0, n1, n2, n3, n4, n5, n6⟩ := HR.out.cells hb j hju _ hpp
              have e4 := Option.some.inj e3
              injection e4 with e5 e6
              subst e5 e6
              exact ⟨n0, n1, n2, n3, n4, n5, n6⟩
            clear hX hmem hpp hju hlt hj tj hb2 EI hbw
            by_cases h0 : j = 0
            · have g0 : ¬ (0 : Int) < j := by omega
              have HSEP : Hid (sep j = []) := by show sep j = []; unfold sep; rw [if_pos h0]
              obtain ⟨s1, HS1⟩ : ∃ s1, Hid (s1 = s ++ sep j) := ⟨s, by show _ = _; rw [HSEP.out]; simp⟩
              have e01 : s1 = s := by rw [HS1.out, HSEP.out]; simp
              subst e01
              clear h0
              obtain ⟨s4, HS4, A4⟩ := addL s1 X (by rw [HS1.out]; have := HSL.out; have := sep_len j; rw [List.length_append]; omega) (by have := HXL.out; omega)
              clear k0 k1 k2 k3 k4 k5 k6
              obtain ⟨k0, k1, k2, k3, k4, k5, k6⟩ := tboxed (u := (⟨6, xn, xt, xo, xa⟩, (.slice ak T.ks.length ck), .slice (some ⟨b2, o2, none⟩) T.ts.length cap)) HX.out
              dsimp only at k0 k1 k2 k3 k4 k5 k6
              have E6 := HEI.out wr (HB.out.trans (HBW.out.mono HB.out.size))
              go_wp2_with fail
              go_fit E6
              rintro e w3 ⟨rfl, b3⟩
              have HX3 : Hid (w3.heap[w.heap.size]? = some _) := (b3.block _ (lt_of_heap HX.out)).trans HX.out
              have HB3 : Hid (Below w.heap.size w w3) := HBW.out.trans (b3.mono HBW.out.size)
              have HE4 : Hid (s4 = txtL false T.ks (T.ts.take (j + 1)) 0) := by
                show _ = _
                rw [HTX.out, HS4.out, HSEP.out, show keyT false T.ks j = [] from rfl]; simp only [List.nil_append]
              clear b3 E6 k0 k1 k2 k3 k4 k5 k6 m0 m1 m2 m3 m4 m5 m6
              have g3 : (j : Int) < 8796093022208 := by have := HF.out.1.1; have := HJ.out; omega
              go_wp2
              go_roundw
              case rel => exact ⟨j + 1, _, HJ.out, by go_num, rfl, HE4, HX3, HB3⟩
              case measure => simp [RowKit.intOf]; have := HJ.out; omega
            · have g0 : (0 : Int) < j := by omega
              have HSEP : Hid (sep j = [44]) := by show sep j = [44]; unfold sep; rw [if_neg h0]
              obtain ⟨s1, HS1', A1⟩ := addC s 44 (by have := HSL.out; omega)
              have HS1 : Hid (s1 = s ++ sep j) := by show _ = _; rw [HS1'.out, HSEP.out]
              clear h0 HS1'
              obtain ⟨s4, HS4, A4⟩ := addL s1 X (by rw [HS1.out]; have := HSL.out; have := sep_len j; rw [List.length_append]; omega) (by have := HXL.out; omega)
              clear k0 k1 k2 k3 k4 k5 k6
              obtain ⟨k0, k1, k2, k3, k4, k5, k6⟩ := tboxed (u := (⟨6, xn, xt, xo, xa⟩, (.slice ak T.ks.length ck), .slice (some ⟨b2, o2, none⟩) T.ts.length cap)) HX.out
              dsimp only at k0 k1 k2 k3 k4 k5 k6
              have E6 := HEI.out wr (HB.out.trans (HBW.out.mono HB.out.size))
              go_wp2_with fail
              go_fit E6
              rintro e w3 ⟨rfl, b3⟩
              have HX3 : Hid (w3.heap[w.heap.size]? = some _) := (b3.block _ (lt_of_heap HX.out)).trans HX.out
              have HB3 : Hid (Below w.heap.size w w3) := HBW.out.trans (b3.mono HBW.out.size)
              have HE4 : Hid (s4 = txtL false T.ks (T.ts.take (j + 1)) 0) := by
                show _ = _
                rw [HTX.out, HS4.out, HS1.out, show keyT false T.ks j = [] from rfl]; simp only [List.append_assoc, List.nil_append]
              clear b3 E6 k0 k1 k2 k3 k4 k5 k6 m0 m1 m2 m3 m4 m5 m6
              have g3 : (j : Int) < 8796093022208 := by have := HF.out.1.1; have := HJ.out; omega
              go_wp2
              go_roundw
              case rel => exact ⟨j + 1, _, HJ.out, by go_num, rfl, HE4, HX3, HB3⟩
              case measure => simp [RowKit.intOf]; have := HJ.out; omega
          · have g1 : ¬ (j : Int) < T.ts.length := by omega
            have HE : Hid (s = txtL false T.ks T.ts 0) := by
              show _ = _
              rw [HSJ.out, List.take_of_length_le (by omega)]
            obtain ⟨s2, HS2, A2⟩ := addF 91 s (by have := HSL.out; omega)
            obtain ⟨s3, HS3, A3⟩ := addC s2 93 (by have := HSL.out; rw [HS2.out]; simp; omega)
            clear hlt hj
            go_wp2
            go_ret
            refine ⟨?_, HBW.out⟩
            rw [HW.out, HS3.out, HS2.out, HE.out]
            rfl
      · have e5 : (xk == 5) = false := by simpa using h5
        have e6 : (xk == 6) = false := by simpa using h6
        have n5 : (xk != 5) = true := by simpa using h5
        have n6 : (xk != 6) = true := by simpa using h6
        have HW : Hid (txtT T = showV ⟨xk, xn, xt, xo, xa⟩) := by
          show _ = _
          rw [HPT'.out]
          unfold wrapT
          rw [if_neg h5, if_neg h6]
        have E := ES h5 h6 (w.alloc (.cells #[.int .i64 xk, .int .i64 xn, .string xt, .int .i64 xo, .int .i64 xa, .slice ak T.ks.length ck, .slice a T.ts.length cap] 29))
        generalize showV ⟨xk, xn, xt, xo, xa⟩ = sv at *
        have E' : Calls Tryd.prog 15 #[.agg #[.int .i64 xk, .int .i64 xn, .string xt, .int .i64 xo, .int .i64 xa]] (w.alloc (.cells #[.int .i64 xk, .int .i64 xn, .string xt, .int .i64 xo, .int .i64 xa, .slice ak T.ks.length ck, .slice a T.ts.length cap] 29)) fun e w' => e = .returned (.string (ba sv)) ∧ Below (w.alloc (.cells #[.int .i64 xk, .int .i64 xn, .string xt, .int .i64 xo, .int .i64 xa, .slice ak T.ks.length ck, .slice a T.ts.length cap] 29)).heap.size (w.alloc (.cells #[.int .i64 xk, .int .i64 xn, .string xt, .int .i64 xo, .int .i64 xa, .slice ak T.ks.length ck, .slice a T.ts.length cap] 29)) w' := E
        clear HPT' ES HFit h5 h6 E
        go_enter Tryd.func7, Tryd.ntmps7
        go_wp2_with fail
        go_fit E'
        rintro e w1 ⟨rfl, b1⟩
        have HB1 : Hid (Below w.heap.size w w1) := HA.out.2.trans (b1.mono HA.out.2.size)
        clear b1 E'
        go_wp2
        go_ret
        exact ⟨by rw [HW.out]; rfl, HB1.out⟩
end Go.Proofs.YtnbbamonmmlaeaaDoor
