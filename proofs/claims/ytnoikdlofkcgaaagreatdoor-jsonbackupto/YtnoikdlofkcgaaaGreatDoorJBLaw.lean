/-
  What is proved: the law JsonBack returns true of any tree, any text and any value, and nothing that was there has turned.
  Conditions: the tree lies in memory, its numbers are of 64 bits; package variables lie as the text lays them.
-/
import Derived.Test.YtnoikdlofkcgaaaGreatDoorG21
namespace Go.Proofs.YtnoikdlofkcgaaaGreatDoor
open Go.RowKit Go.Sort

/-- What stays while the law is walked: the boxes of the tree and of the value. -/
structure Bb (w : World) (TC VC : Array Value) (W : World) : Prop where
  low : Below w.heap.size w W
  bt : W.heap[w.heap.size]? = some (.cells TC 29)
  bv : W.heap[w.heap.size + 1]? = some (.cells VC 25)
theorem Bb.below {w : World} {TC VC : Array Value} {W W' : World} (h : Bb w TC VC W) (hb : Below W.heap.size W W') : Bb w TC VC W' :=
  ⟨h.low.trans (hb.mono h.low.size), (hb.block _ (lt_of_heap h.bt)).trans h.bt, (hb.block _ (lt_of_heap h.bv)).trans h.bv⟩
theorem rp_mono {B : Nat} {w : World} {v : Value} {L : List (List Stp)} (h : RP B w v L) : RP 0 w v L := by
  obtain ⟨us, h1, h2, h3⟩ := h
  refine ⟨us, ⟨h1.1, ?_⟩, h2, h3⟩
  rcases h1.2 with h0 | ⟨g, cap, cur, e, _, h4⟩
  · exact Or.inl h0
  · exact Or.inr ⟨g, cap, cur, e, Nat.zero_le _, h4⟩
theorem steps_of {w : World} {a : Option Addr} {n c : Nat} {l : List Stp} (h : RS 0 w (.slice a n c) l) (hs : l.length ≤ 8796093022208) : IsSteps w (.slice a n c) l := by
  have hn : n = l.length := by
    rcases h.2 with ⟨e, h0⟩ | ⟨g, cap, cur, e, _⟩
    · rw [h0]; exact (Value.slice.inj e).2.1
    · exact (Value.slice.inj e).2.1
  subst hn
  refine ⟨a, c, rfl, RS.cap h, hs, fun hl => ?_⟩
  obtain ⟨b, e, hb, hc⟩ := RS.at h hl
  exact ⟨b, 0, e, hb, fun i hi => by rw [Nat.zero_add]; exact hc i hi⟩
theorem path_short (y : V) : ∀ (n : Nat) (T : JT) (p q : List Stp), T.size < n → q ∈ pathsT y T p → q.length ≤ p.length + T.size
  | 0, _, _, _, h, _ => absurd h (Nat.not_lt_zero _)
  | n + 1, T, p, q, hn, hq => by
    rw [pathsT_eq] at hq
    rcases List.mem_append.1 hq with h1 | h1
    · by_cases hs : sameB T.x y = true
      · rw [if_pos hs] at h1
        rw [List.mem_singleton.1 h1]
        omega
      · rw [if_neg hs] at h1
        cases h1
    · obtain ⟨j, hj, h2⟩ := mem_pathsL y T.x T.ks p q T.ts 0 h1
      have h3 := size_kid hj
      have h4 := path_short y n T.ts[j] _ q (by omega) h2
      rw [List.length_append] at h4
      simp at h4
      omega
theorem pathR_short (T : JT) (y : V) (j : Nat) (hj : j < (pathR T y).length) : (pathR T y)[j].length ≤ 8796093022208 := by
  have hm := List.getElem_mem hj
  have h0 := (path_leads hm).1
  have hc : chkT T = 0 := by
    unfold pathE at h0
    by_cases hc : chkT T = 0
    · exact hc
    · rw [if_neg hc] at h0
      exact h0
  have hm2 : (pathR T y)[j] ∈ pathsT y T [] := by
    have h1 := hm
    unfold pathR at h1 ⊢
    simp only [h0, if_true] at h1 ⊢
    exact h1
  have h2 := path_short y (T.size + 1) T [] _ (by omega) hm2
  have h3 := (chkT_zero hc).2
  simp at h2
  omega
theorem get_leads {v p : Value} {T : JT} {l : List Stp} {y : V} {w : World} (h : IsT w v T) (hp : IsSteps w p l) (h1 : resE T l = 0) (h2 : sameB (resT T l).x y = true) :
    Calls Tryz.prog 8 #[v, p] w fun e w' => (∃ v5, e = .returned (.tuple #[v5, .nilIface]) ∧ ∃ uk un ut uo ua a1 n1 c1 a2 n2 c2, v5 = tval (⟨uk, un, ut, uo, ua⟩, .slice a1 n1 c1, .slice a2 n2 c2) ∧ sameB ⟨uk, un, ut, uo, ua⟩ y = true) ∧ Below w.heap.size w w' := by
  refine (getJ_any w h hp).mono ?_
  rintro e w' ⟨⟨v5, rfl, hI⟩, hb⟩
  refine ⟨⟨v5, by rw [h1]; rfl, ?_⟩, hb⟩
  obtain ⟨_, uk, a, cap, us, e, hS, _⟩ := hI.inv
  obtain ⟨ka, kc, e2, _⟩ := hS
  obtain ⟨⟨xk, xn, xt, xo, xa⟩, hx⟩ : ∃ x, (resT T l).x = x := ⟨_, rfl⟩
  rw [hx] at h2 e
  exact ⟨xk, xn, xt, xo, xa, ka, _, kc, a, _, cap, by rw [e, e2], h2⟩

set_option maxRecDepth 100000 in
set_option maxHeartbeats 16000000 in
theorem back_any {v : Value} {T : JT} (y : V) (s : ByteArray) (w : World) (h : IsT w v T) (hr : rngT T) (hV : Vr w) :
    Calls Tryz.prog 3 #[v, .string s, y.val] w fun e w' => e = .returned (.bool true) ∧ Below w.heap.size w w' := by
  obtain ⟨u0, rfl⟩ := h.of_val
  obtain ⟨⟨tk, tn, tt, tq, ta⟩, i1, j1, l1, i2, j2, l2, hu⟩ := h.parts
  subst hu
  obtain ⟨yk, yn, yt, yo, ya⟩ := y
  obtain ⟨post, hpost⟩ : ∃ post, post = fun (e : Ending) (w' : World) => e = .returned (.bool true) ∧ Below w.heap.size w w' := ⟨_, rfl⟩
  rw [← hpost]
  have HPO : Hid (post = fun (e : Ending) (w' : World) => e = .returned (.bool true) ∧ Below w.heap.size w w') := hpost
  have HT : Hid (IsT w (tval (⟨tk, tn, tt, tq, ta⟩, .slice i1 j1 l1, .slice i2 j2 l2)) T) := h
  have HRG : Hid (rngT T) := hr
  have HVR : Hid (Vr w) := hV
  have HB0 : Hid (Bb w #[.int .i64 tk, .int .i64 tn, .string tt, .int .i64 tq, .int .i64 ta, .slice i1 j1 l1, .slice i2 j2 l2] #[.int .i64 yk, .int .i64 yn, .string yt, .int .i64 yo, .int .i64 ya] ((w.alloc (.cells #[.int .i64 tk, .int .i64 tn, .string tt, .int .i64 tq, .int .i64 ta, .slice i1 j1 l1, .slice i2 j2 l2] 29)).alloc (.cells #[.int .i64 yk, .int .i64 yn, .string yt, .int .i64 yo, .int .i64 ya] 25))) := ⟨((Below.refl _ _).alloc (Nat.le_refl _) _).alloc (by rw [sz_new]; omega) _, (two_new w _ _).2, (two_new w _ _).1⟩
  have heq : ∀ (uk un : Int) (ut : ByteArray) (uo ua : Int), sameB ⟨uk, un, ut, uo, ua⟩ (⟨yk, yn, yt, yo, ya⟩ : V) = true → ∀ W, (Op.equalIn 10000 25 (.agg #[.int .i64 uk, .int .i64 un, .string ut, .int .i64 uo, .int .i64 ua]) (.agg #[.int .i64 yk, .int .i64 yn, .string yt, .int .i64 yo, .int .i64 ya])).run Tryz.prog W = .ok true W := fun uk un ut uo ua hs W => by
    have h9 := eqV ⟨uk, un, ut, uo, ua⟩ (⟨yk, yn, yt, yo, ya⟩ : V) W
    rw [hs] at h9
    exact h9
  clear hpost h hr hV
  unfold tval V.val
  dsimp only
  go_enter Tryz.func3, Tryz.ntmps3
  go_upto_region 1 with fail
  generalize (w.alloc (.cells #[.int .i64 tk, .int .i64 tn, .string tt, .int .i64 tq, .int .i64 ta, .slice i1 j1 l1, .slice i2 j2 l2] 29)).alloc (.cells #[.int .i64 yk, .int .i64 yn, .string yt, .int .i64 yo, .int .i64 ya] 25) = w1 at *
  have E1 := parse_any ⟨#[91, 49, 93]⟩ w1 (HVR.out.below HB0.out.low)
  go_wp2_with fail
  go_fit E1
  rintro e w2 ⟨hP, b2⟩
  clear E1
  rcases hP with ⟨fk, fx, rfl, hno⟩ | ⟨u, U, rfl, hI, hG, ht, hsz⟩
  · exact absurd t1_text (hno (by decide) T1 t1_gd)
  have hU : U = T1 := gd_one hG t1_gd (by rw [← ht, t1_text])
  subst hU
  obtain ⟨⟨uk, un, ut, uo, ua⟩, a1, n1, c1, a2, n2, c2, hu⟩ := hI.plain.parts
  subst hu
  obtain rfl : n2 = 1 := by
    obtain ⟨_, uk', a', cap', us', e', _⟩ := hI.inv
    have h9 := congrArg (fun x => x.2.2) (tval_inj e')
    simp only at h9
    rw [t1_kids] at h9
    exact (Value.slice.inj h9).2.1
  have HB2 : Hid (Bb w #[.int .i64 tk, .int .i64 tn, .string tt, .int .i64 tq, .int .i64 ta, .slice i1 j1 l1, .slice i2 j2 l2] #[.int .i64 yk, .int .i64 yn, .string yt, .int .i64 yo, .int .i64 ya] w2) := HB0.out.below b2
  clear hI hG ht hsz b2 HB0
  have hal : Below w2.heap.size w2 (w2.alloc (.cells #[.int .i64 uk, .int .i64 un, .string ut, .int .i64 uo, .int .i64 ua, .slice a1 n1 c1, .slice a2 1 c2] 29)) := (Below.refl _ _).alloc (Nat.le_refl _) _
  have HB2' : Hid (Bb w #[.int .i64 tk, .int .i64 tn, .string tt, .int .i64 tq, .int .i64 ta, .slice i1 j1 l1, .slice i2 j2 l2] #[.int .i64 yk, .int .i64 yn, .string yt, .int .i64 yo, .int .i64 ya] (w2.alloc (.cells #[.int .i64 uk, .int .i64 un, .string ut, .int .i64 uo, .int .i64 ua, .slice a1 n1 c1, .slice a2 1 c2] 29))) := HB2.out.below hal
  clear hal
  unfold tval
  dsimp only
  go_upto_region 4 with fail
  generalize w2.alloc (.cells #[.int .i64 uk, .int .i64 un, .string ut, .int .i64 uo, .int .i64 ua, .slice a1 n1 c1, .slice a2 1 c2] 29) = w25 at *
  have hT2 : IsT w25 (tval (⟨tk, tn, tt, tq, ta⟩, .slice i1 j1 l1, .slice i2 j2 l2)) T := HT.out.stay HB2'.out.low
  have E2 := printJ_any w25 hT2 HRG.out (HVR.out.below HB2'.out.low).1
  unfold tval at E2
  dsimp only at E2
  obtain ⟨px, hpx⟩ : ∃ px, ba (prT T) = px := ⟨_, rfl⟩
  rw [hpx] at E2
  have HPX : Hid (ba (prT T) = px) := hpx
  have t0 : w25.cell? ⟨w.heap.size, 0, none⟩ = some (.int .i64 tk) := Lib.cell_of_heap HB2'.out.bt 0
  have t1 : w25.cell? ⟨w.heap.size, 1, none⟩ = some (.int .i64 tn) := Lib.cell_of_heap HB2'.out.bt 1
  have t2 : w25.cell? ⟨w.heap.size, 2, none⟩ = some (.string tt) := Lib.cell_of_heap HB2'.out.bt 2
  have t3 : w25.cell? ⟨w.heap.size, 3, none⟩ = some (.int .i64 tq) := Lib.cell_of_heap HB2'.out.bt 3
  have t4 : w25.cell? ⟨w.heap.size, 4, none⟩ = some (.int .i64 ta) := Lib.cell_of_heap HB2'.out.bt 4
  have t5 : w25.cell? ⟨w.heap.size, 5, none⟩ = some (.slice i1 j1 l1) := Lib.cell_of_heap HB2'.out.bt 5
  have t6 : w25.cell? ⟨w.heap.size, 6, none⟩ = some (.slice i2 j2 l2) := Lib.cell_of_heap HB2'.out.bt 6
  clear hpx hT2 HB2
  go_wp2_with fail
  go_fit E2
  rintro e w3 ⟨rfl, b3⟩
  clear E2 t0 t1 t2 t3 t4 t5 t6
  have HB3 : Hid (Bb w #[.int .i64 tk, .int .i64 tn, .string tt, .int .i64 tq, .int .i64 ta, .slice i1 j1 l1, .slice i2 j2 l2] #[.int .i64 yk, .int .i64 yn, .string yt, .int .i64 yo, .int .i64 ya] w3) := HB2'.out.below b3
  clear b3 HB2'
  by_cases hc0 : chkT T = 0
  rotate_left
  · have hev : errT (chkT T) = .iface 44 (.int .i64 (chkT T)) := by unfold errT; rw [if_neg hc0]
    rw [hev]
    obtain ⟨ct, hct⟩ : ∃ ct, chkT T = ct := ⟨_, rfl⟩
    rw [hct]
    clear hev hc0 hct HPX
    go_upto_region 10 with fail
    have hT9 : IsT w3 (tval (⟨tk, tn, tt, tq, ta⟩, .slice i1 j1 l1, .slice i2 j2 l2)) T := HT.out.stay HB3.out.low
    have EPA := pathsJ_any (⟨yk, yn, yt, yo, ya⟩ : V) w3 hT9
    unfold V.val tval at EPA
    dsimp only at EPA
    clear hT9
    have t0 : w3.cell? ⟨w.heap.size, 0, none⟩ = some (.int .i64 tk) := Lib.cell_of_heap HB3.out.bt 0
    have t1 : w3.cell? ⟨w.heap.size, 1, none⟩ = some (.int .i64 tn) := Lib.cell_of_heap HB3.out.bt 1
    have t2 : w3.cell? ⟨w.heap.size, 2, none⟩ = some (.string tt) := Lib.cell_of_heap HB3.out.bt 2
    have t3 : w3.cell? ⟨w.heap.size, 3, none⟩ = some (.int .i64 tq) := Lib.cell_of_heap HB3.out.bt 3
    have t4 : w3.cell? ⟨w.heap.size, 4, none⟩ = some (.int .i64 ta) := Lib.cell_of_heap HB3.out.bt 4
    have t5 : w3.cell? ⟨w.heap.size, 5, none⟩ = some (.slice i1 j1 l1) := Lib.cell_of_heap HB3.out.bt 5
    have t6 : w3.cell? ⟨w.heap.size, 6, none⟩ = some (.slice i2 j2 l2) := Lib.cell_of_heap HB3.out.bt 6
    have y0 : w3.cell? ⟨w.heap.size + 1, 0, none⟩ = some (.int .i64 yk) := Lib.cell_of_heap HB3.out.bv 0
    have y1 : w3.cell? ⟨w.heap.size + 1, 1, none⟩ = some (.int .i64 yn) := Lib.cell_of_heap HB3.out.bv 1
    have y2 : w3.cell? ⟨w.heap.size + 1, 2, none⟩ = some (.string yt) := Lib.cell_of_heap HB3.out.bv 2
    have y3 : w3.cell? ⟨w.heap.size + 1, 3, none⟩ = some (.int .i64 yo) := Lib.cell_of_heap HB3.out.bv 3
    have y4 : w3.cell? ⟨w.heap.size + 1, 4, none⟩ = some (.int .i64 ya) := Lib.cell_of_heap HB3.out.bv 4
    go_wp2_with fail
    go_fit EPA
    rintro e w6 ⟨⟨r6, rfl, hR6⟩, b6⟩
    clear EPA t0 t1 t2 t3 t4 t5 t6 y0 y1 y2 y3 y4
    obtain ⟨pa, pc, hr6, _⟩ := hR6.form
    subst hr6
    obtain ⟨pl, hpl⟩ : ∃ pl, (pathR T (⟨yk, yn, yt, yo, ya⟩ : V)).length = pl := ⟨_, rfl⟩
    rw [hpl] at hR6 ⊢
    have HPLN : Hid ((pathR T (⟨yk, yn, yt, yo, ya⟩ : V)).length = pl ∧ pl ≤ 9223372036854775807) := ⟨hpl, by
      have h9 := RP.short hR6
      omega⟩
    have HB6 : Hid (Bb w #[.int .i64 tk, .int .i64 tn, .string tt, .int .i64 tq, .int .i64 ta, .slice i1 j1 l1, .slice i2 j2 l2] #[.int .i64 yk, .int .i64 yn, .string yt, .int .i64 yo, .int .i64 ya] w6) := HB3.out.below b6
    have HR6 : Hid (RP 0 w6 (.slice pa pl pc) (pathR T (⟨yk, yn, yt, yo, ya⟩ : V))) := rp_mono hR6
    have HEV : Hid (∀ j (hj : j < (pathR T (⟨yk, yn, yt, yo, ya⟩ : V)).length), errV (pathE T (⟨yk, yn, yt, yo, ya⟩ : V)) = .nilIface) := fun j hj => by
      rw [(path_leads (List.getElem_mem hj)).1]
      rfl
    obtain ⟨pe, hpe⟩ : ∃ pe, errV (pathE T (⟨yk, yn, yt, yo, ya⟩ : V)) = pe := ⟨_, rfl⟩
    have HPF : Hid (pe = .nilIface ∨ ∃ x, pe = .iface 44 (.int .i64 x)) := by
      show _ ∨ _
      rw [← hpe]
      unfold errV
      split
      · exact Or.inl rfl
      · exact Or.inr ⟨_, rfl⟩
    rw [hpe] at HEV ⊢
    clear hpl hpe hR6 b6
    go_wp2_with fail
    go_loopw [17] (fun i wr => ∃ j : Nat, j ≤ pl ∧ i = .int .i64 j ∧ Hid (Bb w #[.int .i64 tk, .int .i64 tn, .string tt, .int .i64 tq, .int .i64 ta, .slice i1 j1 l1, .slice i2 j2 l2] #[.int .i64 yk, .int .i64 yn, .string yt, .int .i64 yo, .int .i64 ya] wr) ∧ Hid (RP 0 wr (.slice pa pl pc) (pathR T (⟨yk, yn, yt, yo, ya⟩ : V)))) (fun i _ => pl - (RowKit.intOf i).toNat)
    case atStart => exact ⟨0, Nat.zero_le _, rfl, HB6, HR6⟩
    case round =>
      obtain ⟨j, hj, rfl, HBR, HRR⟩ := hrel
      by_cases hlt : j < pl
      · have HJ : Hid (j < pl) := hlt
        have hjl : j < (pathR T (⟨yk, yn, yt, yo, ya⟩ : V)).length := by have := HPLN.out.1; omega
        obtain rfl : pe = .nilIface := HEV.out j hjl
        obtain ⟨pb, hpa, hpb, hat⟩ := RP.at HRR.out (fun e => by rw [e] at hjl; exact absurd hjl (Nat.not_lt_zero _))
        subst hpa
        obtain ⟨sa, sc, hcell, hRS⟩ := hat j hjl
        have hlead := path_leads (List.getElem_mem hjl)
        obtain ⟨sl, hsl⟩ : ∃ sl, (pathR T (⟨yk, yn, yt, yo, ya⟩ : V))[j].length = sl := ⟨_, rfl⟩
        rw [hsl] at hcell hRS
        have HIS : Hid (IsSteps wr (.slice sa sl sc) (pathR T (⟨yk, yn, yt, yo, ya⟩ : V))[j]) := by
          have h9 := steps_of hRS (by have := pathR_short T (⟨yk, yn, yt, yo, ya⟩ : V) j hjl; omega)
          exact h9
        have EG : ∀ W, Below wr.heap.size wr W → Calls Tryz.prog 8 #[.agg #[.int .i64 tk, .int .i64 tn, .string tt, .int .i64 tq, .int .i64 ta, .slice i1 j1 l1, .slice i2 j2 l2], .slice sa sl sc] W fun e w' => (∃ v5, e = .returned (.tuple #[v5, .nilIface]) ∧ ∃ uk un ut uo ua a1 n1 c1 a2 n2 c2, v5 = tval (⟨uk, un, ut, uo, ua⟩, .slice a1 n1 c1, .slice a2 n2 c2) ∧ sameB ⟨uk, un, ut, uo, ua⟩ (⟨yk, yn, yt, yo, ya⟩ : V) = true) ∧ Below W.heap.size W w' := fun W hW =>
          get_leads (HT.out.stay (HBR.out.low.trans (hW.mono HBR.out.low.size))) (HIS.out.below hW) hlead.2.1 hlead.2.2
        have HCELL : Hid (∀ W, Below wr.heap.size wr W → W.cell? ⟨w.heap.size, 0, none⟩ = some (.int .i64 tk) ∧ W.cell? ⟨w.heap.size, 1, none⟩ = some (.int .i64 tn) ∧ W.cell? ⟨w.heap.size, 2, none⟩ = some (.string tt) ∧ W.cell? ⟨w.heap.size, 3, none⟩ = some (.int .i64 tq) ∧ W.cell? ⟨w.heap.size, 4, none⟩ = some (.int .i64 ta) ∧ W.cell? ⟨w.heap.size, 5, none⟩ = some (.slice i1 j1 l1) ∧ W.cell? ⟨w.heap.size, 6, none⟩ = some (.slice i2 j2 l2) ∧ W.cell? ⟨pb, j, none⟩ = some (.slice sa sl sc)) := fun W hW => by
          have h1 := (HBR.out.below hW).bt
          exact ⟨Lib.cell_of_heap h1 0, Lib.cell_of_heap h1 1, Lib.cell_of_heap h1 2, Lib.cell_of_heap h1 3, Lib.cell_of_heap h1 4, Lib.cell_of_heap h1 5, Lib.cell_of_heap h1 6, (hW.cell (p := ⟨pb, j, none⟩) hpb).trans hcell⟩
        have g1 : (j : Int) < pl := by omega
        have g2 : (j : Int) < 9223372036854775807 := by have := HPLN.out.2; omega
        clear HIS hj hlt hat hcell hRS hlead hsl hpb hjl
        go_wp2_with fail
        refine wp_region_noPanic ?_
        refine wp_region_held_drew (S := fun W => Below wr.heap.size wr W) (by kernel_rfl) ((Below.refl _ _).drew) (fun hHeld => ?_)
        refine wpAnyH_take (i := 0) (oi := { dst := some 76, op := Op.load 29 (Operand.tmp 3), type := 29, pos := "law.go:123", after := #[], guard := none }) (v := ?_) rfl (by kernel_rfl) (by kernel_rfl) (by kernel_rfl) (fun _ _ _ h => h) (Or.inl ⟨by rfl, ?_⟩) (by assumption) ?_
        rotate_left
        · intro wz hSw
          try dsimp only at hSw
          obtain ⟨t0, t1, t2, t3, t4, t5, t6, p0⟩ := HCELL.out wz hSw
          go_simp
          try with_reducible rfl
        try simp only [Act.put, List.setIfInBounds_toArray, List.set_cons_zero, List.set_cons_succ]
        refine wpAnyH_take (i := 1) (oi := { dst := some 77, op := Op.move (Operand.tmp 16), type := 37, pos := "law.go:123", after := #[], guard := none }) (v := ?_) rfl (by kernel_rfl) (by kernel_rfl) (by kernel_rfl) (fun _ _ _ h => h) (Or.inl ⟨by rfl, ?_⟩) (by assumption) ?_
        rotate_left
        · intro wz hSw
          try dsimp only at hSw
          obtain ⟨t0, t1, t2, t3, t4, t5, t6, p0⟩ := HCELL.out wz hSw
          go_simp
          try with_reducible rfl
        try simp only [Act.put, List.setIfInBounds_toArray, List.set_cons_zero, List.set_cons_succ]
        refine wpAnyH_take (i := 2) (oi := { dst := some 78, op := Op.move (Operand.tmp 17), type := 3, pos := "law.go:123", after := #[], guard := none }) (v := ?_) rfl (by kernel_rfl) (by kernel_rfl) (by kernel_rfl) (fun _ _ _ h => h) (Or.inl ⟨by rfl, ?_⟩) (by assumption) ?_
        rotate_left
        · intro wz hSw
          try dsimp only at hSw
          obtain ⟨t0, t1, t2, t3, t4, t5, t6, p0⟩ := HCELL.out wz hSw
          go_simp
          try with_reducible rfl
        try simp only [Act.put, List.setIfInBounds_toArray, List.set_cons_zero, List.set_cons_succ]
        refine wpAnyH_take (i := 3) (oi := { dst := some 79, op := Op.indexAddr 37 (Operand.tmp 77) (Operand.tmp 78), type := 0, pos := "law.go:123", after := #[{ on := 1, ground := Ground.data }, { on := 2, ground := Ground.data }], guard := none }) (v := ?_) rfl (by kernel_rfl) (by kernel_rfl) (by kernel_rfl) (fun _ _ _ h => h) (Or.inl ⟨by rfl, ?_⟩) (by assumption) ?_
        rotate_left
        · intro wz hSw
          try dsimp only at hSw
          obtain ⟨t0, t1, t2, t3, t4, t5, t6, p0⟩ := HCELL.out wz hSw
          go_simp
          try with_reducible rfl
        try simp only [Act.put, List.setIfInBounds_toArray, List.set_cons_zero, List.set_cons_succ]
        refine wpAnyH_take (i := 4) (oi := { dst := some 80, op := Op.load 42 (Operand.tmp 79), type := 42, pos := "law.go:123", after := #[{ on := 3, ground := Ground.data }], guard := none }) (v := ?_) rfl (by kernel_rfl) (by kernel_rfl) (by kernel_rfl) (fun _ _ _ h => h) (Or.inl ⟨by rfl, ?_⟩) (by assumption) ?_
        rotate_left
        · intro wz hSw
          try dsimp only at hSw
          obtain ⟨t0, t1, t2, t3, t4, t5, t6, p0⟩ := HCELL.out wz hSw
          go_simp
          try with_reducible rfl
        try simp only [Act.put, List.setIfInBounds_toArray, List.set_cons_zero, List.set_cons_succ]
        refine wpAnyH_ready (rs := [5, 9]) (by kernel_rfl) (by simp) (AllReadyH.cons (o := { dst := some 81, op := Op.call { callee := Callee.value (Operand.func 8), args := #[Operand.tmp 76, Operand.tmp 80], argTypes := #[29, 42] }, type := 40, pos := "law.go:123", after := #[{ on := 0, ground := Ground.data }, { on := 4, ground := Ground.data }], guard := none }) rfl (fun K hK => ?_) (AllReadyH.cons (o := { dst := some 18, op := Op.alloc 29, type := 0, pos := "law.go:123", after := #[], guard := none }) rfl (fun K hK => ?_) AllReadyH.nil))
        · go_simp
          go_at_call 8
          refine Calls.mono (EG wr.drew ((Below.refl _ _).drew)) ?_
          rintro e w5 ⟨⟨v5, hu5, HSV⟩, b5⟩
          obtain ⟨uk, un, ut, uo, ua, a1, n1, c1, a2, n2, c2, rfl, hsv⟩ := HSV
          subst hu5
          unfold tval
          dsimp only
          go_wp2_with fail
          refine hK.out _ _ (show Below wr.heap.size wr w5 from ((Below.refl wr.heap.size wr).drew).trans b5) (fun hHeld5 => ?_)
          clear hK K
          try simp only [Act.put, List.setIfInBounds_toArray, List.set_cons_zero, List.set_cons_succ]
          refine wpAnyH_take (i := 6) (oi := { dst := some 75, op := Op.move (Operand.tmp 81), type := 40, pos := "law.go:123", after := #[{ on := 5, ground := Ground.data }], guard := none }) (v := ?_) rfl (by kernel_rfl) (by kernel_rfl) (by kernel_rfl) (fun _ _ _ h => h) (Or.inl ⟨by rfl, ?_⟩) (by assumption) ?_
          rotate_left
          · intro wz hSw
            try dsimp only at hSw
            obtain ⟨t0, t1, t2, t3, t4, t5, t6, p0⟩ := HCELL.out wz hSw
            go_simp
            try with_reducible rfl
          try simp only [Act.put, List.setIfInBounds_toArray, List.set_cons_zero, List.set_cons_succ]
          refine wpAnyH_take (i := 7) (oi := { dst := some 82, op := Op.extract (Operand.tmp 75) 0, type := 29, pos := "law.go:123", after := #[{ on := 6, ground := Ground.data }], guard := none }) (v := ?_) rfl (by kernel_rfl) (by kernel_rfl) (by kernel_rfl) (fun _ _ _ h => h) (Or.inl ⟨by rfl, ?_⟩) (by assumption) ?_
          rotate_left
          · intro wz hSw
            try dsimp only at hSw
            obtain ⟨t0, t1, t2, t3, t4, t5, t6, p0⟩ := HCELL.out wz hSw
            go_simp
            try with_reducible rfl
          try simp only [Act.put, List.setIfInBounds_toArray, List.set_cons_zero, List.set_cons_succ]
          refine wpAnyH_take (i := 8) (oi := { dst := some 83, op := Op.extract (Operand.tmp 75) 1, type := 31, pos := "law.go:123", after := #[{ on := 6, ground := Ground.data }, { on := 10, ground := Ground.gcOnly Departure.lateStores }], guard := none }) (v := ?_) rfl (by kernel_rfl) (by kernel_rfl) (by kernel_rfl) (fun _ _ _ h => h) (Or.inl ⟨by rfl, ?_⟩) (by assumption) ?_
          rotate_left
          · intro wz hSw
            try dsimp only at hSw
            obtain ⟨t0, t1, t2, t3, t4, t5, t6, p0⟩ := HCELL.out wz hSw
            go_simp
            try with_reducible rfl
          try simp only [Act.put, List.setIfInBounds_toArray, List.set_cons_zero, List.set_cons_succ]
          refine wpAnyH_ready (rs := [9]) (by kernel_rfl) (by simp) (AllReadyH.cons (o := { dst := some 18, op := Op.alloc 29, type := 0, pos := "law.go:123", after := #[], guard := none }) rfl (fun K hK => ?_) AllReadyH.nil)
          go_simp
          refine hK.out _ _ ((((Below.refl wr.heap.size wr).drew).trans b5).alloc (show wr.heap.size ≤ w5.heap.size from b5.size) _) (fun hHeld9 => ?_)
          clear hK K
          try simp only [Act.put, List.setIfInBounds_toArray, List.set_cons_zero, List.set_cons_succ]
          have hW : Below wr.heap.size wr (w5.alloc (.cells #[.int .i64 0, .int .i64 0, .string ⟨#[]⟩, .int .i64 0, .int .i64 0, .slice none 0 0, .slice none 0 0] 29)) := (((Below.refl wr.heap.size wr).drew).trans b5).alloc (show wr.heap.size ≤ w5.heap.size from b5.size) _
          have nb : (w5.alloc (.cells #[.int .i64 0, .int .i64 0, .string ⟨#[]⟩, .int .i64 0, .int .i64 0, .slice none 0 0, .slice none 0 0] 29)).heap[w5.heap.size]? = some (.cells #[.int .i64 0, .int .i64 0, .string ⟨#[]⟩, .int .i64 0, .int .i64 0, .slice none 0 0, .slice none 0 0] 29) := one_new w5 _
          have hz1 : wr.heap.size ≤ w5.heap.size := b5.size
          generalize w5.alloc (.cells #[.int .i64 0, .int .i64 0, .string ⟨#[]⟩, .int .i64 0, .int .i64 0, .slice none 0 0, .slice none 0 0] 29) = WA at *
          obtain ⟨mb, hmb⟩ : ∃ mb, w5.heap.size = mb := ⟨_, rfl⟩
          rw [hmb] at nb hz1 ⊢
          clear hmb b5
          have nn0 : WA.cell? ⟨mb, 0, none⟩ = some (.int .i64 0) := Lib.cell_of_heap nb 0
          have nn1 : WA.cell? ⟨mb, 1, none⟩ = some (.int .i64 0) := Lib.cell_of_heap nb 1
          have nn2 : WA.cell? ⟨mb, 2, none⟩ = some (.string ⟨#[]⟩) := Lib.cell_of_heap nb 2
          have nn3 : WA.cell? ⟨mb, 3, none⟩ = some (.int .i64 0) := Lib.cell_of_heap nb 3
          have nn4 : WA.cell? ⟨mb, 4, none⟩ = some (.int .i64 0) := Lib.cell_of_heap nb 4
          have nn5 : WA.cell? ⟨mb, 5, none⟩ = some (.slice none 0 0) := Lib.cell_of_heap nb 5
          have nn6 : WA.cell? ⟨mb, 6, none⟩ = some (.slice none 0 0) := Lib.cell_of_heap nb 6
          have nf := Lib.frozen_of_heap nb
          refine wpAnyH_ready (rs := [10]) (by kernel_rfl) (by simp) (AllReadyH.cons (o := { dst := none, op := Op.store 29 (Operand.tmp 18) (Operand.tmp 82), type := 0, pos := "law.go:123", after := #[{ on := 9, ground := Ground.data }, { on := 7, ground := Ground.data }, { on := 5, ground := Ground.chain }, { on := 0, ground := Ground.phase }, { on := 1, ground := Ground.phase }, { on := 2, ground := Ground.phase }, { on := 3, ground := Ground.phase }, { on := 4, ground := Ground.phase }, { on := 5, ground := Ground.phase }, { on := 6, ground := Ground.phase }, { on := 7, ground := Ground.phase }, { on := 8, ground := Ground.textOnly Departure.lateStores }, { on := 9, ground := Ground.phase }], guard := none }) rfl (fun K hK => ?_) AllReadyH.nil)
          go_simp
          refine hK.out _ _ (set7_below hW hz1 (.int .i64 uk) (.int .i64 un) (.string ut) (.int .i64 uo) (.int .i64 ua) (.slice a1 n1 c1) (.slice a2 n2 c2)) (fun hHeld10 => ?_)
          clear hK K
          try simp only [Act.put, List.setIfInBounds_toArray, List.set_cons_zero, List.set_cons_succ]
          refine wpAnyH_take (i := 11) (oi := { dst := some 19, op := Op.assign (Operand.tmp 83), type := 31, pos := "law.go:123", after := #[{ on := 8, ground := Ground.data }, { on := 10, ground := Ground.chain }, { on := 0, ground := Ground.phase }, { on := 1, ground := Ground.phase }, { on := 2, ground := Ground.phase }, { on := 3, ground := Ground.phase }, { on := 4, ground := Ground.phase }, { on := 5, ground := Ground.phase }, { on := 6, ground := Ground.phase }, { on := 7, ground := Ground.phase }, { on := 8, ground := Ground.phase }, { on := 9, ground := Ground.phase }, { on := 10, ground := Ground.phase }], guard := none }) (v := ?_) rfl (by kernel_rfl) (by kernel_rfl) (by kernel_rfl) (fun _ _ _ h => h) (Or.inl ⟨by rfl, ?_⟩) (by assumption) ?_
          rotate_left
          · intro wz hSw
            try dsimp only at hSw
            obtain ⟨t0, t1, t2, t3, t4, t5, t6, p0⟩ := HCELL.out wz hSw
            go_simp
            try with_reducible rfl
          try simp only [Act.put, List.setIfInBounds_toArray, List.set_cons_zero, List.set_cons_succ]
          refine wpAnyH_done (by kernel_rfl) ?_ _
          refine NoPanic.normal ?_
          have HXf : Hid (((((((((WA.setCell ⟨mb, 0, none⟩ (.int .i64 uk)).setCell ⟨mb, 1, none⟩ (.int .i64 un)).setCell ⟨mb, 2, none⟩ (.string ut)).setCell ⟨mb, 3, none⟩ (.int .i64 uo)).setCell ⟨mb, 4, none⟩ (.int .i64 ua)).setCell ⟨mb, 5, none⟩ (.slice a1 n1 c1)).setCell ⟨mb, 6, none⟩ (.slice a2 n2 c2))).heap[mb]? = some (.cells #[.int .i64 uk, .int .i64 un, .string ut, .int .i64 uo, .int .i64 ua, .slice a1 n1 c1, .slice a2 n2 c2] 29)) := set7 nb (.int .i64 uk) (.int .i64 un) (.string ut) (.int .i64 uo) (.int .i64 ua) (.slice a1 n1 c1) (.slice a2 n2 c2)
          have hbf : Below wr.heap.size wr (((((((WA.setCell ⟨mb, 0, none⟩ (.int .i64 uk)).setCell ⟨mb, 1, none⟩ (.int .i64 un)).setCell ⟨mb, 2, none⟩ (.string ut)).setCell ⟨mb, 3, none⟩ (.int .i64 uo)).setCell ⟨mb, 4, none⟩ (.int .i64 ua)).setCell ⟨mb, 5, none⟩ (.slice a1 n1 c1)).setCell ⟨mb, 6, none⟩ (.slice a2 n2 c2)) := set7_below hW hz1 (.int .i64 uk) (.int .i64 un) (.string ut) (.int .i64 uo) (.int .i64 ua) (.slice a1 n1 c1) (.slice a2 n2 c2)
          clear nn0 nn1 nn2 nn3 nn4 nn5 nn6 nf nb hW hz1
          generalize (((((((WA.setCell ⟨mb, 0, none⟩ (.int .i64 uk)).setCell ⟨mb, 1, none⟩ (.int .i64 un)).setCell ⟨mb, 2, none⟩ (.string ut)).setCell ⟨mb, 3, none⟩ (.int .i64 uo)).setCell ⟨mb, 4, none⟩ (.int .i64 ua)).setCell ⟨mb, 5, none⟩ (.slice a1 n1 c1)).setCell ⟨mb, 6, none⟩ (.slice a2 n2 c2)) = wf at *
          have HBf : Hid (Bb w #[.int .i64 tk, .int .i64 tn, .string tt, .int .i64 tq, .int .i64 ta, .slice i1 j1 l1, .slice i2 j2 l2] #[.int .i64 yk, .int .i64 yn, .string yt, .int .i64 yo, .int .i64 ya] wf) := HBR.out.below hbf
          have HRf : Hid (RP 0 wf (.slice (some ⟨pb, 0, none⟩) pl pc) (pathR T (⟨yk, yn, yt, yo, ya⟩ : V))) := HRR.out.below hbf
          clear hbf
          clear hHeld hHeld5 hHeld9 hHeld10 EG
          have u0 : wf.cell? ⟨mb, 0, none⟩ = some (.int .i64 uk) := Lib.cell_of_heap HXf.out 0
          have u1 : wf.cell? ⟨mb, 1, none⟩ = some (.int .i64 un) := Lib.cell_of_heap HXf.out 1
          have u2 : wf.cell? ⟨mb, 2, none⟩ = some (.string ut) := Lib.cell_of_heap HXf.out 2
          have u3 : wf.cell? ⟨mb, 3, none⟩ = some (.int .i64 uo) := Lib.cell_of_heap HXf.out 3
          have u4 : wf.cell? ⟨mb, 4, none⟩ = some (.int .i64 ua) := Lib.cell_of_heap HXf.out 4
          have u5 : wf.cell? ⟨mb, 5, none⟩ = some (.slice a1 n1 c1) := Lib.cell_of_heap HXf.out 5
          have u6 : wf.cell? ⟨mb, 6, none⟩ = some (.slice a2 n2 c2) := Lib.cell_of_heap HXf.out 6
          have y0 : wf.cell? ⟨w.heap.size + 1, 0, none⟩ = some (.int .i64 yk) := Lib.cell_of_heap HBf.out.bv 0
          have y1 : wf.cell? ⟨w.heap.size + 1, 1, none⟩ = some (.int .i64 yn) := Lib.cell_of_heap HBf.out.bv 1
          have y2 : wf.cell? ⟨w.heap.size + 1, 2, none⟩ = some (.string yt) := Lib.cell_of_heap HBf.out.bv 2
          have y3 : wf.cell? ⟨w.heap.size + 1, 3, none⟩ = some (.int .i64 yo) := Lib.cell_of_heap HBf.out.bv 3
          have y4 : wf.cell? ⟨w.heap.size + 1, 4, none⟩ = some (.int .i64 ya) := Lib.cell_of_heap HBf.out.bv 4
          have he9 := heq uk un ut uo ua hsv
          clear hsv heq
          go_wp2_with fail
          go_roundw
          case rel => exact ⟨j + 1, HJ.out, by go_num, HBf.out, HRf.out⟩
          case measure => simp [RowKit.intOf]; have := HJ.out; omega
        · go_simp
          refine hK.out _ _ (((Below.refl wr.heap.size wr).drew).alloc (Nat.le_refl _) _) (fun hHeld9 => ?_)
          clear hK K
          try simp only [Act.put, List.setIfInBounds_toArray, List.set_cons_zero, List.set_cons_succ]
          have hWB : Below wr.heap.size wr (wr.drew.alloc (.cells #[.int .i64 0, .int .i64 0, .string ⟨#[]⟩, .int .i64 0, .int .i64 0, .slice none 0 0, .slice none 0 0] 29)) := ((Below.refl wr.heap.size wr).drew).alloc (Nat.le_refl _) _
          have nb0 : (wr.drew.alloc (.cells #[.int .i64 0, .int .i64 0, .string ⟨#[]⟩, .int .i64 0, .int .i64 0, .slice none 0 0, .slice none 0 0] 29)).heap[wr.heap.size]? = some (.cells #[.int .i64 0, .int .i64 0, .string ⟨#[]⟩, .int .i64 0, .int .i64 0, .slice none 0 0, .slice none 0 0] 29) := one_new wr.drew _
          refine wpAnyH_ready (rs := [5]) (by kernel_rfl) (by simp) (AllReadyH.cons (o := { dst := some 81, op := Op.call { callee := Callee.value (Operand.func 8), args := #[Operand.tmp 76, Operand.tmp 80], argTypes := #[29, 42] }, type := 40, pos := "law.go:123", after := #[{ on := 0, ground := Ground.data }, { on := 4, ground := Ground.data }], guard := none }) rfl (fun K hK => ?_) AllReadyH.nil)
          go_simp
          go_at_call 8
          refine Calls.mono (EG (wr.drew.alloc (.cells #[.int .i64 0, .int .i64 0, .string ⟨#[]⟩, .int .i64 0, .int .i64 0, .slice none 0 0, .slice none 0 0] 29)) (hWB)) ?_
          rintro e w5 ⟨⟨v5, hu5, HSV⟩, b5⟩
          obtain ⟨uk, un, ut, uo, ua, a1, n1, c1, a2, n2, c2, rfl, hsv⟩ := HSV
          subst hu5
          unfold tval
          dsimp only
          go_wp2_with fail
          refine hK.out _ _ (show Below wr.heap.size wr w5 from hWB.trans (b5.mono hWB.size)) (fun hHeld5 => ?_)
          clear hK K
          try simp only [Act.put, List.setIfInBounds_toArray, List.set_cons_zero, List.set_cons_succ]
          refine wpAnyH_take (i := 6) (oi := { dst := some 75, op := Op.move (Operand.tmp 81), type := 40, pos := "law.go:123", after := #[{ on := 5, ground := Ground.data }], guard := none }) (v := ?_) rfl (by kernel_rfl) (by kernel_rfl) (by kernel_rfl) (fun _ _ _ h => h) (Or.inl ⟨by rfl, ?_⟩) (by assumption) ?_
          rotate_left
          · intro wz hSw
            try dsimp only at hSw
            obtain ⟨t0, t1, t2, t3, t4, t5, t6, p0⟩ := HCELL.out wz hSw
            go_simp
            try with_reducible rfl
          try simp only [Act.put, List.setIfInBounds_toArray, List.set_cons_zero, List.set_cons_succ]
          refine wpAnyH_take (i := 7) (oi := { dst := some 82, op := Op.extract (Operand.tmp 75) 0, type := 29, pos := "law.go:123", after := #[{ on := 6, ground := Ground.data }], guard := none }) (v := ?_) rfl (by kernel_rfl) (by kernel_rfl) (by kernel_rfl) (fun _ _ _ h => h) (Or.inl ⟨by rfl, ?_⟩) (by assumption) ?_
          rotate_left
          · intro wz hSw
            try dsimp only at hSw
            obtain ⟨t0, t1, t2, t3, t4, t5, t6, p0⟩ := HCELL.out wz hSw
            go_simp
            try with_reducible rfl
          try simp only [Act.put, List.setIfInBounds_toArray, List.set_cons_zero, List.set_cons_succ]
          refine wpAnyH_take (i := 8) (oi := { dst := some 83, op := Op.extract (Operand.tmp 75) 1, type := 31, pos := "law.go:123", after := #[{ on := 6, ground := Ground.data }, { on := 10, ground := Ground.gcOnly Departure.lateStores }], guard := none }) (v := ?_) rfl (by kernel_rfl) (by kernel_rfl) (by kernel_rfl) (fun _ _ _ h => h) (Or.inl ⟨by rfl, ?_⟩) (by assumption) ?_
          rotate_left
          · intro wz hSw
            try dsimp only at hSw
            obtain ⟨t0, t1, t2, t3, t4, t5, t6, p0⟩ := HCELL.out wz hSw
            go_simp
            try with_reducible rfl
          try simp only [Act.put, List.setIfInBounds_toArray, List.set_cons_zero, List.set_cons_succ]
          have hW : Below wr.heap.size wr w5 := hWB.trans (b5.mono hWB.size)
          have nb : w5.heap[wr.heap.size]? = some (.cells #[.int .i64 0, .int .i64 0, .string ⟨#[]⟩, .int .i64 0, .int .i64 0, .slice none 0 0, .slice none 0 0] 29) := (b5.block _ (lt_of_heap nb0)).trans nb0
          have hz1 : wr.heap.size ≤ wr.heap.size := Nat.le_refl _
          clear hWB nb0 b5
          generalize w5 = WA at *
          have nn0 : WA.cell? ⟨wr.heap.size, 0, none⟩ = some (.int .i64 0) := Lib.cell_of_heap nb 0
          have nn1 : WA.cell? ⟨wr.heap.size, 1, none⟩ = some (.int .i64 0) := Lib.cell_of_heap nb 1
          have nn2 : WA.cell? ⟨wr.heap.size, 2, none⟩ = some (.string ⟨#[]⟩) := Lib.cell_of_heap nb 2
          have nn3 : WA.cell? ⟨wr.heap.size, 3, none⟩ = some (.int .i64 0) := Lib.cell_of_heap nb 3
          have nn4 : WA.cell? ⟨wr.heap.size, 4, none⟩ = some (.int .i64 0) := Lib.cell_of_heap nb 4
          have nn5 : WA.cell? ⟨wr.heap.size, 5, none⟩ = some (.slice none 0 0) := Lib.cell_of_heap nb 5
          have nn6 : WA.cell? ⟨wr.heap.size, 6, none⟩ = some (.slice none 0 0) := Lib.cell_of_heap nb 6
          have nf := Lib.frozen_of_heap nb
          refine wpAnyH_ready (rs := [10]) (by kernel_rfl) (by simp) (AllReadyH.cons (o := { dst := none, op := Op.store 29 (Operand.tmp 18) (Operand.tmp 82), type := 0, pos := "law.go:123", after := #[{ on := 9, ground := Ground.data }, { on := 7, ground := Ground.data }, { on := 5, ground := Ground.chain }, { on := 0, ground := Ground.phase }, { on := 1, ground := Ground.phase }, { on := 2, ground := Ground.phase }, { on := 3, ground := Ground.phase }, { on := 4, ground := Ground.phase }, { on := 5, ground := Ground.phase }, { on := 6, ground := Ground.phase }, { on := 7, ground := Ground.phase }, { on := 8, ground := Ground.textOnly Departure.lateStores }, { on := 9, ground := Ground.phase }], guard := none }) rfl (fun K hK => ?_) AllReadyH.nil)
          go_simp
          refine hK.out _ _ (set7_below hW hz1 (.int .i64 uk) (.int .i64 un) (.string ut) (.int .i64 uo) (.int .i64 ua) (.slice a1 n1 c1) (.slice a2 n2 c2)) (fun hHeld10 => ?_)
          clear hK K
          try simp only [Act.put, List.setIfInBounds_toArray, List.set_cons_zero, List.set_cons_succ]
          refine wpAnyH_take (i := 11) (oi := { dst := some 19, op := Op.assign (Operand.tmp 83), type := 31, pos := "law.go:123", after := #[{ on := 8, ground := Ground.data }, { on := 10, ground := Ground.chain }, { on := 0, ground := Ground.phase }, { on := 1, ground := Ground.phase }, { on := 2, ground := Ground.phase }, { on := 3, ground := Ground.phase }, { on := 4, ground := Ground.phase }, { on := 5, ground := Ground.phase }, { on := 6, ground := Ground.phase }, { on := 7, ground := Ground.phase }, { on := 8, ground := Ground.phase }, { on := 9, ground := Ground.phase }, { on := 10, ground := Ground.phase }], guard := none }) (v := ?_) rfl (by kernel_rfl) (by kernel_rfl) (by kernel_rfl) (fun _ _ _ h => h) (Or.inl ⟨by rfl, ?_⟩) (by assumption) ?_
          rotate_left
          · intro wz hSw
            try dsimp only at hSw
            obtain ⟨t0, t1, t2, t3, t4, t5, t6, p0⟩ := HCELL.out wz hSw
            go_simp
            try with_reducible rfl
          try simp only [Act.put, List.setIfInBounds_toArray, List.set_cons_zero, List.set_cons_succ]
          refine wpAnyH_done (by kernel_rfl) ?_ _
          refine NoPanic.normal ?_
          have HXf : Hid (((((((((WA.setCell ⟨wr.heap.size, 0, none⟩ (.int .i64 uk)).setCell ⟨wr.heap.size, 1, none⟩ (.int .i64 un)).setCell ⟨wr.heap.size, 2, none⟩ (.string ut)).setCell ⟨wr.heap.size, 3, none⟩ (.int .i64 uo)).setCell ⟨wr.heap.size, 4, none⟩ (.int .i64 ua)).setCell ⟨wr.heap.size, 5, none⟩ (.slice a1 n1 c1)).setCell ⟨wr.heap.size, 6, none⟩ (.slice a2 n2 c2))).heap[wr.heap.size]? = some (.cells #[.int .i64 uk, .int .i64 un, .string ut, .int .i64 uo, .int .i64 ua, .slice a1 n1 c1, .slice a2 n2 c2] 29)) := set7 nb (.int .i64 uk) (.int .i64 un) (.string ut) (.int .i64 uo) (.int .i64 ua) (.slice a1 n1 c1) (.slice a2 n2 c2)
          have hbf : Below wr.heap.size wr (((((((WA.setCell ⟨wr.heap.size, 0, none⟩ (.int .i64 uk)).setCell ⟨wr.heap.size, 1, none⟩ (.int .i64 un)).setCell ⟨wr.heap.size, 2, none⟩ (.string ut)).setCell ⟨wr.heap.size, 3, none⟩ (.int .i64 uo)).setCell ⟨wr.heap.size, 4, none⟩ (.int .i64 ua)).setCell ⟨wr.heap.size, 5, none⟩ (.slice a1 n1 c1)).setCell ⟨wr.heap.size, 6, none⟩ (.slice a2 n2 c2)) := set7_below hW hz1 (.int .i64 uk) (.int .i64 un) (.string ut) (.int .i64 uo) (.int .i64 ua) (.slice a1 n1 c1) (.slice a2 n2 c2)
          clear nn0 nn1 nn2 nn3 nn4 nn5 nn6 nf nb hW hz1
          generalize (((((((WA.setCell ⟨wr.heap.size, 0, none⟩ (.int .i64 uk)).setCell ⟨wr.heap.size, 1, none⟩ (.int .i64 un)).setCell ⟨wr.heap.size, 2, none⟩ (.string ut)).setCell ⟨wr.heap.size, 3, none⟩ (.int .i64 uo)).setCell ⟨wr.heap.size, 4, none⟩ (.int .i64 ua)).setCell ⟨wr.heap.size, 5, none⟩ (.slice a1 n1 c1)).setCell ⟨wr.heap.size, 6, none⟩ (.slice a2 n2 c2)) = wf at *
          have HBf : Hid (Bb w #[.int .i64 tk, .int .i64 tn, .string tt, .int .i64 tq, .int .i64 ta, .slice i1 j1 l1, .slice i2 j2 l2] #[.int .i64 yk, .int .i64 yn, .string yt, .int .i64 yo, .int .i64 ya] wf) := HBR.out.below hbf
          have HRf : Hid (RP 0 wf (.slice (some ⟨pb, 0, none⟩) pl pc) (pathR T (⟨yk, yn, yt, yo, ya⟩ : V))) := HRR.out.below hbf
          clear hbf
          clear hHeld hHeld5 hHeld9 hHeld10 EG
          have u0 : wf.cell? ⟨wr.heap.size, 0, none⟩ = some (.int .i64 uk) := Lib.cell_of_heap HXf.out 0
          have u1 : wf.cell? ⟨wr.heap.size, 1, none⟩ = some (.int .i64 un) := Lib.cell_of_heap HXf.out 1
          have u2 : wf.cell? ⟨wr.heap.size, 2, none⟩ = some (.string ut) := Lib.cell_of_heap HXf.out 2
          have u3 : wf.cell? ⟨wr.heap.size, 3, none⟩ = some (.int .i64 uo) := Lib.cell_of_heap HXf.out 3
          have u4 : wf.cell? ⟨wr.heap.size, 4, none⟩ = some (.int .i64 ua) := Lib.cell_of_heap HXf.out 4
          have u5 : wf.cell? ⟨wr.heap.size, 5, none⟩ = some (.slice a1 n1 c1) := Lib.cell_of_heap HXf.out 5
          have u6 : wf.cell? ⟨wr.heap.size, 6, none⟩ = some (.slice a2 n2 c2) := Lib.cell_of_heap HXf.out 6
          have y0 : wf.cell? ⟨w.heap.size + 1, 0, none⟩ = some (.int .i64 yk) := Lib.cell_of_heap HBf.out.bv 0
          have y1 : wf.cell? ⟨w.heap.size + 1, 1, none⟩ = some (.int .i64 yn) := Lib.cell_of_heap HBf.out.bv 1
          have y2 : wf.cell? ⟨w.heap.size + 1, 2, none⟩ = some (.string yt) := Lib.cell_of_heap HBf.out.bv 2
          have y3 : wf.cell? ⟨w.heap.size + 1, 3, none⟩ = some (.int .i64 yo) := Lib.cell_of_heap HBf.out.bv 3
          have y4 : wf.cell? ⟨w.heap.size + 1, 4, none⟩ = some (.int .i64 ya) := Lib.cell_of_heap HBf.out.bv 4
          have he9 := heq uk un ut uo ua hsv
          clear hsv heq
          go_wp2_with fail
          go_roundw
          case rel => exact ⟨j + 1, HJ.out, by go_num, HBf.out, HRf.out⟩
          case measure => simp [RowKit.intOf]; have := HJ.out; omega
      · have hje : j = pl := by omega
        subst hje
        clear hlt hj
        have HB7 := HBR
        clear HBR HRR
        rcases HPF.out with rfl | ⟨x9, rfl⟩
        · generalize wr = w7 at *
          have EP3 := parse_any s w7 (HVR.out.below HB7.out.low)
          go_wp2_with fail
          go_fit EP3
          rintro e w8 ⟨hP, b8⟩
          clear EP3
          have HB8 : Hid (Bb w #[.int .i64 tk, .int .i64 tn, .string tt, .int .i64 tq, .int .i64 ta, .slice i1 j1 l1, .slice i2 j2 l2] #[.int .i64 yk, .int .i64 yn, .string yt, .int .i64 yo, .int .i64 ya] w8) := HB7.out.below b8
          rcases hP with ⟨fk, fx, rfl, hno⟩ | ⟨u, U, rfl, hI, hG, ht, hsz⟩
          · clear hno b8
            unfold tval zU
            dsimp only
            have HB9 : Hid (Below w.heap.size w (w8.alloc (.cells #[.int .i64 0, .int .i64 0, .string ⟨#[]⟩, .int .i64 0, .int .i64 0, .slice none 0 0, .slice none 0 0] 29))) := HB8.out.low.alloc HB8.out.low.size _
            go_wp2
            rw [HPO.out]
            exact ⟨rfl, HB9.out⟩
          · obtain ⟨⟨uk, un, ut, uo, ua⟩, a1, n1, c1, a2, n2, c2, hu⟩ := hI.plain.parts
            subst hu
            have HU : Hid (IsT w8 (tval (⟨uk, un, ut, uo, ua⟩, .slice a1 n1 c1, .slice a2 n2 c2)) U ∧ Gd 0 U ∧ s.data.toList = txtT U) := ⟨hI.plain, hG, ht⟩
            clear hI hG ht hsz b8
            have hal : Below w8.heap.size w8 (w8.alloc (.cells #[.int .i64 uk, .int .i64 un, .string ut, .int .i64 uo, .int .i64 ua, .slice a1 n1 c1, .slice a2 n2 c2] 29)) := (Below.refl _ _).alloc (Nat.le_refl _) _
            have HB9 : Hid (Bb w #[.int .i64 tk, .int .i64 tn, .string tt, .int .i64 tq, .int .i64 ta, .slice i1 j1 l1, .slice i2 j2 l2] #[.int .i64 yk, .int .i64 yn, .string yt, .int .i64 yo, .int .i64 ya] (w8.alloc (.cells #[.int .i64 uk, .int .i64 un, .string ut, .int .i64 uo, .int .i64 ua, .slice a1 n1 c1, .slice a2 n2 c2] 29))) := HB8.out.below hal
            have HX9 : Hid ((w8.alloc (.cells #[.int .i64 uk, .int .i64 un, .string ut, .int .i64 uo, .int .i64 ua, .slice a1 n1 c1, .slice a2 n2 c2] 29)).heap[w8.heap.size]? = some (.cells #[.int .i64 uk, .int .i64 un, .string ut, .int .i64 uo, .int .i64 ua, .slice a1 n1 c1, .slice a2 n2 c2] 29)) := one_new w8 _
            have HU9 : Hid (IsT (w8.alloc (.cells #[.int .i64 uk, .int .i64 un, .string ut, .int .i64 uo, .int .i64 ua, .slice a1 n1 c1, .slice a2 n2 c2] 29)) (tval (⟨uk, un, ut, uo, ua⟩, .slice a1 n1 c1, .slice a2 n2 c2)) U) := HU.out.1.stay hal
            unfold tval
            dsimp only
            go_upto_region 20 with fail
            clear hal
            generalize w8.alloc (.cells #[.int .i64 uk, .int .i64 un, .string ut, .int .i64 uo, .int .i64 ua, .slice a1 n1 c1, .slice a2 n2 c2] 29) = w9 at *
            obtain ⟨xb, hxb⟩ : ∃ xb, w8.heap.size = xb := ⟨_, rfl⟩
            rw [hxb] at HX9 ⊢
            clear hxb
            have u0 : w9.cell? ⟨xb, 0, none⟩ = some (.int .i64 uk) := Lib.cell_of_heap HX9.out 0
            have u1 : w9.cell? ⟨xb, 1, none⟩ = some (.int .i64 un) := Lib.cell_of_heap HX9.out 1
            have u2 : w9.cell? ⟨xb, 2, none⟩ = some (.string ut) := Lib.cell_of_heap HX9.out 2
            have u3 : w9.cell? ⟨xb, 3, none⟩ = some (.int .i64 uo) := Lib.cell_of_heap HX9.out 3
            have u4 : w9.cell? ⟨xb, 4, none⟩ = some (.int .i64 ua) := Lib.cell_of_heap HX9.out 4
            have u5 : w9.cell? ⟨xb, 5, none⟩ = some (.slice a1 n1 c1) := Lib.cell_of_heap HX9.out 5
            have u6 : w9.cell? ⟨xb, 6, none⟩ = some (.slice a2 n2 c2) := Lib.cell_of_heap HX9.out 6
            have EQ := printJ_any w9 HU9.out HU.out.2.1.rng (HVR.out.below HB9.out.low).1
            have hck := chk_of HU.out.2.1
            have hpr : prT U = s.data.toList := by
              unfold prT
              rw [if_pos hck, HU.out.2.2]
            have hbs : ba (prT U) = s := by
              rw [hpr]
              rfl
            rw [hbs, hck] at EQ
            unfold errT tval at EQ
            rw [if_pos rfl] at EQ
            dsimp only at EQ
            clear hck hpr hbs
            go_wp2_with fail
            go_fit EQ
            rintro e wa ⟨rfl, ba9⟩
            clear EQ u0 u1 u2 u3 u4 u5 u6
            have HBa : Hid (Below w.heap.size w wa) := HB9.out.low.trans (ba9.mono HB9.out.low.size)
            clear ba9
            have hse : (s.toList == s.toList) = true := beq_self_eq_true _
            go_wp2
            rw [HPO.out]
            exact ⟨rfl, HBa.out⟩
        · generalize wr = w7 at *
          have EP3 := parse_any s w7 (HVR.out.below HB7.out.low)
          go_wp2_with fail
          go_fit EP3
          rintro e w8 ⟨hP, b8⟩
          clear EP3
          have HB8 : Hid (Bb w #[.int .i64 tk, .int .i64 tn, .string tt, .int .i64 tq, .int .i64 ta, .slice i1 j1 l1, .slice i2 j2 l2] #[.int .i64 yk, .int .i64 yn, .string yt, .int .i64 yo, .int .i64 ya] w8) := HB7.out.below b8
          rcases hP with ⟨fk, fx, rfl, hno⟩ | ⟨u, U, rfl, hI, hG, ht, hsz⟩
          · clear hno b8
            unfold tval zU
            dsimp only
            have HB9 : Hid (Below w.heap.size w (w8.alloc (.cells #[.int .i64 0, .int .i64 0, .string ⟨#[]⟩, .int .i64 0, .int .i64 0, .slice none 0 0, .slice none 0 0] 29))) := HB8.out.low.alloc HB8.out.low.size _
            go_wp2
            rw [HPO.out]
            exact ⟨rfl, HB9.out⟩
          · obtain ⟨⟨uk, un, ut, uo, ua⟩, a1, n1, c1, a2, n2, c2, hu⟩ := hI.plain.parts
            subst hu
            have HU : Hid (IsT w8 (tval (⟨uk, un, ut, uo, ua⟩, .slice a1 n1 c1, .slice a2 n2 c2)) U ∧ Gd 0 U ∧ s.data.toList = txtT U) := ⟨hI.plain, hG, ht⟩
            clear hI hG ht hsz b8
            have hal : Below w8.heap.size w8 (w8.alloc (.cells #[.int .i64 uk, .int .i64 un, .string ut, .int .i64 uo, .int .i64 ua, .slice a1 n1 c1, .slice a2 n2 c2] 29)) := (Below.refl _ _).alloc (Nat.le_refl _) _
            have HB9 : Hid (Bb w #[.int .i64 tk, .int .i64 tn, .string tt, .int .i64 tq, .int .i64 ta, .slice i1 j1 l1, .slice i2 j2 l2] #[.int .i64 yk, .int .i64 yn, .string yt, .int .i64 yo, .int .i64 ya] (w8.alloc (.cells #[.int .i64 uk, .int .i64 un, .string ut, .int .i64 uo, .int .i64 ua, .slice a1 n1 c1, .slice a2 n2 c2] 29))) := HB8.out.below hal
            have HX9 : Hid ((w8.alloc (.cells #[.int .i64 uk, .int .i64 un, .string ut, .int .i64 uo, .int .i64 ua, .slice a1 n1 c1, .slice a2 n2 c2] 29)).heap[w8.heap.size]? = some (.cells #[.int .i64 uk, .int .i64 un, .string ut, .int .i64 uo, .int .i64 ua, .slice a1 n1 c1, .slice a2 n2 c2] 29)) := one_new w8 _
            have HU9 : Hid (IsT (w8.alloc (.cells #[.int .i64 uk, .int .i64 un, .string ut, .int .i64 uo, .int .i64 ua, .slice a1 n1 c1, .slice a2 n2 c2] 29)) (tval (⟨uk, un, ut, uo, ua⟩, .slice a1 n1 c1, .slice a2 n2 c2)) U) := HU.out.1.stay hal
            unfold tval
            dsimp only
            go_upto_region 20 with fail
            clear hal
            generalize w8.alloc (.cells #[.int .i64 uk, .int .i64 un, .string ut, .int .i64 uo, .int .i64 ua, .slice a1 n1 c1, .slice a2 n2 c2] 29) = w9 at *
            obtain ⟨xb, hxb⟩ : ∃ xb, w8.heap.size = xb := ⟨_, rfl⟩
            rw [hxb] at HX9 ⊢
            clear hxb
            have u0 : w9.cell? ⟨xb, 0, none⟩ = some (.int .i64 uk) := Lib.cell_of_heap HX9.out 0
            have u1 : w9.cell? ⟨xb, 1, none⟩ = some (.int .i64 un) := Lib.cell_of_heap HX9.out 1
            have u2 : w9.cell? ⟨xb, 2, none⟩ = some (.string ut) := Lib.cell_of_heap HX9.out 2
            have u3 : w9.cell? ⟨xb, 3, none⟩ = some (.int .i64 uo) := Lib.cell_of_heap HX9.out 3
            have u4 : w9.cell? ⟨xb, 4, none⟩ = some (.int .i64 ua) := Lib.cell_of_heap HX9.out 4
            have u5 : w9.cell? ⟨xb, 5, none⟩ = some (.slice a1 n1 c1) := Lib.cell_of_heap HX9.out 5
            have u6 : w9.cell? ⟨xb, 6, none⟩ = some (.slice a2 n2 c2) := Lib.cell_of_heap HX9.out 6
            have EQ := printJ_any w9 HU9.out HU.out.2.1.rng (HVR.out.below HB9.out.low).1
            have hck := chk_of HU.out.2.1
            have hpr : prT U = s.data.toList := by
              unfold prT
              rw [if_pos hck, HU.out.2.2]
            have hbs : ba (prT U) = s := by
              rw [hpr]
              rfl
            rw [hbs, hck] at EQ
            unfold errT tval at EQ
            rw [if_pos rfl] at EQ
            dsimp only at EQ
            clear hck hpr hbs
            go_wp2_with fail
            go_fit EQ
            rintro e wa ⟨rfl, ba9⟩
            clear EQ u0 u1 u2 u3 u4 u5 u6
            have HBa : Hid (Below w.heap.size w wa) := HB9.out.low.trans (ba9.mono HB9.out.low.size)
            clear ba9
            have hse : (s.toList == s.toList) = true := beq_self_eq_true _
            go_wp2
            rw [HPO.out]
            exact ⟨rfl, HBa.out⟩
  have hev : errT (chkT T) = .nilIface := by unfold errT; rw [if_pos hc0]
  rw [hev]
  have HGD : Hid (Gd 0 T ∧ px.data.toList = txtT T) := by
    refine ⟨gd_of HT.out HRG.out hc0, ?_⟩
    rw [← HPX.out]
    show prT T = txtT T
    unfold prT
    rw [if_pos hc0]
  clear hev hc0 HPX
  have E3 := parse_any px w3 (HVR.out.below HB3.out.low)
  go_wp2_with fail
  go_fit E3
  rintro e w4 ⟨hP, b4⟩
  clear E3
  have HB4 : Hid (Bb w #[.int .i64 tk, .int .i64 tn, .string tt, .int .i64 tq, .int .i64 ta, .slice i1 j1 l1, .slice i2 j2 l2] #[.int .i64 yk, .int .i64 yn, .string yt, .int .i64 yo, .int .i64 ya] w4) := HB3.out.below b4
  clear b4 HB3
  rcases hP with ⟨fk, fx, rfl, hno⟩ | ⟨u, U, rfl, hI, hG, ht, hsz⟩
  · have hbig : ¬ px.size ≤ 60000 := fun hle => hno hle T HGD.out.1 HGD.out.2.symm
    have g9 : ¬ (px.size : Int) ≤ 60000 := by omega
    clear hno hbig
    have hal : Below w4.heap.size w4 (w4.alloc (.cells #[.int .i64 0, .int .i64 0, .string ⟨#[]⟩, .int .i64 0, .int .i64 0, .slice none 0 0, .slice none 0 0] 29)) := (Below.refl _ _).alloc (Nat.le_refl _) _
    have HB4' : Hid (Bb w #[.int .i64 tk, .int .i64 tn, .string tt, .int .i64 tq, .int .i64 ta, .slice i1 j1 l1, .slice i2 j2 l2] #[.int .i64 yk, .int .i64 yn, .string yt, .int .i64 yo, .int .i64 ya] (w4.alloc (.cells #[.int .i64 0, .int .i64 0, .string ⟨#[]⟩, .int .i64 0, .int .i64 0, .slice none 0 0, .slice none 0 0] 29))) := HB4.out.below hal
    have HX4 : Hid ((w4.alloc (.cells #[.int .i64 0, .int .i64 0, .string ⟨#[]⟩, .int .i64 0, .int .i64 0, .slice none 0 0, .slice none 0 0] 29)).heap[w4.heap.size]? = some (.cells #[.int .i64 0, .int .i64 0, .string ⟨#[]⟩, .int .i64 0, .int .i64 0, .slice none 0 0, .slice none 0 0] 29)) := one_new w4 _
    unfold tval zU
    dsimp only
    go_upto_region 7 with fail
    clear hal HB4
    generalize w4.alloc (.cells #[.int .i64 0, .int .i64 0, .string ⟨#[]⟩, .int .i64 0, .int .i64 0, .slice none 0 0, .slice none 0 0] 29) = w45 at *
    obtain ⟨xb, hxb⟩ : ∃ xb, w4.heap.size = xb := ⟨_, rfl⟩
    rw [hxb] at HX4 ⊢
    clear hxb
    have E4 := same_zero ⟨tk, tn, tt, tq, ta⟩ i1 i2 j1 l1 j2 l2 w45
    unfold tval zU at E4
    dsimp only at E4
    have t0 : w45.cell? ⟨w.heap.size, 0, none⟩ = some (.int .i64 tk) := Lib.cell_of_heap HB4'.out.bt 0
    have t1 : w45.cell? ⟨w.heap.size, 1, none⟩ = some (.int .i64 tn) := Lib.cell_of_heap HB4'.out.bt 1
    have t2 : w45.cell? ⟨w.heap.size, 2, none⟩ = some (.string tt) := Lib.cell_of_heap HB4'.out.bt 2
    have t3 : w45.cell? ⟨w.heap.size, 3, none⟩ = some (.int .i64 tq) := Lib.cell_of_heap HB4'.out.bt 3
    have t4 : w45.cell? ⟨w.heap.size, 4, none⟩ = some (.int .i64 ta) := Lib.cell_of_heap HB4'.out.bt 4
    have t5 : w45.cell? ⟨w.heap.size, 5, none⟩ = some (.slice i1 j1 l1) := Lib.cell_of_heap HB4'.out.bt 5
    have t6 : w45.cell? ⟨w.heap.size, 6, none⟩ = some (.slice i2 j2 l2) := Lib.cell_of_heap HB4'.out.bt 6
    have z0 : w45.cell? ⟨xb, 0, none⟩ = some (.int .i64 0) := Lib.cell_of_heap HX4.out 0
    have z1 : w45.cell? ⟨xb, 1, none⟩ = some (.int .i64 0) := Lib.cell_of_heap HX4.out 1
    have z2 : w45.cell? ⟨xb, 2, none⟩ = some (.string ⟨#[]⟩) := Lib.cell_of_heap HX4.out 2
    have z3 : w45.cell? ⟨xb, 3, none⟩ = some (.int .i64 0) := Lib.cell_of_heap HX4.out 3
    have z4 : w45.cell? ⟨xb, 4, none⟩ = some (.int .i64 0) := Lib.cell_of_heap HX4.out 4
    have z5 : w45.cell? ⟨xb, 5, none⟩ = some (.slice none 0 0) := Lib.cell_of_heap HX4.out 5
    have z6 : w45.cell? ⟨xb, 6, none⟩ = some (.slice none 0 0) := Lib.cell_of_heap HX4.out 6
    go_wp2_with fail
    go_fit E4
    rintro e w5 ⟨⟨bb, rfl⟩, b5⟩
    have HB5 : Hid (Bb w #[.int .i64 tk, .int .i64 tn, .string tt, .int .i64 tq, .int .i64 ta, .slice i1 j1 l1, .slice i2 j2 l2] #[.int .i64 yk, .int .i64 yn, .string yt, .int .i64 yo, .int .i64 ya] w5) := HB4'.out.below b5
    clear E4 b5 HB4' HX4 t0 t1 t2 t3 t4 t5 t6 z0 z1 z2 z3 z4 z5 z6 HGD
    go_upto_region 10 with fail
    clear g9
    have hT9 : IsT w5 (tval (⟨tk, tn, tt, tq, ta⟩, .slice i1 j1 l1, .slice i2 j2 l2)) T := HT.out.stay HB5.out.low
    have EPA := pathsJ_any (⟨yk, yn, yt, yo, ya⟩ : V) w5 hT9
    unfold V.val tval at EPA
    dsimp only at EPA
    clear hT9
    have t0 : w5.cell? ⟨w.heap.size, 0, none⟩ = some (.int .i64 tk) := Lib.cell_of_heap HB5.out.bt 0
    have t1 : w5.cell? ⟨w.heap.size, 1, none⟩ = some (.int .i64 tn) := Lib.cell_of_heap HB5.out.bt 1
    have t2 : w5.cell? ⟨w.heap.size, 2, none⟩ = some (.string tt) := Lib.cell_of_heap HB5.out.bt 2
    have t3 : w5.cell? ⟨w.heap.size, 3, none⟩ = some (.int .i64 tq) := Lib.cell_of_heap HB5.out.bt 3
    have t4 : w5.cell? ⟨w.heap.size, 4, none⟩ = some (.int .i64 ta) := Lib.cell_of_heap HB5.out.bt 4
    have t5 : w5.cell? ⟨w.heap.size, 5, none⟩ = some (.slice i1 j1 l1) := Lib.cell_of_heap HB5.out.bt 5
    have t6 : w5.cell? ⟨w.heap.size, 6, none⟩ = some (.slice i2 j2 l2) := Lib.cell_of_heap HB5.out.bt 6
    have y0 : w5.cell? ⟨w.heap.size + 1, 0, none⟩ = some (.int .i64 yk) := Lib.cell_of_heap HB5.out.bv 0
    have y1 : w5.cell? ⟨w.heap.size + 1, 1, none⟩ = some (.int .i64 yn) := Lib.cell_of_heap HB5.out.bv 1
    have y2 : w5.cell? ⟨w.heap.size + 1, 2, none⟩ = some (.string yt) := Lib.cell_of_heap HB5.out.bv 2
    have y3 : w5.cell? ⟨w.heap.size + 1, 3, none⟩ = some (.int .i64 yo) := Lib.cell_of_heap HB5.out.bv 3
    have y4 : w5.cell? ⟨w.heap.size + 1, 4, none⟩ = some (.int .i64 ya) := Lib.cell_of_heap HB5.out.bv 4
    go_wp2_with fail
    go_fit EPA
    rintro e w6 ⟨⟨r6, rfl, hR6⟩, b6⟩
    clear EPA t0 t1 t2 t3 t4 t5 t6 y0 y1 y2 y3 y4
    obtain ⟨pa, pc, hr6, _⟩ := hR6.form
    subst hr6
    obtain ⟨pl, hpl⟩ : ∃ pl, (pathR T (⟨yk, yn, yt, yo, ya⟩ : V)).length = pl := ⟨_, rfl⟩
    rw [hpl] at hR6 ⊢
    have HPLN : Hid ((pathR T (⟨yk, yn, yt, yo, ya⟩ : V)).length = pl ∧ pl ≤ 9223372036854775807) := ⟨hpl, by
      have h9 := RP.short hR6
      omega⟩
    have HB6 : Hid (Bb w #[.int .i64 tk, .int .i64 tn, .string tt, .int .i64 tq, .int .i64 ta, .slice i1 j1 l1, .slice i2 j2 l2] #[.int .i64 yk, .int .i64 yn, .string yt, .int .i64 yo, .int .i64 ya] w6) := HB5.out.below b6
    have HR6 : Hid (RP 0 w6 (.slice pa pl pc) (pathR T (⟨yk, yn, yt, yo, ya⟩ : V))) := rp_mono hR6
    have HEV : Hid (∀ j (hj : j < (pathR T (⟨yk, yn, yt, yo, ya⟩ : V)).length), errV (pathE T (⟨yk, yn, yt, yo, ya⟩ : V)) = .nilIface) := fun j hj => by
      rw [(path_leads (List.getElem_mem hj)).1]
      rfl
    obtain ⟨pe, hpe⟩ : ∃ pe, errV (pathE T (⟨yk, yn, yt, yo, ya⟩ : V)) = pe := ⟨_, rfl⟩
    have HPF : Hid (pe = .nilIface ∨ ∃ x, pe = .iface 44 (.int .i64 x)) := by
      show _ ∨ _
      rw [← hpe]
      unfold errV
      split
      · exact Or.inl rfl
      · exact Or.inr ⟨_, rfl⟩
    rw [hpe] at HEV ⊢
    clear hpl hpe hR6 b6
    go_wp2_with fail
    go_loopw [17] (fun i wr => ∃ j : Nat, j ≤ pl ∧ i = .int .i64 j ∧ Hid (Bb w #[.int .i64 tk, .int .i64 tn, .string tt, .int .i64 tq, .int .i64 ta, .slice i1 j1 l1, .slice i2 j2 l2] #[.int .i64 yk, .int .i64 yn, .string yt, .int .i64 yo, .int .i64 ya] wr) ∧ Hid (RP 0 wr (.slice pa pl pc) (pathR T (⟨yk, yn, yt, yo, ya⟩ : V)))) (fun i _ => pl - (RowKit.intOf i).toNat)
    case atStart => exact ⟨0, Nat.zero_le _, rfl, HB6, HR6⟩
    case round =>
      obtain ⟨j, hj, rfl, HBR, HRR⟩ := hrel
      by_cases hlt : j < pl
      · have HJ : Hid (j < pl) := hlt
        have hjl : j < (pathR T (⟨yk, yn, yt, yo, ya⟩ : V)).length := by have := HPLN.out.1; omega
        obtain rfl : pe = .nilIface := HEV.out j hjl
        obtain ⟨pb, hpa, hpb, hat⟩ := RP.at HRR.out (fun e => by rw [e] at hjl; exact absurd hjl (Nat.not_lt_zero _))
        subst hpa
        obtain ⟨sa, sc, hcell, hRS⟩ := hat j hjl
        have hlead := path_leads (List.getElem_mem hjl)
        obtain ⟨sl, hsl⟩ : ∃ sl, (pathR T (⟨yk, yn, yt, yo, ya⟩ : V))[j].length = sl := ⟨_, rfl⟩
        rw [hsl] at hcell hRS
        have HIS : Hid (IsSteps wr (.slice sa sl sc) (pathR T (⟨yk, yn, yt, yo, ya⟩ : V))[j]) := by
          have h9 := steps_of hRS (by have := pathR_short T (⟨yk, yn, yt, yo, ya⟩ : V) j hjl; omega)
          exact h9
        have EG : ∀ W, Below wr.heap.size wr W → Calls Tryz.prog 8 #[.agg #[.int .i64 tk, .int .i64 tn, .string tt, .int .i64 tq, .int .i64 ta, .slice i1 j1 l1, .slice i2 j2 l2], .slice sa sl sc] W fun e w' => (∃ v5, e = .returned (.tuple #[v5, .nilIface]) ∧ ∃ uk un ut uo ua a1 n1 c1 a2 n2 c2, v5 = tval (⟨uk, un, ut, uo, ua⟩, .slice a1 n1 c1, .slice a2 n2 c2) ∧ sameB ⟨uk, un, ut, uo, ua⟩ (⟨yk, yn, yt, yo, ya⟩ : V) = true) ∧ Below W.heap.size W w' := fun W hW =>
          get_leads (HT.out.stay (HBR.out.low.trans (hW.mono HBR.out.low.size))) (HIS.out.below hW) hlead.2.1 hlead.2.2
        have HCELL : Hid (∀ W, Below wr.heap.size wr W → W.cell? ⟨w.heap.size, 0, none⟩ = some (.int .i64 tk) ∧ W.cell? ⟨w.heap.size, 1, none⟩ = some (.int .i64 tn) ∧ W.cell? ⟨w.heap.size, 2, none⟩ = some (.string tt) ∧ W.cell? ⟨w.heap.size, 3, none⟩ = some (.int .i64 tq) ∧ W.cell? ⟨w.heap.size, 4, none⟩ = some (.int .i64 ta) ∧ W.cell? ⟨w.heap.size, 5, none⟩ = some (.slice i1 j1 l1) ∧ W.cell? ⟨w.heap.size, 6, none⟩ = some (.slice i2 j2 l2) ∧ W.cell? ⟨pb, j, none⟩ = some (.slice sa sl sc)) := fun W hW => by
          have h1 := (HBR.out.below hW).bt
          exact ⟨Lib.cell_of_heap h1 0, Lib.cell_of_heap h1 1, Lib.cell_of_heap h1 2, Lib.cell_of_heap h1 3, Lib.cell_of_heap h1 4, Lib.cell_of_heap h1 5, Lib.cell_of_heap h1 6, (hW.cell (p := ⟨pb, j, none⟩) hpb).trans hcell⟩
        have g1 : (j : Int) < pl := by omega
        have g2 : (j : Int) < 9223372036854775807 := by have := HPLN.out.2; omega
        clear HIS hj hlt hat hcell hRS hlead hsl hpb hjl
        go_wp2_with fail
        refine wp_region_noPanic ?_
        refine wp_region_held_drew (S := fun W => Below wr.heap.size wr W) (by kernel_rfl) ((Below.refl _ _).drew) (fun hHeld => ?_)
        refine wpAnyH_take (i := 0) (oi := { dst := some 76, op := Op.load 29 (Operand.tmp 3), type := 29, pos := "law.go:123", after := #[], guard := none }) (v := ?_) rfl (by kernel_rfl) (by kernel_rfl) (by kernel_rfl) (fun _ _ _ h => h) (Or.inl ⟨by rfl, ?_⟩) (by assumption) ?_
        rotate_left
        · intro wz hSw
          try dsimp only at hSw
          obtain ⟨t0, t1, t2, t3, t4, t5, t6, p0⟩ := HCELL.out wz hSw
          go_simp
          try with_reducible rfl
        try simp only [Act.put, List.setIfInBounds_toArray, List.set_cons_zero, List.set_cons_succ]
        refine wpAnyH_take (i := 1) (oi := { dst := some 77, op := Op.move (Operand.tmp 16), type := 37, pos := "law.go:123", after := #[], guard := none }) (v := ?_) rfl (by kernel_rfl) (by kernel_rfl) (by kernel_rfl) (fun _ _ _ h => h) (Or.inl ⟨by rfl, ?_⟩) (by assumption) ?_
        rotate_left
        · intro wz hSw
          try dsimp only at hSw
          obtain ⟨t0, t1, t2, t3, t4, t5, t6, p0⟩ := HCELL.out wz hSw
          go_simp
          try with_reducible rfl
        try simp only [Act.put, List.setIfInBounds_toArray, List.set_cons_zero, List.set_cons_succ]
        refine wpAnyH_take (i := 2) (oi := { dst := some 78, op := Op.move (Operand.tmp 17), type := 3, pos := "law.go:123", after := #[], guard := none }) (v := ?_) rfl (by kernel_rfl) (by kernel_rfl) (by kernel_rfl) (fun _ _ _ h => h) (Or.inl ⟨by rfl, ?_⟩) (by assumption) ?_
        rotate_left
        · intro wz hSw
          try dsimp only at hSw
          obtain ⟨t0, t1, t2, t3, t4, t5, t6, p0⟩ := HCELL.out wz hSw
          go_simp
          try with_reducible rfl
        try simp only [Act.put, List.setIfInBounds_toArray, List.set_cons_zero, List.set_cons_succ]
        refine wpAnyH_take (i := 3) (oi := { dst := some 79, op := Op.indexAddr 37 (Operand.tmp 77) (Operand.tmp 78), type := 0, pos := "law.go:123", after := #[{ on := 1, ground := Ground.data }, { on := 2, ground := Ground.data }], guard := none }) (v := ?_) rfl (by kernel_rfl) (by kernel_rfl) (by kernel_rfl) (fun _ _ _ h => h) (Or.inl ⟨by rfl, ?_⟩) (by assumption) ?_
        rotate_left
        · intro wz hSw
          try dsimp only at hSw
          obtain ⟨t0, t1, t2, t3, t4, t5, t6, p0⟩ := HCELL.out wz hSw
          go_simp
          try with_reducible rfl
        try simp only [Act.put, List.setIfInBounds_toArray, List.set_cons_zero, List.set_cons_succ]
        refine wpAnyH_take (i := 4) (oi := { dst := some 80, op := Op.load 42 (Operand.tmp 79), type := 42, pos := "law.go:123", after := #[{ on := 3, ground := Ground.data }], guard := none }) (v := ?_) rfl (by kernel_rfl) (by kernel_rfl) (by kernel_rfl) (fun _ _ _ h => h) (Or.inl ⟨by rfl, ?_⟩) (by assumption) ?_
        rotate_left
        · intro wz hSw
          try dsimp only at hSw
          obtain ⟨t0, t1, t2, t3, t4, t5, t6, p0⟩ := HCELL.out wz hSw
          go_simp
          try with_reducible rfl
        try simp only [Act.put, List.setIfInBounds_toArray, List.set_cons_zero, List.set_cons_succ]
        refine wpAnyH_ready (rs := [5, 9]) (by kernel_rfl) (by simp) (AllReadyH.cons (o := { dst := some 81, op := Op.call { callee := Callee.value (Operand.func 8), args := #[Operand.tmp 76, Operand.tmp 80], argTypes := #[29, 42] }, type := 40, pos := "law.go:123", after := #[{ on := 0, ground := Ground.data }, { on := 4, ground := Ground.data }], guard := none }) rfl (fun K hK => ?_) (AllReadyH.cons (o := { dst := some 18, op := Op.alloc 29, type := 0, pos := "law.go:123", after := #[], guard := none }) rfl (fun K hK => ?_) AllReadyH.nil))
        · go_simp
          go_at_call 8
          refine Calls.mono (EG wr.drew ((Below.refl _ _).drew)) ?_
          rintro e w5 ⟨⟨v5, hu5, HSV⟩, b5⟩
          obtain ⟨uk, un, ut, uo, ua, a1, n1, c1, a2, n2, c2, rfl, hsv⟩ := HSV
          subst hu5
          unfold tval
          dsimp only
          go_wp2_with fail
          refine hK.out _ _ (show Below wr.heap.size wr w5 from ((Below.refl wr.heap.size wr).drew).trans b5) (fun hHeld5 => ?_)
          clear hK K
          try simp only [Act.put, List.setIfInBounds_toArray, List.set_cons_zero, List.set_cons_succ]
          refine wpAnyH_take (i := 6) (oi := { dst := some 75, op := Op.move (Operand.tmp 81), type := 40, pos := "law.go:123", after := #[{ on := 5, ground := Ground.data }], guard := none }) (v := ?_) rfl (by kernel_rfl) (by kernel_rfl) (by kernel_rfl) (fun _ _ _ h => h) (Or.inl ⟨by rfl, ?_⟩) (by assumption) ?_
          rotate_left
          · intro wz hSw
            try dsimp only at hSw
            obtain ⟨t0, t1, t2, t3, t4, t5, t6, p0⟩ := HCELL.out wz hSw
            go_simp
            try with_reducible rfl
          try simp only [Act.put, List.setIfInBounds_toArray, List.set_cons_zero, List.set_cons_succ]
          refine wpAnyH_take (i := 7) (oi := { dst := some 82, op := Op.extract (Operand.tmp 75) 0, type := 29, pos := "law.go:123", after := #[{ on := 6, ground := Ground.data }], guard := none }) (v := ?_) rfl (by kernel_rfl) (by kernel_rfl) (by kernel_rfl) (fun _ _ _ h => h) (Or.inl ⟨by rfl, ?_⟩) (by assumption) ?_
          rotate_left
          · intro wz hSw
            try dsimp only at hSw
            obtain ⟨t0, t1, t2, t3, t4, t5, t6, p0⟩ := HCELL.out wz hSw
            go_simp
            try with_reducible rfl
          try simp only [Act.put, List.setIfInBounds_toArray, List.set_cons_zero, List.set_cons_succ]
          refine wpAnyH_take (i := 8) (oi := { dst := some 83, op := Op.extract (Operand.tmp 75) 1, type := 31, pos := "law.go:123", after := #[{ on := 6, ground := Ground.data }, { on := 10, ground := Ground.gcOnly Departure.lateStores }], guard := none }) (v := ?_) rfl (by kernel_rfl) (by kernel_rfl) (by kernel_rfl) (fun _ _ _ h => h) (Or.inl ⟨by rfl, ?_⟩) (by assumption) ?_
          rotate_left
          · intro wz hSw
            try dsimp only at hSw
            obtain ⟨t0, t1, t2, t3, t4, t5, t6, p0⟩ := HCELL.out wz hSw
            go_simp
            try with_reducible rfl
          try simp only [Act.put, List.setIfInBounds_toArray, List.set_cons_zero, List.set_cons_succ]
          refine wpAnyH_ready (rs := [9]) (by kernel_rfl) (by simp) (AllReadyH.cons (o := { dst := some 18, op := Op.alloc 29, type := 0, pos := "law.go:123", after := #[], guard := none }) rfl (fun K hK => ?_) AllReadyH.nil)
          go_simp
          refine hK.out _ _ ((((Below.refl wr.heap.size wr).drew).trans b5).alloc (show wr.heap.size ≤ w5.heap.size from b5.size) _) (fun hHeld9 => ?_)
          clear hK K
          try simp only [Act.put, List.setIfInBounds_toArray, List.set_cons_zero, List.set_cons_succ]
          have hW : Below wr.heap.size wr (w5.alloc (.cells #[.int .i64 0, .int .i64 0, .string ⟨#[]⟩, .int .i64 0, .int .i64 0, .slice none 0 0, .slice none 0 0] 29)) := (((Below.refl wr.heap.size wr).drew).trans b5).alloc (show wr.heap.size ≤ w5.heap.size from b5.size) _
          have nb : (w5.alloc (.cells #[.int .i64 0, .int .i64 0, .string ⟨#[]⟩, .int .i64 0, .int .i64 0, .slice none 0 0, .slice none 0 0] 29)).heap[w5.heap.size]? = some (.cells #[.int .i64 0, .int .i64 0, .string ⟨#[]⟩, .int .i64 0, .int .i64 0, .slice none 0 0, .slice none 0 0] 29) := one_new w5 _
          have hz1 : wr.heap.size ≤ w5.heap.size := b5.size
          generalize w5.alloc (.cells #[.int .i64 0, .int .i64 0, .string ⟨#[]⟩, .int .i64 0, .int .i64 0, .slice none 0 0, .slice none 0 0] 29) = WA at *
          obtain ⟨mb, hmb⟩ : ∃ mb, w5.heap.size = mb := ⟨_, rfl⟩
          rw [hmb] at nb hz1 ⊢
          clear hmb b5
          have nn0 : WA.cell? ⟨mb, 0, none⟩ = some (.int .i64 0) := Lib.cell_of_heap nb 0
          have nn1 : WA.cell? ⟨mb, 1, none⟩ = some (.int .i64 0) := Lib.cell_of_heap nb 1
          have nn2 : WA.cell? ⟨mb, 2, none⟩ = some (.string ⟨#[]⟩) := Lib.cell_of_heap nb 2
          have nn3 : WA.cell? ⟨mb, 3, none⟩ = some (.int .i64 0) := Lib.cell_of_heap nb 3
          have nn4 : WA.cell? ⟨mb, 4, none⟩ = some (.int .i64 0) := Lib.cell_of_heap nb 4
          have nn5 : WA.cell? ⟨mb, 5, none⟩ = some (.slice none 0 0) := Lib.cell_of_heap nb 5
          have nn6 : WA.cell? ⟨mb, 6, none⟩ = some (.slice none 0 0) := Lib.cell_of_heap nb 6
          have nf := Lib.frozen_of_heap nb
          refine wpAnyH_ready (rs := [10]) (by kernel_rfl) (by simp) (AllReadyH.cons (o := { dst := none, op := Op.store 29 (Operand.tmp 18) (Operand.tmp 82), type := 0, pos := "law.go:123", after := #[{ on := 9, ground := Ground.data }, { on := 7, ground := Ground.data }, { on := 5, ground := Ground.chain }, { on := 0, ground := Ground.phase }, { on := 1, ground := Ground.phase }, { on := 2, ground := Ground.phase }, { on := 3, ground := Ground.phase }, { on := 4, ground := Ground.phase }, { on := 5, ground := Ground.phase }, { on := 6, ground := Ground.phase }, { on := 7, ground := Ground.phase }, { on := 8, ground := Ground.textOnly Departure.lateStores }, { on := 9, ground := Ground.phase }], guard := none }) rfl (fun K hK => ?_) AllReadyH.nil)
          go_simp
          refine hK.out _ _ (set7_below hW hz1 (.int .i64 uk) (.int .i64 un) (.string ut) (.int .i64 uo) (.int .i64 ua) (.slice a1 n1 c1) (.slice a2 n2 c2)) (fun hHeld10 => ?_)
          clear hK K
          try simp only [Act.put, List.setIfInBounds_toArray, List.set_cons_zero, List.set_cons_succ]
          refine wpAnyH_take (i := 11) (oi := { dst := some 19, op := Op.assign (Operand.tmp 83), type := 31, pos := "law.go:123", after := #[{ on := 8, ground := Ground.data }, { on := 10, ground := Ground.chain }, { on := 0, ground := Ground.phase }, { on := 1, ground := Ground.phase }, { on := 2, ground := Ground.phase }, { on := 3, ground := Ground.phase }, { on := 4, ground := Ground.phase }, { on := 5, ground := Ground.phase }, { on := 6, ground := Ground.phase }, { on := 7, ground := Ground.phase }, { on := 8, ground := Ground.phase }, { on := 9, ground := Ground.phase }, { on := 10, ground := Ground.phase }], guard := none }) (v := ?_) rfl (by kernel_rfl) (by kernel_rfl) (by kernel_rfl) (fun _ _ _ h => h) (Or.inl ⟨by rfl, ?_⟩) (by assumption) ?_
          rotate_left
          · intro wz hSw
            try dsimp only at hSw
            obtain ⟨t0, t1, t2, t3, t4, t5, t6, p0⟩ := HCELL.out wz hSw
            go_simp
            try with_reducible rfl
          try simp only [Act.put, List.setIfInBounds_toArray, List.set_cons_zero, List.set_cons_succ]
          refine wpAnyH_done (by kernel_rfl) ?_ _
          refine NoPanic.normal ?_
          have HXf : Hid (((((((((WA.setCell ⟨mb, 0, none⟩ (.int .i64 uk)).setCell ⟨mb, 1, none⟩ (.int .i64 un)).setCell ⟨mb, 2, none⟩ (.string ut)).setCell ⟨mb, 3, none⟩ (.int .i64 uo)).setCell ⟨mb, 4, none⟩ (.int .i64 ua)).setCell ⟨mb, 5, none⟩ (.slice a1 n1 c1)).setCell ⟨mb, 6, none⟩ (.slice a2 n2 c2))).heap[mb]? = some (.cells #[.int .i64 uk, .int .i64 un, .string ut, .int .i64 uo, .int .i64 ua, .slice a1 n1 c1, .slice a2 n2 c2] 29)) := set7 nb (.int .i64 uk) (.int .i64 un) (.string ut) (.int .i64 uo) (.int .i64 ua) (.slice a1 n1 c1) (.slice a2 n2 c2)
          have hbf : Below wr.heap.size wr (((((((WA.setCell ⟨mb, 0, none⟩ (.int .i64 uk)).setCell ⟨mb, 1, none⟩ (.int .i64 un)).setCell ⟨mb, 2, none⟩ (.string ut)).setCell ⟨mb, 3, none⟩ (.int .i64 uo)).setCell ⟨mb, 4, none⟩ (.int .i64 ua)).setCell ⟨mb, 5, none⟩ (.slice a1 n1 c1)).setCell ⟨mb, 6, none⟩ (.slice a2 n2 c2)) := set7_below hW hz1 (.int .i64 uk) (.int .i64 un) (.string ut) (.int .i64 uo) (.int .i64 ua) (.slice a1 n1 c1) (.slice a2 n2 c2)
          clear nn0 nn1 nn2 nn3 nn4 nn5 nn6 nf nb hW hz1
          generalize (((((((WA.setCell ⟨mb, 0, none⟩ (.int .i64 uk)).setCell ⟨mb, 1, none⟩ (.int .i64 un)).setCell ⟨mb, 2, none⟩ (.string ut)).setCell ⟨mb, 3, none⟩ (.int .i64 uo)).setCell ⟨mb, 4, none⟩ (.int .i64 ua)).setCell ⟨mb, 5, none⟩ (.slice a1 n1 c1)).setCell ⟨mb, 6, none⟩ (.slice a2 n2 c2)) = wf at *
          have HBf : Hid (Bb w #[.int .i64 tk, .int .i64 tn, .string tt, .int .i64 tq, .int .i64 ta, .slice i1 j1 l1, .slice i2 j2 l2] #[.int .i64 yk, .int .i64 yn, .string yt, .int .i64 yo, .int .i64 ya] wf) := HBR.out.below hbf
          have HRf : Hid (RP 0 wf (.slice (some ⟨pb, 0, none⟩) pl pc) (pathR T (⟨yk, yn, yt, yo, ya⟩ : V))) := HRR.out.below hbf
          clear hbf
          clear hHeld hHeld5 hHeld9 hHeld10 EG
          have u0 : wf.cell? ⟨mb, 0, none⟩ = some (.int .i64 uk) := Lib.cell_of_heap HXf.out 0
          have u1 : wf.cell? ⟨mb, 1, none⟩ = some (.int .i64 un) := Lib.cell_of_heap HXf.out 1
          have u2 : wf.cell? ⟨mb, 2, none⟩ = some (.string ut) := Lib.cell_of_heap HXf.out 2
          have u3 : wf.cell? ⟨mb, 3, none⟩ = some (.int .i64 uo) := Lib.cell_of_heap HXf.out 3
          have u4 : wf.cell? ⟨mb, 4, none⟩ = some (.int .i64 ua) := Lib.cell_of_heap HXf.out 4
          have u5 : wf.cell? ⟨mb, 5, none⟩ = some (.slice a1 n1 c1) := Lib.cell_of_heap HXf.out 5
          have u6 : wf.cell? ⟨mb, 6, none⟩ = some (.slice a2 n2 c2) := Lib.cell_of_heap HXf.out 6
          have y0 : wf.cell? ⟨w.heap.size + 1, 0, none⟩ = some (.int .i64 yk) := Lib.cell_of_heap HBf.out.bv 0
          have y1 : wf.cell? ⟨w.heap.size + 1, 1, none⟩ = some (.int .i64 yn) := Lib.cell_of_heap HBf.out.bv 1
          have y2 : wf.cell? ⟨w.heap.size + 1, 2, none⟩ = some (.string yt) := Lib.cell_of_heap HBf.out.bv 2
          have y3 : wf.cell? ⟨w.heap.size + 1, 3, none⟩ = some (.int .i64 yo) := Lib.cell_of_heap HBf.out.bv 3
          have y4 : wf.cell? ⟨w.heap.size + 1, 4, none⟩ = some (.int .i64 ya) := Lib.cell_of_heap HBf.out.bv 4
          have he9 := heq uk un ut uo ua hsv
          clear hsv heq
          go_wp2_with fail
          go_roundw
          case rel => exact ⟨j + 1, HJ.out, by go_num, HBf.out, HRf.out⟩
          case measure => simp [RowKit.intOf]; have := HJ.out; omega
        · go_simp
          refine hK.out _ _ (((Below.refl wr.heap.size wr).drew).alloc (Nat.le_refl _) _) (fun hHeld9 => ?_)
          clear hK K
          try simp only [Act.put, List.setIfInBounds_toArray, List.set_cons_zero, List.set_cons_succ]
          have hWB : Below wr.heap.size wr (wr.drew.alloc (.cells #[.int .i64 0, .int .i64 0, .string ⟨#[]⟩, .int .i64 0, .int .i64 0, .slice none 0 0, .slice none 0 0] 29)) := ((Below.refl wr.heap.size wr).drew).alloc (Nat.le_refl _) _
          have nb0 : (wr.drew.alloc (.cells #[.int .i64 0, .int .i64 0, .string ⟨#[]⟩, .int .i64 0, .int .i64 0, .slice none 0 0, .slice none 0 0] 29)).heap[wr.heap.size]? = some (.cells #[.int .i64 0, .int .i64 0, .string ⟨#[]⟩, .int .i64 0, .int .i64 0, .slice none 0 0, .slice none 0 0] 29) := one_new wr.drew _
          refine wpAnyH_ready (rs := [5]) (by kernel_rfl) (by simp) (AllReadyH.cons (o := { dst := some 81, op := Op.call { callee := Callee.value (Operand.func 8), args := #[Operand.tmp 76, Operand.tmp 80], argTypes := #[29, 42] }, type := 40, pos := "law.go:123", after := #[{ on := 0, ground := Ground.data }, { on := 4, ground := Ground.data }], guard := none }) rfl (fun K hK => ?_) AllReadyH.nil)
          go_simp
          go_at_call 8
          refine Calls.mono (EG (wr.drew.alloc (.cells #[.int .i64 0, .int .i64 0, .string ⟨#[]⟩, .int .i64 0, .int .i64 0, .slice none 0 0, .slice none 0 0] 29)) (hWB)) ?_
          rintro e w5 ⟨⟨v5, hu5, HSV⟩, b5⟩
          obtain ⟨uk, un, ut, uo, ua, a1, n1, c1, a2, n2, c2, rfl, hsv⟩ := HSV
          subst hu5
          unfold tval
          dsimp only
          go_wp2_with fail
          refine hK.out _ _ (show Below wr.heap.size wr w5 from hWB.trans (b5.mono hWB.size)) (fun hHeld5 => ?_)
          clear hK K
          try simp only [Act.put, List.setIfInBounds_toArray, List.set_cons_zero, List.set_cons_succ]
          refine wpAnyH_take (i := 6) (oi := { dst := some 75, op := Op.move (Operand.tmp 81), type := 40, pos := "law.go:123", after := #[{ on := 5, ground := Ground.data }], guard := none }) (v := ?_) rfl (by kernel_rfl) (by kernel_rfl) (by kernel_rfl) (fun _ _ _ h => h) (Or.inl ⟨by rfl, ?_⟩) (by assumption) ?_
          rotate_left
          · intro wz hSw
            try dsimp only at hSw
            obtain ⟨t0, t1, t2, t3, t4, t5, t6, p0⟩ := HCELL.out wz hSw
            go_simp
            try with_reducible rfl
          try simp only [Act.put, List.setIfInBounds_toArray, List.set_cons_zero, List.set_cons_succ]
          refine wpAnyH_take (i := 7) (oi := { dst := some 82, op := Op.extract (Operand.tmp 75) 0, type := 29, pos := "law.go:123", after := #[{ on := 6, ground := Ground.data }], guard := none }) (v := ?_) rfl (by kernel_rfl) (by kernel_rfl) (by kernel_rfl) (fun _ _ _ h => h) (Or.inl ⟨by rfl, ?_⟩) (by assumption) ?_
          rotate_left
          · intro wz hSw
            try dsimp only at hSw
            obtain ⟨t0, t1, t2, t3, t4, t5, t6, p0⟩ := HCELL.out wz hSw
            go_simp
            try with_reducible rfl
          try simp only [Act.put, List.setIfInBounds_toArray, List.set_cons_zero, List.set_cons_succ]
          refine wpAnyH_take (i := 8) (oi := { dst := some 83, op := Op.extract (Operand.tmp 75) 1, type := 31, pos := "law.go:123", after := #[{ on := 6, ground := Ground.data }, { on := 10, ground := Ground.gcOnly Departure.lateStores }], guard := none }) (v := ?_) rfl (by kernel_rfl) (by kernel_rfl) (by kernel_rfl) (fun _ _ _ h => h) (Or.inl ⟨by rfl, ?_⟩) (by assumption) ?_
          rotate_left
          · intro wz hSw
            try dsimp only at hSw
            obtain ⟨t0, t1, t2, t3, t4, t5, t6, p0⟩ := HCELL.out wz hSw
            go_simp
            try with_reducible rfl
          try simp only [Act.put, List.setIfInBounds_toArray, List.set_cons_zero, List.set_cons_succ]
          have hW : Below wr.heap.size wr w5 := hWB.trans (b5.mono hWB.size)
          have nb : w5.heap[wr.heap.size]? = some (.cells #[.int .i64 0, .int .i64 0, .string ⟨#[]⟩, .int .i64 0, .int .i64 0, .slice none 0 0, .slice none 0 0] 29) := (b5.block _ (lt_of_heap nb0)).trans nb0
          have hz1 : wr.heap.size ≤ wr.heap.size := Nat.le_refl _
          clear hWB nb0 b5
          generalize w5 = WA at *
          have nn0 : WA.cell? ⟨wr.heap.size, 0, none⟩ = some (.int .i64 0) := Lib.cell_of_heap nb 0
          have nn1 : WA.cell? ⟨wr.heap.size, 1, none⟩ = some (.int .i64 0) := Lib.cell_of_heap nb 1
          have nn2 : WA.cell? ⟨wr.heap.size, 2, none⟩ = some (.string ⟨#[]⟩) := Lib.cell_of_heap nb 2
          have nn3 : WA.cell? ⟨wr.heap.size, 3, none⟩ = some (.int .i64 0) := Lib.cell_of_heap nb 3
          have nn4 : WA.cell? ⟨wr.heap.size, 4, none⟩ = some (.int .i64 0) := Lib.cell_of_heap nb 4
          have nn5 : WA.cell? ⟨wr.heap.size, 5, none⟩ = some (.slice none 0 0) := Lib.cell_of_heap nb 5
          have nn6 : WA.cell? ⟨wr.heap.size, 6, none⟩ = some (.slice none 0 0) := Lib.cell_of_heap nb 6
          have nf := Lib.frozen_of_heap nb
          refine wpAnyH_ready (rs := [10]) (by kernel_rfl) (by simp) (AllReadyH.cons (o := { dst := none, op := Op.store 29 (Operand.tmp 18) (Operand.tmp 82), type := 0, pos := "law.go:123", after := #[{ on := 9, ground := Ground.data }, { on := 7, ground := Ground.data }, { on := 5, ground := Ground.chain }, { on := 0, ground := Ground.phase }, { on := 1, ground := Ground.phase }, { on := 2, ground := Ground.phase }, { on := 3, ground := Ground.phase }, { on := 4, ground := Ground.phase }, { on := 5, ground := Ground.phase }, { on := 6, ground := Ground.phase }, { on := 7, ground := Ground.phase }, { on := 8, ground := Ground.textOnly Departure.lateStores }, { on := 9, ground := Ground.phase }], guard := none }) rfl (fun K hK => ?_) AllReadyH.nil)
          go_simp
          refine hK.out _ _ (set7_below hW hz1 (.int .i64 uk) (.int .i64 un) (.string ut) (.int .i64 uo) (.int .i64 ua) (.slice a1 n1 c1) (.slice a2 n2 c2)) (fun hHeld10 => ?_)
          clear hK K
          try simp only [Act.put, List.setIfInBounds_toArray, List.set_cons_zero, List.set_cons_succ]
          refine wpAnyH_take (i := 11) (oi := { dst := some 19, op := Op.assign (Operand.tmp 83), type := 31, pos := "law.go:123", after := #[{ on := 8, ground := Ground.data }, { on := 10, ground := Ground.chain }, { on := 0, ground := Ground.phase }, { on := 1, ground := Ground.phase }, { on := 2, ground := Ground.phase }, { on := 3, ground := Ground.phase }, { on := 4, ground := Ground.phase }, { on := 5, ground := Ground.phase }, { on := 6, ground := Ground.phase }, { on := 7, ground := Ground.phase }, { on := 8, ground := Ground.phase }, { on := 9, ground := Ground.phase }, { on := 10, ground := Ground.phase }], guard := none }) (v := ?_) rfl (by kernel_rfl) (by kernel_rfl) (by kernel_rfl) (fun _ _ _ h => h) (Or.inl ⟨by rfl, ?_⟩) (by assumption) ?_
          rotate_left
          · intro wz hSw
            try dsimp only at hSw
            obtain ⟨t0, t1, t2, t3, t4, t5, t6, p0⟩ := HCELL.out wz hSw
            go_simp
            try with_reducible rfl
          try simp only [Act.put, List.setIfInBounds_toArray, List.set_cons_zero, List.set_cons_succ]
          refine wpAnyH_done (by kernel_rfl) ?_ _
          refine NoPanic.normal ?_
          have HXf : Hid (((((((((WA.setCell ⟨wr.heap.size, 0, none⟩ (.int .i64 uk)).setCell ⟨wr.heap.size, 1, none⟩ (.int .i64 un)).setCell ⟨wr.heap.size, 2, none⟩ (.string ut)).setCell ⟨wr.heap.size, 3, none⟩ (.int .i64 uo)).setCell ⟨wr.heap.size, 4, none⟩ (.int .i64 ua)).setCell ⟨wr.heap.size, 5, none⟩ (.slice a1 n1 c1)).setCell ⟨wr.heap.size, 6, none⟩ (.slice a2 n2 c2))).heap[wr.heap.size]? = some (.cells #[.int .i64 uk, .int .i64 un, .string ut, .int .i64 uo, .int .i64 ua, .slice a1 n1 c1, .slice a2 n2 c2] 29)) := set7 nb (.int .i64 uk) (.int .i64 un) (.string ut) (.int .i64 uo) (.int .i64 ua) (.slice a1 n1 c1) (.slice a2 n2 c2)
          have hbf : Below wr.heap.size wr (((((((WA.setCell ⟨wr.heap.size, 0, none⟩ (.int .i64 uk)).setCell ⟨wr.heap.size, 1, none⟩ (.int .i64 un)).setCell ⟨wr.heap.size, 2, none⟩ (.string ut)).setCell ⟨wr.heap.size, 3, none⟩ (.int .i64 uo)).setCell ⟨wr.heap.size, 4, none⟩ (.int .i64 ua)).setCell ⟨wr.heap.size, 5, none⟩ (.slice a1 n1 c1)).setCell ⟨wr.heap.size, 6, none⟩ (.slice a2 n2 c2)) := set7_below hW hz1 (.int .i64 uk) (.int .i64 un) (.string ut) (.int .i64 uo) (.int .i64 ua) (.slice a1 n1 c1) (.slice a2 n2 c2)
          clear nn0 nn1 nn2 nn3 nn4 nn5 nn6 nf nb hW hz1
          generalize (((((((WA.setCell ⟨wr.heap.size, 0, none⟩ (.int .i64 uk)).setCell ⟨wr.heap.size, 1, none⟩ (.int .i64 un)).setCell ⟨wr.heap.size, 2, none⟩ (.string ut)).setCell ⟨wr.heap.size, 3, none⟩ (.int .i64 uo)).setCell ⟨wr.heap.size, 4, none⟩ (.int .i64 ua)).setCell ⟨wr.heap.size, 5, none⟩ (.slice a1 n1 c1)).setCell ⟨wr.heap.size, 6, none⟩ (.slice a2 n2 c2)) = wf at *
          have HBf : Hid (Bb w #[.int .i64 tk, .int .i64 tn, .string tt, .int .i64 tq, .int .i64 ta, .slice i1 j1 l1, .slice i2 j2 l2] #[.int .i64 yk, .int .i64 yn, .string yt, .int .i64 yo, .int .i64 ya] wf) := HBR.out.below hbf
          have HRf : Hid (RP 0 wf (.slice (some ⟨pb, 0, none⟩) pl pc) (pathR T (⟨yk, yn, yt, yo, ya⟩ : V))) := HRR.out.below hbf
          clear hbf
          clear hHeld hHeld5 hHeld9 hHeld10 EG
          have u0 : wf.cell? ⟨wr.heap.size, 0, none⟩ = some (.int .i64 uk) := Lib.cell_of_heap HXf.out 0
          have u1 : wf.cell? ⟨wr.heap.size, 1, none⟩ = some (.int .i64 un) := Lib.cell_of_heap HXf.out 1
          have u2 : wf.cell? ⟨wr.heap.size, 2, none⟩ = some (.string ut) := Lib.cell_of_heap HXf.out 2
          have u3 : wf.cell? ⟨wr.heap.size, 3, none⟩ = some (.int .i64 uo) := Lib.cell_of_heap HXf.out 3
          have u4 : wf.cell? ⟨wr.heap.size, 4, none⟩ = some (.int .i64 ua) := Lib.cell_of_heap HXf.out 4
          have u5 : wf.cell? ⟨wr.heap.size, 5, none⟩ = some (.slice a1 n1 c1) := Lib.cell_of_heap HXf.out 5
          have u6 : wf.cell? ⟨wr.heap.size, 6, none⟩ = some (.slice a2 n2 c2) := Lib.cell_of_heap HXf.out 6
          have y0 : wf.cell? ⟨w.heap.size + 1, 0, none⟩ = some (.int .i64 yk) := Lib.cell_of_heap HBf.out.bv 0
          have y1 : wf.cell? ⟨w.heap.size + 1, 1, none⟩ = some (.int .i64 yn) := Lib.cell_of_heap HBf.out.bv 1
          have y2 : wf.cell? ⟨w.heap.size + 1, 2, none⟩ = some (.string yt) := Lib.cell_of_heap HBf.out.bv 2
          have y3 : wf.cell? ⟨w.heap.size + 1, 3, none⟩ = some (.int .i64 yo) := Lib.cell_of_heap HBf.out.bv 3
          have y4 : wf.cell? ⟨w.heap.size + 1, 4, none⟩ = some (.int .i64 ya) := Lib.cell_of_heap HBf.out.bv 4
          have he9 := heq uk un ut uo ua hsv
          clear hsv heq
          go_wp2_with fail
          go_roundw
          case rel => exact ⟨j + 1, HJ.out, by go_num, HBf.out, HRf.out⟩
          case measure => simp [RowKit.intOf]; have := HJ.out; omega
      · have hje : j = pl := by omega
        subst hje
        clear hlt hj
        have HB7 := HBR
        clear HBR HRR
        rcases HPF.out with rfl | ⟨x9, rfl⟩
        · generalize wr = w7 at *
          have EP3 := parse_any s w7 (HVR.out.below HB7.out.low)
          go_wp2_with fail
          go_fit EP3
          rintro e w8 ⟨hP, b8⟩
          clear EP3
          have HB8 : Hid (Bb w #[.int .i64 tk, .int .i64 tn, .string tt, .int .i64 tq, .int .i64 ta, .slice i1 j1 l1, .slice i2 j2 l2] #[.int .i64 yk, .int .i64 yn, .string yt, .int .i64 yo, .int .i64 ya] w8) := HB7.out.below b8
          rcases hP with ⟨fk, fx, rfl, hno⟩ | ⟨u, U, rfl, hI, hG, ht, hsz⟩
          · clear hno b8
            unfold tval zU
            dsimp only
            have HB9 : Hid (Below w.heap.size w (w8.alloc (.cells #[.int .i64 0, .int .i64 0, .string ⟨#[]⟩, .int .i64 0, .int .i64 0, .slice none 0 0, .slice none 0 0] 29))) := HB8.out.low.alloc HB8.out.low.size _
            go_wp2
            rw [HPO.out]
            exact ⟨rfl, HB9.out⟩
          · obtain ⟨⟨uk, un, ut, uo, ua⟩, a1, n1, c1, a2, n2, c2, hu⟩ := hI.plain.parts
            subst hu
            have HU : Hid (IsT w8 (tval (⟨uk, un, ut, uo, ua⟩, .slice a1 n1 c1, .slice a2 n2 c2)) U ∧ Gd 0 U ∧ s.data.toList = txtT U) := ⟨hI.plain, hG, ht⟩
            clear hI hG ht hsz b8
            have hal : Below w8.heap.size w8 (w8.alloc (.cells #[.int .i64 uk, .int .i64 un, .string ut, .int .i64 uo, .int .i64 ua, .slice a1 n1 c1, .slice a2 n2 c2] 29)) := (Below.refl _ _).alloc (Nat.le_refl _) _
            have HB9 : Hid (Bb w #[.int .i64 tk, .int .i64 tn, .string tt, .int .i64 tq, .int .i64 ta, .slice i1 j1 l1, .slice i2 j2 l2] #[.int .i64 yk, .int .i64 yn, .string yt, .int .i64 yo, .int .i64 ya] (w8.alloc (.cells #[.int .i64 uk, .int .i64 un, .string ut, .int .i64 uo, .int .i64 ua, .slice a1 n1 c1, .slice a2 n2 c2] 29))) := HB8.out.below hal
            have HX9 : Hid ((w8.alloc (.cells #[.int .i64 uk, .int .i64 un, .string ut, .int .i64 uo, .int .i64 ua, .slice a1 n1 c1, .slice a2 n2 c2] 29)).heap[w8.heap.size]? = some (.cells #[.int .i64 uk, .int .i64 un, .string ut, .int .i64 uo, .int .i64 ua, .slice a1 n1 c1, .slice a2 n2 c2] 29)) := one_new w8 _
            have HU9 : Hid (IsT (w8.alloc (.cells #[.int .i64 uk, .int .i64 un, .string ut, .int .i64 uo, .int .i64 ua, .slice a1 n1 c1, .slice a2 n2 c2] 29)) (tval (⟨uk, un, ut, uo, ua⟩, .slice a1 n1 c1, .slice a2 n2 c2)) U) := HU.out.1.stay hal
            unfold tval
            dsimp only
            go_upto_region 20 with fail
            clear hal
            generalize w8.alloc (.cells #[.int .i64 uk, .int .i64 un, .string ut, .int .i64 uo, .int .i64 ua, .slice a1 n1 c1, .slice a2 n2 c2] 29) = w9 at *
            obtain ⟨xb, hxb⟩ : ∃ xb, w8.heap.size = xb := ⟨_, rfl⟩
            rw [hxb] at HX9 ⊢
            clear hxb
            have u0 : w9.cell? ⟨xb, 0, none⟩ = some (.int .i64 uk) := Lib.cell_of_heap HX9.out 0
            have u1 : w9.cell? ⟨xb, 1, none⟩ = some (.int .i64 un) := Lib.cell_of_heap HX9.out 1
            have u2 : w9.cell? ⟨xb, 2, none⟩ = some (.string ut) := Lib.cell_of_heap HX9.out 2
            have u3 : w9.cell? ⟨xb, 3, none⟩ = some (.int .i64 uo) := Lib.cell_of_heap HX9.out 3
            have u4 : w9.cell? ⟨xb, 4, none⟩ = some (.int .i64 ua) := Lib.cell_of_heap HX9.out 4
            have u5 : w9.cell? ⟨xb, 5, none⟩ = some (.slice a1 n1 c1) := Lib.cell_of_heap HX9.out 5
            have u6 : w9.cell? ⟨xb, 6, none⟩ = some (.slice a2 n2 c2) := Lib.cell_of_heap HX9.out 6
            have EQ := printJ_any w9 HU9.out HU.out.2.1.rng (HVR.out.below HB9.out.low).1
            have hck := chk_of HU.out.2.1
            have hpr : prT U = s.data.toList := by
              unfold prT
              rw [if_pos hck, HU.out.2.2]
            have hbs : ba (prT U) = s := by
              rw [hpr]
              rfl
            rw [hbs, hck] at EQ
            unfold errT tval at EQ
            rw [if_pos rfl] at EQ
            dsimp only at EQ
            clear hck hpr hbs
            go_wp2_with fail
            go_fit EQ
            rintro e wa ⟨rfl, ba9⟩
            clear EQ u0 u1 u2 u3 u4 u5 u6
            have HBa : Hid (Below w.heap.size w wa) := HB9.out.low.trans (ba9.mono HB9.out.low.size)
            clear ba9
            have hse : (s.toList == s.toList) = true := beq_self_eq_true _
            go_wp2
            rw [HPO.out]
            exact ⟨rfl, HBa.out⟩
        · generalize wr = w7 at *
          have EP3 := parse_any s w7 (HVR.out.below HB7.out.low)
          go_wp2_with fail
          go_fit EP3
          rintro e w8 ⟨hP, b8⟩
          clear EP3
          have HB8 : Hid (Bb w #[.int .i64 tk, .int .i64 tn, .string tt, .int .i64 tq, .int .i64 ta, .slice i1 j1 l1, .slice i2 j2 l2] #[.int .i64 yk, .int .i64 yn, .string yt, .int .i64 yo, .int .i64 ya] w8) := HB7.out.below b8
          rcases hP with ⟨fk, fx, rfl, hno⟩ | ⟨u, U, rfl, hI, hG, ht, hsz⟩
          · clear hno b8
            unfold tval zU
            dsimp only
            have HB9 : Hid (Below w.heap.size w (w8.alloc (.cells #[.int .i64 0, .int .i64 0, .string ⟨#[]⟩, .int .i64 0, .int .i64 0, .slice none 0 0, .slice none 0 0] 29))) := HB8.out.low.alloc HB8.out.low.size _
            go_wp2
            rw [HPO.out]
            exact ⟨rfl, HB9.out⟩
          · obtain ⟨⟨uk, un, ut, uo, ua⟩, a1, n1, c1, a2, n2, c2, hu⟩ := hI.plain.parts
            subst hu
            have HU : Hid (IsT w8 (tval (⟨uk, un, ut, uo, ua⟩, .slice a1 n1 c1, .slice a2 n2 c2)) U ∧ Gd 0 U ∧ s.data.toList = txtT U) := ⟨hI.plain, hG, ht⟩
            clear hI hG ht hsz b8
            have hal : Below w8.heap.size w8 (w8.alloc (.cells #[.int .i64 uk, .int .i64 un, .string ut, .int .i64 uo, .int .i64 ua, .slice a1 n1 c1, .slice a2 n2 c2] 29)) := (Below.refl _ _).alloc (Nat.le_refl _) _
            have HB9 : Hid (Bb w #[.int .i64 tk, .int .i64 tn, .string tt, .int .i64 tq, .int .i64 ta, .slice i1 j1 l1, .slice i2 j2 l2] #[.int .i64 yk, .int .i64 yn, .string yt, .int .i64 yo, .int .i64 ya] (w8.alloc (.cells #[.int .i64 uk, .int .i64 un, .string ut, .int .i64 uo, .int .i64 ua, .slice a1 n1 c1, .slice a2 n2 c2] 29))) := HB8.out.below hal
            have HX9 : Hid ((w8.alloc (.cells #[.int .i64 uk, .int .i64 un, .string ut, .int .i64 uo, .int .i64 ua, .slice a1 n1 c1, .slice a2 n2 c2] 29)).heap[w8.heap.size]? = some (.cells #[.int .i64 uk, .int .i64 un, .string ut, .int .i64 uo, .int .i64 ua, .slice a1 n1 c1, .slice a2 n2 c2] 29)) := one_new w8 _
            have HU9 : Hid (IsT (w8.alloc (.cells #[.int .i64 uk, .int .i64 un, .string ut, .int .i64 uo, .int .i64 ua, .slice a1 n1 c1, .slice a2 n2 c2] 29)) (tval (⟨uk, un, ut, uo, ua⟩, .slice a1 n1 c1, .slice a2 n2 c2)) U) := HU.out.1.stay hal
            unfold tval
            dsimp only
            go_upto_region 20 with fail
            clear hal
            generalize w8.alloc (.cells #[.int .i64 uk, .int .i64 un, .string ut, .int .i64 uo, .int .i64 ua, .slice a1 n1 c1, .slice a2 n2 c2] 29) = w9 at *
            obtain ⟨xb, hxb⟩ : ∃ xb, w8.heap.size = xb := ⟨_, rfl⟩
            rw [hxb] at HX9 ⊢
            clear hxb
            have u0 : w9.cell? ⟨xb, 0, none⟩ = some (.int .i64 uk) := Lib.cell_of_heap HX9.out 0
            have u1 : w9.cell? ⟨xb, 1, none⟩ = some (.int .i64 un) := Lib.cell_of_heap HX9.out 1
            have u2 : w9.cell? ⟨xb, 2, none⟩ = some (.string ut) := Lib.cell_of_heap HX9.out 2
            have u3 : w9.cell? ⟨xb, 3, none⟩ = some (.int .i64 uo) := Lib.cell_of_heap HX9.out 3
            have u4 : w9.cell? ⟨xb, 4, none⟩ = some (.int .i64 ua) := Lib.cell_of_heap HX9.out 4
            have u5 : w9.cell? ⟨xb, 5, none⟩ = some (.slice a1 n1 c1) := Lib.cell_of_heap HX9.out 5
            have u6 : w9.cell? ⟨xb, 6, none⟩ = some (.slice a2 n2 c2) := Lib.cell_of_heap HX9.out 6
            have EQ := printJ_any w9 HU9.out HU.out.2.1.rng (HVR.out.below HB9.out.low).1
            have hck := chk_of HU.out.2.1
            have hpr : prT U = s.data.toList := by
              unfold prT
              rw [if_pos hck, HU.out.2.2]
            have hbs : ba (prT U) = s := by
              rw [hpr]
              rfl
            rw [hbs, hck] at EQ
            unfold errT tval at EQ
            rw [if_pos rfl] at EQ
            dsimp only at EQ
            clear hck hpr hbs
            go_wp2_with fail
            go_fit EQ
            rintro e wa ⟨rfl, ba9⟩
            clear EQ u0 u1 u2 u3 u4 u5 u6
            have HBa : Hid (Below w.heap.size w wa) := HB9.out.low.trans (ba9.mono HB9.out.low.size)
            clear ba9
            have hse : (s.toList == s.toList) = true := beq_self_eq_true _
            go_wp2
            rw [HPO.out]
            exact ⟨rfl, HBa.out⟩
  have hU : T = U := (gd_one hG HGD.out.1 (by rw [← ht, HGD.out.2])).symm
  subst hU
  obtain ⟨⟨uk, un, ut, uo, ua⟩, a1, n1, c1, a2, n2, c2, hu⟩ := hI.plain.parts
  subst hu
  have HU : Hid (IsT w4 (tval (⟨uk, un, ut, uo, ua⟩, .slice a1 n1 c1, .slice a2 n2 c2)) T) := hI.plain
  have g9 : (px.size : Int) ≤ 60000 := by omega
  clear hI hG ht hsz HGD
  have hal : Below w4.heap.size w4 (w4.alloc (.cells #[.int .i64 uk, .int .i64 un, .string ut, .int .i64 uo, .int .i64 ua, .slice a1 n1 c1, .slice a2 n2 c2] 29)) := (Below.refl _ _).alloc (Nat.le_refl _) _
  have HB4' : Hid (Bb w #[.int .i64 tk, .int .i64 tn, .string tt, .int .i64 tq, .int .i64 ta, .slice i1 j1 l1, .slice i2 j2 l2] #[.int .i64 yk, .int .i64 yn, .string yt, .int .i64 yo, .int .i64 ya] (w4.alloc (.cells #[.int .i64 uk, .int .i64 un, .string ut, .int .i64 uo, .int .i64 ua, .slice a1 n1 c1, .slice a2 n2 c2] 29))) := HB4.out.below hal
  have HX4 : Hid ((w4.alloc (.cells #[.int .i64 uk, .int .i64 un, .string ut, .int .i64 uo, .int .i64 ua, .slice a1 n1 c1, .slice a2 n2 c2] 29)).heap[w4.heap.size]? = some (.cells #[.int .i64 uk, .int .i64 un, .string ut, .int .i64 uo, .int .i64 ua, .slice a1 n1 c1, .slice a2 n2 c2] 29)) := one_new w4 _
  have HU4 : Hid (IsT (w4.alloc (.cells #[.int .i64 uk, .int .i64 un, .string ut, .int .i64 uo, .int .i64 ua, .slice a1 n1 c1, .slice a2 n2 c2] 29)) (tval (⟨uk, un, ut, uo, ua⟩, .slice a1 n1 c1, .slice a2 n2 c2)) T) := HU.out.stay hal
  unfold tval
  dsimp only
  go_upto_region 7 with fail
  clear hal HB4 HU
  generalize w4.alloc (.cells #[.int .i64 uk, .int .i64 un, .string ut, .int .i64 uo, .int .i64 ua, .slice a1 n1 c1, .slice a2 n2 c2] 29) = w45 at *
  obtain ⟨xb, hxb⟩ : ∃ xb, w4.heap.size = xb := ⟨_, rfl⟩
  rw [hxb] at HX4 ⊢
  clear hxb
  have E4 := same_any HU4.out w45 (tval (⟨tk, tn, tt, tq, ta⟩, .slice i1 j1 l1, .slice i2 j2 l2)) (HT.out.stay HB4'.out.low) (Below.refl _ _)
  unfold tval at E4
  dsimp only at E4
  have t0 : w45.cell? ⟨w.heap.size, 0, none⟩ = some (.int .i64 tk) := Lib.cell_of_heap HB4'.out.bt 0
  have t1 : w45.cell? ⟨w.heap.size, 1, none⟩ = some (.int .i64 tn) := Lib.cell_of_heap HB4'.out.bt 1
  have t2 : w45.cell? ⟨w.heap.size, 2, none⟩ = some (.string tt) := Lib.cell_of_heap HB4'.out.bt 2
  have t3 : w45.cell? ⟨w.heap.size, 3, none⟩ = some (.int .i64 tq) := Lib.cell_of_heap HB4'.out.bt 3
  have t4 : w45.cell? ⟨w.heap.size, 4, none⟩ = some (.int .i64 ta) := Lib.cell_of_heap HB4'.out.bt 4
  have t5 : w45.cell? ⟨w.heap.size, 5, none⟩ = some (.slice i1 j1 l1) := Lib.cell_of_heap HB4'.out.bt 5
  have t6 : w45.cell? ⟨w.heap.size, 6, none⟩ = some (.slice i2 j2 l2) := Lib.cell_of_heap HB4'.out.bt 6
  have z0 : w45.cell? ⟨xb, 0, none⟩ = some (.int .i64 uk) := Lib.cell_of_heap HX4.out 0
  have z1 : w45.cell? ⟨xb, 1, none⟩ = some (.int .i64 un) := Lib.cell_of_heap HX4.out 1
  have z2 : w45.cell? ⟨xb, 2, none⟩ = some (.string ut) := Lib.cell_of_heap HX4.out 2
  have z3 : w45.cell? ⟨xb, 3, none⟩ = some (.int .i64 uo) := Lib.cell_of_heap HX4.out 3
  have z4 : w45.cell? ⟨xb, 4, none⟩ = some (.int .i64 ua) := Lib.cell_of_heap HX4.out 4
  have z5 : w45.cell? ⟨xb, 5, none⟩ = some (.slice a1 n1 c1) := Lib.cell_of_heap HX4.out 5
  have z6 : w45.cell? ⟨xb, 6, none⟩ = some (.slice a2 n2 c2) := Lib.cell_of_heap HX4.out 6
  go_wp2_with fail
  go_fit E4
  rintro e w5 ⟨rfl, b5⟩
  have HB5 : Hid (Bb w #[.int .i64 tk, .int .i64 tn, .string tt, .int .i64 tq, .int .i64 ta, .slice i1 j1 l1, .slice i2 j2 l2] #[.int .i64 yk, .int .i64 yn, .string yt, .int .i64 yo, .int .i64 ya] w5) := HB4'.out.below b5
  clear E4 b5 HB4' HX4 HU4 t0 t1 t2 t3 t4 t5 t6 z0 z1 z2 z3 z4 z5 z6
  go_upto_region 10 with fail
  clear g9
  have hT9 : IsT w5 (tval (⟨tk, tn, tt, tq, ta⟩, .slice i1 j1 l1, .slice i2 j2 l2)) T := HT.out.stay HB5.out.low
  have EPA := pathsJ_any (⟨yk, yn, yt, yo, ya⟩ : V) w5 hT9
  unfold V.val tval at EPA
  dsimp only at EPA
  clear hT9
  have t0 : w5.cell? ⟨w.heap.size, 0, none⟩ = some (.int .i64 tk) := Lib.cell_of_heap HB5.out.bt 0
  have t1 : w5.cell? ⟨w.heap.size, 1, none⟩ = some (.int .i64 tn) := Lib.cell_of_heap HB5.out.bt 1
  have t2 : w5.cell? ⟨w.heap.size, 2, none⟩ = some (.string tt) := Lib.cell_of_heap HB5.out.bt 2
  have t3 : w5.cell? ⟨w.heap.size, 3, none⟩ = some (.int .i64 tq) := Lib.cell_of_heap HB5.out.bt 3
  have t4 : w5.cell? ⟨w.heap.size, 4, none⟩ = some (.int .i64 ta) := Lib.cell_of_heap HB5.out.bt 4
  have t5 : w5.cell? ⟨w.heap.size, 5, none⟩ = some (.slice i1 j1 l1) := Lib.cell_of_heap HB5.out.bt 5
  have t6 : w5.cell? ⟨w.heap.size, 6, none⟩ = some (.slice i2 j2 l2) := Lib.cell_of_heap HB5.out.bt 6
  have y0 : w5.cell? ⟨w.heap.size + 1, 0, none⟩ = some (.int .i64 yk) := Lib.cell_of_heap HB5.out.bv 0
  have y1 : w5.cell? ⟨w.heap.size + 1, 1, none⟩ = some (.int .i64 yn) := Lib.cell_of_heap HB5.out.bv 1
  have y2 : w5.cell? ⟨w.heap.size + 1, 2, none⟩ = some (.string yt) := Lib.cell_of_heap HB5.out.bv 2
  have y3 : w5.cell? ⟨w.heap.size + 1, 3, none⟩ = some (.int .i64 yo) := Lib.cell_of_heap HB5.out.bv 3
  have y4 : w5.cell? ⟨w.heap.size + 1, 4, none⟩ = some (.int .i64 ya) := Lib.cell_of_heap HB5.out.bv 4
  go_wp2_with fail
  go_fit EPA
  rintro e w6 ⟨⟨r6, rfl, hR6⟩, b6⟩
  clear EPA t0 t1 t2 t3 t4 t5 t6 y0 y1 y2 y3 y4
  obtain ⟨pa, pc, hr6, _⟩ := hR6.form
  subst hr6
  obtain ⟨pl, hpl⟩ : ∃ pl, (pathR T (⟨yk, yn, yt, yo, ya⟩ : V)).length = pl := ⟨_, rfl⟩
  rw [hpl] at hR6 ⊢
  have HPLN : Hid ((pathR T (⟨yk, yn, yt, yo, ya⟩ : V)).length = pl ∧ pl ≤ 9223372036854775807) := ⟨hpl, by
    have h9 := RP.short hR6
    omega⟩
  have HB6 : Hid (Bb w #[.int .i64 tk, .int .i64 tn, .string tt, .int .i64 tq, .int .i64 ta, .slice i1 j1 l1, .slice i2 j2 l2] #[.int .i64 yk, .int .i64 yn, .string yt, .int .i64 yo, .int .i64 ya] w6) := HB5.out.below b6
  have HR6 : Hid (RP 0 w6 (.slice pa pl pc) (pathR T (⟨yk, yn, yt, yo, ya⟩ : V))) := rp_mono hR6
  have HEV : Hid (∀ j (hj : j < (pathR T (⟨yk, yn, yt, yo, ya⟩ : V)).length), errV (pathE T (⟨yk, yn, yt, yo, ya⟩ : V)) = .nilIface) := fun j hj => by
    rw [(path_leads (List.getElem_mem hj)).1]
    rfl
  obtain ⟨pe, hpe⟩ : ∃ pe, errV (pathE T (⟨yk, yn, yt, yo, ya⟩ : V)) = pe := ⟨_, rfl⟩
  have HPF : Hid (pe = .nilIface ∨ ∃ x, pe = .iface 44 (.int .i64 x)) := by
    show _ ∨ _
    rw [← hpe]
    unfold errV
    split
    · exact Or.inl rfl
    · exact Or.inr ⟨_, rfl⟩
  rw [hpe] at HEV ⊢
  clear hpl hpe hR6 b6
  go_wp2_with fail
  go_loopw [17] (fun i wr => ∃ j : Nat, j ≤ pl ∧ i = .int .i64 j ∧ Hid (Bb w #[.int .i64 tk, .int .i64 tn, .string tt, .int .i64 tq, .int .i64 ta, .slice i1 j1 l1, .slice i2 j2 l2] #[.int .i64 yk, .int .i64 yn, .string yt, .int .i64 yo, .int .i64 ya] wr) ∧ Hid (RP 0 wr (.slice pa pl pc) (pathR T (⟨yk, yn, yt, yo, ya⟩ : V)))) (fun i _ => pl - (RowKit.intOf i).toNat)
  case atStart => exact ⟨0, Nat.zero_le _, rfl, HB6, HR6⟩
  case round =>
    obtain ⟨j, hj, rfl, HBR, HRR⟩ := hrel
    by_cases hlt : j < pl
    · have HJ : Hid (j < pl) := hlt
      have hjl : j < (pathR T (⟨yk, yn, yt, yo, ya⟩ : V)).length := by have := HPLN.out.1; omega
      obtain rfl : pe = .nilIface := HEV.out j hjl
      obtain ⟨pb, hpa, hpb, hat⟩ := RP.at HRR.out (fun e => by rw [e] at hjl; exact absurd hjl (Nat.not_lt_zero _))
      subst hpa
      obtain ⟨sa, sc, hcell, hRS⟩ := hat j hjl
      have hlead := path_leads (List.getElem_mem hjl)
      obtain ⟨sl, hsl⟩ : ∃ sl, (pathR T (⟨yk, yn, yt, yo, ya⟩ : V))[j].length = sl := ⟨_, rfl⟩
      rw [hsl] at hcell hRS
      have HIS : Hid (IsSteps wr (.slice sa sl sc) (pathR T (⟨yk, yn, yt, yo, ya⟩ : V))[j]) := by
        have h9 := steps_of hRS (by have := pathR_short T (⟨yk, yn, yt, yo, ya⟩ : V) j hjl; omega)
        exact h9
      have EG : ∀ W, Below wr.heap.size wr W → Calls Tryz.prog 8 #[.agg #[.int .i64 tk, .int .i64 tn, .string tt, .int .i64 tq, .int .i64 ta, .slice i1 j1 l1, .slice i2 j2 l2], .slice sa sl sc] W fun e w' => (∃ v5, e = .returned (.tuple #[v5, .nilIface]) ∧ ∃ uk un ut uo ua a1 n1 c1 a2 n2 c2, v5 = tval (⟨uk, un, ut, uo, ua⟩, .slice a1 n1 c1, .slice a2 n2 c2) ∧ sameB ⟨uk, un, ut, uo, ua⟩ (⟨yk, yn, yt, yo, ya⟩ : V) = true) ∧ Below W.heap.size W w' := fun W hW =>
        get_leads (HT.out.stay (HBR.out.low.trans (hW.mono HBR.out.low.size))) (HIS.out.below hW) hlead.2.1 hlead.2.2
      have HCELL : Hid (∀ W, Below wr.heap.size wr W → W.cell? ⟨w.heap.size, 0, none⟩ = some (.int .i64 tk) ∧ W.cell? ⟨w.heap.size, 1, none⟩ = some (.int .i64 tn) ∧ W.cell? ⟨w.heap.size, 2, none⟩ = some (.string tt) ∧ W.cell? ⟨w.heap.size, 3, none⟩ = some (.int .i64 tq) ∧ W.cell? ⟨w.heap.size, 4, none⟩ = some (.int .i64 ta) ∧ W.cell? ⟨w.heap.size, 5, none⟩ = some (.slice i1 j1 l1) ∧ W.cell? ⟨w.heap.size, 6, none⟩ = some (.slice i2 j2 l2) ∧ W.cell? ⟨pb, j, none⟩ = some (.slice sa sl sc)) := fun W hW => by
        have h1 := (HBR.out.below hW).bt
        exact ⟨Lib.cell_of_heap h1 0, Lib.cell_of_heap h1 1, Lib.cell_of_heap h1 2, Lib.cell_of_heap h1 3, Lib.cell_of_heap h1 4, Lib.cell_of_heap h1 5, Lib.cell_of_heap h1 6, (hW.cell (p := ⟨pb, j, none⟩) hpb).trans hcell⟩
      have g1 : (j : Int) < pl := by omega
      have g2 : (j : Int) < 9223372036854775807 := by have := HPLN.out.2; omega
      clear HIS hj hlt hat hcell hRS hlead hsl hpb hjl
      go_wp2_with fail
      refine wp_region_noPanic ?_
      refine wp_region_held_drew (S := fun W => Below wr.heap.size wr W) (by kernel_rfl) ((Below.refl _ _).drew) (fun hHeld => ?_)
      refine wpAnyH_take (i := 0) (oi := { dst := some 76, op := Op.load 29 (Operand.tmp 3), type := 29, pos := "law.go:123", after := #[], guard := none }) (v := ?_) rfl (by kernel_rfl) (by kernel_rfl) (by kernel_rfl) (fun _ _ _ h => h) (Or.inl ⟨by rfl, ?_⟩) (by assumption) ?_
      rotate_left
      · intro wz hSw
        try dsimp only at hSw
        obtain ⟨t0, t1, t2, t3, t4, t5, t6, p0⟩ := HCELL.out wz hSw
        go_simp
        try with_reducible rfl
      try simp only [Act.put, List.setIfInBounds_toArray, List.set_cons_zero, List.set_cons_succ]
      refine wpAnyH_take (i := 1) (oi := { dst := some 77, op := Op.move (Operand.tmp 16), type := 37, pos := "law.go:123", after := #[], guard := none }) (v := ?_) rfl (by kernel_rfl) (by kernel_rfl) (by kernel_rfl) (fun _ _ _ h => h) (Or.inl ⟨by rfl, ?_⟩) (by assumption) ?_
      rotate_left
      · intro wz hSw
        try dsimp only at hSw
        obtain ⟨t0, t1, t2, t3, t4, t5, t6, p0⟩ := HCELL.out wz hSw
        go_simp
        try with_reducible rfl
      try simp only [Act.put, List.setIfInBounds_toArray, List.set_cons_zero, List.set_cons_succ]
      refine wpAnyH_take (i := 2) (oi := { dst := some 78, op := Op.move (Operand.tmp 17), type := 3, pos := "law.go:123", after := #[], guard := none }) (v := ?_) rfl (by kernel_rfl) (by kernel_rfl) (by kernel_rfl) (fun _ _ _ h => h) (Or.inl ⟨by rfl, ?_⟩) (by assumption) ?_
      rotate_left
      · intro wz hSw
        try dsimp only at hSw
        obtain ⟨t0, t1, t2, t3, t4, t5, t6, p0⟩ := HCELL.out wz hSw
        go_simp
        try with_reducible rfl
      try simp only [Act.put, List.setIfInBounds_toArray, List.set_cons_zero, List.set_cons_succ]
      refine wpAnyH_take (i := 3) (oi := { dst := some 79, op := Op.indexAddr 37 (Operand.tmp 77) (Operand.tmp 78), type := 0, pos := "law.go:123", after := #[{ on := 1, ground := Ground.data }, { on := 2, ground := Ground.data }], guard := none }) (v := ?_) rfl (by kernel_rfl) (by kernel_rfl) (by kernel_rfl) (fun _ _ _ h => h) (Or.inl ⟨by rfl, ?_⟩) (by assumption) ?_
      rotate_left
      · intro wz hSw
        try dsimp only at hSw
        obtain ⟨t0, t1, t2, t3, t4, t5, t6, p0⟩ := HCELL.out wz hSw
        go_simp
        try with_reducible rfl
      try simp only [Act.put, List.setIfInBounds_toArray, List.set_cons_zero, List.set_cons_succ]
      refine wpAnyH_take (i := 4) (oi := { dst := some 80, op := Op.load 42 (Operand.tmp 79), type := 42, pos := "law.go:123", after := #[{ on := 3, ground := Ground.data }], guard := none }) (v := ?_) rfl (by kernel_rfl) (by kernel_rfl) (by kernel_rfl) (fun _ _ _ h => h) (Or.inl ⟨by rfl, ?_⟩) (by assumption) ?_
      rotate_left
      · intro wz hSw
        try dsimp only at hSw
        obtain ⟨t0, t1, t2, t3, t4, t5, t6, p0⟩ := HCELL.out wz hSw
        go_simp
        try with_reducible rfl
      try simp only [Act.put, List.setIfInBounds_toArray, List.set_cons_zero, List.set_cons_succ]
      refine wpAnyH_ready (rs := [5, 9]) (by kernel_rfl) (by simp) (AllReadyH.cons (o := { dst := some 81, op := Op.call { callee := Callee.value (Operand.func 8), args := #[Operand.tmp 76, Operand.tmp 80], argTypes := #[29, 42] }, type := 40, pos := "law.go:123", after := #[{ on := 0, ground := Ground.data }, { on := 4, ground := Ground.data }], guard := none }) rfl (fun K hK => ?_) (AllReadyH.cons (o := { dst := some 18, op := Op.alloc 29, type := 0, pos := "law.go:123", after := #[], guard := none }) rfl (fun K hK => ?_) AllReadyH.nil))
      · go_simp
        go_at_call 8
        refine Calls.mono (EG wr.drew ((Below.refl _ _).drew)) ?_
        rintro e w5 ⟨⟨v5, hu5, HSV⟩, b5⟩
        obtain ⟨uk, un, ut, uo, ua, a1, n1, c1, a2, n2, c2, rfl, hsv⟩ := HSV
        subst hu5
        unfold tval
        dsimp only
        go_wp2_with fail
        refine hK.out _ _ (show Below wr.heap.size wr w5 from ((Below.refl wr.heap.size wr).drew).trans b5) (fun hHeld5 => ?_)
        clear hK K
        try simp only [Act.put, List.setIfInBounds_toArray, List.set_cons_zero, List.set_cons_succ]
        refine wpAnyH_take (i := 6) (oi := { dst := some 75, op := Op.move (Operand.tmp 81), type := 40, pos := "law.go:123", after := #[{ on := 5, ground := Ground.data }], guard := none }) (v := ?_) rfl (by kernel_rfl) (by kernel_rfl) (by kernel_rfl) (fun _ _ _ h => h) (Or.inl ⟨by rfl, ?_⟩) (by assumption) ?_
        rotate_left
        · intro wz hSw
          try dsimp only at hSw
          obtain ⟨t0, t1, t2, t3, t4, t5, t6, p0⟩ := HCELL.out wz hSw
          go_simp
          try with_reducible rfl
        try simp only [Act.put, List.setIfInBounds_toArray, List.set_cons_zero, List.set_cons_succ]
        refine wpAnyH_take (i := 7) (oi := { dst := some 82, op := Op.extract (Operand.tmp 75) 0, type := 29, pos := "law.go:123", after := #[{ on := 6, ground := Ground.data }], guard := none }) (v := ?_) rfl (by kernel_rfl) (by kernel_rfl) (by kernel_rfl) (fun _ _ _ h => h) (Or.inl ⟨by rfl, ?_⟩) (by assumption) ?_
        rotate_left
        · intro wz hSw
          try dsimp only at hSw
          obtain ⟨t0, t1, t2, t3, t4, t5, t6, p0⟩ := HCELL.out wz hSw
          go_simp
          try with_reducible rfl
        try simp only [Act.put, List.setIfInBounds_toArray, List.set_cons_zero, List.set_cons_succ]
        refine wpAnyH_take (i := 8) (oi := { dst := some 83, op := Op.extract (Operand.tmp 75) 1, type := 31, pos := "law.go:123", after := #[{ on := 6, ground := Ground.data }, { on := 10, ground := Ground.gcOnly Departure.lateStores }], guard := none }) (v := ?_) rfl (by kernel_rfl) (by kernel_rfl) (by kernel_rfl) (fun _ _ _ h => h) (Or.inl ⟨by rfl, ?_⟩) (by assumption) ?_
        rotate_left
        · intro wz hSw
          try dsimp only at hSw
          obtain ⟨t0, t1, t2, t3, t4, t5, t6, p0⟩ := HCELL.out wz hSw
          go_simp
          try with_reducible rfl
        try simp only [Act.put, List.setIfInBounds_toArray, List.set_cons_zero, List.set_cons_succ]
        refine wpAnyH_ready (rs := [9]) (by kernel_rfl) (by simp) (AllReadyH.cons (o := { dst := some 18, op := Op.alloc 29, type := 0, pos := "law.go:123", after := #[], guard := none }) rfl (fun K hK => ?_) AllReadyH.nil)
        go_simp
        refine hK.out _ _ ((((Below.refl wr.heap.size wr).drew).trans b5).alloc (show wr.heap.size ≤ w5.heap.size from b5.size) _) (fun hHeld9 => ?_)
        clear hK K
        try simp only [Act.put, List.setIfInBounds_toArray, List.set_cons_zero, List.set_cons_succ]
        have hW : Below wr.heap.size wr (w5.alloc (.cells #[.int .i64 0, .int .i64 0, .string ⟨#[]⟩, .int .i64 0, .int .i64 0, .slice none 0 0, .slice none 0 0] 29)) := (((Below.refl wr.heap.size wr).drew).trans b5).alloc (show wr.heap.size ≤ w5.heap.size from b5.size) _
        have nb : (w5.alloc (.cells #[.int .i64 0, .int .i64 0, .string ⟨#[]⟩, .int .i64 0, .int .i64 0, .slice none 0 0, .slice none 0 0] 29)).heap[w5.heap.size]? = some (.cells #[.int .i64 0, .int .i64 0, .string ⟨#[]⟩, .int .i64 0, .int .i64 0, .slice none 0 0, .slice none 0 0] 29) := one_new w5 _
        have hz1 : wr.heap.size ≤ w5.heap.size := b5.size
        generalize w5.alloc (.cells #[.int .i64 0, .int .i64 0, .string ⟨#[]⟩, .int .i64 0, .int .i64 0, .slice none 0 0, .slice none 0 0] 29) = WA at *
        obtain ⟨mb, hmb⟩ : ∃ mb, w5.heap.size = mb := ⟨_, rfl⟩
        rw [hmb] at nb hz1 ⊢
        clear hmb b5
        have nn0 : WA.cell? ⟨mb, 0, none⟩ = some (.int .i64 0) := Lib.cell_of_heap nb 0
        have nn1 : WA.cell? ⟨mb, 1, none⟩ = some (.int .i64 0) := Lib.cell_of_heap nb 1
        have nn2 : WA.cell? ⟨mb, 2, none⟩ = some (.string ⟨#[]⟩) := Lib.cell_of_heap nb 2
        have nn3 : WA.cell? ⟨mb, 3, none⟩ = some (.int .i64 0) := Lib.cell_of_heap nb 3
        have nn4 : WA.cell? ⟨mb, 4, none⟩ = some (.int .i64 0) := Lib.cell_of_heap nb 4
        have nn5 : WA.cell? ⟨mb, 5, none⟩ = some (.slice none 0 0) := Lib.cell_of_heap nb 5
        have nn6 : WA.cell? ⟨mb, 6, none⟩ = some (.slice none 0 0) := Lib.cell_of_heap nb 6
        have nf := Lib.frozen_of_heap nb
        refine wpAnyH_ready (rs := [10]) (by kernel_rfl) (by simp) (AllReadyH.cons (o := { dst := none, op := Op.store 29 (Operand.tmp 18) (Operand.tmp 82), type := 0, pos := "law.go:123", after := #[{ on := 9, ground := Ground.data }, { on := 7, ground := Ground.data }, { on := 5, ground := Ground.chain }, { on := 0, ground := Ground.phase }, { on := 1, ground := Ground.phase }, { on := 2, ground := Ground.phase }, { on := 3, ground := Ground.phase }, { on := 4, ground := Ground.phase }, { on := 5, ground := Ground.phase }, { on := 6, ground := Ground.phase }, { on := 7, ground := Ground.phase }, { on := 8, ground := Ground.textOnly Departure.lateStores }, { on := 9, ground := Ground.phase }], guard := none }) rfl (fun K hK => ?_) AllReadyH.nil)
        go_simp
        refine hK.out _ _ (set7_below hW hz1 (.int .i64 uk) (.int .i64 un) (.string ut) (.int .i64 uo) (.int .i64 ua) (.slice a1 n1 c1) (.slice a2 n2 c2)) (fun hHeld10 => ?_)
        clear hK K
        try simp only [Act.put, List.setIfInBounds_toArray, List.set_cons_zero, List.set_cons_succ]
        refine wpAnyH_take (i := 11) (oi := { dst := some 19, op := Op.assign (Operand.tmp 83), type := 31, pos := "law.go:123", after := #[{ on := 8, ground := Ground.data }, { on := 10, ground := Ground.chain }, { on := 0, ground := Ground.phase }, { on := 1, ground := Ground.phase }, { on := 2, ground := Ground.phase }, { on := 3, ground := Ground.phase }, { on := 4, ground := Ground.phase }, { on := 5, ground := Ground.phase }, { on := 6, ground := Ground.phase }, { on := 7, ground := Ground.phase }, { on := 8, ground := Ground.phase }, { on := 9, ground := Ground.phase }, { on := 10, ground := Ground.phase }], guard := none }) (v := ?_) rfl (by kernel_rfl) (by kernel_rfl) (by kernel_rfl) (fun _ _ _ h => h) (Or.inl ⟨by rfl, ?_⟩) (by assumption) ?_
        rotate_left
        · intro wz hSw
          try dsimp only at hSw
          obtain ⟨t0, t1, t2, t3, t4, t5, t6, p0⟩ := HCELL.out wz hSw
          go_simp
          try with_reducible rfl
        try simp only [Act.put, List.setIfInBounds_toArray, List.set_cons_zero, List.set_cons_succ]
        refine wpAnyH_done (by kernel_rfl) ?_ _
        refine NoPanic.normal ?_
        have HXf : Hid (((((((((WA.setCell ⟨mb, 0, none⟩ (.int .i64 uk)).setCell ⟨mb, 1, none⟩ (.int .i64 un)).setCell ⟨mb, 2, none⟩ (.string ut)).setCell ⟨mb, 3, none⟩ (.int .i64 uo)).setCell ⟨mb, 4, none⟩ (.int .i64 ua)).setCell ⟨mb, 5, none⟩ (.slice a1 n1 c1)).setCell ⟨mb, 6, none⟩ (.slice a2 n2 c2))).heap[mb]? = some (.cells #[.int .i64 uk, .int .i64 un, .string ut, .int .i64 uo, .int .i64 ua, .slice a1 n1 c1, .slice a2 n2 c2] 29)) := set7 nb (.int .i64 uk) (.int .i64 un) (.string ut) (.int .i64 uo) (.int .i64 ua) (.slice a1 n1 c1) (.slice a2 n2 c2)
        have hbf : Below wr.heap.size wr (((((((WA.setCell ⟨mb, 0, none⟩ (.int .i64 uk)).setCell ⟨mb, 1, none⟩ (.int .i64 un)).setCell ⟨mb, 2, none⟩ (.string ut)).setCell ⟨mb, 3, none⟩ (.int .i64 uo)).setCell ⟨mb, 4, none⟩ (.int .i64 ua)).setCell ⟨mb, 5, none⟩ (.slice a1 n1 c1)).setCell ⟨mb, 6, none⟩ (.slice a2 n2 c2)) := set7_below hW hz1 (.int .i64 uk) (.int .i64 un) (.string ut) (.int .i64 uo) (.int .i64 ua) (.slice a1 n1 c1) (.slice a2 n2 c2)
        clear nn0 nn1 nn2 nn3 nn4 nn5 nn6 nf nb hW hz1
        generalize (((((((WA.setCell ⟨mb, 0, none⟩ (.int .i64 uk)).setCell ⟨mb, 1, none⟩ (.int .i64 un)).setCell ⟨mb, 2, none⟩ (.string ut)).setCell ⟨mb, 3, none⟩ (.int .i64 uo)).setCell ⟨mb, 4, none⟩ (.int .i64 ua)).setCell ⟨mb, 5, none⟩ (.slice a1 n1 c1)).setCell ⟨mb, 6, none⟩ (.slice a2 n2 c2)) = wf at *
        have HBf : Hid (Bb w #[.int .i64 tk, .int .i64 tn, .string tt, .int .i64 tq, .int .i64 ta, .slice i1 j1 l1, .slice i2 j2 l2] #[.int .i64 yk, .int .i64 yn, .string yt, .int .i64 yo, .int .i64 ya] wf) := HBR.out.below hbf
        have HRf : Hid (RP 0 wf (.slice (some ⟨pb, 0, none⟩) pl pc) (pathR T (⟨yk, yn, yt, yo, ya⟩ : V))) := HRR.out.below hbf
        clear hbf
        clear hHeld hHeld5 hHeld9 hHeld10 EG
        have u0 : wf.cell? ⟨mb, 0, none⟩ = some (.int .i64 uk) := Lib.cell_of_heap HXf.out 0
        have u1 : wf.cell? ⟨mb, 1, none⟩ = some (.int .i64 un) := Lib.cell_of_heap HXf.out 1
        have u2 : wf.cell? ⟨mb, 2, none⟩ = some (.string ut) := Lib.cell_of_heap HXf.out 2
        have u3 : wf.cell? ⟨mb, 3, none⟩ = some (.int .i64 uo) := Lib.cell_of_heap HXf.out 3
        have u4 : wf.cell? ⟨mb, 4, none⟩ = some (.int .i64 ua) := Lib.cell_of_heap HXf.out 4
        have u5 : wf.cell? ⟨mb, 5, none⟩ = some (.slice a1 n1 c1) := Lib.cell_of_heap HXf.out 5
        have u6 : wf.cell? ⟨mb, 6, none⟩ = some (.slice a2 n2 c2) := Lib.cell_of_heap HXf.out 6
        have y0 : wf.cell? ⟨w.heap.size + 1, 0, none⟩ = some (.int .i64 yk) := Lib.cell_of_heap HBf.out.bv 0
        have y1 : wf.cell? ⟨w.heap.size + 1, 1, none⟩ = some (.int .i64 yn) := Lib.cell_of_heap HBf.out.bv 1
        have y2 : wf.cell? ⟨w.heap.size + 1, 2, none⟩ = some (.string yt) := Lib.cell_of_heap HBf.out.bv 2
        have y3 : wf.cell? ⟨w.heap.size + 1, 3, none⟩ = some (.int .i64 yo) := Lib.cell_of_heap HBf.out.bv 3
        have y4 : wf.cell? ⟨w.heap.size + 1, 4, none⟩ = some (.int .i64 ya) := Lib.cell_of_heap HBf.out.bv 4
        have he9 := heq uk un ut uo ua hsv
        clear hsv heq
        go_wp2_with fail
        go_roundw
        case rel => exact ⟨j + 1, HJ.out, by go_num, HBf.out, HRf.out⟩
        case measure => simp [RowKit.intOf]; have := HJ.out; omega
      · go_simp
        refine hK.out _ _ (((Below.refl wr.heap.size wr).drew).alloc (Nat.le_refl _) _) (fun hHeld9 => ?_)
        clear hK K
        try simp only [Act.put, List.setIfInBounds_toArray, List.set_cons_zero, List.set_cons_succ]
        have hWB : Below wr.heap.size wr (wr.drew.alloc (.cells #[.int .i64 0, .int .i64 0, .string ⟨#[]⟩, .int .i64 0, .int .i64 0, .slice none 0 0, .slice none 0 0] 29)) := ((Below.refl wr.heap.size wr).drew).alloc (Nat.le_refl _) _
        have nb0 : (wr.drew.alloc (.cells #[.int .i64 0, .int .i64 0, .string ⟨#[]⟩, .int .i64 0, .int .i64 0, .slice none 0 0, .slice none 0 0] 29)).heap[wr.heap.size]? = some (.cells #[.int .i64 0, .int .i64 0, .string ⟨#[]⟩, .int .i64 0, .int .i64 0, .slice none 0 0, .slice none 0 0] 29) := one_new wr.drew _
        refine wpAnyH_ready (rs := [5]) (by kernel_rfl) (by simp) (AllReadyH.cons (o := { dst := some 81, op := Op.call { callee := Callee.value (Operand.func 8), args := #[Operand.tmp 76, Operand.tmp 80], argTypes := #[29, 42] }, type := 40, pos := "law.go:123", after := #[{ on := 0, ground := Ground.data }, { on := 4, ground := Ground.data }], guard := none }) rfl (fun K hK => ?_) AllReadyH.nil)
        go_simp
        go_at_call 8
        refine Calls.mono (EG (wr.drew.alloc (.cells #[.int .i64 0, .int .i64 0, .string ⟨#[]⟩, .int .i64 0, .int .i64 0, .slice none 0 0, .slice none 0 0] 29)) (hWB)) ?_
        rintro e w5 ⟨⟨v5, hu5, HSV⟩, b5⟩
        obtain ⟨uk, un, ut, uo, ua, a1, n1, c1, a2, n2, c2, rfl, hsv⟩ := HSV
        subst hu5
        unfold tval
        dsimp only
        go_wp2_with fail
        refine hK.out _ _ (show Below wr.heap.size wr w5 from hWB.trans (b5.mono hWB.size)) (fun hHeld5 => ?_)
        clear hK K
        try simp only [Act.put, List.setIfInBounds_toArray, List.set_cons_zero, List.set_cons_succ]
        refine wpAnyH_take (i := 6) (oi := { dst := some 75, op := Op.move (Operand.tmp 81), type := 40, pos := "law.go:123", after := #[{ on := 5, ground := Ground.data }], guard := none }) (v := ?_) rfl (by kernel_rfl) (by kernel_rfl) (by kernel_rfl) (fun _ _ _ h => h) (Or.inl ⟨by rfl, ?_⟩) (by assumption) ?_
        rotate_left
        · intro wz hSw
          try dsimp only at hSw
          obtain ⟨t0, t1, t2, t3, t4, t5, t6, p0⟩ := HCELL.out wz hSw
          go_simp
          try with_reducible rfl
        try simp only [Act.put, List.setIfInBounds_toArray, List.set_cons_zero, List.set_cons_succ]
        refine wpAnyH_take (i := 7) (oi := { dst := some 82, op := Op.extract (Operand.tmp 75) 0, type := 29, pos := "law.go:123", after := #[{ on := 6, ground := Ground.data }], guard := none }) (v := ?_) rfl (by kernel_rfl) (by kernel_rfl) (by kernel_rfl) (fun _ _ _ h => h) (Or.inl ⟨by rfl, ?_⟩) (by assumption) ?_
        rotate_left
        · intro wz hSw
          try dsimp only at hSw
          obtain ⟨t0, t1, t2, t3, t4, t5, t6, p0⟩ := HCELL.out wz hSw
          go_simp
          try with_reducible rfl
        try simp only [Act.put, List.setIfInBounds_toArray, List.set_cons_zero, List.set_cons_succ]
        refine wpAnyH_take (i := 8) (oi := { dst := some 83, op := Op.extract (Operand.tmp 75) 1, type := 31, pos := "law.go:123", after := #[{ on := 6, ground := Ground.data }, { on := 10, ground := Ground.gcOnly Departure.lateStores }], guard := none }) (v := ?_) rfl (by kernel_rfl) (by kernel_rfl) (by kernel_rfl) (fun _ _ _ h => h) (Or.inl ⟨by rfl, ?_⟩) (by assumption) ?_
        rotate_left
        · intro wz hSw
          try dsimp only at hSw
          obtain ⟨t0, t1, t2, t3, t4, t5, t6, p0⟩ := HCELL.out wz hSw
          go_simp
          try with_reducible rfl
        try simp only [Act.put, List.setIfInBounds_toArray, List.set_cons_zero, List.set_cons_succ]
        have hW : Below wr.heap.size wr w5 := hWB.trans (b5.mono hWB.size)
        have nb : w5.heap[wr.heap.size]? = some (.cells #[.int .i64 0, .int .i64 0, .string ⟨#[]⟩, .int .i64 0, .int .i64 0, .slice none 0 0, .slice none 0 0] 29) := (b5.block _ (lt_of_heap nb0)).trans nb0
        have hz1 : wr.heap.size ≤ wr.heap.size := Nat.le_refl _
        clear hWB nb0 b5
        generalize w5 = WA at *
        have nn0 : WA.cell? ⟨wr.heap.size, 0, none⟩ = some (.int .i64 0) := Lib.cell_of_heap nb 0
        have nn1 : WA.cell? ⟨wr.heap.size, 1, none⟩ = some (.int .i64 0) := Lib.cell_of_heap nb 1
        have nn2 : WA.cell? ⟨wr.heap.size, 2, none⟩ = some (.string ⟨#[]⟩) := Lib.cell_of_heap nb 2
        have nn3 : WA.cell? ⟨wr.heap.size, 3, none⟩ = some (.int .i64 0) := Lib.cell_of_heap nb 3
        have nn4 : WA.cell? ⟨wr.heap.size, 4, none⟩ = some (.int .i64 0) := Lib.cell_of_heap nb 4
        have nn5 : WA.cell? ⟨wr.heap.size, 5, none⟩ = some (.slice none 0 0) := Lib.cell_of_heap nb 5
        have nn6 : WA.cell? ⟨wr.heap.size, 6, none⟩ = some (.slice none 0 0) := Lib.cell_of_heap nb 6
        have nf := Lib.frozen_of_heap nb
        refine wpAnyH_ready (rs := [10]) (by kernel_rfl) (by simp) (AllReadyH.cons (o := { dst := none, op := Op.store 29 (Operand.tmp 18) (Operand.tmp 82), type := 0, pos := "law.go:123", after := #[{ on := 9, ground := Ground.data }, { on := 7, ground := Ground.data }, { on := 5, ground := Ground.chain }, { on := 0, ground := Ground.phase }, { on := 1, ground := Ground.phase }, { on := 2, ground := Ground.phase }, { on := 3, ground := Ground.phase }, { on := 4, ground := Ground.phase }, { on := 5, ground := Ground.phase }, { on := 6, ground := Ground.phase }, { on := 7, ground := Ground.phase }, { on := 8, ground := Ground.textOnly Departure.lateStores }, { on := 9, ground := Ground.phase }], guard := none }) rfl (fun K hK => ?_) AllReadyH.nil)
        go_simp
        refine hK.out _ _ (set7_below hW hz1 (.int .i64 uk) (.int .i64 un) (.string ut) (.int .i64 uo) (.int .i64 ua) (.slice a1 n1 c1) (.slice a2 n2 c2)) (fun hHeld10 => ?_)
        clear hK K
        try simp only [Act.put, List.setIfInBounds_toArray, List.set_cons_zero, List.set_cons_succ]
        refine wpAnyH_take (i := 11) (oi := { dst := some 19, op := Op.assign (Operand.tmp 83), type := 31, pos := "law.go:123", after := #[{ on := 8, ground := Ground.data }, { on := 10, ground := Ground.chain }, { on := 0, ground := Ground.phase }, { on := 1, ground := Ground.phase }, { on := 2, ground := Ground.phase }, { on := 3, ground := Ground.phase }, { on := 4, ground := Ground.phase }, { on := 5, ground := Ground.phase }, { on := 6, ground := Ground.phase }, { on := 7, ground := Ground.phase }, { on := 8, ground := Ground.phase }, { on := 9, ground := Ground.phase }, { on := 10, ground := Ground.phase }], guard := none }) (v := ?_) rfl (by kernel_rfl) (by kernel_rfl) (by kernel_rfl) (fun _ _ _ h => h) (Or.inl ⟨by rfl, ?_⟩) (by assumption) ?_
        rotate_left
        · intro wz hSw
          try dsimp only at hSw
          obtain ⟨t0, t1, t2, t3, t4, t5, t6, p0⟩ := HCELL.out wz hSw
          go_simp
          try with_reducible rfl
        try simp only [Act.put, List.setIfInBounds_toArray, List.set_cons_zero, List.set_cons_succ]
        refine wpAnyH_done (by kernel_rfl) ?_ _
        refine NoPanic.normal ?_
        have HXf : Hid (((((((((WA.setCell ⟨wr.heap.size, 0, none⟩ (.int .i64 uk)).setCell ⟨wr.heap.size, 1, none⟩ (.int .i64 un)).setCell ⟨wr.heap.size, 2, none⟩ (.string ut)).setCell ⟨wr.heap.size, 3, none⟩ (.int .i64 uo)).setCell ⟨wr.heap.size, 4, none⟩ (.int .i64 ua)).setCell ⟨wr.heap.size, 5, none⟩ (.slice a1 n1 c1)).setCell ⟨wr.heap.size, 6, none⟩ (.slice a2 n2 c2))).heap[wr.heap.size]? = some (.cells #[.int .i64 uk, .int .i64 un, .string ut, .int .i64 uo, .int .i64 ua, .slice a1 n1 c1, .slice a2 n2 c2] 29)) := set7 nb (.int .i64 uk) (.int .i64 un) (.string ut) (.int .i64 uo) (.int .i64 ua) (.slice a1 n1 c1) (.slice a2 n2 c2)
        have hbf : Below wr.heap.size wr (((((((WA.setCell ⟨wr.heap.size, 0, none⟩ (.int .i64 uk)).setCell ⟨wr.heap.size, 1, none⟩ (.int .i64 un)).setCell ⟨wr.heap.size, 2, none⟩ (.string ut)).setCell ⟨wr.heap.size, 3, none⟩ (.int .i64 uo)).setCell ⟨wr.heap.size, 4, none⟩ (.int .i64 ua)).setCell ⟨wr.heap.size, 5, none⟩ (.slice a1 n1 c1)).setCell ⟨wr.heap.size, 6, none⟩ (.slice a2 n2 c2)) := set7_below hW hz1 (.int .i64 uk) (.int .i64 un) (.string ut) (.int .i64 uo) (.int .i64 ua) (.slice a1 n1 c1) (.slice a2 n2 c2)
        clear nn0 nn1 nn2 nn3 nn4 nn5 nn6 nf nb hW hz1
        generalize (((((((WA.setCell ⟨wr.heap.size, 0, none⟩ (.int .i64 uk)).setCell ⟨wr.heap.size, 1, none⟩ (.int .i64 un)).setCell ⟨wr.heap.size, 2, none⟩ (.string ut)).setCell ⟨wr.heap.size, 3, none⟩ (.int .i64 uo)).setCell ⟨wr.heap.size, 4, none⟩ (.int .i64 ua)).setCell ⟨wr.heap.size, 5, none⟩ (.slice a1 n1 c1)).setCell ⟨wr.heap.size, 6, none⟩ (.slice a2 n2 c2)) = wf at *
        have HBf : Hid (Bb w #[.int .i64 tk, .int .i64 tn, .string tt, .int .i64 tq, .int .i64 ta, .slice i1 j1 l1, .slice i2 j2 l2] #[.int .i64 yk, .int .i64 yn, .string yt, .int .i64 yo, .int .i64 ya] wf) := HBR.out.below hbf
        have HRf : Hid (RP 0 wf (.slice (some ⟨pb, 0, none⟩) pl pc) (pathR T (⟨yk, yn, yt, yo, ya⟩ : V))) := HRR.out.below hbf
        clear hbf
        clear hHeld hHeld5 hHeld9 hHeld10 EG
        have u0 : wf.cell? ⟨wr.heap.size, 0, none⟩ = some (.int .i64 uk) := Lib.cell_of_heap HXf.out 0
        have u1 : wf.cell? ⟨wr.heap.size, 1, none⟩ = some (.int .i64 un) := Lib.cell_of_heap HXf.out 1
        have u2 : wf.cell? ⟨wr.heap.size, 2, none⟩ = some (.string ut) := Lib.cell_of_heap HXf.out 2
        have u3 : wf.cell? ⟨wr.heap.size, 3, none⟩ = some (.int .i64 uo) := Lib.cell_of_heap HXf.out 3
        have u4 : wf.cell? ⟨wr.heap.size, 4, none⟩ = some (.int .i64 ua) := Lib.cell_of_heap HXf.out 4
        have u5 : wf.cell? ⟨wr.heap.size, 5, none⟩ = some (.slice a1 n1 c1) := Lib.cell_of_heap HXf.out 5
        have u6 : wf.cell? ⟨wr.heap.size, 6, none⟩ = some (.slice a2 n2 c2) := Lib.cell_of_heap HXf.out 6
        have y0 : wf.cell? ⟨w.heap.size + 1, 0, none⟩ = some (.int .i64 yk) := Lib.cell_of_heap HBf.out.bv 0
        have y1 : wf.cell? ⟨w.heap.size + 1, 1, none⟩ = some (.int .i64 yn) := Lib.cell_of_heap HBf.out.bv 1
        have y2 : wf.cell? ⟨w.heap.size + 1, 2, none⟩ = some (.string yt) := Lib.cell_of_heap HBf.out.bv 2
        have y3 : wf.cell? ⟨w.heap.size + 1, 3, none⟩ = some (.int .i64 yo) := Lib.cell_of_heap HBf.out.bv 3
        have y4 : wf.cell? ⟨w.heap.size + 1, 4, none⟩ = some (.int .i64 ya) := Lib.cell_of_heap HBf.out.bv 4
        have he9 := heq uk un ut uo ua hsv
        clear hsv heq
        go_wp2_with fail
        go_roundw
        case rel => exact ⟨j + 1, HJ.out, by go_num, HBf.out, HRf.out⟩
        case measure => simp [RowKit.intOf]; have := HJ.out; omega
    · have hje : j = pl := by omega
      subst hje
      clear hlt hj
      have HB7 := HBR
      clear HBR HRR
      rcases HPF.out with rfl | ⟨x9, rfl⟩
      · generalize wr = w7 at *
        have EP3 := parse_any s w7 (HVR.out.below HB7.out.low)
        go_wp2_with fail
        go_fit EP3
        rintro e w8 ⟨hP, b8⟩
        clear EP3
        have HB8 : Hid (Bb w #[.int .i64 tk, .int .i64 tn, .string tt, .int .i64 tq, .int .i64 ta, .slice i1 j1 l1, .slice i2 j2 l2] #[.int .i64 yk, .int .i64 yn, .string yt, .int .i64 yo, .int .i64 ya] w8) := HB7.out.below b8
        rcases hP with ⟨fk, fx, rfl, hno⟩ | ⟨u, U, rfl, hI, hG, ht, hsz⟩
        · clear hno b8
          unfold tval zU
          dsimp only
          have HB9 : Hid (Below w.heap.size w (w8.alloc (.cells #[.int .i64 0, .int .i64 0, .string ⟨#[]⟩, .int .i64 0, .int .i64 0, .slice none 0 0, .slice none 0 0] 29))) := HB8.out.low.alloc HB8.out.low.size _
          go_wp2
          rw [HPO.out]
          exact ⟨rfl, HB9.out⟩
        · obtain ⟨⟨uk, un, ut, uo, ua⟩, a1, n1, c1, a2, n2, c2, hu⟩ := hI.plain.parts
          subst hu
          have HU : Hid (IsT w8 (tval (⟨uk, un, ut, uo, ua⟩, .slice a1 n1 c1, .slice a2 n2 c2)) U ∧ Gd 0 U ∧ s.data.toList = txtT U) := ⟨hI.plain, hG, ht⟩
          clear hI hG ht hsz b8
          have hal : Below w8.heap.size w8 (w8.alloc (.cells #[.int .i64 uk, .int .i64 un, .string ut, .int .i64 uo, .int .i64 ua, .slice a1 n1 c1, .slice a2 n2 c2] 29)) := (Below.refl _ _).alloc (Nat.le_refl _) _
          have HB9 : Hid (Bb w #[.int .i64 tk, .int .i64 tn, .string tt, .int .i64 tq, .int .i64 ta, .slice i1 j1 l1, .slice i2 j2 l2] #[.int .i64 yk, .int .i64 yn, .string yt, .int .i64 yo, .int .i64 ya] (w8.alloc (.cells #[.int .i64 uk, .int .i64 un, .string ut, .int .i64 uo, .int .i64 ua, .slice a1 n1 c1, .slice a2 n2 c2] 29))) := HB8.out.below hal
          have HX9 : Hid ((w8.alloc (.cells #[.int .i64 uk, .int .i64 un, .string ut, .int .i64 uo, .int .i64 ua, .slice a1 n1 c1, .slice a2 n2 c2] 29)).heap[w8.heap.size]? = some (.cells #[.int .i64 uk, .int .i64 un, .string ut, .int .i64 uo, .int .i64 ua, .slice a1 n1 c1, .slice a2 n2 c2] 29)) := one_new w8 _
          have HU9 : Hid (IsT (w8.alloc (.cells #[.int .i64 uk, .int .i64 un, .string ut, .int .i64 uo, .int .i64 ua, .slice a1 n1 c1, .slice a2 n2 c2] 29)) (tval (⟨uk, un, ut, uo, ua⟩, .slice a1 n1 c1, .slice a2 n2 c2)) U) := HU.out.1.stay hal
          unfold tval
          dsimp only
          go_upto_region 20 with fail
          clear hal
          generalize w8.alloc (.cells #[.int .i64 uk, .int .i64 un, .string ut, .int .i64 uo, .int .i64 ua, .slice a1 n1 c1, .slice a2 n2 c2] 29) = w9 at *
          obtain ⟨xb, hxb⟩ : ∃ xb, w8.heap.size = xb := ⟨_, rfl⟩
          rw [hxb] at HX9 ⊢
          clear hxb
          have u0 : w9.cell? ⟨xb, 0, none⟩ = some (.int .i64 uk) := Lib.cell_of_heap HX9.out 0
          have u1 : w9.cell? ⟨xb, 1, none⟩ = some (.int .i64 un) := Lib.cell_of_heap HX9.out 1
          have u2 : w9.cell? ⟨xb, 2, none⟩ = some (.string ut) := Lib.cell_of_heap HX9.out 2
          have u3 : w9.cell? ⟨xb, 3, none⟩ = some (.int .i64 uo) := Lib.cell_of_heap HX9.out 3
          have u4 : w9.cell? ⟨xb, 4, none⟩ = some (.int .i64 ua) := Lib.cell_of_heap HX9.out 4
          have u5 : w9.cell? ⟨xb, 5, none⟩ = some (.slice a1 n1 c1) := Lib.cell_of_heap HX9.out 5
          have u6 : w9.cell? ⟨xb, 6, none⟩ = some (.slice a2 n2 c2) := Lib.cell_of_heap HX9.out 6
          have EQ := printJ_any w9 HU9.out HU.out.2.1.rng (HVR.out.below HB9.out.low).1
          have hck := chk_of HU.out.2.1
          have hpr : prT U = s.data.toList := by
            unfold prT
            rw [if_pos hck, HU.out.2.2]
          have hbs : ba (prT U) = s := by
            rw [hpr]
            rfl
          rw [hbs, hck] at EQ
          unfold errT tval at EQ
          rw [if_pos rfl] at EQ
          dsimp only at EQ
          clear hck hpr hbs
          go_wp2_with fail
          go_fit EQ
          rintro e wa ⟨rfl, ba9⟩
          clear EQ u0 u1 u2 u3 u4 u5 u6
          have HBa : Hid (Below w.heap.size w wa) := HB9.out.low.trans (ba9.mono HB9.out.low.size)
          clear ba9
          have hse : (s.toList == s.toList) = true := beq_self_eq_true _
          go_wp2
          rw [HPO.out]
          exact ⟨rfl, HBa.out⟩
      · generalize wr = w7 at *
        have EP3 := parse_any s w7 (HVR.out.below HB7.out.low)
        go_wp2_with fail
        go_fit EP3
        rintro e w8 ⟨hP, b8⟩
        clear EP3
        have HB8 : Hid (Bb w #[.int .i64 tk, .int .i64 tn, .string tt, .int .i64 tq, .int .i64 ta, .slice i1 j1 l1, .slice i2 j2 l2] #[.int .i64 yk, .int .i64 yn, .string yt, .int .i64 yo, .int .i64 ya] w8) := HB7.out.below b8
        rcases hP with ⟨fk, fx, rfl, hno⟩ | ⟨u, U, rfl, hI, hG, ht, hsz⟩
        · clear hno b8
          unfold tval zU
          dsimp only
          have HB9 : Hid (Below w.heap.size w (w8.alloc (.cells #[.int .i64 0, .int .i64 0, .string ⟨#[]⟩, .int .i64 0, .int .i64 0, .slice none 0 0, .slice none 0 0] 29))) := HB8.out.low.alloc HB8.out.low.size _
          go_wp2
          rw [HPO.out]
          exact ⟨rfl, HB9.out⟩
        · obtain ⟨⟨uk, un, ut, uo, ua⟩, a1, n1, c1, a2, n2, c2, hu⟩ := hI.plain.parts
          subst hu
          have HU : Hid (IsT w8 (tval (⟨uk, un, ut, uo, ua⟩, .slice a1 n1 c1, .slice a2 n2 c2)) U ∧ Gd 0 U ∧ s.data.toList = txtT U) := ⟨hI.plain, hG, ht⟩
          clear hI hG ht hsz b8
          have hal : Below w8.heap.size w8 (w8.alloc (.cells #[.int .i64 uk, .int .i64 un, .string ut, .int .i64 uo, .int .i64 ua, .slice a1 n1 c1, .slice a2 n2 c2] 29)) := (Below.refl _ _).alloc (Nat.le_refl _) _
          have HB9 : Hid (Bb w #[.int .i64 tk, .int .i64 tn, .string tt, .int .i64 tq, .int .i64 ta, .slice i1 j1 l1, .slice i2 j2 l2] #[.int .i64 yk, .int .i64 yn, .string yt, .int .i64 yo, .int .i64 ya] (w8.alloc (.cells #[.int .i64 uk, .int .i64 un, .string ut, .int .i64 uo, .int .i64 ua, .slice a1 n1 c1, .slice a2 n2 c2] 29))) := HB8.out.below hal
          have HX9 : Hid ((w8.alloc (.cells #[.int .i64 uk, .int .i64 un, .string ut, .int .i64 uo, .int .i64 ua, .slice a1 n1 c1, .slice a2 n2 c2] 29)).heap[w8.heap.size]? = some (.cells #[.int .i64 uk, .int .i64 un, .string ut, .int .i64 uo, .int .i64 ua, .slice a1 n1 c1, .slice a2 n2 c2] 29)) := one_new w8 _
          have HU9 : Hid (IsT (w8.alloc (.cells #[.int .i64 uk, .int .i64 un, .string ut, .int .i64 uo, .int .i64 ua, .slice a1 n1 c1, .slice a2 n2 c2] 29)) (tval (⟨uk, un, ut, uo, ua⟩, .slice a1 n1 c1, .slice a2 n2 c2)) U) := HU.out.1.stay hal
          unfold tval
          dsimp only
          go_upto_region 20 with fail
          clear hal
          generalize w8.alloc (.cells #[.int .i64 uk, .int .i64 un, .string ut, .int .i64 uo, .int .i64 ua, .slice a1 n1 c1, .slice a2 n2 c2] 29) = w9 at *
          obtain ⟨xb, hxb⟩ : ∃ xb, w8.heap.size = xb := ⟨_, rfl⟩
          rw [hxb] at HX9 ⊢
          clear hxb
          have u0 : w9.cell? ⟨xb, 0, none⟩ = some (.int .i64 uk) := Lib.cell_of_heap HX9.out 0
          have u1 : w9.cell? ⟨xb, 1, none⟩ = some (.int .i64 un) := Lib.cell_of_heap HX9.out 1
          have u2 : w9.cell? ⟨xb, 2, none⟩ = some (.string ut) := Lib.cell_of_heap HX9.out 2
          have u3 : w9.cell? ⟨xb, 3, none⟩ = some (.int .i64 uo) := Lib.cell_of_heap HX9.out 3
          have u4 : w9.cell? ⟨xb, 4, none⟩ = some (.int .i64 ua) := Lib.cell_of_heap HX9.out 4
          have u5 : w9.cell? ⟨xb, 5, none⟩ = some (.slice a1 n1 c1) := Lib.cell_of_heap HX9.out 5
          have u6 : w9.cell? ⟨xb, 6, none⟩ = some (.slice a2 n2 c2) := Lib.cell_of_heap HX9.out 6
          have EQ := printJ_any w9 HU9.out HU.out.2.1.rng (HVR.out.below HB9.out.low).1
          have hck := chk_of HU.out.2.1
          have hpr : prT U = s.data.toList := by
            unfold prT
            rw [if_pos hck, HU.out.2.2]
          have hbs : ba (prT U) = s := by
            rw [hpr]
            rfl
          rw [hbs, hck] at EQ
          unfold errT tval at EQ
          rw [if_pos rfl] at EQ
          dsimp only at EQ
          clear hck hpr hbs
          go_wp2_with fail
          go_fit EQ
          rintro e wa ⟨rfl, ba9⟩
          clear EQ u0 u1 u2 u3 u4 u5 u6
          have HBa : Hid (Below w.heap.size w wa) := HB9.out.low.trans (ba9.mono HB9.out.low.size)
          clear ba9
          have hse : (s.toList == s.toList) = true := beq_self_eq_true _
          go_wp2
          rw [HPO.out]
          exact ⟨rfl, HBa.out⟩
end Go.Proofs.YtnoikdlofkcgaaaGreatDoor
