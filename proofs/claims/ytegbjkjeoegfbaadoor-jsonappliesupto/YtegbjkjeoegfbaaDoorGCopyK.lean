/-
  What is proved: the function copyOf of package json, called with a tree that lies in memory, answers one like it, whose rows are its own, each in a stretch of its own. the function Apply of package json, called with a tree and patches, does them one after the other, or tells why one is not done.
  Conditions: as each theorem says.
-/
import Derived.Test.YtegbjkjeoegfbaaDoorJIv
import Derived.Test.YtegbjkjeoegfbaaDoorJPats
import Derived.Laws.EntriesVeiled
namespace Go.Proofs.YtegbjkjeoegfbaaDoor
open Go.RowKit Go.Sort

/-- What copyOf answers. -/
def CopyI (B : Nat) (w : World) (T : JT) (e : Ending) : Prop := ∃ u, e = .returned (tval u) ∧ IsTI w B w.heap.size u T
/-- What holds at the head of each round. -/
structure CpB (w : World) (T : JT) (us0 us' : List TV) (uk : Value) (g yc i : Nat) (wr : World) : Prop where
  x : wr.heap[w.heap.size]? = some (.cells #[.int .i64 T.x.k, .int .i64 T.x.n, .string T.x.t, .int .i64 T.x.o, .int .i64 T.x.a, uk, .slice (some ⟨g, 0, none⟩) T.ts.length yc] 29)
  y : wr.heap[w.heap.size + 1]? = some (.cells #[.int .i64 0, .int .i64 0, .string ⟨#[]⟩, .int .i64 0, .int .i64 0, .slice none 0 0, .slice none 0 0] 29)
  keys : wr.ownsRow (w.heap.size + 2) 9 1 uk T.ks.length (scells T.ks)
  len : us'.length = T.ts.length
  cap : T.ts.length ≤ yc
  far : w.heap.size + 2 ≤ g
  low : g < wr.heap.size
  row : RowB wr g us'
  rest : ∀ k (h : k < us'.length) (h0 : k < us0.length), i ≤ k → us'[k] = us0[k]
  below : Below w.heap.size w wr

theorem CpB.grow {w : World} {T : JT} {us0 us' : List TV} {uk : Value} {g yc i : Nat} {wr V : World} (h : CpB w T us0 us' uk g yc i wr) (hb : Below wr.heap.size wr V) : CpB w T us0 us' uk g yc i V :=
  ⟨(hb.block _ (lt_of_heap h.x)).trans h.x, (hb.block _ (lt_of_heap h.y)).trans h.y, own_below h.keys hb (Nat.le_refl _), h.len, h.cap, h.far, Nat.lt_of_lt_of_le h.low hb.size, h.row.below hb, h.rest, h.below.trans (hb.mono h.below.size)⟩
theorem CpB.put {w : World} {T : JT} {us0 us' : List TV} {uk : Value} {g yc i : Nat} {V : World} (h : CpB w T us0 us' uk g yc i V) (hi : i < us'.length) (u : TV) : CpB w T us0 (us'.set i u) uk g yc (i + 1) (put7 V g (i * 7) u) := by
  have hF : From (g + 1) V (put7 V g (i * 7) u) := ⟨(put7_below (Below.refl 0 V) g _ u (Nat.zero_le _)).size, fun k hk _ => put7_other V g _ u k (by omega)⟩
  have hfar := h.far
  refine ⟨?_, ?_, ?_, by simpa using h.len, h.cap, h.far, Nat.lt_of_lt_of_le h.low hF.1, h.row.put i hi u _ rfl, ?_, put7_below h.below g _ u (by omega)⟩
  · rw [put7_other V g _ u _ (by omega)]; exact h.x
  · rw [put7_other V g _ u _ (by omega)]; exact h.y
  · refine ⟨h.keys.1, ?_⟩
    obtain ⟨cur, hcur, _⟩ := h.row
    rcases h.keys.2 with h0 | ⟨g', cap', cur', e1, hg', hh, h4⟩
    · exact Or.inl h0
    · refine Or.inr ⟨g', cap', cur', e1, hg', ?_, h4⟩
      rw [put7_other V g _ u _ (fun e => ?_)]
      · exact hh
      · subst e
        rw [hcur] at hh
        have h5 := Option.some.inj hh
        injection h5 with _ h6
        exact absurd h6 (by decide)
  · intro k hk h0 hle
    rw [List.length_set] at hk
    rw [List.getElem_set_ne (by omega)]
    exact h.rest k hk h0 (by omega)
/-- What holds at the head of each round, with the stretches. -/
structure CpI (w : World) (T : JT) (us0 us' : List TV) (uk : Value) (g yc i m : Nat) (wr : World) : Prop where
  base : CpB w T us0 us' uk g yc i wr
  kh : ∀ k, uk.ownBlock = some k → k < g
  sz : ∃ cur, wr.heap[g]? = some (.cells cur 29) ∧ cur.size = yc * 7
  ym : yc ≤ maxLen
  mle : m ≤ wr.heap.size
  done : IsGI wr (ofL (T.ts.take i)) (us'.take i) (g + 1) m
theorem CpI.grow {w : World} {T : JT} {us0 us' : List TV} {uk : Value} {g yc i m : Nat} {wr V : World} (h : CpI w T us0 us' uk g yc i m wr) (hb : Below wr.heap.size wr V) : CpI w T us0 us' uk g yc i m V := by
  obtain ⟨cur, h1, h2⟩ := h.sz
  have hm := h.mle
  exact ⟨h.base.grow hb, h.kh, ⟨cur, (hb.block _ (lt_of_heap h1)).trans h1, h2⟩, h.ym, Nat.le_trans hm hb.size, h.done.keep (fun k _ b => hb.block k (by omega))⟩
theorem CpI.put {w : World} {T : JT} {us0 us' : List TV} {uk : Value} {g yc i m : Nat} {V : World} (h : CpI w T us0 us' uk g yc i m V) (hi : i < us'.length) (u : TV) (lo : Nat) (hlo : m ≤ lo) (hu : ∀ h' : i < T.ts.length, IsTI V lo V.heap.size u T.ts[i]) : CpI w T us0 (us'.set i u) uk g yc (i + 1) (put7 V g (i * 7) u).heap.size (put7 V g (i * 7) u) := by
  have hF : V.heap.size ≤ (put7 V g (i * 7) u).heap.size := (put7_below (Below.refl 0 V) g _ u (Nat.zero_le _)).size
  have hi' : i < T.ts.length := by have := h.base.len; omega
  have hle := h.done.le
  refine ⟨h.base.put hi u, h.kh, put7_size h.sz, h.ym, Nat.le_refl _, ?_⟩
  have e1 : T.ts.take (i + 1) = T.ts.take i ++ [T.ts[i]] := List.take_succ_eq_append_getElem hi'
  have e2 : (us'.set i u).take (i + 1) = us'.take i ++ [u] := by
    rw [List.take_succ_eq_append_getElem (by rw [List.length_set]; exact hi), List.getElem_set_self, List.take_set_of_le (Nat.le_refl _)]
  rw [e1, e2]
  refine IsGI.snoc (m := m) (h.done.keep (fun k a _ => put7_other V g _ u k (by omega))) (((hu hi').keep (fun k a _ => put7_other V g _ u k (by omega))).mono hlo hF)
theorem CpI.all {w : World} {T : JT} {us0 us' : List TV} {uk : Value} {g yc m : Nat} {wr V : World} (h : CpI w T us0 us' uk g yc T.ts.length m wr) (hT : T = .node T.x T.ks T.ts) (hk : T.ks.length ≤ 1000) (hz : T.ts.length ≤ 1000) (hV : From (w.heap.size + 2) wr V) : IsTI V w.heap.size V.heap.size (T.x, uk, .slice (some ⟨g, 0, none⟩) T.ts.length yc) T := by
  have hfar := h.base.far
  have hm := h.mle
  have hlen := h.base.len
  have hl := h.base.low
  have hle := h.done.le
  have hz2 := hV.1
  have hkids : T.kids = ofL T.ts := by
    have := congrArg JT.kids hT
    exact this
  have hd : IsGI wr T.kids us' (g + 1) m := by
    have h1 := h.done
    rw [List.take_of_length_le (Nat.le_refl _), List.take_of_length_le (by omega)] at h1
    rw [hkids]
    exact h1
  have h3 : IsTI wr (w.heap.size + 2) wr.heap.size (T.x, uk, .slice (some ⟨g, 0, none⟩) T.ts.length yc) T := by
    refine ⟨uk, .slice (some ⟨g, 0, none⟩) T.ts.length yc, us', g + 1, rfl, ⟨h.base.keys, hk, fun k hk => by have := h.kh k hk; omega⟩, ⟨?_, by omega, fun k hk => ?_⟩, by omega, hd.more hm⟩
    · have := row_own (B := w.heap.size + 2) h.base.row h.sz (by rw [hlen]; exact h.base.cap) h.ym hfar
      rwa [hlen] at this ⊢
    · have : g = k := by simpa [Value.ownBlock] using hk
      omega
  exact (h3.keep (fun k a b => hV.2 k a b)).mono (by omega) hz2
theorem none_all {w wr V : World} {T : JT} {xa : Option Addr} {xn xc : Nat} (ho : wr.ownsRow (w.heap.size + 2) 9 1 (.slice xa xn xc) T.ks.length (scells T.ks)) (hT : T = .node T.x T.ks T.ts) (hts : T.ts = []) (hk : T.ks.length ≤ 1000) (hz : w.heap.size + 2 ≤ wr.heap.size) (hV : From (w.heap.size + 2) wr V) : IsTI V w.heap.size V.heap.size (T.x, .slice xa xn xc, .slice none T.ts.length 0) T := by
  have hkids : T.kids = .nil := by
    have := congrArg JT.kids hT
    rw [hts] at this
    exact this
  have hz2 := hV.1
  have h3 : IsTI wr (w.heap.size + 2) wr.heap.size (T.x, .slice xa xn xc, .slice none T.ts.length 0) T := by
    refine ⟨.slice xa xn xc, .slice none T.ts.length 0, [], wr.heap.size, rfl, ⟨ho, hk, fun k hk => ?_⟩, ⟨?_, Nat.zero_le _, fun k hk => by simp [Value.ownBlock] at hk⟩, hz, by rw [hkids]; exact ⟨rfl, Nat.le_refl _⟩⟩
    · rcases ho.2 with ⟨e, _⟩ | ⟨g, cap, cur, e, _, hh, _⟩
      · rw [e] at hk; simp [Value.ownBlock] at hk
      · rw [e] at hk
        have : g = k := by simpa [Value.ownBlock] using hk
        have := lt_of_heap hh
        omega
    · rw [hts]; exact World.ownsRow_nil wr _ _ _
  exact (h3.keep (fun k a b => hV.2 k a b)).mono (by omega) hz2

set_option maxRecDepth 100000 in
set_option maxHeartbeats 8000000 in
theorem copyI_any {w0 : World} {v : Value} {T : JT} (h : IsT w0 v T) : ∀ (w : World), Below w0.heap.size w0 w → formedB T = true → T.size ≤ 400 →
    Calls Tryd.prog 12 #[v] w fun e w' => CopyI w.heap.size w' T e ∧ Below w.heap.size w w' := by
  induction h using IsTG.ind with
  | mk x ks ts uk a cap us hk hl hc hz hr hi ih =>
    intro w hb hf hs
    have HI : Hid (∀ i (h : i < us.length) (h' : i < ts.length) (w : World), Below w0.heap.size w0 w → formedB ts[i] = true → ts[i].size ≤ 400 → Calls Tryd.prog 12 #[tval us[i]] w fun e w' => CopyI w.heap.size w' ts[i] e ∧ Below w.heap.size w w') := ih
    obtain ⟨T, hT⟩ : ∃ T, T = JT.node x ks ts := ⟨_, rfl⟩
    have eks : T.ks = ks := by rw [hT]; rfl
    have ets : T.ts = ts := by rw [hT]; exact node_ts x ks ts
    have hx : T.x = x := by rw [hT]; rfl
    have hTT : T = .node T.x T.ks T.ts := by rw [eks, ets, hx]; exact hT
    have HTN : Hid (T = .node T.x T.ks T.ts) := hTT
    rw [← hT] at hf hs ⊢
    subst eks ets hx
    clear hT hTT
    obtain ⟨ak, ck, rfl, hk1, hk2, hk3⟩ := hk
    have hks : IsStrs w0 (.slice ak T.ks.length ck) T.ks := ⟨ak, ck, rfl, hk1, hk2, hk3⟩
    have HF : Hid ((T.ts.length ≤ 400 ∧ T.ks.length ≤ 400 ∧ ∀ t ∈ T.ts, t.size ≤ 400) ∧ ∀ t ∈ T.ts, formedB t = true) := ⟨few_kids hf hs, (formed_node hf).2⟩
    have HS : Hid (IsStrs w0 (.slice ak T.ks.length ck) T.ks) := hks
    have HL : Hid (us.length = T.ts.length ∧ (T.ts.length ≤ cap ∧ (a = none → cap = 0))) := ⟨hl, hc⟩
    have HR : Hid (RowT w0 a us) := hr
    have HT : Hid (∀ i (h : i < us.length) (h' : i < T.ts.length), IsT w0 (tval us[i]) T.ts[i]) := hi
    have HB : Hid (Below w0.heap.size w0 w) := hb
    clear hk1 hk2 hk3 hks hl hc hz hr hi hb ih hf hs
    unfold tval
    dsimp only
    obtain ⟨x0, y0, b0⟩ := two_boxes w (.cells #[.int .i64 T.x.k, .int .i64 T.x.n, .string T.x.t, .int .i64 T.x.o, .int .i64 T.x.a, .slice ak T.ks.length ck, .slice a T.ts.length cap] 29) (.cells #[.int .i64 0, .int .i64 0, .string ⟨#[]⟩, .int .i64 0, .int .i64 0, .slice none 0 0, .slice none 0 0] 29)
    have HA : Hid (_ ∧ _ ∧ _) := ⟨x0, y0, b0⟩
    clear x0 y0 b0
    go_enter Tryd.func12, Tryd.ntmps12
    go_upto_region 1 with fail
    obtain ⟨x0, y0, b0⟩ := HA.out
    clear HA
    generalize (w.alloc (.cells #[.int .i64 T.x.k, .int .i64 T.x.n, .string T.x.t, .int .i64 T.x.o, .int .i64 T.x.a, .slice ak T.ks.length ck, .slice a T.ts.length cap] 29)).alloc (.cells #[.int .i64 0, .int .i64 0, .string ⟨#[]⟩, .int .i64 0, .int .i64 0, .slice none 0 0, .slice none 0 0] 29) = W at *
    have c5 : W.cell? ⟨w.heap.size, 5, none⟩ = some (.slice ak T.ks.length ck) := Lib.cell_of_heap x0 5
    have zW := lt_of_heap y0
    obtain ⟨uk, W1, r1, o1, b1⟩ := run_copyS 26 W (w.heap.size + 2) (by omega) (.slice ak T.ks.length ck) T.ks (HS.out.below (HB.out.trans (b0.mono HB.out.size))) (by have := HF.out.1.2.1; omega)
    have ukf : ∃ xa xn xc, uk = .slice xa xn xc := by
      rcases o1.2 with ⟨e, _⟩ | ⟨_, _, _, e, _⟩
      · exact ⟨_, _, _, e⟩
      · exact ⟨_, _, _, e⟩
    obtain ⟨xa, xn, xc, rfl⟩ := ukf
    have x1 := (b1.block _ (lt_of_heap x0)).trans x0
    have y1 := (b1.block _ (lt_of_heap y0)).trans y0
    have s5 : W1.cell? ⟨w.heap.size, 5, none⟩ = some (.slice ak T.ks.length ck) := Lib.cell_of_heap x1 5
    have sf := Lib.frozen_of_heap x1
    have x2 : (W1.setCell ⟨w.heap.size, 5, none⟩ (.slice xa xn xc)).heap[w.heap.size]? = some (.cells #[.int .i64 T.x.k, .int .i64 T.x.n, .string T.x.t, .int .i64 T.x.o, .int .i64 T.x.a, .slice xa xn xc, .slice a T.ts.length cap] 29) := set_at x1 5 _
    have y2 := heap_set_other (g := w.heap.size) (i := 5) (v := .slice xa xn xc) y1 (by omega)
    have o2 := own_set_other (i := 5) (u := .slice xa xn xc) o1 x1 (by decide)
    have bW : Below w.heap.size w W1 := b0.trans (b1.mono (by omega))
    have bW2 := bW.setCell (p := ⟨w.heap.size, 5, none⟩) (Nat.le_refl _) (.slice xa xn xc)
    have z2 : w.heap.size + 2 ≤ (W1.setCell ⟨w.heap.size, 5, none⟩ (.slice xa xn xc)).heap.size := by have := lt_of_heap y2; omega
    have HN : Hid (_ ∧ _ ∧ _ ∧ _ ∧ _) := ⟨x2, y2, o2, bW2, z2⟩
    clear x0 y0 x1 y1 x2 y2 o1 o2 b0 b1 bW bW2 z2 zW
    go_upto_region 2 with (first | (at_builtin; refine wp_append rfl _ _ 26 rfl _ _ _ _ rfl rfl r1 ?_))
    obtain ⟨x2, y2, o2, bW2, z2⟩ := HN.out
    clear HN c5 r1 s5 sf
    generalize W1.setCell ⟨w.heap.size, 5, none⟩ (.slice xa xn xc) = W2 at *
    have c6 : W2.cell? ⟨w.heap.size, 6, none⟩ = some (.slice a T.ts.length cap) := Lib.cell_of_heap x2 6
    have bW02 : Below w0.heap.size w0 W2 := HB.out.trans (bW2.mono HB.out.size)
    obtain ⟨vo, W3, r3, o3, b3⟩ := run_copyT 27 W2 W2.heap.size (Nat.le_refl _) a cap us (HR.out.below bW02) HL.out.2.2 (by have := HL.out; omega) (fun u hu => by
      obtain ⟨i, hi, rfl⟩ := List.getElem_of_mem hu
      obtain ⟨x, a1, n1, c1, a2, n2, c2, e⟩ := (HT.out i hi (by have := HL.out.1; omega)).parts
      rw [e]
      exact ⟨a1, n1, c1, a2, n2, c2, rfl, rfl⟩) (by have := HF.out.1.1; have := HL.out.1; omega)
    have vof : ∃ ya yc, vo = .slice ya T.ts.length yc := by
      rcases own_rowB o3 with ⟨e, hus⟩ | ⟨g, yc, e, _⟩
      · exact ⟨none, 0, by rw [e, ← HL.out.1, hus]; rfl⟩
      · exact ⟨_, yc, by rw [e, HL.out.1]⟩
    obtain ⟨ya, yc, rfl⟩ := vof
    rw [HL.out.1] at r3
    have x3 := (b3.block _ (lt_of_heap x2)).trans x2
    have y3 := (b3.block _ (lt_of_heap y2)).trans y2
    have s6 : W3.cell? ⟨w.heap.size, 6, none⟩ = some (.slice a T.ts.length cap) := Lib.cell_of_heap x3 6
    have sf := Lib.frozen_of_heap x3
    have o2' := own_set_other (i := 6) (u := .slice ya T.ts.length yc) (own_below o2 b3 (Nat.le_refl _)) x3 (by decide)
    have x4 : (W3.setCell ⟨w.heap.size, 6, none⟩ (.slice ya T.ts.length yc)).heap[w.heap.size]? = some (.cells #[.int .i64 T.x.k, .int .i64 T.x.n, .string T.x.t, .int .i64 T.x.o, .int .i64 T.x.a, .slice xa xn xc, .slice ya T.ts.length yc] 29) := set_at x3 6 _
    have y4 := heap_set_other (g := w.heap.size) (i := 6) (v := .slice ya T.ts.length yc) y3 (by omega)
    have bW3 : Below w.heap.size w W3 := bW2.trans (b3.mono (by omega))
    have bW4 := bW3.setCell (p := ⟨w.heap.size, 6, none⟩) (Nat.le_refl _) (.slice ya T.ts.length yc)
    have rw4 : (ya = none ∧ yc = 0 ∧ T.ts = []) ∨ ∃ g, ya = some ⟨g, 0, none⟩ ∧ w.heap.size + 2 ≤ g ∧ T.ts.length ≤ yc ∧ g < (W3.setCell ⟨w.heap.size, 6, none⟩ (.slice ya T.ts.length yc)).heap.size ∧ RowB (W3.setCell ⟨w.heap.size, 6, none⟩ (.slice ya T.ts.length yc)) g us ∧ (∃ cur, (W3.setCell ⟨w.heap.size, 6, none⟩ (.slice ya T.ts.length yc)).heap[g]? = some (.cells cur 29) ∧ cur.size = yc * 7) ∧ yc ≤ maxLen ∧ ∀ k, (Value.slice xa xn xc).ownBlock = some k → k < g := by
      rcases own_rowB o3 with ⟨e, hus⟩ | ⟨g, yc', e, hg1, hg2, hg3, hRB⟩
      · have e1 := Value.slice.inj e
        exact Or.inl ⟨e1.1, e1.2.2, List.length_eq_zero_iff.1 e1.2.1⟩
      · have e1 := Value.slice.inj e
        refine Or.inr ⟨g, e1.1, by omega, ?_, ?_, ?_⟩
        · rw [e1.2.2, ← HL.out.1]; exact hg3
        · have := ((Below.refl w.heap.size W3).setCell (p := ⟨w.heap.size, 6, none⟩) (Nat.le_refl _) (.slice ya T.ts.length yc)).size
          omega
        · obtain ⟨cur, h1, h2⟩ := hRB
          refine ⟨⟨cur, heap_set_other h1 (by omega), h2⟩, ?_⟩
          rcases o3.2 with ⟨e3, _⟩ | ⟨g', cap', cur', e3, hg4, hh4, _, hm4, hz4, _⟩
          · rw [e3] at e; cases e
          · have e4 := Value.slice.inj (e3.symm.trans e)
            have e5 := Option.some.inj e4.1
            injection e5 with e6 _ _
            subst e6
            have e7 := (Value.slice.inj e3).2.2
            subst e7
            refine ⟨⟨cur', heap_set_other hh4 (by omega), hz4⟩, hm4, fun k hk => ?_⟩
            rcases o2.2 with ⟨e8, _⟩ | ⟨kb, _, _, e8, _, hh8, _⟩
            · rw [e8] at hk; simp [Value.ownBlock] at hk
            · rw [e8] at hk
              have hkb : kb = k := by simpa [Value.ownBlock] using hk
              have := lt_of_heap hh8
              omega
    have HN : Hid (_ ∧ _ ∧ _ ∧ _ ∧ _) := ⟨x4, y4, o2', bW4, rw4⟩
    clear x2 y2 o2 bW2 z2 x3 y3 o3 b3 x4 y4 o2' bW3 bW4 bW02 rw4
    go_upto_region 3 with (first | (at_builtin; refine wp_append rfl _ _ 27 rfl _ _ _ _ rfl rfl r3 ?_))
    obtain ⟨x4, y4, o4, bW4, rw4⟩ := HN.out
    clear HN c6 r3 s6 sf
    generalize W3.setCell ⟨w.heap.size, 6, none⟩ (.slice ya T.ts.length yc) = W4 at *
    rcases rw4 with ⟨rfl, rfl, hts⟩ | ⟨g, rfl, hg1, hg3, z4, rb4, sz4, ym4, kh4⟩
    · have c6 : W4.cell? ⟨w.heap.size, 6, none⟩ = some (.slice none T.ts.length 0) := Lib.cell_of_heap x4 6
      have HX : Hid (_ ∧ _ ∧ _ ∧ _) := ⟨x4, y4, o4, bW4⟩
      have h0 : T.ts.length = 0 := by rw [hts]; rfl
      clear x4 y4 o4 bW4
      go_wp2_with fail
      go_loopw [3, 4, 16] (fun _ _ i wr => i = .int .i64 0 ∧ Hid (wr = W4)) (fun _ _ _ _ => 0)
      case atStart => exact ⟨rfl, rfl⟩
      case round =>
        obtain ⟨rfl, hw⟩ := hrel
        have hw2 := hw.out
        subst hw2
        obtain ⟨x4, y4, o4, bW4⟩ := HX.out
        clear HX c6 hw
        have g1 : ¬ (0 : Int) < T.ts.length := by omega
        have HTS : Hid (T.ts = []) := hts
        have k0 : wr.cell? ⟨w.heap.size, 0, none⟩ = some (.int .i64 T.x.k) := Lib.cell_of_heap x4 0
        have k1 : wr.cell? ⟨w.heap.size, 1, none⟩ = some (.int .i64 T.x.n) := Lib.cell_of_heap x4 1
        have k2 : wr.cell? ⟨w.heap.size, 2, none⟩ = some (.string T.x.t) := Lib.cell_of_heap x4 2
        have k3 : wr.cell? ⟨w.heap.size, 3, none⟩ = some (.int .i64 T.x.o) := Lib.cell_of_heap x4 3
        have k4 : wr.cell? ⟨w.heap.size, 4, none⟩ = some (.int .i64 T.x.a) := Lib.cell_of_heap x4 4
        have k5 : wr.cell? ⟨w.heap.size, 5, none⟩ = some (.slice xa xn xc) := Lib.cell_of_heap x4 5
        have k6 : wr.cell? ⟨w.heap.size, 6, none⟩ = some (.slice none T.ts.length 0) := Lib.cell_of_heap x4 6
        have z0 : wr.cell? ⟨w.heap.size + 1, 0, none⟩ = some (.int .i64 0) := Lib.cell_of_heap y4 0
        have z1 : wr.cell? ⟨w.heap.size + 1, 1, none⟩ = some (.int .i64 0) := Lib.cell_of_heap y4 1
        have z2 : wr.cell? ⟨w.heap.size + 1, 2, none⟩ = some (.string ⟨#[]⟩) := Lib.cell_of_heap y4 2
        have z3 : wr.cell? ⟨w.heap.size + 1, 3, none⟩ = some (.int .i64 0) := Lib.cell_of_heap y4 3
        have z4 : wr.cell? ⟨w.heap.size + 1, 4, none⟩ = some (.int .i64 0) := Lib.cell_of_heap y4 4
        have z5 : wr.cell? ⟨w.heap.size + 1, 5, none⟩ = some (.slice none 0 0) := Lib.cell_of_heap y4 5
        have z6 : wr.cell? ⟨w.heap.size + 1, 6, none⟩ = some (.slice none 0 0) := Lib.cell_of_heap y4 6
        have zf := Lib.frozen_of_heap y4
        have HFF : Hid (From (w.heap.size + 2) wr (put7 wr (w.heap.size + 1) 0 (T.x, .slice xa xn xc, .slice none T.ts.length 0))) := ⟨(put7_below (Below.refl 0 wr) _ _ _ (Nat.zero_le _)).size, fun k hk _ => put7_other wr _ _ _ k (by omega)⟩
        have HBF : Hid (Below w.heap.size w (put7 wr (w.heap.size + 1) 0 (T.x, .slice xa xn xc, .slice none T.ts.length 0))) := put7_below bW4 _ _ _ (Nat.le_succ _)
        have HHF : Hid ((put7 wr (w.heap.size + 1) 0 (T.x, .slice xa xn xc, .slice none T.ts.length 0)).heap[w.heap.size + 1]? = some _) := set7 y4 (.int .i64 T.x.k) (.int .i64 T.x.n) (.string T.x.t) (.int .i64 T.x.o) (.int .i64 T.x.a) (.slice xa xn xc) (.slice none T.ts.length 0)
        have HO : Hid _ := o4
        have HZW : Hid (w.heap.size + 2 ≤ wr.heap.size) := lt_of_heap y4
        clear x4 y4 o4 bW4 h0 hts
        go_wp2
        clear z0 z1 z2 z3 z4 z5 z6 zf k0 k1 k2 k3 k4 k5 k6
        dsimp only [put7, Nat.zero_add] at HFF HBF HHF
        generalize ((((((wr.setCell ⟨w.heap.size + 1, 0, none⟩ (.int .i64 T.x.k)).setCell ⟨w.heap.size + 1, 1, none⟩ (.int .i64 T.x.n)).setCell ⟨w.heap.size + 1, 2, none⟩ (.string T.x.t)).setCell ⟨w.heap.size + 1, 3, none⟩ (.int .i64 T.x.o)).setCell ⟨w.heap.size + 1, 4, none⟩ (.int .i64 T.x.a)).setCell ⟨w.heap.size + 1, 5, none⟩ (.slice xa xn xc)).setCell ⟨w.heap.size + 1, 6, none⟩ (.slice none T.ts.length 0) = V at *
        obtain ⟨q0, q1, q2, q3, q4, q5, q6⟩ := tboxed (u := (T.x, .slice xa xn xc, .slice none T.ts.length 0)) HHF.out
        dsimp only at q0 q1 q2 q3 q4 q5 q6
        refine bodyPost_ret (v := tval (T.x, .slice xa xn xc, .slice none T.ts.length 0)) (by simp [tval, results, Tryd.results12, go_sem, q0, q1, q2, q3, q4, q5, q6]) rfl ⟨⟨_, rfl, ?_⟩, HBF.out⟩
        exact none_all HO.out HTN.out HTS.out (Nat.le_trans HF.out.1.2.1 (by decide)) HZW.out HFF.out
    · have hxn : xn = T.ks.length := by
        rcases o4.2 with ⟨e, e2⟩ | ⟨_, _, _, e, _⟩
        · rw [e2]; exact (Value.slice.inj e).2.1
        · exact (Value.slice.inj e).2.1
      have C0 : CpI w T us us (.slice xa xn xc) g yc 0 W4.heap.size W4 := ⟨⟨x4, y4, o4, HL.out.1, hg3, hg1, z4, rb4, fun k _ _ _ => rfl, bW4⟩, kh4, sz4, ym4, Nat.le_refl _, ⟨rfl, z4⟩⟩
      have c6 : W4.cell? ⟨w.heap.size, 6, none⟩ = some (.slice (some ⟨g, 0, none⟩) T.ts.length yc) := Lib.cell_of_heap x4 6
      have HC0 : Hid _ := C0
      clear C0 x4 y4 o4 bW4 rb4 z4 hxn sz4 ym4 kh4
      go_wp2_with fail
      go_loopw [3, 4, 16] (fun _ _ i wr => ∃ (j : Nat) (us' : List TV) (m : Nat), j ≤ T.ts.length ∧ i = .int .i64 j ∧ Hid (CpI w T us us' (.slice xa xn xc) g yc j m wr)) (fun _ _ i _ => T.ts.length - (RowKit.intOf i).toNat)
      case atStart => exact ⟨0, us, _, Nat.zero_le _, rfl, HC0⟩
      case round =>
        clear HC0 c6
        obtain ⟨j, us', m, hj, rfl, HC⟩ := hrel
        by_cases hlt : j < T.ts.length
        · have g1 : (j : Int) < T.ts.length := by omega
          have hjl : j < us'.length := by have := HC.out.base.len; omega
          have hju : j < us.length := by have := HL.out.1; omega
          have eu := HC.out.base.rest j hjl hju (Nat.le_refl _)
          have tj := HT.out j hju hlt
          obtain ⟨⟨pk, pn, pt, po, pa⟩, pa1, pn1, pc1, pa2, pn2, pc2, hp⟩ := tj.parts
          have EI := fun (W : World) (hb : Below w.heap.size w W) => HI.out j hju hlt W (HB.out.trans (hb.mono HB.out.size)) (HF.out.2 _ (List.getElem_mem hlt)) (HF.out.1.2.2 _ (List.getElem_mem hlt))
          have RB := HC.out.base.row
          have m0 := RB.cellAt j hjl 0 (by decide)
          have m1 := RB.cellAt j hjl 1 (by decide)
          have m2 := RB.cellAt j hjl 2 (by decide)
          have m3 := RB.cellAt j hjl 3 (by decide)
          have m4 := RB.cellAt j hjl 4 (by decide)
          have m5 := RB.cellAt j hjl 5 (by decide)
          have m6 := RB.cellAt j hjl 6 (by decide)
          rw [eu, hp] at m0 m1 m2 m3 m4 m5 m6
          have m0' : wr.cell? ⟨g, j * 7, none⟩ = some (.int .i64 pk) := m0
          have m1' : wr.cell? ⟨g, j * 7 + 1, none⟩ = some (.int .i64 pn) := m1
          have m2' : wr.cell? ⟨g, j * 7 + 2, none⟩ = some (.string pt) := m2
          have m3' : wr.cell? ⟨g, j * 7 + 3, none⟩ = some (.int .i64 po) := m3
          have m4' : wr.cell? ⟨g, j * 7 + 4, none⟩ = some (.int .i64 pa) := m4
          have m5' : wr.cell? ⟨g, j * 7 + 5, none⟩ = some (.slice pa1 pn1 pc1) := m5
          have m6' : wr.cell? ⟨g, j * 7 + 6, none⟩ = some (.slice pa2 pn2 pc2) := m6
          clear m0 m1 m2 m3 m4 m5 m6
          rw [hp] at EI
          dsimp only [tval] at EI
          have hb0 := (Below.refl wr.heap.size wr).alloc (Nat.le_refl _) (.cells #[.int .i64 pk, .int .i64 pn, .string pt, .int .i64 po, .int .i64 pa, .slice pa1 pn1 pc1, .slice pa2 pn2 pc2] 29)
          have hy : (wr.alloc (.cells #[.int .i64 pk, .int .i64 pn, .string pt, .int .i64 po, .int .i64 pa, .slice pa1 pn1 pc1, .slice pa2 pn2 pc2] 29)).heap[wr.heap.size]? = some _ := (MapKept.heap_alloc wr _).1
          have HC1 : Hid (CpI w T us us' (.slice xa xn xc) g yc j m _) := HC.out.grow hb0
          obtain ⟨n0, n1, n2, n3, n4, n5, n6⟩ := tboxed (u := (⟨pk, pn, pt, po, pa⟩, .slice pa1 pn1 pc1, .slice pa2 pn2 pc2)) hy
          dsimp only at n0 n1 n2 n3 n4 n5 n6
          have hlow := HC.out.base.low
          have hfar := HC.out.base.far
          have HTI : Hid (0 = 0) := rfl
          have HJ : Hid (j < T.ts.length ∧ j < us'.length) := ⟨hlt, hjl⟩
          clear hb0 hy eu tj RB HTI hp hju hj
          go_upto_region 6 with fail
          have hbw := HC1.out.base.below
          have x6 := Lib.cell_of_heap HC1.out.base.x 6
          have hWz : (wr.alloc (.cells #[.int .i64 pk, .int .i64 pn, .string pt, .int .i64 po, .int .i64 pa, .slice pa1 pn1 pc1, .slice pa2 pn2 pc2] 29)).heap.size = wr.heap.size + 1 := by simp
          have RB := HC1.out.base.row
          have hbr := Below.refl (wr.alloc (.cells #[.int .i64 pk, .int .i64 pn, .string pt, .int .i64 po, .int .i64 pa, .slice pa1 pn1 pc1, .slice pa2 pn2 pc2] 29)).heap.size (wr.alloc (.cells #[.int .i64 pk, .int .i64 pn, .string pt, .int .i64 po, .int .i64 pa, .slice pa1 pn1 pc1, .slice pa2 pn2 pc2] 29))
          clear m0' m1' m2' m3' m4' m5' m6'
          generalize wr.alloc (.cells #[.int .i64 pk, .int .i64 pn, .string pt, .int .i64 po, .int .i64 pa, .slice pa1 pn1 pc1, .slice pa2 pn2 pc2] 29) = Wq at *
          have E := EI
          have HM : Hid (m ≤ Wq.heap.size) := HC1.out.mle
          refine wp_region_noPanic ?_
          refine wp_region_held_drew (S := fun W => W.cell? ⟨w.heap.size, 6, none⟩ = some (.slice (some ⟨g, 0, none⟩) T.ts.length yc) ∧ W.cell? ⟨wr.heap.size, 0, none⟩ = some (.int .i64 pk) ∧ W.cell? ⟨wr.heap.size, 1, none⟩ = some (.int .i64 pn) ∧ W.cell? ⟨wr.heap.size, 2, none⟩ = some (.string pt) ∧ W.cell? ⟨wr.heap.size, 3, none⟩ = some (.int .i64 po) ∧ W.cell? ⟨wr.heap.size, 4, none⟩ = some (.int .i64 pa) ∧ W.cell? ⟨wr.heap.size, 5, none⟩ = some (.slice pa1 pn1 pc1) ∧ W.cell? ⟨wr.heap.size, 6, none⟩ = some (.slice pa2 pn2 pc2)) (by kernel_rfl) (⟨x6, n0, n1, n2, n3, n4, n5, n6⟩) (fun hHeld => ?_)
          refine wpAnyH_take (i := 0) (oi := { dst := some 21, op := Op.fieldAddr 29 (Operand.tmp 1) 2, type := 0, pos := "json.go:119", after := #[], guard := none }) (v := ?_) rfl (by kernel_rfl) (by kernel_rfl) (by kernel_rfl) (fun _ _ _ h => h) (Or.inl ⟨by rfl, ?_⟩) (by assumption) ?_
          rotate_left
          · intro wz hSw
            try dsimp only at hSw
            go_simp
            try with_reducible rfl
          try simp only [Act.put, List.setIfInBounds_toArray, List.set_cons_zero, List.set_cons_succ]
          refine wpAnyH_take (i := 1) (oi := { dst := some 22, op := Op.load 27 (Operand.tmp 21), type := 27, pos := "json.go:119", after := #[{ on := 0, ground := Ground.data }], guard := none }) (v := ?_) rfl (by kernel_rfl) (by kernel_rfl) (by kernel_rfl) (fun _ _ _ h => h) (Or.inl ⟨by rfl, ?_⟩) (by assumption) ?_
          rotate_left
          · intro wz hSw
            try dsimp only at hSw
            go_simp
            try with_reducible rfl
          try simp only [Act.put, List.setIfInBounds_toArray, List.set_cons_zero, List.set_cons_succ]
          refine wpAnyH_take (i := 2) (oi := { dst := some 23, op := Op.move (Operand.tmp 3), type := 3, pos := "json.go:119", after := #[], guard := none }) (v := ?_) rfl (by kernel_rfl) (by kernel_rfl) (by kernel_rfl) (fun _ _ _ h => h) (Or.inl ⟨by rfl, ?_⟩) (by assumption) ?_
          rotate_left
          · intro wz hSw
            try dsimp only at hSw
            go_simp
            try with_reducible rfl
          try simp only [Act.put, List.setIfInBounds_toArray, List.set_cons_zero, List.set_cons_succ]
          refine wpAnyH_take (i := 3) (oi := { dst := some 24, op := Op.load 29 (Operand.tmp 4), type := 29, pos := "json.go:119", after := #[], guard := none }) (v := ?_) rfl (by kernel_rfl) (by kernel_rfl) (by kernel_rfl) (fun _ _ _ h => h) (Or.inl ⟨by rfl, ?_⟩) (by assumption) ?_
          rotate_left
          · intro wz hSw
            try dsimp only at hSw
            go_simp
            try with_reducible rfl
          try simp only [Act.put, List.setIfInBounds_toArray, List.set_cons_zero, List.set_cons_succ]
          refine wpAnyH_ready (rs := [4]) (by kernel_rfl) (by simp) (AllReadyH.cons (o := { dst := some 25, op := Op.call { callee := Callee.value (Operand.func 12), args := #[Operand.tmp 24], argTypes := #[29] }, type := 29, pos := "json.go:119", after := #[{ on := 3, ground := Ground.data }], guard := none }) rfl (fun K hK => ?_) AllReadyH.nil)
          go_simp
          go_at_call 12
          refine Calls.mono (E _ (hbw.drew)) ?_
          rintro e w4 ⟨⟨u4, rfl, hT4⟩, b4⟩
          go_wp2_with fail
          refine hK.out _ _ (keep8 (by assumption) b4) (fun hHeld4 => ?_)
          clear hK K
          try simp only [Act.put, List.setIfInBounds_toArray, List.set_cons_zero, List.set_cons_succ]
          obtain ⟨⟨zk, zn, zt, zo, za⟩, za1, zn1, zc1, za2, zn2, zc2, hu4⟩ := hT4.tree.parts
          subst hu4
          have RB4 := RB.below (hbr.drew.trans (b4.mono hbr.drew.size))
          have f0 : w4.cell? ⟨g, j * 7, none⟩ = some (.int .i64 us'[j].1.k) := RB4.cellAt j hjl 0 (by decide)
          have f1 : w4.cell? ⟨g, j * 7 + 1, none⟩ = some (.int .i64 us'[j].1.n) := RB4.cellAt j hjl 1 (by decide)
          have f2 : w4.cell? ⟨g, j * 7 + 2, none⟩ = some (.string us'[j].1.t) := RB4.cellAt j hjl 2 (by decide)
          have f3 : w4.cell? ⟨g, j * 7 + 3, none⟩ = some (.int .i64 us'[j].1.o) := RB4.cellAt j hjl 3 (by decide)
          have f4 : w4.cell? ⟨g, j * 7 + 4, none⟩ = some (.int .i64 us'[j].1.a) := RB4.cellAt j hjl 4 (by decide)
          have f5 : w4.cell? ⟨g, j * 7 + 5, none⟩ = some (us'[j].2.1) := RB4.cellAt j hjl 5 (by decide)
          have f6 : w4.cell? ⟨g, j * 7 + 6, none⟩ = some (us'[j].2.2) := RB4.cellAt j hjl 6 (by decide)
          have ff : ∀ i, w4.frozen? ⟨g, i, none⟩ = false := RB4.frozen
          refine wpAnyH_take (i := 5) (oi := { dst := some 26, op := Op.indexAddr 27 (Operand.tmp 22) (Operand.tmp 23), type := 0, pos := "json.go:119", after := #[{ on := 1, ground := Ground.data }, { on := 2, ground := Ground.data }, { on := 0, ground := Ground.phase }, { on := 1, ground := Ground.phase }, { on := 2, ground := Ground.phase }, { on := 3, ground := Ground.phase }, { on := 4, ground := Ground.phase }], guard := none }) (v := ?_) rfl (by kernel_rfl) (by kernel_rfl) (by kernel_rfl) (fun _ _ _ h => h) (Or.inl ⟨by rfl, ?_⟩) (by assumption) ?_
          rotate_left
          · intro wz hSw
            try dsimp only at hSw
            go_simp
            try with_reducible rfl
          try simp only [Act.put, List.setIfInBounds_toArray, List.set_cons_zero, List.set_cons_succ]
          refine wpAnyH_ready (rs := [6]) (by kernel_rfl) (by simp) (AllReadyH.cons (o := { dst := none, op := Op.store 29 (Operand.tmp 26) (Operand.tmp 25), type := 0, pos := "json.go:119", after := #[{ on := 5, ground := Ground.data }, { on := 4, ground := Ground.data }, { on := 4, ground := Ground.chain }, { on := 0, ground := Ground.phase }, { on := 1, ground := Ground.phase }, { on := 2, ground := Ground.phase }, { on := 3, ground := Ground.phase }, { on := 4, ground := Ground.phase }], guard := none }) rfl (fun K hK => ?_) AllReadyH.nil)
          dsimp only [tval]
          go_simp
          refine hK.out _ _ (keep8o (g := g) (W := w4) (W' := put7 w4 g (j * 7) (⟨zk, zn, zt, zo, za⟩, .slice za1 zn1 zc1, .slice za2 zn2 zc2)) (by assumption) (fun b hb => put7_other w4 g (j * 7) (⟨zk, zn, zt, zo, za⟩, .slice za1 zn1 zc1, .slice za2 zn2 zc2) b hb) ⟨by simp; omega, by simp; omega, by simp; omega, by simp; omega, by simp; omega, by simp; omega, by simp; omega, by simp; omega⟩) (fun hHeld6 => ?_)
          clear hK K
          try simp only [Act.put, List.setIfInBounds_toArray, List.set_cons_zero, List.set_cons_succ]
          refine wpAnyH_done (by kernel_rfl) ?_ _
          refine NoPanic.normal ?_
          have HC2 := HC1.out.grow (hbr.drew.trans (b4.mono hbr.drew.size))
          have HC3 : Hid (CpI w T us (us'.set j (⟨zk, zn, zt, zo, za⟩, .slice za1 zn1 zc1, .slice za2 zn2 zc2)) (.slice xa xn xc) g yc (j + 1) _ (put7 w4 g (j * 7) (⟨zk, zn, zt, zo, za⟩, .slice za1 zn1 zc1, .slice za2 zn2 zc2))) := HC2.put HJ.out.2 _ Wq.heap.size HM.out (fun h' => hT4)
          have g3 : (j : Int) < 8796093022208 := by have := HF.out.1.1; have := HJ.out.1; omega
          clear hHeld hHeld4 hHeld6 HC2 hT4 b4 E EI RB RB4 f0 f1 f2 f3 f4 f5 f6 ff n0 n1 n2 n3 n4 n5 n6 x6 hbw hbr hlow hfar hWz HC1 HC hjl hlt
          go_wp2
          go_roundw
          case rel => exact ⟨j + 1, _, _, HJ.out.1, by go_num, HC3⟩
          case measure => simp [RowKit.intOf]; have := HJ.out.1; omega
        · have hje : j = T.ts.length := by omega
          have g1 : ¬ (j : Int) < T.ts.length := by omega
          have hC := HC.out
          have HCC : Hid (CpI w T us us' (.slice xa xn xc) g yc T.ts.length m wr) := by rw [← hje]; exact hC
          have x4 := hC.base.x
          have y4 := hC.base.y
          have bW4 := hC.base.below
          clear hje hlt hj hC
          have k0 : wr.cell? ⟨w.heap.size, 0, none⟩ = some (.int .i64 T.x.k) := Lib.cell_of_heap x4 0
          have k1 : wr.cell? ⟨w.heap.size, 1, none⟩ = some (.int .i64 T.x.n) := Lib.cell_of_heap x4 1
          have k2 : wr.cell? ⟨w.heap.size, 2, none⟩ = some (.string T.x.t) := Lib.cell_of_heap x4 2
          have k3 : wr.cell? ⟨w.heap.size, 3, none⟩ = some (.int .i64 T.x.o) := Lib.cell_of_heap x4 3
          have k4 : wr.cell? ⟨w.heap.size, 4, none⟩ = some (.int .i64 T.x.a) := Lib.cell_of_heap x4 4
          have k5 : wr.cell? ⟨w.heap.size, 5, none⟩ = some (.slice xa xn xc) := Lib.cell_of_heap x4 5
          have k6 : wr.cell? ⟨w.heap.size, 6, none⟩ = some (.slice (some ⟨g, 0, none⟩) T.ts.length yc) := Lib.cell_of_heap x4 6
          have z0 : wr.cell? ⟨w.heap.size + 1, 0, none⟩ = some (.int .i64 0) := Lib.cell_of_heap y4 0
          have z1 : wr.cell? ⟨w.heap.size + 1, 1, none⟩ = some (.int .i64 0) := Lib.cell_of_heap y4 1
          have z2 : wr.cell? ⟨w.heap.size + 1, 2, none⟩ = some (.string ⟨#[]⟩) := Lib.cell_of_heap y4 2
          have z3 : wr.cell? ⟨w.heap.size + 1, 3, none⟩ = some (.int .i64 0) := Lib.cell_of_heap y4 3
          have z4 : wr.cell? ⟨w.heap.size + 1, 4, none⟩ = some (.int .i64 0) := Lib.cell_of_heap y4 4
          have z5 : wr.cell? ⟨w.heap.size + 1, 5, none⟩ = some (.slice none 0 0) := Lib.cell_of_heap y4 5
          have z6 : wr.cell? ⟨w.heap.size + 1, 6, none⟩ = some (.slice none 0 0) := Lib.cell_of_heap y4 6
          have zf := Lib.frozen_of_heap y4
          have HFF : Hid (From (w.heap.size + 2) wr (put7 wr (w.heap.size + 1) 0 (T.x, .slice xa xn xc, .slice (some ⟨g, 0, none⟩) T.ts.length yc))) := ⟨(put7_below (Below.refl 0 wr) _ _ _ (Nat.zero_le _)).size, fun k hk _ => put7_other wr _ _ _ k (by omega)⟩
          have HBF : Hid (Below w.heap.size w (put7 wr (w.heap.size + 1) 0 (T.x, .slice xa xn xc, .slice (some ⟨g, 0, none⟩) T.ts.length yc))) := put7_below bW4 _ _ _ (Nat.le_succ _)
          have HHF : Hid ((put7 wr (w.heap.size + 1) 0 (T.x, .slice xa xn xc, .slice (some ⟨g, 0, none⟩) T.ts.length yc)).heap[w.heap.size + 1]? = some _) := set7 y4 (.int .i64 T.x.k) (.int .i64 T.x.n) (.string T.x.t) (.int .i64 T.x.o) (.int .i64 T.x.a) (.slice xa xn xc) (.slice (some ⟨g, 0, none⟩) T.ts.length yc)
          clear x4 y4 bW4
          go_wp2
          clear z0 z1 z2 z3 z4 z5 z6 zf k0 k1 k2 k3 k4 k5 k6
          dsimp only [put7, Nat.zero_add] at HFF HBF HHF
          generalize ((((((wr.setCell ⟨w.heap.size + 1, 0, none⟩ (.int .i64 T.x.k)).setCell ⟨w.heap.size + 1, 1, none⟩ (.int .i64 T.x.n)).setCell ⟨w.heap.size + 1, 2, none⟩ (.string T.x.t)).setCell ⟨w.heap.size + 1, 3, none⟩ (.int .i64 T.x.o)).setCell ⟨w.heap.size + 1, 4, none⟩ (.int .i64 T.x.a)).setCell ⟨w.heap.size + 1, 5, none⟩ (.slice xa xn xc)).setCell ⟨w.heap.size + 1, 6, none⟩ (.slice (some ⟨g, 0, none⟩) T.ts.length yc) = V at *
          obtain ⟨q0, q1, q2, q3, q4, q5, q6⟩ := tboxed (u := (T.x, .slice xa xn xc, .slice (some ⟨g, 0, none⟩) T.ts.length yc)) HHF.out
          dsimp only at q0 q1 q2 q3 q4 q5 q6
          refine bodyPost_ret (v := tval (T.x, .slice xa xn xc, .slice (some ⟨g, 0, none⟩) T.ts.length yc)) (by simp [tval, results, Tryd.results12, go_sem, q0, q1, q2, q3, q4, q5, q6]) rfl ⟨⟨_, rfl, ?_⟩, HBF.out⟩
          exact HCC.out.all HTN.out (Nat.le_trans HF.out.1.2.1 (by decide)) (Nat.le_trans HF.out.1.1 (by decide)) HFF.out
end Go.Proofs.YtegbjkjeoegfbaaDoor

namespace Go.Proofs.YtegbjkjeoegfbaaDoor
open Go.RowKit Go.Sort

/-- What Apply answers. -/
def ApplyK (w : World) (T : JT) (L : List Pch) (e : Ending) : Prop :=
  (∃ T' u', e = .returned (.tuple #[tval u', .nilIface]) ∧ chkT T = 0 ∧ DoneK T L T' ∧ IsT w (tval u') T') ∨ (∃ c : Int, e = .returned (.tuple #[zT, .iface 59 (.int .i64 c)]) ∧ ((chkT T ≠ 0 ∧ c = chkT T) ∨ (chkT T = 0 ∧ FailK T L c)))
/-- What holds ahead of each patch. -/
structure Ahead (w : World) (lo : Nat) (T : JT) (L : List Pch) (j : Nat) (Tj : JT) (uj : TV) (Sj : List Nat) (wr : World) : Prop where
  at' : TAt wr w.heap.size 0 uj
  tree : IsTS wr lo Sj uj Tj
  nodup : Sj.Nodup
  formed : formedB Tj = true
  small : Tj.size ≤ 400
  below : Below w.heap.size w wr
  box : wr.heap[w.heap.size + 1]? = some (.cells #[.int .i64 0, .int .i64 0, .string ⟨#[]⟩, .int .i64 0, .int .i64 0, .slice none 0 0, .slice none 0 0] 29)
  own : ∃ cur, wr.heap[w.heap.size]? = some (.cells cur 29)
  low : w.heap.size + 1 < lo ∧ lo ≤ wr.heap.size
  done : ∀ T', DoneK Tj (L.drop j) T' → DoneK T L T'
  fail : ∀ c, FailK Tj (L.drop j) c → FailK T L c

set_option maxRecDepth 100000 in
set_option maxHeartbeats 8000000 in
theorem applyAll_any {v p : Value} {T : JT} {L : List Pch} (w : World) (h : IsT w v T) (hp : IsPats w p L) :
    Calls Tryd.prog 5 #[v, p] w fun e w' => ApplyK w' T L e ∧ Below w.heap.size w w' := by
  obtain ⟨u, rfl⟩ := h.of_val
  obtain ⟨N⟩ := h.node
  obtain ⟨a1, c1, a2, c2, us, hu, -, -, -, -, -, -⟩ := N
  subst hu
  obtain ⟨qa, qc, rfl, hq1, hq2, hq3⟩ := hp
  have HQ : Hid (L ≠ [] → ∃ b off, qa = some ⟨b, off, none⟩ ∧ b < w.heap.size ∧ ∀ i (h : i < L.length), ∃ p, IsSteps w p L[i].2.1 ∧ ∀ j, j < 7 → w.cell? ⟨b, off + i * 7 + j, none⟩ = (pcells L[i] p)[j]?) := hq3
  have HQZ : Hid (L.length ≤ qc ∧ L.length ≤ 8796093022208) := ⟨hq1, hq2⟩
  obtain ⟨x0, y0, b0⟩ := two_boxes w (.cells #[.int .i64 T.x.k, .int .i64 T.x.n, .string T.x.t, .int .i64 T.x.o, .int .i64 T.x.a, .slice a1 T.ks.length c1, .slice a2 T.ts.length c2] 29) (.cells #[.int .i64 0, .int .i64 0, .string ⟨#[]⟩, .int .i64 0, .int .i64 0, .slice none 0 0, .slice none 0 0] 29)
  have E1 := checkT_any _ (h.stay b0)
  have HT : Hid (IsT w (tval (T.x, .slice a1 T.ks.length c1, .slice a2 T.ts.length c2)) T) := h
  have HZ : Hid (chkT T = 0 → formedB T = true ∧ T.size ≤ 400) := chkT_zero
  have HX : Hid (_ = some (Obj.cells #[.int .i64 T.x.k, .int .i64 T.x.n, .string T.x.t, .int .i64 T.x.o, .int .i64 T.x.a, .slice a1 T.ks.length c1, .slice a2 T.ts.length c2] 29)) := x0
  have HY : Hid (_ = some (Obj.cells #[.int .i64 0, .int .i64 0, .string ⟨#[]⟩, .int .i64 0, .int .i64 0, .slice none 0 0, .slice none 0 0] 29)) := y0
  have HB : Hid (Below w.heap.size w _) := b0
  obtain ⟨post, hpost⟩ : ∃ post, post = fun (e : Ending) (w' : World) => ApplyK w' T L e ∧ Below w.heap.size w w' := ⟨_, rfl⟩
  rw [← hpost]
  have HPO : Hid (post = fun (e : Ending) (w' : World) => ApplyK w' T L e ∧ Below w.heap.size w w') := hpost
  clear h hq1 hq2 hq3 x0 y0 b0 hpost
  obtain ⟨pn, hpn⟩ : ∃ pn, pn = L.length := ⟨_, rfl⟩
  have HPN : Hid (pn = L.length) := hpn
  rw [← hpn]
  clear hpn
  unfold tval at E1 ⊢
  dsimp only at E1 ⊢
  by_cases hc : chkT T = 0
  · rw [if_pos hc] at E1
    have HC : Hid (chkT T = 0) := hc
    clear hc
    go_enter Tryd.func5, Tryd.ntmps5
    go_wp2_with fail
    go_fit E1
    rintro e w1 ⟨rfl, b1⟩
    have HX1 : Hid (w1.heap[w.heap.size]? = some _) := (b1.block _ (lt_of_heap HX.out)).trans HX.out
    have HY1 : Hid (w1.heap[w.heap.size + 1]? = some _) := (b1.block _ (lt_of_heap HY.out)).trans HY.out
    have HB1 : Hid (Below w.heap.size w w1) := HB.out.trans (b1.mono HB.out.size)
    clear b1 E1 HX HY HB
    have E2 := copyI_any (HT.out.stay HB1.out) w1 (Below.refl _ _) (HZ.out HC.out).1 (HZ.out HC.out).2
    unfold tval at E2
    dsimp only at E2
    have x0 : w1.cell? ⟨w.heap.size, 0, none⟩ = some (.int .i64 T.x.k) := Lib.cell_of_heap HX1.out 0
    have x1 : w1.cell? ⟨w.heap.size, 1, none⟩ = some (.int .i64 T.x.n) := Lib.cell_of_heap HX1.out 1
    have x2 : w1.cell? ⟨w.heap.size, 2, none⟩ = some (.string T.x.t) := Lib.cell_of_heap HX1.out 2
    have x3 : w1.cell? ⟨w.heap.size, 3, none⟩ = some (.int .i64 T.x.o) := Lib.cell_of_heap HX1.out 3
    have x4 : w1.cell? ⟨w.heap.size, 4, none⟩ = some (.int .i64 T.x.a) := Lib.cell_of_heap HX1.out 4
    have x5 : w1.cell? ⟨w.heap.size, 5, none⟩ = some (.slice a1 T.ks.length c1) := Lib.cell_of_heap HX1.out 5
    have x6 : w1.cell? ⟨w.heap.size, 6, none⟩ = some (.slice a2 T.ts.length c2) := Lib.cell_of_heap HX1.out 6
    go_wp2_with fail
    go_fit E2
    rintro e w2 ⟨⟨u, rfl, hI⟩, b2⟩
    have HX2 : Hid (w2.heap[w.heap.size]? = some _) := (b2.block _ (lt_of_heap HX1.out)).trans HX1.out
    have HY2 : Hid (w2.heap[w.heap.size + 1]? = some _) := (b2.block _ (lt_of_heap HY1.out)).trans HY1.out
    have HB2 : Hid (Below w.heap.size w w2) := HB1.out.trans (b2.mono HB1.out.size)
    have HLO : Hid (w.heap.size + 1 < w1.heap.size) := lt_of_heap HY1.out
    have HHI : Hid (w1.heap.size ≤ w2.heap.size) := b2.size
    clear b2 E2 HX1 HY1 HB1 x0 x1 x2 x3 x4 x5 x6
    generalize w1.heap.size = lo at *
    obtain ⟨⟨uk, un, ut, uo, ua⟩, i1, j1, l1, i2, j2, l2, hu⟩ := hI.tree.parts
    subst hu
    have HI : Hid (IsTI w2 lo w2.heap.size (⟨uk, un, ut, uo, ua⟩, .slice i1 j1 l1, .slice i2 j2 l2) T) := hI
    clear hI
    have x0 : w2.cell? ⟨w.heap.size, 0, none⟩ = some (.int .i64 T.x.k) := Lib.cell_of_heap HX2.out 0
    have x1 : w2.cell? ⟨w.heap.size, 1, none⟩ = some (.int .i64 T.x.n) := Lib.cell_of_heap HX2.out 1
    have x2 : w2.cell? ⟨w.heap.size, 2, none⟩ = some (.string T.x.t) := Lib.cell_of_heap HX2.out 2
    have x3 : w2.cell? ⟨w.heap.size, 3, none⟩ = some (.int .i64 T.x.o) := Lib.cell_of_heap HX2.out 3
    have x4 : w2.cell? ⟨w.heap.size, 4, none⟩ = some (.int .i64 T.x.a) := Lib.cell_of_heap HX2.out 4
    have x5 : w2.cell? ⟨w.heap.size, 5, none⟩ = some (.slice a1 T.ks.length c1) := Lib.cell_of_heap HX2.out 5
    have x6 : w2.cell? ⟨w.heap.size, 6, none⟩ = some (.slice a2 T.ts.length c2) := Lib.cell_of_heap HX2.out 6
    have zf := Lib.frozen_of_heap HX2.out
    have hlo := HLO.out
    have HX3 : Hid (_ = some _) := set7 HX2.out (.int .i64 uk) (.int .i64 un) (.string ut) (.int .i64 uo) (.int .i64 ua) (.slice i1 j1 l1) (.slice i2 j2 l2)
    have HY3 : Hid (_ = some _) := set7_other HY2.out (show w.heap.size + 1 ≠ w.heap.size by omega) (.int .i64 uk) (.int .i64 un) (.string ut) (.int .i64 uo) (.int .i64 ua) (.slice i1 j1 l1) (.slice i2 j2 l2)
    have HB3 : Hid (Below w.heap.size w _) := set7_below HB2.out (Nat.le_refl w.heap.size) (.int .i64 uk) (.int .i64 un) (.string ut) (.int .i64 uo) (.int .i64 ua) (.slice i1 j1 l1) (.slice i2 j2 l2)
    have HI3 : Hid (IsTI (put7 w2 w.heap.size 0 (⟨uk, un, ut, uo, ua⟩, .slice i1 j1 l1, .slice i2 j2 l2)) lo w2.heap.size (⟨uk, un, ut, uo, ua⟩, .slice i1 j1 l1, .slice i2 j2 l2) T) := HI.out.keep (fun k k1 _ => put7_other w2 _ _ _ k (by omega))
    have HS3 : Hid (w2.heap.size ≤ (put7 w2 w.heap.size 0 (⟨uk, un, ut, uo, ua⟩, .slice i1 j1 l1, .slice i2 j2 l2)).heap.size) := (put7_below (Below.refl 0 w2) _ _ _ (Nat.zero_le _)).size
    clear HX2 HY2 HB2 HI hlo
    dsimp only [put7, Nat.zero_add] at HI3 HS3
    dsimp only [tval]
    go_upto_region 5 with fail
    clear x0 x1 x2 x3 x4 x5 x6 zf
    generalize ((((((w2.setCell ⟨w.heap.size, 0, none⟩ (.int .i64 uk)).setCell ⟨w.heap.size, 1, none⟩ (.int .i64 un)).setCell ⟨w.heap.size, 2, none⟩ (.string ut)).setCell ⟨w.heap.size, 3, none⟩ (.int .i64 uo)).setCell ⟨w.heap.size, 4, none⟩ (.int .i64 ua)).setCell ⟨w.heap.size, 5, none⟩ (.slice i1 j1 l1)).setCell ⟨w.heap.size, 6, none⟩ (.slice i2 j2 l2) = W3 at *
    have HR : Hid (∃ S, Ahead w lo T L 0 T (⟨uk, un, ut, uo, ua⟩, .slice i1 j1 l1, .slice i2 j2 l2) S W3) := by
      obtain ⟨S, h1, h2, h3⟩ := HI3.out.blocks (Nat.le_refl lo)
      exact ⟨S, ⟨⟨lt_of_heap HX3.out, by have := tboxed (u := (⟨uk, un, ut, uo, ua⟩, .slice i1 j1 l1, .slice i2 j2 l2)) HX3.out; simpa using this⟩, h1, h2, (HZ.out HC.out).1, (HZ.out HC.out).2, HB3.out, HY3.out, ⟨_, HX3.out⟩, ⟨HLO.out, Nat.le_trans HHI.out HS3.out⟩, fun _ h => h, fun _ h => h⟩⟩
    clear HX3 HY3 HB3 HI3 HS3 HHI HLO
    go_wp2_with fail
    go_loopw [8, 9, 20] (fun _ _ i wr => ∃ (j : Nat) (Tj : JT) (uj : TV) (Sj : List Nat), j ≤ pn ∧ i = .int .i64 j ∧ Hid (Ahead w lo T L j Tj uj Sj wr)) (fun _ _ i _ => pn - (RowKit.intOf i).toNat)
    case atStart =>
      obtain ⟨S, hS⟩ := HR.out
      exact ⟨0, T, _, S, Nat.zero_le _, rfl, hS⟩
    case round =>
      clear HR
      obtain ⟨j, Tj, uj, Sj, hj, rfl, HA⟩ := hrel
      by_cases hlt : j < pn
      · have g1 : (j : Int) < pn := by omega
        have hjL : j < L.length := by have := HPN.out; omega
        have hL : L ≠ [] := fun e => by rw [e] at hjL; simp at hjL
        obtain ⟨qb, qo, rfl, hqb, hmem⟩ := HQ.out hL
        obtain ⟨pp, hsteps, hcells⟩ := hmem j hjL
        obtain ⟨pa, pl, pc, rfl⟩ : ∃ pa pl pc, pp = .slice pa pl pc := by obtain ⟨a, c, e, _⟩ := hsteps; exact ⟨_, _, _, e⟩
        have hbel := HA.out.below
        have hcw : ∀ d, wr.cell? ⟨qb, d, none⟩ = w.cell? ⟨qb, d, none⟩ := fun d => hbel.cell (p := ⟨qb, d, none⟩) hqb
        have HJL : Hid (j < L.length) := hjL
        obtain ⟨q, hq⟩ : ∃ q, L[j]'hjL = q := ⟨_, rfl⟩
        have HQJ : Hid (L[j]'HJL.out = q) := hq
        rw [hq] at hcells hsteps
        have HSTEP : Hid (IsSteps w (.slice pa pl pc) q.2.1) := hsteps
        clear hq
        obtain ⟨pk, l, yk, yn, yt, yo, ya⟩ := q
        have q0 : wr.cell? ⟨qb, qo + j * 7, none⟩ = some (.int .i64 pk) := (hcw _).trans (hcells 0 (by decide))
        have q1 : wr.cell? ⟨qb, qo + j * 7 + 1, none⟩ = some (.slice pa pl pc) := (hcw _).trans (hcells 1 (by decide))
        have q2 : wr.cell? ⟨qb, qo + j * 7 + 2, none⟩ = some (.int .i64 yk) := (hcw _).trans (hcells 2 (by decide))
        have q3 : wr.cell? ⟨qb, qo + j * 7 + 3, none⟩ = some (.int .i64 yn) := (hcw _).trans (hcells 3 (by decide))
        have q4 : wr.cell? ⟨qb, qo + j * 7 + 4, none⟩ = some (.string yt) := (hcw _).trans (hcells 4 (by decide))
        have q5 : wr.cell? ⟨qb, qo + j * 7 + 5, none⟩ = some (.int .i64 yo) := (hcw _).trans (hcells 5 (by decide))
        have q6 : wr.cell? ⟨qb, qo + j * 7 + 6, none⟩ = some (.int .i64 ya) := (hcw _).trans (hcells 6 (by decide))
        clear hcells hcw hmem hsteps
        have c3 := (Below.refl wr.heap.size wr).alloc (Nat.le_refl _) (.cells #[.int .i64 pk, .slice pa pl pc, .int .i64 yk, .int .i64 yn, .string yt, .int .i64 yo, .int .i64 ya] 43)
        have hlow := HA.out.low
        have hbw : w.heap.size < wr.heap.size := HA.out.at'.1
        have hbS : w.heap.size ∉ Sj := fun h9 => by have := (HA.out.tree.low _ h9).1; omega
        have E3 := applyK_any (o0 := 0) pk ⟨yk, yn, yt, yo, ya⟩ (wr.alloc (.cells #[.int .i64 pk, .slice pa pl pc, .int .i64 yk, .int .i64 yn, .string yt, .int .i64 yo, .int .i64 ya] 43)) HSTEP.out (hbel.trans (c3.mono hbel.size)) (HA.out.at'.below c3) (HA.out.tree.keep (fun k k2 => c3.block k (HA.out.tree.low k k2).2)) HA.out.nodup HA.out.formed HA.out.small hbS (by have := c3.size; omega) (fun d => by
          obtain ⟨cur, hcur⟩ := HA.out.own
          exact Lib.frozen_of_heap ((c3.block _ (lt_of_heap hcur)).trans hcur) d) (by omega) (Nat.le_refl _)
        have HC3 : Hid (Below wr.heap.size wr (wr.alloc (.cells #[.int .i64 pk, .slice pa pl pc, .int .i64 yk, .int .i64 yn, .string yt, .int .i64 yo, .int .i64 ya] 43))) := c3
        have HLT : Hid (j < pn) := hlt
        clear c3 hlow hbw hbS hbel hqb HSTEP hjL hL hlt hj
        dsimp only [pchK] at E3
        go_wp2_with fail
        go_fit E3
        rintro e w4 hA
        clear E3 q0 q1 q2 q3 q4 q5 q6
        generalize wr.alloc (.cells #[.int .i64 pk, .slice pa pl pc, .int .i64 yk, .int .i64 yn, .string yt, .int .i64 yo, .int .i64 ya] 43) = W5 at *
        have HW4 : Hid (TurnS w.heap.size 0 Sj W5 w4) := by
          rcases hA with ⟨_, _, _, _, _, _, _, hT, _⟩ | ⟨_, _, _, hT⟩ <;> exact hT
        have hz5 := HC3.out.size
        have hz4 := HW4.out.size
        have hbx := lt_of_heap HA.out.box
        have hlow := HA.out.low
        have hSlow : ∀ k ∈ Sj, lo ≤ k := fun k hk => (HA.out.tree.low k hk).1
        have HY5 : Hid (w4.heap[w.heap.size + 1]? = some (.cells #[.int .i64 0, .int .i64 0, .string ⟨#[]⟩, .int .i64 0, .int .i64 0, .slice none 0 0, .slice none 0 0] 29)) := (HW4.out.block _ (by omega) (fun h9 => by have := hSlow _ h9; omega) (by omega)).trans ((HC3.out.block _ hbx).trans HA.out.box)
        have HB5 : Hid (Below w.heap.size w w4) := by
          have hb9 := HA.out.below
          exact ⟨HW4.out.os.trans (HC3.out.os.trans hb9.os), HW4.out.tape.trans (HC3.out.tape.trans hb9.tape), HW4.out.output.trans (HC3.out.output.trans hb9.output), by omega, fun k hk => (HW4.out.block k (by omega) (fun h9 => by have := hSlow _ h9; omega) (by omega)).trans ((HC3.out.block k (by omega)).trans (hb9.block k hk))⟩
        rcases hA with ⟨T', u', S', rfl, hpat, hU, hz, hTn, hAt, hIS, hN, hX⟩ | ⟨c, rfl, hno, _⟩
        · have HN : Hid (Ahead w lo T L (j + 1) T' u' S' w4) := by
            have hst := done_snoc HJL.out (Tj := Tj) (T1 := T') (by rw [HQJ.out]; exact hpat) (by rw [HQJ.out]; exact hU) hz
            refine ⟨hAt, hIS, hN, updk_formed (pat_parts hpat).2.1 _ _ _ hU HA.out.formed (pat_parts hpat).2.2, hz, HB5.out, HY5.out, ?_, ⟨by omega, by omega⟩, fun T2 h9 => HA.out.done _ (hst.1 _ h9), fun c h9 => HA.out.fail _ (hst.2 _ h9)⟩
            obtain ⟨cur, hcur⟩ := HA.out.own
            obtain ⟨cur', h8, _⟩ := hTn.shape _ _ ((HC3.out.block _ (lt_of_heap hcur)).trans hcur)
            exact ⟨cur', h8⟩
          have hlt := HLT.out
          have hsm : (j : Int) + 1 ≤ 8796093022208 := by have := HPN.out; have := HQZ.out.2; omega
          clear hpat hU hz hTn hAt hIS hN hX hz5 hz4 hbx hlow hSlow HW4 HB5 HY5
          go_wp2_with fail
          go_roundw
          case rel => exact ⟨j + 1, T', u', S', by omega, by go_num, HN⟩
          case measure => simp [intOf]; omega
        · have HNO : Hid (FailK T L c) := HA.out.fail _ (fail_here HJL.out (by rw [HQJ.out]; exact hno))
          clear hno hz5 hz4 hbx hlow hSlow HW4
          have z0 : w4.cell? ⟨w.heap.size + 1, 0, none⟩ = some (.int .i64 0) := Lib.cell_of_heap HY5.out 0
          have z1 : w4.cell? ⟨w.heap.size + 1, 1, none⟩ = some (.int .i64 0) := Lib.cell_of_heap HY5.out 1
          have z2 : w4.cell? ⟨w.heap.size + 1, 2, none⟩ = some (.string ⟨#[]⟩) := Lib.cell_of_heap HY5.out 2
          have z3 : w4.cell? ⟨w.heap.size + 1, 3, none⟩ = some (.int .i64 0) := Lib.cell_of_heap HY5.out 3
          have z4 : w4.cell? ⟨w.heap.size + 1, 4, none⟩ = some (.int .i64 0) := Lib.cell_of_heap HY5.out 4
          have z5 : w4.cell? ⟨w.heap.size + 1, 5, none⟩ = some (.slice none 0 0) := Lib.cell_of_heap HY5.out 5
          have z6 : w4.cell? ⟨w.heap.size + 1, 6, none⟩ = some (.slice none 0 0) := Lib.cell_of_heap HY5.out 6
          have zf := Lib.frozen_of_heap HY5.out
          have HBF : Hid (Below w.heap.size w _) := set7_below HB5.out (Nat.le_succ w.heap.size) (.int .i64 0) (.int .i64 0) (.string ⟨#[]⟩) (.int .i64 0) (.int .i64 0) (.slice none 0 0) (.slice none 0 0)
          have HHF : Hid (_ = some _) := set7 HY5.out (.int .i64 0) (.int .i64 0) (.string ⟨#[]⟩) (.int .i64 0) (.int .i64 0) (.slice none 0 0) (.slice none 0 0)
          go_wp2
          clear z0 z1 z2 z3 z4 z5 z6 zf
          generalize ((((((w4.setCell ⟨w.heap.size + 1, 0, none⟩ (.int .i64 0)).setCell ⟨w.heap.size + 1, 1, none⟩ (.int .i64 0)).setCell ⟨w.heap.size + 1, 2, none⟩ (.string ⟨#[]⟩)).setCell ⟨w.heap.size + 1, 3, none⟩ (.int .i64 0)).setCell ⟨w.heap.size + 1, 4, none⟩ (.int .i64 0)).setCell ⟨w.heap.size + 1, 5, none⟩ (.slice none 0 0)).setCell ⟨w.heap.size + 1, 6, none⟩ (.slice none 0 0) = VV at *
          obtain ⟨q0, q1, q2, q3, q4, q5, q6⟩ := tboxed (u := (⟨0, 0, ⟨#[]⟩, 0, 0⟩, .slice none 0 0, .slice none 0 0)) HHF.out
          dsimp only at q0 q1 q2 q3 q4 q5 q6
          refine bodyPost_ret (v := .tuple #[zT, .iface 59 (.int .i64 c)]) (by simp [results, Tryd.results5, go_sem, q0, q1, q2, q3, q4, q5, q6]) rfl ?_
          rw [HPO.out]
          exact ⟨Or.inr ⟨c, rfl, Or.inr ⟨HC.out, HNO.out⟩⟩, HBF.out⟩
      · have hjn : j = pn := by omega
        subst hjn
        obtain ⟨-, k0, k1, k2, k3, k4, k5, k6⟩ := HA.out.at'
        obtain ⟨⟨rk, rn, rt, ro, ra⟩, r1, s1, t1, r2, s2, t2, hu⟩ := HA.out.tree.high.tree.parts
        subst hu
        dsimp only at k0 k1 k2 k3 k4 k5 k6
        simp only [Nat.zero_add] at k0 k1 k2 k3 k4 k5 k6
        have HY5 : Hid (wr.heap[w.heap.size + 1]? = some (.cells #[.int .i64 0, .int .i64 0, .string ⟨#[]⟩, .int .i64 0, .int .i64 0, .slice none 0 0, .slice none 0 0] 29)) := HA.out.box
        have z0 : wr.cell? ⟨w.heap.size + 1, 0, none⟩ = some (.int .i64 0) := Lib.cell_of_heap HY5.out 0
        have z1 : wr.cell? ⟨w.heap.size + 1, 1, none⟩ = some (.int .i64 0) := Lib.cell_of_heap HY5.out 1
        have z2 : wr.cell? ⟨w.heap.size + 1, 2, none⟩ = some (.string ⟨#[]⟩) := Lib.cell_of_heap HY5.out 2
        have z3 : wr.cell? ⟨w.heap.size + 1, 3, none⟩ = some (.int .i64 0) := Lib.cell_of_heap HY5.out 3
        have z4 : wr.cell? ⟨w.heap.size + 1, 4, none⟩ = some (.int .i64 0) := Lib.cell_of_heap HY5.out 4
        have z5 : wr.cell? ⟨w.heap.size + 1, 5, none⟩ = some (.slice none 0 0) := Lib.cell_of_heap HY5.out 5
        have z6 : wr.cell? ⟨w.heap.size + 1, 6, none⟩ = some (.slice none 0 0) := Lib.cell_of_heap HY5.out 6
        have zf := Lib.frozen_of_heap HY5.out
        have HFF : Hid (From lo wr (put7 wr (w.heap.size + 1) 0 (⟨rk, rn, rt, ro, ra⟩, .slice r1 s1 t1, .slice r2 s2 t2))) := ⟨(put7_below (Below.refl 0 wr) _ _ _ (Nat.zero_le _)).size, fun k hk _ => put7_other wr _ _ _ k (by have := HA.out.low.1; omega)⟩
        have HBF : Hid (Below w.heap.size w (put7 wr (w.heap.size + 1) 0 (⟨rk, rn, rt, ro, ra⟩, .slice r1 s1 t1, .slice r2 s2 t2))) := put7_below HA.out.below _ _ _ (Nat.le_succ _)
        have HHF : Hid ((put7 wr (w.heap.size + 1) 0 (⟨rk, rn, rt, ro, ra⟩, .slice r1 s1 t1, .slice r2 s2 t2)).heap[w.heap.size + 1]? = some _) := set7 HY5.out (.int .i64 rk) (.int .i64 rn) (.string rt) (.int .i64 ro) (.int .i64 ra) (.slice r1 s1 t1) (.slice r2 s2 t2)
        have HDN : Hid (DoneK T L Tj) := HA.out.done _ (by rw [List.drop_eq_nil_of_le (by have := HPN.out; omega)]; exact rfl)
        have HTR : Hid (IsTH lo wr (tval (⟨rk, rn, rt, ro, ra⟩, .slice r1 s1 t1, .slice r2 s2 t2)) Tj) := HA.out.tree.high
        clear hlt hj HA
        go_wp2
        clear z0 z1 z2 z3 z4 z5 z6 zf k0 k1 k2 k3 k4 k5 k6
        dsimp only [put7, Nat.zero_add] at HFF HBF HHF
        generalize ((((((wr.setCell ⟨w.heap.size + 1, 0, none⟩ (.int .i64 rk)).setCell ⟨w.heap.size + 1, 1, none⟩ (.int .i64 rn)).setCell ⟨w.heap.size + 1, 2, none⟩ (.string rt)).setCell ⟨w.heap.size + 1, 3, none⟩ (.int .i64 ro)).setCell ⟨w.heap.size + 1, 4, none⟩ (.int .i64 ra)).setCell ⟨w.heap.size + 1, 5, none⟩ (.slice r1 s1 t1)).setCell ⟨w.heap.size + 1, 6, none⟩ (.slice r2 s2 t2) = VV at *
        obtain ⟨q0, q1, q2, q3, q4, q5, q6⟩ := tboxed (u := (⟨rk, rn, rt, ro, ra⟩, .slice r1 s1 t1, .slice r2 s2 t2)) HHF.out
        dsimp only at q0 q1 q2 q3 q4 q5 q6
        refine bodyPost_ret (v := .tuple #[tval (⟨rk, rn, rt, ro, ra⟩, .slice r1 s1 t1, .slice r2 s2 t2), .nilIface]) (by simp [tval, results, Tryd.results5, go_sem, q0, q1, q2, q3, q4, q5, q6]) rfl ?_
        rw [HPO.out]
        exact ⟨Or.inl ⟨Tj, _, rfl, HC.out, HDN.out, (HTR.out.keep HFF.out).tree⟩, HBF.out⟩
  · rw [if_neg hc] at E1
    have HRE : Hid (chkT T ≠ 0) := hc
    clear hc HZ
    obtain ⟨ct, hct⟩ : ∃ ct, chkT T = ct := ⟨_, rfl⟩
    rw [hct] at E1
    have HCT : Hid (chkT T = ct) := hct
    clear hct
    go_enter Tryd.func5, Tryd.ntmps5
    go_wp2_with fail
    go_fit E1
    rintro e w2 ⟨rfl, b1⟩
    have HY2 : Hid (w2.heap[w.heap.size + 1]? = some (.cells #[.int .i64 0, .int .i64 0, .string ⟨#[]⟩, .int .i64 0, .int .i64 0, .slice none 0 0, .slice none 0 0] 29)) := (b1.block _ (lt_of_heap HY.out)).trans HY.out
    have HB2 : Hid (Below w.heap.size w w2) := HB.out.trans (b1.mono HB.out.size)
    clear b1 E1 HX HY HB
    have z0 : w2.cell? ⟨w.heap.size + 1, 0, none⟩ = some (.int .i64 0) := Lib.cell_of_heap HY2.out 0
    have z1 : w2.cell? ⟨w.heap.size + 1, 1, none⟩ = some (.int .i64 0) := Lib.cell_of_heap HY2.out 1
    have z2 : w2.cell? ⟨w.heap.size + 1, 2, none⟩ = some (.string ⟨#[]⟩) := Lib.cell_of_heap HY2.out 2
    have z3 : w2.cell? ⟨w.heap.size + 1, 3, none⟩ = some (.int .i64 0) := Lib.cell_of_heap HY2.out 3
    have z4 : w2.cell? ⟨w.heap.size + 1, 4, none⟩ = some (.int .i64 0) := Lib.cell_of_heap HY2.out 4
    have z5 : w2.cell? ⟨w.heap.size + 1, 5, none⟩ = some (.slice none 0 0) := Lib.cell_of_heap HY2.out 5
    have z6 : w2.cell? ⟨w.heap.size + 1, 6, none⟩ = some (.slice none 0 0) := Lib.cell_of_heap HY2.out 6
    have zf := Lib.frozen_of_heap HY2.out
    have HBF : Hid (Below w.heap.size w _) := set7_below HB2.out (Nat.le_succ w.heap.size) (.int .i64 0) (.int .i64 0) (.string ⟨#[]⟩) (.int .i64 0) (.int .i64 0) (.slice none 0 0) (.slice none 0 0)
    have HHF : Hid (_ = some _) := set7 HY2.out (.int .i64 0) (.int .i64 0) (.string ⟨#[]⟩) (.int .i64 0) (.int .i64 0) (.slice none 0 0) (.slice none 0 0)
    go_wp2
    clear z0 z1 z2 z3 z4 z5 z6 zf
    generalize ((((((w2.setCell ⟨w.heap.size + 1, 0, none⟩ (.int .i64 0)).setCell ⟨w.heap.size + 1, 1, none⟩ (.int .i64 0)).setCell ⟨w.heap.size + 1, 2, none⟩ (.string ⟨#[]⟩)).setCell ⟨w.heap.size + 1, 3, none⟩ (.int .i64 0)).setCell ⟨w.heap.size + 1, 4, none⟩ (.int .i64 0)).setCell ⟨w.heap.size + 1, 5, none⟩ (.slice none 0 0)).setCell ⟨w.heap.size + 1, 6, none⟩ (.slice none 0 0) = VV at *
    obtain ⟨q0, q1, q2, q3, q4, q5, q6⟩ := tboxed (u := (⟨0, 0, ⟨#[]⟩, 0, 0⟩, .slice none 0 0, .slice none 0 0)) HHF.out
    dsimp only at q0 q1 q2 q3 q4 q5 q6
    refine bodyPost_ret (v := .tuple #[zT, .iface 59 (.int .i64 ct)]) (by simp [results, Tryd.results5, go_sem, q0, q1, q2, q3, q4, q5, q6]) rfl ?_
    rw [HPO.out]
    exact ⟨Or.inr ⟨ct, rfl, Or.inl ⟨HRE.out, HCT.out.symm⟩⟩, HBF.out⟩
end Go.Proofs.YtegbjkjeoegfbaaDoor
