/-
  What is proved: the function copyOf of package json, called with a tree that lies in memory, answers the same tree, with rows of its own.
  Conditions: the tree lies in memory, is one, and has at most 400 trees in it.
-/
import Derived.Test.YtnoikdlofkcgaaaGreatDoorG08
namespace Go.Proofs.YtnoikdlofkcgaaaGreatDoor
open Go.RowKit Go.Sort

theorem keep8 {W W' : World} {p0 p1 p2 p3 p4 p5 p6 p7 : Addr} {v0 v1 v2 v3 v4 v5 v6 v7 : Value} (h : W.cell? p0 = some v0 ∧ W.cell? p1 = some v1 ∧ W.cell? p2 = some v2 ∧ W.cell? p3 = some v3 ∧ W.cell? p4 = some v4 ∧ W.cell? p5 = some v5 ∧ W.cell? p6 = some v6 ∧ W.cell? p7 = some v7) (hb : Below W.heap.size W W') : W'.cell? p0 = some v0 ∧ W'.cell? p1 = some v1 ∧ W'.cell? p2 = some v2 ∧ W'.cell? p3 = some v3 ∧ W'.cell? p4 = some v4 ∧ W'.cell? p5 = some v5 ∧ W'.cell? p6 = some v6 ∧ W'.cell? p7 = some v7 := by
  obtain ⟨h0, h1, h2, h3, h4, h5, h6, h7⟩ := h
  exact ⟨(hb.cell (cell_in h0)).trans h0, (hb.cell (cell_in h1)).trans h1, (hb.cell (cell_in h2)).trans h2, (hb.cell (cell_in h3)).trans h3, (hb.cell (cell_in h4)).trans h4, (hb.cell (cell_in h5)).trans h5, (hb.cell (cell_in h6)).trans h6, (hb.cell (cell_in h7)).trans h7⟩
theorem keep8o {W W' : World} {g : Nat} {p0 p1 p2 p3 p4 p5 p6 p7 : Addr} {v0 v1 v2 v3 v4 v5 v6 v7 : Value} (h : W.cell? p0 = some v0 ∧ W.cell? p1 = some v1 ∧ W.cell? p2 = some v2 ∧ W.cell? p3 = some v3 ∧ W.cell? p4 = some v4 ∧ W.cell? p5 = some v5 ∧ W.cell? p6 = some v6 ∧ W.cell? p7 = some v7) (hb : ∀ b, b ≠ g → W'.heap[b]? = W.heap[b]?) (hne : p0.block ≠ g ∧ p1.block ≠ g ∧ p2.block ≠ g ∧ p3.block ≠ g ∧ p4.block ≠ g ∧ p5.block ≠ g ∧ p6.block ≠ g ∧ p7.block ≠ g) : W'.cell? p0 = some v0 ∧ W'.cell? p1 = some v1 ∧ W'.cell? p2 = some v2 ∧ W'.cell? p3 = some v3 ∧ W'.cell? p4 = some v4 ∧ W'.cell? p5 = some v5 ∧ W'.cell? p6 = some v6 ∧ W'.cell? p7 = some v7 := by
  obtain ⟨h0, h1, h2, h3, h4, h5, h6, h7⟩ := h
  obtain ⟨q0, q1, q2, q3, q4, q5, q6, q7⟩ := hne
  have hc : ∀ p : Addr, p.block ≠ g → W'.cell? p = W.cell? p := fun p hp => by unfold World.cell?; rw [hb _ hp]
  exact ⟨(hc _ q0).trans h0, (hc _ q1).trans h1, (hc _ q2).trans h2, (hc _ q3).trans h3, (hc _ q4).trans h4, (hc _ q5).trans h5, (hc _ q6).trans h6, (hc _ q7).trans h7⟩
theorem heap_set_other {w : World} {b g i : Nat} {v : Value} {o : Obj} (h : w.heap[b]? = some o) (hb : b ≠ g) : (w.setCell ⟨g, i, none⟩ v).heap[b]? = some o := by
  rw [Below.heap_setCell _ _ _ _ (by simpa using hb)]
  exact h
theorem own_below {B C e s n : Nat} {w w' : World} {v : Value} {xs : List Value} (h : w.ownsRow B e s v n xs) (hb : Below C w w') (hC : w.heap.size ≤ C) : w'.ownsRow B e s v n xs := by
  refine ⟨h.1, ?_⟩
  rcases h.2 with h0 | ⟨g, cap, cur, h1, h2, h3, h4⟩
  · exact Or.inl h0
  · exact Or.inr ⟨g, cap, cur, h1, h2, (hb.block g (Nat.lt_of_lt_of_le (lt_of_heap h3) hC)).trans h3, h4⟩
theorem own_set_other {w : World} {B e s n g i t : Nat} {v u : Value} {xs : List Value} {cur : Array Value} (h : w.ownsRow B e s v n xs) (hg : w.heap[g]? = some (.cells cur t)) (ht : t ≠ e) : (w.setCell ⟨g, i, none⟩ u).ownsRow B e s v n xs := by
  refine ⟨h.1, ?_⟩
  rcases h.2 with ⟨e1, h0⟩ | ⟨g', cap', cur', e1, hg', hh, hc, hm, hz, ht'⟩
  · exact Or.inl ⟨e1, h0⟩
  · refine Or.inr ⟨g', cap', cur', e1, hg', heap_set_other hh (fun e2 => ?_), hc, hm, hz, ht'⟩
    subst e2
    rw [hg] at hh
    have := Option.some.inj hh
    injection this with _ h5
    exact ht h5
/-- A tree's own fields, put into a row's place. -/
abbrev put7 (w : World) (g o : Nat) (u : TV) : World := ((((((w.setCell ⟨g, o, none⟩ (.int .i64 u.1.k)).setCell ⟨g, o + 1, none⟩ (.int .i64 u.1.n)).setCell ⟨g, o + 2, none⟩ (.string u.1.t)).setCell ⟨g, o + 3, none⟩ (.int .i64 u.1.o)).setCell ⟨g, o + 4, none⟩ (.int .i64 u.1.a)).setCell ⟨g, o + 5, none⟩ u.2.1).setCell ⟨g, o + 6, none⟩ u.2.2
theorem put7_other (w : World) (g o : Nat) (u : TV) (b : Nat) (hb : b ≠ g) : (put7 w g o u).heap[b]? = w.heap[b]? := by
  have hs : ∀ (w : World) (i : Nat) (v : Value), (w.setCell ⟨g, i, none⟩ v).heap[b]? = w.heap[b]? := fun w i v => Below.heap_setCell _ _ _ _ (by simpa using hb)
  unfold put7
  rw [hs, hs, hs, hs, hs, hs, hs]
theorem put7_below {B : Nat} {w w' : World} (h : Below B w w') (g o : Nat) (u : TV) (hB : B ≤ g) : Below B w (put7 w' g o u) :=
  ((((((h.setCell hB _).setCell hB _).setCell hB _).setCell hB _).setCell hB _).setCell hB _).setCell hB _
theorem RowB.frozen {w : World} {g : Nat} {us : List TV} (h : RowB w g us) (i : Nat) : w.frozen? ⟨g, i, none⟩ = false := by
  obtain ⟨cur, h1, _⟩ := h
  exact Lib.frozen_of_heap h1 i

/-- An append whose end is known. -/
theorem wp_append {w : World} {ops : Array Oper} {rest : List Oper} {o : Oper} {a : Act} {Q : Exit → Act → World → Prop} (hgd : o.guard = none) (s x : Operand) (T : TypeId)
    (ho : o.op = .call { callee := .builtin .append, args := #[s, x], argTypes := #[T, T] }) (v u r : Value) (w' : World) (hs : a.eval s = v) (hx : a.eval x = u)
    (hrun : (Builtin.append_ #[T, T] o.type #[v, u]).run Tryz.prog w = .ok r w') (h : wpList Tryz.prog ops Q rest (a.put o.dst r) w') : wpList Tryz.prog ops Q (o :: rest) a w := by
  refine wpList_plain hgd fun K hK => ?_
  unfold Oper.wp
  simp [execOp, ho, resolve, invoke, builtin, hs, hx, hrun, Result.andThen]
  exact hK _ _ h

/-- What copyOf answers. -/
def CopyP (B : Nat) (w : World) (T : JT) (e : Ending) : Prop := ∃ v, e = .returned v ∧ IsTH B w v T

/-- What holds at the head of each round. -/
structure CpT (w : World) (T : JT) (us0 us' : List TV) (uk : Value) (g yc i : Nat) (wr : World) : Prop where
  x : wr.heap[w.heap.size]? = some (.cells #[.int .i64 T.x.k, .int .i64 T.x.n, .string T.x.t, .int .i64 T.x.o, .int .i64 T.x.a, uk, .slice (some ⟨g, 0, none⟩) T.ts.length yc] 29)
  y : wr.heap[w.heap.size + 1]? = some (.cells #[.int .i64 0, .int .i64 0, .string ⟨#[]⟩, .int .i64 0, .int .i64 0, .slice none 0 0, .slice none 0 0] 29)
  keys : wr.ownsRow (w.heap.size + 2) 9 1 uk T.ks.length (scells T.ks)
  len : us'.length = T.ts.length
  cap : T.ts.length ≤ yc
  far : w.heap.size + 2 ≤ g
  low : g < wr.heap.size
  row : RowB wr g us'
  done : ∀ k (h : k < us'.length) (h' : k < T.ts.length), k < i → IsTH (g + 1) wr (tval us'[k]) T.ts[k]
  rest : ∀ k (h : k < us'.length) (h0 : k < us0.length), i ≤ k → us'[k] = us0[k]
  below : Below w.heap.size w wr

theorem CpT.grow {w : World} {T : JT} {us0 us' : List TV} {uk : Value} {g yc i : Nat} {wr V : World} (h : CpT w T us0 us' uk g yc i wr) (hb : Below wr.heap.size wr V) : CpT w T us0 us' uk g yc i V :=
  ⟨(hb.block _ (lt_of_heap h.x)).trans h.x, (hb.block _ (lt_of_heap h.y)).trans h.y, own_below h.keys hb (Nat.le_refl _), h.len, h.cap, h.far, Nat.lt_of_lt_of_le h.low hb.size, h.row.below hb, fun k h1 h2 h3 => (h.done k h1 h2 h3).keep (From.of hb), h.rest, h.below.trans (hb.mono h.below.size)⟩
theorem CpT.put {w : World} {T : JT} {us0 us' : List TV} {uk : Value} {g yc i : Nat} {V : World} (h : CpT w T us0 us' uk g yc i V) (hi : i < us'.length) (u : TV) (hu : ∀ h' : i < T.ts.length, IsTH (g + 1) V (tval u) T.ts[i]) : CpT w T us0 (us'.set i u) uk g yc (i + 1) (put7 V g (i * 7) u) := by
  have hF : From (g + 1) V (put7 V g (i * 7) u) := ⟨(put7_below (Below.refl 0 V) g _ u (Nat.zero_le _)).size, fun k hk _ => put7_other V g _ u k (by omega)⟩
  have hfar := h.far
  refine ⟨?_, ?_, ?_, by simpa using h.len, h.cap, h.far, Nat.lt_of_lt_of_le h.low hF.1, h.row.put i hi u _ rfl, ?_, ?_, put7_below h.below g _ u (by omega)⟩
  · rw [put7_other V g _ u _ (by omega)]; exact h.x
  · rw [put7_other V g _ u _ (by omega)]; exact h.y
  · refine ⟨h.keys.1, ?_⟩
    obtain ⟨cur, hcur, _⟩ := h.row
    rcases h.keys.2 with h0 | ⟨g', cap', cur', e1, hg', hh, h4⟩
    · exact Or.inl h0
    · refine Or.inr ⟨g', cap', cur', e1, hg', ?_, h4⟩
      rw [put7_other V g _ u _ (fun e => ?_)]
      · exact hh
      · subst e
        rw [hcur] at hh
        have h5 := Option.some.inj hh
        injection h5 with _ h6
        exact absurd h6 (by decide)
  · intro k hk hk' hlt
    rw [List.length_set] at hk
    by_cases e : k = i
    · subst e
      rw [List.getElem_set_self]
      exact (hu hk').keep hF
    · rw [List.getElem_set_ne (fun e2 => e e2.symm)]
      exact (h.done k hk hk' (by omega)).keep hF
  · intro k hk h0 hle
    rw [List.length_set] at hk
    rw [List.getElem_set_ne (by omega)]
    exact h.rest k hk h0 (by omega)
theorem CpT.all {w : World} {T : JT} {us0 us' : List TV} {uk : Value} {g yc : Nat} {wr V : World} (h : CpT w T us0 us' uk g yc T.ts.length wr) (hT : T = .node T.x T.ks T.ts) (hk : T.ks.length ≤ 1000000) (hz : T.ts.length ≤ 8796093022208) (hV : From (w.heap.size + 2) wr V) : IsTH w.heap.size V (tval (T.x, uk, .slice (some ⟨g, 0, none⟩) T.ts.length yc)) T := by
  have h1 : IsTH (w.heap.size + 2) wr (tval (T.x, uk, .slice (some ⟨g, 0, none⟩) T.ts.length yc)) T := by
    have h3 : IsTH (w.heap.size + 2) wr (tval (T.x, uk, .slice (some ⟨g, 0, none⟩) T.ts.length yc)) (.node T.x T.ks T.ts) := by
      refine IsTG.mk T.x T.ks T.ts uk (some ⟨g, 0, none⟩) yc us' (own_strs h.keys hk) h.len ⟨h.cap, fun e => by cases e⟩ hz (fun _ => ⟨g, 0, rfl, h.low, h.far, fun i hi j hj => ?_⟩) (fun i hi hi' => ?_)
      · rw [Nat.zero_add]; exact h.row.cellAt i hi j hj
      · exact (h.done i hi hi' hi').mono (by have := h.far; omega)
    rw [← hT] at h3
    exact h3
  exact (h1.keep hV).mono (by omega)

theorem few_kids {T : JT} (hf : formedB T = true) (hs : T.size ≤ 400) : T.ts.length ≤ 400 ∧ T.ks.length ≤ 400 ∧ ∀ t ∈ T.ts, t.size ≤ 400 := by
  have h1 := size_eq T
  have h2 := len_sizes T.ts
  have h3 : nodeB T.x T.ks T.ts.length = true := by
    rw [formedB_eq] at hf
    exact (by simpa using hf : _ ∧ _).1
  refine ⟨by omega, ?_, fun t ht => ?_⟩
  · unfold nodeB at h3
    by_cases h5 : T.x.k = 5
    · rw [if_pos h5] at h3
      simp only [Bool.and_eq_true, decide_eq_true_eq] at h3
      omega
    · rw [if_neg h5] at h3
      have h4 : T.ks.isEmpty = true := by
        by_cases h6 : T.x.k = 6
        · rw [if_pos h6] at h3
          simp only [Bool.and_eq_true] at h3
          exact h3.2
        · rw [if_neg h6] at h3
          simp only [Bool.and_eq_true] at h3
          exact h3.2.1
      rw [List.isEmpty_iff.1 h4]; simp
  · obtain ⟨i, hi, rfl⟩ := List.getElem_of_mem ht
    have h5 := sizes_take T.ts i hi
    have h6 := sizes_le T.ts (i + 1)
    omega

set_option maxRecDepth 100000 in
set_option maxHeartbeats 8000000 in
theorem copyOf_any {w0 : World} {v : Value} {T : JT} (h : IsT w0 v T) : ∀ (w : World), Below w0.heap.size w0 w → formedB T = true → T.size ≤ 400 →
    Calls Tryz.prog 18 #[v] w fun e w' => CopyP w.heap.size w' T e ∧ Below w.heap.size w w' := by
  induction h using IsTG.ind with
  | mk x ks ts uk a cap us hk hl hc hz hr hi ih =>
    intro w hb hf hs
    have HI : Hid (∀ i (h : i < us.length) (h' : i < ts.length) (w : World), Below w0.heap.size w0 w → formedB ts[i] = true → ts[i].size ≤ 400 → Calls Tryz.prog 18 #[tval us[i]] w fun e w' => CopyP w.heap.size w' ts[i] e ∧ Below w.heap.size w w') := ih
    obtain ⟨T, hT⟩ : ∃ T, T = JT.node x ks ts := ⟨_, rfl⟩
    have eks : T.ks = ks := by rw [hT]; rfl
    have ets : T.ts = ts := by rw [hT]; exact node_ts x ks ts
    have hx : T.x = x := by rw [hT]; rfl
    have hTT : T = .node T.x T.ks T.ts := by rw [eks, ets, hx]; exact hT
    have HTN : Hid (T = .node T.x T.ks T.ts) := hTT
    rw [← hT] at hf hs ⊢
    subst eks ets hx
    clear hT hTT
    obtain ⟨ak, ck, rfl, hk1, hk2, hk3⟩ := hk
    have hks : IsStrs w0 (.slice ak T.ks.length ck) T.ks := ⟨ak, ck, rfl, hk1, hk2, hk3⟩
    have HF : Hid ((T.ts.length ≤ 400 ∧ T.ks.length ≤ 400 ∧ ∀ t ∈ T.ts, t.size ≤ 400) ∧ ∀ t ∈ T.ts, formedB t = true) := ⟨few_kids hf hs, (formed_node hf).2⟩
    have HS : Hid (IsStrs w0 (.slice ak T.ks.length ck) T.ks) := hks
    have HL : Hid (us.length = T.ts.length ∧ (T.ts.length ≤ cap ∧ (a = none → cap = 0))) := ⟨hl, hc⟩
    have HR : Hid (RowT w0 a us) := hr
    have HT : Hid (∀ i (h : i < us.length) (h' : i < T.ts.length), IsT w0 (tval us[i]) T.ts[i]) := hi
    have HB : Hid (Below w0.heap.size w0 w) := hb
    clear hk1 hk2 hk3 hks hl hc hz hr hi hb ih hf hs
    unfold tval
    dsimp only
    obtain ⟨x0, y0, b0⟩ := two_boxes w (.cells #[.int .i64 T.x.k, .int .i64 T.x.n, .string T.x.t, .int .i64 T.x.o, .int .i64 T.x.a, .slice ak T.ks.length ck, .slice a T.ts.length cap] 29) (.cells #[.int .i64 0, .int .i64 0, .string ⟨#[]⟩, .int .i64 0, .int .i64 0, .slice none 0 0, .slice none 0 0] 29)
    have HA : Hid (_ ∧ _ ∧ _) := ⟨x0, y0, b0⟩
    clear x0 y0 b0
    go_enter Tryz.func18, Tryz.ntmps18
    go_upto_region 1 with fail
    obtain ⟨x0, y0, b0⟩ := HA.out
    clear HA
    generalize (w.alloc (.cells #[.int .i64 T.x.k, .int .i64 T.x.n, .string T.x.t, .int .i64 T.x.o, .int .i64 T.x.a, .slice ak T.ks.length ck, .slice a T.ts.length cap] 29)).alloc (.cells #[.int .i64 0, .int .i64 0, .string ⟨#[]⟩, .int .i64 0, .int .i64 0, .slice none 0 0, .slice none 0 0] 29) = W at *
    have c5 : W.cell? ⟨w.heap.size, 5, none⟩ = some (.slice ak T.ks.length ck) := Lib.cell_of_heap x0 5
    have zW := lt_of_heap y0
    obtain ⟨uk, W1, r1, o1, b1⟩ := run_copyS 26 W (w.heap.size + 2) (by omega) (.slice ak T.ks.length ck) T.ks (HS.out.below (HB.out.trans (b0.mono HB.out.size))) (by have := HF.out.1.2.1; omega)
    have ukf : ∃ xa xn xc, uk = .slice xa xn xc := by
      rcases o1.2 with ⟨e, _⟩ | ⟨_, _, _, e, _⟩
      · exact ⟨_, _, _, e⟩
      · exact ⟨_, _, _, e⟩
    obtain ⟨xa, xn, xc, rfl⟩ := ukf
    have x1 := (b1.block _ (lt_of_heap x0)).trans x0
    have y1 := (b1.block _ (lt_of_heap y0)).trans y0
    have s5 : W1.cell? ⟨w.heap.size, 5, none⟩ = some (.slice ak T.ks.length ck) := Lib.cell_of_heap x1 5
    have sf := Lib.frozen_of_heap x1
    have x2 : (W1.setCell ⟨w.heap.size, 5, none⟩ (.slice xa xn xc)).heap[w.heap.size]? = some (.cells #[.int .i64 T.x.k, .int .i64 T.x.n, .string T.x.t, .int .i64 T.x.o, .int .i64 T.x.a, .slice xa xn xc, .slice a T.ts.length cap] 29) := set_at x1 5 _
    have y2 := heap_set_other (g := w.heap.size) (i := 5) (v := .slice xa xn xc) y1 (by omega)
    have o2 := own_set_other (i := 5) (u := .slice xa xn xc) o1 x1 (by decide)
    have bW : Below w.heap.size w W1 := b0.trans (b1.mono (by omega))
    have bW2 := bW.setCell (p := ⟨w.heap.size, 5, none⟩) (Nat.le_refl _) (.slice xa xn xc)
    have z2 : w.heap.size + 2 ≤ (W1.setCell ⟨w.heap.size, 5, none⟩ (.slice xa xn xc)).heap.size := by have := lt_of_heap y2; omega
    have HN : Hid (_ ∧ _ ∧ _ ∧ _ ∧ _) := ⟨x2, y2, o2, bW2, z2⟩
    clear x0 y0 x1 y1 x2 y2 o1 o2 b0 b1 bW bW2 z2 zW
    go_upto_region 2 with (first | (at_builtin; refine wp_append rfl _ _ 26 rfl _ _ _ _ rfl rfl r1 ?_))
    obtain ⟨x2, y2, o2, bW2, z2⟩ := HN.out
    clear HN c5 r1 s5 sf
    generalize W1.setCell ⟨w.heap.size, 5, none⟩ (.slice xa xn xc) = W2 at *
    have c6 : W2.cell? ⟨w.heap.size, 6, none⟩ = some (.slice a T.ts.length cap) := Lib.cell_of_heap x2 6
    have bW02 : Below w0.heap.size w0 W2 := HB.out.trans (bW2.mono HB.out.size)
    obtain ⟨vo, W3, r3, o3, b3⟩ := run_copyT 27 W2 (w.heap.size + 2) z2 a cap us (HR.out.below bW02) HL.out.2.2 (by have := HL.out; omega) (fun u hu => by
      obtain ⟨i, hi, rfl⟩ := List.getElem_of_mem hu
      obtain ⟨x, a1, n1, c1, a2, n2, c2, e⟩ := (HT.out i hi (by have := HL.out.1; omega)).parts
      rw [e]
      exact ⟨a1, n1, c1, a2, n2, c2, rfl, rfl⟩) (by have := HF.out.1.1; have := HL.out.1; omega)
    have vof : ∃ ya yc, vo = .slice ya T.ts.length yc := by
      rcases own_rowB o3 with ⟨e, hus⟩ | ⟨g, yc, e, _⟩
      · exact ⟨none, 0, by rw [e, ← HL.out.1, hus]; rfl⟩
      · exact ⟨_, yc, by rw [e, HL.out.1]⟩
    obtain ⟨ya, yc, rfl⟩ := vof
    rw [HL.out.1] at r3
    have x3 := (b3.block _ (lt_of_heap x2)).trans x2
    have y3 := (b3.block _ (lt_of_heap y2)).trans y2
    have s6 : W3.cell? ⟨w.heap.size, 6, none⟩ = some (.slice a T.ts.length cap) := Lib.cell_of_heap x3 6
    have sf := Lib.frozen_of_heap x3
    have o2' := own_set_other (i := 6) (u := .slice ya T.ts.length yc) (own_below o2 b3 (Nat.le_refl _)) x3 (by decide)
    have x4 : (W3.setCell ⟨w.heap.size, 6, none⟩ (.slice ya T.ts.length yc)).heap[w.heap.size]? = some (.cells #[.int .i64 T.x.k, .int .i64 T.x.n, .string T.x.t, .int .i64 T.x.o, .int .i64 T.x.a, .slice xa xn xc, .slice ya T.ts.length yc] 29) := set_at x3 6 _
    have y4 := heap_set_other (g := w.heap.size) (i := 6) (v := .slice ya T.ts.length yc) y3 (by omega)
    have bW3 : Below w.heap.size w W3 := bW2.trans (b3.mono (by omega))
    have bW4 := bW3.setCell (p := ⟨w.heap.size, 6, none⟩) (Nat.le_refl _) (.slice ya T.ts.length yc)
    have rw4 : (ya = none ∧ yc = 0 ∧ T.ts = []) ∨ ∃ g, ya = some ⟨g, 0, none⟩ ∧ w.heap.size + 2 ≤ g ∧ T.ts.length ≤ yc ∧ g < (W3.setCell ⟨w.heap.size, 6, none⟩ (.slice ya T.ts.length yc)).heap.size ∧ RowB (W3.setCell ⟨w.heap.size, 6, none⟩ (.slice ya T.ts.length yc)) g us := by
      rcases own_rowB o3 with ⟨e, hus⟩ | ⟨g, yc', e, hg1, hg2, hg3, hRB⟩
      · have e1 := Value.slice.inj e
        exact Or.inl ⟨e1.1, e1.2.2, List.length_eq_zero_iff.1 e1.2.1⟩
      · have e1 := Value.slice.inj e
        refine Or.inr ⟨g, e1.1, hg1, ?_, ?_, ?_⟩
        · rw [e1.2.2, ← HL.out.1]; exact hg3
        · have := ((Below.refl w.heap.size W3).setCell (p := ⟨w.heap.size, 6, none⟩) (Nat.le_refl _) (.slice ya T.ts.length yc)).size
          omega
        · obtain ⟨cur, h1, h2⟩ := hRB
          exact ⟨cur, heap_set_other h1 (by omega), h2⟩
    have HN : Hid (_ ∧ _ ∧ _ ∧ _ ∧ _) := ⟨x4, y4, o2', bW4, rw4⟩
    clear x2 y2 o2 bW2 z2 x3 y3 o3 b3 x4 y4 o2' bW3 bW4 bW02 rw4
    go_upto_region 3 with (first | (at_builtin; refine wp_append rfl _ _ 27 rfl _ _ _ _ rfl rfl r3 ?_))
    obtain ⟨x4, y4, o4, bW4, rw4⟩ := HN.out
    clear HN c6 r3 s6 sf
    generalize W3.setCell ⟨w.heap.size, 6, none⟩ (.slice ya T.ts.length yc) = W4 at *
    rcases rw4 with ⟨rfl, rfl, hts⟩ | ⟨g, rfl, hg1, hg3, z4, rb4⟩
    · have c6 : W4.cell? ⟨w.heap.size, 6, none⟩ = some (.slice none T.ts.length 0) := Lib.cell_of_heap x4 6
      have HX : Hid (_ ∧ _ ∧ _ ∧ _) := ⟨x4, y4, o4, bW4⟩
      have h0 : T.ts.length = 0 := by rw [hts]; rfl
      clear x4 y4 o4 bW4
      go_wp2_with fail
      go_loopw [3, 4, 16] (fun _ _ i wr => i = .int .i64 0 ∧ Hid (wr = W4)) (fun _ _ _ _ => 0)
      case atStart => exact ⟨rfl, rfl⟩
      case round =>
        obtain ⟨rfl, hw⟩ := hrel
        have hw2 := hw.out
        subst hw2
        obtain ⟨x4, y4, o4, bW4⟩ := HX.out
        clear HX c6 hw
        have g1 : ¬ (0 : Int) < T.ts.length := by omega
        have HTS : Hid (T.ts = []) := hts
        have k0 : wr.cell? ⟨w.heap.size, 0, none⟩ = some (.int .i64 T.x.k) := Lib.cell_of_heap x4 0
        have k1 : wr.cell? ⟨w.heap.size, 1, none⟩ = some (.int .i64 T.x.n) := Lib.cell_of_heap x4 1
        have k2 : wr.cell? ⟨w.heap.size, 2, none⟩ = some (.string T.x.t) := Lib.cell_of_heap x4 2
        have k3 : wr.cell? ⟨w.heap.size, 3, none⟩ = some (.int .i64 T.x.o) := Lib.cell_of_heap x4 3
        have k4 : wr.cell? ⟨w.heap.size, 4, none⟩ = some (.int .i64 T.x.a) := Lib.cell_of_heap x4 4
        have k5 : wr.cell? ⟨w.heap.size, 5, none⟩ = some (.slice xa xn xc) := Lib.cell_of_heap x4 5
        have k6 : wr.cell? ⟨w.heap.size, 6, none⟩ = some (.slice none T.ts.length 0) := Lib.cell_of_heap x4 6
        have z0 : wr.cell? ⟨w.heap.size + 1, 0, none⟩ = some (.int .i64 0) := Lib.cell_of_heap y4 0
        have z1 : wr.cell? ⟨w.heap.size + 1, 1, none⟩ = some (.int .i64 0) := Lib.cell_of_heap y4 1
        have z2 : wr.cell? ⟨w.heap.size + 1, 2, none⟩ = some (.string ⟨#[]⟩) := Lib.cell_of_heap y4 2
        have z3 : wr.cell? ⟨w.heap.size + 1, 3, none⟩ = some (.int .i64 0) := Lib.cell_of_heap y4 3
        have z4 : wr.cell? ⟨w.heap.size + 1, 4, none⟩ = some (.int .i64 0) := Lib.cell_of_heap y4 4
        have z5 : wr.cell? ⟨w.heap.size + 1, 5, none⟩ = some (.slice none 0 0) := Lib.cell_of_heap y4 5
        have z6 : wr.cell? ⟨w.heap.size + 1, 6, none⟩ = some (.slice none 0 0) := Lib.cell_of_heap y4 6
        have zf := Lib.frozen_of_heap y4
        have HFF : Hid (From (w.heap.size + 2) wr (put7 wr (w.heap.size + 1) 0 (T.x, .slice xa xn xc, .slice none T.ts.length 0))) := ⟨(put7_below (Below.refl 0 wr) _ _ _ (Nat.zero_le _)).size, fun k hk _ => put7_other wr _ _ _ k (by omega)⟩
        have HBF : Hid (Below w.heap.size w (put7 wr (w.heap.size + 1) 0 (T.x, .slice xa xn xc, .slice none T.ts.length 0))) := put7_below bW4 _ _ _ (Nat.le_succ _)
        have HHF : Hid ((put7 wr (w.heap.size + 1) 0 (T.x, .slice xa xn xc, .slice none T.ts.length 0)).heap[w.heap.size + 1]? = some _) := set7 y4 (.int .i64 T.x.k) (.int .i64 T.x.n) (.string T.x.t) (.int .i64 T.x.o) (.int .i64 T.x.a) (.slice xa xn xc) (.slice none T.ts.length 0)
        have HO : Hid _ := o4
        clear x4 y4 o4 bW4 h0 hts
        go_wp2
        clear z0 z1 z2 z3 z4 z5 z6 zf k0 k1 k2 k3 k4 k5 k6
        dsimp only [put7, Nat.zero_add] at HFF HBF HHF
        generalize ((((((wr.setCell ⟨w.heap.size + 1, 0, none⟩ (.int .i64 T.x.k)).setCell ⟨w.heap.size + 1, 1, none⟩ (.int .i64 T.x.n)).setCell ⟨w.heap.size + 1, 2, none⟩ (.string T.x.t)).setCell ⟨w.heap.size + 1, 3, none⟩ (.int .i64 T.x.o)).setCell ⟨w.heap.size + 1, 4, none⟩ (.int .i64 T.x.a)).setCell ⟨w.heap.size + 1, 5, none⟩ (.slice xa xn xc)).setCell ⟨w.heap.size + 1, 6, none⟩ (.slice none T.ts.length 0) = V at *
        obtain ⟨q0, q1, q2, q3, q4, q5, q6⟩ := tboxed (u := (T.x, .slice xa xn xc, .slice none T.ts.length 0)) HHF.out
        dsimp only at q0 q1 q2 q3 q4 q5 q6
        refine bodyPost_ret (v := tval (T.x, .slice xa xn xc, .slice none T.ts.length 0)) (by simp [tval, results, Tryz.results18, go_sem, q0, q1, q2, q3, q4, q5, q6]) rfl ⟨⟨_, rfl, ?_⟩, HBF.out⟩
        have h1 : IsTH (w.heap.size + 2) wr (tval (T.x, .slice xa xn xc, .slice none T.ts.length 0)) T := by
          have hN := HTN.out
          have h00 : T.ts = [] := HTS.out
          have h3 : IsTH (w.heap.size + 2) wr (tval (T.x, .slice xa xn xc, .slice none ([] : List JT).length 0)) (.node T.x T.ks []) := IsTG.mk T.x T.ks [] (.slice xa xn xc) none 0 [] (own_strs HO.out (Nat.le_trans HF.out.1.2.1 (by decide))) rfl ⟨Nat.le_refl _, fun _ => rfl⟩ (Nat.zero_le _) (fun h => absurd rfl h) (fun _ hi => absurd hi (Nat.not_lt_zero _))
          rw [← h00, ← hN] at h3
          exact h3
        exact (h1.keep HFF.out).mono (by omega)
    · have hxn : xn = T.ks.length := by
        rcases o4.2 with ⟨e, e2⟩ | ⟨_, _, _, e, _⟩
        · rw [e2]; exact (Value.slice.inj e).2.1
        · exact (Value.slice.inj e).2.1
      have C0 : CpT w T us us (.slice xa xn xc) g yc 0 W4 := ⟨x4, y4, o4, HL.out.1, hg3, hg1, z4, rb4, fun k _ _ h => absurd h (Nat.not_lt_zero _), fun k _ _ _ => rfl, bW4⟩
      have c6 : W4.cell? ⟨w.heap.size, 6, none⟩ = some (.slice (some ⟨g, 0, none⟩) T.ts.length yc) := Lib.cell_of_heap x4 6
      have HC0 : Hid _ := C0
      clear C0 x4 y4 o4 bW4 rb4 z4 hxn
      go_wp2_with fail
      go_loopw [3, 4, 16] (fun _ _ i wr => ∃ (j : Nat) (us' : List TV), j ≤ T.ts.length ∧ i = .int .i64 j ∧ Hid (CpT w T us us' (.slice xa xn xc) g yc j wr)) (fun _ _ i _ => T.ts.length - (RowKit.intOf i).toNat)
      case atStart => exact ⟨0, us, Nat.zero_le _, rfl, HC0⟩
      case round =>
        clear HC0 c6
        obtain ⟨j, us', hj, rfl, HC⟩ := hrel
        by_cases hlt : j < T.ts.length
        · have g1 : (j : Int) < T.ts.length := by omega
          have hjl : j < us'.length := by have := HC.out.len; omega
          have hju : j < us.length := by have := HL.out.1; omega
          have eu := HC.out.rest j hjl hju (Nat.le_refl _)
          have tj := HT.out j hju hlt
          obtain ⟨⟨pk, pn, pt, po, pa⟩, pa1, pn1, pc1, pa2, pn2, pc2, hp⟩ := tj.parts
          have EI := fun (W : World) (hb : Below w.heap.size w W) => HI.out j hju hlt W (HB.out.trans (hb.mono HB.out.size)) (HF.out.2 _ (List.getElem_mem hlt)) (HF.out.1.2.2 _ (List.getElem_mem hlt))
          have RB := HC.out.row
          have m0 := RB.cellAt j hjl 0 (by decide)
          have m1 := RB.cellAt j hjl 1 (by decide)
          have m2 := RB.cellAt j hjl 2 (by decide)
          have m3 := RB.cellAt j hjl 3 (by decide)
          have m4 := RB.cellAt j hjl 4 (by decide)
          have m5 := RB.cellAt j hjl 5 (by decide)
          have m6 := RB.cellAt j hjl 6 (by decide)
          rw [eu, hp] at m0 m1 m2 m3 m4 m5 m6
          have m0' : wr.cell? ⟨g, j * 7, none⟩ = some (.int .i64 pk) := m0
          have m1' : wr.cell? ⟨g, j * 7 + 1, none⟩ = some (.int .i64 pn) := m1
          have m2' : wr.cell? ⟨g, j * 7 + 2, none⟩ = some (.string pt) := m2
          have m3' : wr.cell? ⟨g, j * 7 + 3, none⟩ = some (.int .i64 po) := m3
          have m4' : wr.cell? ⟨g, j * 7 + 4, none⟩ = some (.int .i64 pa) := m4
          have m5' : wr.cell? ⟨g, j * 7 + 5, none⟩ = some (.slice pa1 pn1 pc1) := m5
          have m6' : wr.cell? ⟨g, j * 7 + 6, none⟩ = some (.slice pa2 pn2 pc2) := m6
          clear m0 m1 m2 m3 m4 m5 m6
          rw [hp] at EI
          dsimp only [tval] at EI
          have hb0 := (Below.refl wr.heap.size wr).alloc (Nat.le_refl _) (.cells #[.int .i64 pk, .int .i64 pn, .string pt, .int .i64 po, .int .i64 pa, .slice pa1 pn1 pc1, .slice pa2 pn2 pc2] 29)
          have hy : (wr.alloc (.cells #[.int .i64 pk, .int .i64 pn, .string pt, .int .i64 po, .int .i64 pa, .slice pa1 pn1 pc1, .slice pa2 pn2 pc2] 29)).heap[wr.heap.size]? = some _ := (MapKept.heap_alloc wr _).1
          have HC1 : Hid (CpT w T us us' (.slice xa xn xc) g yc j _) := HC.out.grow hb0
          obtain ⟨n0, n1, n2, n3, n4, n5, n6⟩ := tboxed (u := (⟨pk, pn, pt, po, pa⟩, .slice pa1 pn1 pc1, .slice pa2 pn2 pc2)) hy
          dsimp only at n0 n1 n2 n3 n4 n5 n6
          have hlow := HC.out.low
          have hfar := HC.out.far
          have HTI : Hid (CopyP 0 w T.ts[j] (.returned (tval us[j])) → True) := fun _ => trivial
          have HJ : Hid (j < T.ts.length ∧ j < us'.length) := ⟨hlt, hjl⟩
          clear hb0 hy eu tj RB HTI hp hju hj
          go_upto_region 6 with fail
          have hbw := HC1.out.below
          have x6 := Lib.cell_of_heap HC1.out.x 6
          have hWz : (wr.alloc (.cells #[.int .i64 pk, .int .i64 pn, .string pt, .int .i64 po, .int .i64 pa, .slice pa1 pn1 pc1, .slice pa2 pn2 pc2] 29)).heap.size = wr.heap.size + 1 := by simp
          have RB := HC1.out.row
          have hbr := Below.refl (wr.alloc (.cells #[.int .i64 pk, .int .i64 pn, .string pt, .int .i64 po, .int .i64 pa, .slice pa1 pn1 pc1, .slice pa2 pn2 pc2] 29)).heap.size (wr.alloc (.cells #[.int .i64 pk, .int .i64 pn, .string pt, .int .i64 po, .int .i64 pa, .slice pa1 pn1 pc1, .slice pa2 pn2 pc2] 29))
          clear m0' m1' m2' m3' m4' m5' m6'
          generalize wr.alloc (.cells #[.int .i64 pk, .int .i64 pn, .string pt, .int .i64 po, .int .i64 pa, .slice pa1 pn1 pc1, .slice pa2 pn2 pc2] 29) = Wq at *
          have E := EI
          refine wp_region_noPanic ?_
          refine wp_region_held_drew (S := fun W => W.cell? ⟨w.heap.size, 6, none⟩ = some (.slice (some ⟨g, 0, none⟩) T.ts.length yc) ∧ W.cell? ⟨wr.heap.size, 0, none⟩ = some (.int .i64 pk) ∧ W.cell? ⟨wr.heap.size, 1, none⟩ = some (.int .i64 pn) ∧ W.cell? ⟨wr.heap.size, 2, none⟩ = some (.string pt) ∧ W.cell? ⟨wr.heap.size, 3, none⟩ = some (.int .i64 po) ∧ W.cell? ⟨wr.heap.size, 4, none⟩ = some (.int .i64 pa) ∧ W.cell? ⟨wr.heap.size, 5, none⟩ = some (.slice pa1 pn1 pc1) ∧ W.cell? ⟨wr.heap.size, 6, none⟩ = some (.slice pa2 pn2 pc2)) (by kernel_rfl) (⟨x6, n0, n1, n2, n3, n4, n5, n6⟩) (fun hHeld => ?_)
          refine wpAnyH_take (i := 0) (oi := { dst := some 21, op := Op.fieldAddr 29 (Operand.tmp 1) 2, type := 0, pos := "json.go:119", after := #[], guard := none }) (v := ?_) rfl (by kernel_rfl) (by kernel_rfl) (by kernel_rfl) (fun _ _ _ h => h) (Or.inl ⟨by rfl, ?_⟩) (by assumption) ?_
          rotate_left
          · intro wz hSw
            try dsimp only at hSw
            go_simp
            try with_reducible rfl
          try simp only [Act.put, List.setIfInBounds_toArray, List.set_cons_zero, List.set_cons_succ]
          refine wpAnyH_take (i := 1) (oi := { dst := some 22, op := Op.load 27 (Operand.tmp 21), type := 27, pos := "json.go:119", after := #[{ on := 0, ground := Ground.data }], guard := none }) (v := ?_) rfl (by kernel_rfl) (by kernel_rfl) (by kernel_rfl) (fun _ _ _ h => h) (Or.inl ⟨by rfl, ?_⟩) (by assumption) ?_
          rotate_left
          · intro wz hSw
            try dsimp only at hSw
            go_simp
            try with_reducible rfl
          try simp only [Act.put, List.setIfInBounds_toArray, List.set_cons_zero, List.set_cons_succ]
          refine wpAnyH_take (i := 2) (oi := { dst := some 23, op := Op.move (Operand.tmp 3), type := 3, pos := "json.go:119", after := #[], guard := none }) (v := ?_) rfl (by kernel_rfl) (by kernel_rfl) (by kernel_rfl) (fun _ _ _ h => h) (Or.inl ⟨by rfl, ?_⟩) (by assumption) ?_
          rotate_left
          · intro wz hSw
            try dsimp only at hSw
            go_simp
            try with_reducible rfl
          try simp only [Act.put, List.setIfInBounds_toArray, List.set_cons_zero, List.set_cons_succ]
          refine wpAnyH_take (i := 3) (oi := { dst := some 24, op := Op.load 29 (Operand.tmp 4), type := 29, pos := "json.go:119", after := #[], guard := none }) (v := ?_) rfl (by kernel_rfl) (by kernel_rfl) (by kernel_rfl) (fun _ _ _ h => h) (Or.inl ⟨by rfl, ?_⟩) (by assumption) ?_
          rotate_left
          · intro wz hSw
            try dsimp only at hSw
            go_simp
            try with_reducible rfl
          try simp only [Act.put, List.setIfInBounds_toArray, List.set_cons_zero, List.set_cons_succ]
          refine wpAnyH_ready (rs := [4]) (by kernel_rfl) (by simp) (AllReadyH.cons (o := { dst := some 25, op := Op.call { callee := Callee.value (Operand.func 18), args := #[Operand.tmp 24], argTypes := #[29] }, type := 29, pos := "json.go:119", after := #[{ on := 3, ground := Ground.data }], guard := none }) rfl (fun K hK => ?_) AllReadyH.nil)
          go_simp
          go_at_call 18
          refine Calls.mono (E _ (hbw.drew)) ?_
          rintro e w4 ⟨⟨v4, rfl, hT4⟩, b4⟩
          go_wp2_with fail
          refine hK.out _ _ (keep8 (by assumption) b4) (fun hHeld4 => ?_)
          clear hK K
          try simp only [Act.put, List.setIfInBounds_toArray, List.set_cons_zero, List.set_cons_succ]
          obtain ⟨u4, rfl⟩ := hT4.tree.of_val
          obtain ⟨⟨zk, zn, zt, zo, za⟩, za1, zn1, zc1, za2, zn2, zc2, hu4⟩ := hT4.tree.parts
          subst hu4
          have RB4 := RB.below (hbr.drew.trans (b4.mono hbr.drew.size))
          have f0 : w4.cell? ⟨g, j * 7, none⟩ = some (.int .i64 us'[j].1.k) := RB4.cellAt j hjl 0 (by decide)
          have f1 : w4.cell? ⟨g, j * 7 + 1, none⟩ = some (.int .i64 us'[j].1.n) := RB4.cellAt j hjl 1 (by decide)
          have f2 : w4.cell? ⟨g, j * 7 + 2, none⟩ = some (.string us'[j].1.t) := RB4.cellAt j hjl 2 (by decide)
          have f3 : w4.cell? ⟨g, j * 7 + 3, none⟩ = some (.int .i64 us'[j].1.o) := RB4.cellAt j hjl 3 (by decide)
          have f4 : w4.cell? ⟨g, j * 7 + 4, none⟩ = some (.int .i64 us'[j].1.a) := RB4.cellAt j hjl 4 (by decide)
          have f5 : w4.cell? ⟨g, j * 7 + 5, none⟩ = some (us'[j].2.1) := RB4.cellAt j hjl 5 (by decide)
          have f6 : w4.cell? ⟨g, j * 7 + 6, none⟩ = some (us'[j].2.2) := RB4.cellAt j hjl 6 (by decide)
          have ff : ∀ i, w4.frozen? ⟨g, i, none⟩ = false := RB4.frozen
          refine wpAnyH_take (i := 5) (oi := { dst := some 26, op := Op.indexAddr 27 (Operand.tmp 22) (Operand.tmp 23), type := 0, pos := "json.go:119", after := #[{ on := 1, ground := Ground.data }, { on := 2, ground := Ground.data }, { on := 0, ground := Ground.phase }, { on := 1, ground := Ground.phase }, { on := 2, ground := Ground.phase }, { on := 3, ground := Ground.phase }, { on := 4, ground := Ground.phase }], guard := none }) (v := ?_) rfl (by kernel_rfl) (by kernel_rfl) (by kernel_rfl) (fun _ _ _ h => h) (Or.inl ⟨by rfl, ?_⟩) (by assumption) ?_
          rotate_left
          · intro wz hSw
            try dsimp only at hSw
            go_simp
            try with_reducible rfl
          try simp only [Act.put, List.setIfInBounds_toArray, List.set_cons_zero, List.set_cons_succ]
          refine wpAnyH_ready (rs := [6]) (by kernel_rfl) (by simp) (AllReadyH.cons (o := { dst := none, op := Op.store 29 (Operand.tmp 26) (Operand.tmp 25), type := 0, pos := "json.go:119", after := #[{ on := 5, ground := Ground.data }, { on := 4, ground := Ground.data }, { on := 4, ground := Ground.chain }, { on := 0, ground := Ground.phase }, { on := 1, ground := Ground.phase }, { on := 2, ground := Ground.phase }, { on := 3, ground := Ground.phase }, { on := 4, ground := Ground.phase }], guard := none }) rfl (fun K hK => ?_) AllReadyH.nil)
          dsimp only [tval]
          go_simp
          refine hK.out _ _ (keep8o (g := g) (W := w4) (W' := put7 w4 g (j * 7) (⟨zk, zn, zt, zo, za⟩, .slice za1 zn1 zc1, .slice za2 zn2 zc2)) (by assumption) (fun b hb => put7_other w4 g (j * 7) (⟨zk, zn, zt, zo, za⟩, .slice za1 zn1 zc1, .slice za2 zn2 zc2) b hb) ⟨by simp; omega, by simp; omega, by simp; omega, by simp; omega, by simp; omega, by simp; omega, by simp; omega, by simp; omega⟩) (fun hHeld6 => ?_)
          clear hK K
          try simp only [Act.put, List.setIfInBounds_toArray, List.set_cons_zero, List.set_cons_succ]
          refine wpAnyH_done (by kernel_rfl) ?_ _
          refine NoPanic.normal ?_
          have HC2 := HC1.out.grow (hbr.drew.trans (b4.mono hbr.drew.size))
          have HC3 : Hid (CpT w T us (us'.set j (⟨zk, zn, zt, zo, za⟩, .slice za1 zn1 zc1, .slice za2 zn2 zc2)) (.slice xa xn xc) g yc (j + 1) (put7 w4 g (j * 7) (⟨zk, zn, zt, zo, za⟩, .slice za1 zn1 zc1, .slice za2 zn2 zc2))) := HC2.put HJ.out.2 _ (fun h' => hT4.mono (by show g + 1 ≤ Wq.heap.size; omega))
          have g3 : (j : Int) < 8796093022208 := by have := HF.out.1.1; have := HJ.out.1; omega
          clear hHeld hHeld4 hHeld6 HC2 hT4 b4 E EI RB RB4 f0 f1 f2 f3 f4 f5 f6 ff n0 n1 n2 n3 n4 n5 n6 x6 hbw hbr hlow hfar hWz HC1 HC hjl hlt
          go_wp2
          go_roundw
          case rel => exact ⟨j + 1, _, HJ.out.1, by go_num, HC3⟩
          case measure => simp [RowKit.intOf]; have := HJ.out.1; omega
        · have hje : j = T.ts.length := by omega
          have g1 : ¬ (j : Int) < T.ts.length := by omega
          have hC := HC.out
          have HCC : Hid (CpT w T us us' (.slice xa xn xc) g yc T.ts.length wr) := by rw [← hje]; exact hC
          have x4 := hC.x
          have y4 := hC.y
          have bW4 := hC.below
          clear hje hlt hj hC
          have k0 : wr.cell? ⟨w.heap.size, 0, none⟩ = some (.int .i64 T.x.k) := Lib.cell_of_heap x4 0
          have k1 : wr.cell? ⟨w.heap.size, 1, none⟩ = some (.int .i64 T.x.n) := Lib.cell_of_heap x4 1
          have k2 : wr.cell? ⟨w.heap.size, 2, none⟩ = some (.string T.x.t) := Lib.cell_of_heap x4 2
          have k3 : wr.cell? ⟨w.heap.size, 3, none⟩ = some (.int .i64 T.x.o) := Lib.cell_of_heap x4 3
          have k4 : wr.cell? ⟨w.heap.size, 4, none⟩ = some (.int .i64 T.x.a) := Lib.cell_of_heap x4 4
          have k5 : wr.cell? ⟨w.heap.size, 5, none⟩ = some (.slice xa xn xc) := Lib.cell_of_heap x4 5
          have k6 : wr.cell? ⟨w.heap.size, 6, none⟩ = some (.slice (some ⟨g, 0, none⟩) T.ts.length yc) := Lib.cell_of_heap x4 6
          have z0 : wr.cell? ⟨w.heap.size + 1, 0, none⟩ = some (.int .i64 0) := Lib.cell_of_heap y4 0
          have z1 : wr.cell? ⟨w.heap.size + 1, 1, none⟩ = some (.int .i64 0) := Lib.cell_of_heap y4 1
          have z2 : wr.cell? ⟨w.heap.size + 1, 2, none⟩ = some (.string ⟨#[]⟩) := Lib.cell_of_heap y4 2
          have z3 : wr.cell? ⟨w.heap.size + 1, 3, none⟩ = some (.int .i64 0) := Lib.cell_of_heap y4 3
          have z4 : wr.cell? ⟨w.heap.size + 1, 4, none⟩ = some (.int .i64 0) := Lib.cell_of_heap y4 4
          have z5 : wr.cell? ⟨w.heap.size + 1, 5, none⟩ = some (.slice none 0 0) := Lib.cell_of_heap y4 5
          have z6 : wr.cell? ⟨w.heap.size + 1, 6, none⟩ = some (.slice none 0 0) := Lib.cell_of_heap y4 6
          have zf := Lib.frozen_of_heap y4
          have HFF : Hid (From (w.heap.size + 2) wr (put7 wr (w.heap.size + 1) 0 (T.x, .slice xa xn xc, .slice (some ⟨g, 0, none⟩) T.ts.length yc))) := ⟨(put7_below (Below.refl 0 wr) _ _ _ (Nat.zero_le _)).size, fun k hk _ => put7_other wr _ _ _ k (by omega)⟩
          have HBF : Hid (Below w.heap.size w (put7 wr (w.heap.size + 1) 0 (T.x, .slice xa xn xc, .slice (some ⟨g, 0, none⟩) T.ts.length yc))) := put7_below bW4 _ _ _ (Nat.le_succ _)
          have HHF : Hid ((put7 wr (w.heap.size + 1) 0 (T.x, .slice xa xn xc, .slice (some ⟨g, 0, none⟩) T.ts.length yc)).heap[w.heap.size + 1]? = some _) := set7 y4 (.int .i64 T.x.k) (.int .i64 T.x.n) (.string T.x.t) (.int .i64 T.x.o) (.int .i64 T.x.a) (.slice xa xn xc) (.slice (some ⟨g, 0, none⟩) T.ts.length yc)
          clear x4 y4 bW4
          go_wp2
          clear z0 z1 z2 z3 z4 z5 z6 zf k0 k1 k2 k3 k4 k5 k6
          dsimp only [put7, Nat.zero_add] at HFF HBF HHF
          generalize ((((((wr.setCell ⟨w.heap.size + 1, 0, none⟩ (.int .i64 T.x.k)).setCell ⟨w.heap.size + 1, 1, none⟩ (.int .i64 T.x.n)).setCell ⟨w.heap.size + 1, 2, none⟩ (.string T.x.t)).setCell ⟨w.heap.size + 1, 3, none⟩ (.int .i64 T.x.o)).setCell ⟨w.heap.size + 1, 4, none⟩ (.int .i64 T.x.a)).setCell ⟨w.heap.size + 1, 5, none⟩ (.slice xa xn xc)).setCell ⟨w.heap.size + 1, 6, none⟩ (.slice (some ⟨g, 0, none⟩) T.ts.length yc) = V at *
          obtain ⟨q0, q1, q2, q3, q4, q5, q6⟩ := tboxed (u := (T.x, .slice xa xn xc, .slice (some ⟨g, 0, none⟩) T.ts.length yc)) HHF.out
          dsimp only at q0 q1 q2 q3 q4 q5 q6
          refine bodyPost_ret (v := tval (T.x, .slice xa xn xc, .slice (some ⟨g, 0, none⟩) T.ts.length yc)) (by simp [tval, results, Tryz.results18, go_sem, q0, q1, q2, q3, q4, q5, q6]) rfl ⟨⟨_, rfl, ?_⟩, HBF.out⟩
          exact HCC.out.all HTN.out (Nat.le_trans HF.out.1.2.1 (by decide)) (Nat.le_trans HF.out.1.1 (by decide)) HFF.out
end Go.Proofs.YtnoikdlofkcgaaaGreatDoor
