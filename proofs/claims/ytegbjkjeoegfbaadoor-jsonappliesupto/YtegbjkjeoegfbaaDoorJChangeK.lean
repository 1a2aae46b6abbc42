/-
  What is proved: the function change of package json, called with the place of a tree whose rows lie in blocks apart and a patch of a kind that there is, does what the patch says at the end of its path, or says that there is no such place.
  Conditions: the tree is one, and not too great; the path lies ahead of it.
-/
import Derived.Test.YtegbjkjeoegfbaaDoorJChgS
namespace Go.Proofs.YtegbjkjeoegfbaaDoor
open Go.RowKit Go.Sort

theorem keep8b {W W' : World} {p0 p1 p2 p3 p4 p5 p6 p7 : Addr} {v0 v1 v2 v3 v4 v5 v6 v7 : Value} (h : W.cell? p0 = some v0 ∧ W.cell? p1 = some v1 ∧ W.cell? p2 = some v2 ∧ W.cell? p3 = some v3 ∧ W.cell? p4 = some v4 ∧ W.cell? p5 = some v5 ∧ W.cell? p6 = some v6 ∧ W.cell? p7 = some v7) (hne : W'.heap[p0.block]? = W.heap[p0.block]? ∧ W'.heap[p1.block]? = W.heap[p1.block]? ∧ W'.heap[p2.block]? = W.heap[p2.block]? ∧ W'.heap[p3.block]? = W.heap[p3.block]? ∧ W'.heap[p4.block]? = W.heap[p4.block]? ∧ W'.heap[p5.block]? = W.heap[p5.block]? ∧ W'.heap[p6.block]? = W.heap[p6.block]? ∧ W'.heap[p7.block]? = W.heap[p7.block]?) : W'.cell? p0 = some v0 ∧ W'.cell? p1 = some v1 ∧ W'.cell? p2 = some v2 ∧ W'.cell? p3 = some v3 ∧ W'.cell? p4 = some v4 ∧ W'.cell? p5 = some v5 ∧ W'.cell? p6 = some v6 ∧ W'.cell? p7 = some v7 := by
  obtain ⟨h0, h1, h2, h3, h4, h5, h6, h7⟩ := h
  obtain ⟨q0, q1, q2, q3, q4, q5, q6, q7⟩ := hne
  exact ⟨(World.cell?_of_block q0).trans h0, (World.cell?_of_block q1).trans h1, (World.cell?_of_block q2).trans h2, (World.cell?_of_block q3).trans h3, (World.cell?_of_block q4).trans h4, (World.cell?_of_block q5).trans h5, (World.cell?_of_block q6).trans h6, (World.cell?_of_block q7).trans h7⟩
theorem IsSteps.init {w : World} {a : Option Addr} {n c : Nat} {l : List Stp} (h : IsSteps w (.slice a n c) l) (m : Nat) (hm : m ≤ l.length) : IsSteps w (.slice a m c) (l.take m) := by
  obtain ⟨a', c', e, h1, h2, h3⟩ := h
  obtain ⟨rfl, rfl, rfl⟩ := Value.slice.inj e
  have hl : (l.take m).length = m := by rw [List.length_take]; omega
  refine ⟨a, c, by rw [hl], by omega, by omega, fun hne => ?_⟩
  have hl0 : l ≠ [] := fun e => hne (by rw [e]; simp)
  obtain ⟨b, off, e1, h4, h5⟩ := h3 hl0
  exact ⟨b, off, e1, h4, fun i hi => by
    rw [hl] at hi
    have := h5 i (by omega)
    simpa using this⟩
/-- A patch. -/
abbrev pchK (k : Int) (p : Value) (y : V) : Value := .agg #[.int .i64 k, p, .int .i64 y.k, .int .i64 y.n, .string y.t, .int .i64 y.o, .int .i64 y.a]

set_option maxRecDepth 100000 in
set_option maxHeartbeats 8000000 in
theorem changeK_1 {wp : World} {p : Value} {l : List Stp} {b0 o0 lo : Nat} {S0 : List Nat} {u : TV} {T : JT} (y : V) (w : World) (hp : IsSteps wp p l) (hbp : Below wp.heap.size wp w) (hA : TAt w b0 o0 u) (hT : IsTS w lo S0 u T) (hnd : S0.Nodup) (hf : formedB T = true) (hsz : T.size ≤ 400) (hb : b0 ∉ S0) (hz : lo ≤ w.heap.size) (hfz : ∀ d, w.frozen? ⟨b0, d, none⟩ = false) (hpl : wp.heap.size ≤ lo) (hpb : wp.heap.size ≤ b0) :
    Calls Tryd.prog 24 #[.pointer (some ⟨b0, o0, none⟩), pchK 1 p y] w fun e w' => ChgS 1 w b0 o0 lo S0 T l y e w' := by
  obtain ⟨pa, pc, rfl, g1, g2, g3⟩ := hp
  have hp : IsSteps wp (.slice pa l.length pc) l := ⟨pa, pc, rfl, g1, g2, g3⟩
  clear g1 g3
  have HH : Hid (IsSteps wp (.slice pa l.length pc) l ∧ Below wp.heap.size wp w ∧ TAt w b0 o0 u ∧ IsTS w lo S0 u T ∧ S0.Nodup ∧ formedB T = true ∧ T.size ≤ 400 ∧ b0 ∉ S0 ∧ lo ≤ w.heap.size ∧ (∀ d, w.frozen? ⟨b0, d, none⟩ = false) ∧ wp.heap.size ≤ lo ∧ wp.heap.size ≤ b0) := ⟨hp, hbp, hA, hT, hnd, hf, hsz, hb, hz, hfz, hpl, hpb⟩
  have b1 := (Below.refl w.heap.size w).alloc (Nat.le_refl _) (.cells #[.int .i64 1, .slice pa l.length pc, .int .i64 y.k, .int .i64 y.n, .string y.t, .int .i64 y.o, .int .i64 y.a] 43)
  have n1 : (w.alloc (.cells #[.int .i64 1, .slice pa l.length pc, .int .i64 y.k, .int .i64 y.n, .string y.t, .int .i64 y.o, .int .i64 y.a] 43)).heap[w.heap.size]? = some (.cells #[.int .i64 1, .slice pa l.length pc, .int .i64 y.k, .int .i64 y.n, .string y.t, .int .i64 y.o, .int .i64 y.a] 43) := (MapKept.heap_alloc w _).1
  obtain ⟨post, hpost⟩ : ∃ post, post = ChgS 1 w b0 o0 lo S0 T l y := ⟨_, rfl⟩
  rw [← hpost]
  have HPO : Hid (post = ChgS 1 w b0 o0 lo S0 T l y) := hpost
  clear hpost hp hbp hA hT hnd hf hsz hb hz hfz hpl hpb
  by_cases hl : l = []
  · have HEND : Hid (post (.returned (.bool false)) (w.alloc (.cells #[.int .i64 1, .slice pa l.length pc, .int .i64 y.k, .int .i64 y.n, .string y.t, .int .i64 y.o, .int .i64 y.a] 43))) := by
      show post _ _
      rw [HPO.out]
      exact Or.inr ⟨rfl, fun T' h => by rw [hl] at h; exact absurd h (by simp [UpdK]), b1⟩
    rw [hl] at HEND ⊢
    clear HH b1 n1
    obtain ⟨yk, yn, yt, yo, ya⟩ := y
    dsimp only [pchK] at HEND ⊢
    go_enter Tryd.func24, Tryd.ntmps24
    go_wp2
    exact HEND.out
  · obtain ⟨m, hm⟩ : ∃ m, l.length = m + 1 := ⟨l.length - 1, by have : l.length ≠ 0 := fun e => hl (List.length_eq_zero_iff.1 e); omega⟩
    have hld : l = l.take m ++ [l[m]'(by omega)] := by
      have h1 := List.take_succ_eq_append_getElem (l := l) (i := m) (by omega)
      rw [← h1, List.take_of_length_le (by omega)]
    obtain ⟨hp, hbp, hA, hT, hnd, hf, hsz, hb, hz, hfz, hpl, hpb⟩ := HH.out
    have bp1 := hbp.trans (b1.mono hbp.size)
    obtain ⟨pb, po, rfl, hpb4, hmem⟩ := hp.cells bp1 hl
    obtain ⟨e0, e1⟩ := hmem m (by omega)
    have EW := followS_any (w.alloc (.cells #[.int .i64 1, .slice (some ⟨pb, po, none⟩) l.length pc, .int .i64 y.k, .int .i64 y.n, .string y.t, .int .i64 y.o, .int .i64 y.a] 43)) (hA.below b1) (hT.keep (fun k k2 => b1.block k (hT.low k k2).2)) hnd hb (fun d => by
      have h9 := hfz d
      unfold World.frozen? at h9 ⊢
      rw [b1.block b0 hA.1]
      exact h9) ((hp.init m (by omega)).below bp1) hf
    obtain ⟨s, hs⟩ : ∃ s, s = l[m]'(by omega) := ⟨_, rfl⟩
    rw [← hs] at hld e0 e1
    have hpw : pb < wp.heap.size := hpb4
    have HLD : Hid (l = l.take m ++ [s]) := hld
    have hpc : (m : Int) ≤ pc := by
      obtain ⟨_, _, e9, h9, _⟩ := hp
      have := (Value.slice.inj e9).2.2
      omega
    have hpc0 : ¬ pc = 0 := by
      obtain ⟨_, _, e9, h9, _⟩ := hp
      have := (Value.slice.inj e9).2.2
      omega
    obtain ⟨pn, hpn⟩ : ∃ pn, pn = l.length := ⟨_, rfl⟩
    have hw1 : IntKind.i64.wrap ((pn : Int) - 1) = (m : Int) := by rw [IntKind.wrap_i64]; omega
    have hm0 : ¬ (m : Int) < 0 := by omega
    have hmp : (m : Int) < pn := by omega
    rw [← hpn] at EW n1 b1 e0 e1 ⊢
    have HB1 : Hid (Below w.heap.size w (w.alloc (.cells #[.int .i64 1, .slice (some ⟨pb, po, none⟩) pn pc, .int .i64 y.k, .int .i64 y.n, .string y.t, .int .i64 y.o, .int .i64 y.a] 43))) := b1
    have HN1 : Hid ((w.alloc (.cells #[.int .i64 1, .slice (some ⟨pb, po, none⟩) pn pc, .int .i64 y.k, .int .i64 y.n, .string y.t, .int .i64 y.o, .int .i64 y.a] 43)).heap[w.heap.size]? = some (.cells #[.int .i64 1, .slice (some ⟨pb, po, none⟩) pn pc, .int .i64 y.k, .int .i64 y.n, .string y.t, .int .i64 y.o, .int .i64 y.a] 43)) := n1
    have HZ : Hid (wp.heap.size ≤ lo ∧ wp.heap.size ≤ b0 ∧ pb < wp.heap.size ∧ b0 < w.heap.size ∧ m < l.length ∧ lo ≤ w.heap.size) := ⟨hpl, hpb, hpw, hA.1, by omega, hz⟩
    have HS0 : Hid ((∀ k ∈ S0, lo ≤ k ∧ k < w.heap.size) ∧ b0 ∉ S0 ∧ T.size ≤ 400) := ⟨hT.low, hb, hsz⟩
    have HEE : Hid ((w.alloc (.cells #[.int .i64 1, .slice (some ⟨pb, po, none⟩) pn pc, .int .i64 y.k, .int .i64 y.n, .string y.t, .int .i64 y.o, .int .i64 y.a] 43)).cell? ⟨pb, po + m * 2, none⟩ = some (.string s.1) ∧ (w.alloc (.cells #[.int .i64 1, .slice (some ⟨pb, po, none⟩) pn pc, .int .i64 y.k, .int .i64 y.n, .string y.t, .int .i64 y.o, .int .i64 y.a] 43)).cell? ⟨pb, po + m * 2 + 1, none⟩ = some (.int .i64 s.2)) := ⟨e0, e1⟩
    clear hp hbp hA hT hnd hf hsz hb hz hfz hpl hpb bp1 hmem e0 e1 n1 b1 hld hpw hpb4 HH hs hl hm g2 hpn
    have HVV : Hid (y.val = y.val) := rfl
    clear HVV
    have EW' := EW
    clear EW
    obtain ⟨yk, yn, yt, yo, ya⟩ := y
    dsimp only [pchK] at *
    go_enter Tryd.func24, Tryd.ntmps24
    go_wp2_with fail
    go_fit EW'
    rintro e w3 ⟨hF, b3⟩
    clear EW'
    generalize w.alloc (.cells #[.int .i64 1, .slice (some ⟨pb, po, none⟩) pn pc, .int .i64 yk, .int .i64 yn, .string yt, .int .i64 yo, .int .i64 ya] 43) = W1 at *
    have hz1 := HB1.out.size
    have hz3 := b3.size
    rcases hF with ⟨t, b, o, sa, st, sb', u', rfl, hft, hole⟩ | ⟨hno, rfl⟩
    · have n3 := (b3.block _ (lt_of_heap HN1.out)).trans HN1.out
      have c0 : w3.cell? ⟨w.heap.size, 0, none⟩ = some (.int .i64 1) := Lib.cell_of_heap n3 0
      have c1 : w3.cell? ⟨w.heap.size, 1, none⟩ = some (.slice (some ⟨pb, po, none⟩) pn pc) := Lib.cell_of_heap n3 1
      have c2 : w3.cell? ⟨w.heap.size, 2, none⟩ = some (.int .i64 yk) := Lib.cell_of_heap n3 2
      have c3 : w3.cell? ⟨w.heap.size, 3, none⟩ = some (.int .i64 yn) := Lib.cell_of_heap n3 3
      have c4 : w3.cell? ⟨w.heap.size, 4, none⟩ = some (.string yt) := Lib.cell_of_heap n3 4
      have c5 : w3.cell? ⟨w.heap.size, 5, none⟩ = some (.int .i64 yo) := Lib.cell_of_heap n3 5
      have c6 : w3.cell? ⟨w.heap.size, 6, none⟩ = some (.int .i64 ya) := Lib.cell_of_heap n3 6
      have hzz := HZ.out
      have e0 : w3.cell? ⟨pb, po + m * 2, none⟩ = some (.string s.1) := (b3.cell (p := ⟨pb, po + m * 2, none⟩) (show pb < W1.heap.size by omega)).trans HEE.out.1
      have e1 : w3.cell? ⟨pb, po + m * 2 + 1, none⟩ = some (.int .i64 s.2) := (b3.cell (p := ⟨pb, po + m * 2 + 1, none⟩) (show pb < W1.heap.size by omega)).trans HEE.out.2
      have hS0 := HS0.out
      have hgt : getT T (l.take m) = some t := by rw [hole.getT, getT]
      have hfew := few_kids hft (Nat.le_trans (getT_size _ hgt) hS0.2.2)
      have hstn : st.Nodup := by
        have h9 := hole.nodup
        rw [hole.sets] at h9
        exact (List.nodup_append.1 (List.nodup_append.1 h9).2.1).1
      have hstS : ∀ k ∈ st, k ∈ S0 := fun k hk => by rw [hole.sets]; simp [hk]
      have hbst : b ∉ st := by
        rcases hole.place with ⟨e9, _⟩ | e9
        · rw [e9]; exact fun h9 => hS0.2.1 (hstS _ h9)
        · have h9 := hole.nodup
          rw [hole.sets] at h9
          exact fun h8 => (List.nodup_append.1 h9).2.2 b e9 b (List.mem_append_left _ h8) rfl
      have ES := fun (W : World) (hbW : Below w3.heap.size w3 W) => setS_any s ⟨yk, yn, yt, yo, ya⟩ W ((hole.at'.below b3).below hbW) ((hole.tree.keep (fun k k2 => b3.block k (by have := (hS0.1 k (hstS k k2)).2; omega))).keep (fun k k2 => hbW.block k (by have := (hS0.1 k (hstS k k2)).2; omega))) hstn hft hbst (by have := hbW.size; omega) ⟨by omega, by omega⟩ (fun d => by
        have h9 := hole.fz d
        have h8 := hole.at'.1
        unfold World.frozen? at h9 ⊢
        rw [hbW.block b (by omega), b3.block b h8]
        exact h9)
      have HCE : Hid (∀ w' e, PlaceP 1 w3.drew b o lo st t s ⟨yk, yn, yt, yo, ya⟩ e w' → ChgS 1 W1 b0 o0 lo S0 T (l.take m ++ [s]) ⟨yk, yn, yt, yo, ya⟩ e w') := fun w' e hS => changeS_end hole b3.drew (by omega) (fun k hk => by have := (hS0.1 k hk).2; omega) hS
      have HQQ : Hid (∀ w' e, ChgS 1 W1 b0 o0 lo S0 T (l.take m ++ [s]) ⟨yk, yn, yt, yo, ya⟩ e w' → w'.heap[w.heap.size]? = w3.drew.heap[w.heap.size]? ∧ w'.heap[pb]? = w3.drew.heap[pb]?) := by
        intro w' e hC
        have hlw := lt_of_heap HN1.out
        have key : ∀ k, k < W1.heap.size → k ∉ S0 → k ≠ b0 → w'.heap[k]? = w3.drew.heap[k]? := by
          intro k k1 k2 k3
          rcases hC with ⟨_, _, _, _, _, hT, _⟩ | ⟨_, _, hB⟩
          · exact (hT.block k k1 k2 k3).trans (b3.block k k1).symm
          · exact (hB.block k k1).trans (b3.block k k1).symm
        exact ⟨key _ hlw (fun h9 => by have := (hS0.1 _ h9).2; omega) (by omega), key pb (by omega) (fun h9 => by have := (hS0.1 _ h9).1; omega) (by omega)⟩
      have HPP : Hid (∀ w' e, ChgS 1 W1 b0 o0 lo S0 T (l.take m ++ [s]) ⟨yk, yn, yt, yo, ya⟩ e w' → post e w') := by
        intro w' e hC
        rw [HPO.out]
        rw [← HLD.out] at hC
        rcases hC with ⟨T', u9, S9, e9, h1, h2, h3, h4, h5, h6⟩ | ⟨e9, h1, h2⟩
        · exact Or.inl ⟨T', u9, S9, e9, h1, TurnS.of HB1.out h2 (Below.refl _ _) (by omega), h3, h4, h5, fun x hx => by
            rcases h6 x hx with h7 | h7
            · exact Or.inl h7
            · exact Or.inr (by omega)⟩
        · exact Or.inr ⟨e9, h1, HB1.out.trans (h2.mono hz1)⟩
      obtain ⟨sb, si⟩ := s
      dsimp only [stpV, V.val] at ES e0 e1
      clear hS0 hgt hfew hstn hstS hbst hzz hole hft n3
      go_upto_region 9 with fail
      refine wp_region_noPanic ?_
      refine wp_region_held_drew (S := fun W => W.cell? ⟨w.heap.size, 1, none⟩ = some (.slice (some ⟨pb, po, none⟩) pn pc) ∧ W.cell? ⟨w.heap.size, 2, none⟩ = some (.int .i64 yk) ∧ W.cell? ⟨w.heap.size, 3, none⟩ = some (.int .i64 yn) ∧ W.cell? ⟨w.heap.size, 4, none⟩ = some (.string yt) ∧ W.cell? ⟨w.heap.size, 5, none⟩ = some (.int .i64 yo) ∧ W.cell? ⟨w.heap.size, 6, none⟩ = some (.int .i64 ya) ∧ W.cell? ⟨pb, po + m * 2, none⟩ = some (.string sb) ∧ W.cell? ⟨pb, po + m * 2 + 1, none⟩ = some (.int .i64 si)) (by kernel_rfl) (⟨c1, c2, c3, c4, c5, c6, e0, e1⟩) (fun hHeld => ?_)
      refine wpAnyH_take (i := 0) (oi := { dst := some 24, op := Op.move (Operand.tmp 0), type := 52, pos := "patch.go:54", after := #[], guard := none }) (v := ?_) rfl (by kernel_rfl) (by kernel_rfl) (by kernel_rfl) (fun _ _ _ h => h) (Or.inl ⟨by rfl, ?_⟩) (by assumption) ?_
      rotate_left
      · intro wz hSw
        try dsimp only at hSw
        go_simp
        try with_reducible rfl
      try simp only [Act.put, List.setIfInBounds_toArray, List.set_cons_zero, List.set_cons_succ]
      refine wpAnyH_take (i := 1) (oi := { dst := some 25, op := Op.fieldAddr 43 (Operand.tmp 3) 1, type := 0, pos := "patch.go:54", after := #[], guard := none }) (v := ?_) rfl (by kernel_rfl) (by kernel_rfl) (by kernel_rfl) (fun _ _ _ h => h) (Or.inl ⟨by rfl, ?_⟩) (by assumption) ?_
      rotate_left
      · intro wz hSw
        try dsimp only at hSw
        go_simp
        try with_reducible rfl
      try simp only [Act.put, List.setIfInBounds_toArray, List.set_cons_zero, List.set_cons_succ]
      refine wpAnyH_take (i := 2) (oi := { dst := some 26, op := Op.load 41 (Operand.tmp 25), type := 41, pos := "patch.go:54", after := #[{ on := 1, ground := Ground.data }], guard := none }) (v := ?_) rfl (by kernel_rfl) (by kernel_rfl) (by kernel_rfl) (fun _ _ _ h => h) (Or.inl ⟨by rfl, ?_⟩) (by assumption) ?_
      rotate_left
      · intro wz hSw
        try dsimp only at hSw
        go_simp
        try with_reducible rfl
      try simp only [Act.put, List.setIfInBounds_toArray, List.set_cons_zero, List.set_cons_succ]
      refine wpAnyH_take (i := 3) (oi := { dst := some 27, op := Op.move (Operand.tmp 5), type := 3, pos := "patch.go:54", after := #[], guard := none }) (v := ?_) rfl (by kernel_rfl) (by kernel_rfl) (by kernel_rfl) (fun _ _ _ h => h) (Or.inl ⟨by rfl, ?_⟩) (by assumption) ?_
      rotate_left
      · intro wz hSw
        try dsimp only at hSw
        go_simp
        try with_reducible rfl
      try simp only [Act.put, List.setIfInBounds_toArray, List.set_cons_zero, List.set_cons_succ]
      refine wpAnyH_take (i := 4) (oi := { dst := some 28, op := Op.indexAddr 41 (Operand.tmp 26) (Operand.tmp 27), type := 0, pos := "patch.go:54", after := #[{ on := 2, ground := Ground.data }, { on := 3, ground := Ground.data }], guard := none }) (v := ?_) rfl (by kernel_rfl) (by kernel_rfl) (by kernel_rfl) (fun _ _ _ h => h) (Or.inl ⟨by rfl, ?_⟩) (by assumption) ?_
      rotate_left
      · intro wz hSw
        try dsimp only at hSw
        go_simp
        try with_reducible rfl
      try simp only [Act.put, List.setIfInBounds_toArray, List.set_cons_zero, List.set_cons_succ]
      refine wpAnyH_take (i := 5) (oi := { dst := some 29, op := Op.load 45 (Operand.tmp 28), type := 45, pos := "patch.go:54", after := #[{ on := 4, ground := Ground.data }], guard := none }) (v := ?_) rfl (by kernel_rfl) (by kernel_rfl) (by kernel_rfl) (fun _ _ _ h => h) (Or.inl ⟨by rfl, ?_⟩) (by assumption) ?_
      rotate_left
      · intro wz hSw
        try dsimp only at hSw
        go_simp
        try with_reducible rfl
      try simp only [Act.put, List.setIfInBounds_toArray, List.set_cons_zero, List.set_cons_succ]
      refine wpAnyH_take (i := 6) (oi := { dst := some 30, op := Op.fieldAddr 43 (Operand.tmp 3) 2, type := 0, pos := "patch.go:54", after := #[], guard := none }) (v := ?_) rfl (by kernel_rfl) (by kernel_rfl) (by kernel_rfl) (fun _ _ _ h => h) (Or.inl ⟨by rfl, ?_⟩) (by assumption) ?_
      rotate_left
      · intro wz hSw
        try dsimp only at hSw
        go_simp
        try with_reducible rfl
      try simp only [Act.put, List.setIfInBounds_toArray, List.set_cons_zero, List.set_cons_succ]
      refine wpAnyH_take (i := 7) (oi := { dst := some 31, op := Op.load 25 (Operand.tmp 30), type := 25, pos := "patch.go:54", after := #[{ on := 6, ground := Ground.data }], guard := none }) (v := ?_) rfl (by kernel_rfl) (by kernel_rfl) (by kernel_rfl) (fun _ _ _ h => h) (Or.inl ⟨by rfl, ?_⟩) (by assumption) ?_
      rotate_left
      · intro wz hSw
        try dsimp only at hSw
        go_simp
        try with_reducible rfl
      try simp only [Act.put, List.setIfInBounds_toArray, List.set_cons_zero, List.set_cons_succ]
      refine wpAnyH_ready (rs := [8]) (by kernel_rfl) (by simp) (AllReadyH.cons (o := { dst := some 32, op := Op.call { callee := Callee.value (Operand.func 33), args := #[Operand.tmp 24, Operand.tmp 29, Operand.tmp 31], argTypes := #[52, 45, 25] }, type := 4, pos := "patch.go:54", after := #[{ on := 0, ground := Ground.data }, { on := 5, ground := Ground.data }, { on := 7, ground := Ground.data }], guard := none }) rfl (fun K hK => ?_) AllReadyH.nil)
      go_simp
      go_at_call 33
      refine Calls.mono (ES _ (Below.refl _ _).drew) ?_
      rintro e w8 hSet
      have hEnd := HCE.out w8 e hSet
      have hQQ := HQQ.out w8 e hEnd
      obtain ⟨ok, hok⟩ : ∃ ok, e = .returned (.bool ok) := by
        rcases hEnd with ⟨_, _, _, h, _⟩ | ⟨h, _⟩
        · exact ⟨_, h⟩
        · exact ⟨_, h⟩
      subst hok
      go_wp2_with fail
      refine hK.out _ _ (keep8b (by assumption) ⟨hQQ.1, hQQ.1, hQQ.1, hQQ.1, hQQ.1, hQQ.1, hQQ.2, hQQ.2⟩) (fun hHeld8 => ?_)
      clear hK K
      try simp only [Act.put, List.setIfInBounds_toArray, List.set_cons_zero, List.set_cons_succ]
      refine wpAnyH_take (i := 9) (oi := { dst := some 4, op := Op.assign (Operand.tmp 32), type := 4, pos := "patch.go:54", after := #[{ on := 8, ground := Ground.data }, { on := 8, ground := Ground.chain }, { on := 0, ground := Ground.phase }, { on := 1, ground := Ground.phase }, { on := 2, ground := Ground.phase }, { on := 3, ground := Ground.phase }, { on := 4, ground := Ground.phase }, { on := 5, ground := Ground.phase }, { on := 6, ground := Ground.phase }, { on := 7, ground := Ground.phase }, { on := 8, ground := Ground.phase }], guard := none }) (v := ?_) rfl (by kernel_rfl) (by kernel_rfl) (by kernel_rfl) (fun _ _ _ h => h) (Or.inl ⟨by rfl, ?_⟩) (by assumption) ?_
      rotate_left
      · intro wz hSw
        try dsimp only at hSw
        go_simp
        try with_reducible rfl
      try simp only [Act.put, List.setIfInBounds_toArray, List.set_cons_zero, List.set_cons_succ]
      refine wpAnyH_done (by kernel_rfl) ?_ _
      refine NoPanic.normal ?_
      have HEND : Hid (post (.returned (.bool ok)) w8) := HPP.out w8 _ hEnd
      clear hHeld hHeld8 c0 c1 c2 c3 c4 c5 c6 e0 e1 ES HCE HQQ HPP hEnd hQQ hSet
      go_wp2
      exact HEND.out
    · have HEND : Hid (post (.returned (.bool false)) w3) := by
        show post _ _
        rw [HPO.out, HLD.out]
        refine Or.inr ⟨rfl, fun T' hT' => ?_, HB1.out.trans (b3.mono hz1)⟩
        obtain ⟨t1, t2, q1, _⟩ := updk_split _ _ _ hT'
        rw [hno] at q1
        cases q1
      clear hno
      go_wp2
      exact HEND.out
set_option maxRecDepth 100000 in
set_option maxHeartbeats 8000000 in
theorem changeK_2 {wp : World} {p : Value} {l : List Stp} {b0 o0 lo : Nat} {S0 : List Nat} {u : TV} {T : JT} (y : V) (w : World) (hp : IsSteps wp p l) (hbp : Below wp.heap.size wp w) (hA : TAt w b0 o0 u) (hT : IsTS w lo S0 u T) (hnd : S0.Nodup) (hf : formedB T = true) (hsz : T.size ≤ 400) (hb : b0 ∉ S0) (hz : lo ≤ w.heap.size) (hfz : ∀ d, w.frozen? ⟨b0, d, none⟩ = false) (hpl : wp.heap.size ≤ lo) (hpb : wp.heap.size ≤ b0) :
    Calls Tryd.prog 24 #[.pointer (some ⟨b0, o0, none⟩), pchK 2 p y] w fun e w' => ChgS 2 w b0 o0 lo S0 T l y e w' := by
  obtain ⟨pa, pc, rfl, g1, g2, g3⟩ := hp
  have hp : IsSteps wp (.slice pa l.length pc) l := ⟨pa, pc, rfl, g1, g2, g3⟩
  clear g1 g3
  have HH : Hid (IsSteps wp (.slice pa l.length pc) l ∧ Below wp.heap.size wp w ∧ TAt w b0 o0 u ∧ IsTS w lo S0 u T ∧ S0.Nodup ∧ formedB T = true ∧ T.size ≤ 400 ∧ b0 ∉ S0 ∧ lo ≤ w.heap.size ∧ (∀ d, w.frozen? ⟨b0, d, none⟩ = false) ∧ wp.heap.size ≤ lo ∧ wp.heap.size ≤ b0) := ⟨hp, hbp, hA, hT, hnd, hf, hsz, hb, hz, hfz, hpl, hpb⟩
  have b1 := (Below.refl w.heap.size w).alloc (Nat.le_refl _) (.cells #[.int .i64 2, .slice pa l.length pc, .int .i64 y.k, .int .i64 y.n, .string y.t, .int .i64 y.o, .int .i64 y.a] 43)
  have n1 : (w.alloc (.cells #[.int .i64 2, .slice pa l.length pc, .int .i64 y.k, .int .i64 y.n, .string y.t, .int .i64 y.o, .int .i64 y.a] 43)).heap[w.heap.size]? = some (.cells #[.int .i64 2, .slice pa l.length pc, .int .i64 y.k, .int .i64 y.n, .string y.t, .int .i64 y.o, .int .i64 y.a] 43) := (MapKept.heap_alloc w _).1
  obtain ⟨post, hpost⟩ : ∃ post, post = ChgS 2 w b0 o0 lo S0 T l y := ⟨_, rfl⟩
  rw [← hpost]
  have HPO : Hid (post = ChgS 2 w b0 o0 lo S0 T l y) := hpost
  clear hpost hp hbp hA hT hnd hf hsz hb hz hfz hpl hpb
  by_cases hl : l = []
  · have HEND : Hid (post (.returned (.bool false)) (w.alloc (.cells #[.int .i64 2, .slice pa l.length pc, .int .i64 y.k, .int .i64 y.n, .string y.t, .int .i64 y.o, .int .i64 y.a] 43))) := by
      show post _ _
      rw [HPO.out]
      exact Or.inr ⟨rfl, fun T' h => by rw [hl] at h; exact absurd h (by simp [UpdK]), b1⟩
    rw [hl] at HEND ⊢
    clear HH b1 n1
    obtain ⟨yk, yn, yt, yo, ya⟩ := y
    dsimp only [pchK] at HEND ⊢
    go_enter Tryd.func24, Tryd.ntmps24
    go_wp2
    exact HEND.out
  · obtain ⟨m, hm⟩ : ∃ m, l.length = m + 1 := ⟨l.length - 1, by have : l.length ≠ 0 := fun e => hl (List.length_eq_zero_iff.1 e); omega⟩
    have hld : l = l.take m ++ [l[m]'(by omega)] := by
      have h1 := List.take_succ_eq_append_getElem (l := l) (i := m) (by omega)
      rw [← h1, List.take_of_length_le (by omega)]
    obtain ⟨hp, hbp, hA, hT, hnd, hf, hsz, hb, hz, hfz, hpl, hpb⟩ := HH.out
    have bp1 := hbp.trans (b1.mono hbp.size)
    obtain ⟨pb, po, rfl, hpb4, hmem⟩ := hp.cells bp1 hl
    obtain ⟨e0, e1⟩ := hmem m (by omega)
    have EW := followS_any (w.alloc (.cells #[.int .i64 2, .slice (some ⟨pb, po, none⟩) l.length pc, .int .i64 y.k, .int .i64 y.n, .string y.t, .int .i64 y.o, .int .i64 y.a] 43)) (hA.below b1) (hT.keep (fun k k2 => b1.block k (hT.low k k2).2)) hnd hb (fun d => by
      have h9 := hfz d
      unfold World.frozen? at h9 ⊢
      rw [b1.block b0 hA.1]
      exact h9) ((hp.init m (by omega)).below bp1) hf
    obtain ⟨s, hs⟩ : ∃ s, s = l[m]'(by omega) := ⟨_, rfl⟩
    rw [← hs] at hld e0 e1
    have hpw : pb < wp.heap.size := hpb4
    have HLD : Hid (l = l.take m ++ [s]) := hld
    have hpc : (m : Int) ≤ pc := by
      obtain ⟨_, _, e9, h9, _⟩ := hp
      have := (Value.slice.inj e9).2.2
      omega
    have hpc0 : ¬ pc = 0 := by
      obtain ⟨_, _, e9, h9, _⟩ := hp
      have := (Value.slice.inj e9).2.2
      omega
    obtain ⟨pn, hpn⟩ : ∃ pn, pn = l.length := ⟨_, rfl⟩
    have hw1 : IntKind.i64.wrap ((pn : Int) - 1) = (m : Int) := by rw [IntKind.wrap_i64]; omega
    have hm0 : ¬ (m : Int) < 0 := by omega
    have hmp : (m : Int) < pn := by omega
    rw [← hpn] at EW n1 b1 e0 e1 ⊢
    have HB1 : Hid (Below w.heap.size w (w.alloc (.cells #[.int .i64 2, .slice (some ⟨pb, po, none⟩) pn pc, .int .i64 y.k, .int .i64 y.n, .string y.t, .int .i64 y.o, .int .i64 y.a] 43))) := b1
    have HN1 : Hid ((w.alloc (.cells #[.int .i64 2, .slice (some ⟨pb, po, none⟩) pn pc, .int .i64 y.k, .int .i64 y.n, .string y.t, .int .i64 y.o, .int .i64 y.a] 43)).heap[w.heap.size]? = some (.cells #[.int .i64 2, .slice (some ⟨pb, po, none⟩) pn pc, .int .i64 y.k, .int .i64 y.n, .string y.t, .int .i64 y.o, .int .i64 y.a] 43)) := n1
    have HZ : Hid (wp.heap.size ≤ lo ∧ wp.heap.size ≤ b0 ∧ pb < wp.heap.size ∧ b0 < w.heap.size ∧ m < l.length ∧ lo ≤ w.heap.size) := ⟨hpl, hpb, hpw, hA.1, by omega, hz⟩
    have HS0 : Hid ((∀ k ∈ S0, lo ≤ k ∧ k < w.heap.size) ∧ b0 ∉ S0 ∧ T.size ≤ 400) := ⟨hT.low, hb, hsz⟩
    have HEE : Hid ((w.alloc (.cells #[.int .i64 2, .slice (some ⟨pb, po, none⟩) pn pc, .int .i64 y.k, .int .i64 y.n, .string y.t, .int .i64 y.o, .int .i64 y.a] 43)).cell? ⟨pb, po + m * 2, none⟩ = some (.string s.1) ∧ (w.alloc (.cells #[.int .i64 2, .slice (some ⟨pb, po, none⟩) pn pc, .int .i64 y.k, .int .i64 y.n, .string y.t, .int .i64 y.o, .int .i64 y.a] 43)).cell? ⟨pb, po + m * 2 + 1, none⟩ = some (.int .i64 s.2)) := ⟨e0, e1⟩
    clear hp hbp hA hT hnd hf hsz hb hz hfz hpl hpb bp1 hmem e0 e1 n1 b1 hld hpw hpb4 HH hs hl hm g2 hpn
    have HVV : Hid (y.val = y.val) := rfl
    clear HVV
    have EW' := EW
    clear EW
    obtain ⟨yk, yn, yt, yo, ya⟩ := y
    dsimp only [pchK] at *
    go_enter Tryd.func24, Tryd.ntmps24
    go_wp2_with fail
    go_fit EW'
    rintro e w3 ⟨hF, b3⟩
    clear EW'
    generalize w.alloc (.cells #[.int .i64 2, .slice (some ⟨pb, po, none⟩) pn pc, .int .i64 yk, .int .i64 yn, .string yt, .int .i64 yo, .int .i64 ya] 43) = W1 at *
    have hz1 := HB1.out.size
    have hz3 := b3.size
    rcases hF with ⟨t, b, o, sa, st, sb', u', rfl, hft, hole⟩ | ⟨hno, rfl⟩
    · have n3 := (b3.block _ (lt_of_heap HN1.out)).trans HN1.out
      have c0 : w3.cell? ⟨w.heap.size, 0, none⟩ = some (.int .i64 2) := Lib.cell_of_heap n3 0
      have c1 : w3.cell? ⟨w.heap.size, 1, none⟩ = some (.slice (some ⟨pb, po, none⟩) pn pc) := Lib.cell_of_heap n3 1
      have c2 : w3.cell? ⟨w.heap.size, 2, none⟩ = some (.int .i64 yk) := Lib.cell_of_heap n3 2
      have c3 : w3.cell? ⟨w.heap.size, 3, none⟩ = some (.int .i64 yn) := Lib.cell_of_heap n3 3
      have c4 : w3.cell? ⟨w.heap.size, 4, none⟩ = some (.string yt) := Lib.cell_of_heap n3 4
      have c5 : w3.cell? ⟨w.heap.size, 5, none⟩ = some (.int .i64 yo) := Lib.cell_of_heap n3 5
      have c6 : w3.cell? ⟨w.heap.size, 6, none⟩ = some (.int .i64 ya) := Lib.cell_of_heap n3 6
      have hzz := HZ.out
      have e0 : w3.cell? ⟨pb, po + m * 2, none⟩ = some (.string s.1) := (b3.cell (p := ⟨pb, po + m * 2, none⟩) (show pb < W1.heap.size by omega)).trans HEE.out.1
      have e1 : w3.cell? ⟨pb, po + m * 2 + 1, none⟩ = some (.int .i64 s.2) := (b3.cell (p := ⟨pb, po + m * 2 + 1, none⟩) (show pb < W1.heap.size by omega)).trans HEE.out.2
      have hS0 := HS0.out
      have hgt : getT T (l.take m) = some t := by rw [hole.getT, getT]
      have hfew := few_kids hft (Nat.le_trans (getT_size _ hgt) hS0.2.2)
      have hstn : st.Nodup := by
        have h9 := hole.nodup
        rw [hole.sets] at h9
        exact (List.nodup_append.1 (List.nodup_append.1 h9).2.1).1
      have hstS : ∀ k ∈ st, k ∈ S0 := fun k hk => by rw [hole.sets]; simp [hk]
      have hbst : b ∉ st := by
        rcases hole.place with ⟨e9, _⟩ | e9
        · rw [e9]; exact fun h9 => hS0.2.1 (hstS _ h9)
        · have h9 := hole.nodup
          rw [hole.sets] at h9
          exact fun h8 => (List.nodup_append.1 h9).2.2 b e9 b (List.mem_append_left _ h8) rfl
      have ES := fun (W : World) (hbW : Below w3.heap.size w3 W) => removeS_any s ⟨yk, yn, yt, yo, ya⟩ W ((hole.at'.below b3).below hbW) ((hole.tree.keep (fun k k2 => b3.block k (by have := (hS0.1 k (hstS k k2)).2; omega))).keep (fun k k2 => hbW.block k (by have := (hS0.1 k (hstS k k2)).2; omega))) hstn hft hbst (fun d => by
        have h9 := hole.fz d
        have h8 := hole.at'.1
        unfold World.frozen? at h9 ⊢
        rw [hbW.block b (by omega), b3.block b h8]
        exact h9)
      have HCE : Hid (∀ w' e, PlaceP 2 w3 b o lo st t s ⟨yk, yn, yt, yo, ya⟩ e w' → ChgS 2 W1 b0 o0 lo S0 T (l.take m ++ [s]) ⟨yk, yn, yt, yo, ya⟩ e w') := fun w' e hS => changeS_end hole b3 (by omega) (fun k hk => by have := (hS0.1 k hk).2; omega) hS
      have HQQ : Hid (∀ w' e, ChgS 2 W1 b0 o0 lo S0 T (l.take m ++ [s]) ⟨yk, yn, yt, yo, ya⟩ e w' → w'.heap[w.heap.size]? = w3.drew.heap[w.heap.size]? ∧ w'.heap[pb]? = w3.drew.heap[pb]?) := by
        intro w' e hC
        have hlw := lt_of_heap HN1.out
        have key : ∀ k, k < W1.heap.size → k ∉ S0 → k ≠ b0 → w'.heap[k]? = w3.drew.heap[k]? := by
          intro k k1 k2 k3
          rcases hC with ⟨_, _, _, _, _, hT, _⟩ | ⟨_, _, hB⟩
          · exact (hT.block k k1 k2 k3).trans (b3.block k k1).symm
          · exact (hB.block k k1).trans (b3.block k k1).symm
        exact ⟨key _ hlw (fun h9 => by have := (hS0.1 _ h9).2; omega) (by omega), key pb (by omega) (fun h9 => by have := (hS0.1 _ h9).1; omega) (by omega)⟩
      have HPP : Hid (∀ w' e, ChgS 2 W1 b0 o0 lo S0 T (l.take m ++ [s]) ⟨yk, yn, yt, yo, ya⟩ e w' → post e w') := by
        intro w' e hC
        rw [HPO.out]
        rw [← HLD.out] at hC
        rcases hC with ⟨T', u9, S9, e9, h1, h2, h3, h4, h5, h6⟩ | ⟨e9, h1, h2⟩
        · exact Or.inl ⟨T', u9, S9, e9, h1, TurnS.of HB1.out h2 (Below.refl _ _) (by omega), h3, h4, h5, fun x hx => by
            rcases h6 x hx with h7 | h7
            · exact Or.inl h7
            · exact Or.inr (by omega)⟩
        · exact Or.inr ⟨e9, h1, HB1.out.trans (h2.mono hz1)⟩
      obtain ⟨sb, si⟩ := s
      dsimp only [stpV, V.val] at ES e0 e1
      clear hS0 hgt hfew hstn hstS hbst hzz hole hft n3
      have ES0 := ES _ (Below.refl _ _)
      clear ES c2 c3 c4 c5 c6
      go_wp2_with fail
      go_fit ES0
      rintro e w8 hSet
      have hEnd := HCE.out w8 e hSet
      obtain ⟨ok, hok⟩ : ∃ ok, e = .returned (.bool ok) := by
        rcases hEnd with ⟨_, _, _, h, _⟩ | ⟨h, _⟩
        · exact ⟨_, h⟩
        · exact ⟨_, h⟩
      subst hok
      have HEND : Hid (post (.returned (.bool ok)) w8) := HPP.out w8 _ hEnd
      clear c0 c1 e0 e1 ES0 HCE HQQ HPP hEnd hSet
      go_wp2
      exact HEND.out
    · have HEND : Hid (post (.returned (.bool false)) w3) := by
        show post _ _
        rw [HPO.out, HLD.out]
        refine Or.inr ⟨rfl, fun T' hT' => ?_, HB1.out.trans (b3.mono hz1)⟩
        obtain ⟨t1, t2, q1, _⟩ := updk_split _ _ _ hT'
        rw [hno] at q1
        cases q1
      clear hno
      go_wp2
      exact HEND.out
set_option maxRecDepth 100000 in
set_option maxHeartbeats 8000000 in
theorem changeK_3 {wp : World} {p : Value} {l : List Stp} {b0 o0 lo : Nat} {S0 : List Nat} {u : TV} {T : JT} (y : V) (w : World) (hp : IsSteps wp p l) (hbp : Below wp.heap.size wp w) (hA : TAt w b0 o0 u) (hT : IsTS w lo S0 u T) (hnd : S0.Nodup) (hf : formedB T = true) (hsz : T.size ≤ 400) (hb : b0 ∉ S0) (hz : lo ≤ w.heap.size) (hfz : ∀ d, w.frozen? ⟨b0, d, none⟩ = false) (hpl : wp.heap.size ≤ lo) (hpb : wp.heap.size ≤ b0) :
    Calls Tryd.prog 24 #[.pointer (some ⟨b0, o0, none⟩), pchK 3 p y] w fun e w' => ChgS 3 w b0 o0 lo S0 T l y e w' := by
  obtain ⟨pa, pc, rfl, g1, g2, g3⟩ := hp
  have hp : IsSteps wp (.slice pa l.length pc) l := ⟨pa, pc, rfl, g1, g2, g3⟩
  clear g1 g3
  have HH : Hid (IsSteps wp (.slice pa l.length pc) l ∧ Below wp.heap.size wp w ∧ TAt w b0 o0 u ∧ IsTS w lo S0 u T ∧ S0.Nodup ∧ formedB T = true ∧ T.size ≤ 400 ∧ b0 ∉ S0 ∧ lo ≤ w.heap.size ∧ (∀ d, w.frozen? ⟨b0, d, none⟩ = false) ∧ wp.heap.size ≤ lo ∧ wp.heap.size ≤ b0) := ⟨hp, hbp, hA, hT, hnd, hf, hsz, hb, hz, hfz, hpl, hpb⟩
  have b1 := (Below.refl w.heap.size w).alloc (Nat.le_refl _) (.cells #[.int .i64 3, .slice pa l.length pc, .int .i64 y.k, .int .i64 y.n, .string y.t, .int .i64 y.o, .int .i64 y.a] 43)
  have n1 : (w.alloc (.cells #[.int .i64 3, .slice pa l.length pc, .int .i64 y.k, .int .i64 y.n, .string y.t, .int .i64 y.o, .int .i64 y.a] 43)).heap[w.heap.size]? = some (.cells #[.int .i64 3, .slice pa l.length pc, .int .i64 y.k, .int .i64 y.n, .string y.t, .int .i64 y.o, .int .i64 y.a] 43) := (MapKept.heap_alloc w _).1
  obtain ⟨post, hpost⟩ : ∃ post, post = ChgS 3 w b0 o0 lo S0 T l y := ⟨_, rfl⟩
  rw [← hpost]
  have HPO : Hid (post = ChgS 3 w b0 o0 lo S0 T l y) := hpost
  clear hpost hp hbp hA hT hnd hf hsz hb hz hfz hpl hpb
  by_cases hl : l = []
  · have HEND : Hid (post (.returned (.bool false)) (w.alloc (.cells #[.int .i64 3, .slice pa l.length pc, .int .i64 y.k, .int .i64 y.n, .string y.t, .int .i64 y.o, .int .i64 y.a] 43))) := by
      show post _ _
      rw [HPO.out]
      exact Or.inr ⟨rfl, fun T' h => by rw [hl] at h; exact absurd h (by simp [UpdK]), b1⟩
    rw [hl] at HEND ⊢
    clear HH b1 n1
    obtain ⟨yk, yn, yt, yo, ya⟩ := y
    dsimp only [pchK] at HEND ⊢
    go_enter Tryd.func24, Tryd.ntmps24
    go_wp2
    exact HEND.out
  · obtain ⟨m, hm⟩ : ∃ m, l.length = m + 1 := ⟨l.length - 1, by have : l.length ≠ 0 := fun e => hl (List.length_eq_zero_iff.1 e); omega⟩
    have hld : l = l.take m ++ [l[m]'(by omega)] := by
      have h1 := List.take_succ_eq_append_getElem (l := l) (i := m) (by omega)
      rw [← h1, List.take_of_length_le (by omega)]
    obtain ⟨hp, hbp, hA, hT, hnd, hf, hsz, hb, hz, hfz, hpl, hpb⟩ := HH.out
    have bp1 := hbp.trans (b1.mono hbp.size)
    obtain ⟨pb, po, rfl, hpb4, hmem⟩ := hp.cells bp1 hl
    obtain ⟨e0, e1⟩ := hmem m (by omega)
    have EW := followS_any (w.alloc (.cells #[.int .i64 3, .slice (some ⟨pb, po, none⟩) l.length pc, .int .i64 y.k, .int .i64 y.n, .string y.t, .int .i64 y.o, .int .i64 y.a] 43)) (hA.below b1) (hT.keep (fun k k2 => b1.block k (hT.low k k2).2)) hnd hb (fun d => by
      have h9 := hfz d
      unfold World.frozen? at h9 ⊢
      rw [b1.block b0 hA.1]
      exact h9) ((hp.init m (by omega)).below bp1) hf
    obtain ⟨s, hs⟩ : ∃ s, s = l[m]'(by omega) := ⟨_, rfl⟩
    rw [← hs] at hld e0 e1
    have hpw : pb < wp.heap.size := hpb4
    have HLD : Hid (l = l.take m ++ [s]) := hld
    have hpc : (m : Int) ≤ pc := by
      obtain ⟨_, _, e9, h9, _⟩ := hp
      have := (Value.slice.inj e9).2.2
      omega
    have hpc0 : ¬ pc = 0 := by
      obtain ⟨_, _, e9, h9, _⟩ := hp
      have := (Value.slice.inj e9).2.2
      omega
    obtain ⟨pn, hpn⟩ : ∃ pn, pn = l.length := ⟨_, rfl⟩
    have hw1 : IntKind.i64.wrap ((pn : Int) - 1) = (m : Int) := by rw [IntKind.wrap_i64]; omega
    have hm0 : ¬ (m : Int) < 0 := by omega
    have hmp : (m : Int) < pn := by omega
    rw [← hpn] at EW n1 b1 e0 e1 ⊢
    have HB1 : Hid (Below w.heap.size w (w.alloc (.cells #[.int .i64 3, .slice (some ⟨pb, po, none⟩) pn pc, .int .i64 y.k, .int .i64 y.n, .string y.t, .int .i64 y.o, .int .i64 y.a] 43))) := b1
    have HN1 : Hid ((w.alloc (.cells #[.int .i64 3, .slice (some ⟨pb, po, none⟩) pn pc, .int .i64 y.k, .int .i64 y.n, .string y.t, .int .i64 y.o, .int .i64 y.a] 43)).heap[w.heap.size]? = some (.cells #[.int .i64 3, .slice (some ⟨pb, po, none⟩) pn pc, .int .i64 y.k, .int .i64 y.n, .string y.t, .int .i64 y.o, .int .i64 y.a] 43)) := n1
    have HZ : Hid (wp.heap.size ≤ lo ∧ wp.heap.size ≤ b0 ∧ pb < wp.heap.size ∧ b0 < w.heap.size ∧ m < l.length ∧ lo ≤ w.heap.size) := ⟨hpl, hpb, hpw, hA.1, by omega, hz⟩
    have HS0 : Hid ((∀ k ∈ S0, lo ≤ k ∧ k < w.heap.size) ∧ b0 ∉ S0 ∧ T.size ≤ 400) := ⟨hT.low, hb, hsz⟩
    have HEE : Hid ((w.alloc (.cells #[.int .i64 3, .slice (some ⟨pb, po, none⟩) pn pc, .int .i64 y.k, .int .i64 y.n, .string y.t, .int .i64 y.o, .int .i64 y.a] 43)).cell? ⟨pb, po + m * 2, none⟩ = some (.string s.1) ∧ (w.alloc (.cells #[.int .i64 3, .slice (some ⟨pb, po, none⟩) pn pc, .int .i64 y.k, .int .i64 y.n, .string y.t, .int .i64 y.o, .int .i64 y.a] 43)).cell? ⟨pb, po + m * 2 + 1, none⟩ = some (.int .i64 s.2)) := ⟨e0, e1⟩
    clear hp hbp hA hT hnd hf hsz hb hz hfz hpl hpb bp1 hmem e0 e1 n1 b1 hld hpw hpb4 HH hs hl hm g2 hpn
    have HVV : Hid (y.val = y.val) := rfl
    clear HVV
    have EW' := EW
    clear EW
    obtain ⟨yk, yn, yt, yo, ya⟩ := y
    dsimp only [pchK] at *
    go_enter Tryd.func24, Tryd.ntmps24
    go_wp2_with fail
    go_fit EW'
    rintro e w3 ⟨hF, b3⟩
    clear EW'
    generalize w.alloc (.cells #[.int .i64 3, .slice (some ⟨pb, po, none⟩) pn pc, .int .i64 yk, .int .i64 yn, .string yt, .int .i64 yo, .int .i64 ya] 43) = W1 at *
    have hz1 := HB1.out.size
    have hz3 := b3.size
    rcases hF with ⟨t, b, o, sa, st, sb', u', rfl, hft, hole⟩ | ⟨hno, rfl⟩
    · have n3 := (b3.block _ (lt_of_heap HN1.out)).trans HN1.out
      have c0 : w3.cell? ⟨w.heap.size, 0, none⟩ = some (.int .i64 3) := Lib.cell_of_heap n3 0
      have c1 : w3.cell? ⟨w.heap.size, 1, none⟩ = some (.slice (some ⟨pb, po, none⟩) pn pc) := Lib.cell_of_heap n3 1
      have c2 : w3.cell? ⟨w.heap.size, 2, none⟩ = some (.int .i64 yk) := Lib.cell_of_heap n3 2
      have c3 : w3.cell? ⟨w.heap.size, 3, none⟩ = some (.int .i64 yn) := Lib.cell_of_heap n3 3
      have c4 : w3.cell? ⟨w.heap.size, 4, none⟩ = some (.string yt) := Lib.cell_of_heap n3 4
      have c5 : w3.cell? ⟨w.heap.size, 5, none⟩ = some (.int .i64 yo) := Lib.cell_of_heap n3 5
      have c6 : w3.cell? ⟨w.heap.size, 6, none⟩ = some (.int .i64 ya) := Lib.cell_of_heap n3 6
      have hzz := HZ.out
      have e0 : w3.cell? ⟨pb, po + m * 2, none⟩ = some (.string s.1) := (b3.cell (p := ⟨pb, po + m * 2, none⟩) (show pb < W1.heap.size by omega)).trans HEE.out.1
      have e1 : w3.cell? ⟨pb, po + m * 2 + 1, none⟩ = some (.int .i64 s.2) := (b3.cell (p := ⟨pb, po + m * 2 + 1, none⟩) (show pb < W1.heap.size by omega)).trans HEE.out.2
      have hS0 := HS0.out
      have hgt : getT T (l.take m) = some t := by rw [hole.getT, getT]
      have hfew := few_kids hft (Nat.le_trans (getT_size _ hgt) hS0.2.2)
      have hstn : st.Nodup := by
        have h9 := hole.nodup
        rw [hole.sets] at h9
        exact (List.nodup_append.1 (List.nodup_append.1 h9).2.1).1
      have hstS : ∀ k ∈ st, k ∈ S0 := fun k hk => by rw [hole.sets]; simp [hk]
      have hbst : b ∉ st := by
        rcases hole.place with ⟨e9, _⟩ | e9
        · rw [e9]; exact fun h9 => hS0.2.1 (hstS _ h9)
        · have h9 := hole.nodup
          rw [hole.sets] at h9
          exact fun h8 => (List.nodup_append.1 h9).2.2 b e9 b (List.mem_append_left _ h8) rfl
      have ES := fun (W : World) (hbW : Below w3.heap.size w3 W) => insertS_any s ⟨yk, yn, yt, yo, ya⟩ W ((hole.at'.below b3).below hbW) ((hole.tree.keep (fun k k2 => b3.block k (by have := (hS0.1 k (hstS k k2)).2; omega))).keep (fun k k2 => hbW.block k (by have := (hS0.1 k (hstS k k2)).2; omega))) hstn hbst (by have := hbW.size; omega) (by omega) (fun d => by
        have h9 := hole.fz d
        have h8 := hole.at'.1
        unfold World.frozen? at h9 ⊢
        rw [hbW.block b (by omega), b3.block b h8]
        exact h9)
      have HCE : Hid (∀ w' e, PlaceP 3 w3.drew b o lo st t s ⟨yk, yn, yt, yo, ya⟩ e w' → ChgS 3 W1 b0 o0 lo S0 T (l.take m ++ [s]) ⟨yk, yn, yt, yo, ya⟩ e w') := fun w' e hS => changeS_end hole b3.drew (by omega) (fun k hk => by have := (hS0.1 k hk).2; omega) hS
      have HQQ : Hid (∀ w' e, ChgS 3 W1 b0 o0 lo S0 T (l.take m ++ [s]) ⟨yk, yn, yt, yo, ya⟩ e w' → w'.heap[w.heap.size]? = w3.drew.heap[w.heap.size]? ∧ w'.heap[pb]? = w3.drew.heap[pb]?) := by
        intro w' e hC
        have hlw := lt_of_heap HN1.out
        have key : ∀ k, k < W1.heap.size → k ∉ S0 → k ≠ b0 → w'.heap[k]? = w3.drew.heap[k]? := by
          intro k k1 k2 k3
          rcases hC with ⟨_, _, _, _, _, hT, _⟩ | ⟨_, _, hB⟩
          · exact (hT.block k k1 k2 k3).trans (b3.block k k1).symm
          · exact (hB.block k k1).trans (b3.block k k1).symm
        exact ⟨key _ hlw (fun h9 => by have := (hS0.1 _ h9).2; omega) (by omega), key pb (by omega) (fun h9 => by have := (hS0.1 _ h9).1; omega) (by omega)⟩
      have HPP : Hid (∀ w' e, ChgS 3 W1 b0 o0 lo S0 T (l.take m ++ [s]) ⟨yk, yn, yt, yo, ya⟩ e w' → post e w') := by
        intro w' e hC
        rw [HPO.out]
        rw [← HLD.out] at hC
        rcases hC with ⟨T', u9, S9, e9, h1, h2, h3, h4, h5, h6⟩ | ⟨e9, h1, h2⟩
        · exact Or.inl ⟨T', u9, S9, e9, h1, TurnS.of HB1.out h2 (Below.refl _ _) (by omega), h3, h4, h5, fun x hx => by
            rcases h6 x hx with h7 | h7
            · exact Or.inl h7
            · exact Or.inr (by omega)⟩
        · exact Or.inr ⟨e9, h1, HB1.out.trans (h2.mono hz1)⟩
      obtain ⟨sb, si⟩ := s
      dsimp only [stpV, V.val] at ES e0 e1
      clear hS0 hgt hfew hstn hstS hbst hzz hole hft n3
      go_upto_region 12 with fail
      refine wp_region_noPanic ?_
      refine wp_region_held_drew (S := fun W => W.cell? ⟨w.heap.size, 1, none⟩ = some (.slice (some ⟨pb, po, none⟩) pn pc) ∧ W.cell? ⟨w.heap.size, 2, none⟩ = some (.int .i64 yk) ∧ W.cell? ⟨w.heap.size, 3, none⟩ = some (.int .i64 yn) ∧ W.cell? ⟨w.heap.size, 4, none⟩ = some (.string yt) ∧ W.cell? ⟨w.heap.size, 5, none⟩ = some (.int .i64 yo) ∧ W.cell? ⟨w.heap.size, 6, none⟩ = some (.int .i64 ya) ∧ W.cell? ⟨pb, po + m * 2, none⟩ = some (.string sb) ∧ W.cell? ⟨pb, po + m * 2 + 1, none⟩ = some (.int .i64 si)) (by kernel_rfl) (⟨c1, c2, c3, c4, c5, c6, e0, e1⟩) (fun hHeld => ?_)
      refine wpAnyH_take (i := 0) (oi := { dst := some 42, op := Op.move (Operand.tmp 0), type := 52, pos := "patch.go:58", after := #[], guard := none }) (v := ?_) rfl (by kernel_rfl) (by kernel_rfl) (by kernel_rfl) (fun _ _ _ h => h) (Or.inl ⟨by rfl, ?_⟩) (by assumption) ?_
      rotate_left
      · intro wz hSw
        try dsimp only at hSw
        go_simp
        try with_reducible rfl
      try simp only [Act.put, List.setIfInBounds_toArray, List.set_cons_zero, List.set_cons_succ]
      refine wpAnyH_take (i := 1) (oi := { dst := some 43, op := Op.fieldAddr 43 (Operand.tmp 3) 1, type := 0, pos := "patch.go:58", after := #[], guard := none }) (v := ?_) rfl (by kernel_rfl) (by kernel_rfl) (by kernel_rfl) (fun _ _ _ h => h) (Or.inl ⟨by rfl, ?_⟩) (by assumption) ?_
      rotate_left
      · intro wz hSw
        try dsimp only at hSw
        go_simp
        try with_reducible rfl
      try simp only [Act.put, List.setIfInBounds_toArray, List.set_cons_zero, List.set_cons_succ]
      refine wpAnyH_take (i := 2) (oi := { dst := some 44, op := Op.load 41 (Operand.tmp 43), type := 41, pos := "patch.go:58", after := #[{ on := 1, ground := Ground.data }], guard := none }) (v := ?_) rfl (by kernel_rfl) (by kernel_rfl) (by kernel_rfl) (fun _ _ _ h => h) (Or.inl ⟨by rfl, ?_⟩) (by assumption) ?_
      rotate_left
      · intro wz hSw
        try dsimp only at hSw
        go_simp
        try with_reducible rfl
      try simp only [Act.put, List.setIfInBounds_toArray, List.set_cons_zero, List.set_cons_succ]
      refine wpAnyH_take (i := 3) (oi := { dst := some 45, op := Op.move (Operand.tmp 5), type := 3, pos := "patch.go:58", after := #[], guard := none }) (v := ?_) rfl (by kernel_rfl) (by kernel_rfl) (by kernel_rfl) (fun _ _ _ h => h) (Or.inl ⟨by rfl, ?_⟩) (by assumption) ?_
      rotate_left
      · intro wz hSw
        try dsimp only at hSw
        go_simp
        try with_reducible rfl
      try simp only [Act.put, List.setIfInBounds_toArray, List.set_cons_zero, List.set_cons_succ]
      refine wpAnyH_take (i := 4) (oi := { dst := some 46, op := Op.indexAddr 41 (Operand.tmp 44) (Operand.tmp 45), type := 0, pos := "patch.go:58", after := #[{ on := 2, ground := Ground.data }, { on := 3, ground := Ground.data }], guard := none }) (v := ?_) rfl (by kernel_rfl) (by kernel_rfl) (by kernel_rfl) (fun _ _ _ h => h) (Or.inl ⟨by rfl, ?_⟩) (by assumption) ?_
      rotate_left
      · intro wz hSw
        try dsimp only at hSw
        go_simp
        try with_reducible rfl
      try simp only [Act.put, List.setIfInBounds_toArray, List.set_cons_zero, List.set_cons_succ]
      refine wpAnyH_take (i := 5) (oi := { dst := some 47, op := Op.load 45 (Operand.tmp 46), type := 45, pos := "patch.go:58", after := #[{ on := 4, ground := Ground.data }], guard := none }) (v := ?_) rfl (by kernel_rfl) (by kernel_rfl) (by kernel_rfl) (fun _ _ _ h => h) (Or.inl ⟨by rfl, ?_⟩) (by assumption) ?_
      rotate_left
      · intro wz hSw
        try dsimp only at hSw
        go_simp
        try with_reducible rfl
      try simp only [Act.put, List.setIfInBounds_toArray, List.set_cons_zero, List.set_cons_succ]
      refine wpAnyH_take (i := 6) (oi := { dst := some 48, op := Op.fieldAddr 43 (Operand.tmp 3) 2, type := 0, pos := "patch.go:58", after := #[], guard := none }) (v := ?_) rfl (by kernel_rfl) (by kernel_rfl) (by kernel_rfl) (fun _ _ _ h => h) (Or.inl ⟨by rfl, ?_⟩) (by assumption) ?_
      rotate_left
      · intro wz hSw
        try dsimp only at hSw
        go_simp
        try with_reducible rfl
      try simp only [Act.put, List.setIfInBounds_toArray, List.set_cons_zero, List.set_cons_succ]
      refine wpAnyH_take (i := 7) (oi := { dst := some 49, op := Op.load 25 (Operand.tmp 48), type := 25, pos := "patch.go:58", after := #[{ on := 6, ground := Ground.data }], guard := none }) (v := ?_) rfl (by kernel_rfl) (by kernel_rfl) (by kernel_rfl) (fun _ _ _ h => h) (Or.inl ⟨by rfl, ?_⟩) (by assumption) ?_
      rotate_left
      · intro wz hSw
        try dsimp only at hSw
        go_simp
        try with_reducible rfl
      try simp only [Act.put, List.setIfInBounds_toArray, List.set_cons_zero, List.set_cons_succ]
      refine wpAnyH_ready (rs := [8]) (by kernel_rfl) (by simp) (AllReadyH.cons (o := { dst := some 50, op := Op.call { callee := Callee.value (Operand.func 35), args := #[Operand.tmp 42, Operand.tmp 47, Operand.tmp 49], argTypes := #[52, 45, 25] }, type := 4, pos := "patch.go:58", after := #[{ on := 0, ground := Ground.data }, { on := 5, ground := Ground.data }, { on := 7, ground := Ground.data }], guard := none }) rfl (fun K hK => ?_) AllReadyH.nil)
      go_simp
      go_at_call 35
      refine Calls.mono (ES _ (Below.refl _ _).drew) ?_
      rintro e w8 hSet
      have hEnd := HCE.out w8 e hSet
      have hQQ := HQQ.out w8 e hEnd
      obtain ⟨ok, hok⟩ : ∃ ok, e = .returned (.bool ok) := by
        rcases hEnd with ⟨_, _, _, h, _⟩ | ⟨h, _⟩
        · exact ⟨_, h⟩
        · exact ⟨_, h⟩
      subst hok
      go_wp2_with fail
      refine hK.out _ _ (keep8b (by assumption) ⟨hQQ.1, hQQ.1, hQQ.1, hQQ.1, hQQ.1, hQQ.1, hQQ.2, hQQ.2⟩) (fun hHeld8 => ?_)
      clear hK K
      try simp only [Act.put, List.setIfInBounds_toArray, List.set_cons_zero, List.set_cons_succ]
      refine wpAnyH_take (i := 9) (oi := { dst := some 4, op := Op.assign (Operand.tmp 50), type := 4, pos := "patch.go:58", after := #[{ on := 8, ground := Ground.data }, { on := 8, ground := Ground.chain }, { on := 0, ground := Ground.phase }, { on := 1, ground := Ground.phase }, { on := 2, ground := Ground.phase }, { on := 3, ground := Ground.phase }, { on := 4, ground := Ground.phase }, { on := 5, ground := Ground.phase }, { on := 6, ground := Ground.phase }, { on := 7, ground := Ground.phase }, { on := 8, ground := Ground.phase }], guard := none }) (v := ?_) rfl (by kernel_rfl) (by kernel_rfl) (by kernel_rfl) (fun _ _ _ h => h) (Or.inl ⟨by rfl, ?_⟩) (by assumption) ?_
      rotate_left
      · intro wz hSw
        try dsimp only at hSw
        go_simp
        try with_reducible rfl
      try simp only [Act.put, List.setIfInBounds_toArray, List.set_cons_zero, List.set_cons_succ]
      refine wpAnyH_done (by kernel_rfl) ?_ _
      refine NoPanic.normal ?_
      have HEND : Hid (post (.returned (.bool ok)) w8) := HPP.out w8 _ hEnd
      clear hHeld hHeld8 c0 c1 c2 c3 c4 c5 c6 e0 e1 ES HCE HQQ HPP hEnd hQQ hSet
      go_wp2
      exact HEND.out
    · have HEND : Hid (post (.returned (.bool false)) w3) := by
        show post _ _
        rw [HPO.out, HLD.out]
        refine Or.inr ⟨rfl, fun T' hT' => ?_, HB1.out.trans (b3.mono hz1)⟩
        obtain ⟨t1, t2, q1, _⟩ := updk_split _ _ _ hT'
        rw [hno] at q1
        cases q1
      clear hno
      go_wp2
      exact HEND.out
theorem changeK_any {wp : World} {p : Value} {l : List Stp} {b0 o0 lo : Nat} {S0 : List Nat} {u : TV} {T : JT} (k : Int) (y : V) (w : World) (hk : 1 ≤ k ∧ k ≤ 3) (hp : IsSteps wp p l) (hbp : Below wp.heap.size wp w) (hA : TAt w b0 o0 u) (hT : IsTS w lo S0 u T) (hnd : S0.Nodup) (hf : formedB T = true) (hsz : T.size ≤ 400) (hb : b0 ∉ S0) (hz : lo ≤ w.heap.size) (hfz : ∀ d, w.frozen? ⟨b0, d, none⟩ = false) (hpl : wp.heap.size ≤ lo) (hpb : wp.heap.size ≤ b0) :
    Calls Tryd.prog 24 #[.pointer (some ⟨b0, o0, none⟩), pchK k p y] w fun e w' => ChgS k w b0 o0 lo S0 T l y e w' := by
  obtain rfl | rfl | rfl : k = 1 ∨ k = 2 ∨ k = 3 := by omega
  · exact changeK_1 y w hp hbp hA hT hnd hf hsz hb hz hfz hpl hpb
  · exact changeK_2 y w hp hbp hA hT hnd hf hsz hb hz hfz hpl hpb
  · exact changeK_3 y w hp hbp hA hT hnd hf hsz hb hz hfz hpl hpb
end Go.Proofs.YtegbjkjeoegfbaaDoor
