/-
  What is proved: the function copyOf of package json, called with a tree that lies in memory, answers the same tree, with rows of its own.
  Conditions: the tree lies in memory, is one, and has at most 400 trees in it.
-/
import Derived.Test.YtjmepegckahnfaaDoorJCopyM
namespace Go.Proofs.YtjmepegckahnfaaDoor
open Go.RowKit Go.Sort

theorem keep8 {W W' : World} {p0 p1 p2 p3 p4 p5 p6 p7 : Addr} {v0 v1 v2 v3 v4 v5 v6 v7 : Value} (h : W.cell? p0 = some v0 ∧ W.cell? p1 = some v1 ∧ W.cell? p2 = some v2 ∧ W.cell? p3 = some v3 ∧ W.cell? p4 = some v4 ∧ W.cell? p5 = some v5 ∧ W.cell? p6 = some v6 ∧ W.cell? p7 = some v7) (hb : Below W.heap.size W W') : W'.cell? p0 = some v0 ∧ W'.cell? p1 = some v1 ∧ W'.cell? p2 = some v2 ∧ W'.cell? p3 = some v3 ∧ W'.cell? p4 = some v4 ∧ W'.cell? p5 = some v5 ∧ W'.cell? p6 = some v6 ∧ W'.cell? p7 = some v7 := by
  obtain ⟨h0, h1, h2, h3, h4, h5, h6, h7⟩ := h
  exact ⟨(hb.cell (cell_in h0)).trans h0, (hb.cell (cell_in h1)).trans h1, (hb.cell (cell_in h2)).trans h2, (hb.cell (cell_in h3)).trans h3, (hb.cell (cell_in h4)).trans h4, (hb.cell (cell_in h5)).trans h5, (hb.cell (cell_in h6)).trans h6, (hb.cell (cell_in h7)).trans h7⟩
theorem keep8o {W W' : World} {g : Nat} {p0 p1 p2 p3 p4 p5 p6 p7 : Addr} {v0 v1 v2 v3 v4 v5 v6 v7 : Value} (h : W.cell? p0 = some v0 ∧ W.cell? p1 = some v1 ∧ W.cell? p2 = some v2 ∧ W.cell? p3 = some v3 ∧ W.cell? p4 = some v4 ∧ W.cell? p5 = some v5 ∧ W.cell? p6 = some v6 ∧ W.cell? p7 = some v7) (hb : ∀ b, b ≠ g → W'.heap[b]? = W.heap[b]?) (hne : p0.block ≠ g ∧ p1.block ≠ g ∧ p2.block ≠ g ∧ p3.block ≠ g ∧ p4.block ≠ g ∧ p5.block ≠ g ∧ p6.block ≠ g ∧ p7.block ≠ g) : W'.cell? p0 = some v0 ∧ W'.cell? p1 = some v1 ∧ W'.cell? p2 = some v2 ∧ W'.cell? p3 = some v3 ∧ W'.cell? p4 = some v4 ∧ W'.cell? p5 = some v5 ∧ W'.cell? p6 = some v6 ∧ W'.cell? p7 = some v7 := by
  obtain ⟨h0, h1, h2, h3, h4, h5, h6, h7⟩ := h
  obtain ⟨q0, q1, q2, q3, q4, q5, q6, q7⟩ := hne
  have hc : ∀ p : Addr, p.block ≠ g → W'.cell? p = W.cell? p := fun p hp => by unfold World.cell?; rw [hb _ hp]
  exact ⟨(hc _ q0).trans h0, (hc _ q1).trans h1, (hc _ q2).trans h2, (hc _ q3).trans h3, (hc _ q4).trans h4, (hc _ q5).trans h5, (hc _ q6).trans h6, (hc _ q7).trans h7⟩
theorem heap_set_other {w : World} {b g i : Nat} {v : Value} {o : Obj} (h : w.heap[b]? = some o) (hb : b ≠ g) : (w.setCell ⟨g, i, none⟩ v).heap[b]? = some o := by
  rw [Below.heap_setCell _ _ _ _ (by simpa using hb)]
  exact h
theorem own_below {B C e s n : Nat} {w w' : World} {v : Value} {xs : List Value} (h : w.ownsRow B e s v n xs) (hb : Below C w w') (hC : w.heap.size ≤ C) : w'.ownsRow B e s v n xs := by
  refine ⟨h.1, ?_⟩
  rcases h.2 with h0 | ⟨g, cap, cur, h1, h2, h3, h4⟩
  · exact Or.inl h0
  · exact Or.inr ⟨g, cap, cur, h1, h2, (hb.block g (Nat.lt_of_lt_of_le (lt_of_heap h3) hC)).trans h3, h4⟩
theorem own_set_other {w : World} {B e s n g i t : Nat} {v u : Value} {xs : List Value} {cur : Array Value} (h : w.ownsRow B e s v n xs) (hg : w.heap[g]? = some (.cells cur t)) (ht : t ≠ e) : (w.setCell ⟨g, i, none⟩ u).ownsRow B e s v n xs := by
  refine ⟨h.1, ?_⟩
  rcases h.2 with ⟨e1, h0⟩ | ⟨g', cap', cur', e1, hg', hh, hc, hm, hz, ht'⟩
  · exact Or.inl ⟨e1, h0⟩
  · refine Or.inr ⟨g', cap', cur', e1, hg', heap_set_other hh (fun e2 => ?_), hc, hm, hz, ht'⟩
    subst e2
    rw [hg] at hh
    have := Option.some.inj hh
    injection this with _ h5
    exact ht h5
/-- A tree's own fields, put into a row's place. -/
abbrev put7 (w : World) (g o : Nat) (u : TV) : World := ((((((w.setCell ⟨g, o, none⟩ (.int .i64 u.1.k)).setCell ⟨g, o + 1, none⟩ (.int .i64 u.1.n)).setCell ⟨g, o + 2, none⟩ (.string u.1.t)).setCell ⟨g, o + 3, none⟩ (.int .i64 u.1.o)).setCell ⟨g, o + 4, none⟩ (.int .i64 u.1.a)).setCell ⟨g, o + 5, none⟩ u.2.1).setCell ⟨g, o + 6, none⟩ u.2.2
theorem put7_other (w : World) (g o : Nat) (u : TV) (b : Nat) (hb : b ≠ g) : (put7 w g o u).heap[b]? = w.heap[b]? := by
  have hs : ∀ (w : World) (i : Nat) (v : Value), (w.setCell ⟨g, i, none⟩ v).heap[b]? = w.heap[b]? := fun w i v => Below.heap_setCell _ _ _ _ (by simpa using hb)
  unfold put7
  rw [hs, hs, hs, hs, hs, hs, hs]
theorem put7_below {B : Nat} {w w' : World} (h : Below B w w') (g o : Nat) (u : TV) (hB : B ≤ g) : Below B w (put7 w' g o u) :=
  ((((((h.setCell hB _).setCell hB _).setCell hB _).setCell hB _).setCell hB _).setCell hB _).setCell hB _
theorem RowB.frozen {w : World} {g : Nat} {us : List TV} (h : RowB w g us) (i : Nat) : w.frozen? ⟨g, i, none⟩ = false := by
  obtain ⟨cur, h1, _⟩ := h
  exact Lib.frozen_of_heap h1 i

/-- An append whose end is known. -/
theorem wp_append {w : World} {ops : Array Oper} {rest : List Oper} {o : Oper} {a : Act} {Q : Exit → Act → World → Prop} (hgd : o.guard = none) (s x : Operand) (T : TypeId)
    (ho : o.op = .call { callee := .builtin .append, args := #[s, x], argTypes := #[T, T] }) (v u r : Value) (w' : World) (hs : a.eval s = v) (hx : a.eval x = u)
    (hrun : (Builtin.append_ #[T, T] o.type #[v, u]).run Tryd.prog w = .ok r w') (h : wpList Tryd.prog ops Q rest (a.put o.dst r) w') : wpList Tryd.prog ops Q (o :: rest) a w := by
  refine wpList_plain hgd fun K hK => ?_
  unfold Oper.wp
  simp [execOp, ho, resolve, invoke, builtin, hs, hx, hrun, Result.andThen]
  exact hK _ _ h

/-- What copyOf answers. -/
def CopyP (B : Nat) (w : World) (T : JT) (e : Ending) : Prop := ∃ v, e = .returned v ∧ IsTH B w v T

/-- What holds at the head of each round. -/
structure CpT (w : World) (T : JT) (us0 us' : List TV) (uk : Value) (g yc i : Nat) (wr : World) : Prop where
  x : wr.heap[w.heap.size]? = some (.cells #[.int .i64 T.x.k, .int .i64 T.x.n, .string T.x.t, .int .i64 T.x.o, .int .i64 T.x.a, uk, .slice (some ⟨g, 0, none⟩) T.ts.length yc] 29)
  y : wr.heap[w.heap.size + 1]? = some (.cells #[.int .i64 0, .int .i64 0, .string ⟨#[]⟩, .int .i64 0, .int .i64 0, .slice none 0 0, .slice none 0 0] 29)
  keys : wr.ownsRow (w.heap.size + 2) 9 1 uk T.ks.length (scells T.ks)
  len : us'.length = T.ts.length
  cap : T.ts.length ≤ yc
  far : w.heap.size + 2 ≤ g
  low : g < wr.heap.size
  row : RowB wr g us'
  done : ∀ k (h : k < us'.length) (h' : k < T.ts.length), k < i → IsTH (g + 1) wr (tval us'[k]) T.ts[k]
  rest : ∀ k (h : k < us'.length) (h0 : k < us0.length), i ≤ k → us'[k] = us0[k]
  below : Below w.heap.size w wr

theorem CpT.grow {w : World} {T : JT} {us0 us' : List TV} {uk : Value} {g yc i : Nat} {wr V : World} (h : CpT w T us0 us' uk g yc i wr) (hb : Below wr.heap.size wr V) : CpT w T us0 us' uk g yc i V :=
  ⟨(hb.block _ (lt_of_heap h.x)).trans h.x, (hb.block _ (lt_of_heap h.y)).trans h.y, own_below h.keys hb (Nat.le_refl _), h.len, h.cap, h.far, Nat.lt_of_lt_of_le h.low hb.size, h.row.below hb, fun k h1 h2 h3 => (h.done k h1 h2 h3).keep (From.of hb), h.rest, h.below.trans (hb.mono h.below.size)⟩
theorem CpT.put {w : World} {T : JT} {us0 us' : List TV} {uk : Value} {g yc i : Nat} {V : World} (h : CpT w T us0 us' uk g yc i V) (hi : i < us'.length) (u : TV) (hu : ∀ h' : i < T.ts.length, IsTH (g + 1) V (tval u) T.ts[i]) : CpT w T us0 (us'.set i u) uk g yc (i + 1) (put7 V g (i * 7) u) := by
  have hF : From (g + 1) V (put7 V g (i * 7) u) := ⟨(put7_below (Below.refl 0 V) g _ u (Nat.zero_le _)).size, fun k hk _ => put7_other V g _ u k (by omega)⟩
  have hfar := h.far
  refine ⟨?_, ?_, ?_, by simpa using h.len, h.cap, h.far, Nat.lt_of_lt_of_le h.low hF.1, h.row.put i hi u _ rfl, ?_, ?_, put7_below h.below g _ u (by omega)⟩
  · rw [put7_other V g _ u _ (by omega)]; exact h.x
  · rw [put7_other V g _ u _ (by omega)]; exact h.y
  · refine ⟨h.keys.1, ?_⟩
    obtain ⟨cur, hcur, _⟩ := h.row
    rcases h.keys.2 with h0 | ⟨g', cap', cur', e1, hg', hh, h4⟩
    · exact Or.inl h0
    · refine Or.inr ⟨g', cap', cur', e1, hg', ?_, h4⟩
      rw [put7_other V g _ u _ (fun e => ?_)]
      · exact hh
      · subst e
        rw [hcur] at hh
        have h5 := Option.some.inj hh
        injection h5 with _ h6
        exact absurd h6 (by decide)
  · intro k hk hk' hlt
    rw [List.length_set] at hk
    by_cases e : k = i
    · subst e
      rw [List.getElem_set_self]
      exact (hu hk').keep hF
    · rw [List.getElem_set_ne (fun e2 => e e2.symm)]
      exact (h.done k hk hk' (by omega)).keep hF
  · intro k hk h0 hle
    rw [List.length_set] at hk
    rw [List.getElem_set_ne (by omega)]
    exact h.rest k hk h0 (by omega)
theorem CpT.all {w : World} {T : JT} {us0 us' : List TV} {uk : Value} {g yc : Nat} {wr V : World} (h : CpT w T us0 us' uk g yc T.ts.length wr) (hT : T = .node T.x T.ks T.ts) (hk : T.ks.length ≤ 1000000) (hz : T.ts.length ≤ 8796093022208) (hV : From (w.heap.size + 2) wr V) : IsTH w.heap.size V (tval (T.x, uk, .slice (some ⟨g, 0, none⟩) T.ts.length yc)) T := by
  have h1 : IsTH (w.heap.size + 2) wr (tval (T.x, uk, .slice (some ⟨g, 0, none⟩) T.ts.length yc)) T := by
    have h3 : IsTH (w.heap.size + 2) wr (tval (T.x, uk, .slice (some ⟨g, 0, none⟩) T.ts.length yc)) (.node T.x T.ks T.ts) := by
      refine IsTG.mk T.x T.ks T.ts uk (some ⟨g, 0, none⟩) yc us' (own_strs h.keys hk) h.len ⟨h.cap, fun e => by cases e⟩ hz (fun _ => ⟨g, 0, rfl, h.low, h.far, fun i hi j hj => ?_⟩) (fun i hi hi' => ?_)
      · rw [Nat.zero_add]; exact h.row.cellAt i hi j hj
      · exact (h.done i hi hi' hi').mono (by have := h.far; omega)
    rw [← hT] at h3
    exact h3
  exact (h1.keep hV).mono (by omega)

theorem few_kids {T : JT} (hf : formedB T = true) (hs : T.size ≤ 400) : T.ts.length ≤ 400 ∧ T.ks.length ≤ 400 ∧ ∀ t ∈ T.ts, t.size ≤ 400 := by
  have h1 := size_eq T
  have h2 := len_sizes T.ts
  have h3 : nodeB T.x T.ks T.ts.length = true := by
    rw [formedB_eq] at hf
    exact (by simpa using hf : _ ∧ _).1
  refine ⟨by omega, ?_, fun t ht => ?_⟩
  · unfold nodeB at h3
    by_cases h5 : T.x.k = 5
    · rw [if_pos h5] at h3
      simp only [Bool.and_eq_true, decide_eq_true_eq] at h3
      omega
    · rw [if_neg h5] at h3
      have h4 : T.ks.isEmpty = true := by
        by_cases h6 : T.x.k = 6
        · rw [if_pos h6] at h3
          simp only [Bool.and_eq_true] at h3
          exact h3.2
        · rw [if_neg h6] at h3
          simp only [Bool.and_eq_true] at h3
          exact h3.2.1
      rw [List.isEmpty_iff.1 h4]; simp
  · obtain ⟨i, hi, rfl⟩ := List.getElem_of_mem ht
    have h5 := sizes_take T.ts i hi
    have h6 := sizes_le T.ts (i + 1)
    omega

end Go.Proofs.YtjmepegckahnfaaDoor
