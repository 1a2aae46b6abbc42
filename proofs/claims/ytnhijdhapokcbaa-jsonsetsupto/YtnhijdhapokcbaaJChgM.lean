/-
  What is proved: what becomes of the whole tree when a value is set at a place in it.
  Conditions: as each theorem says.
-/
import Derived.Test.YtnhijdhapokcbaaJSet
namespace Go.Proofs.Ytnhijdhapokcbaa
open Go.RowKit Go.Sort

theorem getT_append : ∀ (d e : List Stp) (T : JT), getT T (d ++ e) = (getT T d).bind fun t => getT t e
  | [], e, T => by rw [List.nil_append, getT]; rfl
  | s :: d, e, T => by
    rw [List.cons_append, getT, getT]
    cases step1 T s with
    | none => rfl
    | some u => exact getT_append d e u
theorem Hole.ext {w : World} {b0 o0 lo0 hi0 : Nat} {T0 : JT} {d : List Stp} {b o lo hi : Nat} {u : TV} {t : JT} (h : Hole w b0 o0 lo0 hi0 T0 d b o lo hi u t []) (s : Stp) : Hole w b0 o0 lo0 hi0 T0 (d ++ [s]) b o lo hi u t [s] := by
  refine ⟨h.at', h.tree, h.out, h.fz, h.inn, h.place, ?_, fun w' t' a1 a2 a3 a4 => ?_⟩
  · have h1 := h.getT
    rw [Go.Proofs.Ytnhijdhapokcbaa.getT] at h1
    rw [getT_append, h1]
    rfl
  · obtain ⟨d', u2, e1, e2, e3, e4⟩ := h.back w' t' a1 a2 a3 a4
    rw [List.append_nil] at e1
    exact ⟨d', u2, by rw [e1], e2, e3, e4⟩
theorem upd_rep {y : V} {t t' : JT} {s : Stp} : ∀ (d : List Stp) (T : JT), getT T d = some t → SetR t s y t' → UpdR T (d ++ [s]) y (repT T d t')
  | [], T, hg, hs => by
    rw [getT] at hg
    obtain rfl := Option.some.inj hg
    show UpdR T [s] y (repT T [] t')
    rw [UpdR, repT]
    exact hs
  | a :: d, T, hg, hs => by
    rw [getT] at hg
    obtain ⟨u, h1, h2⟩ := Option.bind_eq_some_iff.1 hg
    unfold step1 at h1
    obtain ⟨j, h3, h4⟩ := Option.bind_eq_some_iff.1 h1
    have ih := upd_rep d u h2 hs
    have e : repT T (a :: d) t' = .node T.x T.ks (T.ts.set j (repT u d t')) := by
      rw [repT, h3]
      simp only
      rw [h4]
      rfl
    rw [e]
    cases d with
    | nil =>
      show UpdR T [a, s] y _
      rw [UpdR]
      exact ⟨j, u, _, h3, h4, ih, rfl⟩
    | cons c d =>
      show UpdR T (a :: c :: (d ++ [s])) y _
      rw [UpdR]
      exact ⟨j, u, _, h3, h4, ih, rfl⟩
theorem upd_split {y : V} {s : Stp} : ∀ (d : List Stp) (T T' : JT), UpdR T (d ++ [s]) y T' → ∃ t t', getT T d = some t ∧ SetR t s y t'
  | [], T, T', h => by
    have h1 : UpdR T [s] y T' := h
    rw [UpdR] at h1
    exact ⟨T, T', by rw [getT], h1⟩
  | [a], T, T', h => by
    have h1 : UpdR T [a, s] y T' := h
    rw [UpdR] at h1
    obtain ⟨i, t, t', e1, e2, e3, _⟩ := h1
    rw [UpdR] at e3
    refine ⟨t, t', ?_, e3⟩
    rw [getT, step1, e1]
    show (T.ts[i]?).bind _ = _
    rw [e2]
    rfl
  | a :: c :: d, T, T', h => by
    have h1 : UpdR T (a :: c :: (d ++ [s])) y T' := h
    rw [UpdR] at h1
    obtain ⟨i, t, t', e1, e2, e3, _⟩ := h1
    obtain ⟨t1, t2, g1, g2⟩ := upd_split (c :: d) t t' e3
    refine ⟨t1, t2, ?_, g2⟩
    rw [getT, step1, e1]
    show (T.ts[i]?).bind _ = _
    rw [e2]
    exact g1
theorem set_none {t t' : JT} {s : Stp} {y : V} (h0 : kidOf t.x t.ks t.ts.length s = none) (h1 : keyStep t.x s = false) : ¬ SetR t s y t' := by
  rintro (⟨i, e, _⟩ | ⟨_, e, _⟩)
  · rw [h0] at e; cases e
  · rw [h1] at e; cases e

/-- What change leaves. -/
def ChgP (w : World) (b0 o0 lo hi : Nat) (T : JT) (l : List Stp) (y : V) (e : Ending) (w' : World) : Prop :=
  (∃ T' u', e = .returned (.bool true) ∧ UpdR T l y T' ∧ Turn b0 o0 lo hi w w' ∧ TAt w' b0 o0 u' ∧ IsTH lo w' (tval u') T') ∨ (e = .returned (.bool false) ∧ (∀ T', ¬ UpdR T l y T') ∧ Below w.heap.size w w')

theorem TAt.cells {w w' : World} {b o : Nat} {u : TV} (h : TAt w b o u) (hz : w.heap.size ≤ w'.heap.size) (hc : w'.heap[b]? = w.heap[b]?) : TAt w' b o u := by
  obtain ⟨c0, c1, c2, c3, c4, c5, c6, c7⟩ := h
  have hc : ∀ d, w'.cell? ⟨b, d, none⟩ = w.cell? ⟨b, d, none⟩ := fun d => World.cell?_of_block (w := w) hc
  exact ⟨by omega, (hc _).trans c1, (hc _).trans c2, (hc _).trans c3, (hc _).trans c4, (hc _).trans c5, (hc _).trans c6, (hc _).trans c7⟩
theorem put7_cells (w : World) (g o : Nat) (u : TV) (c : Nat) (hc : c < o ∨ o + 7 ≤ c) : (put7 w g o u).cell? ⟨g, c, none⟩ = w.cell? ⟨g, c, none⟩ := by
  unfold put7
  have ne : ∀ d, d < 7 → (⟨g, o + d, none⟩ : Addr) ≠ ⟨g, c, none⟩ := fun d hd e => by
    injection e with _ e2 _
    omega
  rw [World.cell?_setCell_other _ _ _ _ (ne 6 (by omega)), World.cell?_setCell_other _ _ _ _ (ne 5 (by omega)), World.cell?_setCell_other _ _ _ _ (ne 4 (by omega)), World.cell?_setCell_other _ _ _ _ (ne 3 (by omega)), World.cell?_setCell_other _ _ _ _ (ne 2 (by omega)), World.cell?_setCell_other _ _ _ _ (ne 1 (by omega)), World.cell?_setCell_other _ _ _ _ (show (⟨g, o, none⟩ : Addr) ≠ ⟨g, c, none⟩ from ne 0 (by omega))]
theorem put7_at {w : World} {g o : Nat} {u u0 : TV} (h : TAt w g o u0) : TAt (put7 w g o u) g o u := by
  obtain ⟨c0, c1, c2, c3, c4, c5, c6, c7⟩ := h
  have hz : w.heap.size ≤ (put7 w g o u).heap.size := (put7_below (Below.refl 0 w) g o u (Nat.zero_le _)).size
  have ne : ∀ d e : Nat, d ≠ e → (⟨g, o + d, none⟩ : Addr) ≠ ⟨g, o + e, none⟩ := fun d e hd h9 => by
    injection h9 with _ e2 _
    omega
  refine ⟨by omega, ?_, ?_, ?_, ?_, ?_, ?_, ?_⟩
  all_goals unfold put7
  all_goals simp [World.cell?_setCell_same', World.cell?_setCell_other, c1, c2, c3, c4, c5, c6, c7]

theorem change_end {w wc w' : World} {b0 o0 lo0 hi0 : Nat} {T0 : JT} {d : List Stp} {b o lo hi : Nat} {u : TV} {t : JT} {s : Stp} {y : V} {e : Ending} (h : Hole w b0 o0 lo0 hi0 T0 d b o lo hi u t []) (hc : Below w.heap.size w wc) (hz : hi0 ≤ w.heap.size) (hb0 : b0 < lo0) (hbw : b0 < w.heap.size)
    (hs : SetP wc b o lo hi u t s y e w') : ChgP w b0 o0 lo0 hi0 T0 (d ++ [s]) y e w' := by
  have hd : getT T0 d = some t := by rw [h.getT, getT]
  have hin := h.inn
  have hbl : b < w.heap.size := h.at'.1
  have hout := h.out
  rcases hs with ⟨i, g, off, n, c, q1, q2, q3, rfl, W, q4, rfl⟩ | ⟨t', u', q1, q2, rfl, q3, q4, q5⟩ | ⟨q1, q2, rfl, q3⟩
  · obtain ⟨lo', hi', u9, h9⟩ := (h.ext s).next q2 q1 q3
    have hin9 := h9.inn
    have hgw : g < w.heap.size := h9.at'.1
    have hWz : w.heap.size ≤ W.heap.size := Nat.le_trans hc.size q4.size
    have hblk : ∀ k, k < w.heap.size → k ≠ g → (put7 W g (off + i * 7) (leafV y)).heap[k]? = w.heap[k]? := fun k hk hne => (put7_other W g _ _ k hne).trans ((q4.block k (by have := hc.size; omega)).trans (hc.block k hk))
    have hWb : W.heap[g]? = w.heap[g]? := (q4.block g (by have := hc.size; omega)).trans (hc.block g hgw)
    have hsz : W.heap.size ≤ (put7 W g (off + i * 7) (leafV y)).heap.size := (put7_below (Below.refl 0 W) g _ _ (Nat.zero_le _)).size
    have hcell : ∀ c, c < off + i * 7 ∨ off + i * 7 + 7 ≤ c → (put7 W g (off + i * 7) (leafV y)).cell? ⟨g, c, none⟩ = w.cell? ⟨g, c, none⟩ := fun c hc => (put7_cells W g _ _ c hc).trans (World.cell?_of_block (w := w) hWb)
    obtain ⟨d', u2, e1, e2, e3, e4⟩ := h9.back (put7 W g (off + i * 7) (leafV y)) (leafT y) (by omega) (fun k k1 _ k3 => hblk k (by omega) k3) hcell ⟨leafV y, put7_at (h9.at'.cells hWz hWb), leafH _ _ y⟩
    rw [List.append_nil] at e1
    subst e1
    have hpl := h9.place
    refine Or.inl ⟨_, u2, rfl, ?_, ⟨?_, ?_, ?_, by omega, fun k k1 k2 k3 => ?_, fun c hc => ?_⟩, e3, e4⟩
    · rw [repT_snoc d T0 (leafT y) hd q1]
      exact upd_rep d T0 hd (Or.inl ⟨i, q1, q2, rfl⟩)
    · exact (put7_below (q4.mono (Nat.zero_le _)) g _ _ (Nat.zero_le _)).os.trans hc.os
    · exact (put7_below (q4.mono (Nat.zero_le _)) g _ _ (Nat.zero_le _)).tape.trans hc.tape
    · exact (put7_below (q4.mono (Nat.zero_le _)) g _ _ (Nat.zero_le _)).output.trans hc.output
    · refine hblk k k1 (fun e => ?_)
      rcases hpl with ⟨e5, _⟩ | e5
      · exact k3 (e.trans e5)
      · exact k2 (by omega)
    · rcases hpl with ⟨e5, e6⟩ | e5
      · subst e5
        exact hcell c (by omega)
      · exact World.cell?_of_block (w := w) (hblk b0 hbw (by omega))
  · have hblk : ∀ k, k < w.heap.size → ¬ (lo ≤ k ∧ k < hi) → k ≠ b → w'.heap[k]? = w.heap[k]? := fun k hk hn hne => (q3.block k (by have := hc.size; omega) hn hne).trans (hc.block k hk)
    have hsz := hc.size
    have hsz2 := q3.size
    have hcell : ∀ c, c < o ∨ o + 7 ≤ c → w'.cell? ⟨b, c, none⟩ = w.cell? ⟨b, c, none⟩ := fun c hcc => (q3.cell c hcc).trans (hc.cell (p := ⟨b, c, none⟩) hbl)
    obtain ⟨d', u2, e1, e2, e3, e4⟩ := h.back w' t' (by omega) (fun k k1 k2 k3 => hblk k (by omega) k2 k3) hcell ⟨u', q4, q5.mono hin.1⟩
    rw [List.append_nil] at e1
    subst e1
    have hpl := h.place
    refine Or.inl ⟨_, u2, rfl, upd_rep d T0 hd q2, ⟨q3.os.trans hc.os, q3.tape.trans hc.tape, q3.output.trans hc.output, by omega, fun k k1 k2 k3 => ?_, fun c hcc => ?_⟩, e3, e4⟩
    · refine hblk k k1 (by omega) (fun e => ?_)
      rcases hpl with ⟨e5, _⟩ | e5
      · exact k3 (e.trans e5)
      · exact k2 (by omega)
    · rcases hpl with ⟨e5, e6⟩ | e5
      · subst e5 e6
        exact hcell c hcc
      · exact World.cell?_of_block (w := w) (hblk b0 hbw (by omega) (by omega))
  · refine Or.inr ⟨rfl, fun T' hT' => ?_, hc.trans (q3.mono hc.size)⟩
    obtain ⟨t1, t2, g1, g2⟩ := upd_split d T0 T' hT'
    rw [hd] at g1
    obtain rfl := Option.some.inj g1
    exact set_none q1 q2 g2
end Go.Proofs.Ytnhijdhapokcbaa
