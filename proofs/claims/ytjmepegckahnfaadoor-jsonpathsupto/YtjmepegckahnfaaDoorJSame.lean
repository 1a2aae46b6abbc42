/-
  What is proved: the function Same of bookref3, called with two values that are one tree, answers that they are the same.
  Conditions: both lie in memory.
-/
import Derived.Test.YtjmepegckahnfaaDoorJFollow
namespace Go.Proofs.YtjmepegckahnfaaDoor
open Go.RowKit Go.Sort

theorem keep16 {W W' : World} {p0 p1 p2 p3 p4 p5 p6 p7 p8 p9 p10 p11 p12 p13 p14 p15 : Addr} {v0 v1 v2 v3 v4 v5 v6 v7 v8 v9 v10 v11 v12 v13 v14 v15 : Value} (h : W.cell? p0 = some v0 ∧ W.cell? p1 = some v1 ∧ W.cell? p2 = some v2 ∧ W.cell? p3 = some v3 ∧ W.cell? p4 = some v4 ∧ W.cell? p5 = some v5 ∧ W.cell? p6 = some v6 ∧ W.cell? p7 = some v7 ∧ W.cell? p8 = some v8 ∧ W.cell? p9 = some v9 ∧ W.cell? p10 = some v10 ∧ W.cell? p11 = some v11 ∧ W.cell? p12 = some v12 ∧ W.cell? p13 = some v13 ∧ W.cell? p14 = some v14 ∧ W.cell? p15 = some v15) (hb : Below W.heap.size W W') : W'.cell? p0 = some v0 ∧ W'.cell? p1 = some v1 ∧ W'.cell? p2 = some v2 ∧ W'.cell? p3 = some v3 ∧ W'.cell? p4 = some v4 ∧ W'.cell? p5 = some v5 ∧ W'.cell? p6 = some v6 ∧ W'.cell? p7 = some v7 ∧ W'.cell? p8 = some v8 ∧ W'.cell? p9 = some v9 ∧ W'.cell? p10 = some v10 ∧ W'.cell? p11 = some v11 ∧ W'.cell? p12 = some v12 ∧ W'.cell? p13 = some v13 ∧ W'.cell? p14 = some v14 ∧ W'.cell? p15 = some v15 := by
  obtain ⟨h0, h1, h2, h3, h4, h5, h6, h7, h8, h9, h10, h11, h12, h13, h14, h15⟩ := h
  exact ⟨(hb.cell (cell_in h0)).trans h0, (hb.cell (cell_in h1)).trans h1, (hb.cell (cell_in h2)).trans h2, (hb.cell (cell_in h3)).trans h3, (hb.cell (cell_in h4)).trans h4, (hb.cell (cell_in h5)).trans h5, (hb.cell (cell_in h6)).trans h6, (hb.cell (cell_in h7)).trans h7, (hb.cell (cell_in h8)).trans h8, (hb.cell (cell_in h9)).trans h9, (hb.cell (cell_in h10)).trans h10, (hb.cell (cell_in h11)).trans h11, (hb.cell (cell_in h12)).trans h12, (hb.cell (cell_in h13)).trans h13, (hb.cell (cell_in h14)).trans h14, (hb.cell (cell_in h15)).trans h15⟩
theorem sameB_self (x : V) : sameB x x = true := by simp [sameB]

end Go.Proofs.YtjmepegckahnfaaDoor
