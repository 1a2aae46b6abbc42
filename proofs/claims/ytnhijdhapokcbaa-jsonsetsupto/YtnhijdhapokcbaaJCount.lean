/-
  What is proved: the function Count of bookref3, called with a tree that lies in memory and a number, answers how many trees there are in it, or that number and one, whichever is less.
  Conditions: the tree lies in memory; the number is at most 400.
-/
import Derived.Test.YtnhijdhapokcbaaJTree
namespace Go.Proofs.Ytnhijdhapokcbaa
open Go.RowKit

/-- The box of a tree that a call was handed. -/
abbrev tbox (w : World) (u : TV) : World := w.alloc (.cells #[.int .i64 u.1.k, .int .i64 u.1.n, .string u.1.t, .int .i64 u.1.o, .int .i64 u.1.a, u.2.1, u.2.2] 29)

theorem lt_of_heap {w : World} {g : Nat} {o : Obj} (h : w.heap[g]? = some o) : g < w.heap.size := by
  rcases Nat.lt_or_ge g w.heap.size with h1 | h1
  · exact h1
  · rw [Array.getElem?_eq_none h1] at h; cases h

theorem tcell {w : World} {b off i : Nat} {us : List TV} (h5 : ∀ i (h : i < us.length) j, j < 7 → w.cell? ⟨b, off + i * 7 + j, none⟩ = (tcells us[i])[j]?) (h : i < us.length) (u : TV) (hu : us[i] = u) :
    w.cell? ⟨b, off + i * 7, none⟩ = some (.int .i64 u.1.k) ∧ w.cell? ⟨b, off + i * 7 + 1, none⟩ = some (.int .i64 u.1.n) ∧ w.cell? ⟨b, off + i * 7 + 2, none⟩ = some (.string u.1.t) ∧ w.cell? ⟨b, off + i * 7 + 3, none⟩ = some (.int .i64 u.1.o) ∧ w.cell? ⟨b, off + i * 7 + 4, none⟩ = some (.int .i64 u.1.a) ∧ w.cell? ⟨b, off + i * 7 + 5, none⟩ = some u.2.1 ∧ w.cell? ⟨b, off + i * 7 + 6, none⟩ = some u.2.2 := by
  subst hu
  refine ⟨?_, ?_, ?_, ?_, ?_, ?_, ?_⟩
  · exact h5 i h 0 (by decide)
  · exact h5 i h 1 (by decide)
  · exact h5 i h 2 (by decide)
  · exact h5 i h 3 (by decide)
  · exact h5 i h 4 (by decide)
  · exact h5 i h 5 (by decide)
  · exact h5 i h 6 (by decide)

theorem RowT.cells {w w' : World} {a : Option Addr} {us : List TV} (h : RowT w a us) (hb : Below w.heap.size w w') (i : Nat) (hi : i < us.length) (u : TV) (hu : us[i] = u) :
    ∃ b off, a = some ⟨b, off, none⟩ ∧ b < w.heap.size ∧ w'.cell? ⟨b, off + i * 7, none⟩ = some (.int .i64 u.1.k) ∧ w'.cell? ⟨b, off + i * 7 + 1, none⟩ = some (.int .i64 u.1.n) ∧ w'.cell? ⟨b, off + i * 7 + 2, none⟩ = some (.string u.1.t) ∧ w'.cell? ⟨b, off + i * 7 + 3, none⟩ = some (.int .i64 u.1.o) ∧ w'.cell? ⟨b, off + i * 7 + 4, none⟩ = some (.int .i64 u.1.a) ∧ w'.cell? ⟨b, off + i * 7 + 5, none⟩ = some u.2.1 ∧ w'.cell? ⟨b, off + i * 7 + 6, none⟩ = some u.2.2 := by
  obtain ⟨b, off, e, h4, h5⟩ := h (fun e => by rw [e] at hi; simp at hi)
  refine ⟨b, off, e, h4, ?_⟩
  refine tcell (w := w') (fun i h j hj => ?_) hi u hu
  rw [hb.cell (p := ⟨b, off + i * 7 + j, none⟩) h4]
  exact h5 i h j hj

/-- The cells of a box. -/
theorem tboxed {w' : World} {g : Nat} {u : TV} (h : w'.heap[g]? = some (.cells #[.int .i64 u.1.k, .int .i64 u.1.n, .string u.1.t, .int .i64 u.1.o, .int .i64 u.1.a, u.2.1, u.2.2] 29)) :
    w'.cell? ⟨g, 0, none⟩ = some (.int .i64 u.1.k) ∧ w'.cell? ⟨g, 1, none⟩ = some (.int .i64 u.1.n) ∧ w'.cell? ⟨g, 2, none⟩ = some (.string u.1.t) ∧ w'.cell? ⟨g, 3, none⟩ = some (.int .i64 u.1.o) ∧ w'.cell? ⟨g, 4, none⟩ = some (.int .i64 u.1.a) ∧ w'.cell? ⟨g, 5, none⟩ = some u.2.1 ∧ w'.cell? ⟨g, 6, none⟩ = some u.2.2 :=
  ⟨Lib.cell_of_heap h 0, Lib.cell_of_heap h 1, Lib.cell_of_heap h 2, Lib.cell_of_heap h 3, Lib.cell_of_heap h 4, Lib.cell_of_heap h 5, Lib.cell_of_heap h 6⟩

end Go.Proofs.Ytnhijdhapokcbaa
