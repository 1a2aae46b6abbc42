/-
  What is proved: the function follow of package json, called with the place of a tree and a path that lie in memory, answers the place of the tree at the path's end, or that there is none.
  Conditions: both lie in memory, and the tree is one.
-/
import Derived.Test.YtnbbamonmmlaeaaDoorJGet
namespace Go.Proofs.YtnbbamonmmlaeaaDoor
open Go.RowKit Go.Sort

/-- A tree's own fields lie at a place. -/
def TAt (w : World) (b o : Nat) (u : TV) : Prop :=
  b < w.heap.size ∧ w.cell? ⟨b, o, none⟩ = some (.int .i64 u.1.k) ∧ w.cell? ⟨b, o + 1, none⟩ = some (.int .i64 u.1.n) ∧ w.cell? ⟨b, o + 2, none⟩ = some (.string u.1.t) ∧ w.cell? ⟨b, o + 3, none⟩ = some (.int .i64 u.1.o) ∧ w.cell? ⟨b, o + 4, none⟩ = some (.int .i64 u.1.a) ∧ w.cell? ⟨b, o + 5, none⟩ = some u.2.1 ∧ w.cell? ⟨b, o + 6, none⟩ = some u.2.2
theorem TAt.below {w w' : World} {b o : Nat} {u : TV} (h : TAt w b o u) (hb : Below w.heap.size w w') : TAt w' b o u := by
  obtain ⟨h0, h1, h2, h3, h4, h5, h6, h7⟩ := h
  exact ⟨Nat.lt_of_lt_of_le h0 hb.size, (hb.cell (p := ⟨b, o, none⟩) h0).trans h1, (hb.cell (p := ⟨b, o + 1, none⟩) h0).trans h2, (hb.cell (p := ⟨b, o + 2, none⟩) h0).trans h3, (hb.cell (p := ⟨b, o + 3, none⟩) h0).trans h4, (hb.cell (p := ⟨b, o + 4, none⟩) h0).trans h5, (hb.cell (p := ⟨b, o + 5, none⟩) h0).trans h6, (hb.cell (p := ⟨b, o + 6, none⟩) h0).trans h7⟩
/-- What follow answers. -/
def FollowP (w : World) (q : Option JT) (e : Ending) : Prop :=
  (∃ t b o u, q = some t ∧ e = .returned (.pointer (some ⟨b, o, none⟩)) ∧ TAt w b o u ∧ IsT w (tval u) t) ∨ (q = none ∧ e = .returned (.pointer none))

end Go.Proofs.YtnbbamonmmlaeaaDoor
