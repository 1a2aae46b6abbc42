/-
  What is proved: what stays as it is while the reference reads a change: its boxes and rows.
  Conditions: as each theorem says.
-/
import Derived.Test.YtgecgemfniiciaaGreatDoorQText
import Derived.Test.YtgecgemfniiciaaGreatDoorQMath
namespace Go.Proofs.YtgecgemfniiciaaGreatDoor
open Go.RowKit

/-- What the reading has beside its reader: nothing that was there has turned; the box of what is handed back; the change's box, with its rows. -/
structure Fr (w : World) (x y z : Int) (ud : Value) (L : List Pr) (uo : Value) (l : List OV) (wr : World) : Prop where
  bel : Below w.heap.size w wr
  size : w.heap.size + 3 ≤ wr.heap.size
  res : wr.heap[w.heap.size]? = some (.cells #[.int .i64 0, .int .i64 0, .int .i64 0, .slice none 0 0, .slice none 0 0] 26)
  box : wr.heap[w.heap.size + 2]? = some (.cells #[.int .i64 x, .int .i64 y, .int .i64 z, ud, uo] 26)
  deps : RowPr 41 (w.heap.size + 3) ud L wr
  ops : RowO (w.heap.size + 3) uo l wr
  preds : PredsAt (w.heap.size + 3) l wr

/-- It stays while nothing but the reader turns. -/
theorem Fr.off {w wr w' : World} {x y z : Int} {ud uo : Value} {L : List Pr} {l : List OV} {vb : Value} {b : List UInt8} {s : St} (h : Fr w x y z ud L uo l wr) (d : DAt (w.heap.size + 1) vb b s wr) (ho : Off (w.heap.size + 1) wr w') : Fr w x y z ud L uo l w' := by
  obtain ⟨a, _, _, hx⟩ := d
  refine ⟨h.bel.trans (ho.below (by omega) h.bel.size), Nat.le_trans h.size ho.size, ho.heap h.res (by omega), ho.heap h.box (by omega), own_off h.deps hx (by decide) ho, own_off h.ops hx (by decide) ho, fun q hq => own_off (h.preds q hq) hx (by decide) ho⟩

/-- The change's box is set. -/
theorem Fr.set0 {w wr : World} {x y z : Int} {ud uo : Value} {L : List Pr} {l : List OV} (h : Fr w x y z ud L uo l wr) (u : Int) : Fr w u y z ud L uo l (wr.setCell ⟨w.heap.size + 2, 0, none⟩ (.int .i64 u)) := by
  have ho : Off (w.heap.size + 2) wr (wr.setCell ⟨w.heap.size + 2, 0, none⟩ (.int .i64 u)) := (Off.refl _ wr).set 0 _
  exact ⟨h.bel.trans (ho.below (by omega) h.bel.size), Nat.le_trans h.size ho.size, ho.heap h.res (by omega), set_at h.box 0 _, own_off h.deps h.box (by decide) ho, own_off h.ops h.box (by decide) ho, fun q hq => own_off (h.preds q hq) h.box (by decide) ho⟩
theorem Fr.set1 {w wr : World} {x y z : Int} {ud uo : Value} {L : List Pr} {l : List OV} (h : Fr w x y z ud L uo l wr) (u : Int) : Fr w x u z ud L uo l (wr.setCell ⟨w.heap.size + 2, 1, none⟩ (.int .i64 u)) := by
  have ho : Off (w.heap.size + 2) wr (wr.setCell ⟨w.heap.size + 2, 1, none⟩ (.int .i64 u)) := (Off.refl _ wr).set 1 _
  exact ⟨h.bel.trans (ho.below (by omega) h.bel.size), Nat.le_trans h.size ho.size, ho.heap h.res (by omega), set_at h.box 1 _, own_off h.deps h.box (by decide) ho, own_off h.ops h.box (by decide) ho, fun q hq => own_off (h.preds q hq) h.box (by decide) ho⟩
theorem Fr.set2 {w wr : World} {x y z : Int} {ud uo : Value} {L : List Pr} {l : List OV} (h : Fr w x y z ud L uo l wr) (u : Int) : Fr w x y u ud L uo l (wr.setCell ⟨w.heap.size + 2, 2, none⟩ (.int .i64 u)) := by
  have ho : Off (w.heap.size + 2) wr (wr.setCell ⟨w.heap.size + 2, 2, none⟩ (.int .i64 u)) := (Off.refl _ wr).set 2 _
  exact ⟨h.bel.trans (ho.below (by omega) h.bel.size), Nat.le_trans h.size ho.size, ho.heap h.res (by omega), set_at h.box 2 _, own_off h.deps h.box (by decide) ho, own_off h.ops h.box (by decide) ho, fun q hq => own_off (h.preds q hq) h.box (by decide) ho⟩

/-- The reader stays while the change's box is set. -/
theorem DAt.setC {w wr : World} {vb : Value} {b : List UInt8} {s : St} (h : DAt (w.heap.size + 1) vb b s wr) (i : Nat) (u : Value) : DAt (w.heap.size + 1) vb b s (wr.setCell ⟨w.heap.size + 2, i, none⟩ u) := h.off ((Off.refl _ wr).set i u) (by omega)

/-- The change's Deps are set to a row that has grown. -/
theorem Fr.setD {w w3 w4 : World} {x y z : Int} {ud uo u2 : Value} {L L2 : List Pr} {l : List OV} {o : Obj} (h : Fr w x y z ud L uo l w3) (hg : (w3.alloc o).grownBy w4 ud.ownBlock) (h4 : RowPr 41 (w.heap.size + 3) u2 L2 w4) : Fr w x y z u2 L2 uo l (w4.setCell ⟨w.heap.size + 2, 3, none⟩ u2) := by
  have B4 : Below (w.heap.size + 3) w3 w4 := ((Below.refl (w.heap.size + 3) w3).alloc h.size o).grown hg (by have := h.size; simp; omega) (fun k hk => (h.deps.lt k hk).1)
  have b4 := (B4.block _ (by omega)).trans h.box
  have ho : Off (w.heap.size + 2) w4 (w4.setCell ⟨w.heap.size + 2, 3, none⟩ u2) := (Off.refl _ w4).set 3 _
  have hz : w.heap.size + 3 ≤ w4.heap.size := Nat.le_trans h.size B4.size
  exact ⟨(h.bel.trans (B4.mono (by omega))).trans (ho.below (by omega) (by omega)), Nat.le_trans hz ho.size, ho.heap ((B4.block _ (by omega)).trans h.res) (by omega), set_at b4 3 _, own_off h4 b4 (by decide) ho, own_off (own_grown h.ops h.deps (by decide) hg) b4 (by decide) ho, fun q hq => own_off (own_grown (h.preds q hq) h.deps (by decide) hg) b4 (by decide) ho⟩

/-- The change's Ops are set to a row that has grown. -/
theorem Fr.setO {w w3 w4 : World} {x y z : Int} {ud uo u2 : Value} {L : List Pr} {l : List OV} {q2 : OV} {o : Obj} (h : Fr w x y z ud L uo l w3) (hg : (w3.alloc o).grownBy w4 uo.ownBlock) (h4 : RowO (w.heap.size + 3) u2 (l ++ [q2]) w4) (hp : RowPr 43 (w.heap.size + 3) q2.2 q2.1.preds w3) : Fr w x y z ud L u2 (l ++ [q2]) (w4.setCell ⟨w.heap.size + 2, 4, none⟩ u2) := by
  have B4 : Below (w.heap.size + 3) w3 w4 := ((Below.refl (w.heap.size + 3) w3).alloc h.size o).grown hg (by have := h.size; simp; omega) (fun k hk => (h.ops.lt k hk).1)
  have b4 := (B4.block _ (by omega)).trans h.box
  have ho : Off (w.heap.size + 2) w4 (w4.setCell ⟨w.heap.size + 2, 4, none⟩ u2) := (Off.refl _ w4).set 4 _
  have hz : w.heap.size + 3 ≤ w4.heap.size := Nat.le_trans h.size B4.size
  refine ⟨(h.bel.trans (B4.mono (by omega))).trans (ho.below (by omega) (by omega)), Nat.le_trans hz ho.size, ho.heap ((B4.block _ (by omega)).trans h.res) (by omega), set_at b4 4 _, own_off (own_grown h.deps h.ops (by decide) hg) b4 (by decide) ho, own_off h4 b4 (by decide) ho, fun q hq => ?_⟩
  rcases List.mem_append.1 hq with h1 | h1
  · exact own_off (own_grown (h.preds q h1) h.ops (by decide) hg) b4 (by decide) ho
  · rw [List.mem_singleton.1 h1]; exact own_off (own_grown hp h.ops (by decide) hg) b4 (by decide) ho

/-- The reader stays while a row grows. -/
theorem DAt.grown {g B e s n : Nat} {vb u : Value} {b : List UInt8} {st : St} {w3 w4 : World} {xs : List Value} {o : Obj} (h : DAt g vb b st w3) (own : w3.ownsRow B e s u n xs) (hT : 38 ≠ e) (hg : (w3.alloc o).grownBy w4 u.ownBlock) : DAt g vb b st w4 := by
  obtain ⟨a, h1, h2, h3⟩ := h
  exact ⟨a, h1, h2, box_grown own h3 hT hg⟩
end Go.Proofs.YtgecgemfniiciaaGreatDoor
