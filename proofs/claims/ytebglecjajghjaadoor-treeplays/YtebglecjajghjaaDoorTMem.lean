/-
  What is proved: trees that lie in memory, and what stays as it is while others turn.
  Conditions: as each theorem says.
-/
import Derived.Test.YtebglecjajghjaaDoorTBal
import Derived.WalkKit
import Derived.WalkSpells
import Derived.WalkLawsBesides
import Derived.Handy
import Derived.Deep.RegionWith
import Derived.Deep.RegionHeld3
import Derived.Deep.QuietTactic
import Derived.BigQuiet
import Derived.Deep.DeepFit
import Derived.Deep.CutRange
import Derived.BigRegion
import Derived.Below
import Derived.Lib.Builder
namespace Go.Proofs.YtebglecjajghjaaDoor
open Go.RowKit

/-- The pointer to a tree's top. -/
def _root_.Go.Deep.BT.addr : (Deep.BT Int) → Option Addr
  | .nil => none
  | .node b _ _ _ _ => some ⟨b, 0, none⟩
abbrev _root_.Go.Deep.BT.pt (t : (Deep.BT Int)) : Value := .pointer t.addr

/-- The cells of a node. -/
abbrev ncells (x u : Int) (p q : Value) (m s h : Int) : Array Value := #[.int .i64 x, .int .i64 u, p, q, .int .i64 m, .int .i64 s, .int .i64 h]

/-- A tree that lies in memory, summed up. -/
def _root_.Go.Deep.BT.At (w : World) : (Deep.BT Int) → Prop
  | .nil => True
  | .node b x u l r => w.heap[b]? = some (.cells (ncells (th x) u l.pt r.pt ((l.many + 1 + r.many : Nat) : Int) (l.wide + u + r.wide) ((1 + max l.high r.high : Nat) : Int)) 52) ∧ l.At w ∧ r.At w

/-- A row's box: its top, and how much was looked at. -/
abbrev RowAt (g : Nat) (p : Value) (k : Nat) (w : World) : Prop := w.heap[g]? = some (.cells #[p, .int .i64 (k : Int)] 43)

/-- All but some blocks is as it was. -/
structure Kp (S : List Nat) (w w' : World) : Prop where
  os : w'.os = w.os
  tape : w'.tape = w.tape
  output : w'.output = w.output
  size : w.heap.size ≤ w'.heap.size
  block : ∀ k, k < w.heap.size → k ∉ S → w'.heap[k]? = w.heap[k]?

theorem Kp.refl (S : List Nat) (w : World) : Kp S w w := ⟨rfl, rfl, rfl, Nat.le_refl _, fun _ _ _ => rfl⟩
theorem Kp.trans {S : List Nat} {w w1 w2 : World} (h : Kp S w w1) (k : Kp S w1 w2) : Kp S w w2 :=
  ⟨k.os.trans h.os, k.tape.trans h.tape, k.output.trans h.output, Nat.le_trans h.size k.size, fun b hb hS => (k.block b (Nat.lt_of_lt_of_le hb h.size) hS).trans (h.block b hb hS)⟩
theorem Kp.mono {S R : List Nat} {w w' : World} (h : Kp S w w') (hS : ∀ b ∈ S, b ∈ R) : Kp R w w' :=
  ⟨h.os, h.tape, h.output, h.size, fun b hb hR => h.block b hb (fun e => hR (hS b e))⟩
theorem Kp.of {S : List Nat} {w w' : World} (h : Below w.heap.size w w') : Kp S w w' := ⟨h.os, h.tape, h.output, h.size, fun k hk _ => h.block k hk⟩
theorem Kp.below {S : List Nat} {B : Nat} {w w' : World} (h : Kp S w w') (hB : ∀ b ∈ S, B ≤ b) (hz : B ≤ w.heap.size) : Below B w w' :=
  ⟨h.os, h.tape, h.output, h.size, fun k hk => h.block k (by omega) (fun e => by have := hB k e; omega)⟩
theorem Kp.heap {S : List Nat} {w w' : World} {b : Nat} {o : Obj} (h : Kp S w w') (hb : w.heap[b]? = some o) (hS : b ∉ S) : w'.heap[b]? = some o := by
  rw [h.block b ?_ hS]
  · exact hb
  · rcases Nat.lt_or_ge b w.heap.size with h1 | h1
    · exact h1
    · rw [Array.getElem?_eq_none h1] at hb; cases hb
theorem Kp.set {S : List Nat} {w w' : World} {g : Nat} (h : Kp S w w') (hg : g ∈ S) (o : Nat) (v : Value) : Kp S w (w'.setCell ⟨g, o, none⟩ v) := by
  have h1 : Below g w' (w'.setCell ⟨g, o, none⟩ v) := (Below.refl g w').setCell (Nat.le_refl _) v
  refine ⟨h1.os.trans h.os, h1.tape.trans h.tape, h1.output.trans h.output, Nat.le_trans h.size h1.size, fun k hk hS => ?_⟩
  rw [Below.heap_setCell _ _ _ _ (fun e => hS (by rw [show k = g from by simpa using e]; exact hg))]
  exact h.block k hk hS
theorem Kp.setNew {S : List Nat} {w w' : World} {b : Nat} (h : Kp S w w') (hb : w.heap.size ≤ b) (o : Nat) (v : Value) : Kp S w (w'.setCell ⟨b, o, none⟩ v) := by
  have h1 : Below b w' (w'.setCell ⟨b, o, none⟩ v) := (Below.refl b w').setCell (Nat.le_refl _) v
  refine ⟨h1.os.trans h.os, h1.tape.trans h.tape, h1.output.trans h.output, Nat.le_trans h.size h1.size, fun k hk hS => ?_⟩
  rw [Below.heap_setCell _ _ _ _ (by simp; omega)]
  exact h.block k hk hS
theorem Kp.alloc {S : List Nat} {w w' : World} (h : Kp S w w') (o : Obj) : Kp S w (w'.alloc o) :=
  h.trans (Kp.of ((Below.refl _ w').alloc (Nat.le_refl _) o))
theorem Kp.drew {S : List Nat} {w w' : World} (h : Kp S w w') : Kp S w w'.drew := ⟨h.os, h.tape, h.output, h.size, h.block⟩

theorem lt_of_heap {w : World} {b : Nat} {o : Obj} (hb : w.heap[b]? = some o) : b < w.heap.size := by
  rcases Nat.lt_or_ge b w.heap.size with h1 | h1
  · exact h1
  · rw [Array.getElem?_eq_none h1] at hb; cases hb

theorem _root_.Go.Deep.BT.At.kp {S : List Nat} {w w' : World} {t : (Deep.BT Int)} (h : t.At w) (k : Kp S w w') (hS : ∀ b ∈ t.blocks, b ∉ S) : t.At w' := by
  induction t with
  | nil => trivial
  | node b x u l r il ir =>
    obtain ⟨h1, h2, h3⟩ := h
    exact ⟨k.heap h1 (hS b (by simp [Deep.BT.blocks])), il h2 (fun c hc => hS c (by simp [Deep.BT.blocks, hc])), ir h3 (fun c hc => hS c (by simp [Deep.BT.blocks, hc]))⟩

theorem _root_.Go.Deep.BT.At.lt {w : World} {t : (Deep.BT Int)} (h : t.At w) : ∀ b ∈ t.blocks, b < w.heap.size := by
  induction t with
  | nil => simp [Deep.BT.blocks]
  | node b x u l r il ir =>
    obtain ⟨h1, h2, h3⟩ := h
    intro c hc
    simp only [Deep.BT.blocks, List.mem_cons, List.mem_append] at hc
    rcases hc with rfl | hc | hc
    · exact lt_of_heap h1
    · exact il h2 c hc
    · exact ir h3 c hc

theorem heap_alloc_old {w : World} {b : Nat} {o : Obj} (h : w.heap[b]? = some o) (q : Obj) : (w.alloc q).heap[b]? = some o :=
  ((Below.refl w.heap.size w).alloc (Nat.le_refl _) q).block b (lt_of_heap h) |>.trans h

theorem heap_alloc_new (w : World) (o : Obj) : (w.alloc o).heap[w.heap.size]? = some o := (MapKept.heap_alloc w o).1

theorem heap_at_new (w : World) (o : Obj) {n : Nat} (h : n = w.heap.size) : (w.alloc o).heap[n]? = some o := by rw [h]; exact heap_alloc_new w o

theorem heap_drew {w : World} {b : Nat} {o : Obj} (h : w.heap[b]? = some o) : w.drew.heap[b]? = some o := h

theorem heap_set_other {w : World} {b g i : Nat} {v : Value} {o : Obj} (h : w.heap[b]? = some o) (hb : b ≠ g) : (w.setCell ⟨g, i, none⟩ v).heap[b]? = some o := by
  rw [Below.heap_setCell _ _ _ _ (by simpa using hb)]
  exact h

theorem set_at {w : World} {g : Nat} {cs : Array Value} {T : TypeId} (h : w.heap[g]? = some (.cells cs T)) (i : Nat) (u : Value) : (w.setCell ⟨g, i, none⟩ u).heap[g]? = some (.cells (cs.setIfInBounds i u) T) :=
  heap_setCell_same w g i _ _ u h

/-- A row's box, whatever was counted. -/
def RowE (g : Nat) (p : Value) (w : World) : Prop := ∃ v : Value, w.heap[g]? = some (.cells #[p, v] 43)
theorem rowE_of {g k : Nat} {p : Value} {w : World} (h : RowAt g p k w) : RowE g p w := ⟨_, h⟩
theorem rowE_drew {g : Nat} {p : Value} {w : World} (h : RowE g p w) : RowE g p w.drew := h
theorem rowE_alloc {g : Nat} {p : Value} {w : World} (h : RowE g p w) (o : Obj) : RowE g p (w.alloc o) := by obtain ⟨v, h⟩ := h; exact ⟨v, heap_alloc_old h o⟩
theorem rowE_other {g b i : Nat} {p v : Value} {w : World} (h : RowE g p w) (hb : g ≠ b) : RowE g p (w.setCell ⟨b, i, none⟩ v) := by obtain ⟨u, h⟩ := h; exact ⟨u, heap_set_other h hb⟩
theorem rowE_set {g : Nat} {p : Value} {w : World} (h : RowE g p w) (v : Value) : RowE g p (w.setCell ⟨g, 1, none⟩ v) := by obtain ⟨u, h⟩ := h; exact ⟨v, set_at h 1 v⟩
theorem row_set {g k : Nat} {p : Value} {w : World} (h : RowE g p w) {x : Int} (hx : x = (k : Int)) : RowAt g p k (w.setCell ⟨g, 1, none⟩ (.int .i64 x)) := by obtain ⟨u, h⟩ := h; rw [hx]; exact set_at h 1 _
/-- A box of three cells, whatever they hold. -/
def BoxE (b : Nat) (T : TypeId) (w : World) : Prop := ∃ x y z, w.heap[b]? = some (.cells #[x, y, z] T)
theorem box_set {b : Nat} {T : TypeId} {w : World} (h : BoxE b T w) (x y z : Value) : (((w.setCell ⟨b, 0, none⟩ x).setCell ⟨b, 1, none⟩ y).setCell ⟨b, 2, none⟩ z).heap[b]? = some (.cells #[x, y, z] T) := by
  obtain ⟨_, _, _, h⟩ := h
  exact set_at (set_at (set_at h 0 x) 1 y) 2 z
theorem boxE_new (w : World) (x y z : Value) (T : TypeId) {n : Nat} (h : n = w.heap.size) : BoxE n T (w.alloc (.cells #[x, y, z] T)) := ⟨x, y, z, heap_at_new _ _ h⟩
theorem boxE_drew {b : Nat} {T : TypeId} {w : World} (h : BoxE b T w) : BoxE b T w.drew := h
theorem boxE_alloc {b : Nat} {T : TypeId} {w : World} (h : BoxE b T w) (o : Obj) : BoxE b T (w.alloc o) := by obtain ⟨x, y, z, h⟩ := h; exact ⟨x, y, z, heap_alloc_old h o⟩
theorem boxE_other {b g i : Nat} {T : TypeId} {v : Value} {w : World} (h : BoxE b T w) (hb : b ≠ g) : BoxE b T (w.setCell ⟨g, i, none⟩ v) := by obtain ⟨x, y, z, h⟩ := h; exact ⟨x, y, z, heap_set_other h hb⟩

/-- A tree whose widths are widths, and that is not too long. -/
def _root_.Go.Deep.BT.fit (t : (Deep.BT Int)) : Prop := t.many ≤ 1000000 ∧ ∀ q ∈ t.items, 0 ≤ q.2 ∧ q.2 ≤ 1000000

theorem wide_of (t : (Deep.BT Int)) (h : ∀ q ∈ t.items, 0 ≤ q.2 ∧ q.2 ≤ 1000000) : 0 ≤ t.wide ∧ t.wide ≤ 1000000 * (t.many : Int) := by
  induction t with
  | nil => simp [Deep.BT.wide, Deep.BT.many]
  | node b x u l r il ir =>
    have h1 := il (fun q hq => h q (by simp [Deep.BT.items, hq]))
    have h2 := ir (fun q hq => h q (by simp [Deep.BT.items, hq]))
    have h3 := h (th x, u) (by simp [Deep.BT.items])
    simp only [Deep.BT.wide, Deep.BT.many]
    simp only at h3
    omega

theorem _root_.Go.Deep.BT.fit.wide {t : (Deep.BT Int)} (h : t.fit) : 0 ≤ t.wide ∧ t.wide ≤ 1000000000000 := by
  have h1 := wide_of t h.2
  have h2 := h.1
  omega
end Go.Proofs.YtebglecjajghjaaDoor
