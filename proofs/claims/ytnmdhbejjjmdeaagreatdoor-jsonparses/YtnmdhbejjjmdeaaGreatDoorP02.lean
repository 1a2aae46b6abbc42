/-
  What is proved: the function Count of bookref3, called with a tree that lies in memory and a number, answers how many trees there are in it, or that number and one, whichever is less. package value's Check returns nothing of what chapter 2 calls a value, and the error of range of what is none; and nothing that was there has turned. the functions isValue and isTree of package json answer whether a value may stand in a tree, and whether a tree is one but for its kids. the function each of package json, called with a tree that lies in memory and a function whose answers are known, goes through the tree's trees from the outside in, up to the first that is not as asked.
  Conditions: as each theorem says.
-/
import Derived.Test.YtnmdhbejjjmdeaaGreatDoorP01
import Derived.Deep.RegionHeld3
import Derived.Handy
import Derived.Deep.RegionWith
namespace Go.Proofs.YtnmdhbejjjmdeaaGreatDoor
open Go.RowKit

/-- The box of a tree that a call was handed. -/
abbrev tbox (w : World) (u : TV) : World := w.alloc (.cells #[.int .i64 u.1.k, .int .i64 u.1.n, .string u.1.t, .int .i64 u.1.o, .int .i64 u.1.a, u.2.1, u.2.2] 29)

theorem lt_of_heap {w : World} {g : Nat} {o : Obj} (h : w.heap[g]? = some o) : g < w.heap.size := by
  rcases Nat.lt_or_ge g w.heap.size with h1 | h1
  · exact h1
  · rw [Array.getElem?_eq_none h1] at h; cases h

theorem tcell {w : World} {b off i : Nat} {us : List TV} (h5 : ∀ i (h : i < us.length) j, j < 7 → w.cell? ⟨b, off + i * 7 + j, none⟩ = (tcells us[i])[j]?) (h : i < us.length) (u : TV) (hu : us[i] = u) :
    w.cell? ⟨b, off + i * 7, none⟩ = some (.int .i64 u.1.k) ∧ w.cell? ⟨b, off + i * 7 + 1, none⟩ = some (.int .i64 u.1.n) ∧ w.cell? ⟨b, off + i * 7 + 2, none⟩ = some (.string u.1.t) ∧ w.cell? ⟨b, off + i * 7 + 3, none⟩ = some (.int .i64 u.1.o) ∧ w.cell? ⟨b, off + i * 7 + 4, none⟩ = some (.int .i64 u.1.a) ∧ w.cell? ⟨b, off + i * 7 + 5, none⟩ = some u.2.1 ∧ w.cell? ⟨b, off + i * 7 + 6, none⟩ = some u.2.2 := by
  subst hu
  refine ⟨?_, ?_, ?_, ?_, ?_, ?_, ?_⟩
  · exact h5 i h 0 (by decide)
  · exact h5 i h 1 (by decide)
  · exact h5 i h 2 (by decide)
  · exact h5 i h 3 (by decide)
  · exact h5 i h 4 (by decide)
  · exact h5 i h 5 (by decide)
  · exact h5 i h 6 (by decide)

theorem RowT.cells {w w' : World} {a : Option Addr} {us : List TV} (h : RowT w a us) (hb : Below w.heap.size w w') (i : Nat) (hi : i < us.length) (u : TV) (hu : us[i] = u) :
    ∃ b off, a = some ⟨b, off, none⟩ ∧ b < w.heap.size ∧ w'.cell? ⟨b, off + i * 7, none⟩ = some (.int .i64 u.1.k) ∧ w'.cell? ⟨b, off + i * 7 + 1, none⟩ = some (.int .i64 u.1.n) ∧ w'.cell? ⟨b, off + i * 7 + 2, none⟩ = some (.string u.1.t) ∧ w'.cell? ⟨b, off + i * 7 + 3, none⟩ = some (.int .i64 u.1.o) ∧ w'.cell? ⟨b, off + i * 7 + 4, none⟩ = some (.int .i64 u.1.a) ∧ w'.cell? ⟨b, off + i * 7 + 5, none⟩ = some u.2.1 ∧ w'.cell? ⟨b, off + i * 7 + 6, none⟩ = some u.2.2 := by
  obtain ⟨b, off, e, h4, h5⟩ := h (fun e => by rw [e] at hi; simp at hi)
  refine ⟨b, off, e, h4, ?_⟩
  refine tcell (w := w') (fun i h j hj => ?_) hi u hu
  rw [hb.cell (p := ⟨b, off + i * 7 + j, none⟩) h4]
  exact h5 i h j hj

/-- The cells of a box. -/
theorem tboxed {w' : World} {g : Nat} {u : TV} (h : w'.heap[g]? = some (.cells #[.int .i64 u.1.k, .int .i64 u.1.n, .string u.1.t, .int .i64 u.1.o, .int .i64 u.1.a, u.2.1, u.2.2] 29)) :
    w'.cell? ⟨g, 0, none⟩ = some (.int .i64 u.1.k) ∧ w'.cell? ⟨g, 1, none⟩ = some (.int .i64 u.1.n) ∧ w'.cell? ⟨g, 2, none⟩ = some (.string u.1.t) ∧ w'.cell? ⟨g, 3, none⟩ = some (.int .i64 u.1.o) ∧ w'.cell? ⟨g, 4, none⟩ = some (.int .i64 u.1.a) ∧ w'.cell? ⟨g, 5, none⟩ = some u.2.1 ∧ w'.cell? ⟨g, 6, none⟩ = some u.2.2 :=
  ⟨Lib.cell_of_heap h 0, Lib.cell_of_heap h 1, Lib.cell_of_heap h 2, Lib.cell_of_heap h 3, Lib.cell_of_heap h 4, Lib.cell_of_heap h 5, Lib.cell_of_heap h 6⟩

end Go.Proofs.YtnmdhbejjjmdeaaGreatDoor

namespace Go.Proofs.YtnmdhbejjjmdeaaGreatDoor
open Go.RowKit Go.Sort

/-- An id, or the root. -/
def IdOk (n a : Int) : Prop := (n = 0 ∧ a = 0) ∨ Real n a
/-- The same, told by a bool. -/
def idOkB (n a : Int) : Bool := decide (n = 0 ∧ a = 0) || decide (1 ≤ n ∧ n ≤ 1000000 ∧ 1 ≤ a ∧ a ≤ 99)
theorem idOk_iff (n a : Int) : idOkB n a = true ↔ IdOk n a := by
  unfold idOkB IdOk Real
  rw [Bool.or_eq_true, decide_eq_true_eq, decide_eq_true_eq]
theorem idOk_no (n a : Int) (h : ¬ IdOk n a) : idOkB n a = false := by
  cases e : idOkB n a with
  | true => exact absurd ((idOk_iff n a).1 e) h
  | false => rfl

/-- Are the fields that a value's kind uses what they may be? -/
def usedB (v : V) : Bool :=
  if v.k = 0 ∨ v.k = 2 ∨ v.k = 4 then true else if v.k = 1 then decide (v.n = 0 ∨ v.n = 1) else if v.k = 3 then decide ((v.t.size : Int) ≤ 60) else if v.k = 5 ∨ v.k = 6 then idOkB v.o v.a else false

/-- A value without the fields that its kind does not use. -/
def onlyV (v : V) : V :=
  if v.k = 1 ∨ v.k = 2 ∨ v.k = 4 then ⟨v.k, v.n, .empty, 0, 0⟩ else if v.k = 3 then ⟨3, 0, v.t, 0, 0⟩ else if v.k = 5 ∨ v.k = 6 then ⟨v.k, 0, .empty, v.o, v.a⟩ else ⟨v.k, 0, .empty, 0, 0⟩

/-- Two values are one. -/
def sameB (v u : V) : Bool := v.k == u.k && (v.n == u.n && (v.t.toList == u.t.toList && (v.o == u.o && v.a == u.a)))

set_option maxRecDepth 100000 in
theorem eqV (v u : V) (w : World) : (Op.equalIn 10000 25 v.val u.val).run Tryz.prog w = .ok (sameB v u) w := by
  obtain ⟨k, n, t, o, a⟩ := v
  obtain ⟨k', n', t', o', a'⟩ := u
  unfold V.val sameB
  dsimp only
  go_simp
  by_cases h1 : k = k' <;> by_cases h2 : n = n' <;> by_cases h3 : t.toList = t'.toList <;> by_cases h4 : o = o' <;> by_cases h5 : a = a' <;> simp [h1, h2, h3, h4, h5]


/-- Is it a value? -/
def okB (v : V) : Bool := usedB v && sameB v (onlyV v)

end Go.Proofs.YtnmdhbejjjmdeaaGreatDoor

namespace Go.Proofs.YtnmdhbejjjmdeaaGreatDoor
open Go.RowKit

/-- May a tree have this value? -/
def valB (x : V) : Bool := okB x && (decide (x.k ≠ 4) && decide (x.o = 0 ∧ x.a = 0))
/-- Is it a tree, but for its kids, of which there are so many? -/
def nodeB (x : V) (ks : List ByteArray) (n : Nat) : Bool :=
  valB x && (if x.k = 5 then decide (ks.length = n) && upB [] ks else if x.k = 6 then ks.isEmpty else ks.isEmpty && decide (n = 0))

end Go.Proofs.YtnmdhbejjjmdeaaGreatDoor

namespace Go.Proofs.YtnmdhbejjjmdeaaGreatDoor
open Go.RowKit

/-- All but some blocks is as it was. -/
structure Kp (S : List Nat) (w w' : World) : Prop where
  os : w'.os = w.os
  tape : w'.tape = w.tape
  output : w'.output = w.output
  size : w.heap.size ≤ w'.heap.size
  block : ∀ k, k < w.heap.size → k ∉ S → w'.heap[k]? = w.heap[k]?

theorem Kp.refl (S : List Nat) (w : World) : Kp S w w := ⟨rfl, rfl, rfl, Nat.le_refl _, fun _ _ _ => rfl⟩
theorem Kp.trans {S : List Nat} {w w1 w2 : World} (h : Kp S w w1) (k : Kp S w1 w2) : Kp S w w2 :=
  ⟨k.os.trans h.os, k.tape.trans h.tape, k.output.trans h.output, Nat.le_trans h.size k.size, fun b hb hS => (k.block b (Nat.lt_of_lt_of_le hb h.size) hS).trans (h.block b hb hS)⟩
theorem Kp.mono {S R : List Nat} {w w' : World} (h : Kp S w w') (hS : ∀ b ∈ S, b ∈ R) : Kp R w w' :=
  ⟨h.os, h.tape, h.output, h.size, fun b hb hR => h.block b hb (fun e => hR (hS b e))⟩
theorem Kp.of {S : List Nat} {w w' : World} (h : Below w.heap.size w w') : Kp S w w' := ⟨h.os, h.tape, h.output, h.size, fun k hk _ => h.block k hk⟩
theorem Kp.below {S : List Nat} {B : Nat} {w w' : World} (h : Kp S w w') (hB : ∀ b ∈ S, B ≤ b) (hz : B ≤ w.heap.size) : Below B w w' :=
  ⟨h.os, h.tape, h.output, h.size, fun k hk => h.block k (by omega) (fun e => by have := hB k e; omega)⟩
theorem Kp.heap {S : List Nat} {w w' : World} {b : Nat} {o : Obj} (h : Kp S w w') (hb : w.heap[b]? = some o) (hS : b ∉ S) : w'.heap[b]? = some o := by
  rw [h.block b (lt_of_heap hb) hS]; exact hb
theorem Kp.alloc (S : List Nat) (w : World) (o : Obj) : Kp S w (w.alloc o) := Kp.of ((Below.refl _ w).alloc (Nat.le_refl _) o)

theorem IsTG.parts {w : World} {u : TV} {T : JT} (h : IsT w (tval u) T) : ∃ x a1 n1 c1 a2 n2 c2, u = (x, .slice a1 n1 c1, .slice a2 n2 c2) := by
  obtain ⟨_, uk, a, cap, us, e, hk, _⟩ := h.inv
  obtain ⟨a1, c1, rfl, _⟩ := hk
  exact ⟨T.x, _, _, _, _, _, _, tval_inj e⟩

/-- Trees gone through one after the other, from the outside in, with a state. -/
def eachF {σ : Type} (stp : V → List ByteArray → Nat → σ → Bool × σ) : JF → σ → Bool × σ
  | .nil, s => (true, s)
  | .node _ _ x l r, s => if (stp x.1 x.2 (toL l).length s).1 = true then (if (eachF stp l (stp x.1 x.2 (toL l).length s).2).1 = true then eachF stp r (eachF stp l (stp x.1 x.2 (toL l).length s).2).2 else (false, (eachF stp l (stp x.1 x.2 (toL l).length s).2).2)) else (false, (stp x.1 x.2 (toL l).length s).2)
/-- A tree gone through from the outside in, with a state. -/
def eachM {σ : Type} (stp : V → List ByteArray → Nat → σ → Bool × σ) (T : JT) (s : σ) : Bool × σ :=
  if (stp T.x T.ks T.ts.length s).1 = true then eachF stp T.kids (stp T.x T.ks T.ts.length s).2 else (false, (stp T.x T.ks T.ts.length s).2)
/-- Several, one after the other. -/
def eachsM {σ : Type} (stp : V → List ByteArray → Nat → σ → Bool × σ) : List JT → σ → Bool × σ
  | [], s => (true, s)
  | t :: r, s => if (eachM stp t s).1 = true then eachsM stp r (eachM stp t s).2 else (false, (eachM stp t s).2)
theorem eachsM_cons {σ : Type} (stp : V → List ByteArray → Nat → σ → Bool × σ) (t : JT) (r : List JT) (s : σ) : eachsM stp (t :: r) s = if (eachM stp t s).1 = true then eachsM stp r (eachM stp t s).2 else (false, (eachM stp t s).2) := by
  rw [eachsM]
theorem eachsM_toL {σ : Type} (stp : V → List ByteArray → Nat → σ → Bool × σ) (f : JF) (s : σ) : eachsM stp (toL f) s = eachF stp f s := by
  induction f generalizing s with
  | nil => rw [toL, eachsM, eachF]
  | node b o x l r _ ihr =>
    rw [toL, eachsM_cons, eachF, ihr]
    have e : eachM stp ⟨x, l⟩ s = if (stp x.1 x.2 (toL l).length s).1 = true then eachF stp l (stp x.1 x.2 (toL l).length s).2 else (false, (stp x.1 x.2 (toL l).length s).2) := rfl
    rw [e]
    by_cases h : (stp x.1 x.2 (toL l).length s).1 = true
    · rw [if_pos h, if_pos h]
    · rw [if_neg h, if_neg h, if_neg (by simp)]
theorem eachM_eq {σ : Type} (stp : V → List ByteArray → Nat → σ → Bool × σ) (T : JT) (s : σ) : eachM stp T s = if (stp T.x T.ks T.ts.length s).1 = true then eachsM stp T.ts (stp T.x T.ks T.ts.length s).2 else (false, (stp T.x T.ks T.ts.length s).2) := by
  rw [eachM, JT.ts, eachsM_toL]
theorem eachM_node {σ : Type} (stp : V → List ByteArray → Nat → σ → Bool × σ) (x : V) (ks : List ByteArray) (ts : List JT) (s : σ) : eachM stp (.node x ks ts) s = if (stp x ks ts.length s).1 = true then eachsM stp ts (stp x ks ts.length s).2 else (false, (stp x ks ts.length s).2) := by
  rw [eachM_eq, node_ts]; rfl

end Go.Proofs.YtnmdhbejjjmdeaaGreatDoor
