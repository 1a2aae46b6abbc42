/-
  What is proved: the functions Check of package json and of bookref3, called with a tree that lies in memory, tell the same: that it has more than 400 trees in it, else that something is none, else nothing. slices.BinarySearch of keys that rise finds where a key stands, or would stand. the function find of package json, called with a tree whose keys rise and a step, finds the kid to which it leads, or says that there is none. the function index of bookref3, called with a tree and a step, answers the kid to which it leads, or -1.
  Conditions: as each theorem says.
-/
import Derived.Test.YtnmdhbejjjmdeaaGreatDoorJFormed
namespace Go.Proofs.YtnmdhbejjjmdeaaGreatDoor
open Go.RowKit

/-- One more is counted. -/
def cntS (_ : V) (_ : List ByteArray) (_ : Nat) (c : Int) : Bool × Int := (decide (wrap64 (c + 1) ≤ 400), wrap64 (c + 1))

theorem cnt_trees (f : JF) : ∀ (c : Int), 0 ≤ c → c ≤ 400 → (eachF cntS f c).1 = decide (c + szF f ≤ 400) ∧ ((eachF cntS f c).1 = true → (eachF cntS f c).2 = c + szF f) := by
  induction f with
  | nil =>
    intro c h0 h1
    have es : szF (.nil : JF) = 0 := rfl
    rw [eachF]
    exact ⟨(decide_eq_true (by omega)).symm, fun _ => by show c = _; omega⟩
  | node b o x l r ihl ihr =>
    intro c h0 h1
    have hw : wrap64 (c + 1) = c + 1 := by unfold wrap64; omega
    have es : szF (.node b o x l r) = (szF l + 1) + szF r := rfl
    have e0 : cntS x.1 x.2 (toL l).length c = (decide (c + 1 ≤ 400), c + 1) := by unfold cntS; rw [hw]
    rw [eachF, e0]
    by_cases h : c + 1 ≤ 400
    · have il := ihl (c + 1) (by omega) h
      rw [if_pos (decide_eq_true h)]
      by_cases h2 : c + 1 + szF l ≤ 400
      · have e1 : (eachF cntS l (c + 1)).1 = true := by rw [il.1]; exact decide_eq_true h2
        have e2 := il.2 e1
        rw [if_pos e1, e2]
        have ir := ihr (c + 1 + szF l) (by omega) h2
        refine ⟨?_, fun e => ?_⟩
        · rw [ir.1]; exact decide_eq_decide.2 (by omega)
        · rw [ir.2 e]; omega
      · have e1 : (eachF cntS l (c + 1)).1 = false := by rw [il.1]; exact decide_eq_false h2
        rw [if_neg (by rw [e1]; decide)]
        exact ⟨(decide_eq_false (by omega)).symm, fun e => by cases e⟩
    · rw [if_neg (by simpa using h)]
      exact ⟨(decide_eq_false (by omega)).symm, fun e => by cases e⟩
theorem cnt_tree (T : JT) (c : Int) (h0 : 0 ≤ c) (h1 : c ≤ 400) : (eachM cntS T c).1 = decide (c + T.size ≤ 400) := by
  have hw : wrap64 (c + 1) = c + 1 := by unfold wrap64; omega
  have es : T.size = szF T.kids + 1 := rfl
  have e0 : cntS T.x T.ks T.ts.length c = (decide (c + 1 ≤ 400), c + 1) := by unfold cntS; rw [hw]
  rw [eachM, e0]
  by_cases h : c + 1 ≤ 400
  · rw [if_pos (decide_eq_true h), (cnt_trees T.kids (c + 1) (by omega) h).1]
    exact decide_eq_decide.2 (by omega)
  · rw [if_neg (by simpa using h)]
    exact (decide_eq_false (by omega)).symm

theorem set_at {w : World} {g : Nat} {T : TypeId} {cs : Array Value} (h : w.heap[g]? = some (.cells cs T)) (i : Nat) (v : Value) : (w.setCell ⟨g, i, none⟩ v).heap[g]? = some (.cells (cs.setIfInBounds i v) T) := by
  exact heap_setCell_same w g i _ _ v h
theorem Kp.set {S : List Nat} {w w' : World} {g : Nat} (h : Kp S w w') (hg : g ∈ S) (o : Nat) (v : Value) : Kp S w (w'.setCell ⟨g, o, none⟩ v) := by
  have h1 : Below g w' (w'.setCell ⟨g, o, none⟩ v) := (Below.refl g w').setCell (Nat.le_refl _) v
  refine ⟨h1.os.trans h.os, h1.tape.trans h.tape, h1.output.trans h.output, Nat.le_trans h.size h1.size, fun k hk hS => ?_⟩
  rw [Below.heap_setCell _ _ _ _ (fun e => hS (by rw [show k = g from by simpa using e]; exact hg))]
  exact h.block k hk hS

/-- The counter's box. -/
abbrev CB (g : Nat) (c : Int) (w : World) : Prop := w.heap[g]? = some (.cells #[.int .i64 c] 3)

/-- What is told of a tree. -/
def chkT (T : JT) : Int := if 400 < T.size then 4 else if formedB T = true then 0 else 1

end Go.Proofs.YtnmdhbejjjmdeaaGreatDoor

namespace Go.Proofs.YtnmdhbejjjmdeaaGreatDoor
open Go.RowKit Go.Sort

theorem up_all {p : List UInt8} {l : List ByteArray} (h : upB p l = true) : ∀ i (hi : i < l.length), p < l[i].toList := by
  induction l generalizing p with
  | nil => intro i hi; simp at hi
  | cons k r ih =>
    rw [upB_cons] at h
    simp only [Bool.and_eq_true, decide_eq_true_eq] at h
    intro i hi
    cases i with
    | zero => exact h.1
    | succ i => exact List.lt_trans h.1 (ih h.2.2 i (by simpa using hi))
theorem up_pair {p : List UInt8} {l : List ByteArray} (h : upB p l = true) : ∀ i j (hi : i < j) (hj : j < l.length), l[i].toList < l[j].toList := by
  induction l generalizing p with
  | nil => intro i j hi hj; simp at hj
  | cons k r ih =>
    rw [upB_cons] at h
    simp only [Bool.and_eq_true, decide_eq_true_eq] at h
    intro i j hi hj
    cases j with
    | zero => omega
    | succ j =>
      cases i with
      | zero => exact up_all h.2.2 j (by simpa using hj)
      | succ i => exact ih h.2.2 i j (by omega) (by simpa using hj)

/-- What a search answers. -/
def Found (ks : List ByteArray) (x : List UInt8) (i : Nat) (ok : Bool) : Prop :=
  i ≤ ks.length ∧ (∀ t (h : t < ks.length), t < i → ks[t].toList < x) ∧ (∀ t (h : t < ks.length), i ≤ t → ¬ ks[t].toList < x) ∧ (ok = true ↔ ∃ h : i < ks.length, ks[i].toList = x)

/-- The same, of an ending. -/
def SearchP (ks : List ByteArray) (x : List UInt8) (e : Ending) : Prop := ∃ (i : Nat) (ok : Bool), e = .returned (.tuple #[.int .i64 i, .bool ok]) ∧ Found ks x i ok

end Go.Proofs.YtnmdhbejjjmdeaaGreatDoor

namespace Go.Proofs.YtnmdhbejjjmdeaaGreatDoor
open Go.RowKit Go.Sort

/-- A step: a key, an index. -/
abbrev Stp := ByteArray × Int
/-- As Go has it. -/
abbrev stpV (s : Stp) : Value := .agg #[.string s.1, .int .i64 s.2]
/-- A step to a key of a map. -/
def keyStep (x : V) (s : Stp) : Bool := decide (x.k = 5) && (!s.1.toList.isEmpty && decide (s.2 = 0))
/-- A step to an index of a list, or behind its last. -/
def atStep (x : V) (n : Nat) (s : Stp) : Bool := decide (x.k = 6) && (s.1.toList.isEmpty && (decide (0 ≤ s.2) && decide (s.2 ≤ n)))
/-- Where a key stands. -/
def lookK : List ByteArray → List UInt8 → Option Nat
  | [], _ => none
  | k :: r, b => if k.toList = b then some 0 else (lookK r b).map (· + 1)
/-- The kid to which a step leads. -/
def kidOf (x : V) (ks : List ByteArray) (n : Nat) (s : Stp) : Option Nat :=
  if keyStep x s = true then lookK ks s.1.toList else if atStep x n s = true ∧ s.2 < n then some s.2.toNat else none

theorem lookK_some {l : List ByteArray} {b : List UInt8} {i : Nat} (h : lookK l b = some i) : ∃ h : i < l.length, l[i].toList = b ∧ ∀ t (ht : t < l.length), t < i → l[t].toList ≠ b := by
  induction l generalizing i with
  | nil => simp [lookK] at h
  | cons k r ih =>
    unfold lookK at h
    by_cases e : k.toList = b
    · rw [if_pos e] at h
      obtain rfl := Option.some.inj h
      exact ⟨by simp, e, fun t _ h => absurd h (Nat.not_lt_zero _)⟩
    · rw [if_neg e] at h
      obtain ⟨j, hj, rfl⟩ := Option.map_eq_some_iff.1 h
      obtain ⟨h1, h2, h3⟩ := ih hj
      refine ⟨by simpa using h1, h2, fun t ht hlt => ?_⟩
      cases t with
      | zero => exact e
      | succ t => exact h3 t (by simpa using ht) (by omega)
theorem lookK_none {l : List ByteArray} {b : List UInt8} (h : lookK l b = none) : ∀ t (ht : t < l.length), l[t].toList ≠ b := by
  induction l with
  | nil => intro t ht; simp at ht
  | cons k r ih =>
    unfold lookK at h
    by_cases e : k.toList = b
    · rw [if_pos e] at h; cases h
    · rw [if_neg e] at h
      intro t ht
      cases t with
      | zero => exact e
      | succ t => exact ih (Option.map_eq_none_iff.1 h) t (by simpa using ht)
theorem found_look {ks : List ByteArray} {x : List UInt8} {i : Nat} {ok : Bool} (hu : upB [] ks = true) (h : Found ks x i ok) : (∀ j, lookK ks x = some j → i = j ∧ ok = true) ∧ (lookK ks x = none → ok = false) := by
  obtain ⟨h1, h2, h3, h4⟩ := h
  refine ⟨fun j hj => ?_, fun hn => ?_⟩
  · obtain ⟨hjl, hjx, _⟩ := lookK_some hj
    have hij : i = j := by
      rcases Nat.lt_trichotomy i j with e | e | e
      · have h5 := h3 i (by omega) (Nat.le_refl _)
        have h6 := up_pair hu i j e hjl
        rw [hjx] at h6
        exact absurd h6 h5
      · exact e
      · have h5 := h2 j hjl e
        rw [hjx] at h5
        exact absurd h5 (List.lt_irrefl _)
    subst hij
    exact ⟨rfl, h4.2 ⟨hjl, hjx⟩⟩
  · cases ok with
    | false => rfl
    | true =>
      obtain ⟨hl, hx⟩ := h4.1 rfl
      exact absurd hx (lookK_none hn i hl)

theorem below_drew {B : Nat} {w wr : World} (h : Below B w wr) (n : Nat) : Below B w (wr.drewN n) := ⟨h.os, h.tape, h.output, h.size, h.block⟩

theorem two_boxes (w : World) (o1 o2 : Obj) : ((w.alloc o1).alloc o2).heap[w.heap.size]? = some o1 ∧ ((w.alloc o1).alloc o2).heap[w.heap.size + 1]? = some o2 ∧ Below w.heap.size w ((w.alloc o1).alloc o2) := by
  refine ⟨?_, ?_, ((Below.refl w.heap.size w).alloc (Nat.le_refl _) o1).alloc (by simp) o2⟩
  · exact (((Below.refl _ _).alloc (Nat.le_refl _) o2).block w.heap.size (by simp)).trans (MapKept.heap_alloc w o1).1
  · have h1 := (MapKept.heap_alloc (w.alloc o1) o2).1
    have h2 : (w.alloc o1).heap.size = w.heap.size + 1 := by simp
    rw [h2] at h1
    exact h1

/-- What find answers. -/
def FindP (q : Option Nat) (e : Ending) : Prop := ∃ (r : Int) (ok : Bool), e = .returned (.tuple #[.int .i64 r, .bool ok]) ∧ (∀ j, q = some j → r = j ∧ ok = true) ∧ (q = none → ok = false)

end Go.Proofs.YtnmdhbejjjmdeaaGreatDoor

namespace Go.Proofs.YtnmdhbejjjmdeaaGreatDoor
open Go.RowKit Go.Sort

/-- A kid's number, or -1. -/
def idxI : Option Nat → Int
  | some i => i
  | none => -1
theorem lookK_hit {k : ByteArray} {r : List ByteArray} {b : List UInt8} (h : k.toList = b) : lookK (k :: r) b = some 0 := by
  unfold lookK
  exact if_pos h
theorem lookK_drop {ks : List ByteArray} {b : List UInt8} (j : Nat) (h : ∀ t (ht : t < ks.length), t < j → ks[t].toList ≠ b) (hj : j ≤ ks.length) : lookK ks b = (lookK (ks.drop j) b).map (· + j) := by
  induction j with
  | zero => simp
  | succ j ih =>
    have e1 := ih (fun t ht hlt => h t ht (by omega)) (by omega)
    rw [e1, List.drop_eq_getElem_cons (show j < ks.length by omega), lookK, if_neg (h j (by omega) (by omega))]
    cases lookK (ks.drop (j + 1)) b with
    | none => rfl
    | some q => simp; omega

end Go.Proofs.YtnmdhbejjjmdeaaGreatDoor
