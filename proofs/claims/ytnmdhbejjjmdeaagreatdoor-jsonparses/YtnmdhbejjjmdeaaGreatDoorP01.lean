/-
  What is proved: the functions Check, Less and isRoot of package id, called with any id, return what chapter 1 says, and nothing that was there has turned. values' order is one: held one against the other they come out the other way round for the other order, as nothing for one value alone, and from one to the next. trees (a value, keys, kids) that lie in memory stay there while other things are made. the function areKeys of package json answers whether keys rise by bytes, none being empty or longer than 20.
  Conditions: as each theorem says.
-/
import Derived.Test.YtnmdhbejjjmdeaaGreatDoorProg
import Derived.WalkKit
import Derived.WalkSpells
import Derived.WalkLawsBesides
import Derived.Sort.Walk0
import Derived.Handy
import Derived.Deep.RegionWith
import Derived.Deep.RegionHeld3
import Derived.Deep.QuietTactic
import Derived.Shelf.Abstract
import Derived.Deep.Trees
import Derived.Deep.CutBlock
namespace Go.Proofs.YtnmdhbejjjmdeaaGreatDoor
open Go.RowKit

/-- An id that is none of the root. -/
def Real (n a : Int) : Prop := 1 ≤ n ∧ n ≤ 1000000 ∧ 1 ≤ a ∧ a ≤ 99
/-- What is no id. -/
def Bad (n a : Int) : Prop := ¬ (n = 0 ∧ a = 0) ∧ ¬ Real n a

/-- Is an id ahead of another one? -/
def lessB (n a m b : Int) : Bool := if n = m then decide (a < b) else decide (n < m)

set_option maxRecDepth 100000 in
set_option maxHeartbeats 400000 in
theorem isRoot_yes (w : World) :
    Calls Tryz.prog 89 #[.agg #[.int .i64 0, .int .i64 0]] w fun e w' => e = .returned (.bool true) ∧ Below w.heap.size w w' := by
  go_enter Tryz.func89, Tryz.ntmps89
  go_wp2
  go_ret
  exact ⟨rfl, (Below.refl _ _).alloc (Nat.le_refl _) _⟩

set_option maxRecDepth 100000 in
set_option maxHeartbeats 400000 in
theorem isRoot_no (n a : Int) (w : World) (h : ¬ (n = 0 ∧ a = 0)) :
    Calls Tryz.prog 89 #[.agg #[.int .i64 n, .int .i64 a]] w fun e w' => e = .returned (.bool false) ∧ Below w.heap.size w w' := by
  by_cases h0 : n = 0
  · have h1 : ¬ a = 0 := fun e => h ⟨h0, e⟩
    subst h0
    clear h
    go_enter Tryz.func89, Tryz.ntmps89
    go_wp2
    go_ret
    exact ⟨rfl, (Below.refl _ _).alloc (Nat.le_refl _) _⟩
  · clear h
    go_enter Tryz.func89, Tryz.ntmps89
    go_wp2
    go_ret
    exact ⟨rfl, (Below.refl _ _).alloc (Nat.le_refl _) _⟩

set_option maxRecDepth 100000 in
set_option maxHeartbeats 400000 in
theorem check_root (w : World) :
    Calls Tryz.prog 88 #[.agg #[.int .i64 0, .int .i64 0]] w fun e w' => e = .returned .nilIface ∧ Below w.heap.size w w' := by
  go_enter Tryz.func88, Tryz.ntmps88
  go_wp2
  go_ret
  exact ⟨rfl, ((Below.refl _ _).alloc (Nat.le_refl _) _).alloc (by simp) _⟩

set_option maxRecDepth 100000 in
set_option maxHeartbeats 400000 in
theorem check_real (n a : Int) (w : World) (h : Real n a) :
    Calls Tryz.prog 88 #[.agg #[.int .i64 n, .int .i64 a]] w fun e w' => e = .returned .nilIface ∧ Below w.heap.size w w' := by
  obtain ⟨h1, h2, h3, h4⟩ := h
  have h0 : ¬ n = 0 := by omega
  go_enter Tryz.func88, Tryz.ntmps88
  go_wp2
  go_ret
  exact ⟨rfl, ((Below.refl _ _).alloc (Nat.le_refl _) _).alloc (by simp) _⟩

set_option maxRecDepth 100000 in
set_option maxHeartbeats 400000 in
theorem check_bad (n a : Int) (w : World) (h : Bad n a) :
    Calls Tryz.prog 88 #[.agg #[.int .i64 n, .int .i64 a]] w fun e w' => e = .returned (.iface 43 (.int .i64 1)) ∧ Below w.heap.size w w' := by
  obtain ⟨hr, hn⟩ := h
  unfold Real at hn
  by_cases h0 : n = 0
  · have h1 : ¬ a = 0 := fun e => hr ⟨h0, e⟩
    subst h0
    clear hr hn
    go_enter Tryz.func88, Tryz.ntmps88
    go_wp2
    go_ret
    exact ⟨rfl, ((Below.refl _ _).alloc (Nat.le_refl _) _).alloc (by simp) _⟩
  · clear hr
    by_cases h1 : 1 ≤ n
    · by_cases h2 : n ≤ 1000000
      · by_cases h3 : 1 ≤ a
        · have h4 : ¬ a ≤ 99 := fun e => hn ⟨h1, h2, h3, e⟩
          clear hn
          go_enter Tryz.func88, Tryz.ntmps88
          go_wp2
          go_ret
          exact ⟨rfl, ((Below.refl _ _).alloc (Nat.le_refl _) _).alloc (by simp) _⟩
        · clear hn
          go_enter Tryz.func88, Tryz.ntmps88
          go_wp2
          go_ret
          exact ⟨rfl, ((Below.refl _ _).alloc (Nat.le_refl _) _).alloc (by simp) _⟩
      · clear hn
        go_enter Tryz.func88, Tryz.ntmps88
        go_wp2
        go_ret
        exact ⟨rfl, ((Below.refl _ _).alloc (Nat.le_refl _) _).alloc (by simp) _⟩
    · clear hn
      go_enter Tryz.func88, Tryz.ntmps88
      go_wp2
      go_ret
      exact ⟨rfl, ((Below.refl _ _).alloc (Nat.le_refl _) _).alloc (by simp) _⟩

end Go.Proofs.YtnmdhbejjjmdeaaGreatDoor

namespace Go.Proofs.YtnmdhbejjjmdeaaGreatDoor

/-- How two numbers compare. -/
def cI (x y : Int) : Int := if x < y then -1 else if y < x then 1 else 0
/-- How two texts compare. -/
def cS (x y : List UInt8) : Int := if x < y then -1 else if x = y then 0 else 1
/-- How two ids compare. -/
def cId (x y : Int × Int) : Int := if lessB x.1 x.2 y.1 y.2 = true then -1 else if lessB y.1 y.2 x.1 x.2 = true then 1 else 0
/-- The first that is not nothing. -/
def or2 (x y : Int) : Int := if x = 0 then y else x

/-- An order, told by numbers. -/
structure Cmp {α : Type} (f : α → α → Int) : Prop where
  range : ∀ a b, f a b = -1 ∨ f a b = 0 ∨ f a b = 1
  back : ∀ a b, f a b = - f b a
  zero : ∀ a b, f a b = 0 ↔ a = b
  next : ∀ a b c, f a b ≤ 0 → f b c ≤ 0 → f a c ≤ 0

theorem Cmp.lex {α β : Type} {f : α → α → Int} {g : β → β → Int} (F : Cmp f) (G : Cmp g) : Cmp (fun (x y : α × β) => or2 (f x.1 y.1) (g x.2 y.2)) := by
  refine ⟨fun a b => ?_, fun a b => ?_, fun a b => ?_, fun a b c h1 h2 => ?_⟩
  · have h1 := F.range a.1 b.1
    have h2 := G.range a.2 b.2
    dsimp only [or2]
    split <;> omega
  · have h1 := F.back a.1 b.1
    have h2 := G.back a.2 b.2
    dsimp only [or2]
    split <;> split <;> omega
  · dsimp only [or2]
    by_cases h : f a.1 b.1 = 0
    · rw [if_pos h, G.zero]
      have e := (F.zero a.1 b.1).1 h
      exact ⟨fun h' => Prod.ext e h', fun h' => by rw [h']⟩
    · rw [if_neg h]
      exact ⟨fun h' => absurd h' h, fun h' => absurd ((F.zero a.1 b.1).2 (by rw [h'])) h⟩
  · dsimp only [or2] at *
    have hn := F.next a.1 b.1 c.1
    by_cases h3 : f a.1 b.1 = 0
    · rw [if_pos h3] at h1
      have e := (F.zero a.1 b.1).1 h3
      rw [e]
      by_cases h4 : f b.1 c.1 = 0
      · rw [if_pos h4] at h2
        rw [if_pos h4]
        exact G.next _ _ _ h1 h2
      · rw [if_neg h4] at h2
        rw [if_neg h4]
        exact h2
    · rw [if_neg h3] at h1
      have h5 : f a.1 c.1 ≠ 0 := by
        intro h5
        have e := (F.zero a.1 c.1).1 h5
        have h6 : f b.1 c.1 ≤ 0 := by
          by_cases h4 : f b.1 c.1 = 0
          · omega
          · rw [if_neg h4] at h2
            exact h2
        rw [← e] at h6
        have := F.back a.1 b.1
        omega
      rw [if_neg h5]
      refine hn h1 ?_
      by_cases h4 : f b.1 c.1 = 0
      · omega
      · rw [if_neg h4] at h2
        exact h2

theorem cmp_cI : Cmp cI := by
  refine ⟨fun a b => ?_, fun a b => ?_, fun a b => ?_, fun a b c => ?_⟩
  · unfold cI; split <;> (try split) <;> omega
  · unfold cI; split <;> split <;> (try split) <;> omega
  · unfold cI; split <;> (try split) <;> omega
  · unfold cI; split <;> split <;> (try split) <;> (try split) <;> (try split) <;> omega

theorem tri (x y : List UInt8) (h : ¬ x < y) (h2 : ¬ x = y) : y < x := by
  rcases Decidable.em (y < x) with h3 | h3
  · exact h3
  · exact absurd (List.le_antisymm (List.not_lt.1 h3) (List.not_lt.1 h)) h2

theorem asym (x y : List UInt8) (h : x < y) : ¬ y < x := fun h2 => List.lt_irrefl x (List.lt_trans h h2)

theorem cmp_cS : Cmp cS := by
  refine ⟨fun a b => ?_, fun a b => ?_, fun a b => ?_, fun a b c h1 h2 => ?_⟩
  · unfold cS
    by_cases h : a < b
    · simp [h]
    · rw [if_neg h]
      split <;> omega
  · unfold cS
    by_cases h2 : a = b
    · subst h2
      simp [List.lt_irrefl]
    · have h3 : ¬ b = a := fun e => h2 e.symm
      by_cases h : a < b
      · simp [h, h3, asym a b h]
      · simp [h, h2, tri a b h h2]
  · unfold cS
    by_cases h2 : a = b
    · subst h2
      simp [List.lt_irrefl]
    · by_cases h : a < b <;> simp [h, h2]
  · unfold cS at *
    by_cases e1 : a = b
    · subst e1
      exact h2
    · by_cases e2 : b = c
      · subst e2
        exact h1
      · have l1 : a < b := by
          rcases Decidable.em (a < b) with h | h
          · exact h
          · rw [if_neg h, if_neg e1] at h1
            omega
        have l2 : b < c := by
          rcases Decidable.em (b < c) with h | h
          · exact h
          · rw [if_neg h, if_neg e2] at h2
            omega
        rw [if_pos (List.lt_trans l1 l2)]
        omega

theorem cmp_cId : Cmp cId := by
  have hl : ∀ n a m b, lessB n a m b = true ↔ (n = m ∧ a < b) ∨ (n ≠ m ∧ n < m) := by
    intro n a m b
    unfold lessB
    by_cases h : n = m <;> simp [h]
  refine ⟨fun a b => ?_, fun a b => ?_, fun a b => ?_, fun a b c => ?_⟩
  · unfold cId; split <;> (try split) <;> omega
  · unfold cId; simp only [hl]; split <;> split <;> (try split) <;> omega
  · unfold cId
    simp only [hl]
    constructor
    · intro h
      refine Prod.ext ?_ ?_ <;> (revert h; split <;> (try split) <;> omega)
    · intro h
      subst h
      simp
  · unfold cId; simp only [hl]; split <;> split <;> (try split) <;> (try split) <;> (try split) <;> omega

/-- A value's fields. -/
structure V where
  k : Int
  n : Int
  t : ByteArray
  o : Int
  a : Int

/-- A value, as Go has it. -/
def V.val (v : V) : Value := .agg #[.int .i64 v.k, .int .i64 v.n, .string v.t, .int .i64 v.o, .int .i64 v.a]

/-- How two values compare. -/
def cV (v u : V) : Int := or2 (cI v.k u.k) (or2 (cI v.n u.n) (or2 (cS v.t.toList u.t.toList) (cId (v.o, v.a) (u.o, u.a))))

/-- A value's fields as pairs. -/
def V.key (v : V) : Int × Int × List UInt8 × Int × Int := (v.k, v.n, v.t.toList, v.o, v.a)

theorem cV_range (v u : V) : cV v u = -1 ∨ cV v u = 0 ∨ cV v u = 1 := (cmp_cI.lex (cmp_cI.lex (cmp_cS.lex cmp_cId))).range v.key u.key
theorem cV_back (v u : V) : cV v u = - cV u v := (cmp_cI.lex (cmp_cI.lex (cmp_cS.lex cmp_cId))).back v.key u.key
theorem cV_next (v u x : V) : cV v u ≤ 0 → cV u x ≤ 0 → cV v x ≤ 0 := (cmp_cI.lex (cmp_cI.lex (cmp_cS.lex cmp_cId))).next v.key u.key x.key
theorem cV_zero (v u : V) : cV v u = 0 ↔ v.k = u.k ∧ v.n = u.n ∧ v.t.toList = u.t.toList ∧ v.o = u.o ∧ v.a = u.a := by
  refine ((cmp_cI.lex (cmp_cI.lex (cmp_cS.lex cmp_cId))).zero v.key u.key).trans ?_
  simp [V.key]
end Go.Proofs.YtnmdhbejjjmdeaaGreatDoor

namespace Go.Proofs.YtnmdhbejjjmdeaaGreatDoor
open Go.RowKit

/-- Trees one after the other: the library's binary trees, read so: a node is a tree whose kids stand to the left, ahead of those to the right. -/
abbrev JF := Deep.BT (V × List ByteArray)
/-- A tree: its value and its keys, its kids. -/
structure JT where
  lab : V × List ByteArray
  kids : JF
/-- Such trees, as a list. -/
def toL : JF → List JT
  | .nil => []
  | .node _ _ a l r => ⟨a, l⟩ :: toL r
/-- A list, as such trees. -/
def ofL : List JT → JF
  | [] => .nil
  | t :: r => .node 0 0 t.lab t.kids (ofL r)
theorem toL_ofL (l : List JT) : toL (ofL l) = l := by
  induction l with
  | nil => rfl
  | cons t r ih => rw [ofL, toL, ih]
def JT.x (T : JT) : V := T.lab.1
def JT.ks (T : JT) : List ByteArray := T.lab.2
def JT.ts (T : JT) : List JT := toL T.kids
/-- A tree of a value, keys and kids. -/
def JT.node (x : V) (ks : List ByteArray) (ts : List JT) : JT := ⟨(x, ks), ofL ts⟩
theorem node_ts (x : V) (ks : List ByteArray) (ts : List JT) : (JT.node x ks ts).ts = ts := toL_ofL ts

/-- How many trees there are. -/
def szF : JF → Nat
  | .nil => 0
  | .node _ _ _ l r => (szF l + 1) + szF r
/-- How many trees there are in one, itself among them. -/
def JT.size (T : JT) : Nat := szF T.kids + 1
/-- How many there are in several. -/
def sizes : List JT → Nat
  | [] => 0
  | t :: r => t.size + sizes r
theorem sizes_toL (f : JF) : sizes (toL f) = szF f := by
  induction f with
  | nil => rfl
  | node b o a l r _ ihr => rw [toL, sizes, ihr, szF, JT.size]
theorem size_eq (T : JT) : T.size = sizes T.ts + 1 := by rw [JT.ts, sizes_toL, JT.size]
theorem size_node (x : V) (ks : List ByteArray) (ts : List JT) : (JT.node x ks ts).size = sizes ts + 1 := by rw [size_eq, node_ts]
theorem sizes_append (a b : List JT) : sizes (a ++ b) = sizes a + sizes b := by
  induction a with
  | nil => simp [sizes]
  | cons t r ih => simp [sizes, ih]; omega
theorem sizes_take (l : List JT) (k : Nat) (h : k < l.length) : sizes (l.take (k + 1)) = sizes (l.take k) + l[k].size := by
  rw [List.take_succ_eq_append_getElem h, sizes_append]; simp [sizes]
theorem sizes_le (l : List JT) (k : Nat) : sizes (l.take k) ≤ sizes l := by
  have h : sizes (l.take k ++ l.drop k) = sizes l := by rw [List.take_append_drop]
  rw [sizes_append] at h; omega
theorem size_pos (t : JT) : 1 ≤ t.size := by rw [JT.size]; omega
theorem len_sizes (l : List JT) : l.length ≤ sizes l := by
  induction l with
  | nil => simp [sizes]
  | cons t r ih => have := size_pos t; simp [sizes]; omega

/-- A tree's own fields: its value, and two slices. -/
abbrev TV := V × Value × Value
/-- Its cells. -/
def tcells (u : TV) : List Value := [.int .i64 u.1.k, .int .i64 u.1.n, .string u.1.t, .int .i64 u.1.o, .int .i64 u.1.a, u.2.1, u.2.2]
/-- As Go has it. -/
def tval (u : TV) : Value := .agg #[.int .i64 u.1.k, .int .i64 u.1.n, .string u.1.t, .int .i64 u.1.o, .int .i64 u.1.a, u.2.1, u.2.2]

/-- A slice value that holds texts. -/
def IsStrs (w : World) (v : Value) (l : List ByteArray) : Prop :=
  ∃ a cap, v = .slice a l.length cap ∧ (l.length ≤ cap ∧ (a = none → cap = 0)) ∧ l.length ≤ 8796093022208 ∧ (l ≠ [] → ∃ b off, a = some ⟨b, off, none⟩ ∧ b < w.heap.size ∧ ∀ i (h : i < l.length), w.cell? ⟨b, off + i, none⟩ = some (.string l[i]))

theorem IsStrs.below {w w' : World} {v : Value} {l : List ByteArray} (h : IsStrs w v l) (hb : Below w.heap.size w w') : IsStrs w' v l := by
  obtain ⟨a, cap, rfl, h1, h2, h3⟩ := h
  refine ⟨a, cap, rfl, h1, h2, fun hl => ?_⟩
  obtain ⟨b, off, rfl, h4, h5⟩ := h3 hl
  exact ⟨b, off, rfl, Nat.lt_of_lt_of_le h4 hb.size, fun i hi => by rw [hb.cell (p := ⟨b, off + i, none⟩) h4]; exact h5 i hi⟩

/-- Trees' own fields, in a row. -/
def RowT (w : World) (a : Option Addr) (us : List TV) : Prop :=
  us ≠ [] → ∃ b off, a = some ⟨b, off, none⟩ ∧ b < w.heap.size ∧ ∀ i (h : i < us.length) j, j < 7 → w.cell? ⟨b, off + i * 7 + j, none⟩ = (tcells us[i])[j]?

theorem RowT.below {w w' : World} {a : Option Addr} {us : List TV} (h : RowT w a us) (hb : Below w.heap.size w w') : RowT w' a us := by
  intro hu
  obtain ⟨b, off, rfl, h4, h5⟩ := h hu
  exact ⟨b, off, rfl, Nat.lt_of_lt_of_le h4 hb.size, fun i hi j hj => by rw [hb.cell (p := ⟨b, off + i * 7 + j, none⟩) h4]; exact h5 i hi j hj⟩

/-- Trees that lie in memory: S says how texts lie there, R how rows do. -/
def IsG (S : Value → List ByteArray → Prop) (R : Option Addr → List TV → Prop) : JF → List TV → Prop
  | .nil, us => us = []
  | .node b o x l r, us => (b = 0 ∧ o = 0) ∧ ∃ uk a cap us' rest, us = (x.1, uk, .slice a us'.length cap) :: rest ∧ S uk x.2 ∧ (us'.length ≤ cap ∧ (a = none → cap = 0)) ∧ us'.length ≤ 8796093022208 ∧ R a us' ∧ IsG S R l us' ∧ IsG S R r rest
/-- A tree that lies in memory. -/
def IsTG (S : Value → List ByteArray → Prop) (R : Option Addr → List TV → Prop) (v : Value) (T : JT) : Prop :=
  ∃ uk a cap us, v = tval (T.x, uk, .slice a us.length cap) ∧ S uk T.ks ∧ (us.length ≤ cap ∧ (a = none → cap = 0)) ∧ us.length ≤ 8796093022208 ∧ R a us ∧ IsG S R T.kids us

theorem tval_inj {u u' : TV} (h : tval u = tval u') : u = u' := by
  obtain ⟨⟨k, n, t, o, c⟩, p, q⟩ := u
  obtain ⟨⟨k', n', t', o', c'⟩, p', q'⟩ := u'
  simpa [tval, and_assoc] using h

theorem isG_of {S : Value → List ByteArray → Prop} {R : Option Addr → List TV → Prop} (ts : List JT) (us : List TV) (hl : us.length = ts.length) (hi : ∀ i (h : i < us.length) (h' : i < ts.length), IsTG S R (tval us[i]) ts[i]) : IsG S R (ofL ts) us := by
  induction ts generalizing us with
  | nil => exact List.length_eq_zero_iff.1 hl
  | cons t r ih =>
    match us, hl with
    | u :: rest, hl =>
      obtain ⟨uk, a, cap, us', e, h1, h2, h3, h4, h5⟩ := hi 0 (by simp) (by simp)
      have e' := tval_inj e
      simp only [List.getElem_cons_zero] at e'
      refine ⟨⟨rfl, rfl⟩, uk, a, cap, us', rest, by rw [e']; rfl, h1, h2, h3, h4, h5, ih rest (by simpa using hl) (fun i h h' => ?_)⟩
      have := hi (i + 1) (by simpa using h) (by simpa using h')
      simpa using this
theorem isG_to {S : Value → List ByteArray → Prop} {R : Option Addr → List TV → Prop} (f : JF) (us : List TV) (h : IsG S R f us) : f = ofL (toL f) ∧ us.length = (toL f).length ∧ ∀ i (h : i < us.length) (h' : i < (toL f).length), IsTG S R (tval us[i]) (toL f)[i] := by
  induction f generalizing us with
  | nil =>
    have e : us = [] := h
    subst e
    exact ⟨rfl, rfl, fun i h => absurd h (Nat.not_lt_zero _)⟩
  | node b o x l r _ ihr =>
    obtain ⟨⟨rfl, rfl⟩, uk, a, cap, us', rest, rfl, h1, h2, h3, h4, h5, h6⟩ := h
    obtain ⟨e1, e2, e3⟩ := ihr rest h6
    refine ⟨by rw [toL, ofL, ← e1], by rw [toL, List.length_cons, List.length_cons, e2], fun i hi hi' => ?_⟩
    cases i with
    | zero => exact ⟨uk, a, cap, us', rfl, h1, h2, h3, h4, h5⟩
    | succ i => exact e3 i (by simpa using hi) (by simpa [toL] using hi')

theorem IsTG.mk {S : Value → List ByteArray → Prop} {R : Option Addr → List TV → Prop} (x : V) (ks : List ByteArray) (ts : List JT) (uk : Value) (a : Option Addr) (cap : Nat) (us : List TV) (hk : S uk ks) (hl : us.length = ts.length) (hc : ts.length ≤ cap ∧ (a = none → cap = 0)) (hz : ts.length ≤ 8796093022208) (hr : R a us)
    (hi : ∀ i (h : i < us.length) (h' : i < ts.length), IsTG S R (tval us[i]) ts[i]) : IsTG S R (tval (x, uk, .slice a ts.length cap)) (.node x ks ts) :=
  ⟨uk, a, cap, us, by rw [hl]; rfl, hk, by rw [hl]; exact hc, by rw [hl]; exact hz, hr, isG_of ts us hl hi⟩
theorem IsTG.inv {S : Value → List ByteArray → Prop} {R : Option Addr → List TV → Prop} {v : Value} {T : JT} (h : IsTG S R v T) : T = .node T.x T.ks T.ts ∧ ∃ uk a cap us, v = tval (T.x, uk, .slice a T.ts.length cap) ∧ S uk T.ks ∧ us.length = T.ts.length ∧ (T.ts.length ≤ cap ∧ (a = none → cap = 0)) ∧ T.ts.length ≤ 8796093022208 ∧ R a us ∧ ∀ i (h : i < us.length) (h' : i < T.ts.length), IsTG S R (tval us[i]) T.ts[i] := by
  obtain ⟨uk, a, cap, us, rfl, h1, h2, h3, h4, h5⟩ := h
  obtain ⟨e1, e2, e3⟩ := isG_to _ _ h5
  refine ⟨?_, uk, a, cap, us, by rw [show T.ts.length = us.length from e2.symm], h1, e2, by rw [show T.ts.length = us.length from e2.symm]; exact h2, by rw [show T.ts.length = us.length from e2.symm]; exact h3, h4, e3⟩
  obtain ⟨⟨x, ks⟩, f⟩ := T
  show _ = JT.mk (x, ks) (ofL (toL f))
  rw [← e1]
theorem szF_lt {f : JF} {t : JT} (h : t ∈ toL f) : szF t.kids < szF f := by
  induction f with
  | nil => cases h
  | node b o a l r _ ihr =>
    rw [toL] at h
    rw [szF]
    rcases List.mem_cons.1 h with e | e
    · rw [e]; show szF l < _; omega
    · have := ihr e; omega
/-- To show something of all trees that lie in memory, it is enough to show it of one out of its kids. -/
theorem IsTG.ind {S : Value → List ByteArray → Prop} {R : Option Addr → List TV → Prop} {motive : (v : Value) → (T : JT) → IsTG S R v T → Prop}
    (mk : ∀ (x : V) (ks : List ByteArray) (ts : List JT) (uk : Value) (a : Option Addr) (cap : Nat) (us : List TV) (hk : S uk ks) (hl : us.length = ts.length) (hc : ts.length ≤ cap ∧ (a = none → cap = 0)) (hz : ts.length ≤ 8796093022208) (hr : R a us)
      (hi : ∀ i (h : i < us.length) (h' : i < ts.length), IsTG S R (tval us[i]) ts[i]) (_ : ∀ i (h : i < us.length) (h' : i < ts.length), motive _ _ (hi i h h')), motive _ _ (IsTG.mk x ks ts uk a cap us hk hl hc hz hr hi)) {v : Value} {T : JT} (h : IsTG S R v T) : motive v T h := by
  have all : ∀ n (v : Value) (T : JT) (h : IsTG S R v T), szF T.kids < n → motive v T h := by
    intro n
    induction n with
    | zero => intro v T h hn; exact absurd hn (Nat.not_lt_zero _)
    | succ n ih =>
      intro v T h hn
      obtain ⟨eT, uk, a, cap, us, rfl, h1, h2, h3, h4, h5, h6⟩ := h.inv
      have hts : ∀ t ∈ T.ts, szF t.kids < n := fun t ht => by have := szF_lt (f := T.kids) ht; omega
      have hm := mk T.x T.ks T.ts uk a cap us h1 h2 h3 h4 h5 h6 (fun i hi hi' => ih _ _ _ (hts _ (List.getElem_mem hi')))
      clear hn ih hts
      generalize T.x = x at *
      generalize T.ks = ks at *
      generalize T.ts = ts at *
      subst eT
      exact hm
  exact all (szF T.kids + 1) v T h (Nat.lt_succ_self _)

/-- A tree that lies in memory. -/
abbrev IsT (w : World) (v : Value) (T : JT) : Prop := IsTG (IsStrs w) (RowT w) v T
theorem IsTG.stay {w w' : World} {v : Value} {t : JT} (h : IsT w v t) (hb : Below w.heap.size w w') : IsT w' v t := by
  induction h using IsTG.ind with
  | mk x ks ts uk a cap us hk hl hc hz hr _ ih => exact IsTG.mk x ks ts uk a cap us (hk.below hb) hl hc hz (hr.below hb) ih
end Go.Proofs.YtnmdhbejjjmdeaaGreatDoor

namespace Go.Proofs.YtnmdhbejjjmdeaaGreatDoor
open Go.RowKit Go.Sort

/-- Keys that rise behind a text, none of them too long. -/
def upB : List UInt8 → List ByteArray → Bool
  | _, [] => true
  | p, k :: r => decide (p < k.toList) && (decide (k.size ≤ 20) && upB k.toList r)

theorem upB_cons (p : List UInt8) (k : ByteArray) (r : List ByteArray) : upB p (k :: r) = (decide (p < k.toList) && (decide (k.size ≤ 20) && upB k.toList r)) := rfl
theorem no_bytes : (ByteArray.mk #[]).toList = [] := by
  unfold ByteArray.toList ByteArray.toList.loop
  rfl
theorem leq_no {x y : List UInt8} (h : x < y) : Op.bytesLess y x = false ∧ (y == x) = false := by
  rw [bytesLess_eq]
  refine ⟨decide_eq_false (fun h' => List.lt_irrefl _ (List.lt_trans h h')), ?_⟩
  cases e : y == x with
  | false => rfl
  | true => rw [eq_of_beq e] at h; exact absurd h (List.lt_irrefl _)
theorem leq_yes {x y : List UInt8} (h : ¬ x < y) : Op.bytesLess y x = true ∨ (Op.bytesLess y x = false ∧ (y == x) = true) := by
  rw [bytesLess_eq]
  by_cases h' : y < x
  · exact Or.inl (decide_eq_true h')
  · exact Or.inr ⟨decide_eq_false h', by rw [List.le_antisymm (List.not_lt.1 h) (List.not_lt.1 h')]; exact beq_self_eq_true _⟩

end Go.Proofs.YtnmdhbejjjmdeaaGreatDoor
