/-
  What is proved: the functions Check, Less and isRoot of package id, called with any id, return what chapter 1 says, and nothing that was there has turned. values' order is one: held one against the other they come out the other way round for the other order, as nothing for one value alone, and from one to the next. the mathematics of a change as bytes: how one is read, number by number.
  Conditions: as each theorem says.
-/
import Derived.Test.YtbjnemmghpmjjaaProg
import Derived.WalkKit
import Derived.WalkSpells
import Derived.WalkLawsBesides
import Derived.Sort.Walk0
import Derived.Test.YtbjnemmghpmjjaaGNum
namespace Go.Proofs.Ytbjnemmghpmjjaa
open Go.RowKit

/-- An id that is none of the root. -/
def Real (n a : Int) : Prop := 1 ≤ n ∧ n ≤ 1000000 ∧ 1 ≤ a ∧ a ≤ 99
/-- What is no id. -/
def Bad (n a : Int) : Prop := ¬ (n = 0 ∧ a = 0) ∧ ¬ Real n a

/-- Is an id ahead of another one? -/
def lessB (n a m b : Int) : Bool := if n = m then decide (a < b) else decide (n < m)

set_option maxRecDepth 100000 in
set_option maxHeartbeats 400000 in
theorem isRoot_yes (w : World) :
    Calls Try.prog 86 #[.agg #[.int .i64 0, .int .i64 0]] w fun e w' => e = .returned (.bool true) ∧ Below w.heap.size w w' := by
  go_enter Try.func86, Try.ntmps86
  go_wp2
  go_ret
  exact ⟨rfl, (Below.refl _ _).alloc (Nat.le_refl _) _⟩

set_option maxRecDepth 100000 in
set_option maxHeartbeats 400000 in
theorem isRoot_no (n a : Int) (w : World) (h : ¬ (n = 0 ∧ a = 0)) :
    Calls Try.prog 86 #[.agg #[.int .i64 n, .int .i64 a]] w fun e w' => e = .returned (.bool false) ∧ Below w.heap.size w w' := by
  by_cases h0 : n = 0
  · have h1 : ¬ a = 0 := fun e => h ⟨h0, e⟩
    subst h0
    clear h
    go_enter Try.func86, Try.ntmps86
    go_wp2
    go_ret
    exact ⟨rfl, (Below.refl _ _).alloc (Nat.le_refl _) _⟩
  · clear h
    go_enter Try.func86, Try.ntmps86
    go_wp2
    go_ret
    exact ⟨rfl, (Below.refl _ _).alloc (Nat.le_refl _) _⟩

set_option maxRecDepth 100000 in
set_option maxHeartbeats 400000 in
theorem check_root (w : World) :
    Calls Try.prog 71 #[.agg #[.int .i64 0, .int .i64 0]] w fun e w' => e = .returned .nilIface ∧ Below w.heap.size w w' := by
  go_enter Try.func71, Try.ntmps71
  go_wp2
  go_ret
  exact ⟨rfl, ((Below.refl _ _).alloc (Nat.le_refl _) _).alloc (by simp) _⟩

set_option maxRecDepth 100000 in
set_option maxHeartbeats 400000 in
theorem check_real (n a : Int) (w : World) (h : Real n a) :
    Calls Try.prog 71 #[.agg #[.int .i64 n, .int .i64 a]] w fun e w' => e = .returned .nilIface ∧ Below w.heap.size w w' := by
  obtain ⟨h1, h2, h3, h4⟩ := h
  have h0 : ¬ n = 0 := by omega
  go_enter Try.func71, Try.ntmps71
  go_wp2
  go_ret
  exact ⟨rfl, ((Below.refl _ _).alloc (Nat.le_refl _) _).alloc (by simp) _⟩

set_option maxRecDepth 100000 in
set_option maxHeartbeats 400000 in
theorem check_bad (n a : Int) (w : World) (h : Bad n a) :
    Calls Try.prog 71 #[.agg #[.int .i64 n, .int .i64 a]] w fun e w' => e = .returned (.iface 47 (.int .i64 1)) ∧ Below w.heap.size w w' := by
  obtain ⟨hr, hn⟩ := h
  unfold Real at hn
  by_cases h0 : n = 0
  · have h1 : ¬ a = 0 := fun e => hr ⟨h0, e⟩
    subst h0
    clear hr hn
    go_enter Try.func71, Try.ntmps71
    go_wp2
    go_ret
    exact ⟨rfl, ((Below.refl _ _).alloc (Nat.le_refl _) _).alloc (by simp) _⟩
  · clear hr
    by_cases h1 : 1 ≤ n
    · by_cases h2 : n ≤ 1000000
      · by_cases h3 : 1 ≤ a
        · have h4 : ¬ a ≤ 99 := fun e => hn ⟨h1, h2, h3, e⟩
          clear hn
          go_enter Try.func71, Try.ntmps71
          go_wp2
          go_ret
          exact ⟨rfl, ((Below.refl _ _).alloc (Nat.le_refl _) _).alloc (by simp) _⟩
        · clear hn
          go_enter Try.func71, Try.ntmps71
          go_wp2
          go_ret
          exact ⟨rfl, ((Below.refl _ _).alloc (Nat.le_refl _) _).alloc (by simp) _⟩
      · clear hn
        go_enter Try.func71, Try.ntmps71
        go_wp2
        go_ret
        exact ⟨rfl, ((Below.refl _ _).alloc (Nat.le_refl _) _).alloc (by simp) _⟩
    · clear hn
      go_enter Try.func71, Try.ntmps71
      go_wp2
      go_ret
      exact ⟨rfl, ((Below.refl _ _).alloc (Nat.le_refl _) _).alloc (by simp) _⟩

set_option maxRecDepth 100000 in
set_option maxHeartbeats 400000 in
theorem less_any (n a m b : Int) (w : World) :
    Calls Try.prog 72 #[.agg #[.int .i64 n, .int .i64 a], .agg #[.int .i64 m, .int .i64 b]] w fun e w' => e = .returned (.bool (lessB n a m b)) ∧ Below w.heap.size w w' := by
  unfold lessB
  by_cases h : n = m
  · subst h
    go_enter Try.func72, Try.ntmps72
    go_wp2
    go_ret
    exact ⟨by simp, ((Below.refl _ _).alloc (Nat.le_refl _) _).alloc (by simp) _⟩
  · have h' : (n == m) = false := by simp [h]
    go_enter Try.func72, Try.ntmps72
    go_wp2
    go_ret
    exact ⟨by simp, ((Below.refl _ _).alloc (Nat.le_refl _) _).alloc (by simp) _⟩
end Go.Proofs.Ytbjnemmghpmjjaa

namespace Go.Proofs.Ytbjnemmghpmjjaa

/-- How two numbers compare. -/
def cI (x y : Int) : Int := if x < y then -1 else if y < x then 1 else 0
/-- How two texts compare. -/
def cS (x y : List UInt8) : Int := if x < y then -1 else if x = y then 0 else 1
/-- How two ids compare. -/
def cId (x y : Int × Int) : Int := if lessB x.1 x.2 y.1 y.2 = true then -1 else if lessB y.1 y.2 x.1 x.2 = true then 1 else 0
/-- The first that is not nothing. -/
def or2 (x y : Int) : Int := if x = 0 then y else x

/-- An order, told by numbers. -/
structure Cmp {α : Type} (f : α → α → Int) : Prop where
  range : ∀ a b, f a b = -1 ∨ f a b = 0 ∨ f a b = 1
  back : ∀ a b, f a b = - f b a
  zero : ∀ a b, f a b = 0 ↔ a = b
  next : ∀ a b c, f a b ≤ 0 → f b c ≤ 0 → f a c ≤ 0

theorem Cmp.lex {α β : Type} {f : α → α → Int} {g : β → β → Int} (F : Cmp f) (G : Cmp g) : Cmp (fun (x y : α × β) => or2 (f x.1 y.1) (g x.2 y.2)) := by
  refine ⟨fun a b => ?_, fun a b => ?_, fun a b => ?_, fun a b c h1 h2 => ?_⟩
  · have h1 := F.range a.1 b.1
    have h2 := G.range a.2 b.2
    dsimp only [or2]
    split <;> omega
  · have h1 := F.back a.1 b.1
    have h2 := G.back a.2 b.2
    dsimp only [or2]
    split <;> split <;> omega
  · dsimp only [or2]
    by_cases h : f a.1 b.1 = 0
    · rw [if_pos h, G.zero]
      have e := (F.zero a.1 b.1).1 h
      exact ⟨fun h' => Prod.ext e h', fun h' => by rw [h']⟩
    · rw [if_neg h]
      exact ⟨fun h' => absurd h' h, fun h' => absurd ((F.zero a.1 b.1).2 (by rw [h'])) h⟩
  · dsimp only [or2] at *
    have hn := F.next a.1 b.1 c.1
    by_cases h3 : f a.1 b.1 = 0
    · rw [if_pos h3] at h1
      have e := (F.zero a.1 b.1).1 h3
      rw [e]
      by_cases h4 : f b.1 c.1 = 0
      · rw [if_pos h4] at h2
        rw [if_pos h4]
        exact G.next _ _ _ h1 h2
      · rw [if_neg h4] at h2
        rw [if_neg h4]
        exact h2
    · rw [if_neg h3] at h1
      have h5 : f a.1 c.1 ≠ 0 := by
        intro h5
        have e := (F.zero a.1 c.1).1 h5
        have h6 : f b.1 c.1 ≤ 0 := by
          by_cases h4 : f b.1 c.1 = 0
          · omega
          · rw [if_neg h4] at h2
            exact h2
        rw [← e] at h6
        have := F.back a.1 b.1
        omega
      rw [if_neg h5]
      refine hn h1 ?_
      by_cases h4 : f b.1 c.1 = 0
      · omega
      · rw [if_neg h4] at h2
        exact h2

theorem cmp_cI : Cmp cI := by
  refine ⟨fun a b => ?_, fun a b => ?_, fun a b => ?_, fun a b c => ?_⟩
  · unfold cI; split <;> (try split) <;> omega
  · unfold cI; split <;> split <;> (try split) <;> omega
  · unfold cI; split <;> (try split) <;> omega
  · unfold cI; split <;> split <;> (try split) <;> (try split) <;> (try split) <;> omega

theorem tri (x y : List UInt8) (h : ¬ x < y) (h2 : ¬ x = y) : y < x := by
  rcases Decidable.em (y < x) with h3 | h3
  · exact h3
  · exact absurd (List.le_antisymm (List.not_lt.1 h3) (List.not_lt.1 h)) h2

theorem asym (x y : List UInt8) (h : x < y) : ¬ y < x := fun h2 => List.lt_irrefl x (List.lt_trans h h2)

theorem cmp_cS : Cmp cS := by
  refine ⟨fun a b => ?_, fun a b => ?_, fun a b => ?_, fun a b c h1 h2 => ?_⟩
  · unfold cS
    by_cases h : a < b
    · simp [h]
    · rw [if_neg h]
      split <;> omega
  · unfold cS
    by_cases h2 : a = b
    · subst h2
      simp [List.lt_irrefl]
    · have h3 : ¬ b = a := fun e => h2 e.symm
      by_cases h : a < b
      · simp [h, h3, asym a b h]
      · simp [h, h2, tri a b h h2]
  · unfold cS
    by_cases h2 : a = b
    · subst h2
      simp [List.lt_irrefl]
    · by_cases h : a < b <;> simp [h, h2]
  · unfold cS at *
    by_cases e1 : a = b
    · subst e1
      exact h2
    · by_cases e2 : b = c
      · subst e2
        exact h1
      · have l1 : a < b := by
          rcases Decidable.em (a < b) with h | h
          · exact h
          · rw [if_neg h, if_neg e1] at h1
            omega
        have l2 : b < c := by
          rcases Decidable.em (b < c) with h | h
          · exact h
          · rw [if_neg h, if_neg e2] at h2
            omega
        rw [if_pos (List.lt_trans l1 l2)]
        omega

theorem cmp_cId : Cmp cId := by
  have hl : ∀ n a m b, lessB n a m b = true ↔ (n = m ∧ a < b) ∨ (n ≠ m ∧ n < m) := by
    intro n a m b
    unfold lessB
    by_cases h : n = m <;> simp [h]
  refine ⟨fun a b => ?_, fun a b => ?_, fun a b => ?_, fun a b c => ?_⟩
  · unfold cId; split <;> (try split) <;> omega
  · unfold cId; simp only [hl]; split <;> split <;> (try split) <;> omega
  · unfold cId
    simp only [hl]
    constructor
    · intro h
      refine Prod.ext ?_ ?_ <;> (revert h; split <;> (try split) <;> omega)
    · intro h
      subst h
      simp
  · unfold cId; simp only [hl]; split <;> split <;> (try split) <;> (try split) <;> (try split) <;> omega

/-- A value's fields. -/
structure V where
  k : Int
  n : Int
  t : ByteArray
  o : Int
  a : Int

/-- A value, as Go has it. -/
def V.val (v : V) : Value := .agg #[.int .i64 v.k, .int .i64 v.n, .string v.t, .int .i64 v.o, .int .i64 v.a]

/-- How two values compare. -/
def cV (v u : V) : Int := or2 (cI v.k u.k) (or2 (cI v.n u.n) (or2 (cS v.t.toList u.t.toList) (cId (v.o, v.a) (u.o, u.a))))

/-- A value's fields as pairs. -/
def V.key (v : V) : Int × Int × List UInt8 × Int × Int := (v.k, v.n, v.t.toList, v.o, v.a)

theorem cV_range (v u : V) : cV v u = -1 ∨ cV v u = 0 ∨ cV v u = 1 := (cmp_cI.lex (cmp_cI.lex (cmp_cS.lex cmp_cId))).range v.key u.key
theorem cV_back (v u : V) : cV v u = - cV u v := (cmp_cI.lex (cmp_cI.lex (cmp_cS.lex cmp_cId))).back v.key u.key
theorem cV_next (v u x : V) : cV v u ≤ 0 → cV u x ≤ 0 → cV v x ≤ 0 := (cmp_cI.lex (cmp_cI.lex (cmp_cS.lex cmp_cId))).next v.key u.key x.key
theorem cV_zero (v u : V) : cV v u = 0 ↔ v.k = u.k ∧ v.n = u.n ∧ v.t.toList = u.t.toList ∧ v.o = u.o ∧ v.a = u.a := by
  refine ((cmp_cI.lex (cmp_cI.lex (cmp_cS.lex cmp_cId))).zero v.key u.key).trans ?_
  simp [V.key]
end Go.Proofs.Ytbjnemmghpmjjaa

namespace Go.Proofs.Ytbjnemmghpmjjaa
open Go.RowKit

/-- What is still to be read; none: something was none. -/
abbrev St : Type := Option (List UInt8)

/-- The bytes that are still there. -/
def rest (s : St) : List UInt8 := s.getD []

/-- A number, read. -/
def rNum (s : St) : Int × St :=
  match get (rest s) with
  | some (n, k) => (wrap64 (n : Int), some ((rest s).drop k))
  | none => (0, none)

/-- A number that may be below 0, read. -/
def rSig (s : St) : Int × St :=
  match get (rest s) with
  | some (n, k) => (zag n, some ((rest s).drop k))
  | none => (0, none)

/-- How many there are, at most so many. -/
def rCnt (most : Int) (s : St) : Int × St := if (rNum s).1 < 0 ∨ most < (rNum s).1 then (0, none) else rNum s

/-- A text of at most so many bytes. -/
def rTxt (most : Int) (s : St) : List UInt8 × St :=
  if ((rest (rCnt most s).2).length : Int) < (rCnt most s).1 then ([], none) else ((rest (rCnt most s).2).take (rCnt most s).1.toNat, (rCnt most s).2.map fun l => l.drop (rCnt most s).1.toNat)

/-- Two numbers. -/
def rId (s : St) : Pr × St := (((rNum s).1, (rNum (rNum s).2).1), (rNum (rNum s).2).2)

/-- So many of a kind. -/
def rMany {α : Type} (f : St → α × St) : Nat → St → List α × St
  | 0, s => ([], s)
  | n + 1, s => ((rMany f n s).1 ++ [(f (rMany f n s).2).1], (f (rMany f n s).2).2)

/-- Pairs, at most so many. -/
def rPairs (most : Int) (s : St) : List Pr × St := rMany rId (rCnt most s).1.toNat (rCnt most s).2

/-- A text as the program has it. -/
def asText (l : List UInt8) : ByteArray := ⟨l.toArray⟩

/-- A value. -/
def rVal (s : St) : V × St := (⟨(rNum s).1, (rSig (rNum s).2).1, asText (rTxt 60 (rSig (rNum s).2).2).1, 0, 0⟩, (rTxt 60 (rSig (rNum s).2).2).2)

/-- An op. -/
structure OpM where
  kind : Int
  obj : Pr
  key : ByteArray
  elem : Pr
  ins : Bool
  val : V
  preds : List Pr

/-- An op, read. -/
def rOp (s : St) : OpM × St :=
  let s1 := (rNum s).2
  let s2 := (rId s1).2
  let s3 := (rTxt 20 s2).2
  let s4 := (rId s3).2
  let s5 := (rCnt 1 s4).2
  let s6 := (rVal s5).2
  (⟨(rNum s).1, (rId s1).1, asText (rTxt 20 s2).1, (rId s3).1, (rCnt 1 s4).1 == 1, (rVal s5).1, (rPairs 12 s6).1⟩, (rPairs 12 s6).2)

/-- A change. -/
structure Chg where
  actor : Int
  seq : Int
  start : Int
  deps : List Pr
  ops : List OpM

/-- Ops, read. -/
def rOps (s : St) : List OpM × St := rMany rOp (rCnt 40 s).1.toNat (rCnt 40 s).2

/-- A change, read. -/
def rChg (s : St) : Chg × St :=
  let s1 := (rNum s).2
  let s2 := (rNum s1).2
  let s3 := (rNum s2).2
  let s4 := (rPairs 12 s3).2
  (⟨(rNum s).1, (rNum s1).1, (rNum s2).1, (rPairs 12 s3).1, (rOps s4).1⟩, (rOps s4).2)

theorem rest_none : rest none = [] := rfl
theorem rest_some (l : List UInt8) : rest (some l) = l := rfl
theorem rNum_none : rNum none = (0, none) := rfl
theorem rSig_none : rSig none = (0, none) := rfl

theorem rNum_range (s : St) : I64 (rNum s).1 := by
  unfold rNum
  split
  · exact i64_wrap _
  · unfold I64; simp

theorem rSig_range (s : St) : I64 (rSig s).1 := by
  unfold rSig
  split
  · rename_i h
    exact zag_range (get_some h).2.1
  · unfold I64; simp

theorem rCnt_range (most : Int) (h : 0 ≤ most) (s : St) : 0 ≤ (rCnt most s).1 ∧ (rCnt most s).1 ≤ most := by
  unfold rCnt
  split
  · exact ⟨Int.le_refl _, h⟩
  · rename_i h
    omega

theorem rId_range (s : St) : I64 (rId s).1.1 ∧ I64 (rId s).1.2 := ⟨rNum_range _, rNum_range _⟩

theorem rMany_len {α : Type} (f : St → α × St) (n : Nat) (s : St) : (rMany f n s).1.length = n := by
  induction n with
  | zero => rfl
  | succ n ih => simp [rMany, ih]

theorem rMany_all {α : Type} {P : α → Prop} (f : St → α × St) (h : ∀ s, P (f s).1) (n : Nat) (s : St) : ∀ x ∈ (rMany f n s).1, P x := by
  induction n with
  | zero => simp [rMany]
  | succ n ih =>
    intro x hx
    rw [rMany] at hx
    rcases List.mem_append.1 hx with h1 | h1
    · exact ih x h1
    · rw [List.mem_singleton.1 h1]; exact h _

theorem rPairs_len (most : Int) (h : 0 ≤ most) (s : St) : ((rPairs most s).1.length : Int) ≤ most := by
  unfold rPairs
  rw [rMany_len]
  have := rCnt_range most h s
  omega

theorem rPairs_range (most : Int) (s : St) : ∀ q ∈ (rPairs most s).1, I64 q.1 ∧ I64 q.2 := rMany_all rId rId_range _ _

theorem rTxt_len (most : Int) (h : 0 ≤ most) (s : St) : ((rTxt most s).1.length : Int) ≤ most := by
  have := rCnt_range most h s
  unfold rTxt
  split
  · exact h
  · rw [List.length_take]; omega
end Go.Proofs.Ytbjnemmghpmjjaa
