/-
  What is proved: values' order is one: held one against the other they come out the other way round for the other order, as nothing for one value alone, and from one to the next.
  Conditions: none.
-/
import Derived.Test.YtegbjkjeoegfbaaDoorSmallAlone
import Derived.Sort.Walk0
namespace Go.Proofs.YtegbjkjeoegfbaaDoor

/-- How two numbers compare. -/
def cI (x y : Int) : Int := if x < y then -1 else if y < x then 1 else 0
/-- How two texts compare. -/
def cS (x y : List UInt8) : Int := if x < y then -1 else if x = y then 0 else 1
/-- How two ids compare. -/
def cId (x y : Int × Int) : Int := if lessB x.1 x.2 y.1 y.2 = true then -1 else if lessB y.1 y.2 x.1 x.2 = true then 1 else 0
/-- The first that is not nothing. -/
def or2 (x y : Int) : Int := if x = 0 then y else x

/-- An order, told by numbers. -/
structure Cmp {α : Type} (f : α → α → Int) : Prop where
  range : ∀ a b, f a b = -1 ∨ f a b = 0 ∨ f a b = 1
  back : ∀ a b, f a b = - f b a
  zero : ∀ a b, f a b = 0 ↔ a = b
  next : ∀ a b c, f a b ≤ 0 → f b c ≤ 0 → f a c ≤ 0

theorem Cmp.lex {α β : Type} {f : α → α → Int} {g : β → β → Int} (F : Cmp f) (G : Cmp g) : Cmp (fun (x y : α × β) => or2 (f x.1 y.1) (g x.2 y.2)) := by
  refine ⟨fun a b => ?_, fun a b => ?_, fun a b => ?_, fun a b c h1 h2 => ?_⟩
  · have h1 := F.range a.1 b.1
    have h2 := G.range a.2 b.2
    dsimp only [or2]
    split <;> omega
  · have h1 := F.back a.1 b.1
    have h2 := G.back a.2 b.2
    dsimp only [or2]
    split <;> split <;> omega
  · dsimp only [or2]
    by_cases h : f a.1 b.1 = 0
    · rw [if_pos h, G.zero]
      have e := (F.zero a.1 b.1).1 h
      exact ⟨fun h' => Prod.ext e h', fun h' => by rw [h']⟩
    · rw [if_neg h]
      exact ⟨fun h' => absurd h' h, fun h' => absurd ((F.zero a.1 b.1).2 (by rw [h'])) h⟩
  · dsimp only [or2] at *
    have hn := F.next a.1 b.1 c.1
    by_cases h3 : f a.1 b.1 = 0
    · rw [if_pos h3] at h1
      have e := (F.zero a.1 b.1).1 h3
      rw [e]
      by_cases h4 : f b.1 c.1 = 0
      · rw [if_pos h4] at h2
        rw [if_pos h4]
        exact G.next _ _ _ h1 h2
      · rw [if_neg h4] at h2
        rw [if_neg h4]
        exact h2
    · rw [if_neg h3] at h1
      have h5 : f a.1 c.1 ≠ 0 := by
        intro h5
        have e := (F.zero a.1 c.1).1 h5
        have h6 : f b.1 c.1 ≤ 0 := by
          by_cases h4 : f b.1 c.1 = 0
          · omega
          · rw [if_neg h4] at h2
            exact h2
        rw [← e] at h6
        have := F.back a.1 b.1
        omega
      rw [if_neg h5]
      refine hn h1 ?_
      by_cases h4 : f b.1 c.1 = 0
      · omega
      · rw [if_neg h4] at h2
        exact h2

theorem cmp_cI : Cmp cI := by
  refine ⟨fun a b => ?_, fun a b => ?_, fun a b => ?_, fun a b c => ?_⟩
  · unfold cI; split <;> (try split) <;> omega
  · unfold cI; split <;> split <;> (try split) <;> omega
  · unfold cI; split <;> (try split) <;> omega
  · unfold cI; split <;> split <;> (try split) <;> (try split) <;> (try split) <;> omega

theorem tri (x y : List UInt8) (h : ¬ x < y) (h2 : ¬ x = y) : y < x := by
  rcases Decidable.em (y < x) with h3 | h3
  · exact h3
  · exact absurd (List.le_antisymm (List.not_lt.1 h3) (List.not_lt.1 h)) h2

theorem asym (x y : List UInt8) (h : x < y) : ¬ y < x := fun h2 => List.lt_irrefl x (List.lt_trans h h2)

theorem cmp_cS : Cmp cS := by
  refine ⟨fun a b => ?_, fun a b => ?_, fun a b => ?_, fun a b c h1 h2 => ?_⟩
  · unfold cS
    by_cases h : a < b
    · simp [h]
    · rw [if_neg h]
      split <;> omega
  · unfold cS
    by_cases h2 : a = b
    · subst h2
      simp [List.lt_irrefl]
    · have h3 : ¬ b = a := fun e => h2 e.symm
      by_cases h : a < b
      · simp [h, h3, asym a b h]
      · simp [h, h2, tri a b h h2]
  · unfold cS
    by_cases h2 : a = b
    · subst h2
      simp [List.lt_irrefl]
    · by_cases h : a < b <;> simp [h, h2]
  · unfold cS at *
    by_cases e1 : a = b
    · subst e1
      exact h2
    · by_cases e2 : b = c
      · subst e2
        exact h1
      · have l1 : a < b := by
          rcases Decidable.em (a < b) with h | h
          · exact h
          · rw [if_neg h, if_neg e1] at h1
            omega
        have l2 : b < c := by
          rcases Decidable.em (b < c) with h | h
          · exact h
          · rw [if_neg h, if_neg e2] at h2
            omega
        rw [if_pos (List.lt_trans l1 l2)]
        omega

theorem cmp_cId : Cmp cId := by
  have hl : ∀ n a m b, lessB n a m b = true ↔ (n = m ∧ a < b) ∨ (n ≠ m ∧ n < m) := by
    intro n a m b
    unfold lessB
    by_cases h : n = m <;> simp [h]
  refine ⟨fun a b => ?_, fun a b => ?_, fun a b => ?_, fun a b c => ?_⟩
  · unfold cId; split <;> (try split) <;> omega
  · unfold cId; simp only [hl]; split <;> split <;> (try split) <;> omega
  · unfold cId
    simp only [hl]
    constructor
    · intro h
      refine Prod.ext ?_ ?_ <;> (revert h; split <;> (try split) <;> omega)
    · intro h
      subst h
      simp
  · unfold cId; simp only [hl]; split <;> split <;> (try split) <;> (try split) <;> (try split) <;> omega

/-- A value's fields. -/
structure V where
  k : Int
  n : Int
  t : ByteArray
  o : Int
  a : Int

/-- A value, as Go has it. -/
def V.val (v : V) : Value := .agg #[.int .i64 v.k, .int .i64 v.n, .string v.t, .int .i64 v.o, .int .i64 v.a]

/-- How two values compare. -/
def cV (v u : V) : Int := or2 (cI v.k u.k) (or2 (cI v.n u.n) (or2 (cS v.t.toList u.t.toList) (cId (v.o, v.a) (u.o, u.a))))

/-- A value's fields as pairs. -/
def V.key (v : V) : Int × Int × List UInt8 × Int × Int := (v.k, v.n, v.t.toList, v.o, v.a)

theorem cV_range (v u : V) : cV v u = -1 ∨ cV v u = 0 ∨ cV v u = 1 := (cmp_cI.lex (cmp_cI.lex (cmp_cS.lex cmp_cId))).range v.key u.key
theorem cV_back (v u : V) : cV v u = - cV u v := (cmp_cI.lex (cmp_cI.lex (cmp_cS.lex cmp_cId))).back v.key u.key
theorem cV_next (v u x : V) : cV v u ≤ 0 → cV u x ≤ 0 → cV v x ≤ 0 := (cmp_cI.lex (cmp_cI.lex (cmp_cS.lex cmp_cId))).next v.key u.key x.key
theorem cV_zero (v u : V) : cV v u = 0 ↔ v.k = u.k ∧ v.n = u.n ∧ v.t.toList = u.t.toList ∧ v.o = u.o ∧ v.a = u.a := by
  refine ((cmp_cI.lex (cmp_cI.lex (cmp_cS.lex cmp_cId))).zero v.key u.key).trans ?_
  simp [V.key]
end Go.Proofs.YtegbjkjeoegfbaaDoor
