/-
  What is proved: what a tree with sides of nearly one height has, is, and costs, in mathematics alone.
  Conditions: as each theorem says.
-/
import Derived.Test.YtebglecjajghjaaDoorProg
namespace Go.Proofs.YtebglecjajghjaaDoor

/-- A tree: each node with the box that it lies in, its thing, its width, and its sides. -/
inductive Tr where
  | nil : Tr
  | node (b : Nat) (x u : Int) (l r : Tr) : Tr

namespace Tr
def many : Tr → Nat
  | nil => 0
  | node _ _ _ l r => l.many + 1 + r.many
def wide : Tr → Int
  | nil => 0
  | node _ _ u l r => l.wide + u + r.wide
def high : Tr → Nat
  | nil => 0
  | node _ _ _ l r => 1 + max l.high r.high
def items : Tr → List (Int × Int)
  | nil => []
  | node _ x u l r => l.items ++ (x, u) :: r.items
def blocks : Tr → List Nat
  | nil => []
  | node b _ _ l r => b :: (l.blocks ++ r.blocks)
/-- The sides differ by at most one in height. -/
def bal : Tr → Prop
  | nil => True
  | node _ _ _ l r => l.high ≤ r.high + 1 ∧ r.high ≤ l.high + 1 ∧ l.bal ∧ r.bal
/-- The thing at an index, with its box. -/
def at' : Tr → Nat → Nat × Int × Int
  | nil, _ => (0, 0, 0)
  | node b x u l r, k => if k < l.many then l.at' k else if l.many < k then r.at' (k - l.many - 1) else (b, x, u)
end Tr

def lift0 (b : Nat) (x u : Int) (l r : Tr) : Tr :=
  match l with
  | .nil => .node b x u .nil r
  | .node c y v ll lr => .node c y v ll (.node b x u lr r)
def lift1 (b : Nat) (x u : Int) (l r : Tr) : Tr :=
  match r with
  | .nil => .node b x u l .nil
  | .node c y v rl rr => .node c y v (.node b x u l rl) rr
def straight0 : Tr → Tr
  | .nil => .nil
  | .node c y v ll lr => if ll.high < lr.high then lift1 c y v ll lr else .node c y v ll lr
def straight1 : Tr → Tr
  | .nil => .nil
  | .node c y v rl rr => if rr.high < rl.high then lift0 c y v rl rr else .node c y v rl rr
def level (b : Nat) (x u : Int) (l r : Tr) : Tr :=
  if r.high + 1 < l.high then lift0 b x u (straight0 l) r
  else if l.high + 1 < r.high then lift1 b x u l (straight1 r)
  else .node b x u l r
def insT (b : Nat) (x u : Int) : Tr → Nat → Tr
  | .nil, _ => level b x u .nil .nil
  | .node c y v l r, k => if k ≤ l.many then level c y v (insT b x u l k) r else level c y v l (insT b x u r (k - l.many - 1))
def remT : Tr → Nat → Tr
  | .nil, _ => .nil
  | .node b x u l r, k =>
    if k < l.many then level b x u (remT l k) r
    else if l.many < k then level b x u l (remT r (k - l.many - 1))
    else match r with
      | .nil => l
      | .node c y v rl rr => level ((Tr.node c y v rl rr).at' 0).1 ((Tr.node c y v rl rr).at' 0).2.1 ((Tr.node c y v rl rr).at' 0).2.2 l (remT (.node c y v rl rr) 0)

theorem items_len (t : Tr) : t.items.length = t.many := by
  induction t with
  | nil => rfl
  | node b x u l r hl hr => simp [Tr.items, Tr.many, hl, hr]; omega

theorem items_wide (t : Tr) : (t.items.map (·.2)).sum = t.wide := by
  induction t with
  | nil => rfl
  | node b x u l r hl hr => simp [Tr.items, Tr.wide, hl, hr]; omega

theorem high_many (t : Tr) : t.high ≤ t.many := by
  induction t with
  | nil => simp [Tr.high, Tr.many]
  | node b x u l r hl hr => simp only [Tr.high, Tr.many]; omega

theorem items_lift0 (b : Nat) (x u : Int) (l r : Tr) : (lift0 b x u l r).items = l.items ++ (x, u) :: r.items := by
  cases l <;> simp [lift0, Tr.items]
theorem items_lift1 (b : Nat) (x u : Int) (l r : Tr) : (lift1 b x u l r).items = l.items ++ (x, u) :: r.items := by
  cases r <;> simp [lift1, Tr.items]
theorem items_straight0 (t : Tr) : (straight0 t).items = t.items := by
  cases t with
  | nil => rfl
  | node c y v l r => simp only [straight0]; split
                      · rw [items_lift1]; rfl
                      · rfl
theorem items_straight1 (t : Tr) : (straight1 t).items = t.items := by
  cases t with
  | nil => rfl
  | node c y v l r => simp only [straight1]; split
                      · rw [items_lift0]; rfl
                      · rfl
theorem items_level (b : Nat) (x u : Int) (l r : Tr) : (level b x u l r).items = l.items ++ (x, u) :: r.items := by
  unfold level
  split
  · rw [items_lift0, items_straight0]
  · split
    · rw [items_lift1, items_straight1]
    · rfl

theorem items_ins (b : Nat) (x u : Int) (t : Tr) (k : Nat) (h : k ≤ t.many) : (insT b x u t k).items = t.items.take k ++ (x, u) :: t.items.drop k := by
  induction t generalizing k with
  | nil => simp [insT, items_level, Tr.items]
  | node c y v l r hl hr =>
    simp only [Tr.many] at h
    unfold insT
    have e := items_len l
    split
    · rename_i h1
      rw [items_level, hl k h1]
      simp only [Tr.items]
      rw [List.take_append_of_le_length (by omega), List.drop_append_of_le_length (by omega)]
      simp
    · rename_i h1
      obtain ⟨j, rfl⟩ : ∃ j, k = l.many + 1 + j := ⟨k - l.many - 1, by omega⟩
      rw [items_level, show l.many + 1 + j - l.many - 1 = j from by omega, hr j (by omega)]
      simp only [Tr.items]
      have t1 : l.items.take (l.many + 1 + j) = l.items := List.take_of_length_le (by omega)
      have t2 : l.items.drop (l.many + 1 + j) = [] := List.drop_eq_nil_of_le (by omega)
      rw [List.take_append, List.drop_append, t1, t2, show l.many + 1 + j - l.items.length = j + 1 from by omega]
      simp

theorem at_item (t : Tr) (k : Nat) (h : k < t.many) : t.items[k]? = some (t.at' k).2 := by
  induction t generalizing k with
  | nil => simp [Tr.many] at h
  | node b x u l r hl hr =>
    have e := items_len l
    simp only [Tr.many] at h
    simp only [Tr.items, Tr.at']
    split
    · rename_i h1
      rw [List.getElem?_append_left (by omega)]
      exact hl k h1
    · rw [List.getElem?_append_right (by omega), e]
      split
      · rename_i h1 h2
        obtain ⟨j, rfl⟩ : ∃ j, k = l.many + 1 + j := ⟨k - l.many - 1, by omega⟩
        rw [show l.many + 1 + j - l.many = j + 1 from by omega, show j + 1 - 1 = j from by omega, List.getElem?_cons_succ]
        exact hr j (by omega)
      · rename_i h1 h2
        obtain rfl : k = l.many := by omega
        simp

theorem items_rem (t : Tr) (k : Nat) (h : k < t.many) : (remT t k).items = t.items.take k ++ t.items.drop (k + 1) := by
  induction t generalizing k with
  | nil => simp [Tr.many] at h
  | node b x u l r hl hr =>
    have e := items_len l
    simp only [Tr.many] at h
    simp only [Tr.items]
    unfold remT
    split
    · rename_i h1
      rw [items_level, hl k h1, List.take_append_of_le_length (by omega), List.drop_append_of_le_length (by omega)]
      simp
    · split
      · rename_i h1 h2
        obtain ⟨j, rfl⟩ : ∃ j, k = l.many + 1 + j := ⟨k - l.many - 1, by omega⟩
        have t1 : l.items.take (l.many + 1 + j) = l.items := List.take_of_length_le (by omega)
        have t2 : l.items.drop (l.many + 1 + j + 1) = [] := List.drop_eq_nil_of_le (by omega)
        rw [items_level, show l.many + 1 + j - l.many - 1 = j from by omega, hr j (by omega), List.take_append, List.drop_append, t1, t2, e, show l.many + 1 + j - l.many = j + 1 from by omega, show l.many + 1 + j + 1 - l.many = j + 2 from by omega]
        simp
      · rename_i h1 h2
        obtain rfl : k = l.many := by omega
        rw [List.take_append, List.drop_append, List.take_of_length_le (by omega), List.drop_eq_nil_of_le (by omega), e]
        split
        · simp [Tr.items]
        · rename_i c y v rl rr
          have h0 : 0 < (Tr.node c y v rl rr).many := by simp only [Tr.many]; omega
          rw [items_level, hr 0 h0]
          have a0 := at_item (Tr.node c y v rl rr) 0 h0
          generalize (Tr.node c y v rl rr).items = m at *
          generalize (Tr.node c y v rl rr).at' 0 = q at *
          cases m with
          | nil => simp at a0
          | cons z m =>
            simp only [List.getElem?_cons_zero, Option.some.injEq] at a0
            subst a0
            simp
end Go.Proofs.YtebglecjajghjaaDoor
