/-
  What is proved: what a tree with sides of nearly one height has, is, and costs, in mathematics alone.
  Conditions: as each theorem says.
-/
import Derived.Test.YtebglecjajghjaaDoorProg
import Derived.Deep.Trees
namespace Go.Proofs.YtebglecjajghjaaDoor

/-- Each number has a number from 0 on that stands for it. -/
def th (n : Nat) : Int := if n % 2 = 0 then ((n / 2 : Nat) : Int) else -((n / 2 : Nat) : Int) - 1
def cd (z : Int) : Nat := if 0 ≤ z then 2 * z.toNat else 2 * (-z - 1).toNat + 1
theorem th_cd (z : Int) : th (cd z) = z := by
  unfold th cd
  split
  · split <;> omega
  · split <;> omega

/- A tree: each node with the box that it lies in, what stands for its thing, its width, and its sides. -/
def _root_.Go.Deep.BT.many : Deep.BT Int → Nat
  | .nil => 0
  | .node _ _ _ l r => l.many + 1 + r.many
def _root_.Go.Deep.BT.wide : Deep.BT Int → Int
  | .nil => 0
  | .node _ _ u l r => l.wide + u + r.wide
def _root_.Go.Deep.BT.high : Deep.BT Int → Nat
  | .nil => 0
  | .node _ _ _ l r => 1 + max l.high r.high
def _root_.Go.Deep.BT.items : Deep.BT Int → List (Int × Int)
  | .nil => []
  | .node _ x u l r => l.items ++ (th x, u) :: r.items
def _root_.Go.Deep.BT.blocks : Deep.BT Int → List Nat
  | .nil => []
  | .node b _ _ l r => b :: (l.blocks ++ r.blocks)
/-- The sides differ by at most one in height. -/
def _root_.Go.Deep.BT.bal : Deep.BT Int → Prop
  | .nil => True
  | .node _ _ _ l r => l.high ≤ r.high + 1 ∧ r.high ≤ l.high + 1 ∧ l.bal ∧ r.bal
/-- The thing at an index, with its box. -/
def _root_.Go.Deep.BT.at' : Deep.BT Int → Nat → Nat × Int × Int
  | .nil, _ => (0, 0, 0)
  | .node b x u l r, k => if k < l.many then l.at' k else if l.many < k then r.at' (k - l.many - 1) else (b, th x, u)

def lift0 (b x : Nat) (u : Int) (l r : (Deep.BT Int)) : (Deep.BT Int) :=
  match l with
  | .nil => .node b x u .nil r
  | .node c y v ll lr => .node c y v ll (.node b x u lr r)
def lift1 (b x : Nat) (u : Int) (l r : (Deep.BT Int)) : (Deep.BT Int) :=
  match r with
  | .nil => .node b x u l .nil
  | .node c y v rl rr => .node c y v (.node b x u l rl) rr
def straight0 : (Deep.BT Int) → (Deep.BT Int)
  | .nil => .nil
  | .node c y v ll lr => if ll.high < lr.high then lift1 c y v ll lr else .node c y v ll lr
def straight1 : (Deep.BT Int) → (Deep.BT Int)
  | .nil => .nil
  | .node c y v rl rr => if rr.high < rl.high then lift0 c y v rl rr else .node c y v rl rr
def level (b x : Nat) (u : Int) (l r : (Deep.BT Int)) : (Deep.BT Int) :=
  if r.high + 1 < l.high then lift0 b x u (straight0 l) r
  else if l.high + 1 < r.high then lift1 b x u l (straight1 r)
  else .node b x u l r
def insT (b : Nat) (x u : Int) : (Deep.BT Int) → Nat → (Deep.BT Int)
  | .nil, _ => level b (cd x) u .nil .nil
  | .node c y v l r, k => if k ≤ l.many then level c y v (insT b x u l k) r else level c y v l (insT b x u r (k - l.many - 1))
def remT : (Deep.BT Int) → Nat → (Deep.BT Int)
  | .nil, _ => .nil
  | .node b x u l r, k =>
    if k < l.many then level b x u (remT l k) r
    else if l.many < k then level b x u l (remT r (k - l.many - 1))
    else match r with
      | .nil => l
      | .node c y v rl rr => level ((Deep.BT.node c y v rl rr).at' 0).1 (cd ((Deep.BT.node c y v rl rr).at' 0).2.1) ((Deep.BT.node c y v rl rr).at' 0).2.2 l (remT (.node c y v rl rr) 0)

theorem items_len (t : (Deep.BT Int)) : t.items.length = t.many := by
  induction t with
  | nil => rfl
  | node b x u l r hl hr => simp [Deep.BT.items, Deep.BT.many, hl, hr]; omega

theorem items_wide (t : (Deep.BT Int)) : (t.items.map (·.2)).sum = t.wide := by
  induction t with
  | nil => rfl
  | node b x u l r hl hr => simp [Deep.BT.items, Deep.BT.wide, hl, hr]; omega

theorem high_many (t : (Deep.BT Int)) : t.high ≤ t.many := by
  induction t with
  | nil => simp [Deep.BT.high, Deep.BT.many]
  | node b x u l r hl hr => simp only [Deep.BT.high, Deep.BT.many]; omega

theorem items_lift0 (b x : Nat) (u : Int) (l r : (Deep.BT Int)) : (lift0 b x u l r).items = l.items ++ (th x, u) :: r.items := by
  cases l <;> simp [lift0, Deep.BT.items]
theorem items_lift1 (b x : Nat) (u : Int) (l r : (Deep.BT Int)) : (lift1 b x u l r).items = l.items ++ (th x, u) :: r.items := by
  cases r <;> simp [lift1, Deep.BT.items]
theorem items_straight0 (t : (Deep.BT Int)) : (straight0 t).items = t.items := by
  cases t with
  | nil => rfl
  | node c y v l r => simp only [straight0]; split
                      · rw [items_lift1]; rfl
                      · rfl
theorem items_straight1 (t : (Deep.BT Int)) : (straight1 t).items = t.items := by
  cases t with
  | nil => rfl
  | node c y v l r => simp only [straight1]; split
                      · rw [items_lift0]; rfl
                      · rfl
theorem items_level (b x : Nat) (u : Int) (l r : (Deep.BT Int)) : (level b x u l r).items = l.items ++ (th x, u) :: r.items := by
  unfold level
  split
  · rw [items_lift0, items_straight0]
  · split
    · rw [items_lift1, items_straight1]
    · rfl

theorem items_ins (b : Nat) (x u : Int) (t : (Deep.BT Int)) (k : Nat) (h : k ≤ t.many) : (insT b x u t k).items = t.items.take k ++ (x, u) :: t.items.drop k := by
  induction t generalizing k with
  | nil => simp [insT, items_level, Deep.BT.items, th_cd]
  | node c y v l r hl hr =>
    simp only [Deep.BT.many] at h
    unfold insT
    have e := items_len l
    split
    · rename_i h1
      rw [items_level, hl k h1]
      simp only [Deep.BT.items]
      rw [List.take_append_of_le_length (by omega), List.drop_append_of_le_length (by omega)]
      simp
    · rename_i h1
      obtain ⟨j, rfl⟩ : ∃ j, k = l.many + 1 + j := ⟨k - l.many - 1, by omega⟩
      rw [items_level, show l.many + 1 + j - l.many - 1 = j from by omega, hr j (by omega)]
      simp only [Deep.BT.items]
      have t1 : l.items.take (l.many + 1 + j) = l.items := List.take_of_length_le (by omega)
      have t2 : l.items.drop (l.many + 1 + j) = [] := List.drop_eq_nil_of_le (by omega)
      rw [List.take_append, List.drop_append, t1, t2, show l.many + 1 + j - l.items.length = j + 1 from by omega]
      simp

theorem at_item (t : (Deep.BT Int)) (k : Nat) (h : k < t.many) : t.items[k]? = some (t.at' k).2 := by
  induction t generalizing k with
  | nil => simp [Deep.BT.many] at h
  | node b x u l r hl hr =>
    have e := items_len l
    simp only [Deep.BT.many] at h
    simp only [Deep.BT.items, Deep.BT.at']
    split
    · rename_i h1
      rw [List.getElem?_append_left (by omega)]
      exact hl k h1
    · rw [List.getElem?_append_right (by omega), e]
      split
      · rename_i h1 h2
        obtain ⟨j, rfl⟩ : ∃ j, k = l.many + 1 + j := ⟨k - l.many - 1, by omega⟩
        rw [show l.many + 1 + j - l.many = j + 1 from by omega, show j + 1 - 1 = j from by omega, List.getElem?_cons_succ]
        exact hr j (by omega)
      · rename_i h1 h2
        obtain rfl : k = l.many := by omega
        simp

theorem items_rem (t : (Deep.BT Int)) (k : Nat) (h : k < t.many) : (remT t k).items = t.items.take k ++ t.items.drop (k + 1) := by
  induction t generalizing k with
  | nil => simp [Deep.BT.many] at h
  | node b x u l r hl hr =>
    have e := items_len l
    simp only [Deep.BT.many] at h
    simp only [Deep.BT.items]
    unfold remT
    split
    · rename_i h1
      rw [items_level, hl k h1, List.take_append_of_le_length (by omega), List.drop_append_of_le_length (by omega)]
      simp
    · split
      · rename_i h1 h2
        obtain ⟨j, rfl⟩ : ∃ j, k = l.many + 1 + j := ⟨k - l.many - 1, by omega⟩
        have t1 : l.items.take (l.many + 1 + j) = l.items := List.take_of_length_le (by omega)
        have t2 : l.items.drop (l.many + 1 + j + 1) = [] := List.drop_eq_nil_of_le (by omega)
        rw [items_level, show l.many + 1 + j - l.many - 1 = j from by omega, hr j (by omega), List.take_append, List.drop_append, t1, t2, e, show l.many + 1 + j - l.many = j + 1 from by omega, show l.many + 1 + j + 1 - l.many = j + 2 from by omega]
        simp
      · rename_i h1 h2
        obtain rfl : k = l.many := by omega
        rw [List.take_append, List.drop_append, List.take_of_length_le (by omega), List.drop_eq_nil_of_le (by omega), e]
        split
        · simp [Deep.BT.items]
        · rename_i c y v rl rr
          have h0 : 0 < (Deep.BT.node c y v rl rr).many := by simp only [Deep.BT.many]; omega
          rw [items_level, hr 0 h0]
          have a0 := at_item (Deep.BT.node c y v rl rr) 0 h0
          generalize (Deep.BT.node c y v rl rr).items = m at *
          generalize (Deep.BT.node c y v rl rr).at' 0 = q at *
          cases m with
          | nil => simp at a0
          | cons z m =>
            simp only [List.getElem?_cons_zero, Option.some.injEq] at a0
            subst a0
            simp [th_cd]
end Go.Proofs.YtebglecjajghjaaDoor
