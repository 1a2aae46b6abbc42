/-
  What is proved: what a tree is when a thing in it is made another width, in mathematics alone.
  Conditions: as each theorem says.
-/
import Derived.Test.YtebglecjajghjaaDoorTMem
import Derived.Test.YtebglecjajghjaaDoorTPre
namespace Go.Proofs.YtebglecjajghjaaDoor
open Go.RowKit

/-- The thing at an index is made another width. -/
def setT : (Deep.BT Int) → Nat → Int → (Deep.BT Int)
  | .nil, _, _ => .nil
  | .node b x v l r, k, u => if k < l.many then .node b x v (setT l k u) r else if l.many < k then .node b x v l (setT r (k - l.many - 1) u) else .node b x u l r

theorem set_lo (b x : Nat) (v : Int) (l r : (Deep.BT Int)) (k : Nat) (u : Int) (h : k < l.many) : setT (.node b x v l r) k u = .node b x v (setT l k u) r := by
  simp only [setT]; rw [if_pos h]
theorem set_mid (b x : Nat) (v : Int) (l r : (Deep.BT Int)) (u : Int) : setT (.node b x v l r) l.many u = .node b x u l r := by
  simp only [setT]; rw [if_neg (by omega), if_neg (by omega)]
theorem set_hi (b x : Nat) (v : Int) (l r : (Deep.BT Int)) (k : Nat) (u : Int) : setT (.node b x v l r) (l.many + 1 + k) u = .node b x v l (setT r k u) := by
  simp only [setT]; rw [if_neg (by omega), if_pos (by omega), show l.many + 1 + k - l.many - 1 = k from by omega]

theorem many_set (t : (Deep.BT Int)) (k : Nat) (u : Int) : (setT t k u).many = t.many := by
  induction t generalizing k with
  | nil => rfl
  | node b x v l r il ir =>
    simp only [setT]
    split
    · simp only [Deep.BT.many, il]
    · split
      · simp only [Deep.BT.many, ir]
      · rfl
theorem high_set (t : (Deep.BT Int)) (k : Nat) (u : Int) : (setT t k u).high = t.high := by
  induction t generalizing k with
  | nil => rfl
  | node b x v l r il ir =>
    simp only [setT]
    split
    · simp only [Deep.BT.high, il]
    · split
      · simp only [Deep.BT.high, ir]
      · rfl
theorem blocks_set (t : (Deep.BT Int)) (k : Nat) (u : Int) : (setT t k u).blocks = t.blocks := by
  induction t generalizing k with
  | nil => rfl
  | node b x v l r il ir =>
    simp only [setT]
    split
    · simp only [Deep.BT.blocks, il]
    · split
      · simp only [Deep.BT.blocks, ir]
      · rfl
theorem ptr_set (t : (Deep.BT Int)) (k : Nat) (u : Int) : (setT t k u).pt = t.pt := by
  cases t with
  | nil => rfl
  | node b x v l r =>
    simp only [setT]
    split
    · rfl
    · split
      · rfl
      · rfl
theorem wide_set (t : (Deep.BT Int)) (k : Nat) (u : Int) (h : k < t.many) : (setT t k u).wide = t.wide + (u - (t.at' k).2.2) := by
  induction t generalizing k with
  | nil => simp [Deep.BT.many] at h
  | node b x v l r il ir =>
    simp only [Deep.BT.many] at h
    simp only [setT, Deep.BT.at']
    split
    · rename_i h1
      simp only [Deep.BT.wide]
      rw [il k h1]
      omega
    · split
      · rename_i h1 h2
        simp only [Deep.BT.wide]
        rw [ir (k - l.many - 1) (by omega)]
        omega
      · simp only [Deep.BT.wide]
        omega
theorem items_set (t : (Deep.BT Int)) (k : Nat) (u : Int) (h : k < t.many) : (setT t k u).items = t.items.set k ((t.at' k).2.1, u) := by
  induction t generalizing k with
  | nil => simp [Deep.BT.many] at h
  | node b x v l r il ir =>
    have e := items_len l
    simp only [Deep.BT.many] at h
    rcases Nat.lt_trichotomy k l.many with h1 | h1 | h1
    · rw [set_lo _ _ _ _ _ _ _ h1, at_lo _ _ _ _ _ _ h1]
      simp only [Deep.BT.items]
      rw [il k h1, List.set_append_left _ _ (by omega)]
    · subst h1
      rw [set_mid, at_mid]
      simp only [Deep.BT.items]
      rw [List.set_append_right _ _ (by omega), e, Nat.sub_self]
      rfl
    · obtain ⟨j, rfl⟩ : ∃ j, k = l.many + 1 + j := ⟨k - l.many - 1, by omega⟩
      rw [set_hi, at_hi]
      simp only [Deep.BT.items]
      rw [ir j (by omega), List.set_append_right _ _ (by omega), e, show l.many + 1 + j - l.many = j + 1 from by omega]
      rfl

theorem at_block (t : (Deep.BT Int)) {a : Nat} (h : a < t.many) : (t.at' a).1 ∈ t.blocks := by
  induction t generalizing a with
  | nil => simp [Deep.BT.many] at h
  | node b x v l r il ir =>
    simp only [Deep.BT.many] at h
    simp only [Deep.BT.at', Deep.BT.blocks]
    split
    · exact List.mem_cons_of_mem _ (List.mem_append_left _ (il (by assumption)))
    · split
      · exact List.mem_cons_of_mem _ (List.mem_append_right _ (ir (by omega)))
      · simp

/-- A block of another kind is none of a tree's. -/
theorem off_kind {w : World} {t : (Deep.BT Int)} (h : t.At w) {z : Nat} {cs : Array Value} {T : TypeId} {fr : Nat × Nat} (hz : w.heap[z]? = some (.cells cs T fr)) (hT : T ≠ 52) : z ∉ t.blocks := by
  induction t with
  | nil => simp [Deep.BT.blocks]
  | node b x u l r il ir =>
    obtain ⟨h1, h2, h3⟩ := h
    simp only [Deep.BT.blocks, List.mem_cons, List.mem_append, not_or]
    refine ⟨fun e => ?_, il h2, ir h3⟩
    subst e
    rw [h1] at hz
    simp at hz
    exact hT hz.2.1.symm
theorem off_row {w : World} {g : Nat} {p : Value} {k : Nat} (h : RowAt g p k w) {z : Nat} {cs : Array Value} {T : TypeId} {fr : Nat × Nat} (hz : w.heap[z]? = some (.cells cs T fr)) (hT : T ≠ 43) : z ≠ g := by
  intro e
  subst e
  rw [h] at hz
  simp at hz
  exact hT hz.2.1.symm
end Go.Proofs.YtebglecjajghjaaDoor
