/-
  What is proved: how wide all ahead of an index are, in a tree; and in which thing a place lies.
  Conditions: as each theorem says.
-/
import Derived.Test.YtebglecjajghjaaDoorTMath
namespace Go.Proofs.YtebglecjajghjaaDoor

/-- How wide all ahead of an index are. -/
def _root_.Go.Deep.BT.pre (t : (Deep.BT Int)) (k : Nat) : Int := ((t.items.take k).map (·.2)).sum

theorem pre_lo (b x : Nat) (u : Int) (l r : (Deep.BT Int)) (k : Nat) (h : k ≤ l.many) : (Deep.BT.node b x u l r).pre k = l.pre k := by
  have e := items_len l
  unfold Deep.BT.pre
  simp only [Deep.BT.items]
  rw [List.take_append_of_le_length (by omega)]

theorem pre_all (t : (Deep.BT Int)) : t.pre t.many = t.wide := by
  unfold Deep.BT.pre
  rw [← items_len, List.take_length]
  exact items_wide t

theorem pre_mid (b x : Nat) (u : Int) (l r : (Deep.BT Int)) : (Deep.BT.node b x u l r).pre l.many = l.wide := by
  rw [pre_lo b x u l r _ (Nat.le_refl _), pre_all]

theorem pre_hi (b x : Nat) (u : Int) (l r : (Deep.BT Int)) (k : Nat) : (Deep.BT.node b x u l r).pre (l.many + 1 + k) = l.wide + u + r.pre k := by
  have e := items_len l
  have t1 : l.items.take (l.many + 1 + k) = l.items := List.take_of_length_le (by omega)
  unfold Deep.BT.pre
  simp only [Deep.BT.items]
  rw [List.take_append, t1, e, show l.many + 1 + k - l.many = k + 1 from by omega, List.take_succ_cons, List.map_append, List.sum_append, List.map_cons, List.sum_cons, items_wide]
  omega

theorem at_lo (b x : Nat) (u : Int) (l r : (Deep.BT Int)) (k : Nat) (h : k < l.many) : (Deep.BT.node b x u l r).at' k = l.at' k := by
  simp only [Deep.BT.at']; rw [if_pos h]
theorem at_mid (b x : Nat) (u : Int) (l r : (Deep.BT Int)) : (Deep.BT.node b x u l r).at' l.many = (b, th x, u) := by
  simp only [Deep.BT.at']; rw [if_neg (by omega), if_neg (by omega)]
theorem at_hi (b x : Nat) (u : Int) (l r : (Deep.BT Int)) (k : Nat) : (Deep.BT.node b x u l r).at' (l.many + 1 + k) = r.at' k := by
  simp only [Deep.BT.at']; rw [if_neg (by omega), if_pos (by omega), show l.many + 1 + k - l.many - 1 = k from by omega]

/-- The index in which a place lies. -/
def _root_.Go.Deep.BT.find : (Deep.BT Int) → Int → Nat
  | .nil, _ => 0
  | .node _ _ u l r, a => if a < l.wide then l.find a else if l.wide + u ≤ a then l.many + 1 + r.find (a - l.wide - u) else l.many

theorem find_spec (t : (Deep.BT Int)) (h : ∀ q ∈ t.items, 0 ≤ q.2) (a : Int) (h0 : 0 ≤ a) (h1 : a < t.wide) : t.find a < t.many ∧ t.pre (t.find a) ≤ a ∧ a < t.pre (t.find a) + (t.at' (t.find a)).2.2 := by
  induction t generalizing a with
  | nil => simp [Deep.BT.wide] at h1; omega
  | node b x u l r il ir =>
    have hl : ∀ q ∈ l.items, 0 ≤ q.2 := fun q hq => h q (by simp [Deep.BT.items, hq])
    have hr : ∀ q ∈ r.items, 0 ≤ q.2 := fun q hq => h q (by simp [Deep.BT.items, hq])
    simp only [Deep.BT.wide] at h1
    simp only [Deep.BT.find, Deep.BT.many]
    split
    · rename_i c
      obtain ⟨e1, e2, e3⟩ := il hl a h0 c
      rw [pre_lo _ _ _ _ _ _ (by omega), at_lo _ _ _ _ _ _ e1]
      exact ⟨by omega, e2, e3⟩
    · split
      · rename_i c d
        obtain ⟨e1, e2, e3⟩ := ir hr (a - l.wide - u) (by omega) (by omega)
        rw [pre_hi, at_hi]
        exact ⟨by omega, by omega, by omega⟩
      · rename_i c d
        rw [pre_mid, at_mid]
        exact ⟨by omega, by omega, by dsimp only; omega⟩
end Go.Proofs.YtebglecjajghjaaDoor
