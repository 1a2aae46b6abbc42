/-
  What is proved: the mathematics of numbers as rows of words of 32 bits.
  Conditions: as each theorem says.
-/
import Derived.Test.YtgecgemfniiciaaGreatDoorProg
namespace Go.Proofs.YtgecgemfniiciaaGreatDoor

/-- The number of words, the least first. -/
def wv : List Nat → Nat
  | [] => 0
  | a :: r => a + 4294967296 * wv r

/-- The last word is not 0. -/
def Norm (ws : List Nat) : Prop := ∀ x ∈ ws.getLast?, x ≠ 0

theorem wv_set : ∀ (l : List Nat) (k x : Nat) (h : k < l.length), wv (l.set k x) + l[k] * 4294967296 ^ k = wv l + x * 4294967296 ^ k
  | [], k, x, h => by simp at h
  | a :: r, 0, x, h => by simp [wv]; omega
  | a :: r, k + 1, x, h => by
    have hk : k < r.length := by simpa using h
    have := wv_set r k x hk
    simp only [List.set_cons_succ, wv, List.getElem_cons_succ, Nat.pow_succ]
    generalize 4294967296 ^ k = P at *
    generalize r[k] = y at *
    grind

theorem wv_take : ∀ (l : List Nat) (k : Nat) (h : k < l.length), wv (l.take (k + 1)) = wv (l.take k) + l[k] * 4294967296 ^ k
  | [], k, h => by simp at h
  | a :: r, 0, h => by simp [wv]
  | a :: r, k + 1, h => by
    have hk : k < r.length := by simpa using h
    have := wv_take r k hk
    simp only [List.take_succ_cons, wv, List.getElem_cons_succ, Nat.pow_succ]
    rw [this]
    generalize 4294967296 ^ k = P at *
    generalize r[k] = y at *
    grind

theorem wv_zeros (n : Nat) : wv (List.replicate n 0) = 0 := by
  induction n with
  | zero => rfl
  | succ n ih => simp [List.replicate_succ, wv, ih]

theorem wv_lt : ∀ (l : List Nat), (∀ y ∈ l, y < 4294967296) → wv l < 4294967296 ^ l.length
  | [], _ => by simp [wv]
  | a :: r, h => by
    have h1 := wv_lt r (fun y hy => h y (List.mem_cons_of_mem _ hy))
    have h2 := h a (List.mem_cons_self ..)
    rw [wv, List.length_cons, Nat.pow_succ]
    omega

/-- A number without a nought at the end has as many words as it needs. -/
theorem norm_le {l : List Nat} (hn : Norm l) (h : l ≠ []) : 4294967296 ^ (l.length - 1) ≤ wv l := by
  have hl : 0 < l.length := List.length_pos_iff.2 h
  have e := wv_take l (l.length - 1) (by omega)
  rw [show l.length - 1 + 1 = l.length from by omega, List.take_of_length_le (Nat.le_refl _)] at e
  have hx : l[l.length - 1] ≠ 0 := hn _ (by rw [List.getLast?_eq_getElem?, List.getElem?_eq_getElem (by omega)]; rfl)
  have : 1 * 4294967296 ^ (l.length - 1) ≤ l[l.length - 1] * 4294967296 ^ (l.length - 1) := Nat.mul_le_mul_right _ (by omega)
  omega

theorem norm_len3 {l : List Nat} (hn : Norm l) (hv : wv l < 79228162514264337593543950336) : l.length ≤ 3 := by
  by_cases h : l = []
  · subst h; simp
  · have h1 := norm_le hn h
    rcases Nat.lt_or_ge 3 l.length with h2 | h2
    · have : (4294967296 : Nat) ^ 3 ≤ 4294967296 ^ (l.length - 1) := Nat.pow_le_pow_right (by omega) (by omega)
      omega
    · exact h2

theorem mul_step (R R' rij Pi Pj c c' ai bj W Tb Tb2 : Nat) (hs : R' + rij * (Pi * Pj) = R + (c' % 4294967296) * (Pi * Pj)) (hc : c' = c + ai * bj + rij)
    (hT : Tb2 = Tb + bj * Pj) (h : R + c * (Pi * Pj) = W + ai * Tb * Pi) : R' + (c' / 4294967296) * (Pi * (Pj * 4294967296)) = W + ai * Tb2 * Pi := by
  have hd : c' = c' % 4294967296 + 4294967296 * (c' / 4294967296) := by omega
  generalize c' % 4294967296 = x at *
  generalize c' / 4294967296 = y at *
  subst hT
  grind

theorem add_step (R R' ri P c c' ai bi A B A2 B2 : Nat) (hr : ri = 0) (hs : R' + ri * P = R + (c' % 4294967296) * P) (hc : c' = c + ai + bi)
    (hA : A2 = A + ai * P) (hB : B2 = B + bi * P) (h : R + c * P = A + B) : R' + (c' / 4294967296) * (P * 4294967296) = A2 + B2 := by
  have hd : c' = c' % 4294967296 + 4294967296 * (c' / 4294967296) := by omega
  generalize c' % 4294967296 = x at *
  generalize c' / 4294967296 = y at *
  subst hA hB hr
  grind
end Go.Proofs.YtgecgemfniiciaaGreatDoor
