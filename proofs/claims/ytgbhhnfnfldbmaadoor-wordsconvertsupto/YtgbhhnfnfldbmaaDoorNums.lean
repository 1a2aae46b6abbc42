/-
  What is proved: the mathematics of numbers as bytes, seven bits a byte: what is written is read, and what is read is written so.
  Conditions: as each theorem says.
-/
import Derived.Test.YtgbhhnfnfldbmaaDoorProg
namespace Go.Proofs.YtgbhhnfnfldbmaaDoor

/-- A number's bytes, the low ones first, in at most so many steps. -/
def putF : Nat → Nat → List UInt8
  | 0, n => [UInt8.ofNat n]
  | f + 1, n => if n < 128 then [UInt8.ofNat n] else UInt8.ofNat (128 + n % 128) :: putF f (n / 128)

/-- A number's bytes, the low ones first. -/
def put (n : Nat) : List UInt8 := putF n n

theorem putF_same : ∀ (f g n : Nat), n ≤ f → n ≤ g → putF f n = putF g n
  | 0, 0, n, _, _ => rfl
  | 0, g + 1, n, h, _ => by
    have : n = 0 := by omega
    subst this
    rfl
  | f + 1, 0, n, _, h => by
    have : n = 0 := by omega
    subst this
    rfl
  | f + 1, g + 1, n, h1, h2 => by
    rw [putF, putF]
    by_cases h : n < 128
    · rw [if_pos h, if_pos h]
    · rw [if_neg h, if_neg h, putF_same f g (n / 128) (by omega) (by omega)]

/-- The number of bytes. -/
def val : List UInt8 → Nat
  | [] => 0
  | b :: r => b.toNat % 128 + 128 * val r

theorem put_small {n : Nat} (h : n < 128) : put n = [UInt8.ofNat n] := by
  unfold put
  cases n with
  | zero => rfl
  | succ n => rw [putF, if_pos h]
theorem put_more {n : Nat} (h : 128 ≤ n) : put n = UInt8.ofNat (128 + n % 128) :: put (n / 128) := by
  unfold put
  cases n with
  | zero => omega
  | succ n => rw [putF, if_neg (by omega), putF_same n ((n + 1) / 128) ((n + 1) / 128) (by omega) (Nat.le_refl _)]

theorem byte_low {n : Nat} (h : n < 128) : (UInt8.ofNat n).toNat = n := by simp; omega
theorem byte_high (n : Nat) : (UInt8.ofNat (128 + n % 128)).toNat = 128 + n % 128 := by simp; omega

theorem val_put (n : Nat) : val (put n) = n := by
  induction n using Nat.strongRecOn with
  | ind n ih =>
    by_cases h : n < 128
    · rw [put_small h, val, byte_low h]
      simp [val]
      omega
    · rw [put_more (by omega), val, byte_high, ih (n / 128) (by omega)]
      omega

theorem put_ne (n : Nat) : put n ≠ [] := by
  by_cases h : n < 128
  · rw [put_small h]; simp
  · rw [put_more (by omega)]; simp

theorem put_len : ∀ (k n : Nat), n < 128 ^ (k + 1) → (put n).length ≤ k + 1
  | 0, n, h => by rw [put_small (by simpa using h)]; simp
  | k + 1, n, h => by
    by_cases h1 : n < 128
    · rw [put_small h1]; simp
    · rw [put_more (by omega), List.length_cons]
      have := put_len k (n / 128) (by rw [Nat.pow_succ] at h; omega)
      omega

theorem put_len10 {n : Nat} (h : n < 18446744073709551616) : (put n).length ≤ 10 := put_len 9 n (by omega)

theorem put_pos (n : Nat) : 1 ≤ (put n).length := by
  cases e : put n with
  | nil => exact absurd e (put_ne n)
  | cons b r => simp

theorem val_append (l : List UInt8) (b : UInt8) : val (l ++ [b]) = val l + b.toNat % 128 * 128 ^ l.length := by
  induction l with
  | nil => simp [val]
  | cons c r ih =>
    rw [List.cons_append, val, val, ih, List.length_cons, Nat.pow_succ]
    rw [Nat.mul_add, ← Nat.add_assoc, Nat.mul_left_comm, Nat.mul_comm 128 (128 ^ r.length)]

theorem val_lt (l : List UInt8) : val l < 128 ^ l.length := by
  induction l with
  | nil => simp [val]
  | cons c r ih =>
    rw [val, List.length_cons, Nat.pow_succ]
    omega

/-- Bytes of which all but the last have 128 more, and the last has not. -/
def Framed (c : List UInt8) : Prop := ∃ l b, c = l ++ [b] ∧ b.toNat < 128 ∧ ∀ x ∈ l, 128 ≤ x.toNat

theorem framed_put (n : Nat) : Framed (put n) := by
  induction n using Nat.strongRecOn with
  | ind n ih =>
    by_cases h : n < 128
    · rw [put_small h]
      exact ⟨[], _, rfl, by rw [byte_low h]; exact h, by simp⟩
    · obtain ⟨l, b, e, h1, h2⟩ := ih (n / 128) (by omega)
      rw [put_more (by omega), e]
      refine ⟨_ :: l, b, rfl, h1, fun x hx => ?_⟩
      rcases List.mem_cons.1 hx with rfl | hx
      · rw [byte_high]; omega
      · exact h2 x hx

/-- The last byte of a written number is 0 of 0 alone. -/
theorem put_last (n : Nat) (l : List UInt8) (b : UInt8) (e : put n = l ++ [b]) (h : l ≠ []) : b.toNat ≠ 0 := by
  induction n using Nat.strongRecOn generalizing l with
  | ind n ih =>
    by_cases h1 : n < 128
    · rw [put_small h1] at e
      cases l with
      | nil => exact absurd rfl h
      | cons c r =>
        rw [List.cons_append] at e
        injection e with _ e2
        cases r <;> simp at e2
    · rw [put_more (by omega)] at e
      cases l with
      | nil => exact absurd rfl h
      | cons c r =>
        rw [List.cons_append] at e
        injection e with _ e2
        cases r with
        | nil =>
          by_cases h2 : n / 128 < 128
          · rw [put_small h2] at e2
            simp at e2
            rw [← e2, byte_low h2]
            omega
          · rw [put_more (by omega)] at e2
            simp at e2
            exact absurd e2.2 (put_ne _)
        | cons c2 r2 => exact ih (n / 128) (by omega) (c2 :: r2) e2 (by simp)

/-- Bytes that are framed, and whose last is not needless, are written so. -/
theorem put_val (l : List UInt8) (b : UInt8) (hb : b.toNat < 128) (hl : ∀ x ∈ l, 128 ≤ x.toNat) (h : l = [] ∨ b.toNat ≠ 0) : put (val (l ++ [b])) = l ++ [b] := by
  induction l with
  | nil =>
    simp only [List.nil_append, val]
    rw [put_small (by omega)]
    congr 1
    apply UInt8.toNat_inj.1
    rw [byte_low (by omega)]
    omega
  | cons c r ih =>
    have hb0 : b.toNat ≠ 0 := by rcases h with h | h; cases h; exact h
    have ih' := ih (fun x hx => hl x (List.mem_cons_of_mem _ hx)) (Or.inr hb0)
    have hpos : 1 ≤ val (r ++ [b]) := by
      rw [val_append]
      have : 1 ≤ 128 ^ r.length := Nat.pow_pos (by omega)
      have : 1 * 1 ≤ b.toNat % 128 * 128 ^ r.length := Nat.mul_le_mul (by omega) this
      omega
    have hc := hl c (List.mem_cons_self ..)
    have hc8 := c.toNat_lt
    rw [List.cons_append, val, put_more (by omega), show (c.toNat % 128 + 128 * val (r ++ [b])) / 128 = val (r ++ [b]) from by omega, ih']
    congr 1
    apply UInt8.toNat_inj.1
    rw [byte_high]
    omega

/-- What reading gives: the number, and how many bytes it has. -/
def get (l : List UInt8) : Option (Nat × Nat) :=
  match (l.take 10).findIdx? (fun b => decide (b.toNat < 128)) with
  | none => none
  | some i => if put (val (l.take (i + 1)) % 18446744073709551616) = l.take (i + 1) then some (val (l.take (i + 1)) % 18446744073709551616, i + 1) else none

theorem find_at {l : List UInt8} {i : Nat} (h : i < l.length) (hi : i < 10) (h1 : l[i].toNat < 128) (h2 : ∀ j (hj : j < i), 128 ≤ (l[j]'(by omega)).toNat) : (l.take 10).findIdx? (fun b => decide (b.toNat < 128)) = some i := by
  rw [List.findIdx?_eq_some_iff_getElem]
  refine ⟨by rw [List.length_take]; omega, by rw [List.getElem_take]; simpa using h1, fun j hj => ?_⟩
  rw [List.getElem_take]
  have := h2 j hj
  simp
  omega

theorem find_no {l : List UInt8} (h : ∀ j (hj : j < l.length), j < 10 → 128 ≤ l[j].toNat) : (l.take 10).findIdx? (fun b => decide (b.toNat < 128)) = none := by
  rw [List.findIdx?_eq_none_iff]
  intro x hx
  obtain ⟨j, hj, rfl⟩ := List.getElem_of_mem hx
  rw [List.length_take] at hj
  rw [List.getElem_take]
  have := h j (by omega) (by omega)
  simp
  omega

/-- What is written is read, whatever stands behind it. -/
theorem get_put (n : Nat) (h : n < 18446744073709551616) (r : List UInt8) : get (put n ++ r) = some (n, (put n).length) := by
  obtain ⟨l, b, e, h1, h2⟩ := framed_put n
  have hl := put_len10 h
  have hll : (put n).length = l.length + 1 := by rw [e]; simp
  have hf : ((put n ++ r).take 10).findIdx? (fun b => decide (b.toNat < 128)) = some l.length := by
    refine find_at (by rw [List.length_append]; omega) (by omega) ?_ fun j hj => ?_
    · simp only [e]
      rw [List.getElem_append_left (by simp)]
      simpa using h1
    · simp only [e]
      rw [List.getElem_append_left (by simp; omega), List.getElem_append_left hj]
      exact h2 _ (List.getElem_mem _)
  have ht : (put n ++ r).take (l.length + 1) = put n := by rw [← hll]; simp
  unfold get
  rw [hf]
  simp only
  rw [ht, val_put, Nat.mod_eq_of_lt h, if_pos rfl, hll]

/-- What is read is written so. -/
theorem get_some {l : List UInt8} {n k : Nat} (h : get l = some (n, k)) : put n = l.take k ∧ n < 18446744073709551616 ∧ 1 ≤ k ∧ k ≤ l.length ∧ k ≤ 10 := by
  unfold get at h
  split at h
  · cases h
  · rename_i i hi
    rw [List.findIdx?_eq_some_iff_getElem] at hi
    obtain ⟨hi1, _, _⟩ := hi
    rw [List.length_take] at hi1
    split at h
    · rename_i hp
      injection h with h
      injection h with h1 h2
      subst h1 h2
      exact ⟨hp, Nat.mod_lt _ (by omega), by omega, by omega, by omega⟩
    · cases h

/-- The other way of reading: the last byte is not needless, and the number has at most 64 bits. -/
theorem get_other {l : List UInt8} {b : UInt8} (hb : b.toNat < 128) (h : ∀ x ∈ l, 128 ≤ x.toNat) :
    put (val (l ++ [b]) % 18446744073709551616) = l ++ [b] ↔ (l = [] ∨ b.toNat ≠ 0) ∧ val (l ++ [b]) < 18446744073709551616 := by
  constructor
  · intro e
    have hv : val (l ++ [b]) = val (l ++ [b]) % 18446744073709551616 := by
      conv => lhs; rw [← e]
      rw [val_put]
    refine ⟨?_, by omega⟩
    by_cases h0 : l = []
    · exact Or.inl h0
    · exact Or.inr (put_last _ l b e h0)
  · rintro ⟨h1, h2⟩
    rw [Nat.mod_eq_of_lt h2]
    exact put_val l b hb h h1

/-- A number that may be below 0, as one that is not. -/
def zig (n : Int) : Nat := if n < 0 then (-2 * n - 1).toNat else (2 * n).toNat

/-- And back. -/
def zag (d : Nat) : Int := if d % 2 = 1 then -((d / 2 : Nat) : Int) - 1 else ((d / 2 : Nat) : Int)

theorem zag_zig (n : Int) : zag (zig n) = n := by
  unfold zag zig
  split <;> split <;> omega

theorem zig_zag (d : Nat) : zig (zag d) = d := by
  unfold zag zig
  split <;> split <;> omega

theorem zig_lt {n : Int} (h1 : -9223372036854775808 ≤ n) (h2 : n < 9223372036854775808) : zig n < 18446744073709551616 := by
  unfold zig
  split <;> omega

theorem zag_range {d : Nat} (h : d < 18446744073709551616) : -9223372036854775808 ≤ zag d ∧ zag d < 9223372036854775808 := by
  unfold zag
  split <;> omega
end Go.Proofs.YtgbhhnfnfldbmaaDoor
