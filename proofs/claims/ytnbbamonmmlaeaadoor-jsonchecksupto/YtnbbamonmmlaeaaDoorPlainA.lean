/-
  What is proved: plain facts on decimal numerals: what Itoa writes is digits alone, few of them, and Atoi reads it as it was; the name of an id, and where its sign stands.
  Conditions: as each theorem says.
-/
import Derived.Lib.ItoaNum
import Derived.Lib.AtoiAll
import Derived.Lib.AtoiTie
import Derived.Lib.Bytealg
namespace Go.Proofs.YtnbbamonmmlaeaaDoor

theorem digit_nat (d : Nat) (h : d < 10) : (UInt8.ofNat (48 + d)).toNat = 48 + d := by
  rw [UInt8.toNat_ofNat']
  omega

theorem dec_digits : ∀ (k u : Nat), u < k → ∀ b ∈ Lib.decDigits u, 48 ≤ b.toNat ∧ b.toNat ≤ 57
  | 0, _, h, _, _ => by omega
  | k + 1, u, h, b, hb => by
    by_cases h10 : u < 10
    · rw [Lib.decDigits_one h10] at hb
      simp only [List.mem_singleton] at hb
      subst hb
      rw [digit_nat u h10]
      omega
    · rw [Lib.decDigits, dif_neg h10] at hb
      simp only [List.mem_append, List.mem_singleton] at hb
      rcases hb with hb | hb
      · exact dec_digits k (u / 10) (by omega) b hb
      · subst hb
        rw [digit_nat (u % 10) (by omega)]
        omega

theorem nDigits_le : ∀ (k u : Nat), u < 10 ^ (k + 1) → Lib.nDigits u ≤ k + 1
  | 0, u, h => by rw [Lib.nDigits_small (by simpa using h)]; omega
  | k + 1, u, h => by
    by_cases h10 : u < 10
    · rw [Lib.nDigits_small h10]; omega
    · rw [Lib.nDigits_big h10]
      have h1 : u / 10 < 10 ^ (k + 1) := by
        rw [Nat.pow_succ] at h
        omega
      have := nDigits_le k (u / 10) h1
      omega

theorem decFrom_append : ∀ (l r : List UInt8) (acc : Nat), Lib.decFrom acc (l ++ r) = (Lib.decFrom acc l).bind fun x => Lib.decFrom x r
  | [], r, acc => by simp [Lib.decFrom]
  | b :: l, r, acc => by
    simp only [List.cons_append, Lib.decFrom]
    cases Lib.digitVal b with
    | none => rfl
    | some d => exact decFrom_append l r _

theorem digitVal_digit (d : Nat) (h : d < 10) : Lib.digitVal (UInt8.ofNat (48 + d)) = some d := by
  unfold Lib.digitVal
  rw [digit_nat d h, if_pos ⟨by omega, by omega⟩]
  simp

theorem dec_back : ∀ (k u : Nat), u < k → Lib.decFrom 0 (Lib.decDigits u) = some u
  | 0, _, h => by omega
  | k + 1, u, h => by
    by_cases h10 : u < 10
    · rw [Lib.decDigits_one h10]
      simp only [Lib.decFrom, digitVal_digit u h10, Option.some.injEq]
      omega
    · rw [Lib.decDigits, dif_neg h10, decFrom_append, dec_back k (u / 10) (by omega)]
      simp only [Option.bind_some, Lib.decFrom, digitVal_digit (u % 10) (by omega), Option.some.injEq]
      omega

theorem dec_ne (u : Nat) : ∃ b r, Lib.decDigits u = b :: r := by
  have h := Lib.decDigits_length u
  have h1 := Lib.nDigits_pos u
  cases hd : Lib.decDigits u with
  | nil => rw [hd] at h; simp at h; omega
  | cons b r => exact ⟨b, r, rfl⟩

theorem atoi_dec (u : Nat) : Lib.atoi (Lib.decDigits u) = some (u : Int) := by
  obtain ⟨b, r, hd⟩ := dec_ne u
  have hb := dec_digits (u + 1) u (by omega) b (by rw [hd]; simp)
  have h45 : ¬ b = 45 := fun e => by subst e; simp at hb
  have h43 : ¬ b = 43 := fun e => by subst e; simp at hb
  have hf := dec_back (u + 1) u (by omega)
  rw [hd] at hf ⊢
  simp [Lib.atoi, h45, h43, Lib.decNat, hf]

theorem itoa_nat (n : Int) (h : 0 ≤ n) : Lib.itoa n = Lib.decDigits n.toNat := by
  unfold Lib.itoa
  rw [if_neg (by omega)]

theorem itoa_len (n : Int) (h : 0 ≤ n) (h1 : n ≤ 1000000) : (Lib.itoa n).length ≤ 7 := by
  rw [itoa_nat n h, Lib.decDigits_length]
  exact nDigits_le 6 n.toNat (by omega)

theorem atoiAll_itoa (n : Int) (h : 0 ≤ n) (h1 : n ≤ 1000000) : Lib.atoiAll (Lib.itoa n) = .ok n := by
  rw [Lib.atoiAll_short _ (by have := itoa_len n h h1; omega), itoa_nat n h, atoi_dec]
  have : (n.toNat : Int) = n := Int.toNat_of_nonneg h
  simp [Lib.NumEnd.ofOption, this]

theorem itoa_digits (n : Int) (h : 0 ≤ n) : ∀ b ∈ Lib.itoa n, 48 ≤ b.toNat ∧ b.toNat ≤ 57 := by
  rw [itoa_nat n h]
  exact dec_digits (n.toNat + 1) n.toNat (by omega)

theorem itoa_at (n : Int) (h : 0 ≤ n) : (64 : UInt8) ∉ Lib.itoa n := by
  intro hm
  have := itoa_digits n h 64 hm
  simp at this

/-- The number that a text stands for; 0: none. -/
def numV (l : List UInt8) : Int := match Lib.atoiAll l with
  | .ok v => v
  | _ => 0

theorem numV_itoa (n : Int) (h : 0 ≤ n) (h1 : n ≤ 1000000) : numV (Lib.itoa n) = n := by
  unfold numV
  rw [atoiAll_itoa n h h1]

/-- The name of a real id. -/
def nameL (n a : Int) : List UInt8 := Lib.itoa n ++ 64 :: Lib.itoa a

theorem ib_hit (x y : List UInt8) (h : (64 : UInt8) ∉ x) : Lib.indexByte (x ++ 64 :: y) 64 = x.length := by
  induction x with
  | nil => simp [Lib.indexByte]
  | cons b l ih =>
    have h1 : ¬ b = 64 := fun e => h (by simp [e])
    have h2 := ih (fun m => h (by simp [m]))
    have h3 : ¬ ((l.length : Int) = -1) := by omega
    simp [Lib.indexByte, h1, h2, h3]

theorem ib_miss (x : List UInt8) (h : (64 : UInt8) ∉ x) : Lib.indexByte x 64 = -1 := by
  induction x with
  | nil => simp [Lib.indexByte]
  | cons b l ih =>
    have h1 : ¬ b = 64 := fun e => h (by simp [e])
    have h2 := ih (fun m => h (by simp [m]))
    simp [Lib.indexByte, h1, h2]

theorem ex_front (s : ByteArray) (x y : List UInt8) (h : s.data.toList = x ++ 64 :: y) : s.extract 0 x.length = ⟨x.toArray⟩ := by
  apply ByteArray.ext
  apply Array.ext'
  rw [ByteArray.data_extract, Array.toList_extract, h]
  simp

theorem ex_back (s : ByteArray) (x y : List UInt8) (h : s.data.toList = x ++ 64 :: y) : s.extract (x.length + 1) s.size = ⟨y.toArray⟩ := by
  have hl : s.size = x.length + 1 + y.length := by
    have h1 := congrArg List.length h
    rw [Array.length_toList, List.length_append, List.length_cons] at h1
    rw [ByteArray.size]
    omega
  apply ByteArray.ext
  apply Array.ext'
  rw [ByteArray.data_extract, Array.toList_extract, h, hl]
  rw [List.extract_eq_take_drop, show x.length + 1 + y.length - (x.length + 1) = y.length from by omega]
  rw [show List.drop (x.length + 1) (x ++ 64 :: y) = y from by rw [List.drop_append]; simp]
  simp
end Go.Proofs.YtnbbamonmmlaeaaDoor
