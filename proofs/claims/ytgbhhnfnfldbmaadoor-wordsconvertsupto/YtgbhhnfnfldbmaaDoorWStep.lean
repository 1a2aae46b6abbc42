/-
  What is proved: mathematics: a rune read byte by byte, as the document says it, is what is decoded, or a fault where that is one.
  Conditions: as each theorem says.
-/
import Derived.Test.YtgbhhnfnfldbmaaDoorWMath
namespace Go.Proofs.YtgbhhnfnfldbmaaDoor

/-- What the first byte of a rune says: how many more, their beginning, the least rune. -/
def hdB (b : Nat) : Option (Nat × Nat × Nat) :=
  if b < 128 then some (0, b, 0) else if 192 ≤ b ∧ b < 224 then some (1, b - 192, 128) else if 224 ≤ b ∧ b < 240 then some (2, b - 224, 2048) else if 240 ≤ b ∧ b < 248 then some (3, b - 240, 65536) else none

/-- The bytes behind it: how many are left, which comes next, what they have made. -/
def lpB (s : ByteArray) (p : Nat) : Nat → Nat → Nat → Option Nat
  | 0, _, c => some c
  | m + 1, k, c => if (s.get! (p + k)).toNat < 128 ∨ 191 < (s.get! (p + k)).toNat then none else lpB s p m (k + 1) (c * 64 + ((s.get! (p + k)).toNat - 128))

/-- Is a rune none? -/
def noR (l c : Nat) : Bool := decide (c < l ∨ 1114111 < c ∨ (55296 ≤ c ∧ c ≤ 57343))

def stB (s : ByteArray) (p : Nat) : Option (Nat × Nat) :=
  match hdB (s.get! p).toNat with
  | none => none
  | some (n, c, l) => if s.size ≤ p + n then none else
    match lpB s p n 1 c with
    | none => none
    | some d => if noR l d = true then none else some (d, n + 1)

/-- .. over the bytes alone. -/
def stN (n b0 b1 b2 b3 : Nat) : Option (Nat × Nat) :=
  if b0 < 128 then some (b0, 1)
  else if 192 ≤ b0 ∧ b0 < 224 then
    (if n ≤ 1 then none else if b1 < 128 ∨ 191 < b1 then none else
     if noR 128 ((b0 - 192) * 64 + (b1 - 128)) = true then none else some ((b0 - 192) * 64 + (b1 - 128), 2))
  else if 224 ≤ b0 ∧ b0 < 240 then
    (if n ≤ 2 then none else if b1 < 128 ∨ 191 < b1 then none else if b2 < 128 ∨ 191 < b2 then none else
     if noR 2048 (((b0 - 224) * 64 + (b1 - 128)) * 64 + (b2 - 128)) = true then none else some (((b0 - 224) * 64 + (b1 - 128)) * 64 + (b2 - 128), 3))
  else if 240 ≤ b0 ∧ b0 < 248 then
    (if n ≤ 3 then none else if b1 < 128 ∨ 191 < b1 then none else if b2 < 128 ∨ 191 < b2 then none else if b3 < 128 ∨ 191 < b3 then none else
     if noR 65536 ((((b0 - 240) * 64 + (b1 - 128)) * 64 + (b2 - 128)) * 64 + (b3 - 128)) = true then none else some ((((b0 - 240) * 64 + (b1 - 128)) * 64 + (b2 - 128)) * 64 + (b3 - 128), 4))
  else none

theorem noR_of {l c : Nat} : noR l c = true ↔ (c < l ∨ 1114111 < c ∨ (55296 ≤ c ∧ c ≤ 57343)) := decide_eq_true_iff

theorem pick_some {G : Prop} [Decidable G] (x y k : Nat) (q : Nat × Nat) (hq : q = if G then (x, k) else (65533, 1)) (hk : 2 ≤ k) (hy : G → y = x) (r : Option (Nat × Nat)) (h1 : G → r = some (y, k)) (h2 : ¬ G → r = none) :
    r = if q.1 = 65533 ∧ q.2 = 1 then none else some q := by
  by_cases hG : G
  · rw [hq, if_pos hG, if_neg (fun h => by have := h.2; simp only at this; omega), h1 hG, hy hG]
  · rw [hq, if_neg hG, if_pos ⟨rfl, rfl⟩, h2 hG]

set_option maxRecDepth 100000 in
set_option maxHeartbeats 4000000 in
theorem stN_decode (n b0 b1 b2 b3 : Nat) (h0 : b0 < 256) (h1 : b1 < 256) (h2 : b2 < 256) (h3 : b3 < 256) :
    stN n b0 b1 b2 b3 = if (Lib.decodeN n b0 b1 b2 b3).1 = 65533 ∧ (Lib.decodeN n b0 b1 b2 b3).2 = 1 then none else some (Lib.decodeN n b0 b1 b2 b3) := by
  by_cases c1 : b0 < 128
  · have e : Lib.decodeN n b0 b1 b2 b3 = (b0, 1) := by unfold Lib.decodeN; rw [if_pos c1]
    rw [e]
    unfold stN
    rw [if_pos c1, if_neg (fun h => by have := h.1; simp only at this; omega)]
  · by_cases c2 : b0 < 192 ∨ 248 ≤ b0
    · have e : Lib.decodeN n b0 b1 b2 b3 = (65533, 1) := by
        unfold Lib.decodeN
        rw [if_neg c1, if_neg (by omega), if_neg (by omega), if_neg (by omega)]
      rw [e]
      unfold stN
      rw [if_neg c1, if_neg (by omega), if_neg (by omega), if_neg (by omega), if_pos ⟨rfl, rfl⟩]
    · by_cases c3 : b0 < 224
      · refine pick_some (G := (1 < n ∧ b1 / 64 = 2) ∧ b0 % 32 * 64 + b1 % 64 ≥ 128) (b0 % 32 * 64 + b1 % 64) ((b0 - 192) * 64 + (b1 - 128)) 2 _ ?_ (by omega) (fun h => by omega) _ (fun h => ?_) (fun h => ?_)
        · unfold Lib.decodeN
          rw [if_neg c1, if_neg (show ¬ (b0 / 16 = 14 ∧ _) by omega), if_neg (show ¬ (b0 / 8 = 30 ∧ _) by omega)]
          repeat' split
          all_goals first | rfl | (exfalso; omega)
        · unfold stN
          rw [if_neg c1, if_pos (by omega), if_neg (by omega), if_neg (by omega), if_neg (by rw [noR_of]; omega)]
        · unfold stN
          rw [if_neg c1, if_pos (by omega)]
          simp only [noR_of]
          repeat' split
          all_goals first | rfl | (exfalso; omega)
      · by_cases c4 : b0 < 240
        · refine pick_some (G := (1 < n ∧ b1 / 64 = 2) ∧ (2 < n ∧ b2 / 64 = 2) ∧ noR 2048 (b0 % 16 * 4096 + b1 % 64 * 64 + b2 % 64) = false) (b0 % 16 * 4096 + b1 % 64 * 64 + b2 % 64) (((b0 - 224) * 64 + (b1 - 128)) * 64 + (b2 - 128)) 3 _ ?_ (by omega) (fun h => by omega) _ (fun h => ?_) (fun h => ?_)
          · unfold Lib.decodeN
            rw [if_neg c1, if_neg (show ¬ (b0 / 32 = 6 ∧ _) by omega), if_neg (show ¬ (b0 / 8 = 30 ∧ _) by omega)]
            simp only [← Bool.not_eq_true, noR_of]
            repeat' split
            all_goals first | rfl | (exfalso; omega)
          · have e : b0 % 16 * 4096 + b1 % 64 * 64 + b2 % 64 = ((b0 - 224) * 64 + (b1 - 128)) * 64 + (b2 - 128) := by omega
            unfold stN
            rw [if_neg c1, if_neg (by omega), if_pos (by omega), if_neg (by omega), if_neg (by omega), if_neg (by omega), ← e, h.2.2, if_neg (by decide)]
          · unfold stN
            rw [if_neg c1, if_neg (by omega), if_pos (by omega)]
            simp only [← Bool.not_eq_true, noR_of] at h ⊢
            repeat' split
            all_goals first | rfl | (exfalso; omega)
        · refine pick_some (G := (1 < n ∧ b1 / 64 = 2) ∧ (2 < n ∧ b2 / 64 = 2) ∧ (3 < n ∧ b3 / 64 = 2) ∧ noR 65536 (b0 % 8 * 262144 + b1 % 64 * 4096 + b2 % 64 * 64 + b3 % 64) = false) (b0 % 8 * 262144 + b1 % 64 * 4096 + b2 % 64 * 64 + b3 % 64) ((((b0 - 240) * 64 + (b1 - 128)) * 64 + (b2 - 128)) * 64 + (b3 - 128)) 4 _ ?_ (by omega) (fun h => by omega) _ (fun h => ?_) (fun h => ?_)
          · unfold Lib.decodeN
            rw [if_neg c1, if_neg (show ¬ (b0 / 32 = 6 ∧ _) by omega), if_neg (show ¬ (b0 / 16 = 14 ∧ _) by omega)]
            simp only [← Bool.not_eq_true, noR_of]
            repeat' split
            all_goals first | rfl | (exfalso; omega)
          · have e : b0 % 8 * 262144 + b1 % 64 * 4096 + b2 % 64 * 64 + b3 % 64 = (((b0 - 240) * 64 + (b1 - 128)) * 64 + (b2 - 128)) * 64 + (b3 - 128) := by omega
            unfold stN
            rw [if_neg c1, if_neg (by omega), if_neg (by omega), if_pos (by omega), if_neg (by omega), if_neg (by omega), if_neg (by omega), if_neg (by omega), ← e, h.2.2.2, if_neg (by decide)]
          · unfold stN
            rw [if_neg c1, if_neg (by omega), if_neg (by omega), if_pos (by omega)]
            simp only [← Bool.not_eq_true, noR_of] at h ⊢
            repeat' split
            all_goals first | rfl | (exfalso; omega)

theorem stB_N {s : ByteArray} {p : Nat} (hp : p < s.size) : stB s p = stN (s.size - p) (s.get! p).toNat (s.get! (p + 1)).toNat (s.get! (p + 2)).toNat (s.get! (p + 3)).toNat := by
  unfold stB hdB stN
  generalize (s.get! p).toNat = b0
  by_cases c1 : b0 < 128
  · rw [if_pos c1, if_pos c1]
    simp only [lpB]
    rw [if_neg (by omega), if_neg (by rw [noR_of]; omega)]
  · rw [if_neg c1, if_neg c1]
    by_cases c2 : 192 ≤ b0 ∧ b0 < 224
    · rw [if_pos c2, if_pos c2]
      simp only [lpB]
      by_cases hz : s.size ≤ p + 1
      · rw [if_pos hz, if_pos (show s.size - p ≤ 1 by omega)]
      · rw [if_neg hz, if_neg (show ¬ s.size - p ≤ 1 by omega)]
        generalize (s.get! (p + 1)).toNat = b1
        by_cases k1 : b1 < 128 ∨ 191 < b1
        · rw [if_pos k1, if_pos k1]
        · rw [if_neg k1, if_neg k1]
    · rw [if_neg c2, if_neg c2]
      by_cases c3 : 224 ≤ b0 ∧ b0 < 240
      · rw [if_pos c3, if_pos c3]
        simp only [lpB, show (1 : Nat) + 1 = 2 from rfl]
        by_cases hz : s.size ≤ p + 2
        · rw [if_pos hz, if_pos (show s.size - p ≤ 2 by omega)]
        · rw [if_neg hz, if_neg (show ¬ s.size - p ≤ 2 by omega)]
          generalize (s.get! (p + 1)).toNat = b1
          generalize (s.get! (p + 2)).toNat = b2
          by_cases k1 : b1 < 128 ∨ 191 < b1
          · rw [if_pos k1, if_pos k1]
          · rw [if_neg k1, if_neg k1]
            by_cases k2 : b2 < 128 ∨ 191 < b2
            · rw [if_pos k2, if_pos k2]
            · rw [if_neg k2, if_neg k2]
      · rw [if_neg c3, if_neg c3]
        by_cases c4 : 240 ≤ b0 ∧ b0 < 248
        · rw [if_pos c4, if_pos c4]
          simp only [lpB, show (1 : Nat) + 1 = 2 from rfl, show (2 : Nat) + 1 = 3 from rfl]
          by_cases hz : s.size ≤ p + 3
          · rw [if_pos hz, if_pos (show s.size - p ≤ 3 by omega)]
          · rw [if_neg hz, if_neg (show ¬ s.size - p ≤ 3 by omega)]
            generalize (s.get! (p + 1)).toNat = b1
            generalize (s.get! (p + 2)).toNat = b2
            generalize (s.get! (p + 3)).toNat = b3
            by_cases k1 : b1 < 128 ∨ 191 < b1
            · rw [if_pos k1, if_pos k1]
            · rw [if_neg k1, if_neg k1]
              by_cases k2 : b2 < 128 ∨ 191 < b2
              · rw [if_pos k2, if_pos k2]
              · rw [if_neg k2, if_neg k2]
                by_cases k3 : b3 < 128 ∨ 191 < b3
                · rw [if_pos k3, if_pos k3]
                · rw [if_neg k3, if_neg k3]
        · rw [if_neg c4, if_neg c4]

/-- IT IS WHAT IS DECODED. -/
theorem stB_decode {s : ByteArray} {p : Nat} (hp : p < s.size) : stB s p = if (Utf8.decode s p).1 = 65533 ∧ (Utf8.decode s p).2 = 1 then none else some (Utf8.decode s p) := by
  rw [stB_N hp, Lib.decode_at]
  exact stN_decode _ _ _ _ _ (UInt8.toNat_lt _) (UInt8.toNat_lt _) (UInt8.toNat_lt _) (UInt8.toNat_lt _)

/-- How great what the bytes have made may be. -/
def Bd (k c : Nat) : Prop := (k = 1 ∧ c ≤ 128) ∨ (k = 2 ∧ c ≤ 8300) ∨ (k = 3 ∧ c ≤ 540000) ∨ (k = 4 ∧ c ≤ 35000000)
theorem Bd.next {k c d : Nat} (h : Bd k c) (hk : k ≤ 3) (hd : d < 64) : Bd (k + 1) (c * 64 + d) := by
  unfold Bd at h ⊢
  omega
theorem Bd.le {k c : Nat} (h : Bd k c) : c ≤ 35000000 := by
  unfold Bd at h
  omega
end Go.Proofs.YtgbhhnfnfldbmaaDoor
