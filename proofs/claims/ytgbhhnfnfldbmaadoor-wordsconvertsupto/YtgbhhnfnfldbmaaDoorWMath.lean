/-
  What is proved: mathematics: the runes of a text, places in it counted in bytes, runes and units, and where words begin and end.
  Conditions: as each theorem says.
-/
import Derived.Lib.ValidLaws
namespace Go.Proofs.YtgbhhnfnfldbmaaDoor

/-- Is the text from a byte on UTF-8? -/
def okAt (s : ByteArray) (p : Nat) : Bool := Lib.validD (s.data.toList.drop p)
/-- Where the next rune begins. -/
def nxt (s : ByteArray) (p : Nat) : Nat := p + (Utf8.decode s p).2

theorem size_len (s : ByteArray) : s.data.toList.length = s.size := rfl

theorem okAt_zero (s : ByteArray) : okAt s 0 = Lib.validD s.data.toList := by unfold okAt; simp

theorem okAt_step (s : ByteArray) (p : Nat) (hp : p < s.size) : okAt s p = if (Utf8.decode s p).1 = 65533 ∧ (Utf8.decode s p).2 = 1 then false else okAt s (nxt s p) := by
  have hne : s.data.toList.drop p ≠ [] := by
    intro e
    have := List.drop_eq_nil_iff.1 e
    rw [size_len] at this
    omega
  unfold okAt nxt
  rw [Lib.validD_step _ hne, Lib.decodeL_drop, List.drop_drop]

theorem okAt_next {s : ByteArray} {p : Nat} (hp : p < s.size) (h : okAt s p = true) : ¬ ((Utf8.decode s p).1 = 65533 ∧ (Utf8.decode s p).2 = 1) ∧ okAt s (nxt s p) = true := by
  rw [okAt_step s p hp] at h
  split at h
  · cases h
  · exact ⟨by assumption, h⟩

/-- How many bytes a rune has. -/
def szB (c : Nat) : Nat := if c < 128 then 1 else if c < 2048 then 2 else if c < 65536 then 3 else 4
/-- How much a rune is, counted so. -/
def wd (k : Int) (c : Nat) : Nat := if k = 1 then szB c else if k = 3 ∧ 65536 ≤ c then 2 else 1

theorem wd_pos (k : Int) (c : Nat) : 1 ≤ wd k c ∧ wd k c ≤ 4 := by
  unfold wd szB
  repeat' split
  all_goals omega

/-- What is decoded, where it is no fault. -/
def Rune (c : Nat) : Prop := c < 55296 ∨ (57344 ≤ c ∧ c ≤ 1114111)

theorem decodeN_rune (n b0 b1 b2 b3 : Nat) (h0 : b0 < 256) (h : ¬ ((Lib.decodeN n b0 b1 b2 b3).1 = 65533 ∧ (Lib.decodeN n b0 b1 b2 b3).2 = 1)) :
    Rune (Lib.decodeN n b0 b1 b2 b3).1 ∧ (Lib.decodeN n b0 b1 b2 b3).2 = szB (Lib.decodeN n b0 b1 b2 b3).1 := by
  unfold Lib.decodeN at h ⊢
  unfold Rune szB
  repeat' split
  all_goals simp_all
  all_goals (repeat' split)
  all_goals omega

theorem decode_rune {s : ByteArray} {p : Nat} (h : ¬ ((Utf8.decode s p).1 = 65533 ∧ (Utf8.decode s p).2 = 1)) :
    Rune (Utf8.decode s p).1 ∧ (Utf8.decode s p).2 = szB (Utf8.decode s p).1 := by
  rw [Lib.decode_at] at h ⊢
  exact decodeN_rune _ _ _ _ _ (UInt8.toNat_lt _) h

theorem nxt_gt (s : ByteArray) (p : Nat) : p < nxt s p := by
  have := Lib.width_pos s p
  unfold nxt
  omega

theorem decodeN_fits (n b0 b1 b2 b3 : Nat) (hn : 1 ≤ n) : (Lib.decodeN n b0 b1 b2 b3).2 ≤ n := by
  unfold Lib.decodeN
  repeat' split
  all_goals simp_all
  all_goals omega

theorem nxt_le {s : ByteArray} {p : Nat} (hp : p < s.size) : nxt s p ≤ s.size := by
  have h := decodeN_fits (s.size - p) (s.get! p).toNat (s.get! (p + 1)).toNat (s.get! (p + 2)).toNat (s.get! (p + 3)).toNat (by omega)
  unfold nxt
  rw [Lib.decode_at]
  omega

/-- The runes from a byte on. -/
def rnsF (s : ByteArray) : Nat → Nat → List Nat
  | 0, _ => []
  | f + 1, p => if p < s.size then (Utf8.decode s p).1 :: rnsF s f (nxt s p) else []

theorem rnsF_fuel (s : ByteArray) : ∀ (f g p : Nat), s.size ≤ p + f → s.size ≤ p + g → rnsF s f p = rnsF s g p
  | 0, 0, _, _, _ => rfl
  | 0, g + 1, p, h, _ => by rw [rnsF, rnsF, if_neg (by omega)]
  | f + 1, 0, p, _, h => by rw [rnsF, rnsF, if_neg (by omega)]
  | f + 1, g + 1, p, h1, h2 => by
    have := nxt_gt s p
    rw [rnsF, rnsF, rnsF_fuel s f g (nxt s p) (by omega) (by omega)]

def rns (s : ByteArray) (p : Nat) : List Nat := rnsF s s.size p

theorem rns_cons {s : ByteArray} {p : Nat} (hp : p < s.size) : rns s p = (Utf8.decode s p).1 :: rns s (nxt s p) := by
  have := nxt_gt s p
  obtain ⟨n, hn⟩ : ∃ n, s.size = n + 1 := ⟨s.size - 1, by omega⟩
  unfold rns
  rw [rnsF_fuel s s.size (n + 1) p (by omega) (by omega), rnsF, if_pos hp, rnsF_fuel s n s.size (nxt s p) (by omega) (by omega)]

theorem rns_end {s : ByteArray} {p : Nat} (hp : ¬ p < s.size) : rns s p = [] := by
  unfold rns
  rw [rnsF_fuel s s.size 0 p (by omega) (by omega), rnsF]

/-- All together, counted so. -/
def tot (k : Int) : List Nat → Nat
  | [] => 0
  | c :: r => wd k c + tot k r

theorem rns_bytes (s : ByteArray) : ∀ (n p : Nat), s.size - p ≤ n → p ≤ s.size → okAt s p = true → tot 1 (rns s p) = s.size - p
  | 0, p, h, hp, _ => by rw [rns_end (by omega), tot]; omega
  | n + 1, p, h, hp, ho => by
    by_cases hlt : p < s.size
    · obtain ⟨h1, h2⟩ := okAt_next hlt ho
      have h3 := nxt_gt s p
      have h4 := nxt_le hlt
      rw [rns_cons hlt, tot, rns_bytes s n (nxt s p) (by omega) h4 h2]
      have h5 := (decode_rune h1).2
      show wd 1 _ + _ = _
      unfold wd
      rw [if_pos rfl, ← h5]
      unfold nxt at h4 ⊢
      omega
    · rw [rns_end hlt, tot]; omega

theorem rns_len (s : ByteArray) : ∀ (n p : Nat), s.size - p ≤ n → (rns s p).length ≤ s.size - p
  | 0, p, h => by rw [rns_end (by omega)]; simp
  | n + 1, p, h => by
    by_cases hlt : p < s.size
    · have h3 := nxt_gt s p
      have := rns_len s n (nxt s p) (by omega)
      rw [rns_cons hlt, List.length_cons]
      omega
    · rw [rns_end hlt]; simp

/-- A place counted otherwise: the rest of the runes, what is ahead of them counted both ways. -/
def cnv (at' from' to' : Int) : List Nat → Nat → Nat → Option Nat
  | [], x, y => if (x : Int) = at' then some y else none
  | c :: r, x, y => if at' ≤ x then (if (x : Int) = at' then some y else none) else cnv at' from' to' r (x + wd from' c) (y + wd to' c)

/-- .. as the document says it. -/
def cnvR (at' from' to' : Int) : List Nat → Nat → Nat → Option Nat
  | [], x, y => if (x : Int) = at' then some y else none
  | c :: r, x, y => if (x : Int) = at' then some y else cnvR at' from' to' r (x + wd from' c) (y + wd to' c)

theorem cnvR_over (at' from' to' : Int) : ∀ (l : List Nat) (x y : Nat), at' < x → cnvR at' from' to' l x y = none
  | [], x, y, h => by rw [cnvR, if_neg (by omega)]
  | c :: r, x, y, h => by rw [cnvR, if_neg (by omega), cnvR_over at' from' to' r _ _ (by omega)]

theorem cnv_eq (at' from' to' : Int) : ∀ (l : List Nat) (x y : Nat), cnv at' from' to' l x y = cnvR at' from' to' l x y
  | [], x, y => rfl
  | c :: r, x, y => by
    rw [cnv, cnvR]
    by_cases h1 : (x : Int) = at'
    · rw [if_pos (by omega), if_pos h1, if_pos h1]
    · rw [if_neg h1, if_neg h1]
      by_cases h2 : at' ≤ x
      · rw [if_pos h2, cnvR_over _ _ _ _ _ _ (by have := (wd_pos from' c).1; omega)]
      · rw [if_neg h2, cnv_eq]

theorem cnv_le {at' from' to' : Int} : ∀ {l : List Nat} {x y z : Nat}, cnv at' from' to' l x y = some z → y ≤ z
  | [], x, y, z, h => by
    rw [cnv] at h
    split at h
    · injection h with h; omega
    · cases h
  | c :: r, x, y, z, h => by
    rw [cnv] at h
    split at h
    · split at h
      · injection h with h; omega
      · cases h
    · have := cnv_le h
      omega

theorem cnv_back {at' from' to' : Int} : ∀ {l : List Nat} {x y z : Nat}, cnv at' from' to' l x y = some z → cnv z to' from' l y x = some at'.toNat ∧ (x : Int) ≤ at'
  | [], x, y, z, h => by
    rw [cnv] at h
    split at h
    · injection h with h
      subst h
      rw [cnv, if_pos rfl]
      exact ⟨by congr 1; omega, by omega⟩
    · cases h
  | c :: r, x, y, z, h => by
    rw [cnv] at h
    split at h
    · split at h
      · injection h with h
        subst h
        rw [cnv, if_pos (Int.le_refl _), if_pos rfl]
        exact ⟨by congr 1; omega, by omega⟩
      · cases h
    · have h1 := cnv_le h
      have h2 := (wd_pos to' c).1
      obtain ⟨h3, h4⟩ := cnv_back h
      rw [cnv, if_neg (by omega)]
      exact ⟨h3, by omega⟩

theorem cnv_less {a b from' to' : Int} (hab : a < b) : ∀ {l : List Nat} {x y u v : Nat}, cnv a from' to' l x y = some u → cnv b from' to' l x y = some v → u < v
  | [], x, y, u, v, h1, h2 => by
    rw [cnv] at h1 h2
    split at h1
    · rw [if_neg (by omega)] at h2; cases h2
    · cases h1
  | c :: r, x, y, u, v, h1, h2 => by
    rw [cnv] at h1 h2
    split at h1
    · split at h1
      · injection h1 with h1
        rw [if_neg (by omega)] at h2
        have h3 := cnv_le h2
        have h4 := (wd_pos to' c).1
        omega
      · cases h1
    · rw [if_neg (by omega)] at h2
      exact cnv_less hab h1 h2

theorem cnv_end (from' to' : Int) : ∀ (l : List Nat) (x y : Nat), cnv ((x + tot from' l : Nat) : Int) from' to' l x y = some (y + tot to' l)
  | [], x, y => by rw [cnv, tot, tot, if_pos (by omega)]; rfl
  | c :: r, x, y => by
    have h1 := (wd_pos from' c).1
    rw [cnv, if_neg (by rw [tot]; omega), tot, tot]
    have := cnv_end from' to' r (x + wd from' c) (y + wd to' c)
    rw [show x + (wd from' c + tot from' r) = x + wd from' c + tot from' r by omega, this]
    congr 1
    omega

theorem tot_two : ∀ (l : List Nat), tot 2 l = l.length
  | [] => rfl
  | c :: r => by
    rw [tot, tot_two r, List.length_cons]
    unfold wd
    rw [if_neg (by decide), if_neg (by omega)]
    omega

theorem tot_le (k : Int) : ∀ (l : List Nat), tot k l ≤ 4 * l.length
  | [] => by simp [tot]
  | c :: r => by
    have h1 := (wd_pos k c).2
    have := tot_le k r
    rw [tot, List.length_cons]
    omega

theorem cnv_top {at' from' to' : Int} : ∀ {l : List Nat} {x y z : Nat}, cnv at' from' to' l x y = some z → z ≤ y + tot to' l ∧ at' ≤ x + tot from' l
  | [], x, y, z, h => by
    rw [cnv] at h
    split at h
    · injection h with h; rw [tot, tot]; omega
    · cases h
  | c :: r, x, y, z, h => by
    rw [cnv] at h
    split at h
    · split at h
      · injection h with h; rw [tot, tot]; omega
      · cases h
    · have := cnv_top h
      rw [tot, tot]
      omega

/-- Convert: the answer, and the number of the error. -/
def cvr (s : ByteArray) (at' from' to' : Int) : Int × Int :=
  if Lib.validD s.data.toList = true then
    (if (1 ≤ from' ∧ from' ≤ 3) ∧ (1 ≤ to' ∧ to' ≤ 3) then
      (match cnv at' from' to' (rns s 0) 0 0 with | some y => ((y : Int), 0) | none => (0, 1))
     else (0, 1))
  else (0, 2)

/-- Is a rune part of a word? -/
def isW (c : Nat) : Bool := decide (97 ≤ c ∧ c ≤ 122) || decide (65 ≤ c ∧ c ≤ 90) || decide (48 ≤ c ∧ c ≤ 57) || decide (128 ≤ c)

/-- Where words begin and end: the rest of the runes, the place of the first of them, whether a word goes on. -/
def brk : List Nat → Nat → Bool → List Int
  | [], k, w => if w then [(k : Int)] else []
  | c :: r, k, w => if isW c = w then brk r (k + 1) w else (k : Int) :: brk r (k + 1) (!w)

theorem brk_even : ∀ (l : List Nat) (k : Nat) (w : Bool), (brk l k w).length % 2 = if w then 1 else 0
  | [], k, w => by cases w <;> simp [brk]
  | c :: r, k, w => by
    rw [brk]
    split
    · exact brk_even r (k + 1) w
    · have := brk_even r (k + 1) (!w)
      rw [List.length_cons]
      cases w <;> simp at this ⊢ <;> omega

theorem brk_top : ∀ (l : List Nat) (k : Nat) (w : Bool), ∀ x ∈ brk l k w, (k : Int) ≤ x ∧ x ≤ k + l.length
  | [], k, w, x, h => by
    rw [brk] at h
    split at h
    · simp at h; subst h; simp
    · cases h
  | c :: r, k, w, x, h => by
    rw [brk] at h
    rw [List.length_cons]
    split at h
    · have := brk_top r (k + 1) w x h
      omega
    · rcases List.mem_cons.1 h with h | h
      · omega
      · have := brk_top r (k + 1) (!w) x h
        omega

theorem brk_len : ∀ (l : List Nat) (k : Nat) (w : Bool), (brk l k w).length ≤ l.length + 1
  | [], k, w => by rw [brk]; split <;> simp
  | c :: r, k, w => by
    rw [brk, List.length_cons]
    split
    · have := brk_len r (k + 1) w; omega
    · have := brk_len r (k + 1) (!w); rw [List.length_cons]; omega
end Go.Proofs.YtgbhhnfnfldbmaaDoor
