/-
  What is proved: plain facts on clocks, which are lists of pairs: what is known of an actor, when two clocks are one, how long a clock is.
  Conditions: as each theorem says.
-/
import Derived.Lib.SlKeysI
namespace Go.Proofs.Ytgiggobpbddlbaa

/-- A ref: an actor, and a number. -/
abbrev Ref := Int × Int

/-- Is it one? -/
def OkRef (p : Ref) : Prop := 1 ≤ p.1 ∧ p.1 ≤ 99 ∧ 1 ≤ p.2 ∧ p.2 ≤ 1000000

/-- A clock. -/
def Valid (l : List Ref) : Prop := (∀ p ∈ l, OkRef p) ∧ l.Pairwise (fun p q => p.1 < q.1)

/-- The greatest number that is known of an actor; 0: none. -/
def mx (l : List Ref) (x : Int) : Int := l.foldl (fun m p => if p.1 = x then max m p.2 else m) 0

theorem mx_nil (x : Int) : mx [] x = 0 := rfl
theorem mx_snoc (l : List Ref) (p : Ref) (x : Int) : mx (l ++ [p]) x = if p.1 = x then max (mx l x) p.2 else mx l x := by
  unfold mx
  rw [List.foldl_append]
  rfl

theorem fold_nonneg : ∀ (l : List Ref) (x m : Int), 0 ≤ m → 0 ≤ l.foldl (fun m p => if p.1 = x then max m p.2 else m) m
  | [], _, _, h => h
  | p :: r, x, m, h => by
    rw [List.foldl_cons]
    refine fold_nonneg r x _ ?_
    split
    · omega
    · exact h

theorem mx_nonneg (l : List Ref) (x : Int) : 0 ≤ mx l x := fold_nonneg l x 0 (Int.le_refl _)

theorem fold_none : ∀ (l : List Ref) (x m : Int), (∀ p ∈ l, p.1 ≠ x) → l.foldl (fun m p => if p.1 = x then max m p.2 else m) m = m
  | [], _, _, _ => rfl
  | p :: r, x, m, h => by
    rw [List.foldl_cons, if_neg (h p (by simp)), fold_none r x m (fun q hq => h q (by simp [hq]))]

theorem mx_none (l : List Ref) (x : Int) (h : ∀ p ∈ l, p.1 ≠ x) : mx l x = 0 := fold_none l x 0 h

theorem fold_mem : ∀ (l : List Ref) (p : Ref) (m : Int), l.Pairwise (fun p q => p.1 < q.1) → p ∈ l → m ≤ p.2 → l.foldl (fun m q => if q.1 = p.1 then max m q.2 else m) m = p.2
  | [], _, _, _, h, _ => by simp at h
  | q :: r, p, m, hp, h, hm => by
    rw [List.pairwise_cons] at hp
    rw [List.foldl_cons]
    rcases List.mem_cons.1 h with e | e
    · subst e
      rw [if_pos rfl, fold_none r p.1 _ (fun q hq => by have := hp.1 q hq; omega)]
      omega
    · have := hp.1 p e
      rw [if_neg (by omega)]
      exact fold_mem r p m hp.2 e hm

theorem mx_mem {l : List Ref} (h : Valid l) {p : Ref} (hp : p ∈ l) : mx l p.1 = p.2 := fold_mem l p 0 h.2 hp (by have := (h.1 p hp).2.2.1; omega)

theorem mx_pos {l : List Ref} (h : Valid l) (x : Int) : 0 < mx l x ↔ (x, mx l x) ∈ l := by
  constructor
  · intro hx
    by_cases he : ∃ p ∈ l, p.1 = x
    · obtain ⟨p, hp, rfl⟩ := he
      rw [mx_mem h hp]
      exact hp
    · rw [mx_none l x (fun p hp e => he ⟨p, hp, e⟩)] at hx
      omega
  · intro hm
    have h1 : 1 ≤ mx l x := (h.1 _ hm).2.2.1
    omega

theorem mem_iff {l : List Ref} (h : Valid l) (p : Ref) : p ∈ l ↔ 0 < mx l p.1 ∧ mx l p.1 = p.2 := by
  constructor
  · intro hp
    have e := mx_mem h hp
    have := (h.1 p hp).2.2.1
    exact ⟨by omega, e⟩
  · rintro ⟨h1, h2⟩
    have := (mx_pos h p.1).1 h1
    rw [h2] at this
    exact this

theorem eq_of_mem : ∀ {l r : List Ref}, l.Pairwise (fun p q => p.1 < q.1) → r.Pairwise (fun p q => p.1 < q.1) → (∀ p, p ∈ l ↔ p ∈ r) → l = r
  | [], [], _, _, _ => rfl
  | [], q :: r, _, _, h => by have := (h q).2 (by simp); simp at this
  | p :: l, [], _, _, h => by have := (h p).1 (by simp); simp at this
  | p :: l, q :: r, hl, hr, h => by
    rw [List.pairwise_cons] at hl hr
    have e : p = q := by
      rcases List.mem_cons.1 ((h p).1 (by simp)) with e | e
      · exact e
      · rcases List.mem_cons.1 ((h q).2 (by simp)) with e2 | e2
        · exact e2.symm
        · have h1 := hr.1 p e
          have h2 := hl.1 q e2
          omega
    subst e
    congr 1
    refine eq_of_mem hl.2 hr.2 (fun x => ⟨fun hx => ?_, fun hx => ?_⟩)
    · rcases List.mem_cons.1 ((h x).1 (by simp [hx])) with e | e
      · subst e
        have := hl.1 x hx
        omega
      · exact e
    · rcases List.mem_cons.1 ((h x).2 (by simp [hx])) with e | e
      · subst e
        have := hr.1 x hx
        omega
      · exact e

/-- Two clocks of which the same is known are one. -/
theorem clock_ext {l r : List Ref} (hl : Valid l) (hr : Valid r) (h : ∀ x, mx l x = mx r x) : l = r :=
  eq_of_mem hl.2 hr.2 (fun p => by rw [mem_iff hl, mem_iff hr, h])

theorem len_le : ∀ (l : List Ref) (lo hi : Int), l.Pairwise (fun p q => p.1 < q.1) → (∀ p ∈ l, lo ≤ p.1 ∧ p.1 ≤ hi) → lo ≤ hi + 1 → (l.length : Int) ≤ hi - lo + 1
  | [], lo, hi, _, _, h => by simp; omega
  | p :: r, lo, hi, hp, hb, _ => by
    rw [List.pairwise_cons] at hp
    have h0 := hb p (by simp)
    have := len_le r (p.1 + 1) hi hp.2 (fun q hq => by have h1 := hp.1 q hq; have h2 := hb q (by simp [hq]); omega) (by omega)
    simp
    omega

theorem valid_len {l : List Ref} (h : Valid l) : l.length ≤ 99 := by
  have := len_le l 1 99 h.2 (fun p hp => ⟨(h.1 p hp).1, (h.1 p hp).2.1⟩) (by omega)
  omega

/-- A clock made of its actors, rising, and what is known of each. -/
theorem valid_of_keys {ks : List Int} {f : Int → Int} (hs : ks.Pairwise (· < ·)) (hk : ∀ x, x ∈ ks ↔ 0 < f x) (h0 : ∀ x, 0 ≤ f x) (hb : ∀ x, 0 < f x → OkRef (x, f x)) :
    Valid (ks.map fun x => (x, f x)) ∧ ∀ x, mx (ks.map fun x => (x, f x)) x = f x := by
  have hv : Valid (ks.map fun x => (x, f x)) := by
    refine ⟨?_, ?_⟩
    · intro p hp
      obtain ⟨x, hx, rfl⟩ := List.mem_map.1 hp
      exact hb x ((hk x).1 hx)
    · rw [List.pairwise_map]
      exact hs
  refine ⟨hv, fun x => ?_⟩
  by_cases hx : 0 < f x
  · exact mx_mem hv (p := (x, f x)) (List.mem_map.2 ⟨x, (hk x).2 hx, rfl⟩)
  · rw [mx_none _ x (fun p hp e => by
      obtain ⟨y, hy, rfl⟩ := List.mem_map.1 hp
      have e' : y = x := e
      subst e'
      exact hx ((hk y).1 hy))]
    have := h0 x
    omega

/-- Does one know all that the other one does? -/
theorem covers_iff {a b : List Ref} (hb : Valid b) : (∀ p ∈ b, p.2 ≤ mx a p.1) ↔ ∀ x, mx b x ≤ mx a x := by
  constructor
  · intro h x
    by_cases hx : 0 < mx b x
    · exact h _ ((mx_pos hb x).1 hx)
    · have := mx_nonneg a x
      omega
  · intro h p hp
    have := h p.1
    rw [mx_mem hb hp] at this
    exact this

theorem mx_ok {l : List Ref} (h : Valid l) {x : Int} (hx : 0 < mx l x) : OkRef (x, mx l x) := h.1 _ ((mx_pos h x).1 hx)
end Go.Proofs.Ytgiggobpbddlbaa
