/-
  What is proved: the mathematics of packed numbers.
  Conditions: as each theorem says.
-/
import Derived.Test.YtkmjlpmjhffgbaaDoorSpreadWalk
namespace Go.Proofs.YtkmjlpmjhffgbaaDoor
open Go.RowKit

/-- One number more, behind pieces. -/
def stepP (p : List Pc) (x : Int) : List Pc :=
  match p.getLast? with
  | some q => if q.2 = x then p.dropLast ++ [(q.1 + 1, x)] else p ++ [(1, x)]
  | none => [(1, x)]

/-- The pieces of numbers. -/
def rn (l : List Int) : List Pc := l.foldl stepP []

theorem step_new {p : List Pc} {x : Int} (h : ∀ q, p.getLast? = some q → q.2 ≠ x) : stepP p x = p ++ [(1, x)] := by
  unfold stepP
  cases e : p.getLast? with
  | none => rw [List.getLast?_eq_none_iff] at e; subst e; rfl
  | some q => simp only; rw [if_neg (h q e)]

theorem step_more (p : List Pc) (m x : Int) : stepP (p ++ [(m, x)]) x = p ++ [(m + 1, x)] := by
  unfold stepP
  rw [List.getLast?_append]
  simp

theorem fold_more (p : List Pc) (x : Int) (j : Nat) (m : Int) : (List.replicate j x).foldl stepP (p ++ [(m, x)]) = p ++ [(m + j, x)] := by
  induction j generalizing m with
  | zero => simp
  | succ j ih =>
    rw [List.replicate_succ, List.foldl_cons, step_more, ih]
    congr 3
    omega

theorem rn_spread : ∀ (n : Nat) (p : List Pc), p.length = n → Canon p → rn (spread p) = p
  | 0, p, hn, _ => by rw [List.length_eq_zero_iff.1 hn]; rfl
  | n + 1, p, hn, h => by
    rcases List.eq_nil_or_concat p with rfl | ⟨r, q, rfl⟩
    · cases hn
    · rw [List.concat_eq_append] at h hn ⊢
      obtain ⟨m, x⟩ := q
      obtain ⟨h1, h2⟩ := canon_init h
      have hm := h.1 (m, x) (by simp)
      simp only at hm h2
      have ih := rn_spread n r (by simpa using hn) h1
      rw [spread_snoc, rn, List.foldl_append]
      rw [show List.foldl stepP [] (spread r) = r from ih]
      obtain ⟨j, hj⟩ : ∃ j : Nat, m.toNat = j + 1 := ⟨m.toNat - 1, by omega⟩
      rw [hj, List.replicate_succ, List.foldl_cons, step_new h2, fold_more]
      congr 3
      omega

theorem rn_unique {p : List Pc} {l : List Int} (h : Canon p) (e : spread p = l) : p = rn l := by rw [← e, rn_spread _ p rfl h]

/-- The bytes of pieces. -/
def enc (p : List Pc) : List UInt8 := p.flatMap fun q => put q.1.toNat ++ put (zig q.2)

theorem enc_snoc (p : List Pc) (q : Pc) : enc (p ++ [q]) = enc p ++ (put q.1.toNat ++ put (zig q.2)) := by simp [enc]
theorem enc_cons (p : List Pc) (q : Pc) : enc (q :: p) = (put q.1.toNat ++ put (zig q.2)) ++ enc p := by simp [enc]

theorem enc_len (p : List Pc) (h : ∀ q ∈ p, 0 ≤ q.1 ∧ q.1 ≤ 400 ∧ I64 q.2) : (enc p).length ≤ 20 * p.length := by
  induction p with
  | nil => simp [enc]
  | cons q r ih =>
    rw [enc_cons, List.length_append, List.length_append, List.length_cons]
    have h1 := h q (List.mem_cons_self ..)
    have h2 := ih (fun x hx => h x (List.mem_cons_of_mem _ hx))
    have h3 := put_len10 (n := q.1.toNat) (by omega)
    have h4 := put_len10 (zig_lt h1.2.2.1 h1.2.2.2)
    omega

/-- Numbers, packed. -/
def pack (l : List Int) : List UInt8 := put l.length ++ enc (rn (deltas l))

/-- A piece that bytes begin with, and how many bytes it has. -/
def getP (b : List UInt8) : Option (Nat × Int × Nat) :=
  match get b with
  | some (m, i) => if 1 ≤ m ∧ m ≤ 400 then (match get (b.drop i) with | some (d, j) => some (m, zag d, i + j) | none => none) else none
  | none => none

/-- The numbers behind those that were read, in at most so many steps. -/
def unpF (n : Nat) (b : List UInt8) : Nat → List Int → Nat → Option (List Int × Nat)
  | 0, D, i => if D.length < n then none else some (D, i)
  | f + 1, D, i =>
    if D.length < n then
      match getP (b.drop i) with
      | none => none
      | some (m, d, k) => if 1 ≤ m ∧ m ≤ n - D.length ∧ D.getLast? ≠ some d then unpF n b f (D ++ List.replicate m d) (i + k) else none
    else some (D, i)

/-- The numbers behind those that were read. -/
def unp (n : Nat) (b : List UInt8) (D : List Int) (i : Nat) : Option (List Int × Nat) := unpF n b n D i

theorem unpF_same (n : Nat) (b : List UInt8) : ∀ (f g : Nat) (D : List Int) (i : Nat), n - D.length ≤ f → n - D.length ≤ g → unpF n b f D i = unpF n b g D i
  | 0, 0, D, i, _, _ => rfl
  | 0, g + 1, D, i, h, _ => by rw [unpF, unpF, if_neg (by omega), if_neg (by omega)]
  | f + 1, 0, D, i, _, h => by rw [unpF, unpF, if_neg (by omega), if_neg (by omega)]
  | f + 1, g + 1, D, i, h1, h2 => by
    rw [unpF, unpF]
    split
    · split
      · rfl
      · rename_i m d k _
        split
        · rename_i hc
          exact unpF_same n b f g _ _ (by rw [List.length_append, List.length_replicate]; omega) (by rw [List.length_append, List.length_replicate]; omega)
        · rfl
    · rfl

theorem unp_eq (n : Nat) (b : List UInt8) (D : List Int) (i : Nat) : unp n b D i =
    if D.length < n then
      match getP (b.drop i) with
      | none => none
      | some (m, d, k) => if 1 ≤ m ∧ m ≤ n - D.length ∧ D.getLast? ≠ some d then unp n b (D ++ List.replicate m d) (i + k) else none
    else some (D, i) := by
  unfold unp
  cases n with
  | zero => rw [unpF, if_neg (by omega), if_neg (by omega)]
  | succ n =>
    rw [unpF]
    split
    · split
      · rfl
      · rename_i m d k _
        split
        · rename_i hc
          exact unpF_same _ b _ _ _ _ (by rw [List.length_append, List.length_replicate]; omega) (by rw [List.length_append, List.length_replicate]; omega)
        · rfl
    · rfl

/-- Bytes, unpacked: the numbers, and how many bytes they have. -/
def unpack (b : List UInt8) : Option (List Int × Nat) :=
  match get b with
  | some (n, i) => if n ≤ 400 then (match unp n b [] i with | some (D, j) => some (sums D, j) | none => none) else none
  | none => none

theorem getP_enc (q : Pc) (r : List UInt8) (h1 : 1 ≤ q.1) (h2 : q.1 ≤ 400) (h3 : I64 q.2) : getP ((put q.1.toNat ++ put (zig q.2)) ++ r) = some (q.1.toNat, q.2, (put q.1.toNat).length + (put (zig q.2)).length) := by
  unfold getP
  rw [List.append_assoc, get_put _ (by omega)]
  simp only
  rw [if_pos (by omega)]
  rw [List.drop_append_of_le_length (Nat.le_refl _), List.drop_length, List.nil_append, get_put _ (zig_lt h3.1 h3.2)]
  simp only
  rw [zag_zig]

theorem spread_append (p q : List Pc) : spread (p ++ q) = spread p ++ spread q := by simp [spread]
theorem enc_append (p q : List Pc) : enc (p ++ q) = enc p ++ enc q := by simp [enc]

theorem spread_last (p : List Pc) (m x : Int) (hm : 1 ≤ m) : (spread (p ++ [(m, x)])).getLast? = some x := by
  obtain ⟨j, hj⟩ : ∃ j : Nat, m.toNat = j + 1 := ⟨m.toNat - 1, by omega⟩
  rw [spread_snoc, hj, List.replicate_succ', ← List.append_assoc, List.getLast?_append]
  simp

/-- The last number of pieces is that of the last piece. -/
theorem spread_getLast {p : List Pc} (h : Canon p) (x : Int) : (spread p).getLast? = some x ↔ ∃ q, p.getLast? = some q ∧ q.2 = x := by
  rcases List.eq_nil_or_concat p with rfl | ⟨r, q, rfl⟩
  · simp [spread]
  · rw [List.concat_eq_append] at h ⊢
    obtain ⟨m, y⟩ := q
    rw [spread_last r m y (h.1 (m, y) (by simp)), List.getLast?_append]
    simp

/-- What is packed is read piece by piece. -/
theorem unp_enc (n : Nat) (b0 r : List UInt8) (q : List Pc) : ∀ (p : List Pc), Canon (p ++ q) → (∀ x ∈ p ++ q, x.1 ≤ 400 ∧ I64 x.2) → (spread (p ++ q)).length = n →
    unp n (b0 ++ enc (p ++ q) ++ r) (spread p) (b0.length + (enc p).length) = some (spread (p ++ q), b0.length + (enc (p ++ q)).length) := by
  induction q with
  | nil =>
    intro p hc hr hn
    rw [List.append_nil] at *
    rw [unp_eq, if_neg (by omega)]
  | cons x q ih =>
    intro p hc hr hn
    have e : p ++ x :: q = (p ++ [x]) ++ q := by simp
    have hx1 := hc.1 x (by simp)
    have hx2 := hr x (by simp)
    have hsl : (spread p).length + x.1.toNat ≤ n := by
      rw [← hn, spread_append, List.length_append]
      have : spread (x :: q) = List.replicate x.1.toNat x.2 ++ spread q := by simp [spread]
      rw [this, List.length_append, List.length_replicate]
      omega
    have hdrop : (b0 ++ enc (p ++ x :: q) ++ r).drop (b0.length + (enc p).length) = (put x.1.toNat ++ put (zig x.2)) ++ (enc q ++ r) := by
      rw [enc_append, enc_cons, ← List.length_append, show b0 ++ (enc p ++ (put x.1.toNat ++ put (zig x.2) ++ enc q)) ++ r = (b0 ++ enc p) ++ ((put x.1.toNat ++ put (zig x.2)) ++ (enc q ++ r)) from by simp [List.append_assoc]]
      rw [List.drop_append_of_le_length (Nat.le_refl _), List.drop_length, List.nil_append]
    have hcp : Canon p ∧ ∀ y, p.getLast? = some y → y.2 ≠ x.2 := by
      have h1 : Canon (p ++ [x]) := by
        refine ⟨fun y hy => hc.1 y (by rw [e]; exact List.mem_append_left _ hy), fun i hi => ?_⟩
        have := hc.2 i (by rw [e, List.length_append]; omega)
        simp only [e] at this
        rw [List.getElem_append_left (by omega), List.getElem_append_left hi] at this
        exact this
      exact canon_init h1
    rw [unp_eq, if_pos (by omega), hdrop, getP_enc x _ hx1 hx2.1 hx2.2]
    simp only
    rw [if_pos ⟨by omega, by omega, fun hl => by
      obtain ⟨y, h1, h2⟩ := (spread_getLast hcp.1 x.2).1 hl
      exact hcp.2 y h1 h2⟩]
    have hsx : spread p ++ List.replicate x.1.toNat x.2 = spread (p ++ [x]) := (spread_snoc p x.1 x.2).symm
    have hle : b0.length + (enc p).length + ((put x.1.toNat).length + (put (zig x.2)).length) = b0.length + (enc (p ++ [x])).length := by
      rw [enc_snoc, List.length_append, List.length_append]
      omega
    rw [hsx, hle, e]
    exact ih (p ++ [x]) (by rw [← e]; exact hc) (by rw [← e]; exact hr) (by rw [← e]; exact hn)

/-- The pieces of the numbers: they are pieces, and these numbers. -/
theorem rn_ok (l : List Int) : ∃ p, Canon p ∧ spread p = l ∧ (∀ q ∈ p, q.1 ≤ l.length) := by
  have : ∀ k, k ≤ l.length → ∃ p, Run l k p := by
    intro k hk
    induction k with
    | zero => exact ⟨[], Run.start l⟩
    | succ k ih =>
      obtain ⟨p, hp⟩ := ih (by omega)
      by_cases hn : k = 0 ∨ ∃ (h1 : k - 1 < l.length), l[k] ≠ l[k - 1]
      · exact ⟨_, hp.new (by omega) hn⟩
      · have hk0 : k ≠ 0 := fun e => hn (Or.inl e)
        rcases List.eq_nil_or_concat p with e | ⟨r, q, e⟩
        · exact absurd e (hp.some (by omega))
        · rw [List.concat_eq_append] at e
          subst e
          obtain ⟨m, x⟩ := q
          obtain ⟨_, _, hx⟩ := hp.last (m, x) (by rw [List.getLast?_append]; simp)
          refine ⟨_, hp.more (by omega) ?_⟩
          simp only at hx
          rw [hx]
          exact Classical.byContradiction fun e => hn (Or.inr ⟨by omega, e⟩)
  obtain ⟨p, hp⟩ := this l.length (Nat.le_refl _)
  exact ⟨p, hp.canon, by rw [hp.all, List.take_of_length_le (Nat.le_refl _)], hp.many⟩

theorem spread_mem {p : List Pc} (h : Canon p) (q : Pc) (hq : q ∈ p) : q.2 ∈ spread p := by
  unfold spread
  rw [List.mem_flatMap]
  refine ⟨q, hq, ?_⟩
  rw [List.mem_replicate]
  have := h.1 q hq
  exact ⟨by omega, rfl⟩

/-- What is packed is unpacked, whatever stands behind it. -/
theorem unpack_pack (l : List Int) (r : List UInt8) (hl : l.length ≤ 400) (hr : ∀ x ∈ l, I64 x) : unpack (pack l ++ r) = some (l, (pack l).length) := by
  obtain ⟨p, h1, h2, h3⟩ := rn_ok (deltas l)
  have e := rn_unique h1 h2
  have hn : (spread p).length = l.length := by rw [h2, deltas_len]
  have hp : ∀ x ∈ p, x.1 ≤ 400 ∧ I64 x.2 := fun x hx => ⟨by have := h3 x hx; rw [deltas_len] at this; omega, deltas_range l _ (h2 ▸ spread_mem h1 x hx)⟩
  unfold unpack pack
  rw [← e, List.append_assoc, get_put _ (by omega)]
  simp only
  rw [if_pos hl]
  have U := unp_enc l.length (put l.length) r p [] h1 hp hn
  rw [List.nil_append] at U
  have e0 : spread [] = [] := rfl
  have e1 : enc [] = [] := rfl
  rw [e0, e1, List.length_nil, Nat.add_zero, List.append_assoc] at U
  rw [U]
  simp only
  rw [h2, sums_deltas l hr, List.length_append]

theorem getP_some {b : List UInt8} {m k : Nat} {d : Int} (h : getP b = some (m, d, k)) : put m ++ put (zig d) = b.take k ∧ 1 ≤ m ∧ m ≤ 400 ∧ I64 d ∧ k ≤ b.length := by
  unfold getP at h
  split at h
  · rename_i m' i hg
    split at h
    · rename_i hm
      split at h
      · rename_i d' j hg2
        injection h with h
        injection h with h1 h
        injection h with h2 h3
        subst h1 h2 h3
        obtain ⟨a1, _, _, a4, _⟩ := get_some hg
        obtain ⟨b1, b2, _, b4, _⟩ := get_some hg2
        rw [List.length_drop] at b4
        refine ⟨?_, hm.1, hm.2, zag_range b2, by omega⟩
        rw [zig_zag, a1, b1, ← List.take_add]
      · cases h
    · cases h
  · cases h

/-- What is read is written so. -/
theorem unp_back (n : Nat) (b b0 : List UInt8) : ∀ (f : Nat) (p : List Pc) (i : Nat) (D : List Int) (j : Nat), n - (spread p).length ≤ f → Canon p → (∀ x ∈ p, I64 x.2) → (spread p).length ≤ n → i ≤ b.length → b.take i = b0 ++ enc p → unp n b (spread p) i = some (D, j) →
    ∃ q, D = spread q ∧ Canon q ∧ (∀ x ∈ q, I64 x.2) ∧ D.length = n ∧ b.take j = b0 ++ enc q ∧ j ≤ b.length := by
  intro f
  induction f with
  | zero =>
    intro p i D j hf hc hr hn hi hb h
    rw [unp_eq, if_neg (by omega)] at h
    injection h with h
    injection h with h1 h2
    subst h1 h2
    exact ⟨p, rfl, hc, hr, by omega, hb, hi⟩
  | succ f ih =>
    intro p i D j hf hc hr hn hi hb h
    rw [unp_eq] at h
    split at h
    · split at h
      · cases h
      · rename_i m d k hg
        obtain ⟨e1, hm1, hm2, hd, hk⟩ := getP_some hg
        split at h
        · rename_i hcond
          have hsx : spread p ++ List.replicate m d = spread (p ++ [((m : Int), d)]) := by rw [spread_snoc]; simp
          rw [hsx] at h
          refine ih (p ++ [((m : Int), d)]) (i + k) D j ?_ ?_ ?_ ?_ ?_ ?_ h
          · rw [← hsx, List.length_append, List.length_replicate]; omega
          · refine canon_snoc hc (by omega) fun q hq e => hcond.2.2 ?_
            exact (spread_getLast hc d).2 ⟨q, hq, e⟩
          · intro x hx
            rcases List.mem_append.1 hx with h1 | h1
            · exact hr x h1
            · rw [List.mem_singleton.1 h1]; exact hd
          · rw [← hsx, List.length_append, List.length_replicate]; omega
          · rw [List.length_drop] at hk; omega
          · rw [List.take_add, hb, ← e1, enc_snoc]
            simp
        · cases h
    · rename_i hlt
      injection h with h
      injection h with h1 h2
      subst h1 h2
      exact ⟨p, rfl, hc, hr, by omega, hb, hi⟩

theorem pack_unpack {b : List UInt8} {l : List Int} {j : Nat} (h : unpack b = some (l, j)) : pack l = b.take j ∧ l.length ≤ 400 ∧ j ≤ b.length ∧ ∀ x ∈ l, I64 x := by
  unfold unpack at h
  split at h
  · rename_i n i hg
    split at h
    · rename_i hn
      split at h
      · rename_i D j' hu
        injection h with h
        injection h with h1 h2
        subst h1 h2
        obtain ⟨a1, _, _, a4, _⟩ := get_some hg
        obtain ⟨q, e1, e2, e3, e4, e5, e6⟩ := unp_back n b (put n) (n - 0) [] i D j' (by simp [spread]) ⟨by simp, by simp⟩ (by simp) (by simp [spread]) a4 (by rw [a1]; simp [enc]) hu
        have hD : ∀ x ∈ D, I64 x := by
          intro x hx
          rw [e1] at hx
          unfold spread at hx
          rw [List.mem_flatMap] at hx
          obtain ⟨y, hy, hx⟩ := hx
          rw [(List.mem_replicate.1 hx).2]
          exact e3 y hy
        refine ⟨?_, by rw [sums_len]; omega, e6, sums_range D⟩
        unfold pack
        rw [sums_len, e4, deltas_sums D hD, ← rn_unique e2 e1.symm, e5]
      · cases h
    · cases h
  · cases h
end Go.Proofs.YtkmjlpmjhffgbaaDoor
