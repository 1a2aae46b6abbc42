/-
  What is proved: the reference's disk (bookref3's K) that lies in memory; what its named, file and without answer.
  Conditions: as each theorem says.
-/
import Derived.Test.YtcdpcjafomfddaaDoorKCrash
namespace Go.Proofs.YtcdpcjafomfddaaDoor
open Go.RowKit Go.Maps Go.Sort Go.Shelf

/-- Names with numbers, cell by cell. -/
def ncells (l : List (Tx × Nat)) : List Value := l.flatMap fun q => [encStr q.1, .int .i64 q.2]
theorem ncells_len (l : List (Tx × Nat)) : (ncells l).length = l.length * 2 := by
  induction l with
  | nil => rfl
  | cons q r ih =>
    unfold ncells at ih ⊢
    rw [List.flatMap_cons, List.length_append, ih]
    simp
    omega
theorem ncells_append (p q : List (Tx × Nat)) : ncells (p ++ q) = ncells p ++ ncells q := by simp [ncells]
theorem ncells_at (l : List (Tx × Nat)) (i : Nat) (h : i < l.length) : (ncells l)[i * 2]? = some (encStr l[i].1) ∧ (ncells l)[i * 2 + 1]? = some (.int .i64 l[i].2) := by
  induction l generalizing i with
  | nil => simp at h
  | cons q r ih =>
    have e : ncells (q :: r) = encStr q.1 :: .int .i64 q.2 :: ncells r := by simp [ncells]
    rw [e]
    cases i with
    | zero => simp
    | succ i =>
      have := ih i (by simpa using h)
      rw [show (i + 1) * 2 = i * 2 + 1 + 1 from by omega]
      simpa using this

/-- A row of names of one's own. -/
abbrev RowN (v : Value) (l : List (Tx × Nat)) (w : World) : Prop := w.ownsRow 0 64 2 v l.length (ncells l)

/-- A file's cells: its bytes, how many are safe. -/
abbrev FV : Type := Value × Tx × Nat
def fcells (l : List FV) : List Value := l.flatMap fun q => [q.1, .int .i64 q.2.2]
theorem fcells_len (l : List FV) : (fcells l).length = l.length * 2 := by
  induction l with
  | nil => rfl
  | cons q r ih =>
    unfold fcells at ih ⊢
    rw [List.flatMap_cons, List.length_append, ih]
    simp
    omega
theorem fcells_append (p q : List FV) : fcells (p ++ q) = fcells p ++ fcells q := by simp [fcells]
theorem fcells_at (l : List FV) (i : Nat) (h : i < l.length) : (fcells l)[i * 2]? = some l[i].1 ∧ (fcells l)[i * 2 + 1]? = some (.int .i64 l[i].2.2) := by
  induction l generalizing i with
  | nil => simp at h
  | cons q r ih =>
    have e : fcells (q :: r) = q.1 :: .int .i64 q.2.2 :: fcells r := by simp [fcells]
    rw [e]
    cases i with
    | zero => simp
    | succ i =>
      have := ih i (by simpa using h)
      rw [show (i + 1) * 2 = i * 2 + 1 + 1 from by omega]
      simpa using this
abbrev RowFs (v : Value) (l : List FV) (w : World) : Prop := w.ownsRow 0 74 2 v l.length (fcells l)

theorem rowN_form {v : Value} {l : List (Tx × Nat)} {w : World} (h : RowN v l w) : ∃ a c, v = .slice a l.length c := by
  rcases h.2 with ⟨rfl, h0⟩ | ⟨g, cap, cur, rfl, _⟩
  · exact ⟨none, 0, by rw [h0]⟩
  · exact ⟨_, _, rfl⟩
theorem rowF_form {v : Value} {l : List FV} {w : World} (h : RowFs v l w) : ∃ a c, v = .slice a l.length c := by
  rcases h.2 with ⟨rfl, h0⟩ | ⟨g, cap, cur, rfl, _⟩
  · exact ⟨none, 0, by rw [h0]⟩
  · exact ⟨_, _, rfl⟩
theorem rowN_at {a : Option Addr} {m c : Nat} {l : List (Tx × Nat)} {w : World} (h : RowN (.slice a m c) l w) (i : Nat) (hi : i < l.length) : ∃ b, a = some ⟨b, 0, none⟩ ∧ w.cell? ⟨b, i * 2, none⟩ = some (encStr l[i].1) ∧ w.cell? ⟨b, i * 2 + 1, none⟩ = some (.int .i64 l[i].2) := by
  rcases h.2 with ⟨e, h0⟩ | ⟨g, cap, cur, e, _⟩
  · omega
  · obtain ⟨e1, e2, e3⟩ := Value.slice.inj e
    subst e1 e2 e3
    exact ⟨g, rfl, by rw [h.cellAt (i * 2) (by omega), (ncells_at l i hi).1], by rw [h.cellAt (i * 2 + 1) (by omega), (ncells_at l i hi).2]⟩
theorem rowF_at {a : Option Addr} {m c : Nat} {l : List FV} {w : World} (h : RowFs (.slice a m c) l w) (i : Nat) (hi : i < l.length) : ∃ b, a = some ⟨b, 0, none⟩ ∧ w.cell? ⟨b, i * 2, none⟩ = some l[i].1 ∧ w.cell? ⟨b, i * 2 + 1, none⟩ = some (.int .i64 l[i].2.2) := by
  rcases h.2 with ⟨e, h0⟩ | ⟨g, cap, cur, e, _⟩
  · omega
  · obtain ⟨e1, e2, e3⟩ := Value.slice.inj e
    subst e1 e2 e3
    exact ⟨g, rfl, by rw [h.cellAt (i * 2) (by omega), (fcells_at l i hi).1], by rw [h.cellAt (i * 2 + 1) (by omega), (fcells_at l i hi).2]⟩

theorem rowN_get {a : Option Addr} {m c : Nat} {l : List (Tx × Nat)} {w : World} (h : RowN (.slice a m c) l w) {i : Nat} {t : Tx} {z : Nat} (hi : l[i]? = some (t, z)) : ∃ b, a = some ⟨b, 0, none⟩ ∧ w.cell? ⟨b, i * 2, none⟩ = some (.string ⟨t.toArray⟩) ∧ w.cell? ⟨b, i * 2 + 1, none⟩ = some (.int .i64 z) := by
  obtain ⟨h1, h2⟩ := List.getElem?_eq_some_iff.1 hi
  have := rowN_at h i h1
  rw [h2] at this
  exact this
theorem rowF_get {a : Option Addr} {m c : Nat} {l : List FV} {w : World} (h : RowFs (.slice a m c) l w) {i : Nat} {v : Value} {t : Tx} {z : Nat} (hi : l[i]? = some (v, t, z)) : ∃ b, a = some ⟨b, 0, none⟩ ∧ w.cell? ⟨b, i * 2, none⟩ = some v ∧ w.cell? ⟨b, i * 2 + 1, none⟩ = some (.int .i64 z) := by
  obtain ⟨h1, h2⟩ := List.getElem?_eq_some_iff.1 hi
  have := rowF_at h i h1
  rw [h2] at this
  exact this
theorem take_get {α : Type} {l : List α} {k : Nat} {q : α} (h : l[k]? = some q) : l.take (k + 1) = l.take k ++ [q] := by rw [List.take_add_one, h]; rfl

theorem infoN : (Tryd.prog.info? 64).map (fun i => (i.zero, i.size, i.bytes)) = some (some (.agg #[.string ⟨#[]⟩, .int .i64 0]), 2, 24) := by kernel_rfl
theorem infoF : (Tryd.prog.info? 74).map (fun i => (i.zero, i.size, i.bytes)) = some (some (.agg #[.slice none 0 0, .int .i64 0]), 2, 32) := by kernel_rfl

theorem one_two {x y : Value} (hx : x.oneCell' = true) (hy : y.oneCell' = true) : ∀ u ∈ [x, y], u.oneCell' = true := by
  intro u hu
  rcases List.mem_cons.1 hu with rfl | hu
  · exact hx
  · rw [List.mem_singleton.1 hu]; exact hy
/-- One name more, behind a row of one's own. -/
theorem run_appN (ty : TypeId) (W : World) (v : Value) (s : Tx) (i : Nat) (rs : List (Tx × Nat)) (h : RowN v rs W) (hl : rs.length ≤ 1000000) (x : Nat) (hx : W.heap[x]? = some (.cells #[encStr s, .int .i64 i] 64)) :
    ∃ v' W', (Builtin.append_ #[28, 28] ty #[v, .slice (some ⟨x, 0, none⟩) 1 1]).run Tryd.prog W = .ok v' W' ∧ RowN v' (rs ++ [(s, i)]) W' ∧ W.grownBy W' v.ownBlock ∧ (v'.ownBlock = v.ownBlock ∨ v'.ownBlock = some W.heap.size) := by
  obtain ⟨i0, hi0, hz0, hz1, hz2⟩ := info_parts infoN
  obtain ⟨v', W', q1, q2, q3, _, q5⟩ := run_append_own_at (P := Tryd.prog) W 0 28 ty 64 i0 _ 2 _ Tryd.underlying28 hi0 hz0 hz1 hz2 rfl (by decide) v rs.length _ h ⟨x, 0, none⟩ 1 1 [encStr s, .int .i64 i] rfl (fun j y hj => by
    match j, hj with
    | 0, hj => simp at hj; subst hj; exact Lib.cell_of_heap hx 0
    | 1, hj => simp at hj; subst hj; exact Lib.cell_of_heap hx 1
    | j + 2, hj => simp at hj) (by simp [Value.oneCell']) (by unfold maxLen; omega) (by omega) (Nat.zero_le _)
  refine ⟨v', W', q1, ?_, q3, q5⟩
  show World.ownsRow _ _ _ _ _ _ _
  rw [ncells_append, List.length_append]
  exact q2
/-- One file more. -/
theorem run_appF (ty : TypeId) (W : World) (v : Value) (q : FV) (hq : q.1.oneCell' = true) (rs : List FV) (h : RowFs v rs W) (hl : rs.length ≤ 1000000) (x : Nat) (hx : W.heap[x]? = some (.cells #[q.1, .int .i64 q.2.2] 74)) :
    ∃ v' W', (Builtin.append_ #[27, 27] ty #[v, .slice (some ⟨x, 0, none⟩) 1 1]).run Tryd.prog W = .ok v' W' ∧ RowFs v' (rs ++ [q]) W' ∧ W.grownBy W' v.ownBlock ∧ (v'.ownBlock = v.ownBlock ∨ v'.ownBlock = some W.heap.size) := by
  obtain ⟨i0, hi0, hz0, hz1, hz2⟩ := info_parts infoF
  obtain ⟨v', W', q1, q2, q3, _, q5⟩ := run_append_own_at (P := Tryd.prog) W 0 27 ty 74 i0 _ 2 _ Tryd.underlying27 hi0 hz0 hz1 hz2 rfl (by decide) v rs.length _ h ⟨x, 0, none⟩ 1 1 [q.1, .int .i64 q.2.2] rfl (fun j y hj => by
    match j, hj with
    | 0, hj => simp at hj; subst hj; exact Lib.cell_of_heap hx 0
    | 1, hj => simp at hj; subst hj; exact Lib.cell_of_heap hx 1
    | j + 2, hj => simp at hj) (one_two hq rfl) (by unfold maxLen; omega) (by omega) (Nat.zero_le _)
  refine ⟨v', W', q1, ?_, q3, q5⟩
  show World.ownsRow _ _ _ _ _ _ _
  rw [fcells_append, List.length_append]
  exact q2

/-- The reference's disk that lies in memory: its box, its files, its names, those that are safe. -/
structure Rk (T : Nat → Prop) (w : World) (p : Nat) (fs : List FV) (N Y : List (Tx × Nat)) (n st : Int) : Prop where
  box : ∃ vf vn vy, w.heap[p]? = some (.cells #[vf, vn, vy, .int .i64 n, .int .i64 st] 30) ∧ RowFs vf fs w ∧ RowN vn N w ∧ RowN vy Y w ∧ (∀ b, vf.ownBlock = some b → T b) ∧ (∀ b, vn.ownBlock = some b → T b) ∧ (∀ b, vy.ownBlock = some b → T b)
  fi : ∀ q ∈ fs, Row 0 q.1 q.2.1 w ∧ q.2.1.length ≤ 60000 ∧ q.2.2 ≤ q.2.1.length ∧ (∀ b, q.1.ownBlock = some b → T b)
  nN : ∀ q ∈ N, q.2 < fs.length
  nY : ∀ q ∈ Y, q.2 < fs.length
  tp : T p

theorem own_lt {e s m b : Nat} {w : World} {v : Value} {xs : List Value} (h : w.ownsRow 0 e s v m xs) (hb : v.ownBlock = some b) : b < w.heap.size := by
  obtain ⟨_, e2⟩ := own_block h hb
  exact lt_of_heap e2
theorem Rk.keep {T : Nat → Prop} {w w' : World} {p : Nat} {fs : List FV} {N Y : List (Tx × Nat)} {n st : Int} (h : Rk T w p fs N Y n st) (hk : ∀ k, T k → k < w.heap.size → w'.heap[k]? = w.heap[k]?) : Rk T w' p fs N Y n st := by
  obtain ⟨vf, vn, vy, h1, h2, h3, h4, h5, h6, h7⟩ := h.box
  exact ⟨⟨vf, vn, vy, (hk p h.tp (lt_of_heap h1)).trans h1, own_at h2 (fun b e => hk b (h5 b e) (own_lt h2 e)), own_at h3 (fun b e => hk b (h6 b e) (own_lt h3 e)), own_at h4 (fun b e => hk b (h7 b e) (own_lt h4 e)), h5, h6, h7⟩, fun q hq => have z := h.fi q hq; ⟨own_at z.1 (fun b e => hk b (z.2.2.2 b e) (own_lt z.1 e)), z.2⟩, h.nN, h.nY, h.tp⟩
theorem Rk.below {T : Nat → Prop} {w w' : World} {p : Nat} {fs : List FV} {N Y : List (Tx × Nat)} {n st : Int} (h : Rk T w p fs N Y n st) (hb : Below w.heap.size w w') : Rk T w' p fs N Y n st := h.keep (fun k _ hl => hb.block k hl)
theorem Rk.mono {T U : Nat → Prop} {w : World} {p : Nat} {fs : List FV} {N Y : List (Tx × Nat)} {n st : Int} (h : Rk T w p fs N Y n st) (hU : ∀ k, T k → k < w.heap.size → U k) : Rk U w p fs N Y n st := by
  obtain ⟨vf, vn, vy, h1, h2, h3, h4, h5, h6, h7⟩ := h.box
  exact ⟨⟨vf, vn, vy, h1, h2, h3, h4, fun b e => hU b (h5 b e) (own_lt h2 e), fun b e => hU b (h6 b e) (own_lt h3 e), fun b e => hU b (h7 b e) (own_lt h4 e)⟩, fun q hq => have z := h.fi q hq; ⟨z.1, z.2.1, z.2.2.1, fun b e => hU b (z.2.2.2 b e) (own_lt z.1 e)⟩, h.nN, h.nY, hU _ h.tp (lt_of_heap h1)⟩
end Go.Proofs.YtcdpcjafomfddaaDoor
