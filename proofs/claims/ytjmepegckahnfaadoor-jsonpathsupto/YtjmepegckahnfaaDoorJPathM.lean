/-
  What is proved: rows of steps, and rows of such rows, that grow by append; the paths of all trees with a value in a tree.
  Conditions: as each theorem says.
-/
import Derived.Test.YtjmepegckahnfaaDoorJCopy
namespace Go.Proofs.YtjmepegckahnfaaDoor
open Go.RowKit

theorem infoSt : (Tryd.prog.info? 41).map (fun i => (i.zero, i.size, i.bytes)) = some (some (.agg #[.string ⟨#[]⟩, .int .i64 0]), 2, 24) := by kernel_rfl
theorem infoSs : (Tryd.prog.info? 39).map (fun i => (i.zero, i.size, i.bytes)) = some (some (.slice none 0 0), 1, 24) := by kernel_rfl

/-- The step to a kid. -/
def stepOf (x : V) (ks : List ByteArray) (i : Nat) : Stp := if x.k = 5 then (ks[i]?.getD ⟨#[]⟩, 0) else (⟨#[]⟩, (i : Int))
/-- The paths of all trees with a value, in the trees of a row from a number on: those of kids of a tree with a value and keys. -/
def pathsF (y : V) : JF → V → List ByteArray → Nat → List Stp → List (List Stp)
  | .nil, _, _, _, _ => []
  | .node _ _ a l r, x, ks, i, p => ((if sameB a.1 y = true then [p ++ [stepOf x ks i]] else []) ++ pathsF y l a.1 a.2 0 (p ++ [stepOf x ks i])) ++ pathsF y r x ks (i + 1) p
/-- The paths of all trees with a value. -/
def pathsT (y : V) (T : JT) (p : List Stp) : List (List Stp) := (if sameB T.x y = true then [p] else []) ++ pathsF y T.kids T.x T.ks 0 p
/-- Those in kids from one on. -/
def pathsL (y x : V) (ks : List ByteArray) : List JT → Nat → List Stp → List (List Stp)
  | [], _, _ => []
  | t :: r, i, p => pathsT y t (p ++ [stepOf x ks i]) ++ pathsL y x ks r (i + 1) p
theorem pathsL_cons (y x : V) (ks : List ByteArray) (t : JT) (r : List JT) (i : Nat) (p : List Stp) : pathsL y x ks (t :: r) i p = pathsT y t (p ++ [stepOf x ks i]) ++ pathsL y x ks r (i + 1) p := by rw [pathsL]
theorem pathsL_nil (y x : V) (ks : List ByteArray) (i : Nat) (p : List Stp) : pathsL y x ks [] i p = [] := by rw [pathsL]
theorem pathsL_toL (y x : V) (ks : List ByteArray) (f : JF) (i : Nat) (p : List Stp) : pathsL y x ks (toL f) i p = pathsF y f x ks i p := by
  induction f generalizing i with
  | nil => rw [toL, pathsL_nil, pathsF]
  | node b o a l r _ ihr => rw [toL, pathsL_cons, ihr, pathsF]; rfl
theorem pathsT_eq (y : V) (T : JT) (p : List Stp) : pathsT y T p = (if sameB T.x y = true then [p] else []) ++ pathsL y T.x T.ks T.ts 0 p := by rw [pathsT, JT.ts, pathsL_toL]
theorem pathsT_node (y x : V) (ks : List ByteArray) (ts : List JT) (p : List Stp) : pathsT y (.node x ks ts) p = (if sameB x y = true then [p] else []) ++ pathsL y x ks ts 0 p := by rw [pathsT_eq, node_ts]; rfl
theorem pathsF_len (y : V) (f : JF) : ∀ (x : V) (ks : List ByteArray) (i : Nat) (p : List Stp), (pathsF y f x ks i p).length ≤ szF f := by
  induction f with
  | nil => intro x ks i p; rw [pathsF]; simp
  | node b o a l r ihl ihr =>
    intro x ks i p
    have h1 := ihl a.1 a.2 0 (p ++ [stepOf x ks i])
    have h2 := ihr x ks (i + 1) p
    have h3 : (if sameB a.1 y = true then [p ++ [stepOf x ks i]] else []).length ≤ 1 := by split <;> simp
    rw [pathsF, List.length_append, List.length_append, szF]
    omega
theorem pathsT_len (y : V) (T : JT) (p : List Stp) : (pathsT y T p).length ≤ T.size := by
  have h1 := pathsF_len y T.kids T.x T.ks 0 p
  have h2 : (if sameB T.x y = true then [p] else []).length ≤ 1 := by split <;> simp
  rw [pathsT, List.length_append, JT.size]
  omega
theorem pathsL_len (y x : V) (ks : List ByteArray) (l : List JT) (i : Nat) (p : List Stp) : (pathsL y x ks l i p).length ≤ sizes l := by
  induction l generalizing i with
  | nil => rw [pathsL_nil]; simp
  | cons t r ih =>
    have h1 := pathsT_len y t (p ++ [stepOf x ks i])
    have h2 := ih (i + 1)
    rw [pathsL_cons, List.length_append, sizes]
    omega

/-- The cells of steps. -/
def stc (l : List Stp) : List Value := l.flatMap fun s => [.string s.1, .int .i64 s.2]
theorem stc_len (l : List Stp) : (stc l).length = l.length * 2 := by
  induction l with
  | nil => rfl
  | cons s r ih =>
    have e : stc (s :: r) = [.string s.1, .int .i64 s.2] ++ stc r := rfl
    rw [e, List.length_append, ih, List.length_cons]
    simp; omega
theorem stc_app (l r : List Stp) : stc (l ++ r) = stc l ++ stc r := by unfold stc; rw [List.flatMap_append]
theorem stc_one (l : List Stp) : ∀ u ∈ stc l, u.oneCell' = true := by
  intro u hu
  obtain ⟨s, _, hu⟩ := List.mem_flatMap.1 hu
  simp at hu
  rcases hu with rfl | rfl <;> rfl

/-- A row of steps. -/
abbrev RS (B : Nat) (w : World) (v : Value) (l : List Stp) : Prop := w.ownsRow B 41 2 v l.length (stc l)
theorem RS.mono {B B' : Nat} {w : World} {v : Value} {l : List Stp} (h : RS B w v l) (hB : B' ≤ B) : RS B' w v l := by
  refine ⟨h.1, ?_⟩
  rcases h.2 with h0 | ⟨g, cap, cur, h1, h2, h3⟩
  · exact Or.inl h0
  · exact Or.inr ⟨g, cap, cur, h1, Nat.le_trans hB h2, h3⟩
theorem RS.form {B : Nat} {w : World} {v : Value} {l : List Stp} (h : RS B w v l) : ∃ a cap, v = .slice a l.length cap ∧ (a = none → cap = 0) := by
  rcases h.2 with ⟨rfl, h0⟩ | ⟨g, cap, cur, h1, _⟩
  · exact ⟨none, 0, by rw [h0], fun _ => rfl⟩
  · exact ⟨_, cap, h1, fun e => by cases e⟩
/-- A row of rows of steps. -/
def RP (B : Nat) (w : World) (v : Value) (L : List (List Stp)) : Prop :=
  ∃ us : List Value, w.ownsRow B 39 1 v us.length us ∧ us.length = L.length ∧ ∀ i (h : i < us.length) (h' : i < L.length), RS 0 w us[i] L[i]
theorem RP.below {B : Nat} {w w' : World} {v : Value} {L : List (List Stp)} (h : RP B w v L) (hb : Below w.heap.size w w') : RP B w' v L := by
  obtain ⟨us, h1, h2, h3⟩ := h
  exact ⟨us, own_below h1 hb (Nat.le_refl _), h2, fun i hi hi' => own_below (h3 i hi hi') hb (Nat.le_refl _)⟩
theorem RP.form {B : Nat} {w : World} {v : Value} {L : List (List Stp)} (h : RP B w v L) : ∃ a cap, v = .slice a L.length cap ∧ (a = none → cap = 0) := by
  obtain ⟨us, h1, h2, h3⟩ := h
  rcases h1.2 with ⟨rfl, h0⟩ | ⟨g, cap, cur, e, _⟩
  · exact ⟨none, 0, by rw [← h2, h0], fun _ => rfl⟩
  · exact ⟨_, cap, by rw [e, h2], fun e => by cases e⟩
theorem RP.nil (B : Nat) (w : World) : RP B w (.slice none 0 0) [] := ⟨[], World.ownsRow_nil w B 39 1, rfl, fun _ hi => absurd hi (Nat.not_lt_zero _)⟩
theorem RS.nil (B : Nat) (w : World) : RS B w (.slice none 0 0) [] := World.ownsRow_nil w B 41 2

/-- What grows turns no row of another type. -/
theorem own_grown {B e s n : Nat} {w w' : World} {v o : Value} {xs : List Value} {B' e' s' n' : Nat} {xs' : List Value} (h : w.ownsRow B e s v n xs) (hg : w.grownBy w' o.ownBlock) (ho : w.ownsRow B' e' s' o n' xs') (hne : e' ≠ e) : w'.ownsRow B e s v n xs := by
  refine ⟨h.1, ?_⟩
  rcases h.2 with h0 | ⟨g, cap, cur, h1, h2, h3, h4⟩
  · exact Or.inl h0
  · refine Or.inr ⟨g, cap, cur, h1, h2, ?_, h4⟩
    rw [hg.block g (lt_of_heap h3) (fun eo => ?_)]
    · exact h3
    · rcases ho.2 with ⟨rfl, _⟩ | ⟨g', cap', cur', rfl, _, hh, _⟩
      · simp [Value.ownBlock] at eo
      · simp [Value.ownBlock] at eo
        subst eo
        rw [h3] at hh
        have h5 := Option.some.inj hh
        injection h5 with _ h6
        exact hne h6.symm
theorem grown_below {B e s n : Nat} {w w' : World} {o : Value} {xs : List Value} (hg : w.grownBy w' o.ownBlock) (ho : w.ownsRow B e s o n xs) (hB : B ≤ w.heap.size) : Below B w w' := by
  refine ⟨hg.os, hg.tape, hg.output, hg.size, fun k hk => hg.block k (by omega) (fun eo => ?_)⟩
  rcases ho.2 with ⟨rfl, _⟩ | ⟨g', cap', cur', rfl, hb, _⟩
  · simp [Value.ownBlock] at eo
  · simp [Value.ownBlock] at eo
    omega

/-- Steps put behind steps. -/
theorem app_steps (ty : TypeId) (W : World) (B : Nat) (hB : B ≤ W.heap.size) (v : Value) (l : List Stp) (hv : RS B W v l) (a : Option Addr) (c : Nat) (r : List Stp) (ha : a = none → r = [] ∧ c = 0) (hc : ∀ ad, a = some ad → ∀ j u, (stc r)[j]? = some u → W.cell? (ad.add j) = some u) (hl : l.length + r.length ≤ 1000000) :
    ∃ u W', (Builtin.append_ #[39, 39] ty #[v, .slice a r.length c]).run Tryd.prog W = .ok u W' ∧ RS B W' u (l ++ r) ∧ W.grownBy W' v.ownBlock := by
  obtain ⟨i0, hi0, hz0, hz1, hz2⟩ := info_parts infoSt
  cases a with
  | none =>
    obtain ⟨rfl, rfl⟩ := ha rfl
    refine ⟨v, W, run_append_owned_none (P := Tryd.prog) (w := W) B 39 ty 41 i0 2 Tryd.underlying39 hi0 v l.length (stc l) hv, by simpa using hv, ⟨rfl, rfl, rfl, Nat.le_refl _, fun _ _ _ => rfl⟩⟩
  | some ad =>
    obtain ⟨u, W', q1, q2, q3, _⟩ := run_append_own (P := Tryd.prog) W B 39 ty 41 i0 _ 2 _ Tryd.underlying39 hi0 hz0 hz1 hz2 rfl (by decide) v l.length (stc l) hv ad r.length c (stc r) (stc_len r) (hc ad rfl) (stc_one r) (by unfold maxLen; omega) (by omega) hB
    refine ⟨u, W', q1, ?_, q3⟩
    unfold RS
    rw [List.length_append, stc_app]
    exact q2

/-- Rows of steps put behind such. -/
theorem app_paths (ty : TypeId) (W : World) (B : Nat) (hB : B ≤ W.heap.size) (v : Value) (L : List (List Stp)) (hv : RP B W v L) (a : Option Addr) (c : Nat) (us : List Value) (R : List (List Stp)) (hlen : us.length = R.length) (hR : ∀ i (h : i < us.length) (h' : i < R.length), RS 0 W us[i] R[i]) (ha : a = none → us = [] ∧ c = 0) (hc : ∀ ad, a = some ad → ∀ j u, us[j]? = some u → W.cell? (ad.add j) = some u) (hl : L.length + R.length ≤ 1000000) :
    ∃ u W', (Builtin.append_ #[32, 32] ty #[v, .slice a us.length c]).run Tryd.prog W = .ok u W' ∧ RP B W' u (L ++ R) ∧ W.grownBy W' v.ownBlock ∧ (∀ {B' n xs x}, W.ownsRow B' 41 2 x n xs → W'.ownsRow B' 41 2 x n xs) ∧ Below B W W' := by
  obtain ⟨i0, hi0, hz0, hz1, hz2⟩ := info_parts infoSs
  obtain ⟨vs, h1, h2, h3⟩ := hv
  have hone : ∀ u ∈ us, u.oneCell' = true := by
    intro u hu
    obtain ⟨i, hi, rfl⟩ := List.getElem_of_mem hu
    obtain ⟨x, y, e, _⟩ := (hR i hi (by omega)).form
    rw [e]; rfl
  cases a with
  | none =>
    obtain ⟨rfl, rfl⟩ := ha rfl
    obtain rfl : R = [] := List.length_eq_zero_iff.1 hlen.symm
    refine ⟨v, W, run_append_owned_none (P := Tryd.prog) (w := W) B 32 ty 39 i0 1 Tryd.underlying32 hi0 v vs.length vs h1, ⟨vs, h1, by simpa using h2, fun i hi hi' => ?_⟩, ⟨rfl, rfl, rfl, Nat.le_refl _, fun _ _ _ => rfl⟩, fun h => h, Below.refl _ _⟩
    have := h3 i hi (by omega)
    simpa using this
  | some ad =>
    obtain ⟨u, W', q1, q2, q3, _⟩ := run_append_own (P := Tryd.prog) W B 32 ty 39 i0 _ 1 _ Tryd.underlying32 hi0 hz0 hz1 hz2 rfl (by decide) v vs.length vs h1 ad us.length c us (by omega) (hc ad rfl) hone (by unfold maxLen; omega) (by omega) hB
    have hk : ∀ {B' n xs x}, W.ownsRow B' 41 2 x n xs → W'.ownsRow B' 41 2 x n xs := fun h => own_grown h q3 h1 (by decide)
    refine ⟨u, W', q1, ⟨vs ++ us, by rw [List.length_append]; exact q2, by rw [List.length_append, List.length_append, h2, hlen], fun i hi hi' => ?_⟩, q3, hk, grown_below q3 h1 hB⟩
    by_cases hlt : i < vs.length
    · have hL : i < L.length := by omega
      rw [List.getElem_append_left hlt, List.getElem_append_left hL]
      exact hk (h3 i hlt hL)
    · have e1 : i - vs.length < us.length := by rw [List.length_append] at hi; omega
      have e2 : i - L.length < R.length := by rw [List.length_append] at hi'; omega
      rw [List.getElem_append_right (by omega), List.getElem_append_right (by omega)]
      have := hR (i - vs.length) e1 (by omega)
      have e3 : i - vs.length = i - L.length := by omega
      simp only [e3] at this ⊢
      exact hk this
end Go.Proofs.YtjmepegckahnfaaDoor
