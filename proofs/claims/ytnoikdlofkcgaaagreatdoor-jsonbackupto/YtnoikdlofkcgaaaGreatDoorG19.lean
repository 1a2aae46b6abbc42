/-
  What is proved: rows of steps, and rows of such rows, that grow by append; the paths of all trees with a value in a tree. the function Paths of bookref3, called with a tree, a value and a path that lie in memory, answers the paths of all trees in it with that value, each behind that path.
  Conditions: as each theorem says.
-/
import Derived.Test.YtnoikdlofkcgaaaGreatDoorJCopy
namespace Go.Proofs.YtnoikdlofkcgaaaGreatDoor
open Go.RowKit

theorem infoSt : (Tryz.prog.info? 60).map (fun i => (i.zero, i.size, i.bytes)) = some (some (.agg #[.string ⟨#[]⟩, .int .i64 0]), 2, 24) := by kernel_rfl
theorem infoSs : (Tryz.prog.info? 42).map (fun i => (i.zero, i.size, i.bytes)) = some (some (.slice none 0 0), 1, 24) := by kernel_rfl

/-- The step to a kid. -/
def stepOf (x : V) (ks : List ByteArray) (i : Nat) : Stp := if x.k = 5 then (ks[i]?.getD ⟨#[]⟩, 0) else (⟨#[]⟩, (i : Int))
/-- The paths of all trees with a value, in the trees of a row from a number on: those of kids of a tree with a value and keys. -/
def pathsF (y : V) : JF → V → List ByteArray → Nat → List Stp → List (List Stp)
  | .nil, _, _, _, _ => []
  | .node _ _ a l r, x, ks, i, p => ((if sameB a.1 y = true then [p ++ [stepOf x ks i]] else []) ++ pathsF y l a.1 a.2 0 (p ++ [stepOf x ks i])) ++ pathsF y r x ks (i + 1) p
/-- The paths of all trees with a value. -/
def pathsT (y : V) (T : JT) (p : List Stp) : List (List Stp) := (if sameB T.x y = true then [p] else []) ++ pathsF y T.kids T.x T.ks 0 p
/-- Those in kids from one on. -/
def pathsL (y x : V) (ks : List ByteArray) : List JT → Nat → List Stp → List (List Stp)
  | [], _, _ => []
  | t :: r, i, p => pathsT y t (p ++ [stepOf x ks i]) ++ pathsL y x ks r (i + 1) p
theorem pathsL_cons (y x : V) (ks : List ByteArray) (t : JT) (r : List JT) (i : Nat) (p : List Stp) : pathsL y x ks (t :: r) i p = pathsT y t (p ++ [stepOf x ks i]) ++ pathsL y x ks r (i + 1) p := by rw [pathsL]
theorem pathsL_nil (y x : V) (ks : List ByteArray) (i : Nat) (p : List Stp) : pathsL y x ks [] i p = [] := by rw [pathsL]
theorem pathsL_toL (y x : V) (ks : List ByteArray) (f : JF) (i : Nat) (p : List Stp) : pathsL y x ks (toL f) i p = pathsF y f x ks i p := by
  induction f generalizing i with
  | nil => rw [toL, pathsL_nil, pathsF]
  | node b o a l r _ ihr => rw [toL, pathsL_cons, ihr, pathsF]; rfl
theorem pathsT_eq (y : V) (T : JT) (p : List Stp) : pathsT y T p = (if sameB T.x y = true then [p] else []) ++ pathsL y T.x T.ks T.ts 0 p := by rw [pathsT, JT.ts, pathsL_toL]
theorem pathsT_node (y x : V) (ks : List ByteArray) (ts : List JT) (p : List Stp) : pathsT y (.node x ks ts) p = (if sameB x y = true then [p] else []) ++ pathsL y x ks ts 0 p := by rw [pathsT_eq, node_ts]; rfl
theorem pathsF_len (y : V) (f : JF) : ∀ (x : V) (ks : List ByteArray) (i : Nat) (p : List Stp), (pathsF y f x ks i p).length ≤ szF f := by
  induction f with
  | nil => intro x ks i p; rw [pathsF]; simp
  | node b o a l r ihl ihr =>
    intro x ks i p
    have h1 := ihl a.1 a.2 0 (p ++ [stepOf x ks i])
    have h2 := ihr x ks (i + 1) p
    have h3 : (if sameB a.1 y = true then [p ++ [stepOf x ks i]] else []).length ≤ 1 := by split <;> simp
    rw [pathsF, List.length_append, List.length_append, szF]
    omega
theorem pathsT_len (y : V) (T : JT) (p : List Stp) : (pathsT y T p).length ≤ T.size := by
  have h1 := pathsF_len y T.kids T.x T.ks 0 p
  have h2 : (if sameB T.x y = true then [p] else []).length ≤ 1 := by split <;> simp
  rw [pathsT, List.length_append, JT.size]
  omega
theorem pathsL_len (y x : V) (ks : List ByteArray) (l : List JT) (i : Nat) (p : List Stp) : (pathsL y x ks l i p).length ≤ sizes l := by
  induction l generalizing i with
  | nil => rw [pathsL_nil]; simp
  | cons t r ih =>
    have h1 := pathsT_len y t (p ++ [stepOf x ks i])
    have h2 := ih (i + 1)
    rw [pathsL_cons, List.length_append, sizes]
    omega

/-- The cells of steps. -/
def stc (l : List Stp) : List Value := l.flatMap fun s => [.string s.1, .int .i64 s.2]
theorem stc_len (l : List Stp) : (stc l).length = l.length * 2 := by
  induction l with
  | nil => rfl
  | cons s r ih =>
    have e : stc (s :: r) = [.string s.1, .int .i64 s.2] ++ stc r := rfl
    rw [e, List.length_append, ih, List.length_cons]
    simp; omega
theorem stc_app (l r : List Stp) : stc (l ++ r) = stc l ++ stc r := by unfold stc; rw [List.flatMap_append]
theorem stc_one (l : List Stp) : ∀ u ∈ stc l, u.oneCell' = true := by
  intro u hu
  obtain ⟨s, _, hu⟩ := List.mem_flatMap.1 hu
  simp at hu
  rcases hu with rfl | rfl <;> rfl

/-- A row of steps. -/
abbrev RS (B : Nat) (w : World) (v : Value) (l : List Stp) : Prop := w.ownsRow B 60 2 v l.length (stc l)
theorem RS.mono {B B' : Nat} {w : World} {v : Value} {l : List Stp} (h : RS B w v l) (hB : B' ≤ B) : RS B' w v l := by
  refine ⟨h.1, ?_⟩
  rcases h.2 with h0 | ⟨g, cap, cur, h1, h2, h3⟩
  · exact Or.inl h0
  · exact Or.inr ⟨g, cap, cur, h1, Nat.le_trans hB h2, h3⟩
theorem RS.form {B : Nat} {w : World} {v : Value} {l : List Stp} (h : RS B w v l) : ∃ a cap, v = .slice a l.length cap ∧ (a = none → cap = 0) := by
  rcases h.2 with ⟨rfl, h0⟩ | ⟨g, cap, cur, h1, _⟩
  · exact ⟨none, 0, by rw [h0], fun _ => rfl⟩
  · exact ⟨_, cap, h1, fun e => by cases e⟩
/-- A row of rows of steps. -/
def RP (B : Nat) (w : World) (v : Value) (L : List (List Stp)) : Prop :=
  ∃ us : List Value, w.ownsRow B 42 1 v us.length us ∧ us.length = L.length ∧ ∀ i (h : i < us.length) (h' : i < L.length), RS 0 w us[i] L[i]
theorem RP.below {B : Nat} {w w' : World} {v : Value} {L : List (List Stp)} (h : RP B w v L) (hb : Below w.heap.size w w') : RP B w' v L := by
  obtain ⟨us, h1, h2, h3⟩ := h
  exact ⟨us, own_below h1 hb (Nat.le_refl _), h2, fun i hi hi' => own_below (h3 i hi hi') hb (Nat.le_refl _)⟩
theorem RP.form {B : Nat} {w : World} {v : Value} {L : List (List Stp)} (h : RP B w v L) : ∃ a cap, v = .slice a L.length cap ∧ (a = none → cap = 0) := by
  obtain ⟨us, h1, h2, h3⟩ := h
  rcases h1.2 with ⟨rfl, h0⟩ | ⟨g, cap, cur, e, _⟩
  · exact ⟨none, 0, by rw [← h2, h0], fun _ => rfl⟩
  · exact ⟨_, cap, by rw [e, h2], fun e => by cases e⟩
theorem RP.nil (B : Nat) (w : World) : RP B w (.slice none 0 0) [] := ⟨[], World.ownsRow_nil w B 42 1, rfl, fun _ hi => absurd hi (Nat.not_lt_zero _)⟩
theorem RS.nil (B : Nat) (w : World) : RS B w (.slice none 0 0) [] := World.ownsRow_nil w B 60 2

/-- What grows turns no row of another type. -/
theorem own_grown {B e s n : Nat} {w w' : World} {v o : Value} {xs : List Value} {B' e' s' n' : Nat} {xs' : List Value} (h : w.ownsRow B e s v n xs) (hg : w.grownBy w' o.ownBlock) (ho : w.ownsRow B' e' s' o n' xs') (hne : e' ≠ e) : w'.ownsRow B e s v n xs := by
  refine ⟨h.1, ?_⟩
  rcases h.2 with h0 | ⟨g, cap, cur, h1, h2, h3, h4⟩
  · exact Or.inl h0
  · refine Or.inr ⟨g, cap, cur, h1, h2, ?_, h4⟩
    rw [hg.block g (lt_of_heap h3) (fun eo => ?_)]
    · exact h3
    · rcases ho.2 with ⟨rfl, _⟩ | ⟨g', cap', cur', rfl, _, hh, _⟩
      · simp [Value.ownBlock] at eo
      · simp [Value.ownBlock] at eo
        subst eo
        rw [h3] at hh
        have h5 := Option.some.inj hh
        injection h5 with _ h6
        exact hne h6.symm
theorem grown_below {B e s n : Nat} {w w' : World} {o : Value} {xs : List Value} (hg : w.grownBy w' o.ownBlock) (ho : w.ownsRow B e s o n xs) (hB : B ≤ w.heap.size) : Below B w w' := by
  refine ⟨hg.os, hg.tape, hg.output, hg.size, fun k hk => hg.block k (by omega) (fun eo => ?_)⟩
  rcases ho.2 with ⟨rfl, _⟩ | ⟨g', cap', cur', rfl, hb, _⟩
  · simp [Value.ownBlock] at eo
  · simp [Value.ownBlock] at eo
    omega

/-- Steps put behind steps. -/
theorem app_steps (ty : TypeId) (W : World) (B : Nat) (hB : B ≤ W.heap.size) (v : Value) (l : List Stp) (hv : RS B W v l) (a : Option Addr) (c : Nat) (r : List Stp) (ha : a = none → r = [] ∧ c = 0) (hc : ∀ ad, a = some ad → ∀ j u, (stc r)[j]? = some u → W.cell? (ad.add j) = some u) (hl : l.length + r.length ≤ 1000000) :
    ∃ u W', (Builtin.append_ #[42, 42] ty #[v, .slice a r.length c]).run Tryz.prog W = .ok u W' ∧ RS B W' u (l ++ r) ∧ W.grownBy W' v.ownBlock := by
  obtain ⟨i0, hi0, hz0, hz1, hz2⟩ := info_parts infoSt
  cases a with
  | none =>
    obtain ⟨rfl, rfl⟩ := ha rfl
    refine ⟨v, W, run_append_owned_none (P := Tryz.prog) (w := W) B 42 ty 60 i0 2 Tryz.underlying42 hi0 v l.length (stc l) hv, by simpa using hv, ⟨rfl, rfl, rfl, Nat.le_refl _, fun _ _ _ => rfl⟩⟩
  | some ad =>
    obtain ⟨u, W', q1, q2, q3, _⟩ := run_append_own (P := Tryz.prog) W B 42 ty 60 i0 _ 2 _ Tryz.underlying42 hi0 hz0 hz1 hz2 rfl (by decide) v l.length (stc l) hv ad r.length c (stc r) (stc_len r) (hc ad rfl) (stc_one r) (by unfold maxLen; omega) (by omega) hB
    refine ⟨u, W', q1, ?_, q3⟩
    unfold RS
    rw [List.length_append, stc_app]
    exact q2

/-- Rows of steps put behind such. -/
theorem app_paths (ty : TypeId) (W : World) (B : Nat) (hB : B ≤ W.heap.size) (v : Value) (L : List (List Stp)) (hv : RP B W v L) (a : Option Addr) (c : Nat) (us : List Value) (R : List (List Stp)) (hlen : us.length = R.length) (hR : ∀ i (h : i < us.length) (h' : i < R.length), RS 0 W us[i] R[i]) (ha : a = none → us = [] ∧ c = 0) (hc : ∀ ad, a = some ad → ∀ j u, us[j]? = some u → W.cell? (ad.add j) = some u) (hl : L.length + R.length ≤ 1000000) :
    ∃ u W', (Builtin.append_ #[37, 37] ty #[v, .slice a us.length c]).run Tryz.prog W = .ok u W' ∧ RP B W' u (L ++ R) ∧ W.grownBy W' v.ownBlock ∧ (∀ {B' n xs x}, W.ownsRow B' 60 2 x n xs → W'.ownsRow B' 60 2 x n xs) ∧ Below B W W' := by
  obtain ⟨i0, hi0, hz0, hz1, hz2⟩ := info_parts infoSs
  obtain ⟨vs, h1, h2, h3⟩ := hv
  have hone : ∀ u ∈ us, u.oneCell' = true := by
    intro u hu
    obtain ⟨i, hi, rfl⟩ := List.getElem_of_mem hu
    obtain ⟨x, y, e, _⟩ := (hR i hi (by omega)).form
    rw [e]; rfl
  cases a with
  | none =>
    obtain ⟨rfl, rfl⟩ := ha rfl
    obtain rfl : R = [] := List.length_eq_zero_iff.1 hlen.symm
    refine ⟨v, W, run_append_owned_none (P := Tryz.prog) (w := W) B 37 ty 42 i0 1 Tryz.underlying37 hi0 v vs.length vs h1, ⟨vs, h1, by simpa using h2, fun i hi hi' => ?_⟩, ⟨rfl, rfl, rfl, Nat.le_refl _, fun _ _ _ => rfl⟩, fun h => h, Below.refl _ _⟩
    have := h3 i hi (by omega)
    simpa using this
  | some ad =>
    obtain ⟨u, W', q1, q2, q3, _⟩ := run_append_own (P := Tryz.prog) W B 37 ty 42 i0 _ 1 _ Tryz.underlying37 hi0 hz0 hz1 hz2 rfl (by decide) v vs.length vs h1 ad us.length c us (by omega) (hc ad rfl) hone (by unfold maxLen; omega) (by omega) hB
    have hk : ∀ {B' n xs x}, W.ownsRow B' 60 2 x n xs → W'.ownsRow B' 60 2 x n xs := fun h => own_grown h q3 h1 (by decide)
    refine ⟨u, W', q1, ⟨vs ++ us, by rw [List.length_append]; exact q2, by rw [List.length_append, List.length_append, h2, hlen], fun i hi hi' => ?_⟩, q3, hk, grown_below q3 h1 hB⟩
    by_cases hlt : i < vs.length
    · have hL : i < L.length := by omega
      rw [List.getElem_append_left hlt, List.getElem_append_left hL]
      exact hk (h3 i hlt hL)
    · have e1 : i - vs.length < us.length := by rw [List.length_append] at hi; omega
      have e2 : i - L.length < R.length := by rw [List.length_append] at hi'; omega
      rw [List.getElem_append_right (by omega), List.getElem_append_right (by omega)]
      have := hR (i - vs.length) e1 (by omega)
      have e3 : i - vs.length = i - L.length := by omega
      simp only [e3] at this ⊢
      exact hk this
end Go.Proofs.YtnoikdlofkcgaaaGreatDoor

namespace Go.Proofs.YtnoikdlofkcgaaaGreatDoor
open Go.RowKit Go.Sort

theorem RS.cells {B : Nat} {w : World} {a : Option Addr} {n c : Nat} {l : List Stp} (h : RS B w (.slice a n c) l) : ∀ ad, a = some ad → ∀ j u, (stc l)[j]? = some u → w.cell? (ad.add j) = some u := by
  intro ad ha j u hj
  have hjl : j < l.length * 2 := by
    rcases Nat.lt_or_ge j (l.length * 2) with h | h
    · exact h
    · rw [List.getElem?_eq_none (by rw [stc_len]; exact h)] at hj; cases hj
  rcases h.2 with ⟨e, h0⟩ | ⟨g, cap, cur, e, _, hh, _, _, _, ht⟩
  · omega
  · have e1 := Value.slice.inj e
    obtain rfl := Option.some.inj (ha.symm.trans e1.1)
    rw [add_at, Nat.zero_add]
    have h2 : (cur.toList.take (l.length * 2))[j]? = (stc l)[j]? := by rw [ht]
    rw [List.getElem?_take_of_lt hjl, Array.getElem?_toList, hj] at h2
    rw [← h2]
    exact Lib.cell_of_heap hh j
theorem RS.empty {B : Nat} {w : World} {a : Option Addr} {n c : Nat} {l : List Stp} (h : RS B w (.slice a n c) l) (ha : a = none) : l = [] := by
  rcases h.2 with ⟨_, h0⟩ | ⟨_, _, _, e1, _⟩
  · exact List.length_eq_zero_iff.1 h0
  · have := (Value.slice.inj e1).1
    rw [ha] at this
    cases this
theorem RP.mono {B B' : Nat} {w : World} {v : Value} {L : List (List Stp)} (h : RP B w v L) (hB : B' ≤ B) : RP B' w v L := by
  obtain ⟨us, h1, h2⟩ := h
  refine ⟨us, ⟨h1.1, ?_⟩, h2⟩
  rcases h1.2 with h0 | ⟨g, cap, cur, e1, e2, e3⟩
  · exact Or.inl h0
  · exact Or.inr ⟨g, cap, cur, e1, Nat.le_trans hB e2, e3⟩
theorem RP.row {B : Nat} {w : World} {v : Value} {L : List (List Stp)} (h : RP B w v L) : ∃ us a c, v = .slice a us.length c ∧ us.length = L.length ∧ (∀ i (h : i < us.length) (h' : i < L.length), RS 0 w us[i] L[i]) ∧ (a = none → us = [] ∧ c = 0) ∧ ∀ ad, a = some ad → ∀ j u, us[j]? = some u → w.cell? (ad.add j) = some u := by
  obtain ⟨us, h1, h2, h3⟩ := h
  rcases h1.2 with ⟨e, h0⟩ | ⟨g, cap, cur, e, _, hh, _, _, _, ht⟩
  · have hu := List.length_eq_zero_iff.1 h0
    exact ⟨us, none, 0, by rw [e, h0], h2, h3, fun _ => ⟨hu, rfl⟩, fun ad ha => by cases ha⟩
  · refine ⟨us, _, cap, e, h2, h3, fun ha => (by cases ha), fun ad ha j u hj => ?_⟩
    obtain rfl := Option.some.inj ha
    rw [add_at, Nat.zero_add]
    have hjl : j < us.length := by
      rcases Nat.lt_or_ge j us.length with h | h
      · exact h
      · rw [List.getElem?_eq_none h] at hj; cases hj
    have h2' : (cur.toList.take (us.length * 1))[j]? = us[j]? := by rw [ht]
    rw [List.getElem?_take_of_lt (by omega), Array.getElem?_toList, hj] at h2'
    rw [← h2']
    exact Lib.cell_of_heap hh j
theorem keep13 {W W' : World} {p0 p1 p2 p3 p4 p5 p6 p7 p8 p9 p10 p11 p12 : Addr} {v0 v1 v2 v3 v4 v5 v6 v7 v8 v9 v10 v11 v12 : Value} (h : W.cell? p0 = some v0 ∧ W.cell? p1 = some v1 ∧ W.cell? p2 = some v2 ∧ W.cell? p3 = some v3 ∧ W.cell? p4 = some v4 ∧ W.cell? p5 = some v5 ∧ W.cell? p6 = some v6 ∧ W.cell? p7 = some v7 ∧ W.cell? p8 = some v8 ∧ W.cell? p9 = some v9 ∧ W.cell? p10 = some v10 ∧ W.cell? p11 = some v11 ∧ W.cell? p12 = some v12) (hb : Below W.heap.size W W') : W'.cell? p0 = some v0 ∧ W'.cell? p1 = some v1 ∧ W'.cell? p2 = some v2 ∧ W'.cell? p3 = some v3 ∧ W'.cell? p4 = some v4 ∧ W'.cell? p5 = some v5 ∧ W'.cell? p6 = some v6 ∧ W'.cell? p7 = some v7 ∧ W'.cell? p8 = some v8 ∧ W'.cell? p9 = some v9 ∧ W'.cell? p10 = some v10 ∧ W'.cell? p11 = some v11 ∧ W'.cell? p12 = some v12 := by
  obtain ⟨h0, h1, h2, h3, h4, h5, h6, h7, h8, h9, h10, h11, h12⟩ := h
  exact ⟨(hb.cell (cell_in h0)).trans h0, (hb.cell (cell_in h1)).trans h1, (hb.cell (cell_in h2)).trans h2, (hb.cell (cell_in h3)).trans h3, (hb.cell (cell_in h4)).trans h4, (hb.cell (cell_in h5)).trans h5, (hb.cell (cell_in h6)).trans h6, (hb.cell (cell_in h7)).trans h7, (hb.cell (cell_in h8)).trans h8, (hb.cell (cell_in h9)).trans h9, (hb.cell (cell_in h10)).trans h10, (hb.cell (cell_in h11)).trans h11, (hb.cell (cell_in h12)).trans h12⟩
theorem keep13b {W W' : World} {B : Nat} {p0 p1 p2 p3 p4 p5 p6 p7 p8 p9 p10 p11 p12 : Addr} {v0 v1 v2 v3 v4 v5 v6 v7 v8 v9 v10 v11 v12 : Value} (h : W.cell? p0 = some v0 ∧ W.cell? p1 = some v1 ∧ W.cell? p2 = some v2 ∧ W.cell? p3 = some v3 ∧ W.cell? p4 = some v4 ∧ W.cell? p5 = some v5 ∧ W.cell? p6 = some v6 ∧ W.cell? p7 = some v7 ∧ W.cell? p8 = some v8 ∧ W.cell? p9 = some v9 ∧ W.cell? p10 = some v10 ∧ W.cell? p11 = some v11 ∧ W.cell? p12 = some v12) (hb : Below B W W') (hne : p0.block < B ∧ p1.block < B ∧ p2.block < B ∧ p3.block < B ∧ p4.block < B ∧ p5.block < B ∧ p6.block < B ∧ p7.block < B ∧ p8.block < B ∧ p9.block < B ∧ p10.block < B ∧ p11.block < B ∧ p12.block < B) : W'.cell? p0 = some v0 ∧ W'.cell? p1 = some v1 ∧ W'.cell? p2 = some v2 ∧ W'.cell? p3 = some v3 ∧ W'.cell? p4 = some v4 ∧ W'.cell? p5 = some v5 ∧ W'.cell? p6 = some v6 ∧ W'.cell? p7 = some v7 ∧ W'.cell? p8 = some v8 ∧ W'.cell? p9 = some v9 ∧ W'.cell? p10 = some v10 ∧ W'.cell? p11 = some v11 ∧ W'.cell? p12 = some v12 := by
  obtain ⟨h0, h1, h2, h3, h4, h5, h6, h7, h8, h9, h10, h11, h12⟩ := h
  obtain ⟨q0, q1, q2, q3, q4, q5, q6, q7, q8, q9, q10, q11, q12⟩ := hne
  exact ⟨(hb.cell q0).trans h0, (hb.cell q1).trans h1, (hb.cell q2).trans h2, (hb.cell q3).trans h3, (hb.cell q4).trans h4, (hb.cell q5).trans h5, (hb.cell q6).trans h6, (hb.cell q7).trans h7, (hb.cell q8).trans h8, (hb.cell q9).trans h9, (hb.cell q10).trans h10, (hb.cell q11).trans h11, (hb.cell q12).trans h12⟩
theorem step_append_known {ops : Array Oper} {o : Oper} {a : Act} {w : World} {K : Act → World → Prop} {Q : Exit → Act → World → Prop} {E : Prop} (hgd : o.guard = none) (s x : Operand) (T : TypeId)
    (ho : o.op = .call { callee := .builtin .append, args := #[s, x], argTypes := #[T, T] }) (v u r : Value) (w' : World) (hs : a.eval s = v) (hx : a.eval x = u)
    (hrun : (Builtin.append_ #[T, T] o.type #[v, u]).run Tryz.prog w = .ok r w') (hK : K (a.put o.dst r) w') : if Region.wanted o (yielded ops a.tmps) = true then Oper.wp Tryz.prog o a w K Q else E := by
  have hw : Region.wanted o (yielded ops a.tmps) = true := by simp [Region.wanted, hgd]
  rw [if_pos hw]
  unfold Oper.wp
  simp [execOp, ho, resolve, invoke, builtin, hs, hx, hrun, Result.andThen]
  exact hK

/-- What Paths answers. -/
def PathsP (B : Nat) (w : World) (L : List (List Stp)) (e : Ending) : Prop := ∃ r, e = .returned r ∧ RP B w r L
/-- The paths of the first kids. -/
theorem pathsL_take (y x : V) (ks : List ByteArray) (p : List Stp) (l : List JT) (i j : Nat) (hj : j < l.length) : pathsL y x ks (l.take (j + 1)) i p = pathsL y x ks (l.take j) i p ++ pathsT y l[j] (p ++ [stepOf x ks (i + j)]) := by
  induction l generalizing i j with
  | nil => simp at hj
  | cons t r ih =>
    cases j with
    | zero => simp [pathsL_cons, pathsL_nil]
    | succ j =>
      rw [List.take_succ_cons, List.take_succ_cons, pathsL_cons, pathsL_cons, ih (i + 1) j (by simpa using hj), List.append_assoc]
      simp only [List.getElem_cons_succ]
      rw [show i + 1 + j = i + (j + 1) by omega]

end Go.Proofs.YtnoikdlofkcgaaaGreatDoor
