/-
  What is proved: what becomes of a tree in which a value is set at the end of a path: it is a tree, the value is there; and set to what was there it is the tree that it was.
  Conditions: as each theorem says.
-/
import Derived.Test.YtnoikdlofkcgaaaGreatDoorJGetJ
namespace Go.Proofs.YtnoikdlofkcgaaaGreatDoor
open Go.RowKit Go.Sort

/-- A tree of a value alone. -/
def leafT (y : V) : JT := .node y [] []
/-- Something put between. -/
def putL {α : Type} (l : List α) (i : Nat) (a : α) : List α := l.take i ++ a :: l.drop i
/-- A value set by one step: in the place of a kid, or at a new key. -/
def SetR (T : JT) (s : Stp) (y : V) (T' : JT) : Prop :=
  (∃ i, kidOf T.x T.ks T.ts.length s = some i ∧ i < T.ts.length ∧ T' = .node T.x T.ks (T.ts.set i (leafT y))) ∨
  (kidOf T.x T.ks T.ts.length s = none ∧ keyStep T.x s = true ∧ ∃ i, Found T.ks s.1.toList i false ∧ T' = .node T.x (putL T.ks i s.1) (putL T.ts i (leafT y)))
/-- A value set at the end of a path. -/
def UpdR : JT → List Stp → V → JT → Prop
  | _, [], _, _ => False
  | T, [s], y, T' => SetR T s y T'
  | T, s :: q :: r, y, T' => ∃ i t t', kidOf T.x T.ks T.ts.length s = some i ∧ T.ts[i]? = some t ∧ UpdR t (q :: r) y t' ∧ T' = .node T.x T.ks (T.ts.set i t')

theorem node_x (x : V) (ks : List ByteArray) (ts : List JT) : (JT.node x ks ts).x = x := rfl
theorem node_ks (x : V) (ks : List ByteArray) (ts : List JT) : (JT.node x ks ts).ks = ks := rfl

/-- Is it a tree? Of its node and its kids. -/
theorem formed_iff (T : JT) : formedB T = true ↔ nodeB T.x T.ks T.ts.length = true ∧ ∀ t ∈ T.ts, formedB t = true := by
  have h1 : formedB T = (nodeB T.x T.ks T.ts.length && formedsB T.ts) := by
    rw [formedB_eq]
  rw [h1, Bool.and_eq_true]
  have h2 : ∀ l : List JT, formedsB l = true ↔ ∀ t ∈ l, formedB t = true := by
    intro l
    induction l with
    | nil => simp [formedsB, eachsM]
    | cons t r ih =>
      have e : formedsB (t :: r) = (formedB t && formedsB r) := by
        unfold formedsB formedB
        rw [eachsM_cons]
        cases (eachM nodeS t ()).1 <;> simp
      rw [e, Bool.and_eq_true, ih, List.forall_mem_cons]
  rw [h2]
theorem leaf_formed {y : V} (h : valB y = true) : formedB (leafT y) = true := by
  rw [formed_iff]
  have e : (leafT y).ts = [] := node_ts y [] []
  rw [e]
  refine ⟨?_, fun t ht => by cases ht⟩
  have e2 : upB [] [] = true := rfl
  show nodeB y [] 0 = true
  unfold nodeB
  rw [h]
  simp [e2]

theorem mem_set_or {α : Type} {l : List α} {i : Nat} {a b : α} (h : b ∈ l.set i a) : b = a ∨ b ∈ l := by
  rcases List.mem_or_eq_of_mem_set h with h | h
  · exact Or.inr h
  · exact Or.inl h
theorem putL_len {α : Type} (l : List α) (i : Nat) (a : α) : (putL l i a).length = l.length + 1 := by
  unfold putL
  rw [List.length_append, List.length_cons, List.length_take, List.length_drop]
  omega
theorem putL_mem {α : Type} {l : List α} {i : Nat} {a b : α} (h : b ∈ putL l i a) : b = a ∨ b ∈ l := by
  unfold putL at h
  rcases List.mem_append.1 h with h | h
  · exact Or.inr (List.mem_of_mem_take h)
  · rcases List.mem_cons.1 h with h | h
    · exact Or.inl h
    · exact Or.inr (List.mem_of_mem_drop h)
theorem putL_at {α : Type} (l : List α) (i : Nat) (a : α) (hi : i ≤ l.length) : (putL l i a)[i]? = some a := by
  unfold putL
  rw [List.getElem?_append_right (by rw [List.length_take]; omega), List.length_take, Nat.min_eq_left hi, Nat.sub_self]
  rfl

/-- Keys that rise, and one put where it belongs. -/
theorem up_put : ∀ (ks : List ByteArray) (p : List UInt8) (key : ByteArray) (i : Nat), upB p ks = true → key.size ≤ 20 → p < key.toList → i ≤ ks.length → (∀ t (h : t < ks.length), t < i → ks[t].toList < key.toList) → (∀ t (h : t < ks.length), i ≤ t → key.toList < ks[t].toList) → upB p (putL ks i key) = true
  | [], p, key, i, _, hz, hp, _, _, _ => by
    have e : putL ([] : List ByteArray) i key = [key] := by unfold putL; simp
    rw [e, upB_cons]
    simp [hp, hz, upB]
  | k :: r, p, key, 0, h, hz, hp, _, _, h2 => by
    have e : putL (k :: r) 0 key = key :: k :: r := rfl
    rw [e, upB_cons, upB_cons]
    rw [upB_cons] at h
    simp only [Bool.and_eq_true, decide_eq_true_eq] at h ⊢
    exact ⟨hp, hz, h2 0 (by simp) (Nat.le_refl _), h.2.1, h.2.2⟩
  | k :: r, p, key, i + 1, h, hz, hp, hi, h1, h2 => by
    have e : putL (k :: r) (i + 1) key = k :: putL r i key := rfl
    rw [e, upB_cons]
    rw [upB_cons] at h
    simp only [Bool.and_eq_true, decide_eq_true_eq] at h ⊢
    refine ⟨h.1, h.2.1, up_put r k.toList key i h.2.2 hz (h1 0 (by simp) (Nat.succ_pos _)) (by simpa using hi) (fun t ht hlt => ?_) (fun t ht hle => ?_)⟩
    · have := h1 (t + 1) (by simpa using ht) (by omega)
      simpa using this
    · have := h2 (t + 1) (by simpa using ht) (by omega)
      simpa using this

/-- A key that is not there: all from its place on are behind it. -/
theorem found_no {ks : List ByteArray} {key : List UInt8} {i : Nat} (h : Found ks key i false) (hn : lookK ks key = none) : ∀ t (ht : t < ks.length), i ≤ t → key < ks[t].toList := by
  intro t ht hle
  have h1 := h.2.2.1 t ht hle
  have h2 := lookK_none hn t ht
  by_cases h' : key < ks[t].toList
  · exact h'
  · exact absurd (List.le_antisymm (List.not_lt.1 h') (List.not_lt.1 h1)) h2
theorem look_put : ∀ (ks : List ByteArray) (key : ByteArray) (i : Nat), i ≤ ks.length → (∀ t (h : t < ks.length), t < i → ks[t].toList < key.toList) → lookK (putL ks i key) key.toList = some i
  | [], key, i, hi, _ => by
    obtain rfl : i = 0 := by simpa using hi
    simp [putL, lookK]
  | k :: r, key, 0, _, _ => by
    have e : putL (k :: r) 0 key = key :: k :: r := rfl
    rw [e]; simp [lookK]
  | k :: r, key, i + 1, hi, h1 => by
    have e : putL (k :: r) (i + 1) key = k :: putL r i key := rfl
    have hne : k.toList ≠ key.toList := fun e => by
      have := h1 0 (by simp) (Nat.succ_pos _)
      simp only [List.getElem_cons_zero] at this
      rw [e] at this
      exact List.lt_irrefl _ this
    rw [e, lookK, if_neg hne, look_put r key i (by simpa using hi) (fun t ht hlt => by
      have := h1 (t + 1) (by simpa using ht) (by omega)
      simpa using this)]
    rfl

theorem keyStep_parts {x : V} {s : Stp} (h : keyStep x s = true) : x.k = 5 ∧ s.1.toList ≠ [] ∧ s.2 = 0 := by
  unfold keyStep at h
  simp only [Bool.and_eq_true, decide_eq_true_eq, Bool.not_eq_true', List.isEmpty_eq_false_iff] at h
  exact h
theorem nodeB_map {x : V} {ks : List ByteArray} {n : Nat} (h5 : x.k = 5) : nodeB x ks n = true ↔ valB x = true ∧ ks.length = n ∧ upB [] ks = true := by
  unfold nodeB
  rw [if_pos h5]
  simp [Bool.and_eq_true]

/-- A set tree is a tree. -/
theorem set_formed {T T' : JT} {s : Stp} {y : V} (h : SetR T s y T') (hf : formedB T = true) (hv : valB y = true) (hs : s.1.size ≤ 20) : formedB T' = true := by
  obtain ⟨hn, hk⟩ := (formed_iff T).1 hf
  rcases h with ⟨i, _, hi, rfl⟩ | ⟨h0, h1, i, hF, rfl⟩
  · rw [formed_iff, node_x, node_ks, node_ts, List.length_set]
    refine ⟨hn, fun t ht => ?_⟩
    rcases mem_set_or ht with e | e
    · rw [e]; exact leaf_formed hv
    · exact hk t e
  · obtain ⟨h5, hne, _⟩ := keyStep_parts h1
    obtain ⟨n1, n2, n3⟩ := (nodeB_map h5).1 hn
    have hl : lookK T.ks s.1.toList = none := by
      unfold kidOf at h0
      rwa [if_pos h1] at h0
    rw [formed_iff, node_x, node_ks, node_ts]
    refine ⟨(nodeB_map h5).2 ⟨n1, by rw [putL_len, putL_len, n2], up_put T.ks [] s.1 i n3 hs ?_ hF.1 hF.2.1 (found_no hF hl)⟩, fun t ht => ?_⟩
    · cases hb : s.1.toList with
      | nil => exact absurd hb hne
      | cons a r => exact List.nil_lt_cons a r
    · rcases putL_mem ht with e | e
      · rw [e]; exact leaf_formed hv
      · exact hk t e
theorem upd_formed {y : V} (hv : valB y = true) : ∀ (l : List Stp) (T T' : JT), UpdR T l y T' → formedB T = true → (∀ s ∈ l, s.1.size ≤ 20) → formedB T' = true
  | [], T, T', h, _, _ => absurd h (by simp [UpdR])
  | [s], T, T', h, hf, hl => set_formed (by simpa [UpdR] using h) hf hv (hl s (by simp))
  | s :: q :: r, T, T', h, hf, hl => by
    rw [UpdR] at h
    obtain ⟨i, t, t', h1, h2, h3, rfl⟩ := h
    obtain ⟨hn, hk⟩ := (formed_iff T).1 hf
    rw [formed_iff, node_x, node_ks, node_ts, List.length_set]
    refine ⟨hn, fun u hu => ?_⟩
    rcases mem_set_or hu with e | e
    · rw [e]; exact upd_formed hv (q :: r) t t' h3 (hk t (List.mem_of_getElem? h2)) (fun s hs => hl s (List.mem_cons_of_mem _ hs))
    · exact hk u e

/-- The value is there. -/
theorem set_get {T T' : JT} {s : Stp} {y : V} (h : SetR T s y T') (hf : formedB T = true) : kidOf T'.x T'.ks T'.ts.length s ≠ none ∧ step1 T' s = some (leafT y) := by
  rcases h with ⟨i, h0, hi, rfl⟩ | ⟨h0, h1, i, hF, rfl⟩
  · unfold step1
    rw [node_x, node_ks, node_ts, List.length_set, h0]
    refine ⟨by simp, ?_⟩
    simp [hi]
  · have hl : kidOf (JT.node T.x (putL T.ks i s.1) (putL T.ts i (leafT y))).x (JT.node T.x (putL T.ks i s.1) (putL T.ts i (leafT y))).ks (JT.node T.x (putL T.ks i s.1) (putL T.ts i (leafT y))).ts.length s = some i := by
      rw [node_x, node_ks]
      unfold kidOf
      rw [if_pos h1]
      exact look_put T.ks s.1 i hF.1 hF.2.1
    unfold step1
    rw [hl, node_ts]
    refine ⟨by simp, ?_⟩
    have hlen := ((nodeB_map (keyStep_parts h1).1).1 ((formed_iff T).1 hf).1).2.1
    exact putL_at T.ts i (leafT y) (by have := hF.1; omega)
theorem upd_get {y : V} : ∀ (l : List Stp) (T T' : JT), UpdR T l y T' → formedB T = true → getT T' l = some (leafT y)
  | [], T, T', h, _ => absurd h (by simp [UpdR])
  | [s], T, T', h, hf => by
    rw [UpdR] at h
    rw [getT, (set_get h hf).2]
    rfl
  | s :: q :: r, T, T', h, hf => by
    rw [UpdR] at h
    obtain ⟨i, t, t', h1, h2, h3, rfl⟩ := h
    have hi : i < T.ts.length := by
      rcases Nat.lt_or_ge i T.ts.length with h | h
      · exact h
      · rw [List.getElem?_eq_none h] at h2; cases h2
    have e : step1 (JT.node T.x T.ks (T.ts.set i t')) s = some t' := by
      unfold step1
      rw [node_x, node_ks, node_ts, List.length_set, h1]
      simp [hi]
    rw [getT, e]
    exact upd_get (q :: r) t t' h3 (((formed_iff T).1 hf).2 t (List.mem_of_getElem? h2))

theorem found_one {ks : List ByteArray} {key : List UInt8} {i j : Nat} (h : Found ks key i false) (h' : Found ks key j false) : i = j := by
  rcases Nat.lt_trichotomy i j with e | e | e
  · have hl : i < ks.length := by have := h'.1; omega
    exact absurd (h'.2.1 i hl e) (h.2.2.1 i hl (Nat.le_refl _))
  · exact e
  · have hl : j < ks.length := by have := h.1; omega
    exact absurd (h.2.1 j hl e) (h'.2.2.1 j hl (Nat.le_refl _))
theorem set_one {T A B : JT} {s : Stp} {y : V} (h : SetR T s y A) (h' : SetR T s y B) : A = B := by
  rcases h with ⟨i, h0, _, rfl⟩ | ⟨h0, _, i, hF, rfl⟩ <;> rcases h' with ⟨j, g0, _, rfl⟩ | ⟨g0, _, j, gF, rfl⟩
  · rw [h0] at g0
    rw [Option.some.inj g0]
  · rw [h0] at g0; cases g0
  · rw [h0] at g0; cases g0
  · rw [found_one hF gF]
theorem upd_one {y : V} : ∀ (l : List Stp) (T A B : JT), UpdR T l y A → UpdR T l y B → A = B
  | [], _, _, _, h, _ => absurd h (by simp [UpdR])
  | [s], T, A, B, h, h' => set_one (by simpa [UpdR] using h) (by simpa [UpdR] using h')
  | s :: q :: r, T, A, B, h, h' => by
    rw [UpdR] at h h'
    obtain ⟨i, t, t', h1, h2, h3, rfl⟩ := h
    obtain ⟨j, u, u', g1, g2, g3, rfl⟩ := h'
    rw [h1] at g1
    obtain rfl := Option.some.inj g1
    rw [h2] at g2
    obtain rfl := Option.some.inj g2
    rw [upd_one (q :: r) t t' u' h3 g3]
theorem set_same {α : Type} {l : List α} {i : Nat} {a b : α} (h : l[i]? = some a) : (l.set i b).set i a = l := by
  have hi : i < l.length := by
    rcases Nat.lt_or_ge i l.length with h1 | h1
    · exact h1
    · rw [List.getElem?_eq_none h1] at h; cases h
  rw [List.getElem?_eq_getElem hi] at h
  rw [List.set_set, ← Option.some.inj h]
  exact List.set_getElem_self hi
/-- Set to what was there, it is as it was. -/
theorem upd_back {y x0 : V} : ∀ (l : List Stp) (T T' : JT), UpdR T l y T' → getT T l = some (leafT x0) → (∀ l' t, getT T l' = some t → t = .node t.x t.ks t.ts) → UpdR T' l x0 T
  | [], _, _, h, _, _ => absurd h (by simp [UpdR])
  | [s], T, T', h, hg, hC => by
    rw [UpdR] at h ⊢
    have hT := hC [] T rfl
    have hs : step1 T s = some (leafT x0) := by
      rw [getT] at hg
      obtain ⟨t, e1, e2⟩ := Option.bind_eq_some_iff.1 hg
      rw [getT] at e2
      rw [e1, Option.some.inj e2]
    unfold step1 at hs
    obtain ⟨i, e1, e2⟩ := Option.bind_eq_some_iff.1 hs
    rcases h with ⟨j, h0, hj, rfl⟩ | ⟨h0, _⟩
    · rw [h0] at e1
      obtain rfl := Option.some.inj e1
      refine Or.inl ⟨j, by rw [node_x, node_ks, node_ts, List.length_set]; exact h0, by rw [node_ts, List.length_set]; exact hj, ?_⟩
      rw [node_x, node_ks, node_ts, set_same e2]
      exact hT
    · rw [h0] at e1; cases e1
  | s :: q :: r, T, T', h, hg, hC => by
    rw [UpdR] at h ⊢
    obtain ⟨i, t, t', h1, h2, h3, rfl⟩ := h
    have hT := hC [] T rfl
    have hs1 : step1 T s = some t := by unfold step1; rw [h1]; exact h2
    have hi : i < T.ts.length := by
      rcases Nat.lt_or_ge i T.ts.length with h | h
      · exact h
      · rw [List.getElem?_eq_none h] at h2; cases h2
    have hgt : getT t (q :: r) = some (leafT x0) := by
      rw [getT, hs1] at hg
      exact hg
    refine ⟨i, t', t, by rw [node_x, node_ks, node_ts, List.length_set]; exact h1, by rw [node_ts]; simp [hi], upd_back (q :: r) t t' h3 hgt (fun l' u hu => hC (s :: l') u (by rw [getT, hs1]; exact hu)), ?_⟩
    rw [node_x, node_ks, node_ts, set_same h2]
    exact hT
theorem canon_of {w : World} : ∀ (l : List Stp) {v : Value} {T : JT} (_ : IsT w v T) (t : JT), getT T l = some t → t = .node t.x t.ks t.ts
  | [], _, T, h, t, hg => by
    rw [getT] at hg
    obtain rfl := Option.some.inj hg
    exact h.inv.1
  | s :: r, _, T, h, t, hg => by
    rw [getT] at hg
    obtain ⟨u, h1, h2⟩ := Option.bind_eq_some_iff.1 hg
    unfold step1 at h1
    obtain ⟨i, _, h4⟩ := Option.bind_eq_some_iff.1 h1
    obtain ⟨_, uk, a, cap, us, _, _, hl, _, _, _, hk⟩ := h.inv
    have hi : i < T.ts.length := by
      rcases Nat.lt_or_ge i T.ts.length with h | h
      · exact h
      · rw [List.getElem?_eq_none h] at h4; cases h4
    have hu := hk i (by omega) hi
    rw [List.getElem?_eq_getElem hi] at h4
    rw [Option.some.inj h4] at hu
    exact canon_of r hu t h2
end Go.Proofs.YtnoikdlofkcgaaaGreatDoor
