/-
  What is proved: what becomes of a tree in which a value is set at the end of a path: it is a tree, the value is there; and set to what was there it is the tree that it was. a tree's text tells which tree it is, whatever stands behind it, if no number goes on there.
  Conditions: as each theorem says.
-/
import Derived.Test.YtnmdhbejjjmdeaaGreatDoorP08
import Derived.Test.YtnmdhbejjjmdeaaGreatDoorP07
namespace Go.Proofs.YtnmdhbejjjmdeaaGreatDoor
open Go.RowKit Go.Sort

/-- A tree of a value alone. -/
def leafT (y : V) : JT := .node y [] []
/-- Something put between. -/
def putL {α : Type} (l : List α) (i : Nat) (a : α) : List α := l.take i ++ a :: l.drop i
/-- A value set by one step: in the place of a kid, or at a new key. -/
def SetR (T : JT) (s : Stp) (y : V) (T' : JT) : Prop :=
  (∃ i, kidOf T.x T.ks T.ts.length s = some i ∧ i < T.ts.length ∧ T' = .node T.x T.ks (T.ts.set i (leafT y))) ∨
  (kidOf T.x T.ks T.ts.length s = none ∧ keyStep T.x s = true ∧ ∃ i, Found T.ks s.1.toList i false ∧ T' = .node T.x (putL T.ks i s.1) (putL T.ts i (leafT y)))
/-- A value set at the end of a path. -/
def UpdR : JT → List Stp → V → JT → Prop
  | _, [], _, _ => False
  | T, [s], y, T' => SetR T s y T'
  | T, s :: q :: r, y, T' => ∃ i t t', kidOf T.x T.ks T.ts.length s = some i ∧ T.ts[i]? = some t ∧ UpdR t (q :: r) y t' ∧ T' = .node T.x T.ks (T.ts.set i t')

theorem node_x (x : V) (ks : List ByteArray) (ts : List JT) : (JT.node x ks ts).x = x := rfl
theorem node_ks (x : V) (ks : List ByteArray) (ts : List JT) : (JT.node x ks ts).ks = ks := rfl

/-- Is it a tree? Of its node and its kids. -/
theorem formed_iff (T : JT) : formedB T = true ↔ nodeB T.x T.ks T.ts.length = true ∧ ∀ t ∈ T.ts, formedB t = true := by
  have h1 : formedB T = (nodeB T.x T.ks T.ts.length && formedsB T.ts) := by
    rw [formedB_eq]
  rw [h1, Bool.and_eq_true]
  have h2 : ∀ l : List JT, formedsB l = true ↔ ∀ t ∈ l, formedB t = true := by
    intro l
    induction l with
    | nil => simp [formedsB, eachsM]
    | cons t r ih =>
      have e : formedsB (t :: r) = (formedB t && formedsB r) := by
        unfold formedsB formedB
        rw [eachsM_cons]
        cases (eachM nodeS t ()).1 <;> simp
      rw [e, Bool.and_eq_true, ih, List.forall_mem_cons]
  rw [h2]
theorem leaf_formed {y : V} (h : valB y = true) : formedB (leafT y) = true := by
  rw [formed_iff]
  have e : (leafT y).ts = [] := node_ts y [] []
  rw [e]
  refine ⟨?_, fun t ht => by cases ht⟩
  have e2 : upB [] [] = true := rfl
  show nodeB y [] 0 = true
  unfold nodeB
  rw [h]
  simp [e2]

theorem mem_set_or {α : Type} {l : List α} {i : Nat} {a b : α} (h : b ∈ l.set i a) : b = a ∨ b ∈ l := by
  rcases List.mem_or_eq_of_mem_set h with h | h
  · exact Or.inr h
  · exact Or.inl h
theorem putL_len {α : Type} (l : List α) (i : Nat) (a : α) : (putL l i a).length = l.length + 1 := by
  unfold putL
  rw [List.length_append, List.length_cons, List.length_take, List.length_drop]
  omega
theorem putL_mem {α : Type} {l : List α} {i : Nat} {a b : α} (h : b ∈ putL l i a) : b = a ∨ b ∈ l := by
  unfold putL at h
  rcases List.mem_append.1 h with h | h
  · exact Or.inr (List.mem_of_mem_take h)
  · rcases List.mem_cons.1 h with h | h
    · exact Or.inl h
    · exact Or.inr (List.mem_of_mem_drop h)
theorem putL_at {α : Type} (l : List α) (i : Nat) (a : α) (hi : i ≤ l.length) : (putL l i a)[i]? = some a := by
  unfold putL
  rw [List.getElem?_append_right (by rw [List.length_take]; omega), List.length_take, Nat.min_eq_left hi, Nat.sub_self]
  rfl

/-- Keys that rise, and one put where it belongs. -/
theorem up_put : ∀ (ks : List ByteArray) (p : List UInt8) (key : ByteArray) (i : Nat), upB p ks = true → key.size ≤ 20 → p < key.toList → i ≤ ks.length → (∀ t (h : t < ks.length), t < i → ks[t].toList < key.toList) → (∀ t (h : t < ks.length), i ≤ t → key.toList < ks[t].toList) → upB p (putL ks i key) = true
  | [], p, key, i, _, hz, hp, _, _, _ => by
    have e : putL ([] : List ByteArray) i key = [key] := by unfold putL; simp
    rw [e, upB_cons]
    simp [hp, hz, upB]
  | k :: r, p, key, 0, h, hz, hp, _, _, h2 => by
    have e : putL (k :: r) 0 key = key :: k :: r := rfl
    rw [e, upB_cons, upB_cons]
    rw [upB_cons] at h
    simp only [Bool.and_eq_true, decide_eq_true_eq] at h ⊢
    exact ⟨hp, hz, h2 0 (by simp) (Nat.le_refl _), h.2.1, h.2.2⟩
  | k :: r, p, key, i + 1, h, hz, hp, hi, h1, h2 => by
    have e : putL (k :: r) (i + 1) key = k :: putL r i key := rfl
    rw [e, upB_cons]
    rw [upB_cons] at h
    simp only [Bool.and_eq_true, decide_eq_true_eq] at h ⊢
    refine ⟨h.1, h.2.1, up_put r k.toList key i h.2.2 hz (h1 0 (by simp) (Nat.succ_pos _)) (by simpa using hi) (fun t ht hlt => ?_) (fun t ht hle => ?_)⟩
    · have := h1 (t + 1) (by simpa using ht) (by omega)
      simpa using this
    · have := h2 (t + 1) (by simpa using ht) (by omega)
      simpa using this

/-- A key that is not there: all from its place on are behind it. -/
theorem found_no {ks : List ByteArray} {key : List UInt8} {i : Nat} (h : Found ks key i false) (hn : lookK ks key = none) : ∀ t (ht : t < ks.length), i ≤ t → key < ks[t].toList := by
  intro t ht hle
  have h1 := h.2.2.1 t ht hle
  have h2 := lookK_none hn t ht
  by_cases h' : key < ks[t].toList
  · exact h'
  · exact absurd (List.le_antisymm (List.not_lt.1 h') (List.not_lt.1 h1)) h2
theorem look_put : ∀ (ks : List ByteArray) (key : ByteArray) (i : Nat), i ≤ ks.length → (∀ t (h : t < ks.length), t < i → ks[t].toList < key.toList) → lookK (putL ks i key) key.toList = some i
  | [], key, i, hi, _ => by
    obtain rfl : i = 0 := by simpa using hi
    simp [putL, lookK]
  | k :: r, key, 0, _, _ => by
    have e : putL (k :: r) 0 key = key :: k :: r := rfl
    rw [e]; simp [lookK]
  | k :: r, key, i + 1, hi, h1 => by
    have e : putL (k :: r) (i + 1) key = k :: putL r i key := rfl
    have hne : k.toList ≠ key.toList := fun e => by
      have := h1 0 (by simp) (Nat.succ_pos _)
      simp only [List.getElem_cons_zero] at this
      rw [e] at this
      exact List.lt_irrefl _ this
    rw [e, lookK, if_neg hne, look_put r key i (by simpa using hi) (fun t ht hlt => by
      have := h1 (t + 1) (by simpa using ht) (by omega)
      simpa using this)]
    rfl

theorem keyStep_parts {x : V} {s : Stp} (h : keyStep x s = true) : x.k = 5 ∧ s.1.toList ≠ [] ∧ s.2 = 0 := by
  unfold keyStep at h
  simp only [Bool.and_eq_true, decide_eq_true_eq, Bool.not_eq_true', List.isEmpty_eq_false_iff] at h
  exact h
theorem nodeB_map {x : V} {ks : List ByteArray} {n : Nat} (h5 : x.k = 5) : nodeB x ks n = true ↔ valB x = true ∧ ks.length = n ∧ upB [] ks = true := by
  unfold nodeB
  rw [if_pos h5]
  simp [Bool.and_eq_true]

/-- A set tree is a tree. -/
theorem set_formed {T T' : JT} {s : Stp} {y : V} (h : SetR T s y T') (hf : formedB T = true) (hv : valB y = true) (hs : s.1.size ≤ 20) : formedB T' = true := by
  obtain ⟨hn, hk⟩ := (formed_iff T).1 hf
  rcases h with ⟨i, _, hi, rfl⟩ | ⟨h0, h1, i, hF, rfl⟩
  · rw [formed_iff, node_x, node_ks, node_ts, List.length_set]
    refine ⟨hn, fun t ht => ?_⟩
    rcases mem_set_or ht with e | e
    · rw [e]; exact leaf_formed hv
    · exact hk t e
  · obtain ⟨h5, hne, _⟩ := keyStep_parts h1
    obtain ⟨n1, n2, n3⟩ := (nodeB_map h5).1 hn
    have hl : lookK T.ks s.1.toList = none := by
      unfold kidOf at h0
      rwa [if_pos h1] at h0
    rw [formed_iff, node_x, node_ks, node_ts]
    refine ⟨(nodeB_map h5).2 ⟨n1, by rw [putL_len, putL_len, n2], up_put T.ks [] s.1 i n3 hs ?_ hF.1 hF.2.1 (found_no hF hl)⟩, fun t ht => ?_⟩
    · cases hb : s.1.toList with
      | nil => exact absurd hb hne
      | cons a r => exact List.nil_lt_cons a r
    · rcases putL_mem ht with e | e
      · rw [e]; exact leaf_formed hv
      · exact hk t e
theorem upd_formed {y : V} (hv : valB y = true) : ∀ (l : List Stp) (T T' : JT), UpdR T l y T' → formedB T = true → (∀ s ∈ l, s.1.size ≤ 20) → formedB T' = true
  | [], T, T', h, _, _ => absurd h (by simp [UpdR])
  | [s], T, T', h, hf, hl => set_formed (by simpa [UpdR] using h) hf hv (hl s (by simp))
  | s :: q :: r, T, T', h, hf, hl => by
    rw [UpdR] at h
    obtain ⟨i, t, t', h1, h2, h3, rfl⟩ := h
    obtain ⟨hn, hk⟩ := (formed_iff T).1 hf
    rw [formed_iff, node_x, node_ks, node_ts, List.length_set]
    refine ⟨hn, fun u hu => ?_⟩
    rcases mem_set_or hu with e | e
    · rw [e]; exact upd_formed hv (q :: r) t t' h3 (hk t (List.mem_of_getElem? h2)) (fun s hs => hl s (List.mem_cons_of_mem _ hs))
    · exact hk u e

/-- The value is there. -/
theorem set_get {T T' : JT} {s : Stp} {y : V} (h : SetR T s y T') (hf : formedB T = true) : kidOf T'.x T'.ks T'.ts.length s ≠ none ∧ step1 T' s = some (leafT y) := by
  rcases h with ⟨i, h0, hi, rfl⟩ | ⟨h0, h1, i, hF, rfl⟩
  · unfold step1
    rw [node_x, node_ks, node_ts, List.length_set, h0]
    refine ⟨by simp, ?_⟩
    simp [hi]
  · have hl : kidOf (JT.node T.x (putL T.ks i s.1) (putL T.ts i (leafT y))).x (JT.node T.x (putL T.ks i s.1) (putL T.ts i (leafT y))).ks (JT.node T.x (putL T.ks i s.1) (putL T.ts i (leafT y))).ts.length s = some i := by
      rw [node_x, node_ks]
      unfold kidOf
      rw [if_pos h1]
      exact look_put T.ks s.1 i hF.1 hF.2.1
    unfold step1
    rw [hl, node_ts]
    refine ⟨by simp, ?_⟩
    have hlen := ((nodeB_map (keyStep_parts h1).1).1 ((formed_iff T).1 hf).1).2.1
    exact putL_at T.ts i (leafT y) (by have := hF.1; omega)
theorem upd_get {y : V} : ∀ (l : List Stp) (T T' : JT), UpdR T l y T' → formedB T = true → getT T' l = some (leafT y)
  | [], T, T', h, _ => absurd h (by simp [UpdR])
  | [s], T, T', h, hf => by
    rw [UpdR] at h
    rw [getT, (set_get h hf).2]
    rfl
  | s :: q :: r, T, T', h, hf => by
    rw [UpdR] at h
    obtain ⟨i, t, t', h1, h2, h3, rfl⟩ := h
    have hi : i < T.ts.length := by
      rcases Nat.lt_or_ge i T.ts.length with h | h
      · exact h
      · rw [List.getElem?_eq_none h] at h2; cases h2
    have e : step1 (JT.node T.x T.ks (T.ts.set i t')) s = some t' := by
      unfold step1
      rw [node_x, node_ks, node_ts, List.length_set, h1]
      simp [hi]
    rw [getT, e]
    exact upd_get (q :: r) t t' h3 (((formed_iff T).1 hf).2 t (List.mem_of_getElem? h2))

theorem found_one {ks : List ByteArray} {key : List UInt8} {i j : Nat} (h : Found ks key i false) (h' : Found ks key j false) : i = j := by
  rcases Nat.lt_trichotomy i j with e | e | e
  · have hl : i < ks.length := by have := h'.1; omega
    exact absurd (h'.2.1 i hl e) (h.2.2.1 i hl (Nat.le_refl _))
  · exact e
  · have hl : j < ks.length := by have := h.1; omega
    exact absurd (h.2.1 j hl e) (h'.2.2.1 j hl (Nat.le_refl _))
theorem set_one {T A B : JT} {s : Stp} {y : V} (h : SetR T s y A) (h' : SetR T s y B) : A = B := by
  rcases h with ⟨i, h0, _, rfl⟩ | ⟨h0, _, i, hF, rfl⟩ <;> rcases h' with ⟨j, g0, _, rfl⟩ | ⟨g0, _, j, gF, rfl⟩
  · rw [h0] at g0
    rw [Option.some.inj g0]
  · rw [h0] at g0; cases g0
  · rw [h0] at g0; cases g0
  · rw [found_one hF gF]
theorem upd_one {y : V} : ∀ (l : List Stp) (T A B : JT), UpdR T l y A → UpdR T l y B → A = B
  | [], _, _, _, h, _ => absurd h (by simp [UpdR])
  | [s], T, A, B, h, h' => set_one (by simpa [UpdR] using h) (by simpa [UpdR] using h')
  | s :: q :: r, T, A, B, h, h' => by
    rw [UpdR] at h h'
    obtain ⟨i, t, t', h1, h2, h3, rfl⟩ := h
    obtain ⟨j, u, u', g1, g2, g3, rfl⟩ := h'
    rw [h1] at g1
    obtain rfl := Option.some.inj g1
    rw [h2] at g2
    obtain rfl := Option.some.inj g2
    rw [upd_one (q :: r) t t' u' h3 g3]
theorem set_same {α : Type} {l : List α} {i : Nat} {a b : α} (h : l[i]? = some a) : (l.set i b).set i a = l := by
  have hi : i < l.length := by
    rcases Nat.lt_or_ge i l.length with h1 | h1
    · exact h1
    · rw [List.getElem?_eq_none h1] at h; cases h
  rw [List.getElem?_eq_getElem hi] at h
  rw [List.set_set, ← Option.some.inj h]
  exact List.set_getElem_self hi
/-- Set to what was there, it is as it was. -/
theorem upd_back {y x0 : V} : ∀ (l : List Stp) (T T' : JT), UpdR T l y T' → getT T l = some (leafT x0) → (∀ l' t, getT T l' = some t → t = .node t.x t.ks t.ts) → UpdR T' l x0 T
  | [], _, _, h, _, _ => absurd h (by simp [UpdR])
  | [s], T, T', h, hg, hC => by
    rw [UpdR] at h ⊢
    have hT := hC [] T rfl
    have hs : step1 T s = some (leafT x0) := by
      rw [getT] at hg
      obtain ⟨t, e1, e2⟩ := Option.bind_eq_some_iff.1 hg
      rw [getT] at e2
      rw [e1, Option.some.inj e2]
    unfold step1 at hs
    obtain ⟨i, e1, e2⟩ := Option.bind_eq_some_iff.1 hs
    rcases h with ⟨j, h0, hj, rfl⟩ | ⟨h0, _⟩
    · rw [h0] at e1
      obtain rfl := Option.some.inj e1
      refine Or.inl ⟨j, by rw [node_x, node_ks, node_ts, List.length_set]; exact h0, by rw [node_ts, List.length_set]; exact hj, ?_⟩
      rw [node_x, node_ks, node_ts, set_same e2]
      exact hT
    · rw [h0] at e1; cases e1
  | s :: q :: r, T, T', h, hg, hC => by
    rw [UpdR] at h ⊢
    obtain ⟨i, t, t', h1, h2, h3, rfl⟩ := h
    have hT := hC [] T rfl
    have hs1 : step1 T s = some t := by unfold step1; rw [h1]; exact h2
    have hi : i < T.ts.length := by
      rcases Nat.lt_or_ge i T.ts.length with h | h
      · exact h
      · rw [List.getElem?_eq_none h] at h2; cases h2
    have hgt : getT t (q :: r) = some (leafT x0) := by
      rw [getT, hs1] at hg
      exact hg
    refine ⟨i, t', t, by rw [node_x, node_ks, node_ts, List.length_set]; exact h1, by rw [node_ts]; simp [hi], upd_back (q :: r) t t' h3 hgt (fun l' u hu => hC (s :: l') u (by rw [getT, hs1]; exact hu)), ?_⟩
    rw [node_x, node_ks, node_ts, set_same h2]
    exact hT
theorem canon_of {w : World} : ∀ (l : List Stp) {v : Value} {T : JT} (_ : IsT w v T) (t : JT), getT T l = some t → t = .node t.x t.ks t.ts
  | [], _, T, h, t, hg => by
    rw [getT] at hg
    obtain rfl := Option.some.inj hg
    exact h.inv.1
  | s :: r, _, T, h, t, hg => by
    rw [getT] at hg
    obtain ⟨u, h1, h2⟩ := Option.bind_eq_some_iff.1 hg
    unfold step1 at h1
    obtain ⟨i, _, h4⟩ := Option.bind_eq_some_iff.1 h1
    obtain ⟨_, uk, a, cap, us, _, _, hl, _, _, _, hk⟩ := h.inv
    have hi : i < T.ts.length := by
      rcases Nat.lt_or_ge i T.ts.length with h | h
      · exact h
      · rw [List.getElem?_eq_none h] at h4; cases h4
    have hu := hk i (by omega) hi
    rw [List.getElem?_eq_getElem hi] at h4
    rw [Option.some.inj h4] at hu
    exact canon_of r hu t h2
end Go.Proofs.YtnmdhbejjjmdeaaGreatDoor

namespace Go.Proofs.YtnmdhbejjjmdeaaGreatDoor
open Go.RowKit Go.Sort

theorem ba_loopR (b : ByteArray) : ∀ (n i : Nat) (r : List UInt8), b.size - i = n → ByteArray.toList.loop b i r = r.reverse ++ b.data.toList.drop i := by
  intro n
  induction n with
  | zero =>
    intro i r h
    unfold ByteArray.toList.loop
    have hs : ¬ i < b.size := by omega
    rw [if_neg hs]
    have : b.data.toList.drop i = [] := List.drop_eq_nil_of_le (by rw [Array.length_toList]; exact Nat.le_of_not_lt hs)
    rw [this]; simp
  | succ n ih =>
    intro i r h
    unfold ByteArray.toList.loop
    have hs : i < b.size := by omega
    rw [if_pos hs, ih (i + 1) _ (by omega)]
    have hl : i < b.data.toList.length := by rw [Array.length_toList]; exact hs
    rw [List.drop_eq_getElem_cons hl]
    have e : b.get! i = b.data.toList[i] := by
      cases b with
      | mk d =>
        simp only [ByteArray.get!]
        have hd : i < d.size := hs
        simp [getElem!_pos, hd]
    rw [e]
    simp
theorem ba_listR (b : ByteArray) : b.toList = b.data.toList := by
  unfold ByteArray.toList
  rw [ba_loopR b _ 0 [] rfl]
  simp
theorem ba_toL {a b : ByteArray} (h : a.toList = b.toList) : a = b := by
  rw [ba_listR, ba_listR] at h
  apply ByteArray.ext
  exact Array.toList_inj.1 h
/-- Is it a digit, or the sign? -/
def digB (c : UInt8) : Bool := decide (c.toNat = 45) || (decide (48 ≤ c.toNat) && decide (c.toNat ≤ 57))
/-- No number goes on here. -/
def bnd (r : List UInt8) : Prop := ∀ c ∈ r.head?, digB c = false
theorem dig_of (d : Nat) (h : d < 10) : digB (UInt8.ofNat (48 + d)) = true := by
  unfold digB
  have e : (UInt8.ofNat (48 + d)).toNat = 48 + d := by
    rw [UInt8.toNat_ofNat']
    omega
  rw [e]
  simp
  omega
theorem dec_dig (u : Nat) : ∀ c ∈ Lib.decDigits u, digB c = true := by
  induction u using Nat.strongRecOn with
  | _ u ih =>
    intro c hc
    rw [Lib.decDigits] at hc
    by_cases h : u < 10
    · rw [dif_pos h] at hc
      rw [List.mem_singleton.1 hc]
      exact dig_of u h
    · rw [dif_neg h] at hc
      rcases List.mem_append.1 hc with hc | hc
      · exact ih (u / 10) (by omega) c hc
      · rw [List.mem_singleton.1 hc]
        exact dig_of _ (by omega)
theorem decR_ne (u : Nat) : Lib.decDigits u ≠ [] := by
  intro h
  have := Lib.decDigits_length u
  rw [h] at this
  have := Lib.nDigits_pos u
  simp at *
  omega
/-- The number that digits say. -/
def valD (l : List UInt8) : Nat := l.foldl (fun a c => a * 10 + (c.toNat - 48)) 0
theorem val_dec (u : Nat) : valD (Lib.decDigits u) = u := by
  induction u using Nat.strongRecOn with
  | _ u ih =>
    rw [Lib.decDigits]
    by_cases h : u < 10
    · rw [dif_pos h]
      have e : (UInt8.ofNat (48 + u)).toNat = 48 + u := by
        rw [UInt8.toNat_ofNat']
        omega
      simp only [valD, List.foldl_cons, List.foldl_nil, e]
      omega
    · rw [dif_neg h]
      have := ih (u / 10) (by omega)
      unfold valD at this ⊢
      rw [List.foldl_append, this]
      simp
      omega
theorem dec_inj {u v : Nat} (h : Lib.decDigits u = Lib.decDigits v) : u = v := by
  rw [← val_dec u, h, val_dec]
theorem dec_sign (u : Nat) (r : List UInt8) : Lib.decDigits u ≠ 45 :: r := by
  induction u using Nat.strongRecOn generalizing r with
  | _ u ih =>
    intro h
    rw [Lib.decDigits] at h
    by_cases hu : u < 10
    · rw [dif_pos hu] at h
      have h1 := congrArg UInt8.toNat (List.cons.inj h).1
      rw [UInt8.toNat_ofNat'] at h1
      have : (45 : UInt8).toNat = 45 := rfl
      omega
    · rw [dif_neg hu] at h
      cases hd : Lib.decDigits (u / 10) with
      | nil => exact decR_ne _ hd
      | cons c t =>
        rw [hd] at h
        have h1 := (List.cons.inj h).1
        rw [h1] at hd
        exact ih (u / 10) (by omega) t hd
theorem itoa_dig (n : Int) : ∀ c ∈ Lib.itoa n, digB c = true := by
  intro c hc
  unfold Lib.itoa at hc
  split at hc
  · rcases List.mem_cons.1 hc with e | e
    · rw [e]; rfl
    · exact dec_dig _ c e
  · exact dec_dig _ c hc
theorem itoa_inj {n m : Int} (h : Lib.itoa n = Lib.itoa m) : n = m := by
  unfold Lib.itoa at h
  by_cases h1 : n < 0 <;> by_cases h2 : m < 0
  · rw [if_pos h1, if_pos h2] at h
    have := dec_inj (List.cons.inj h).2
    omega
  · rw [if_pos h1, if_neg h2] at h
    exact absurd h.symm (dec_sign _ _)
  · rw [if_neg h1, if_pos h2] at h
    exact absurd h (dec_sign _ _)
  · rw [if_neg h1, if_neg h2] at h
    have := dec_inj h
    omega
theorem itoa_head (n : Int) : ∃ c t, Lib.itoa n = c :: t ∧ digB c = true := by
  cases h : Lib.itoa n with
  | nil =>
    unfold Lib.itoa at h
    split at h
    · cases h
    · exact absurd h (decR_ne _)
  | cons c t => exact ⟨c, t, rfl, itoa_dig n c (by rw [h]; exact List.mem_cons_self)⟩
theorem split_dig : ∀ {a b r r' : List UInt8}, (∀ c ∈ a, digB c = true) → (∀ c ∈ b, digB c = true) → a ++ r = b ++ r' → bnd r → bnd r' → a = b ∧ r = r'
  | [], [], r, r', _, _, h, _, _ => ⟨rfl, h⟩
  | [], c :: b, r, r', _, hb, h, hr, _ => by
    have e : r = c :: (b ++ r') := h
    have h1 := hr c (by rw [e]; rfl)
    rw [hb c List.mem_cons_self] at h1
    cases h1
  | c :: a, [], r, r', ha, _, h, _, hr => by
    have e : r' = c :: (a ++ r) := h.symm
    have h1 := hr c (by rw [e]; rfl)
    rw [ha c List.mem_cons_self] at h1
    cases h1
  | c :: a, d :: b, r, r', ha, hb, h, hr, hr' => by
    have e := List.cons.inj h
    obtain ⟨h1, h2⟩ := split_dig (fun x hx => ha x (List.mem_cons_of_mem _ hx)) (fun x hx => hb x (List.mem_cons_of_mem _ hx)) e.2 hr hr'
    exact ⟨by rw [e.1, h1], h2⟩
theorem quote_uniq {k k' r r' : List UInt8} (h : quote k ++ r = quote k' ++ r') : k = k' ∧ r = r' := by
  have h1 := unq_quote k r
  rw [h, unq_quote k' r'] at h1
  have h2 := Option.some.inj h1
  have e : k' = k := (Prod.mk.inj h2).1
  subst e
  exact ⟨rfl, List.append_cancel_left h⟩
theorem ba_eq {a b : ByteArray} (h : a.data.toList = b.data.toList) : a = b := by
  apply ByteArray.ext
  exact Array.toList_inj.1 h
/-- A value's fields, by its kind. -/
theorem val_parts {v : V} (h : valB v = true) : v.o = 0 ∧ v.a = 0 ∧ (v.k = 0 ∨ v.k = 1 ∨ v.k = 2 ∨ v.k = 3 ∨ v.k = 5 ∨ v.k = 6) ∧ (v.k ≠ 1 → v.k ≠ 2 → v.n = 0) ∧ (v.k ≠ 3 → v.t.toList = []) ∧ (v.k = 1 → v.n = 0 ∨ v.n = 1) := by
  obtain ⟨k, n, t, o, a⟩ := v
  unfold valB okB usedB sameB onlyV at h
  simp only [Bool.and_eq_true, decide_eq_true_eq, beq_iff_eq] at h
  obtain ⟨⟨h1, h2, h3, h4, h5, h6⟩, h7, h8, h9⟩ := h
  dsimp only at *
  refine ⟨h8, h9, ?_, fun n1 n2 => ?_, fun n3 => ?_, fun n1 => ?_⟩
  · split at h1
    · omega
    · split at h1
      · omega
      · split at h1
        · omega
        · split at h1
          · omega
          · cases h1
  · rw [h3]
    split
    · omega
    · split
      · rfl
      · split <;> rfl
  · rw [h4]
    split
    · exact no_bytes
    · split <;> exact no_bytes
  · rw [if_neg (by omega), if_pos n1] at h1
    exact of_decide_eq_true h1
theorem val_eq {v v' : V} (h : valB v = true) (h' : valB v' = true) (hk : v.k = v'.k) (hn : v.k = 1 ∨ v.k = 2 → v.n = v'.n) (ht : v.k = 3 → v.t = v'.t) : v = v' := by
  have p := val_parts h
  have p' := val_parts h'
  have et : v.t = v'.t := by
    by_cases h3 : v.k = 3
    · exact ht h3
    · have e1 := p.2.2.2.2.1 h3
      have e2 := p'.2.2.2.2.1 (by omega)
      exact ba_toL (e1.trans e2.symm)
  have en : v.n = v'.n := by
    by_cases h1 : v.k = 1 ∨ v.k = 2
    · exact hn h1
    · rw [p.2.2.2.1 (by omega) (by omega), p'.2.2.2.1 (by omega) (by omega)]
  obtain ⟨k, n, t, o, a⟩ := v
  obtain ⟨k', n', t', o', a'⟩ := v'
  dsimp only at *
  rw [hk, en, et, p.1, p'.1, p.2.1, p'.2.1]
/-- What a value's text begins with. -/
def headOf (v : V) (c : UInt8) : Prop := (v.k = 0 ∧ c = 110) ∨ (v.k = 1 ∧ (c = 116 ∨ c = 102)) ∨ (v.k = 2 ∧ digB c = true) ∨ (v.k = 3 ∧ c = 34) ∨ (v.k = 5 ∧ c = 123) ∨ (v.k = 6 ∧ c = 91)
theorem show_head {v : V} (h : valB v = true) (h5 : v.k ≠ 5) (h6 : v.k ≠ 6) : ∃ c t, showV v = c :: t ∧ headOf v c := by
  have p := (val_parts h).2.2.1
  unfold showV headOf
  by_cases h1 : v.k = 1
  · rw [if_pos h1]
    split
    · exact ⟨_, _, rfl, by simp [h1]⟩
    · exact ⟨_, _, rfl, by simp [h1]⟩
  · rw [if_neg h1]
    by_cases h2 : v.k = 2
    · rw [if_pos (Or.inl h2)]
      obtain ⟨c, t, e, hd⟩ := itoa_head v.n
      exact ⟨c, t, e, by simp [h2, hd]⟩
    · have h4 : v.k ≠ 4 := by omega
      rw [if_neg (by omega)]
      by_cases h3 : v.k = 3
      · rw [if_pos h3]
        exact ⟨34, _, rfl, by simp [h3]⟩
      · rw [if_neg h3]
        exact ⟨110, _, rfl, by left; exact ⟨by omega, rfl⟩⟩
theorem txt_head {T : JT} (h : formedB T = true) : ∃ c t, txtT T = c :: t ∧ headOf T.x c := by
  rw [txtT_eq]
  unfold wrapT
  by_cases h5 : T.x.k = 5
  · rw [if_pos h5]
    exact ⟨123, _, rfl, by unfold headOf; simp [h5]⟩
  · rw [if_neg h5]
    by_cases h6 : T.x.k = 6
    · rw [if_pos h6]
      exact ⟨91, _, rfl, by unfold headOf; simp [h6]⟩
    · rw [if_neg h6]
      exact show_head (formed_val h) h5 h6
theorem dig_not {c : UInt8} (h : digB c = true) : c ≠ 110 ∧ c ≠ 116 ∧ c ≠ 102 ∧ c ≠ 34 ∧ c ≠ 123 ∧ c ≠ 91 ∧ c ≠ 93 ∧ c ≠ 125 ∧ c ≠ 44 := by
  refine ⟨?_, ?_, ?_, ?_, ?_, ?_, ?_, ?_, ?_⟩ <;> (rintro rfl; revert h; decide)
theorem head_one {v v' : V} {c : UInt8} (h : headOf v c) (h' : headOf v' c) : v.k = v'.k := by
  unfold headOf at h h'
  rcases h with ⟨e, g⟩ | ⟨e, g⟩ | ⟨e, g⟩ | ⟨e, g⟩ | ⟨e, g⟩ | ⟨e, g⟩ <;> rcases h' with ⟨e', g'⟩ | ⟨e', g'⟩ | ⟨e', g'⟩ | ⟨e', g'⟩ | ⟨e', g'⟩ | ⟨e', g'⟩ <;> first | omega | (exfalso; have q := dig_not g; simp_all; done) | (exfalso; have q := dig_not g'; simp_all; done) | (exfalso; simp_all; done) | (exfalso; rcases g with g | g <;> simp_all; done) | (exfalso; rcases g' with g' | g' <;> simp_all; done)
theorem head_not {v : V} {c : UInt8} (h : headOf v c) : c ≠ 93 ∧ c ≠ 125 ∧ c ≠ 44 := by
  unfold headOf at h
  rcases h with ⟨_, g⟩ | ⟨_, g | g⟩ | ⟨_, g⟩ | ⟨_, g⟩ | ⟨_, g⟩ | ⟨_, g⟩
  · rw [g]; decide
  · rw [g]; decide
  · rw [g]; decide
  · have q := dig_not g
    exact ⟨q.2.2.2.2.2.2.1, q.2.2.2.2.2.2.2.1, q.2.2.2.2.2.2.2.2⟩
  · rw [g]; decide
  · rw [g]; decide
  · rw [g]; decide
/-- A plain value's text tells which it is. -/
theorem show_uniq {v v' : V} {r r' : List UInt8} (h : valB v = true) (h' : valB v' = true) (hk : v.k = v'.k) (e : showV v ++ r = showV v' ++ r') (hb : v.k = 2 → bnd r) (hb' : v'.k = 2 → bnd r') : v = v' ∧ r = r' := by
  have p := val_parts h
  have p' := val_parts h'
  unfold showV at e
  rw [← hk] at e
  by_cases h1 : v.k = 1
  · rw [if_pos h1, if_pos h1] at e
    have n1 := p.2.2.2.2.2 h1
    have n2 := p'.2.2.2.2.2 (by omega)
    by_cases e1 : v.n = 1 <;> by_cases e2 : v'.n = 1
    · rw [if_pos e1, if_pos e2] at e
      exact ⟨val_eq h h' hk (fun _ => by omega) (fun h3 => by omega), List.append_cancel_left e⟩
    · rw [if_pos e1, if_neg e2] at e
      exact absurd (List.cons.inj e).1 (by decide)
    · rw [if_neg e1, if_pos e2] at e
      exact absurd (List.cons.inj e).1 (by decide)
    · rw [if_neg e1, if_neg e2] at e
      exact ⟨val_eq h h' hk (fun _ => by omega) (fun h3 => by omega), List.append_cancel_left e⟩
  · rw [if_neg h1, if_neg h1] at e
    by_cases h2 : v.k = 2
    · rw [if_pos (Or.inl h2), if_pos (Or.inl h2)] at e
      obtain ⟨g1, g2⟩ := split_dig (itoa_dig _) (itoa_dig _) e (hb h2) (hb' (by omega))
      exact ⟨val_eq h h' hk (fun _ => itoa_inj g1) (fun h3 => by omega), g2⟩
    · have h24 : ¬ (v.k = 2 ∨ v.k = 4) := by have := p.2.2.1; omega
      rw [if_neg h24, if_neg h24] at e
      by_cases h3 : v.k = 3
      · rw [if_pos h3, if_pos h3] at e
        obtain ⟨g1, g2⟩ := quote_uniq e
        exact ⟨val_eq h h' hk (fun h9 => by omega) (fun _ => ba_eq g1), g2⟩
      · rw [if_neg h3, if_neg h3] at e
        exact ⟨val_eq h h' hk (fun h9 => by omega) (fun h9 => by omega), List.append_cancel_left e⟩

theorem nodeB_list' {x : V} {ks : List ByteArray} {n : Nat} (h6 : x.k = 6) : nodeB x ks n = true ↔ valB x = true ∧ ks = [] := by
  unfold nodeB
  rw [if_neg (by omega), if_pos h6]
  simp [Bool.and_eq_true]
theorem leaf_parts {T : JT} (h5 : T.x.k ≠ 5) (h6 : T.x.k ≠ 6) (h : nodeB T.x T.ks T.ts.length = true) : T.ks = [] ∧ T.ts = [] := by
  unfold nodeB at h
  rw [if_neg h5, if_neg h6] at h
  simp only [Bool.and_eq_true, decide_eq_true_eq, List.isEmpty_iff] at h
  exact ⟨h.2.1, List.length_eq_zero_iff.1 h.2.2⟩
/-- Trees as they are made of lists. -/
def CanF : JF → Prop
  | .nil => True
  | .node b o _ l r => (b = 0 ∧ o = 0) ∧ CanF l ∧ CanF r
def CanT (T : JT) : Prop := CanF T.kids
theorem can_to : ∀ (f : JF), CanF f → f = ofL (toL f) ∧ ∀ t ∈ toL f, CanT t
  | .nil, _ => ⟨rfl, fun t h => by cases h⟩
  | .node b o a l r, h => by
    obtain ⟨⟨rfl, rfl⟩, h1, h2⟩ := h
    obtain ⟨e, g⟩ := can_to r h2
    refine ⟨by rw [toL, ofL, ← e], fun t ht => ?_⟩
    rw [toL] at ht
    rcases List.mem_cons.1 ht with e2 | e2
    · rw [e2]; exact h1
    · exact g t e2
theorem can_node {T : JT} (h : CanT T) : T = .node T.x T.ks T.ts := by
  obtain ⟨⟨x, ks⟩, f⟩ := T
  show _ = JT.mk (x, ks) (ofL (toL f))
  rw [← (can_to f h).1]
theorem isG_can {S : Value → List ByteArray → Prop} {R : Option Addr → List TV → Prop} : ∀ (f : JF) (us : List TV), IsG S R f us → CanF f
  | .nil, _, _ => trivial
  | .node _ _ _ l r, us, h => by
    obtain ⟨e, uk, a, cap, us', rest, _, _, _, _, _, h5, h6⟩ := h
    exact ⟨e, isG_can l us' h5, isG_can r rest h6⟩
theorem isT_can {S : Value → List ByteArray → Prop} {R : Option Addr → List TV → Prop} {v : Value} {T : JT} (h : IsTG S R v T) : CanT T := by
  obtain ⟨_, _, _, us, _, _, _, _, _, h5⟩ := h
  exact isG_can _ us h5
theorem list_uniq {n : Nat} {m : Bool} {e : UInt8} (he : e = 93 ∨ e = 125)
    (ih : ∀ (T T' : JT) (r r' : List UInt8), T.size < n → formedB T = true → formedB T' = true → CanT T → CanT T' → txtT T ++ r = txtT T' ++ r' → (T.x.k = 2 → bnd r) → (T'.x.k = 2 → bnd r') → T = T' ∧ r = r') :
    ∀ (ts ts' : List JT) (ks ks' : List ByteArray) (i : Nat) (r r' : List UInt8), sizes ts < n → (∀ t ∈ ts, formedB t = true ∧ CanT t) → (∀ t ∈ ts', formedB t = true ∧ CanT t) → (m = true → i + ts.length = ks.length ∧ i + ts'.length = ks'.length) →
      txtL m ks ts i ++ e :: r = txtL m ks' ts' i ++ e :: r' → ts = ts' ∧ (m = true → ks.drop i = ks'.drop i) ∧ r = r' := by
  have he44 : e ≠ 44 := by rcases he with h | h <;> rw [h] <;> decide
  have he34 : e ≠ 34 := by rcases he with h | h <;> rw [h] <;> decide
  have hhead : ∀ (t : JT) (ks : List ByteArray) (i : Nat) (x : List UInt8) (r : List UInt8), formedB t = true → (sep i ++ (keyT m ks i ++ txtT t)) ++ x ≠ e :: r := by
    intro t ks i x r hf h
    obtain ⟨c, t', e1, hc⟩ := txt_head hf
    have hn := head_not hc
    unfold sep keyT at h
    by_cases h0 : i = 0
    · rw [if_pos h0] at h
      by_cases hm : m = true
      · rw [if_pos hm] at h
        have := (List.cons.inj h).1
        exact he34 this.symm
      · rw [if_neg hm, e1] at h
        have := (List.cons.inj h).1
        rcases he with h9 | h9
        · exact hn.1 (this.trans h9)
        · exact hn.2.1 (this.trans h9)
    · rw [if_neg h0] at h
      have := (List.cons.inj h).1
      exact he44 this.symm
  have hrest : ∀ (ts : List JT) (ks : List ByteArray) (i : Nat) (r : List UInt8), bnd (txtL m ks ts (i + 1) ++ e :: r) := by
    intro ts ks i r c hc
    cases ts with
    | nil =>
      rw [txtL_nil] at hc
      obtain rfl : e = c := by simpa using hc
      rcases he with h | h <;> rw [h] <;> decide
    | cons t a =>
      rw [txtL_cons] at hc
      unfold sep at hc
      rw [if_neg (by omega)] at hc
      obtain rfl : (44 : UInt8) = c := by simpa using hc
      decide
  intro ts
  induction ts with
  | nil =>
    intro ts' ks ks' i r r' _ _ hf' hk h
    cases ts' with
    | nil =>
      rw [txtL_nil, txtL_nil] at h
      refine ⟨rfl, fun hm => ?_, (List.cons.inj h).2⟩
      have := hk hm
      rw [List.drop_eq_nil_of_le (by simp at this; omega), List.drop_eq_nil_of_le (by simp at this; omega)]
    | cons t a =>
      rw [txtL_nil, txtL_cons, List.append_assoc] at h
      exact absurd h.symm (hhead t ks' i _ r (hf' t List.mem_cons_self).1)
  | cons t a iha =>
    intro ts' ks ks' i r r' hsz hf hf' hk h
    cases ts' with
    | nil =>
      rw [txtL_nil, txtL_cons, List.append_assoc] at h
      exact absurd h (hhead t ks i _ r' (hf t List.mem_cons_self).1)
    | cons t' a' =>
      rw [txtL_cons, txtL_cons] at h
      simp only [List.append_assoc] at h
      have h1 := List.append_cancel_left h
      rw [sizes] at hsz
      have hp := size_pos t
      have key : (m = true → ks[i]? = ks'[i]?) ∧ txtT t ++ (txtL m ks a (i + 1) ++ e :: r) = txtT t' ++ (txtL m ks' a' (i + 1) ++ e :: r') := by
        by_cases hm : m = true
        · unfold keyT at h1
          rw [if_pos hm, if_pos hm] at h1
          simp only [List.append_assoc] at h1
          obtain ⟨g1, g2⟩ := quote_uniq h1
          refine ⟨fun _ => ?_, List.append_cancel_left g2⟩
          have := hk hm
          simp only [List.length_cons] at this
          have hi1 : i < ks.length := by omega
          have hi2 : i < ks'.length := by omega
          rw [List.getElem?_eq_getElem hi1, List.getElem?_eq_getElem hi2] at g1 ⊢
          simp only [Option.getD_some] at g1
          rw [ba_eq g1]
        · unfold keyT at h1
          rw [if_neg hm, if_neg hm] at h1
          exact ⟨fun h9 => absurd h9 hm, h1⟩
      obtain ⟨g1, g2⟩ := ih t t' _ _ (by omega) (hf t List.mem_cons_self).1 (hf' t' List.mem_cons_self).1 (hf t List.mem_cons_self).2 (hf' t' List.mem_cons_self).2 key.2 (fun _ => hrest a ks i r) (fun _ => hrest a' ks' i r')
      obtain ⟨g3, g4, g5⟩ := iha a' ks ks' (i + 1) r r' (by omega) (fun t ht => hf t (List.mem_cons_of_mem _ ht)) (fun t ht => hf' t (List.mem_cons_of_mem _ ht)) (fun hm => by
        have := hk hm
        simp only [List.length_cons] at this
        omega) g2
      refine ⟨by rw [g1, g3], fun hm => ?_, g5⟩
      have := hk hm
      simp only [List.length_cons] at this
      have e1 := key.1 hm
      have hi1 : i < ks.length := by omega
      have hi2 : i < ks'.length := by omega
      rw [List.drop_eq_getElem_cons hi1, List.drop_eq_getElem_cons hi2, g4 hm]
      rw [List.getElem?_eq_getElem hi1, List.getElem?_eq_getElem hi2] at e1
      rw [Option.some.inj e1]
/-- A tree's text tells which tree it is. -/
theorem txt_uniq : ∀ (n : Nat) (T T' : JT) (r r' : List UInt8), T.size < n → formedB T = true → formedB T' = true → CanT T → CanT T' → txtT T ++ r = txtT T' ++ r' → (T.x.k = 2 → bnd r) → (T'.x.k = 2 → bnd r') → T = T' ∧ r = r'
  | 0, T, _, _, _, h, _, _, _, _, _, _, _ => absurd h (Nat.not_lt_zero _)
  | n + 1, T, T', r, r', hn, hf, hf', hc, hc', h, hb, hb' => by
    obtain ⟨c, t, e1, h1⟩ := txt_head hf
    obtain ⟨c', t', e2, h2⟩ := txt_head hf'
    have ecc : c = c' := by
      rw [e1, e2] at h
      exact (List.cons.inj h).1
    subst ecc
    have hk := head_one h1 h2
    have f1 := (formed_iff T).1 hf
    have f2 := (formed_iff T').1 hf'
    have c1 := can_to T.kids hc
    have c2 := can_to T'.kids hc'
    have hsz := size_eq T
    rw [txtT_eq, txtT_eq] at h
    unfold wrapT at h
    rw [← hk] at h
    by_cases h5 : T.x.k = 5
    · rw [if_pos h5, if_pos h5] at h
      have k1 := (nodeB_map h5).1 f1.1
      have k2 := (nodeB_map (by omega)).1 f2.1
      have h3 : (txtL (decide (T.x.k = 5)) T.ks T.ts 0 ++ [125]) ++ r = (txtL (decide (T.x.k = 5)) T'.ks T'.ts 0 ++ [125]) ++ r' := (List.cons.inj h).2
      rw [List.append_assoc, List.append_assoc] at h3
      obtain ⟨g1, g2, g3⟩ := list_uniq (Or.inr rfl) (fun A B x x' ha => txt_uniq n A B x x' ha) T.ts T'.ts T.ks T'.ks 0 r r' (by omega) (fun t ht => ⟨f1.2 t ht, c1.2 t ht⟩) (fun t ht => ⟨f2.2 t ht, c2.2 t ht⟩) (fun _ => by omega) (by simpa [h5] using h3)
      have ex : T.x = T'.x := val_eq (formed_val hf) (formed_val hf') hk (fun h9 => by omega) (fun h9 => by omega)
      refine ⟨?_, g3⟩
      rw [can_node hc, can_node hc', ex, g1]
      have g4 := g2 (by simp)
      simp only [List.drop_zero] at g4
      rw [g4]
    · rw [if_neg h5, if_neg h5] at h
      by_cases h6 : T.x.k = 6
      · rw [if_pos h6, if_pos h6] at h
        have k1 := (nodeB_list' h6).1 f1.1
        have k2 := (nodeB_list' (by omega)).1 f2.1
        have h3 : (txtL (decide (T.x.k = 5)) T.ks T.ts 0 ++ [93]) ++ r = (txtL (decide (T.x.k = 5)) T'.ks T'.ts 0 ++ [93]) ++ r' := (List.cons.inj h).2
        rw [List.append_assoc, List.append_assoc] at h3
        obtain ⟨g1, _, g3⟩ := list_uniq (m := false) (Or.inl rfl) (fun A B x x' ha => txt_uniq n A B x x' ha) T.ts T'.ts T.ks T'.ks 0 r r' (by omega) (fun t ht => ⟨f1.2 t ht, c1.2 t ht⟩) (fun t ht => ⟨f2.2 t ht, c2.2 t ht⟩) (fun h9 => by cases h9) (by simpa [h5] using h3)
        have ex : T.x = T'.x := val_eq (formed_val hf) (formed_val hf') hk (fun h9 => by omega) (fun h9 => by omega)
        refine ⟨?_, g3⟩
        rw [can_node hc, can_node hc', ex, g1, k1.2, k2.2]
      · rw [if_neg h6, if_neg h6] at h
        obtain ⟨ex, g3⟩ := show_uniq (formed_val hf) (formed_val hf') hk h hb hb'
        have k1 := leaf_parts h5 h6 f1.1
        have k2 := leaf_parts (by omega) (by omega) f2.1
        refine ⟨?_, g3⟩
        rw [can_node hc, can_node hc', ex, k1.1, k2.1, k1.2, k2.2]
end Go.Proofs.YtnmdhbejjjmdeaaGreatDoor
