/-
  What is proved: what set leaves in memory: a tree with a value in the place of a kid, or at a new key.
  Conditions: as each theorem says.
-/
import Derived.Test.YtnhijdhapokcbaaJFollowI
import Derived.Test.YtnhijdhapokcbaaJFindI
import Derived.Test.YtnhijdhapokcbaaJIns
namespace Go.Proofs.Ytnhijdhapokcbaa
open Go.RowKit Go.Sort

/-- The fields of a tree of a value alone. -/
def leafV (y : V) : TV := (y, .slice none 0 0, .slice none 0 0)
theorem leaf_at (w : World) (y : V) : IsT w (tval (leafV y)) (leafT y) :=
  IsTG.mk y [] [] (.slice none 0 0) none 0 [] ⟨none, 0, rfl, ⟨Nat.le_refl _, fun _ => rfl⟩, Nat.zero_le _, fun h => absurd rfl h⟩ rfl ⟨Nat.le_refl _, fun _ => rfl⟩ (Nat.zero_le _) (fun h => absurd rfl h) (fun _ hi => absurd hi (Nat.not_lt_zero _))
theorem leafH (B : Nat) (w : World) (y : V) : IsTH B w (tval (leafV y)) (leafT y) :=
  IsTG.mk y [] [] (.slice none 0 0) none 0 [] ⟨none, 0, rfl, ⟨Nat.le_refl _, fun _ => rfl⟩, Nat.zero_le _, fun h => absurd rfl h⟩ rfl ⟨Nat.le_refl _, fun _ => rfl⟩ (Nat.zero_le _) (fun h => absurd rfl h) (fun _ hi => absurd hi (Nat.not_lt_zero _))
/-- What has turned: at most a place's own cells, and what lies in its stretch. -/
structure Turn (b o lo hi : Nat) (w w' : World) : Prop where
  os : w'.os = w.os
  tape : w'.tape = w.tape
  output : w'.output = w.output
  size : w.heap.size ≤ w'.heap.size
  block : ∀ k, k < w.heap.size → ¬ (lo ≤ k ∧ k < hi) → k ≠ b → w'.heap[k]? = w.heap[k]?
  cell : ∀ c, c < o ∨ o + 7 ≤ c → w'.cell? ⟨b, c, none⟩ = w.cell? ⟨b, c, none⟩
/-- What set leaves. -/
def SetP (w : World) (b o lo hi : Nat) (u : TV) (t : JT) (s : Stp) (y : V) (e : Ending) (w' : World) : Prop :=
  (∃ i g off n c, kidOf t.x t.ks t.ts.length s = some i ∧ i < t.ts.length ∧ u.2.2 = .slice (some ⟨g, off, none⟩) n c ∧ e = .returned (.bool true) ∧ ∃ W, Below w.heap.size w W ∧ w' = put7 W g (off + i * 7) (leafV y)) ∨
  (∃ t' u', kidOf t.x t.ks t.ts.length s = none ∧ SetR t s y t' ∧ e = .returned (.bool true) ∧ Turn b o lo hi w w' ∧ TAt w' b o u' ∧ IsTH lo w' (tval u') t') ∨
  (kidOf t.x t.ks t.ts.length s = none ∧ keyStep t.x s = false ∧ e = .returned (.bool false) ∧ Below w.heap.size w w')

theorem scells_put (ks : List ByteArray) (j : Nat) (key : ByteArray) : put1 (j * 1) (scells ks) [.string key] = scells (putL ks j key) := by
  unfold put1 scells putL
  simp [List.map_take, List.map_drop]
theorem tcs_app (a b : List TV) : tcs (a ++ b) = tcs a ++ tcs b := by unfold tcs; rw [List.flatMap_append]
theorem tcs_put (us : List TV) (j : Nat) (hj : j ≤ us.length) (u : TV) : put1 (j * 7) (tcs us) (tcells u) = tcs (putL us j u) := by
  have e1 : tcs us = tcs (us.take j) ++ tcs (us.drop j) := by rw [← tcs_app, List.take_append_drop]
  have hl : (tcs (us.take j)).length = j * 7 := by rw [tcs_len, List.length_take, Nat.min_eq_left hj]
  have e2 : tcs (putL us j u) = tcs (us.take j) ++ (tcells u ++ tcs (us.drop j)) := by
    unfold putL
    rw [tcs_app]
    rfl
  unfold put1
  rw [e1, e2, List.take_left' hl, List.drop_left' hl]
theorem one_scells (ks : List ByteArray) : ∀ u ∈ scells ks, u.oneCell' = true := by
  intro u hu
  obtain ⟨x, _, rfl⟩ := List.mem_map.1 hu
  rfl
theorem one_tcs {w : World} {f : JF} {us : List TV} {lo hi : Nat} (h : IsGI w f us lo hi) : ∀ u ∈ tcs us, u.oneCell' = true := by
  intro u hu
  obtain ⟨x, hx, hu⟩ := List.mem_flatMap.1 hu
  obtain ⟨i, hi, rfl⟩ := List.getElem_of_mem hx
  have h1 := isG_to _ _ h.forest
  obtain ⟨y, a1, n1, c1, a2, n2, c2, e⟩ := (h1.2.2 i hi (by rw [← h1.2.1]; exact hi)).parts
  unfold tcells at hu
  rw [e] at hu
  simp at hu
  rcases hu with rfl | rfl | rfl | rfl | rfl | rfl | rfl <;> rfl
theorem putL_get {α : Type} {l : List α} {j i : Nat} {a : α} (hj : j ≤ l.length) (h : i < (putL l j a).length) : (i < j ∧ ∃ h', (putL l j a)[i] = l[i]'h') ∨ (i = j ∧ (putL l j a)[i] = a) ∨ (∃ d, i = j + (d + 1) ∧ ∃ h', (putL l j a)[i] = l[j + d]'h') := by
  have hl := putL_len l j a
  revert h
  unfold putL
  intro h
  by_cases c1 : i < j
  · refine Or.inl ⟨c1, by omega, ?_⟩
    rw [List.getElem_append_left (by rw [List.length_take]; omega), List.getElem_take]
  · refine Or.inr ?_
    rw [List.getElem_append_right (by rw [List.length_take]; omega)]
    simp only [List.length_take, Nat.min_eq_left hj]
    by_cases c2 : i = j
    · subst c2
      exact Or.inl ⟨rfl, by simp only [Nat.sub_self, List.getElem_cons_zero]⟩
    · obtain ⟨d, rfl⟩ : ∃ d, i = j + (d + 1) := ⟨i - j - 1, by omega⟩
      have hd : j + d < l.length := by
        unfold putL at hl
        omega
      refine Or.inr ⟨d, rfl, hd, ?_⟩
      have e3 : j + (d + 1) - j = d + 1 := by omega
      simp only [e3, List.getElem_cons_succ, List.getElem_drop]
/-- The tree with a new key. -/
theorem new_tree {w : World} {lo m1 hi : Nat} {t : JT} {us : List TV} {vk vt : Value} {j : Nat} {s : Stp} {y : V} (hj : j ≤ us.length) (hlen : us.length = t.ts.length) (hk : w.ownsRow lo 9 1 vk (t.ks.length + 1) (scells (putL t.ks j s.1))) (hkf : t.ks.length ≤ 1000)
    (ht : w.ownsRow lo 29 7 vt (us.length + 1) (tcs (putL us j (leafV y)))) (hf : us.length ≤ 1000) (hg : IsGI w t.kids us m1 hi) (hm : lo ≤ m1) : IsTH lo w (tval (t.x, vk, vt)) (.node t.x (putL t.ks j s.1) (putL t.ts j (leafT y))) := by
  have hks : IsStrsH lo w vk (putL t.ks j s.1) := own_strs (by rw [putL_len]; exact hk) (by rw [putL_len]; omega)
  have hl2 : (putL us j (leafV y)).length = us.length + 1 := putL_len _ _ _
  rcases own_rowB (us := putL us j (leafV y)) (by rw [hl2]; exact ht) with ⟨_, e⟩ | ⟨g, cap, e, hlg, hg2, hc, hr⟩
  · have := congrArg List.length e
    rw [hl2] at this
    simp at this
  · have e2 : vt = .slice (some ⟨g, 0, none⟩) (putL t.ts j (leafT y)).length cap := by rw [e, hl2, putL_len, hlen]
    rw [e2]
    have h1 := isG_to _ _ (hg.forestH hm)
    refine IsTG.mk t.x _ _ vk (some ⟨g, 0, none⟩) cap (putL us j (leafV y)) hks (by rw [hl2, putL_len, hlen]) ⟨by rw [putL_len, ← hlen, ← hl2]; exact hc, fun e => by cases e⟩ (by rw [putL_len]; omega) (fun _ => ⟨g, 0, rfl, hg2, hlg, fun i hi k hk => by rw [Nat.zero_add]; exact hr.cellAt i hi k hk⟩) (fun i hi hi' => ?_)
    have hjt : j ≤ t.ts.length := by omega
    rcases putL_get hj hi with ⟨c1, a1, a2⟩ | ⟨c1, a2⟩ | ⟨d, c1, a1, a2⟩ <;> rcases putL_get hjt hi' with ⟨d1, b1, b2⟩ | ⟨d1, b2⟩ | ⟨d', d1, b1, b2⟩
    · rw [a2, b2]; exact h1.2.2 i a1 b1
    · omega
    · omega
    · omega
    · rw [a2, b2]; exact leafH lo w y
    · omega
    · omega
    · omega
    · obtain rfl : d = d' := by omega
      rw [a2, b2]; exact h1.2.2 (j + d) a1 b1
end Go.Proofs.Ytnhijdhapokcbaa
