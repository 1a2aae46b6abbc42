/-
  What is proved: what the law JsonSets asks of trees: its first patch is done; what is set back is as it was.
  Conditions: as each theorem says.
-/
import Derived.Test.YtnhijdhapokcbaaJApply
namespace Go.Proofs.Ytnhijdhapokcbaa
open Go.RowKit Go.Sort

theorem leaf_size (y : V) : (leafT y).size = 1 := by unfold leafT; rw [size_node]; rfl
theorem chkT_ok {T : JT} (hf : formedB T = true) (hs : T.size ≤ 400) : chkT T = 0 := by
  unfold chkT
  rw [if_neg (by omega), if_pos hf]
/-- The first tree, step and value of the law. -/
abbrev fx : V := ⟨5, 0, ⟨#[]⟩, 0, 0⟩
abbrev fs : Stp := (⟨#[97]⟩, 0)
abbrev fy : V := ⟨2, 1, ⟨#[]⟩, 0, 0⟩
theorem fx_val : valB fx = true := by decide +kernel
theorem fy_val : valB fy = true := by decide +kernel
theorem fact_upd : UpdR (leafT fx) [fs] fy (.node fx [fs.1] [leafT fy]) := by
  rw [UpdR]
  refine Or.inr ⟨?_, ?_, 0, ?_, rfl⟩
  · decide +kernel
  · decide +kernel
  · exact ⟨Nat.zero_le _, fun t h _ => absurd h (Nat.not_lt_zero _), fun t h _ => absurd h (Nat.not_lt_zero _), ⟨fun h => (by cases h), fun ⟨h, _⟩ => absurd h (Nat.not_lt_zero _)⟩⟩
theorem fact_one {T' : JT} (h : UpdR (leafT fx) [fs] fy T') : T'.ts.length = 1 ∧ T'.size = 2 := by
  rw [upd_one _ _ _ _ h fact_upd, node_ts, size_node]
  exact ⟨rfl, by simp [sizes, leaf_size]⟩
theorem fact_ok : ¬ NoApply (leafT fx) [fs] fy := by
  rintro (h | h | h | ⟨T', h1, h2⟩)
  · exact h (chkT_ok (leaf_formed fx_val) (by rw [leaf_size]; omega))
  · have : patB [fs] fy = true := by decide +kernel
    rw [this] at h
    cases h
  · exact h _ fact_upd
  · have := (fact_one h1).2
    omega

theorem pat_parts {l : List Stp} {y : V} (h : patB l y = true) : valB y = true ∧ ∀ s ∈ l, s.1.size ≤ 20 := by
  unfold patB at h
  rw [Bool.and_eq_true, Bool.not_eq_true'] at h
  refine ⟨h.1, fun s hs => ?_⟩
  rcases Nat.lt_or_ge 20 s.1.size with h1 | h1
  · have h2 : l.any longB = true := List.any_eq_true.2 ⟨s, hs, by unfold longB; exact decide_eq_true h1⟩
    rw [h.2] at h2
    cases h2
  · exact h1
/-- The tree with what was set: it is a tree, and what was set is there. -/
theorem now_ok {T T' : JT} {l : List Stp} {y : V} (hc : chkT T = 0) (hp : patB l y = true) (hu : UpdR T l y T') (hs : T'.size ≤ 400) : chkT T' = 0 ∧ resE T' l = 0 ∧ resT T' l = leafT y := by
  have hf := (chkT_zero hc).1
  have h1 := chkT_ok (upd_formed (pat_parts hp).1 l T T' hu hf (pat_parts hp).2) hs
  have h2 := upd_get l T T' hu hf
  refine ⟨h1, ?_, ?_⟩
  · unfold resE; rw [if_pos h1, h2]; rfl
  · unfold resT; rw [if_pos h1, h2]; rfl
/-- What was there, if it is a plain value, is a value alone. -/
theorem was_leaf {w : World} {v : Value} {T : JT} {l : List Stp} (h : IsT w v T) (hc : chkT T = 0) (he : resE T l = 0) (hk : (resT T l).x.k ≤ 3) : getT T l = some (leafT (resT T l).x) ∧ valB (resT T l).x = true := by
  unfold resE at he
  rw [if_pos hc] at he
  cases hg : getT T l with
  | none => rw [hg] at he; simp at he
  | some t =>
    have hr : resT T l = t := by unfold resT; rw [if_pos hc, hg]; rfl
    rw [hr] at hk ⊢
    have hf := (getT_ok hg (chkT_zero hc).1 (chkT_zero hc).2).1
    have hn := ((formed_iff t).1 hf).1
    have hcan := canon_of l h t hg
    unfold nodeB at hn
    rw [if_neg (by omega), if_neg (by omega)] at hn
    simp only [Bool.and_eq_true, List.isEmpty_iff, decide_eq_true_eq] at hn
    refine ⟨?_, hn.1⟩
    have h2 : t.ts = [] := List.length_eq_zero_iff.1 hn.2.2
    rw [hn.2.1, h2] at hcan
    exact congrArg some hcan
theorem back_ok {w : World} {v : Value} {T T' : JT} {l : List Stp} {y : V} (h : IsT w v T) (hc : chkT T = 0) (hp : patB l y = true) (hu : UpdR T l y T') (hs : T'.size ≤ 400) (he : resE T l = 0) (hk : (resT T l).x.k ≤ 3) : ¬ NoApply T' l (resT T l).x ∧ ∀ T'', UpdR T' l (resT T l).x T'' → T'' = T := by
  obtain ⟨h1, h2⟩ := was_leaf h hc he hk
  have hb := upd_back l T T' hu h1 (fun l' t ht => canon_of l' h t ht)
  have hone : ∀ T'', UpdR T' l (resT T l).x T'' → T'' = T := fun T'' h' => upd_one l T' T'' T h' hb
  refine ⟨?_, hone⟩
  rintro (h | h | h | ⟨T'', h3, h4⟩)
  · exact h (now_ok hc hp hu hs).1
  · unfold patB at hp h
    rw [h2] at h
    rw [Bool.and_eq_true] at hp
    rw [hp.2] at h
    cases h
  · exact h _ hb
  · rw [hone _ h3] at h4
    have := (chkT_zero hc).2
    omega
end Go.Proofs.Ytnhijdhapokcbaa
