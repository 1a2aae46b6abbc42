/-
  What is proved: of a change with which nothing is wrong all numbers and texts are small; and what package change's Encode answers.
  Conditions: the change lies in memory.
-/
import Derived.Test.YtgecgemfniiciaaGreatDoorCEncode
import Derived.Test.YtgecgemfniiciaaGreatDoorCDecode
namespace Go.Proofs.YtgecgemfniiciaaGreatDoor
open Go.RowKit

theorem ba_loop (b : ByteArray) : ∀ (n i : Nat) (r : List UInt8), b.size - i = n → ByteArray.toList.loop b i r = r.reverse ++ b.data.toList.drop i := by
  intro n
  induction n with
  | zero =>
    intro i r h
    unfold ByteArray.toList.loop
    have hs : ¬ i < b.size := by omega
    rw [if_neg hs]
    have : b.data.toList.drop i = [] := List.drop_eq_nil_of_le (by rw [Array.length_toList]; exact Nat.le_of_not_lt hs)
    rw [this]; simp
  | succ n ih =>
    intro i r h
    unfold ByteArray.toList.loop
    have hs : i < b.size := by omega
    rw [if_pos hs, ih (i + 1) _ (by omega)]
    have hl : i < b.data.toList.length := by rw [Array.length_toList]; exact hs
    rw [List.drop_eq_getElem_cons hl]
    have e : b.get! i = b.data.toList[i] := by
      cases b with
      | mk d =>
        simp only [ByteArray.get!]
        have hd : i < d.size := hs
        simp [getElem!_pos, hd]
    rw [e]
    simp
theorem ba_list (b : ByteArray) : b.toList = b.data.toList := by
  unfold ByteArray.toList
  rw [ba_loop b _ 0 [] rfl]
  simp
theorem ba_len (b : ByteArray) : b.toList.length = b.size := by rw [ba_list, Array.length_toList]; rfl

theorem idOk_fit {n a : Int} (h : idOkB n a = true) : N63 n ∧ N63 a := by
  rcases (idOk_iff n a).1 h with ⟨rfl, rfl⟩ | ⟨h1, h2, h3, h4⟩
  · exact ⟨by unfold N63; omega, by unfold N63; omega⟩
  · exact ⟨by unfold N63; omega, by unfold N63; omega⟩

theorem val_fit {v : V} (h : okB v = true) : N63 v.k ∧ v.t.size ≤ 60 ∧ (v.k ≠ 5 → v.k ≠ 6 → v.o = 0 ∧ v.a = 0) := by
  obtain ⟨k, n, t, o, a⟩ := v
  unfold okB at h
  rw [Bool.and_eq_true] at h
  obtain ⟨hu, hs⟩ := h
  unfold sameB at hs
  simp only [Bool.and_eq_true, beq_iff_eq] at hs
  obtain ⟨-, -, ht, ho, ha⟩ := hs
  have hempty : t.toList = ByteArray.empty.toList → t.size ≤ 60 := by
    intro e
    have := congrArg List.length e
    rw [ba_len, ba_len] at this
    have e0 : ByteArray.empty.size = 0 := rfl
    omega
  unfold usedB at hu
  dsimp only at hu ⊢
  unfold onlyV at ht ho ha
  dsimp only at ht ho ha
  by_cases h0 : k = 0 ∨ k = 2 ∨ k = 4
  · by_cases hk0 : k = 0
    · subst hk0
      simp at ht ho ha
      exact ⟨by unfold N63; omega, hempty (by rw [ht, ba_list]; rfl), fun _ _ => ⟨ho, ha⟩⟩
    · have hk : k = 1 ∨ k = 2 ∨ k = 4 := by omega
      rw [if_pos hk] at ht ho ha
      exact ⟨by unfold N63; omega, hempty ht, fun _ _ => ⟨ho, ha⟩⟩
  · rw [if_neg h0] at hu
    by_cases h1 : k = 1
    · rw [if_pos (Or.inl h1)] at ht ho ha
      exact ⟨by unfold N63; omega, hempty ht, fun _ _ => ⟨ho, ha⟩⟩
    · rw [if_neg h1] at hu
      have hn : ¬ (k = 1 ∨ k = 2 ∨ k = 4) := by omega
      by_cases h3 : k = 3
      · rw [if_pos h3, decide_eq_true_eq] at hu
        rw [if_neg hn, if_pos h3] at ho ha
        exact ⟨by unfold N63; omega, by omega, fun _ _ => ⟨ho, ha⟩⟩
      · rw [if_neg h3] at hu
        by_cases h5 : k = 5 ∨ k = 6
        · rw [if_neg hn, if_neg h3, if_pos h5] at ht
          exact ⟨by unfold N63; omega, hempty ht, fun a b => by omega⟩
        · rw [if_neg h5] at hu
          cases hu

theorem op_fit {o : OpM} (h : chkOp o = 0) (hn : I64 o.val.n) : OpFit o := by
  unfold chkOp at h
  split at h
  · cases h
  · rename_i h1
    split at h
    · cases h
    · rename_i h2
      split at h
      · cases h
      · split at h
        · cases h
        · split at h
          · cases h
          · rename_i h5
            split at h
            · cases h
            · simp only [Bool.or_eq_true, Bool.not_eq_true', not_or, Bool.not_eq_false] at h1 h5
              obtain ⟨hk, hi⟩ := h1
              obtain ⟨hv, hm⟩ := h5
              unfold fromB at hk
              rw [decide_eq_true_eq] at hk
              unfold hasIdsB at hi
              simp only [Bool.and_eq_true, List.all_eq_true] at hi
              obtain ⟨hp, hob, hel⟩ := hi
              obtain ⟨f1, f2, f3⟩ := val_fit hv
              refine ⟨by unfold N63; omega, idOk_fit hob, by omega, idOk_fit hel, f1, hn, f2, ?_, by omega, fun q hq => idOk_fit (hp q hq).2⟩
              by_cases h56 : o.val.k = 5 ∨ o.val.k = 6
              · unfold mayHaveB at hm
                split at hm
                · simp [h56] at hm
                · split at hm
                  · rw [Bool.and_eq_true] at hm
                    have := hm.2
                    unfold rootB at this
                    rw [decide_eq_true_eq] at this
                    exact this
                  · split at hm
                    · rw [decide_eq_true_eq] at hm; omega
                    · rw [decide_eq_true_eq] at hm; omega
              · exact f3 (fun e => h56 (Or.inl e)) (fun e => h56 (Or.inr e))

/-- A change whose numbers and texts are small. -/
structure ChgFit (c : Chg) : Prop where
  head : N63 c.actor ∧ N63 c.seq ∧ N63 c.start
  deps : c.deps.length ≤ 12 ∧ ∀ q ∈ c.deps, N63 q.1 ∧ N63 q.2
  ops : c.ops.length ≤ 40 ∧ ∀ o ∈ c.ops, OpFit o

theorem chkOps_all {l : List OpM} (h : chkOps l = 0) : ∀ o ∈ l, chkOp o = 0 := by
  induction l with
  | nil => simp
  | cons o r ih =>
    rw [chkOps] at h
    split at h
    · rename_i h0
      intro x hx
      rcases List.mem_cons.1 hx with rfl | hx
      · exact h0
      · exact ih h x hx
    · exact absurd h (by assumption)

theorem chg_fit {c : Chg} (h : chk c = 0) (hn : ∀ o ∈ c.ops, I64 o.val.n) : ChgFit c := by
  unfold chk at h
  split at h
  · rename_i h0
    unfold chkHead at h0
    split at h0
    · rename_i h1
      simp only [Bool.and_eq_true] at h1
      unfold fromB at h1
      simp only [decide_eq_true_eq] at h1
      split at h0
      · cases h0
      · rename_i h2
        split at h0
        · rename_i h3
          split at h0
          · cases h0
          · rename_i h4
            refine ⟨⟨by unfold N63; omega, by unfold N63; omega, by unfold N63; omega⟩, ⟨by omega, fun q hq => ?_⟩, by omega, fun o ho => op_fit (chkOps_all h o ho) (hn o ho)⟩
            unfold refsC at h3
            split at h3
            · rename_i h5
              rw [List.all_eq_true] at h5
              have := h5 q hq
              unfold refB fromB at this
              simp only [Bool.and_eq_true, decide_eq_true_eq] at this
              exact ⟨by unfold N63; omega, by unfold N63; omega⟩
            · cases h3
        · rename_i h3
          exact absurd h0 h3
    · cases h0
  · rename_i h0
    exact absurd h h0
end Go.Proofs.YtgecgemfniiciaaGreatDoor
