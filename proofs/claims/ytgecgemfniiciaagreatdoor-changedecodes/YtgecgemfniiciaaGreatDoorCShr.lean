/-
  What is proved: what is still to be read is an end of what was to be read.
  Conditions: as each theorem says.
-/
import Derived.Test.YtgecgemfniiciaaGreatDoorCMath
namespace Go.Proofs.YtgecgemfniiciaaGreatDoor
open Go.RowKit

/-- What is there behind is an end of what was there ahead; once nothing is, nothing comes. -/
def Shr (s s' : St) : Prop := ∀ r, s' = some r → ∃ l k, s = some l ∧ k ≤ l.length ∧ r = l.drop k

theorem Shr.refl (s : St) : Shr s s := fun r h => ⟨r, 0, h, Nat.zero_le _, by simp⟩
theorem Shr.trans {s s1 s2 : St} (h : Shr s s1) (k : Shr s1 s2) : Shr s s2 := by
  intro r hr
  obtain ⟨l1, k1, h1, h2, rfl⟩ := k r hr
  obtain ⟨l, k0, h3, h4, rfl⟩ := h l1 h1
  rw [List.length_drop] at h2
  exact ⟨l, k0 + k1, h3, by omega, by rw [List.drop_drop]⟩
theorem Shr.some {s s' : St} (h : Shr s s') (hs : s' ≠ none) : s ≠ none := by
  intro e
  cases hs' : s' with
  | none => exact hs hs'
  | some r => obtain ⟨l, _, h1, _⟩ := h r hs'; rw [e] at h1; cases h1

theorem shr_get {s : St} {n k : Nat} (h : get (rest s) = some (n, k)) : Shr s (some ((rest s).drop k)) := by
  intro r hr
  cases s with
  | none => cases h
  | some l => exact ⟨l, k, rfl, (get_some h).2.2.2.1, (Option.some.inj hr).symm⟩
theorem shr_num (s : St) : Shr s (rNum s).2 := by
  unfold rNum
  cases h : get (rest s) with
  | none => intro r hr; cases hr
  | some q => obtain ⟨n, k⟩ := q; exact shr_get h
theorem shr_sig (s : St) : Shr s (rSig s).2 := by
  unfold rSig
  cases h : get (rest s) with
  | none => intro r hr; cases hr
  | some q => obtain ⟨n, k⟩ := q; exact shr_get h
theorem shr_cnt (m : Int) (s : St) : Shr s (rCnt m s).2 := by
  unfold rCnt
  split
  · intro r hr; cases hr
  · exact shr_num s
theorem shr_txt (m : Int) (s : St) : Shr s (rTxt m s).2 := by
  refine (shr_cnt m s).trans ?_
  unfold rTxt
  split
  · intro r hr; cases hr
  · rename_i hl
    intro r hr
    cases h : (rCnt m s).2 with
    | none => rw [h] at hr; cases hr
    | some l =>
      rw [h] at hr hl
      refine ⟨l, (rCnt m s).1.toNat, rfl, ?_, (Option.some.inj hr).symm⟩
      simp only [rest, Option.getD_some] at hl
      omega
theorem shr_id (s : St) : Shr s (rId s).2 := (shr_num s).trans (shr_num _)
theorem shr_many {α : Type} (f : St → α × St) (h : ∀ s, Shr s (f s).2) (n : Nat) (s : St) : Shr s (rMany f n s).2 := by
  induction n with
  | zero => exact Shr.refl s
  | succ n ih => rw [rMany]; exact ih.trans (h _)
theorem shr_pairs (m : Int) (s : St) : Shr s (rPairs m s).2 := (shr_cnt m s).trans (shr_many rId shr_id _ _)
theorem shr_val (s : St) : Shr s (rVal s).2 := ((shr_num s).trans (shr_sig _)).trans (shr_txt 60 _)
theorem shr_op (s : St) : Shr s (rOp s).2 := by
  unfold rOp
  dsimp only
  exact ((((((shr_num s).trans (shr_id _)).trans (shr_txt 20 _)).trans (shr_id _)).trans (shr_cnt 1 _)).trans (shr_val _)).trans (shr_pairs 12 _)
theorem shr_ops (s : St) : Shr s (rOps s).2 := (shr_cnt 40 s).trans (shr_many rOp shr_op _ _)
theorem shr_chg (s : St) : Shr s (rChg s).2 := by
  unfold rChg
  dsimp only
  exact ((((shr_num s).trans (shr_num _)).trans (shr_num _)).trans (shr_pairs 12 _)).trans (shr_ops _)
end Go.Proofs.YtgecgemfniiciaaGreatDoor
