/-
  What is proved: a change that is read with bounds on each number, and one that is read first and looked at afterwards, are one, as soon as the one or the other is a change.
  Conditions: as each theorem says.
-/
import Derived.Test.YtgecgemfniiciaaGreatDoorCFit
import Derived.Test.YtgecgemfniiciaaGreatDoorCShr
namespace Go.Proofs.YtgecgemfniiciaaGreatDoor
open Go.RowKit

/-- Two numbers, each at most so much. -/
def qId (a b : Int) (s : St) : Pr × St := (((rCnt a s).1, (rCnt b (rCnt a s).2).1), (rCnt b (rCnt a s).2).2)

/-- Pairs of such. -/
def qPairs (a b : Int) (s : St) : List Pr × St := rMany (qId a b) (rCnt 12 s).1.toNat (rCnt 12 s).2

/-- A value. -/
def qVal (s : St) : V × St := (⟨(rCnt 6 s).1, (rSig (rCnt 6 s).2).1, asText (rTxt 60 (rSig (rCnt 6 s).2).2).1, 0, 0⟩, (rTxt 60 (rSig (rCnt 6 s).2).2).2)

/-- An op. -/
def qOp (s : St) : OpM × St :=
  let s1 := (rCnt 4 s).2
  let s2 := (qId 1000000 99 s1).2
  let s3 := (rTxt 20 s2).2
  let s4 := (qId 1000000 99 s3).2
  let s5 := (rCnt 1 s4).2
  let s6 := (qVal s5).2
  (⟨(rCnt 4 s).1, (qId 1000000 99 s1).1, asText (rTxt 20 s2).1, (qId 1000000 99 s3).1, (rCnt 1 s4).1 == 1, (qVal s5).1, (qPairs 1000000 99 s6).1⟩, (qPairs 1000000 99 s6).2)

/-- Ops. -/
def qOps (s : St) : List OpM × St := rMany qOp (rCnt 40 s).1.toNat (rCnt 40 s).2

/-- A change. -/
def qChg (s : St) : Chg × St :=
  let s1 := (rCnt 99 s).2
  let s2 := (rCnt 1000000 s1).2
  let s3 := (rCnt 1000000 s2).2
  let s4 := (qPairs 99 1000000 s3).2
  (⟨(rCnt 99 s).1, (rCnt 1000000 s1).1, (rCnt 1000000 s2).1, (qPairs 99 1000000 s3).1, (qOps s4).1⟩, (qOps s4).2)

theorem shr_qId (a b : Int) (s : St) : Shr s (qId a b s).2 := (shr_cnt a s).trans (shr_cnt b _)
theorem shr_qPairs (a b : Int) (s : St) : Shr s (qPairs a b s).2 := (shr_cnt 12 s).trans (shr_many _ (shr_qId a b) _ _)
theorem shr_qVal (s : St) : Shr s (qVal s).2 := ((shr_cnt 6 s).trans (shr_sig _)).trans (shr_txt 60 _)
set_option maxRecDepth 100000 in
theorem shr_qOp (s : St) : Shr s (qOp s).2 := by
  unfold qOp
  dsimp only
  have h1 := shr_cnt 4 s
  have h2 := h1.trans (shr_qId 1000000 99 _)
  have h3 := h2.trans (shr_txt 20 _)
  have h4 := h3.trans (shr_qId 1000000 99 _)
  have h5 := h4.trans (shr_cnt 1 _)
  have h6 := h5.trans (shr_qVal _)
  exact h6.trans (shr_qPairs 1000000 99 _)
theorem shr_qOps (s : St) : Shr s (qOps s).2 := (shr_cnt 40 s).trans (shr_many qOp shr_qOp _ _)

theorem cnt_num {m : Int} {s : St} (h : (rCnt m s).2 ≠ none) : rCnt m s = rNum s := by
  unfold rCnt at h ⊢
  split
  · rename_i h1
    rw [if_pos h1] at h
    exact absurd rfl h
  · rfl

theorem num_cnt {m : Int} {s : St} (h : 0 ≤ (rNum s).1) (k : (rNum s).1 ≤ m) : rCnt m s = rNum s := by
  unfold rCnt
  rw [if_neg (by omega)]

theorem qId_back {a b : Int} {s : St} (h : (qId a b s).2 ≠ none) : qId a b s = rId s := by
  unfold qId at h ⊢
  unfold rId
  have z1 := (shr_cnt b _).some h
  rw [cnt_num h, cnt_num z1]

theorem many_back2 {α : Type} {q r : St → α × St} (hq : ∀ s, Shr s (q s).2) (h : ∀ s, (q s).2 ≠ none → q s = r s) (n : Nat) (s : St) (k : (rMany q n s).2 ≠ none) : rMany q n s = rMany r n s := by
  induction n with
  | zero => rfl
  | succ n ih =>
    rw [rMany] at k
    have z := (hq _).some k
    rw [rMany, rMany, h _ k, ih z]

theorem qPairs_back {a b : Int} {s : St} (h : (qPairs a b s).2 ≠ none) : qPairs a b s = rPairs 12 s := by
  unfold qPairs at h ⊢
  unfold rPairs
  exact many_back2 (shr_qId a b) (fun s k => qId_back k) _ _ h

theorem qVal_back {s : St} (h : (qVal s).2 ≠ none) : qVal s = rVal s := by
  unfold qVal at h ⊢
  unfold rVal
  have z1 := (shr_sig _).some ((shr_txt 60 _).some h)
  rw [cnt_num z1]

set_option maxRecDepth 100000 in
theorem qOp_back {s : St} (h : (qOp s).2 ≠ none) : qOp s = rOp s := by
  unfold qOp at h ⊢
  unfold rOp
  dsimp only at h ⊢
  have z6 := (shr_qPairs _ _ _).some h
  have z5 := (shr_qVal _).some z6
  have z4 := (shr_cnt 1 _).some z5
  have z3 := (shr_qId _ _ _).some z4
  have z2 := (shr_txt 20 _).some z3
  have z1 := (shr_qId _ _ _).some z2
  rw [qPairs_back h, qVal_back z6, qId_back z4, qId_back z2, cnt_num z1]

theorem qOps_back {s : St} (h : (qOps s).2 ≠ none) : qOps s = rOps s := by
  unfold qOps at h ⊢
  unfold rOps
  exact many_back2 shr_qOp (fun s k => qOp_back k) _ _ h

set_option maxRecDepth 100000 in
theorem qChg_back {s : St} (h : (qChg s).2 ≠ none) : qChg s = rChg s := by
  unfold qChg at h ⊢
  unfold rChg
  dsimp only at h ⊢
  have z4 := (shr_qOps _).some h
  have z3 := (shr_qPairs _ _ _).some z4
  have z2 := (shr_cnt _ _).some z3
  have z1 := (shr_cnt _ _).some z2
  rw [qOps_back h, qPairs_back z4, cnt_num z3, cnt_num z2, cnt_num z1]

theorem qId_on {a b : Int} {s : St} (h1 : 0 ≤ (rId s).1.1 ∧ (rId s).1.1 ≤ a) (h2 : 0 ≤ (rId s).1.2 ∧ (rId s).1.2 ≤ b) : qId a b s = rId s := by
  unfold rId at h1 h2 ⊢
  unfold qId
  rw [num_cnt h1.1 h1.2, num_cnt h2.1 h2.2]

theorem many_on {α : Type} {q r : St → α × St} {P : α → Prop} (h : ∀ s, P (r s).1 → q s = r s) (n : Nat) (s : St) (k : ∀ x ∈ (rMany r n s).1, P x) : rMany q n s = rMany r n s := by
  induction n with
  | zero => rfl
  | succ n ih =>
    have k1 : ∀ x ∈ (rMany r n s).1, P x := fun x hx => k x (by rw [rMany]; exact List.mem_append_left _ hx)
    have k2 : P (r (rMany r n s).2).1 := k _ (by rw [rMany]; simp)
    rw [rMany, rMany, ih k1, h _ k2]

theorem qPairs_on {a b : Int} {s : St} (h : ∀ q ∈ (rPairs 12 s).1, (0 ≤ q.1 ∧ q.1 ≤ a) ∧ (0 ≤ q.2 ∧ q.2 ≤ b)) : qPairs a b s = rPairs 12 s := by
  unfold rPairs at h ⊢
  unfold qPairs
  exact many_on (P := fun q : Pr => (0 ≤ q.1 ∧ q.1 ≤ a) ∧ (0 ≤ q.2 ∧ q.2 ≤ b)) (fun s k => qId_on k.1 k.2) _ _ h

theorem qVal_on {s : St} (h : 0 ≤ (rVal s).1.k ∧ (rVal s).1.k ≤ 6) : qVal s = rVal s := by
  unfold rVal at h ⊢
  unfold qVal
  dsimp only at h
  rw [num_cnt h.1 h.2]

/-- An op's numbers are in their bounds. -/
def OpIn (o : OpM) : Prop := (0 ≤ o.kind ∧ o.kind ≤ 4) ∧ ((0 ≤ o.obj.1 ∧ o.obj.1 ≤ 1000000) ∧ (0 ≤ o.obj.2 ∧ o.obj.2 ≤ 99)) ∧ ((0 ≤ o.elem.1 ∧ o.elem.1 ≤ 1000000) ∧ (0 ≤ o.elem.2 ∧ o.elem.2 ≤ 99)) ∧ (0 ≤ o.val.k ∧ o.val.k ≤ 6) ∧ ∀ q ∈ o.preds, (0 ≤ q.1 ∧ q.1 ≤ 1000000) ∧ (0 ≤ q.2 ∧ q.2 ≤ 99)

set_option maxRecDepth 100000 in
theorem qOp_on {s : St} (h : OpIn (rOp s).1) : qOp s = rOp s := by
  obtain ⟨h1, h2, h3, h4, h5⟩ := h
  unfold rOp at h1 h2 h3 h4 h5 ⊢
  unfold qOp
  dsimp only at h1 h2 h3 h4 h5 ⊢
  rw [num_cnt h1.1 h1.2, qId_on h2.1 h2.2, qId_on h3.1 h3.2, qVal_on h4, qPairs_on h5]

theorem qOps_on {s : St} (h : ∀ o ∈ (rOps s).1, OpIn o) : qOps s = rOps s := by
  unfold rOps at h ⊢
  unfold qOps
  exact many_on (P := OpIn) (fun s k => qOp_on k) _ _ h

theorem idOk_in {n a : Int} (h : idOkB n a = true) : (0 ≤ n ∧ n ≤ 1000000) ∧ (0 ≤ a ∧ a ≤ 99) := by
  rcases (idOk_iff n a).1 h with ⟨rfl, rfl⟩ | ⟨h1, h2, h3, h4⟩ <;> omega

theorem val_in {v : V} (h : okB v = true) : 0 ≤ v.k ∧ v.k ≤ 6 := by
  unfold okB at h
  rw [Bool.and_eq_true] at h
  obtain ⟨hu, -⟩ := h
  unfold usedB at hu
  by_cases h0 : v.k = 0 ∨ v.k = 2 ∨ v.k = 4
  · omega
  · rw [if_neg h0] at hu
    by_cases h1 : v.k = 1
    · omega
    · rw [if_neg h1] at hu
      by_cases h3 : v.k = 3
      · omega
      · rw [if_neg h3] at hu
        by_cases h5 : v.k = 5 ∨ v.k = 6
        · omega
        · rw [if_neg h5] at hu
          cases hu

theorem op_in {o : OpM} (h : chkOp o = 0) : OpIn o := by
  unfold chkOp at h
  split at h
  · cases h
  · rename_i h1
    split at h
    · cases h
    · split at h
      · cases h
      · split at h
        · cases h
        · split at h
          · cases h
          · rename_i h5
            simp only [Bool.or_eq_true, Bool.not_eq_true', not_or, Bool.not_eq_false] at h1 h5
            obtain ⟨hk, hi⟩ := h1
            obtain ⟨hv, hm⟩ := h5
            unfold fromB at hk
            rw [decide_eq_true_eq] at hk
            unfold hasIdsB at hi
            simp only [Bool.and_eq_true, List.all_eq_true] at hi
            obtain ⟨hp, hob, hel⟩ := hi
            exact ⟨by omega, idOk_in hob, idOk_in hel, val_in hv, fun q hq => idOk_in (hp q hq).2⟩

theorem ops_in {l : List OpM} (h : chkOps l = 0) : ∀ o ∈ l, chkOp o = 0 := by
  induction l with
  | nil => simp
  | cons o r ih =>
    rw [chkOps] at h
    split at h
    · rename_i h1
      intro x hx
      rcases List.mem_cons.1 hx with rfl | hx
      · exact h1
      · exact ih h x hx
    · rename_i h1
      exact absurd h h1

set_option maxRecDepth 100000 in
theorem qChg_on {s : St} (h : chk (rChg s).1 = 0) : qChg s = rChg s := by
  have hh : chkHead (rChg s).1 = 0 ∧ chkOps (rChg s).1.ops = 0 := by
    unfold chk at h
    split at h
    · exact ⟨by assumption, h⟩
    · rename_i h1; exact absurd h h1
  obtain ⟨h1, h2⟩ := hh
  have h3 : (0 ≤ (rChg s).1.actor ∧ (rChg s).1.actor ≤ 99) ∧ (0 ≤ (rChg s).1.seq ∧ (rChg s).1.seq ≤ 1000000) ∧ (0 ≤ (rChg s).1.start ∧ (rChg s).1.start ≤ 1000000) ∧ ∀ q ∈ (rChg s).1.deps, (0 ≤ q.1 ∧ q.1 ≤ 99) ∧ (0 ≤ q.2 ∧ q.2 ≤ 1000000) := by
    unfold chkHead at h1
    split at h1
    · rename_i h4
      simp only [Bool.and_eq_true, fromB, decide_eq_true_eq] at h4
      split at h1
      · cases h1
      · split at h1
        · rename_i h5
          unfold refsC at h5
          split at h5
          · rename_i h6
            rw [List.all_eq_true] at h6
            refine ⟨by omega, by omega, by omega, fun q hq => ?_⟩
            have := h6 q hq
            unfold refB at this
            simp only [Bool.and_eq_true, fromB, decide_eq_true_eq] at this
            omega
          · cases h5
        · rename_i h5
          exact absurd h1 h5
    · cases h1
  have h4 := fun o ho => op_in (ops_in h2 o ho)
  obtain ⟨k1, k2, k3, k4⟩ := h3
  clear h h1 h2
  unfold rChg at k1 k2 k3 k4 h4 ⊢
  unfold qChg
  dsimp only at k1 k2 k3 k4 h4 ⊢
  rw [num_cnt k1.1 k1.2, num_cnt k2.1 k2.2, num_cnt k3.1 k3.2, qPairs_on k4, qOps_on h4]

/-- What the reference reads. -/
def qDec (l : List UInt8) : Option (Chg × Nat) :=
  match (qChg (some l)).2 with
  | some r => if chk (qChg (some l)).1 = 0 then some ((qChg (some l)).1, l.length - r.length) else none
  | none => none

theorem qDec_dec (l : List UInt8) : qDec l = dec l := by
  by_cases h : (qChg (some l)).2 = none
  · by_cases k : chk (rChg (some l)).1 = 0
    · unfold qDec dec
      rw [qChg_on k]
      rfl
    · have e1 : qDec l = none := by unfold qDec; rw [h]
      have e2 : dec l = none := by
        unfold dec
        split
        · rw [if_neg k]
        · rfl
      rw [e1, e2]
  · unfold qDec dec
    rw [qChg_back h]
    rfl
end Go.Proofs.YtgecgemfniiciaaGreatDoor
