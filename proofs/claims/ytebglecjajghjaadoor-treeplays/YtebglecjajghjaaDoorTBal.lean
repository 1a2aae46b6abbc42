/-
  What is proved: a tree stays one with sides of nearly one height, and is as high as the digits of how many things it has allow.
  Conditions: as each theorem says.
-/
import Derived.Test.YtebglecjajghjaaDoorTMath
namespace Go.Proofs.YtebglecjajghjaaDoor

theorem level_bal (b x : Nat) (u : Int) (l r : (Deep.BT Int)) (hl : l.bal) (hr : r.bal) (h1 : l.high ≤ r.high + 2) (h2 : r.high ≤ l.high + 2) :
    (level b x u l r).bal ∧ max l.high r.high ≤ (level b x u l r).high ∧ (level b x u l r).high ≤ 1 + max l.high r.high := by
  unfold level
  split
  · rename_i h
    cases l with
    | nil => simp [Deep.BT.high] at h
    | node c y v ll lr =>
      simp only [Deep.BT.high, Deep.BT.bal] at h h1 h2 hl
      obtain ⟨a1, a2, a3, a4⟩ := hl
      simp only [straight0]
      split
      · rename_i k
        cases lr with
        | nil => simp [Deep.BT.high] at k
        | node d z s lrl lrr =>
          simp only [Deep.BT.high, Deep.BT.bal] at k a1 a2 a4 h h1 h2
          obtain ⟨e1, e2, e3, e4⟩ := a4
          simp only [lift1, lift0, Deep.BT.bal, Deep.BT.high]
          refine ⟨⟨by omega, by omega, ⟨by omega, by omega, a3, e3⟩, by omega, by omega, e4, hr⟩, by omega, by omega⟩
      · rename_i k
        simp only [lift0, Deep.BT.bal, Deep.BT.high]
        exact ⟨⟨by omega, by omega, a3, by omega, by omega, a4, hr⟩, by omega, by omega⟩
  · split
    · rename_i h
      cases r with
      | nil => simp [Deep.BT.high] at h
      | node c y v rl rr =>
        simp only [Deep.BT.high, Deep.BT.bal] at h h1 h2 hr
        obtain ⟨a1, a2, a3, a4⟩ := hr
        simp only [straight1]
        split
        · rename_i k
          cases rl with
          | nil => simp [Deep.BT.high] at k
          | node d z s rll rlr =>
            simp only [Deep.BT.high, Deep.BT.bal] at k a1 a2 a3 h h1 h2
            obtain ⟨e1, e2, e3, e4⟩ := a3
            simp only [lift0, lift1, Deep.BT.bal, Deep.BT.high]
            refine ⟨⟨by omega, by omega, ⟨by omega, by omega, hl, e3⟩, by omega, by omega, e4, a4⟩, by omega, by omega⟩
        · rename_i k
          simp only [lift1, Deep.BT.bal, Deep.BT.high]
          exact ⟨⟨by omega, by omega, ⟨by omega, by omega, hl, a3⟩, a4⟩, by omega, by omega⟩
    · simp only [Deep.BT.bal, Deep.BT.high]
      exact ⟨⟨by omega, by omega, hl, hr⟩, by omega, by omega⟩

/-- Where the sides are of nearly one height already, the node stays as it is. -/
theorem level_node (b x : Nat) (u : Int) (l r : (Deep.BT Int)) (h1 : l.high ≤ r.high + 1) (h2 : r.high ≤ l.high + 1) : level b x u l r = .node b x u l r := by
  unfold level
  rw [if_neg (by omega), if_neg (by omega)]

theorem ins_bal (b : Nat) (x u : Int) (t : (Deep.BT Int)) (k : Nat) (h : t.bal) : (insT b x u t k).bal ∧ t.high ≤ (insT b x u t k).high ∧ (insT b x u t k).high ≤ t.high + 1 := by
  induction t generalizing k with
  | nil => simp [insT, level, Deep.BT.bal, Deep.BT.high]
  | node c y v l r il ir =>
    simp only [Deep.BT.bal, Deep.BT.high] at h ⊢
    obtain ⟨h1, h2, h3, h4⟩ := h
    unfold insT
    split
    · obtain ⟨i1, i2, i3⟩ := il k h3
      by_cases e : (insT b x u l k).high ≤ r.high + 1
      · rw [level_node _ _ _ _ _ e (by omega)]
        simp only [Deep.BT.bal, Deep.BT.high]
        exact ⟨⟨by omega, by omega, i1, h4⟩, by omega, by omega⟩
      · obtain ⟨j1, j2, j3⟩ := level_bal c y v _ _ i1 h4 (by omega) (by omega)
        exact ⟨j1, by omega, by omega⟩
    · obtain ⟨i1, i2, i3⟩ := ir (k - l.many - 1) h4
      by_cases e : (insT b x u r (k - l.many - 1)).high ≤ l.high + 1
      · rw [level_node _ _ _ _ _ (by omega) e]
        simp only [Deep.BT.bal, Deep.BT.high]
        exact ⟨⟨by omega, by omega, h3, i1⟩, by omega, by omega⟩
      · obtain ⟨j1, j2, j3⟩ := level_bal c y v _ _ h3 i1 (by omega) (by omega)
        exact ⟨j1, by omega, by omega⟩

theorem rem_bal (t : (Deep.BT Int)) (k : Nat) (h : t.bal) : (remT t k).bal ∧ (remT t k).high ≤ t.high ∧ t.high ≤ (remT t k).high + 1 := by
  induction t generalizing k with
  | nil => simp [remT, Deep.BT.bal, Deep.BT.high]
  | node b x u l r il ir =>
    simp only [Deep.BT.bal, Deep.BT.high] at h ⊢
    obtain ⟨h1, h2, h3, h4⟩ := h
    unfold remT
    split
    · obtain ⟨i1, i2, i3⟩ := il k h3
      by_cases e : r.high ≤ (remT l k).high + 1
      · rw [level_node _ _ _ _ _ (by omega) e]
        simp only [Deep.BT.bal, Deep.BT.high]
        exact ⟨⟨by omega, by omega, i1, h4⟩, by omega, by omega⟩
      · obtain ⟨j1, j2, j3⟩ := level_bal b x u _ _ i1 h4 (by omega) (by omega)
        exact ⟨j1, by omega, by omega⟩
    · split
      · obtain ⟨i1, i2, i3⟩ := ir (k - l.many - 1) h4
        by_cases e : l.high ≤ (remT r (k - l.many - 1)).high + 1
        · rw [level_node _ _ _ _ _ e (by omega)]
          simp only [Deep.BT.bal, Deep.BT.high]
          exact ⟨⟨by omega, by omega, h3, i1⟩, by omega, by omega⟩
        · obtain ⟨j1, j2, j3⟩ := level_bal b x u _ _ h3 i1 (by omega) (by omega)
          exact ⟨j1, by omega, by omega⟩
      · split
        · exact ⟨h3, by simp only [Deep.BT.high] at *; omega, by simp only [Deep.BT.high] at *; omega⟩
        · rename_i c y v rl rr
          obtain ⟨i1, i2, i3⟩ := ir 0 h4
          generalize remT (Deep.BT.node c y v rl rr) 0 = m at *
          generalize (Deep.BT.node c y v rl rr).at' 0 = q at *
          generalize (Deep.BT.node c y v rl rr) = r at *
          by_cases e : l.high ≤ m.high + 1
          · rw [level_node _ _ _ _ _ e (by omega)]
            simp only [Deep.BT.bal, Deep.BT.high]
            exact ⟨⟨by omega, by omega, h3, i1⟩, by omega, by omega⟩
          · obtain ⟨j1, j2, j3⟩ := level_bal q.1 (cd q.2.1) q.2.2 _ _ h3 i1 (by omega) (by omega)
            exact ⟨j1, by omega, by omega⟩

/-- How few things a tree so high may have. -/
def few : Nat → Nat
  | 0 => 0
  | 1 => 1
  | n + 2 => few (n + 1) + few n + 1

theorem few_up (n : Nat) : few n ≤ few (n + 1) := by
  match n with
  | 0 => decide
  | n + 1 => show few (n + 1) ≤ few (n + 1) + few n + 1; omega

theorem bal_few (t : (Deep.BT Int)) (h : t.bal) : few t.high ≤ t.many := by
  induction t with
  | nil => simp [Deep.BT.high, few]
  | node b x u l r hl hr =>
    simp only [Deep.BT.bal] at h
    obtain ⟨h1, h2, h3, h4⟩ := h
    have q1 := hl h3
    have q2 := hr h4
    simp only [Deep.BT.high, Deep.BT.many]
    rcases Nat.lt_trichotomy l.high r.high with e | e | e
    · have e2 : r.high = l.high + 1 := by omega
      rw [show 1 + max l.high r.high = l.high + 2 from by omega]
      rw [e2] at q2
      simp only [few]; omega
    · rw [← e] at q2 ⊢
      rw [show 1 + max l.high l.high = l.high + 1 from by omega]
      cases hh : l.high with
      | zero => simp only [few]; omega
      | succ k =>
        rw [hh] at q1 q2
        have := few_up k
        simp only [few]; omega
    · have e2 : l.high = r.high + 1 := by omega
      rw [show 1 + max l.high r.high = r.high + 2 from by omega]
      rw [e2] at q1
      simp only [few]; omega

theorem few_mono {m n : Nat} (h : m ≤ n) : few m ≤ few n := by
  induction h with
  | refl => exact Nat.le_refl _
  | step _ ih => exact Nat.le_trans ih (few_up _)

theorem level_blocks (b x : Nat) (u : Int) (l r : (Deep.BT Int)) : (level b x u l r).blocks.Perm (b :: (l.blocks ++ r.blocks)) := by
  have p1 : ∀ (b x : Nat) (u : Int) (l r : (Deep.BT Int)), (lift1 b x u l r).blocks.Perm (b :: (l.blocks ++ r.blocks)) := by
    intro b x u l r
    cases r with
    | nil => exact List.Perm.refl _
    | node c y v rl rr => simp only [lift1, Deep.BT.blocks, List.cons_append, List.append_assoc]; exact (List.Perm.swap _ _ _).trans (List.Perm.cons _ List.perm_middle.symm)
  have p0 : ∀ (b x : Nat) (u : Int) (l r : (Deep.BT Int)), (lift0 b x u l r).blocks.Perm (b :: (l.blocks ++ r.blocks)) := by
    intro b x u l r
    cases l with
    | nil => exact List.Perm.refl _
    | node c y v ll lr =>
      simp only [lift0, Deep.BT.blocks, List.cons_append, List.append_assoc]
      exact (List.Perm.cons _ List.perm_middle).trans (List.Perm.swap _ _ _)
  unfold level
  split
  · refine (p0 b x u _ r).trans (List.Perm.cons _ (List.Perm.append_right _ ?_))
    cases l with
    | nil => exact List.Perm.refl _
    | node c y v ll lr =>
      simp only [straight0]
      split
      · exact p1 c y v ll lr
      · exact List.Perm.refl _
  · split
    · refine (p1 b x u l _).trans (List.Perm.cons _ (List.Perm.append_left _ ?_))
      cases r with
      | nil => exact List.Perm.refl _
      | node c y v rl rr =>
        simp only [straight1]
        split
        · exact p0 c y v rl rr
        · exact List.Perm.refl _
    · exact List.Perm.refl _

theorem ins_blocks (b : Nat) (x u : Int) (t : (Deep.BT Int)) (k : Nat) : (insT b x u t k).blocks.Perm (b :: t.blocks) := by
  induction t generalizing k with
  | nil => simp [insT, level, Deep.BT.high, Deep.BT.blocks]
  | node c y v l r il ir =>
    unfold insT
    split
    · refine (level_blocks _ _ _ _ _).trans ?_
      simp only [Deep.BT.blocks]
      exact (List.Perm.cons _ (List.Perm.append_right _ (il k))).trans (List.Perm.swap _ _ _)
    · refine (level_blocks _ _ _ _ _).trans ?_
      simp only [Deep.BT.blocks]
      exact (List.Perm.cons _ ((List.Perm.append_left _ (ir _)).trans List.perm_middle)).trans (List.Perm.swap _ _ _)

theorem rem_blocks (t : (Deep.BT Int)) (k : Nat) (h : k < t.many) : ((t.at' k).1 :: (remT t k).blocks).Perm t.blocks := by
  induction t generalizing k with
  | nil => simp [Deep.BT.many] at h
  | node b x u l r il ir =>
    simp only [Deep.BT.many] at h
    unfold remT
    simp only [Deep.BT.at', Deep.BT.blocks]
    split
    · rename_i h1
      refine (List.Perm.cons _ (level_blocks _ _ _ _ _)).trans ?_
      exact (List.Perm.swap _ _ _).trans (List.Perm.cons _ (List.Perm.append_right _ (il k h1)))
    · split
      · refine (List.Perm.cons _ (level_blocks _ _ _ _ _)).trans ?_
        refine (List.Perm.swap _ _ _).trans (List.Perm.cons _ ?_)
        exact List.perm_middle.symm.trans (List.Perm.append_left _ (ir _ (by omega)))
      · split
        · simp [Deep.BT.blocks]
        · rename_i c y v rl rr
          refine List.Perm.cons _ ((level_blocks _ _ _ _ _).trans ?_)
          refine List.perm_middle.symm.trans (List.Perm.append_left _ (ir 0 (by simp only [Deep.BT.many]; omega)))
end Go.Proofs.YtebglecjajghjaaDoor
