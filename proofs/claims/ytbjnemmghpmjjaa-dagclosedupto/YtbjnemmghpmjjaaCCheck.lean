/-
  What is proved: what package change's Check, and all that it calls, answers of any change; and nothing that was there has turned.
  Conditions: the change lies in memory.
-/
import Derived.Test.YtbjnemmghpmjjaaCIs
import Derived.Test.YtbjnemmghpmjjaaCheckA
namespace Go.Proofs.Ytbjnemmghpmjjaa
open Go.RowKit

/-- Is a number from 1 to another one? -/
def fromB (n most : Int) : Bool := decide (1 ≤ n ∧ n ≤ most)
/-- Is it the root? -/
def rootB (q : Pr) : Bool := decide (q.1 = 0 ∧ q.2 = 0)
/-- Holds something of each two that stand together? -/
def chainB (f : Pr → Pr → Bool) : List Pr → Bool
  | a :: b :: r => f a b && chainB f (b :: r)
  | _ => true

theorem chainB_iff (f : Pr → Pr → Bool) (l : List Pr) : chainB f l = true ↔ ∀ i (h : i + 1 < l.length), f l[i] l[i + 1] = true := by
  induction l with
  | nil => simp [chainB]
  | cons a r ih =>
    cases r with
    | nil => simp [chainB]
    | cons b r =>
      rw [chainB, Bool.and_eq_true, ih]
      constructor
      · rintro ⟨h1, h2⟩ i hi
        cases i with
        | zero => exact h1
        | succ i => exact h2 i (by simpa using hi)
      · intro h
        refine ⟨h 0 (by simp), fun i hi => ?_⟩
        have := h (i + 1) (by simpa using hi)
        simpa using this

/-- Is it a ref? -/
def refB (q : Pr) : Bool := fromB q.1 99 && fromB q.2 1000000
/-- What is wrong with a clock. -/
def refsC (l : List Pr) : Int := if l.all refB = true then (if chainB (fun a b => decide (a.1 < b.1)) l = true then 0 else 5) else 1
/-- Are all that should be ids some? -/
def hasIdsB (o : OpM) : Bool := o.preds.all (fun q => !rootB q && idOkB q.1 q.2) && (idOkB o.obj.1 o.obj.2 && idOkB o.elem.1 o.elem.2)
/-- Do ids rise? -/
def risesB (l : List Pr) : Bool := chainB (fun a b => lessB a.1 a.2 b.1 b.2) l
/-- Is it on a map or on a list? -/
def onePlaceB (o : OpM) : Bool := (!o.key.toList.isEmpty) != (!rootB o.elem || o.ins)
/-- May it insert? -/
def mayInsertB (o : OpM) : Bool := decide (o.kind = 1 ∨ o.kind = 2) && o.preds.isEmpty
/-- May a kind have a value? -/
def mayHaveB (k : Int) (v : V) : Bool :=
  if k = 1 then !decide (v.k = 5 ∨ v.k = 6) else if k = 2 then decide (v.k = 5 ∨ v.k = 6) && rootB (v.o, v.a) else if k = 3 then decide (v.k = 0) else decide (v.k = 2)
/-- Must it have Preds? -/
def needsB (k : Int) : Bool := decide (k = 4 ∨ k = 3)
/-- What is wrong with an op. -/
def chkOp (o : OpM) : Int :=
  if (!fromB o.kind 4 || !hasIdsB o) = true then 1
  else if 20 < o.key.size ∨ 12 < o.preds.length then 4
  else if risesB o.preds = false then 5
  else if (!onePlaceB o || (o.ins && !mayInsertB o)) = true then 3
  else if (!okB o.val || !mayHaveB o.kind o.val) = true then 1
  else if (needsB o.kind && o.preds.isEmpty) = true then 3
  else 0
/-- What is wrong with the first op that has a fault. -/
def chkOps : List OpM → Int
  | [] => 0
  | o :: r => if chkOp o = 0 then chkOps r else chkOp o
/-- What is wrong with all of a change but what its ops say. -/
def chkHead (c : Chg) : Int :=
  if (fromB c.actor 99 && (fromB c.seq 1000000 && fromB c.start 1000000)) = true then
    if 12 < c.deps.length then 4 else if refsC c.deps = 0 then (if 40 < c.ops.length then 4 else if 1000000 < c.start + c.ops.length - 1 then 1 else 0) else refsC c.deps
  else 1
/-- What is wrong with a change. -/
def chk (c : Chg) : Int := if chkHead c = 0 then chkOps c.ops else chkHead c
/-- An error. -/
def errV (e : Int) : Value := if e = 0 then .nilIface else .iface 47 (.int .i64 e)

theorem isFrom1_any (n most : Int) (w : World) : Calls Try.prog 44 #[.int .i64 n, .int .i64 most] w fun e w' => e = .returned (.bool (fromB n most)) ∧ Below w.heap.size w w' := by
  unfold fromB
  by_cases h : 1 ≤ n
  · go_enter Try.func44, Try.ntmps44
    go_wp2
    go_ret
    exact ⟨by simp [h], Below.refl _ _⟩
  · go_enter Try.func44, Try.ntmps44
    go_wp2
    go_ret
    exact ⟨by simp; omega, Below.refl _ _⟩

theorem cRoot_any (n a : Int) (w : World) : Calls Try.prog 70 #[.agg #[.int .i64 n, .int .i64 a]] w fun e w' => e = .returned (.bool (rootB (n, a))) ∧ Below w.heap.size w w' := by
  unfold rootB
  by_cases h : n = 0
  · subst h
    by_cases h2 : a = 0
    · subst h2
      go_enter Try.func70, Try.ntmps70
      go_wp2
      go_ret
      exact ⟨by simp, (Below.refl _ _).alloc (Nat.le_refl _) _⟩
    · have q : (a == 0) = false := by simp [h2]
      go_enter Try.func70, Try.ntmps70
      go_wp2
      go_ret
      exact ⟨by simp [h2], (Below.refl _ _).alloc (Nat.le_refl _) _⟩
  · have q : (n == 0) = false := by simp [h]
    go_enter Try.func70, Try.ntmps70
    go_wp2
    go_ret
    exact ⟨by simp [h], (Below.refl _ _).alloc (Nat.le_refl _) _⟩

theorem idCheck_any (n a : Int) (w : World) : Calls Try.prog 71 #[.agg #[.int .i64 n, .int .i64 a]] w fun e w' => e = .returned (errV (if idOkB n a = true then 0 else 1)) ∧ Below w.heap.size w w' := by
  by_cases r : n = 0 ∧ a = 0
  · obtain ⟨rfl, rfl⟩ := r
    exact (check_root _).mono fun e w' ⟨h, b⟩ => ⟨by rw [(idOk_iff _ _).2 (Or.inl ⟨rfl, rfl⟩)]; exact h, b⟩
  · by_cases R : Real n a
    · exact (check_real n a _ R).mono fun e w' ⟨h, b⟩ => ⟨by rw [(idOk_iff _ _).2 (Or.inr R)]; exact h, b⟩
    · exact (check_bad n a _ ⟨r, R⟩).mono fun e w' ⟨h, b⟩ => ⟨by rw [idOk_no _ _ (fun x => x.elim r R)]; exact h, b⟩

theorem isActor_any (n : Int) (w : World) : Calls Try.prog 68 #[.int .i64 n] w fun e w' => e = .returned (.bool (fromB n 99)) ∧ Below w.heap.size w w' := by
  unfold fromB
  by_cases h : 1 ≤ n
  · go_enter Try.func68, Try.ntmps68
    go_wp2
    go_ret
    exact ⟨by simp [h], Below.refl _ _⟩
  · go_enter Try.func68, Try.ntmps68
    go_wp2
    go_ret
    exact ⟨by simp; omega, Below.refl _ _⟩

theorem isNum_any (n : Int) (w : World) : Calls Try.prog 69 #[.int .i64 n] w fun e w' => e = .returned (.bool (fromB n 1000000)) ∧ Below w.heap.size w w' := by
  unfold fromB
  by_cases h : 1 ≤ n
  · go_enter Try.func69, Try.ntmps69
    go_wp2
    go_ret
    exact ⟨by simp [h], Below.refl _ _⟩
  · go_enter Try.func69, Try.ntmps69
    go_wp2
    go_ret
    exact ⟨by simp; omega, Below.refl _ _⟩

theorem needs_any (k : Int) (w : World) : Calls Try.prog 52 #[.int .i64 k] w fun e w' => e = .returned (.bool (needsB k)) ∧ Below w.heap.size w w' := by
  unfold needsB
  by_cases h : k = 4
  · subst h
    go_enter Try.func52, Try.ntmps52
    go_wp2
    go_ret
    exact ⟨by simp, Below.refl _ _⟩
  · have q : (k == 4) = false := by simp [h]
    by_cases h3 : k = 3
    · subst h3
      go_enter Try.func52, Try.ntmps52
      go_wp2
      go_ret
      exact ⟨by simp, Below.refl _ _⟩
    · have q3 : (k == 3) = false := by simp [h3]
      go_enter Try.func52, Try.ntmps52
      go_wp2
      go_ret
      exact ⟨by simp [h, h3], Below.refl _ _⟩

set_option maxRecDepth 100000 in
set_option maxHeartbeats 2000000 in
theorem mayHave_any (k : Int) (v : V) (w : World) : Calls Try.prog 51 #[.int .i64 k, v.val] w fun e w' => e = .returned (.bool (mayHaveB k v)) ∧ Below w.heap.size w w' := by
  obtain ⟨vk, vn, vt, vo, va⟩ := v
  unfold V.val mayHaveB
  dsimp only
  have B1 : ∀ x, Below w.heap.size w (w.alloc x) := fun x => (Below.refl _ _).alloc (Nat.le_refl _) _
  obtain ⟨o, ho, ho5⟩ : ∃ o : Bool, decide (vk = 5 ∨ vk = 6) = o ∧ ((vk = 5 ∧ o = true) ∨ (vk = 6 ∧ o = true) ∨ ((vk == 5) = false ∧ (vk == 6) = false ∧ o = false)) := by
    refine ⟨_, rfl, ?_⟩
    by_cases h5 : vk = 5
    · exact Or.inl ⟨h5, by simp [h5]⟩
    · by_cases h6 : vk = 6
      · exact Or.inr (Or.inl ⟨h6, by simp [h6]⟩)
      · exact Or.inr (Or.inr ⟨by simp [h5], by simp [h6], by simp [h5, h6]⟩)
  rw [ho]
  clear ho
  by_cases h1 : k = 1
  · subst h1
    rcases ho5 with ⟨rfl, rfl⟩ | ⟨rfl, rfl⟩ | ⟨a, b, rfl⟩
    all_goals
      go_enter Try.func51, Try.ntmps51
      go_wp2
      go_ret
      exact ⟨by simp, B1 _⟩
  · have q1 : (k == 1) = false := by simp [h1]
    rw [if_neg h1]
    clear h1
    by_cases h2 : k = 2
    · subst h2
      rcases ho5 with ⟨rfl, rfl⟩ | ⟨rfl, rfl⟩ | ⟨a, b, rfl⟩
      · go_enter Try.func51, Try.ntmps51
        go_wp2_with fail
        refine (cRoot_any vo va _).mono ?_
        rintro e w1 ⟨rfl, b1⟩
        go_wp2
        go_ret
        exact ⟨by simp, (B1 _).trans (b1.mono (B1 _).size)⟩
      · go_enter Try.func51, Try.ntmps51
        go_wp2_with fail
        refine (cRoot_any vo va _).mono ?_
        rintro e w1 ⟨rfl, b1⟩
        go_wp2
        go_ret
        exact ⟨by simp, (B1 _).trans (b1.mono (B1 _).size)⟩
      · go_enter Try.func51, Try.ntmps51
        go_wp2
        go_ret
        exact ⟨by simp, B1 _⟩
    · have q2 : (k == 2) = false := by simp [h2]
      rw [if_neg h2]
      clear h2
      by_cases h3 : k = 3
      · subst h3
        by_cases hv : vk = 0
        · subst hv
          rcases ho5 with ⟨h, rfl⟩ | ⟨h, rfl⟩ | ⟨a, b, rfl⟩
          · cases h
          · cases h
          · go_enter Try.func51, Try.ntmps51
            go_wp2
            go_ret
            exact ⟨by simp, B1 _⟩
        · have qv : (vk == 0) = false := by simp [hv]
          rcases ho5 with ⟨rfl, rfl⟩ | ⟨rfl, rfl⟩ | ⟨a, b, rfl⟩
          all_goals
            go_enter Try.func51, Try.ntmps51
            go_wp2
            go_ret
            exact ⟨by first | (simp; done) | (simp [hv]; done), B1 _⟩
      · have q3 : (k == 3) = false := by simp [h3]
        rw [if_neg h3]
        clear h3
        by_cases hv : vk = 2
        · subst hv
          rcases ho5 with ⟨h, rfl⟩ | ⟨h, rfl⟩ | ⟨a, b, rfl⟩
          · cases h
          · cases h
          · go_enter Try.func51, Try.ntmps51
            go_wp2
            go_ret
            exact ⟨by simp, B1 _⟩
        · have qv : (vk == 2) = false := by simp [hv]
          rcases ho5 with ⟨rfl, rfl⟩ | ⟨rfl, rfl⟩ | ⟨a, b, rfl⟩
          all_goals
            go_enter Try.func51, Try.ntmps51
            go_wp2
            go_ret
            exact ⟨by first | (simp; done) | (simp [hv]; done), B1 _⟩
end Go.Proofs.Ytbjnemmghpmjjaa
