/-
  What is proved: as each theorem says.
  Conditions: as each theorem says.
-/
import Derived.Test.YtejfemdkommfhaaGreatDoorG00
import Derived.Deep.RegionHeld3
import Derived.Handy
import Derived.Deep.RegionWith
import Derived.Test.YtejfemdkommfhaaGreatDoorG01
namespace Go.Proofs.YtejfemdkommfhaaGreatDoor
open Go.RowKit Go.Sort
def IdOk (n a : Int) : Prop := (n = 0 ∧ a = 0) ∨ Real n a
def idOkB (n a : Int) : Bool := decide (n = 0 ∧ a = 0) || decide (1 ≤ n ∧ n ≤ 1000000 ∧ 1 ≤ a ∧ a ≤ 99)
theorem idOk_iff (n a : Int) : idOkB n a = true ↔ IdOk n a := by
 unfold idOkB IdOk Real
 rw [Bool.or_eq_true, decide_eq_true_eq, decide_eq_true_eq]
theorem idOk_no (n a : Int) (h : ¬ IdOk n a) : idOkB n a = false := by
 cases e : idOkB n a with
 | true => exact absurd ((idOk_iff n a).1 e) h
 | false => rfl
def usedB (v : V) : Bool :=
 if v.k = 0 ∨ v.k = 2 ∨ v.k = 4 then true else if v.k = 1 then decide (v.n = 0 ∨ v.n = 1) else if v.k = 3 then decide ((v.t.size : Int) ≤ 60) else if v.k = 5 ∨ v.k = 6 then idOkB v.o v.a else false
def onlyV (v : V) : V :=
 if v.k = 1 ∨ v.k = 2 ∨ v.k = 4 then ⟨v.k, v.n, .empty, 0, 0⟩ else if v.k = 3 then ⟨3, 0, v.t, 0, 0⟩ else if v.k = 5 ∨ v.k = 6 then ⟨v.k, 0, .empty, v.o, v.a⟩ else ⟨v.k, 0, .empty, 0, 0⟩
set_option maxRecDepth 100000 in
set_option maxHeartbeats 1000000 in
theorem isUsed_any (v : V) (w : World) :
 Calls Tryz.prog 114 #[v.val] w fun e w' => e = .returned (.bool (usedB v)) ∧ Below w.heap.size w w' := by
 obtain ⟨k, n, t, o, a⟩ := v
 unfold V.val usedB
 dsimp only
 have B1 : ∀ x, Below w.heap.size w (w.alloc x) := fun x => (Below.refl _ _).alloc (Nat.le_refl _) _
 by_cases h0 : k = 0
 ·subst h0
  go_enter Tryz.func114, Tryz.ntmps114
  go_wp2
  go_ret
  exact ⟨by simp, B1 _⟩
 by_cases h2 : k = 2
 ·subst h2
  go_enter Tryz.func114, Tryz.ntmps114
  go_wp2
  go_ret
  exact ⟨by simp, B1 _⟩
 by_cases h4 : k = 4
 ·subst h4
  go_enter Tryz.func114, Tryz.ntmps114
  go_wp2
  go_ret
  exact ⟨by simp, B1 _⟩
 by_cases h1 : k = 1
 ·subst h1
  by_cases n0 : n = 0
  ·subst n0
   go_enter Tryz.func114, Tryz.ntmps114
   go_wp2
   go_ret
   exact ⟨by simp, B1 _⟩
  by_cases n1 : n = 1
  ·subst n1
   go_enter Tryz.func114, Tryz.ntmps114
   go_wp2
   go_ret
   exact ⟨by simp, B1 _⟩
  ·go_enter Tryz.func114, Tryz.ntmps114
   go_wp2
   go_ret
   exact ⟨by simp [n0, n1], B1 _⟩
 by_cases h3 : k = 3
 ·subst h3
  go_enter Tryz.func114, Tryz.ntmps114
  go_wp2
  go_ret
  exact ⟨by simp, B1 _⟩
 by_cases h56 : k = 5 ∨ k = 6
 ·have hc : Calls Tryz.prog 112 #[.agg #[.int .i64 o, .int .i64 a]] (w.alloc (.cells #[.int .i64 k, .int .i64 n, .string t, .int .i64 o, .int .i64 a] 80)) fun e w' => (idOkB o a = true ∧ e = .returned .nilIface ∨ idOkB o a = false ∧ e = .returned (.iface 62 (.int .i64 1))) ∧ Below (w.heap.size + 1) (w.alloc (.cells #[.int .i64 k, .int .i64 n, .string t, .int .i64 o, .int .i64 a] 80)) w' := by
   by_cases r : o = 0 ∧ a = 0
   ·obtain ⟨rfl, rfl⟩ := r
    exact (check_root _).mono fun e w' ⟨h, b⟩ => ⟨Or.inl ⟨(idOk_iff _ _).2 (Or.inl ⟨rfl, rfl⟩), h⟩, by simpa using b⟩
   ·by_cases R : Real o a
    ·exact (check_real o a _ R).mono fun e w' ⟨h, b⟩ => ⟨Or.inl ⟨(idOk_iff _ _).2 (Or.inr R), h⟩, by simpa using b⟩
    ·exact (check_bad o a _ ⟨r, R⟩).mono fun e w' ⟨h, b⟩ => ⟨Or.inr ⟨idOk_no _ _ (fun x => x.elim r R), h⟩, by simpa using b⟩
  rcases h56 with h5 | h6
  ·subst h5
   go_enter Tryz.func114, Tryz.ntmps114
   go_wp2_with fail
   refine hc.mono ?_
   rintro e w1 ⟨⟨hi, rfl⟩ | ⟨hi, rfl⟩, hb⟩
   ·go_wp2
    go_ret
    exact ⟨by simp, (B1 _).trans (hb.mono (by omega))⟩
   ·go_wp2
    go_ret
    exact ⟨by simp, (B1 _).trans (hb.mono (by omega))⟩
  ·subst h6
   go_enter Tryz.func114, Tryz.ntmps114
   go_wp2_with fail
   refine hc.mono ?_
   rintro e w1 ⟨⟨hi, rfl⟩ | ⟨hi, rfl⟩, hb⟩
   ·go_wp2
    go_ret
    exact ⟨by simp, (B1 _).trans (hb.mono (by omega))⟩
   ·go_wp2
    go_ret
    exact ⟨by simp, (B1 _).trans (hb.mono (by omega))⟩
 ·have h5 : ¬ k = 5 := fun e => h56 (Or.inl e)
  have h6 : ¬ k = 6 := fun e => h56 (Or.inr e)
  clear h56
  go_enter Tryz.func114, Tryz.ntmps114
  go_wp2
  go_ret
  exact ⟨by simp, B1 _⟩
set_option maxRecDepth 100000 in
set_option maxHeartbeats 1000000 in
theorem onlyUsed_any (v : V) (w : World) :
 Calls Tryz.prog 115 #[v.val] w fun e w' => e = .returned (onlyV v).val ∧ Below w.heap.size w w' := by
 obtain ⟨k, n, t, o, a⟩ := v
 by_cases h1 : k = 1
 ·subst h1
  have r : onlyV ⟨1, n, t, o, a⟩ = ⟨1, n, .empty, 0, 0⟩ := by simp [onlyV]
  rw [r]
  unfold V.val
  dsimp only
  clear r
  go_enter Tryz.func115, Tryz.ntmps115
  go_wp2
  go_returns
  exact ⟨rfl, by go_grown⟩
 by_cases h2 : k = 2
 ·subst h2
  have r : onlyV ⟨2, n, t, o, a⟩ = ⟨2, n, .empty, 0, 0⟩ := by simp [onlyV]
  rw [r]
  unfold V.val
  dsimp only
  clear r
  go_enter Tryz.func115, Tryz.ntmps115
  go_wp2
  go_returns
  exact ⟨rfl, by go_grown⟩
 by_cases h4 : k = 4
 ·subst h4
  have r : onlyV ⟨4, n, t, o, a⟩ = ⟨4, n, .empty, 0, 0⟩ := by simp [onlyV]
  rw [r]
  unfold V.val
  dsimp only
  clear r
  go_enter Tryz.func115, Tryz.ntmps115
  go_wp2
  go_returns
  exact ⟨rfl, by go_grown⟩
 by_cases h3 : k = 3
 ·subst h3
  have r : onlyV ⟨3, n, t, o, a⟩ = ⟨3, 0, t, 0, 0⟩ := by simp [onlyV]
  rw [r]
  unfold V.val
  dsimp only
  clear r
  go_enter Tryz.func115, Tryz.ntmps115
  go_wp2
  go_returns
  exact ⟨rfl, by go_grown⟩
 by_cases h5 : k = 5
 ·subst h5
  have r : onlyV ⟨5, n, t, o, a⟩ = ⟨5, 0, .empty, o, a⟩ := by simp [onlyV]
  rw [r]
  unfold V.val
  dsimp only
  clear r
  go_enter Tryz.func115, Tryz.ntmps115
  go_wp2
  go_returns
  exact ⟨rfl, by go_grown⟩
 by_cases h6 : k = 6
 ·subst h6
  have r : onlyV ⟨6, n, t, o, a⟩ = ⟨6, 0, .empty, o, a⟩ := by simp [onlyV]
  rw [r]
  unfold V.val
  dsimp only
  clear r
  go_enter Tryz.func115, Tryz.ntmps115
  go_wp2
  go_returns
  exact ⟨rfl, by go_grown⟩
 have r : onlyV ⟨k, n, t, o, a⟩ = ⟨k, 0, .empty, 0, 0⟩ := by simp [onlyV, h1, h2, h3, h4, h5, h6]
 rw [r]
 unfold V.val
 dsimp only
 clear r
 go_enter Tryz.func115, Tryz.ntmps115
 go_wp2
 go_returns
 exact ⟨rfl, by go_grown⟩
def sameB (v u : V) : Bool := v.k == u.k && (v.n == u.n && (v.t.toList == u.t.toList && (v.o == u.o && v.a == u.a)))
set_option maxRecDepth 100000 in
theorem eqV (v u : V) (w : World) : (Op.equalIn 10000 80 v.val u.val).run Tryz.prog w = .ok (sameB v u) w := by
 obtain ⟨k, n, t, o, a⟩ := v
 obtain ⟨k', n', t', o', a'⟩ := u
 unfold V.val sameB
 dsimp only
 go_simp
 by_cases h1 : k = k' <;> by_cases h2 : n = n' <;> by_cases h3 : t.toList = t'.toList <;> by_cases h4 : o = o' <;> by_cases h5 : a = a' <;> simp [h1, h2, h3, h4, h5]
set_option maxRecDepth 100000 in
set_option maxHeartbeats 2000000 in
theorem checkV_used (v : V) (w : World) (hu : usedB v = true) :
 Calls Tryz.prog 83 #[v.val] w fun e w' => e = .returned (if sameB v (onlyV v) = true then .nilIface else .iface 62 (.int .i64 1)) ∧ Below w.heap.size w w' := by
 have H1 := isUsed_any v
 have H2 := onlyUsed_any v
 rw [hu] at H1
 have H3 := eqV v (onlyV v)
 generalize onlyV v = u at *
 generalize sameB v u = q at *
 obtain ⟨k, n, t, o, a⟩ := v
 obtain ⟨k', n', t', o', a'⟩ := u
 unfold V.val at *
 dsimp only at *
 go_enter Tryz.func83, Tryz.ntmps83
 go_wp2
 go_region_held3 (fun W => W.cell? ⟨w.heap.size, 0, none⟩ = some (.int .i64 k) ∧ W.cell? ⟨w.heap.size, 1, none⟩ = some (.int .i64 n) ∧ W.cell? ⟨w.heap.size, 2, none⟩ = some (.string t) ∧ W.cell? ⟨w.heap.size, 3, none⟩ = some (.int .i64 o) ∧ W.cell? ⟨w.heap.size, 4, none⟩ = some (.int .i64 a)) (first | go_keep | (refine ⟨?_, ?_, ?_, ?_, ?_⟩ <;> (refine (hb1.cell ?_).trans ?_ <;> first | (simp; done) | (simp; omega))) | (refine ⟨?_, ?_, ?_, ?_, ?_⟩ <;> (refine (hb2.cell ?_).trans ?_ <;> first | assumption | (simp; done) | (have hz := hb1.size; simp at hz; simp; omega) | (refine (hb1.cell ?_).trans ?_ <;> first | (simp; done) | (simp; omega))))) (first
  | (go_at_call 114; refine (H1 _).mono ?_; rintro e w1 ⟨rfl, hb1⟩)
  | (go_at_call 115; refine (H2 _).mono ?_; rintro e w2 ⟨rfl, hb2⟩))
 have B2 : Below w.heap.size w w2 := (((Below.refl _ _).alloc (Nat.le_refl _) _).drew.trans (hb1.mono (by simp))).trans (hb2.mono (by have hz := hb1.size; simp at hz; omega))
 clear hb1 hb2 H1 H2 H3
 cases q with
 | true =>
  go_wp2
  go_ret
  exact ⟨rfl, B2⟩
 | false =>
  go_wp2
  go_ret
  exact ⟨rfl, B2⟩
set_option maxRecDepth 100000 in
set_option maxHeartbeats 2000000 in
theorem checkV_not (v : V) (w : World) (hu : usedB v = false) :
 Calls Tryz.prog 83 #[v.val] w fun e w' => e = .returned (.iface 62 (.int .i64 1)) ∧ Below w.heap.size w w' := by
 have H1 := isUsed_any v
 rw [hu] at H1
 obtain ⟨k, n, t, o, a⟩ := v
 unfold V.val at *
 dsimp only at *
 go_enter Tryz.func83, Tryz.ntmps83
 go_wp2
 go_region_with (go_at_call 114; refine (H1 _).mono ?_; rintro e w1 ⟨rfl, hb1⟩)
 all_goals
  go_wp2
  go_ret
  exact ⟨rfl, ((Below.refl _ _).alloc (Nat.le_refl _) _).drew.trans (hb1.mono (by simp))⟩
def okB (v : V) : Bool := usedB v && sameB v (onlyV v)
theorem checkV_any (v : V) (w : World) :
 Calls Tryz.prog 83 #[v.val] w fun e w' => e = .returned (if okB v = true then .nilIface else .iface 62 (.int .i64 1)) ∧ Below w.heap.size w w' := by
 cases hu : usedB v with
 | true =>
  refine (checkV_used v w hu).mono ?_
  rintro e w' ⟨rfl, hb⟩
  exact ⟨by simp [okB, hu], hb⟩
 | false =>
  refine (checkV_not v w hu).mono ?_
  rintro e w' ⟨rfl, hb⟩
  exact ⟨by simp [okB, hu], hb⟩
end Go.Proofs.YtejfemdkommfhaaGreatDoor
namespace Go.Proofs.YtejfemdkommfhaaGreatDoor
open Go.RowKit
def fromB (n most : Int) : Bool := decide (1 ≤ n ∧ n ≤ most)
def rootB (q : Pr) : Bool := decide (q.1 = 0 ∧ q.2 = 0)
def chainB (f : Pr → Pr → Bool) : List Pr → Bool
 | a :: b :: r => f a b && chainB f (b :: r)
 | _ => true
theorem chainB_iff (f : Pr → Pr → Bool) (l : List Pr) : chainB f l = true ↔ ∀ i (h : i + 1 < l.length), f l[i] l[i + 1] = true := by
 induction l with
 | nil => simp [chainB]
 | cons a r ih =>
  cases r with
  | nil => simp [chainB]
  | cons b r =>
   rw [chainB, Bool.and_eq_true, ih]
   constructor
   ·rintro ⟨h1, h2⟩ i hi
    cases i with
    | zero => exact h1
    | succ i => exact h2 i (by simpa using hi)
   ·intro h
    refine ⟨h 0 (by simp), fun i hi => ?_⟩
    have := h (i + 1) (by simpa using hi)
    simpa using this
def refB (q : Pr) : Bool := fromB q.1 99 && fromB q.2 1000000
def refsC (l : List Pr) : Int := if l.all refB = true then (if chainB (fun a b => decide (a.1 < b.1)) l = true then 0 else 5) else 1
def hasIdsB (o : OpM) : Bool := o.preds.all (fun q => !rootB q && idOkB q.1 q.2) && (idOkB o.obj.1 o.obj.2 && idOkB o.elem.1 o.elem.2)
def risesB (l : List Pr) : Bool := chainB (fun a b => lessB a.1 a.2 b.1 b.2) l
def onePlaceB (o : OpM) : Bool := (!o.key.toList.isEmpty) != (!rootB o.elem || o.ins)
def mayInsertB (o : OpM) : Bool := decide (o.kind = 1 ∨ o.kind = 2) && o.preds.isEmpty
def mayHaveB (k : Int) (v : V) : Bool :=
 if k = 1 then !decide (v.k = 5 ∨ v.k = 6) else if k = 2 then decide (v.k = 5 ∨ v.k = 6) && rootB (v.o, v.a) else if k = 3 then decide (v.k = 0) else decide (v.k = 2)
def needsB (k : Int) : Bool := decide (k = 4 ∨ k = 3)
def chkOp (o : OpM) : Int :=
 if (!fromB o.kind 4 || !hasIdsB o) = true then 1
 else if 20 < o.key.size ∨ 12 < o.preds.length then 4
 else if risesB o.preds = false then 5
 else if (!onePlaceB o || (o.ins && !mayInsertB o)) = true then 3
 else if (!okB o.val || !mayHaveB o.kind o.val) = true then 1
 else if (needsB o.kind && o.preds.isEmpty) = true then 3
 else 0
def chkOps : List OpM → Int
 | [] => 0
 | o :: r => if chkOp o = 0 then chkOps r else chkOp o
def chkHead (c : Chg) : Int :=
 if (fromB c.actor 99 && (fromB c.seq 1000000 && fromB c.start 1000000)) = true then
  if 12 < c.deps.length then 4 else if refsC c.deps = 0 then (if 40 < c.ops.length then 4 else if 1000000 < c.start + c.ops.length - 1 then 1 else 0) else refsC c.deps
 else 1
def chk (c : Chg) : Int := if chkHead c = 0 then chkOps c.ops else chkHead c
def errV (e : Int) : Value := if e = 0 then .nilIface else .iface 62 (.int .i64 e)
theorem isFrom1_any (n most : Int) (w : World) : Calls Tryz.prog 78 #[.int .i64 n, .int .i64 most] w fun e w' => e = .returned (.bool (fromB n most)) ∧ Below w.heap.size w w' := by
 unfold fromB
 by_cases h : 1 ≤ n
 ·go_enter Tryz.func78, Tryz.ntmps78
  go_wp2
  go_ret
  exact ⟨by simp [h], Below.refl _ _⟩
 ·go_enter Tryz.func78, Tryz.ntmps78
  go_wp2
  go_ret
  exact ⟨by simp; omega, Below.refl _ _⟩
theorem cRoot_any (n a : Int) (w : World) : Calls Tryz.prog 111 #[.agg #[.int .i64 n, .int .i64 a]] w fun e w' => e = .returned (.bool (rootB (n, a))) ∧ Below w.heap.size w w' := by
 unfold rootB
 by_cases h : n = 0
 ·subst h
  by_cases h2 : a = 0
  ·subst h2
   go_enter Tryz.func111, Tryz.ntmps111
   go_wp2
   go_ret
   exact ⟨by simp, (Below.refl _ _).alloc (Nat.le_refl _) _⟩
  ·have q : (a == 0) = false := by simp [h2]
   go_enter Tryz.func111, Tryz.ntmps111
   go_wp2
   go_ret
   exact ⟨by simp [h2], (Below.refl _ _).alloc (Nat.le_refl _) _⟩
 ·have q : (n == 0) = false := by simp [h]
  go_enter Tryz.func111, Tryz.ntmps111
  go_wp2
  go_ret
  exact ⟨by simp [h], (Below.refl _ _).alloc (Nat.le_refl _) _⟩
theorem idCheck_any (n a : Int) (w : World) : Calls Tryz.prog 112 #[.agg #[.int .i64 n, .int .i64 a]] w fun e w' => e = .returned (errV (if idOkB n a = true then 0 else 1)) ∧ Below w.heap.size w w' := by
 by_cases r : n = 0 ∧ a = 0
 ·obtain ⟨rfl, rfl⟩ := r
  exact (check_root _).mono fun e w' ⟨h, b⟩ => ⟨by rw [(idOk_iff _ _).2 (Or.inl ⟨rfl, rfl⟩)]; exact h, b⟩
 ·by_cases R : Real n a
  ·exact (check_real n a _ R).mono fun e w' ⟨h, b⟩ => ⟨by rw [(idOk_iff _ _).2 (Or.inr R)]; exact h, b⟩
  ·exact (check_bad n a _ ⟨r, R⟩).mono fun e w' ⟨h, b⟩ => ⟨by rw [idOk_no _ _ (fun x => x.elim r R)]; exact h, b⟩
theorem isActor_any (n : Int) (w : World) : Calls Tryz.prog 67 #[.int .i64 n] w fun e w' => e = .returned (.bool (fromB n 99)) ∧ Below w.heap.size w w' := by
 unfold fromB
 by_cases h : 1 ≤ n
 ·go_enter Tryz.func67, Tryz.ntmps67
  go_wp2
  go_ret
  exact ⟨by simp [h], Below.refl _ _⟩
 ·go_enter Tryz.func67, Tryz.ntmps67
  go_wp2
  go_ret
  exact ⟨by simp; omega, Below.refl _ _⟩
theorem isNum_any (n : Int) (w : World) : Calls Tryz.prog 68 #[.int .i64 n] w fun e w' => e = .returned (.bool (fromB n 1000000)) ∧ Below w.heap.size w w' := by
 unfold fromB
 by_cases h : 1 ≤ n
 ·go_enter Tryz.func68, Tryz.ntmps68
  go_wp2
  go_ret
  exact ⟨by simp [h], Below.refl _ _⟩
 ·go_enter Tryz.func68, Tryz.ntmps68
  go_wp2
  go_ret
  exact ⟨by simp; omega, Below.refl _ _⟩
theorem needs_any (k : Int) (w : World) : Calls Tryz.prog 85 #[.int .i64 k] w fun e w' => e = .returned (.bool (needsB k)) ∧ Below w.heap.size w w' := by
 unfold needsB
 by_cases h : k = 4
 ·subst h
  go_enter Tryz.func85, Tryz.ntmps85
  go_wp2
  go_ret
  exact ⟨by simp, Below.refl _ _⟩
 ·have q : (k == 4) = false := by simp [h]
  by_cases h3 : k = 3
  ·subst h3
   go_enter Tryz.func85, Tryz.ntmps85
   go_wp2
   go_ret
   exact ⟨by simp, Below.refl _ _⟩
  ·have q3 : (k == 3) = false := by simp [h3]
   go_enter Tryz.func85, Tryz.ntmps85
   go_wp2
   go_ret
   exact ⟨by simp [h, h3], Below.refl _ _⟩
set_option maxRecDepth 100000 in
set_option maxHeartbeats 2000000 in
theorem mayHave_any (k : Int) (v : V) (w : World) : Calls Tryz.prog 84 #[.int .i64 k, v.val] w fun e w' => e = .returned (.bool (mayHaveB k v)) ∧ Below w.heap.size w w' := by
 obtain ⟨vk, vn, vt, vo, va⟩ := v
 unfold V.val mayHaveB
 dsimp only
 have B1 : ∀ x, Below w.heap.size w (w.alloc x) := fun x => (Below.refl _ _).alloc (Nat.le_refl _) _
 obtain ⟨o, ho, ho5⟩ : ∃ o : Bool, decide (vk = 5 ∨ vk = 6) = o ∧ ((vk = 5 ∧ o = true) ∨ (vk = 6 ∧ o = true) ∨ ((vk == 5) = false ∧ (vk == 6) = false ∧ o = false)) := by
  refine ⟨_, rfl, ?_⟩
  by_cases h5 : vk = 5
  ·exact Or.inl ⟨h5, by simp [h5]⟩
  ·by_cases h6 : vk = 6
   ·exact Or.inr (Or.inl ⟨h6, by simp [h6]⟩)
   ·exact Or.inr (Or.inr ⟨by simp [h5], by simp [h6], by simp [h5, h6]⟩)
 rw [ho]
 clear ho
 by_cases h1 : k = 1
 ·subst h1
  rcases ho5 with ⟨rfl, rfl⟩ | ⟨rfl, rfl⟩ | ⟨a, b, rfl⟩
  all_goals
   go_enter Tryz.func84, Tryz.ntmps84
   go_wp2
   go_ret
   exact ⟨by simp, B1 _⟩
 ·have q1 : (k == 1) = false := by simp [h1]
  rw [if_neg h1]
  clear h1
  by_cases h2 : k = 2
  ·subst h2
   rcases ho5 with ⟨rfl, rfl⟩ | ⟨rfl, rfl⟩ | ⟨a, b, rfl⟩
   ·go_enter Tryz.func84, Tryz.ntmps84
    go_wp2_with fail
    refine (cRoot_any vo va _).mono ?_
    rintro e w1 ⟨rfl, b1⟩
    go_wp2
    go_ret
    exact ⟨by simp, (B1 _).trans (b1.mono (B1 _).size)⟩
   ·go_enter Tryz.func84, Tryz.ntmps84
    go_wp2_with fail
    refine (cRoot_any vo va _).mono ?_
    rintro e w1 ⟨rfl, b1⟩
    go_wp2
    go_ret
    exact ⟨by simp, (B1 _).trans (b1.mono (B1 _).size)⟩
   ·go_enter Tryz.func84, Tryz.ntmps84
    go_wp2
    go_ret
    exact ⟨by simp, B1 _⟩
  ·have q2 : (k == 2) = false := by simp [h2]
   rw [if_neg h2]
   clear h2
   by_cases h3 : k = 3
   ·subst h3
    by_cases hv : vk = 0
    ·subst hv
     rcases ho5 with ⟨h, rfl⟩ | ⟨h, rfl⟩ | ⟨a, b, rfl⟩
     ·cases h
     ·cases h
     ·go_enter Tryz.func84, Tryz.ntmps84
      go_wp2
      go_ret
      exact ⟨by simp, B1 _⟩
    ·have qv : (vk == 0) = false := by simp [hv]
     rcases ho5 with ⟨rfl, rfl⟩ | ⟨rfl, rfl⟩ | ⟨a, b, rfl⟩
     all_goals
      go_enter Tryz.func84, Tryz.ntmps84
      go_wp2
      go_ret
      exact ⟨by first | (simp; done) | (simp [hv]; done), B1 _⟩
   ·have q3 : (k == 3) = false := by simp [h3]
    rw [if_neg h3]
    clear h3
    by_cases hv : vk = 2
    ·subst hv
     rcases ho5 with ⟨h, rfl⟩ | ⟨h, rfl⟩ | ⟨a, b, rfl⟩
     ·cases h
     ·cases h
     ·go_enter Tryz.func84, Tryz.ntmps84
      go_wp2
      go_ret
      exact ⟨by simp, B1 _⟩
    ·have qv : (vk == 2) = false := by simp [hv]
     rcases ho5 with ⟨rfl, rfl⟩ | ⟨rfl, rfl⟩ | ⟨a, b, rfl⟩
     all_goals
      go_enter Tryz.func84, Tryz.ntmps84
      go_wp2
      go_ret
      exact ⟨by first | (simp; done) | (simp [hv]; done), B1 _⟩
end Go.Proofs.YtejfemdkommfhaaGreatDoor
