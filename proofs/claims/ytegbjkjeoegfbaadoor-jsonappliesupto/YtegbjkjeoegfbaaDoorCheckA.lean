/-
  What is proved: package value's Check returns nothing of what chapter 2 calls a value, and the error of range of what is none; and nothing that was there has turned.
  Conditions: as each theorem says; none on the world.
-/
import Derived.Test.YtegbjkjeoegfbaaDoorOrderA
import Derived.Deep.RegionHeld3
import Derived.Handy
import Derived.Deep.RegionWith
namespace Go.Proofs.YtegbjkjeoegfbaaDoor
open Go.RowKit Go.Sort

/-- An id, or the root. -/
def IdOk (n a : Int) : Prop := (n = 0 ∧ a = 0) ∨ Real n a
/-- The same, told by a bool. -/
def idOkB (n a : Int) : Bool := decide (n = 0 ∧ a = 0) || decide (1 ≤ n ∧ n ≤ 1000000 ∧ 1 ≤ a ∧ a ≤ 99)
theorem idOk_iff (n a : Int) : idOkB n a = true ↔ IdOk n a := by
  unfold idOkB IdOk Real
  rw [Bool.or_eq_true, decide_eq_true_eq, decide_eq_true_eq]
theorem idOk_no (n a : Int) (h : ¬ IdOk n a) : idOkB n a = false := by
  cases e : idOkB n a with
  | true => exact absurd ((idOk_iff n a).1 e) h
  | false => rfl

/-- Are the fields that a value's kind uses what they may be? -/
def usedB (v : V) : Bool :=
  if v.k = 0 ∨ v.k = 2 ∨ v.k = 4 then true else if v.k = 1 then decide (v.n = 0 ∨ v.n = 1) else if v.k = 3 then decide ((v.t.size : Int) ≤ 60) else if v.k = 5 ∨ v.k = 6 then idOkB v.o v.a else false

/-- A value without the fields that its kind does not use. -/
def onlyV (v : V) : V :=
  if v.k = 1 ∨ v.k = 2 ∨ v.k = 4 then ⟨v.k, v.n, .empty, 0, 0⟩ else if v.k = 3 then ⟨3, 0, v.t, 0, 0⟩ else if v.k = 5 ∨ v.k = 6 then ⟨v.k, 0, .empty, v.o, v.a⟩ else ⟨v.k, 0, .empty, 0, 0⟩

set_option maxRecDepth 100000 in
set_option maxHeartbeats 1000000 in
theorem isUsed_any (v : V) (w : World) :
    Calls Tryd.prog 51 #[v.val] w fun e w' => e = .returned (.bool (usedB v)) ∧ Below w.heap.size w w' := by
  obtain ⟨k, n, t, o, a⟩ := v
  unfold V.val usedB
  dsimp only
  have B1 : ∀ x, Below w.heap.size w (w.alloc x) := fun x => (Below.refl _ _).alloc (Nat.le_refl _) _
  by_cases h0 : k = 0
  · subst h0
    go_enter Tryd.func51, Tryd.ntmps51
    go_wp2
    go_ret
    exact ⟨by simp, B1 _⟩
  by_cases h2 : k = 2
  · subst h2
    go_enter Tryd.func51, Tryd.ntmps51
    go_wp2
    go_ret
    exact ⟨by simp, B1 _⟩
  by_cases h4 : k = 4
  · subst h4
    go_enter Tryd.func51, Tryd.ntmps51
    go_wp2
    go_ret
    exact ⟨by simp, B1 _⟩
  by_cases h1 : k = 1
  · subst h1
    by_cases n0 : n = 0
    · subst n0
      go_enter Tryd.func51, Tryd.ntmps51
      go_wp2
      go_ret
      exact ⟨by simp, B1 _⟩
    by_cases n1 : n = 1
    · subst n1
      go_enter Tryd.func51, Tryd.ntmps51
      go_wp2
      go_ret
      exact ⟨by simp, B1 _⟩
    · go_enter Tryd.func51, Tryd.ntmps51
      go_wp2
      go_ret
      exact ⟨by simp [n0, n1], B1 _⟩
  by_cases h3 : k = 3
  · subst h3
    go_enter Tryd.func51, Tryd.ntmps51
    go_wp2
    go_ret
    exact ⟨by simp, B1 _⟩
  by_cases h56 : k = 5 ∨ k = 6
  · have hc : Calls Tryd.prog 61 #[.agg #[.int .i64 o, .int .i64 a]] (w.alloc (.cells #[.int .i64 k, .int .i64 n, .string t, .int .i64 o, .int .i64 a] 25)) fun e w' => (idOkB o a = true ∧ e = .returned .nilIface ∨ idOkB o a = false ∧ e = .returned (.iface 59 (.int .i64 1))) ∧ Below (w.heap.size + 1) (w.alloc (.cells #[.int .i64 k, .int .i64 n, .string t, .int .i64 o, .int .i64 a] 25)) w' := by
      by_cases r : o = 0 ∧ a = 0
      · obtain ⟨rfl, rfl⟩ := r
        exact (check_root _).mono fun e w' ⟨h, b⟩ => ⟨Or.inl ⟨(idOk_iff _ _).2 (Or.inl ⟨rfl, rfl⟩), h⟩, by simpa using b⟩
      · by_cases R : Real o a
        · exact (check_real o a _ R).mono fun e w' ⟨h, b⟩ => ⟨Or.inl ⟨(idOk_iff _ _).2 (Or.inr R), h⟩, by simpa using b⟩
        · exact (check_bad o a _ ⟨r, R⟩).mono fun e w' ⟨h, b⟩ => ⟨Or.inr ⟨idOk_no _ _ (fun x => x.elim r R), h⟩, by simpa using b⟩
    rcases h56 with h5 | h6
    · subst h5
      go_enter Tryd.func51, Tryd.ntmps51
      go_wp2_with fail
      refine hc.mono ?_
      rintro e w1 ⟨⟨hi, rfl⟩ | ⟨hi, rfl⟩, hb⟩
      · go_wp2
        go_ret
        exact ⟨by simp, (B1 _).trans (hb.mono (by omega))⟩
      · go_wp2
        go_ret
        exact ⟨by simp, (B1 _).trans (hb.mono (by omega))⟩
    · subst h6
      go_enter Tryd.func51, Tryd.ntmps51
      go_wp2_with fail
      refine hc.mono ?_
      rintro e w1 ⟨⟨hi, rfl⟩ | ⟨hi, rfl⟩, hb⟩
      · go_wp2
        go_ret
        exact ⟨by simp, (B1 _).trans (hb.mono (by omega))⟩
      · go_wp2
        go_ret
        exact ⟨by simp, (B1 _).trans (hb.mono (by omega))⟩
  · have h5 : ¬ k = 5 := fun e => h56 (Or.inl e)
    have h6 : ¬ k = 6 := fun e => h56 (Or.inr e)
    clear h56
    go_enter Tryd.func51, Tryd.ntmps51
    go_wp2
    go_ret
    exact ⟨by simp, B1 _⟩

set_option maxRecDepth 100000 in
set_option maxHeartbeats 1000000 in
theorem onlyUsed_any (v : V) (w : World) :
    Calls Tryd.prog 52 #[v.val] w fun e w' => e = .returned (onlyV v).val ∧ Below w.heap.size w w' := by
  obtain ⟨k, n, t, o, a⟩ := v
  by_cases h1 : k = 1
  · subst h1
    have r : onlyV ⟨1, n, t, o, a⟩ = ⟨1, n, .empty, 0, 0⟩ := by simp [onlyV]
    rw [r]
    unfold V.val
    dsimp only
    clear r
    go_enter Tryd.func52, Tryd.ntmps52
    go_wp2
    go_returns
    exact ⟨rfl, by go_grown⟩
  by_cases h2 : k = 2
  · subst h2
    have r : onlyV ⟨2, n, t, o, a⟩ = ⟨2, n, .empty, 0, 0⟩ := by simp [onlyV]
    rw [r]
    unfold V.val
    dsimp only
    clear r
    go_enter Tryd.func52, Tryd.ntmps52
    go_wp2
    go_returns
    exact ⟨rfl, by go_grown⟩
  by_cases h4 : k = 4
  · subst h4
    have r : onlyV ⟨4, n, t, o, a⟩ = ⟨4, n, .empty, 0, 0⟩ := by simp [onlyV]
    rw [r]
    unfold V.val
    dsimp only
    clear r
    go_enter Tryd.func52, Tryd.ntmps52
    go_wp2
    go_returns
    exact ⟨rfl, by go_grown⟩
  by_cases h3 : k = 3
  · subst h3
    have r : onlyV ⟨3, n, t, o, a⟩ = ⟨3, 0, t, 0, 0⟩ := by simp [onlyV]
    rw [r]
    unfold V.val
    dsimp only
    clear r
    go_enter Tryd.func52, Tryd.ntmps52
    go_wp2
    go_returns
    exact ⟨rfl, by go_grown⟩
  by_cases h5 : k = 5
  · subst h5
    have r : onlyV ⟨5, n, t, o, a⟩ = ⟨5, 0, .empty, o, a⟩ := by simp [onlyV]
    rw [r]
    unfold V.val
    dsimp only
    clear r
    go_enter Tryd.func52, Tryd.ntmps52
    go_wp2
    go_returns
    exact ⟨rfl, by go_grown⟩
  by_cases h6 : k = 6
  · subst h6
    have r : onlyV ⟨6, n, t, o, a⟩ = ⟨6, 0, .empty, o, a⟩ := by simp [onlyV]
    rw [r]
    unfold V.val
    dsimp only
    clear r
    go_enter Tryd.func52, Tryd.ntmps52
    go_wp2
    go_returns
    exact ⟨rfl, by go_grown⟩
  have r : onlyV ⟨k, n, t, o, a⟩ = ⟨k, 0, .empty, 0, 0⟩ := by simp [onlyV, h1, h2, h3, h4, h5, h6]
  rw [r]
  unfold V.val
  dsimp only
  clear r
  go_enter Tryd.func52, Tryd.ntmps52
  go_wp2
  go_returns
  exact ⟨rfl, by go_grown⟩

/-- Two values are one. -/
def sameB (v u : V) : Bool := v.k == u.k && (v.n == u.n && (v.t.toList == u.t.toList && (v.o == u.o && v.a == u.a)))

set_option maxRecDepth 100000 in
theorem eqV (v u : V) (w : World) : (Op.equalIn 10000 25 v.val u.val).run Tryd.prog w = .ok (sameB v u) w := by
  obtain ⟨k, n, t, o, a⟩ := v
  obtain ⟨k', n', t', o', a'⟩ := u
  unfold V.val sameB
  dsimp only
  go_simp
  by_cases h1 : k = k' <;> by_cases h2 : n = n' <;> by_cases h3 : t.toList = t'.toList <;> by_cases h4 : o = o' <;> by_cases h5 : a = a' <;> simp [h1, h2, h3, h4, h5]


set_option maxRecDepth 100000 in
set_option maxHeartbeats 2000000 in
theorem checkV_used (v : V) (w : World) (hu : usedB v = true) :
    Calls Tryd.prog 38 #[v.val] w fun e w' => e = .returned (if sameB v (onlyV v) = true then .nilIface else .iface 59 (.int .i64 1)) ∧ Below w.heap.size w w' := by
  have H1 := isUsed_any v
  have H2 := onlyUsed_any v
  rw [hu] at H1
  have H3 := eqV v (onlyV v)
  generalize onlyV v = u at *
  generalize sameB v u = q at *
  obtain ⟨k, n, t, o, a⟩ := v
  obtain ⟨k', n', t', o', a'⟩ := u
  unfold V.val at *
  dsimp only at *
  go_enter Tryd.func38, Tryd.ntmps38
  go_wp2
  go_region_held3 (fun W => W.cell? ⟨w.heap.size, 0, none⟩ = some (.int .i64 k) ∧ W.cell? ⟨w.heap.size, 1, none⟩ = some (.int .i64 n) ∧ W.cell? ⟨w.heap.size, 2, none⟩ = some (.string t) ∧ W.cell? ⟨w.heap.size, 3, none⟩ = some (.int .i64 o) ∧ W.cell? ⟨w.heap.size, 4, none⟩ = some (.int .i64 a)) (first | go_keep | (refine ⟨?_, ?_, ?_, ?_, ?_⟩ <;> (refine (hb1.cell ?_).trans ?_ <;> first | (simp; done) | (simp; omega))) | (refine ⟨?_, ?_, ?_, ?_, ?_⟩ <;> (refine (hb2.cell ?_).trans ?_ <;> first | assumption | (simp; done) | (have hz := hb1.size; simp at hz; simp; omega) | (refine (hb1.cell ?_).trans ?_ <;> first | (simp; done) | (simp; omega))))) (first
    | (go_at_call 51; refine (H1 _).mono ?_; rintro e w1 ⟨rfl, hb1⟩)
    | (go_at_call 52; refine (H2 _).mono ?_; rintro e w2 ⟨rfl, hb2⟩))
  have B2 : Below w.heap.size w w2 := (((Below.refl _ _).alloc (Nat.le_refl _) _).drew.trans (hb1.mono (by simp))).trans (hb2.mono (by have hz := hb1.size; simp at hz; omega))
  clear hb1 hb2 H1 H2 H3
  cases q with
  | true =>
    go_wp2
    go_ret
    exact ⟨rfl, B2⟩
  | false =>
    go_wp2
    go_ret
    exact ⟨rfl, B2⟩

set_option maxRecDepth 100000 in
set_option maxHeartbeats 2000000 in
theorem checkV_not (v : V) (w : World) (hu : usedB v = false) :
    Calls Tryd.prog 38 #[v.val] w fun e w' => e = .returned (.iface 59 (.int .i64 1)) ∧ Below w.heap.size w w' := by
  have H1 := isUsed_any v
  rw [hu] at H1
  obtain ⟨k, n, t, o, a⟩ := v
  unfold V.val at *
  dsimp only at *
  go_enter Tryd.func38, Tryd.ntmps38
  go_wp2
  go_region_with (go_at_call 51; refine (H1 _).mono ?_; rintro e w1 ⟨rfl, hb1⟩)
  all_goals
    go_wp2
    go_ret
    exact ⟨rfl, ((Below.refl _ _).alloc (Nat.le_refl _) _).drew.trans (hb1.mono (by simp))⟩

/-- Is it a value? -/
def okB (v : V) : Bool := usedB v && sameB v (onlyV v)

theorem checkV_any (v : V) (w : World) :
    Calls Tryd.prog 38 #[v.val] w fun e w' => e = .returned (if okB v = true then .nilIface else .iface 59 (.int .i64 1)) ∧ Below w.heap.size w w' := by
  cases hu : usedB v with
  | true =>
    refine (checkV_used v w hu).mono ?_
    rintro e w' ⟨rfl, hb⟩
    exact ⟨by simp [okB, hu], hb⟩
  | false =>
    refine (checkV_not v w hu).mono ?_
    rintro e w' ⟨rfl, hb⟩
    exact ⟨by simp [okB, hu], hb⟩
end Go.Proofs.YtegbjkjeoegfbaaDoor
