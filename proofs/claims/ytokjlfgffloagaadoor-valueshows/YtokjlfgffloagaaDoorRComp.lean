/-
  What is proved: the function Compare of package bookref1, called with any two values, returns how they compare, and nothing that was there has turned.
  Conditions: none.
-/
import Derived.Test.YtokjlfgffloagaaDoorCheck
import Derived.Test.YtokjlfgffloagaaDoorRName
namespace Go.Proofs.YtokjlfgffloagaaDoor
open Go.RowKit Go.Sort

theorem cells10 {w w1 : World} {a0 a1 a2 a3 a4 b0 b1 b2 b3 b4 : Value} (hb : Below ((w.alloc (.cells #[a0, a1, a2, a3, a4] 38)).alloc (.cells #[b0, b1, b2, b3, b4] 38)).heap.size ((w.alloc (.cells #[a0, a1, a2, a3, a4] 38)).alloc (.cells #[b0, b1, b2, b3, b4] 38)) w1) :
    (w1.cell? ⟨w.heap.size, 3, none⟩ = some a3 ∧ w1.cell? ⟨w.heap.size, 4, none⟩ = some a4) ∧ w1.cell? ⟨w.heap.size + 1, 3, none⟩ = some b3 ∧ w1.cell? ⟨w.heap.size + 1, 4, none⟩ = some b4 := by
  obtain ⟨hc, _⟩ := bcell hb
  refine ⟨⟨?_, ?_⟩, ?_, ?_⟩
  · rw [hc _ _ (by simp; omega)]; simp
  · rw [hc _ _ (by simp; omega)]; simp
  · rw [hc _ _ (by simp)]; simp
  · rw [hc _ _ (by simp)]; simp

set_option maxHeartbeats 2000000 in
theorem rCompare_any (v u : V) (w : World) :
    Calls Tryd.prog 20 #[v.val, u.val] w fun e w' => e = .returned (.int .i64 (cV v u)) ∧ Below w.heap.size w w' := by
  obtain ⟨k, n, t, o, a⟩ := v
  obtain ⟨k', n', t', o', a'⟩ := u
  unfold V.val cV
  dsimp only
  have BB : ∀ x y, Below w.heap.size w ((w.alloc x).alloc y) := fun x y => ((Below.refl _ _).alloc (Nat.le_refl _) _).alloc (by simp) _
  by_cases h1 : k = k'
  · subst h1
    have e1 : cI k k = 0 := by simp [cI]
    rw [e1]
    by_cases h2 : n = n'
    · subst h2
      have e2 : cI n n = 0 := by simp [cI]
      rw [e2]
      by_cases h3 : t.toList = t'.toList
      · have e3 : cS t.toList t'.toList = 0 := (cmp_cS.zero _ _).2 h3
        rw [e3]
        have g3 : (t.toList == t'.toList) = true := by simpa using h3
        have X := fun w => rLess_any o a o' a' w
        have Y := fun w => rLess_any o' a' o a w
        unfold or2 cId
        simp only [if_true]
        generalize lessB o a o' a' = x at *
        generalize lessB o' a' o a = y at *
        clear h3 e1 e2 e3
        go_enter Tryd.func20, Tryd.ntmps20
        go_wp2_with fail
        refine (X _).mono ?_
        rintro e w1 ⟨rfl, hb⟩
        have B1 := (BB _ _).trans (hb.mono (by simp; omega))
        obtain ⟨⟨q3, q4⟩, p3, p4⟩ := cells10 hb
        clear hb
        go_wp2_with fail
        refine (Y _).mono ?_
        rintro e w2 ⟨rfl, hb2⟩
        have B2 := B1.trans (hb2.mono B1.size)
        clear hb2 q3 q4 p3 p4 X Y
        cases x with
        | true =>
          go_wp2
          go_ret
          exact ⟨by simp, B2⟩
        | false =>
          cases y with
          | true =>
            go_wp2
            go_ret
            exact ⟨by simp, B2⟩
          | false =>
            go_wp2
            go_ret
            exact ⟨by simp, B2⟩
      · have g3 : (t.toList == t'.toList) = false := by simpa using h3
        by_cases h4 : t.toList < t'.toList
        · have e3 : cS t.toList t'.toList = -1 := by unfold cS; rw [if_pos h4]
          have g4 : Op.bytesLess t.toList t'.toList = true := by rw [bytesLess_eq]; simpa using h4
          rw [e3]
          clear h3 h4 e1 e2 e3
          go_enter Tryd.func20, Tryd.ntmps20
          go_wp2
          go_ret
          exact ⟨by simp [or2], BB _ _⟩
        · have e3 : cS t.toList t'.toList = 1 := by unfold cS; rw [if_neg h4, if_neg h3]
          have g4 : Op.bytesLess t.toList t'.toList = false := by rw [bytesLess_eq]; simpa using h4
          rw [e3]
          clear h3 h4 e1 e2 e3
          go_enter Tryd.func20, Tryd.ntmps20
          go_wp2
          go_ret
          exact ⟨by simp [or2], BB _ _⟩
    · have g2 : (n == n') = false := by simpa using h2
      by_cases h4 : n < n'
      · have e2 : cI n n' = -1 := by unfold cI; rw [if_pos h4]
        rw [e2]
        go_enter Tryd.func20, Tryd.ntmps20
        go_wp2
        go_ret
        exact ⟨by simp [or2], BB _ _⟩
      · have e2 : cI n n' = 1 := by unfold cI; rw [if_neg h4, if_pos (by omega)]
        rw [e2]
        go_enter Tryd.func20, Tryd.ntmps20
        go_wp2
        go_ret
        exact ⟨by simp [or2], BB _ _⟩
  · have g1 : (k == k') = false := by simpa using h1
    by_cases h4 : k < k'
    · have e1 : cI k k' = -1 := by unfold cI; rw [if_pos h4]
      rw [e1]
      go_enter Tryd.func20, Tryd.ntmps20
      go_wp2
      go_ret
      exact ⟨by simp [or2], BB _ _⟩
    · have e1 : cI k k' = 1 := by unfold cI; rw [if_neg h4, if_pos (by omega)]
      rw [e1]
      go_enter Tryd.func20, Tryd.ntmps20
      go_wp2
      go_ret
      exact ⟨by simp [or2], BB _ _⟩
end Go.Proofs.YtokjlfgffloagaaDoor
