/-
  What is proved: which name booklaw3's file gives a number.
  Conditions: none.
-/
import Derived.Test.YtcdpcjafomfddaaDoorKName
namespace Go.Proofs.YtcdpcjafomfddaaDoor
open Go.RowKit Go.Maps

/-- The name of a number. -/
def fileT (n : Int) : Tx := if n = 0 ∨ n = 1 then [97] else if n = 2 then [98, 46, 98] else if n = 3 then [99, 57] else if n = 4 then [] else if n = 5 then [65] else [120]

theorem fileT_short (n : Int) : (fileT n).length ≤ 3 := by
  unfold fileT
  repeat' split
  all_goals simp

set_option maxRecDepth 100000 in
set_option maxHeartbeats 1000000 in
theorem file_any (n : Int) (w : World) : Calls Tryd.prog 6 #[.int .i64 n] w fun e w' => e = .returned (.string ⟨(fileT n).toArray⟩) ∧ w' = w := by
  by_cases h0 : n = 0
  · subst h0
    go_enter Tryd.func6, Tryd.ntmps6
    go_wp2
    go_ret
    exact ⟨rfl, rfl⟩
  · by_cases h1 : n = 1
    · subst h1
      go_enter Tryd.func6, Tryd.ntmps6
      go_wp2
      go_ret
      exact ⟨rfl, rfl⟩
    · by_cases h2 : n = 2
      · subst h2
        go_enter Tryd.func6, Tryd.ntmps6
        go_wp2
        go_ret
        exact ⟨rfl, rfl⟩
      · by_cases h3 : n = 3
        · subst h3
          go_enter Tryd.func6, Tryd.ntmps6
          go_wp2
          go_ret
          exact ⟨rfl, rfl⟩
        · by_cases h4 : n = 4
          · subst h4
            go_enter Tryd.func6, Tryd.ntmps6
            go_wp2
            go_ret
            exact ⟨rfl, rfl⟩
          · by_cases h5 : n = 5
            · subst h5
              go_enter Tryd.func6, Tryd.ntmps6
              go_wp2
              go_ret
              exact ⟨rfl, rfl⟩
            · have e : fileT n = [120] := by unfold fileT; rw [if_neg (by omega), if_neg h2, if_neg h3, if_neg h4, if_neg h5]
              rw [e]
              have b0 : (n == 0) = false := by simpa using h0
              have b1 : (n == 1) = false := by simpa using h1
              have b2 : (n == 2) = false := by simpa using h2
              have b3 : (n == 3) = false := by simpa using h3
              have b4 : (n == 4) = false := by simpa using h4
              have b5 : (n == 5) = false := by simpa using h5
              clear e h0 h1 h2 h3 h4 h5
              go_enter Tryd.func6, Tryd.ntmps6
              go_wp2
              go_ret
              exact ⟨rfl, rfl⟩
end Go.Proofs.YtcdpcjafomfddaaDoor
