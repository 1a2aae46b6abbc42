/-
  What is proved: the functions isCounted, isOfWord and width of package words answer as they should, and the world is as it was.
  Conditions: the rune is one.
-/
import Derived.Test.YtgbhhnfnfldbmaaDoorWMath
import Derived.Test.YtgbhhnfnfldbmaaDoorShelf
import Derived.Test.YtgbhhnfnfldbmaaDoorInts
namespace Go.Proofs.YtgbhhnfnfldbmaaDoor
open Go.RowKit Go.Shelf

/-- The two tables of package utf8. -/
def Tb (w : World) : Prop := Lib.Utf8Tabs (Tryd.validS_ren.g 3) (Tryd.validS_ren.g 4) w

theorem Tb.below {w w' : World} (h : Tb w) (hb : Below w.heap.size w w') : Tb w' := Utf8Tabs_below h hb

theorem valid_any (s : ByteArray) (w : World) (hs : s.size ≤ 17592186044416) (hT : Tb w) :
    Calls Tryd.prog 13 #[.string s] w fun e w' => e = .returned (.bool (Lib.validD s.data.toList)) ∧ Below w.heap.size w w' :=
  Any.utf8_ValidString Tryd.validS s w (by omega) hT

set_option maxRecDepth 100000 in
set_option maxHeartbeats 2000000 in
theorem counted_any (k : Int) (w : World) :
    Calls Tryd.prog 14 #[.int .i64 k] w fun e w' => e = .returned (.bool (decide (1 ≤ k ∧ k ≤ 3))) ∧ w' = w := by
  by_cases h1 : k = 1
  · subst h1
    go_enter Tryd.func14, Tryd.ntmps14
    go_wp2
    go_ret
    exact ⟨rfl, rfl⟩
  · by_cases h2 : k = 2
    · subst h2
      go_enter Tryd.func14, Tryd.ntmps14
      go_wp2
      go_ret
      exact ⟨rfl, rfl⟩
    · by_cases h3 : k = 3
      · subst h3
        go_enter Tryd.func14, Tryd.ntmps14
        go_wp2
        go_ret
        exact ⟨rfl, rfl⟩
      · have hd : decide (1 ≤ k ∧ k ≤ 3) = false := by rw [decide_eq_false_iff_not]; omega
        rw [hd]
        have e1 : (k == 1) = false := by rw [beq_eq_false_iff_ne]; exact h1
        have e2 : (k == 2) = false := by rw [beq_eq_false_iff_ne]; exact h2
        have e3 : (k == 3) = false := by rw [beq_eq_false_iff_ne]; exact h3
        clear h1 h2 h3 hd
        go_enter Tryd.func14, Tryd.ntmps14
        go_wp2
        go_ret
        exact ⟨rfl, rfl⟩

set_option maxRecDepth 100000 in
set_option maxHeartbeats 4000000 in
theorem word_any (c : Nat) (w : World) :
    Calls Tryd.prog 18 #[.int .i32 c] w fun e w' => e = .returned (.bool (isW c)) ∧ w' = w := by
  obtain ⟨r, hr⟩ : ∃ r, isW c = r := ⟨_, rfl⟩
  rw [hr]
  have HR : Hid (isW c = r) := hr
  clear hr
  go_enter Tryd.func18, Tryd.ntmps18
  go_wp2
  all_goals (go_ret; refine ⟨?_, rfl⟩; rw [← HR.out]; refine congrArg (fun b => Ending.returned (Value.bool b)) ?_; unfold isW; rw [Bool.eq_iff_iff]; first | (simp only [Bool.or_eq_true, decide_eq_true_eq]; omega) | (simp; omega))

set_option maxRecDepth 100000 in
set_option maxHeartbeats 2000000 in
theorem width_any (c : Nat) (k : Int) (w : World) (hc : Rune c) :
    Calls Tryd.prog 15 #[.int .i32 c, .int .i64 k] w fun e w' => e = .returned (.int .i64 (wd k c : Nat)) ∧ w' = w := by
  by_cases h1 : k = 1
  · subst h1
    have e1 : Lib.runeLen (c : Int) = (wd 1 c : Nat) := by
      unfold Lib.runeLen wd szB
      unfold Rune at hc
      rw [if_pos rfl]
      repeat' split
      all_goals omega
    have cR : ∀ W, Calls Tryd.prog 20 #[.int .i32 c] W _ := fun W => Any.utf8_RuneLen Tryd.runeLen c W
    rw [e1] at cR
    generalize wd 1 c = z at cR ⊢
    clear e1
    go_enter Tryd.func15, Tryd.ntmps15
    go_wp2_with (refine (cR _).mono ?_; rintro e w' ⟨rfl, rfl⟩)
    go_wp2
    all_goals (go_ret; exact ⟨rfl, rfl⟩)
  · have e1 : (k == 1) = false := by rw [beq_eq_false_iff_ne]; exact h1
    by_cases h3 : k = 3
    · subst h3
      by_cases h4 : 65536 ≤ c
      · have e2 : wd 3 c = 2 := by unfold wd; rw [if_neg (by decide), if_pos ⟨rfl, h4⟩]
        rw [e2]
        have g1 : (65536 : Int) ≤ c := by omega
        clear hc h1 e2 e1
        go_enter Tryd.func15, Tryd.ntmps15
        go_wp2
        go_ret
        exact ⟨rfl, rfl⟩
      · have e2 : wd 3 c = 1 := by unfold wd; rw [if_neg (by decide), if_neg (by omega)]
        rw [e2]
        have g1 : ¬ (65536 : Int) ≤ c := by omega
        clear hc h1 e2 e1
        go_enter Tryd.func15, Tryd.ntmps15
        go_wp2
        go_ret
        exact ⟨rfl, rfl⟩
    · have e3 : (k == 3) = false := by rw [beq_eq_false_iff_ne]; exact h3
      have e2 : wd k c = 1 := by unfold wd; rw [if_neg h1, if_neg (by omega)]
      rw [e2]
      clear hc h1 e2 h3
      go_enter Tryd.func15, Tryd.ntmps15
      go_wp2
      go_ret
      exact ⟨rfl, rfl⟩
end Go.Proofs.YtgbhhnfnfldbmaaDoor
