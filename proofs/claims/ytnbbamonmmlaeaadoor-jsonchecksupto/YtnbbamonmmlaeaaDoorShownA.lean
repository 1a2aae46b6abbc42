/-
  What is proved: the function Show of package value, and that of package bookref1, called with a value that is no object, return how it is shown, and nothing that was there has turned.
  Conditions: it is a value and no object, its number is one of 64 bits, and the table of powers of ten lies as the text lays it.
-/
import Derived.Test.YtnbbamonmmlaeaaDoorCheckA
import Derived.Test.YtnbbamonmmlaeaaDoorQuoteWalk
import Derived.Test.YtnbbamonmmlaeaaDoorRQuote
import Derived.Test.YtnbbamonmmlaeaaDoorTextA
import Derived.Test.YtnbbamonmmlaeaaDoorTabA
namespace Go.Proofs.YtnbbamonmmlaeaaDoor
open Go.RowKit Go.Sort

/-- How a value that is no object is shown. -/
def showV (v : V) : List UInt8 :=
  if v.k = 1 then (if v.n = 1 then [116, 114, 117, 101] else [102, 97, 108, 115, 101])
  else if v.k = 2 ∨ v.k = 4 then Lib.itoa v.n
  else if v.k = 3 then quote v.t.data.toList
  else [110, 117, 108, 108]

/-- What Show asks of a value. -/
structure Fit (v : V) : Prop where
  low : -9223372036854775808 ≤ v.n
  high : v.n ≤ 9223372036854775807
  text : v.k = 3 → v.t.size ≤ 60

theorem one_box5 {w : World} {o : Obj} {w1 : World} (hb : Below (w.alloc o).heap.size (w.alloc o) w1) : Below w.heap.size w w1 := ((Below.refl _ _).alloc (Nat.le_refl _) _).trans (hb.mono (by simp))
theorem fit_of' (v : V) (h : okB v = true) (low : -9223372036854775808 ≤ v.n) (high : v.n ≤ 9223372036854775807) : Fit v := by
  have hu : usedB v = true := by
    unfold okB at h
    exact (Bool.and_eq_true_iff.1 h).1
  refine ⟨low, high, fun hk => ?_⟩
  unfold usedB at hu
  rw [hk] at hu
  have : (v.t.size : Int) ≤ 60 := by simpa using hu
  omega

set_option maxRecDepth 100000 in
set_option maxHeartbeats 1000000 in
theorem show_any (v : V) (w : World) (F : Fit v) (h5 : v.k ≠ 5) (h6 : v.k ≠ 6) (ht : Tab w) :
    Calls Tryd.prog 30 #[v.val] w fun e w' => e = .returned (.string ⟨(showV v).toArray⟩) ∧ Below w.heap.size w w' := by
  obtain ⟨k, n, t, o, a⟩ := v
  obtain ⟨f1, f2, f3⟩ := F
  unfold V.val showV
  dsimp only at *
  have T1 : Tab (w.alloc (.cells #[.int .i64 k, .int .i64 n, .string t, .int .i64 o, .int .i64 a] 25)) := ht.below ((Below.refl _ _).alloc (Nat.le_refl _) _)
  by_cases h1 : k = 1
  · subst h1
    rw [if_pos rfl]
    by_cases n1 : n = 1
    · subst n1
      rw [if_pos rfl]
      go_enter Tryd.func30, Tryd.ntmps30
      go_wp2
      go_ret
      exact ⟨rfl, (Below.refl _ _).alloc (Nat.le_refl _) _⟩
    · rw [if_neg n1]
      have n1' : (n == 1) = false := by simpa using n1
      go_enter Tryd.func30, Tryd.ntmps30
      go_wp2
      go_ret
      exact ⟨rfl, (Below.refl _ _).alloc (Nat.le_refl _) _⟩
  rw [if_neg h1]
  by_cases h2 : k = 2
  · subst h2
    rw [if_pos (Or.inl rfl)]
    go_enter Tryd.func30, Tryd.ntmps30
    go_wp2_with (go_at_call 42; refine (itoa_any n f1 f2 _ T1).mono ?_; rintro e w1 ⟨rfl, hb⟩)
    go_ret
    exact ⟨rfl, one_box5 hb⟩
  by_cases h4 : k = 4
  · subst h4
    rw [if_pos (Or.inr rfl)]
    go_enter Tryd.func30, Tryd.ntmps30
    go_wp2_with (go_at_call 42; refine (itoa_any n f1 f2 _ T1).mono ?_; rintro e w1 ⟨rfl, hb⟩)
    go_ret
    exact ⟨rfl, one_box5 hb⟩
  rw [if_neg (by omega)]
  by_cases h3 : k = 3
  · subst h3
    rw [if_pos rfl]
    have ft := f3 rfl
    go_enter Tryd.func30, Tryd.ntmps30
    go_wp2_with (go_at_call 40; refine (quote_any t _ (by omega)).mono ?_; rintro e w1 ⟨rfl, hb⟩)
    go_ret
    exact ⟨rfl, one_box5 hb⟩
  rw [if_neg h3]
  have h5' : (k == 5) = false := by simpa using h5
  have h6' : (k == 6) = false := by simpa using h6
  go_enter Tryd.func30, Tryd.ntmps30
  go_wp2
  go_ret
  exact ⟨rfl, (Below.refl _ _).alloc (Nat.le_refl _) _⟩

set_option maxRecDepth 100000 in
set_option maxHeartbeats 1000000 in
theorem rShow_any (v : V) (w : World) (F : Fit v) (h5 : v.k ≠ 5) (h6 : v.k ≠ 6) :
    Calls Tryd.prog 15 #[v.val] w fun e w' => e = .returned (.string ⟨(showV v).toArray⟩) ∧ Below w.heap.size w w' := by
  obtain ⟨k, n, t, o, a⟩ := v
  obtain ⟨f1, f2, f3⟩ := F
  unfold V.val showV
  dsimp only at *
  by_cases h1 : k = 1
  · subst h1
    rw [if_pos rfl]
    by_cases n1 : n = 1
    · subst n1
      rw [if_pos rfl]
      go_enter Tryd.func15, Tryd.ntmps15
      go_wp2
      go_ret
      exact ⟨rfl, (Below.refl _ _).alloc (Nat.le_refl _) _⟩
    · rw [if_neg n1]
      have n1' : (n == 1) = false := by simpa using n1
      go_enter Tryd.func15, Tryd.ntmps15
      go_wp2
      go_ret
      exact ⟨rfl, (Below.refl _ _).alloc (Nat.le_refl _) _⟩
  rw [if_neg h1]
  by_cases h2 : k = 2
  · subst h2
    rw [if_pos (Or.inl rfl)]
    go_enter Tryd.func15, Tryd.ntmps15
    go_wp2_with (go_at_call 25; refine (digits_any n _ f1 f2).mono ?_; rintro e w1 ⟨rfl, hb⟩)
    go_ret
    exact ⟨rfl, one_box5 hb⟩
  by_cases h4 : k = 4
  · subst h4
    rw [if_pos (Or.inr rfl)]
    go_enter Tryd.func15, Tryd.ntmps15
    go_wp2_with (go_at_call 25; refine (digits_any n _ f1 f2).mono ?_; rintro e w1 ⟨rfl, hb⟩)
    go_ret
    exact ⟨rfl, one_box5 hb⟩
  rw [if_neg (by omega)]
  by_cases h3 : k = 3
  · subst h3
    rw [if_pos rfl]
    have ft := f3 rfl
    go_enter Tryd.func15, Tryd.ntmps15
    go_wp2_with (go_at_call 16; refine (rQuote_any t _ (by omega)).mono ?_; rintro e w1 ⟨rfl, hb⟩)
    go_ret
    exact ⟨rfl, one_box5 hb⟩
  rw [if_neg h3]
  have h5' : (k == 5) = false := by simpa using h5
  have h6' : (k == 6) = false := by simpa using h6
  go_enter Tryd.func15, Tryd.ntmps15
  go_wp2
  go_ret
  exact ⟨rfl, (Below.refl _ _).alloc (Nat.le_refl _) _⟩
end Go.Proofs.YtnbbamonmmlaeaaDoor
