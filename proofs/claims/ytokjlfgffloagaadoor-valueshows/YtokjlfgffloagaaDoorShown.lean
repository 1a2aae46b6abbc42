/-
  What is proved: the function Show of package value, and that of package bookref1, called with a value, return how it is shown, and nothing that was there has turned.
  Conditions: it is a value, its number is one of 64 bits, and the table of powers of ten lies as the text lays it.
-/
import Derived.Test.YtokjlfgffloagaaDoorCheck
import Derived.Test.YtokjlfgffloagaaDoorQuoteWalk
import Derived.Test.YtokjlfgffloagaaDoorRQuote
import Derived.Test.YtokjlfgffloagaaDoorRName
namespace Go.Proofs.YtokjlfgffloagaaDoor
open Go.RowKit Go.Sort

/-- The name of an id, or of the root. -/
def nameV (n a : Int) : List UInt8 := if n = 0 ∧ a = 0 then [114, 111, 111, 116] else Lib.itoa n ++ 64 :: Lib.itoa a

/-- How a value is shown. -/
def showV (v : V) : List UInt8 :=
  if v.k = 1 then (if v.n = 1 then [116, 114, 117, 101] else [102, 97, 108, 115, 101])
  else if v.k = 2 ∨ v.k = 4 then Lib.itoa v.n
  else if v.k = 3 then quote v.t.data.toList
  else if v.k = 5 then 123 :: (nameV v.o v.a ++ [125])
  else if v.k = 6 then 91 :: (nameV v.o v.a ++ [93])
  else [110, 117, 108, 108]

/-- What Show asks of a value. -/
structure Fit (v : V) : Prop where
  low : -9223372036854775808 ≤ v.n
  high : v.n ≤ 9223372036854775807
  text : v.k = 3 → v.t.size ≤ 60
  obj : v.k = 5 ∨ v.k = 6 → IdOk v.o v.a

theorem nameV_len (n a : Int) (h : IdOk n a) : (nameV n a).length ≤ 50 := by
  unfold nameV
  split
  · simp
  · rcases h with h | ⟨h1, h2, h3, h4⟩
    · contradiction
    · have l1 := Lib.itoa_length_le n (by omega) (by omega)
      have l2 := Lib.itoa_length_le a (by omega) (by omega)
      simp
      omega

theorem name_any (n a : Int) (w : World) (h : IdOk n a) (ht : Tab w) :
    Calls Tryd.prog 7 #[.agg #[.int .i64 n, .int .i64 a]] w fun e w' => e = .returned (.string ⟨(nameV n a).toArray⟩) ∧ Below w.heap.size w w' := by
  unfold nameV
  by_cases r : n = 0 ∧ a = 0
  · rw [if_pos r]
    obtain ⟨rfl, rfl⟩ := r
    exact name_root w
  · rw [if_neg r]
    exact name_real n a w (h.resolve_left r) ht

theorem rName_any (n a : Int) (w : World) (h : IdOk n a) :
    Calls Tryd.prog 8 #[.agg #[.int .i64 n, .int .i64 a]] w fun e w' => e = .returned (.string ⟨(nameV n a).toArray⟩) ∧ Below w.heap.size w w' := by
  unfold nameV
  by_cases r : n = 0 ∧ a = 0
  · rw [if_pos r]
    obtain ⟨rfl, rfl⟩ := r
    exact rName_root w
  · rw [if_neg r]
    exact rName_real n a w (h.resolve_left r)

theorem wrap_str (x y : UInt8) (l : List UInt8) : (⟨#[x]⟩ ++ ⟨l.toArray⟩ ++ ⟨#[y]⟩ : ByteArray) = ⟨(x :: (l ++ [y])).toArray⟩ := by
  apply ByteArray.ext
  simp [ByteArray.data_append]

theorem one_box5 {w : World} {o : Obj} {w1 : World} (hb : Below (w.alloc o).heap.size (w.alloc o) w1) : Below w.heap.size w w1 := ((Below.refl _ _).alloc (Nat.le_refl _) _).trans (hb.mono (by simp))

set_option maxHeartbeats 1000000 in
theorem show_any (v : V) (w : World) (F : Fit v) (ht : Tab w) :
    Calls Tryd.prog 17 #[v.val] w fun e w' => e = .returned (.string ⟨(showV v).toArray⟩) ∧ Below w.heap.size w w' := by
  obtain ⟨k, n, t, o, a⟩ := v
  obtain ⟨f1, f2, f3, f4⟩ := F
  unfold V.val showV
  dsimp only at *
  have T1 : Tab (w.alloc (.cells #[.int .i64 k, .int .i64 n, .string t, .int .i64 o, .int .i64 a] 38)) := ht.below ((Below.refl _ _).alloc (Nat.le_refl _) _)
  by_cases h1 : k = 1
  · subst h1
    rw [if_pos rfl]
    by_cases n1 : n = 1
    · subst n1
      rw [if_pos rfl]
      go_enter Tryd.func17, Tryd.ntmps17
      go_wp2
      go_ret
      exact ⟨rfl, (Below.refl _ _).alloc (Nat.le_refl _) _⟩
    · rw [if_neg n1]
      have n1' : (n == 1) = false := by simpa using n1
      go_enter Tryd.func17, Tryd.ntmps17
      go_wp2
      go_ret
      exact ⟨rfl, (Below.refl _ _).alloc (Nat.le_refl _) _⟩
  rw [if_neg h1]
  by_cases h2 : k = 2
  · subst h2
    rw [if_pos (Or.inl rfl)]
    go_enter Tryd.func17, Tryd.ntmps17
    go_wp2_with (go_at_call 24; refine (itoa_any n f1 f2 _ T1).mono ?_; rintro e w1 ⟨rfl, hb⟩)
    go_ret
    exact ⟨rfl, one_box5 hb⟩
  by_cases h4 : k = 4
  · subst h4
    rw [if_pos (Or.inr rfl)]
    go_enter Tryd.func17, Tryd.ntmps17
    go_wp2_with (go_at_call 24; refine (itoa_any n f1 f2 _ T1).mono ?_; rintro e w1 ⟨rfl, hb⟩)
    go_ret
    exact ⟨rfl, one_box5 hb⟩
  rw [if_neg (by omega)]
  by_cases h3 : k = 3
  · subst h3
    rw [if_pos rfl]
    have ft := f3 rfl
    go_enter Tryd.func17, Tryd.ntmps17
    go_wp2_with (go_at_call 35; refine (quote_any t _ (by omega)).mono ?_; rintro e w1 ⟨rfl, hb⟩)
    go_ret
    exact ⟨rfl, one_box5 hb⟩
  rw [if_neg h3]
  by_cases h5 : k = 5
  · subst h5
    rw [if_pos rfl]
    have ho := f4 (Or.inl rfl)
    have hl := nameV_len o a ho
    have N := name_any o a _ ho T1
    generalize nameV o a = N5 at *
    go_enter Tryd.func17, Tryd.ntmps17
    go_wp2_with (go_at_call 7; refine N.mono ?_; rintro e w1 ⟨rfl, hb⟩)
    go_ret
    exact ⟨ret_str (wrap_str _ _ _), one_box5 hb⟩
  rw [if_neg h5]
  by_cases h6 : k = 6
  · subst h6
    rw [if_pos rfl]
    have ho := f4 (Or.inr rfl)
    have hl := nameV_len o a ho
    have N := name_any o a _ ho T1
    generalize nameV o a = N5 at *
    go_enter Tryd.func17, Tryd.ntmps17
    go_wp2_with (go_at_call 7; refine N.mono ?_; rintro e w1 ⟨rfl, hb⟩)
    go_ret
    exact ⟨ret_str (wrap_str _ _ _), one_box5 hb⟩
  rw [if_neg h6]
  go_enter Tryd.func17, Tryd.ntmps17
  go_wp2
  go_ret
  exact ⟨rfl, (Below.refl _ _).alloc (Nat.le_refl _) _⟩

set_option maxHeartbeats 1000000 in
theorem rShow_any (v : V) (w : World) (F : Fit v) :
    Calls Tryd.prog 18 #[v.val] w fun e w' => e = .returned (.string ⟨(showV v).toArray⟩) ∧ Below w.heap.size w w' := by
  obtain ⟨k, n, t, o, a⟩ := v
  obtain ⟨f1, f2, f3, f4⟩ := F
  unfold V.val showV
  dsimp only at *
  by_cases h1 : k = 1
  · subst h1
    rw [if_pos rfl]
    by_cases n1 : n = 1
    · subst n1
      rw [if_pos rfl]
      go_enter Tryd.func18, Tryd.ntmps18
      go_wp2
      go_ret
      exact ⟨rfl, (Below.refl _ _).alloc (Nat.le_refl _) _⟩
    · rw [if_neg n1]
      have n1' : (n == 1) = false := by simpa using n1
      go_enter Tryd.func18, Tryd.ntmps18
      go_wp2
      go_ret
      exact ⟨rfl, (Below.refl _ _).alloc (Nat.le_refl _) _⟩
  rw [if_neg h1]
  by_cases h2 : k = 2
  · subst h2
    rw [if_pos (Or.inl rfl)]
    go_enter Tryd.func18, Tryd.ntmps18
    go_wp2_with (go_at_call 25; refine (digits_any n _ f1 f2).mono ?_; rintro e w1 ⟨rfl, hb⟩)
    go_ret
    exact ⟨rfl, one_box5 hb⟩
  by_cases h4 : k = 4
  · subst h4
    rw [if_pos (Or.inr rfl)]
    go_enter Tryd.func18, Tryd.ntmps18
    go_wp2_with (go_at_call 25; refine (digits_any n _ f1 f2).mono ?_; rintro e w1 ⟨rfl, hb⟩)
    go_ret
    exact ⟨rfl, one_box5 hb⟩
  rw [if_neg (by omega)]
  by_cases h3 : k = 3
  · subst h3
    rw [if_pos rfl]
    have ft := f3 rfl
    go_enter Tryd.func18, Tryd.ntmps18
    go_wp2_with (go_at_call 36; refine (rQuote_any t _ (by omega)).mono ?_; rintro e w1 ⟨rfl, hb⟩)
    go_ret
    exact ⟨rfl, one_box5 hb⟩
  rw [if_neg h3]
  by_cases h5 : k = 5
  · subst h5
    rw [if_pos rfl]
    have ho := f4 (Or.inl rfl)
    have hl := nameV_len o a ho
    have N := fun w => rName_any o a w ho
    generalize nameV o a = N5 at *
    go_enter Tryd.func18, Tryd.ntmps18
    go_wp2_with (go_at_call 8; refine (N _).mono ?_; rintro e w1 ⟨rfl, hb⟩)
    go_ret
    exact ⟨ret_str (wrap_str _ _ _), one_box5 hb⟩
  rw [if_neg h5]
  by_cases h6 : k = 6
  · subst h6
    rw [if_pos rfl]
    have ho := f4 (Or.inr rfl)
    have hl := nameV_len o a ho
    have N := fun w => rName_any o a w ho
    generalize nameV o a = N5 at *
    go_enter Tryd.func18, Tryd.ntmps18
    go_wp2_with (go_at_call 8; refine (N _).mono ?_; rintro e w1 ⟨rfl, hb⟩)
    go_ret
    exact ⟨ret_str (wrap_str _ _ _), one_box5 hb⟩
  rw [if_neg h6]
  go_enter Tryd.func18, Tryd.ntmps18
  go_wp2
  go_ret
  exact ⟨rfl, (Below.refl _ _).alloc (Nat.le_refl _) _⟩
end Go.Proofs.YtokjlfgffloagaaDoor
