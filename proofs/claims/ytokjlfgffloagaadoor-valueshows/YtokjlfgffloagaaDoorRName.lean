/-
  What is proved: the functions Id and Name of package bookref1 at any id.
  Conditions: as each theorem says.
-/
import Derived.Test.YtokjlfgffloagaaDoorText
import Derived.Test.YtokjlfgffloagaaDoorTold
import Derived.Test.YtokjlfgffloagaaDoorName
namespace Go.Proofs.YtokjlfgffloagaaDoor
open Go.RowKit Go.Sort

set_option maxHeartbeats 400000 in
theorem rName_root (w : World) :
    Calls Tryd.prog 8 #[.agg #[.int .i64 0, .int .i64 0]] w fun e w' => e = .returned (.string ⟨#[114, 111, 111, 116]⟩) ∧ Below w.heap.size w w' := by
  go_enter Tryd.func8, Tryd.ntmps8
  go_wp2_with (go_at_call 21; refine (rRoot_yes _).mono ?_; rintro e w1 ⟨rfl, hb⟩)
  go_ret
  exact ⟨rfl, ((Below.refl _ _).alloc (Nat.le_refl _) _).trans (hb.mono (by simp))⟩

set_option maxHeartbeats 400000 in
theorem rName_real (n a : Int) (w : World) (h : Real n a) :
    Calls Tryd.prog 8 #[.agg #[.int .i64 n, .int .i64 a]] w fun e w' => e = .returned (.string ⟨(Lib.itoa n ++ 64 :: Lib.itoa a).toArray⟩) ∧ Below w.heap.size w w' := by
  have hnr : ¬ (n = 0 ∧ a = 0) := by have := h.1; omega
  go_enter Tryd.func8, Tryd.ntmps8
  go_wp2_with (go_at_call 21; refine (rRoot_no n a _ hnr).mono ?_; rintro e w2 ⟨rfl, hb⟩; obtain ⟨hc, hf⟩ := bcell hb)
  have B2 : Below w.heap.size w w2 := ((Below.refl _ _).alloc (Nat.le_refl _) _).trans (hb.mono (by simp))
  have hz : w.heap.size < w2.heap.size := by have := hb.size; simp at this; omega
  have c0 : w2.cell? ⟨w.heap.size, 0, none⟩ = some (.int .i64 n) := by rw [hc _ _ (by simp)]; simp
  have c1 : w2.cell? ⟨w.heap.size, 1, none⟩ = some (.int .i64 a) := by rw [hc _ _ (by simp)]; simp
  clear hc hf hb hnr
  obtain ⟨h1, h2, h3, h4⟩ := h
  have l1 := Lib.itoa_length_le n (by omega) (by omega)
  have l2 := Lib.itoa_length_le a (by omega) (by omega)
  go_region_with (first | (go_at_call_of 25 n; refine (digits_any n _ ?_ ?_).mono ?_; omega; omega; rintro e w3 ⟨rfl, hb3⟩; have c13 : w3.cell? ⟨w.heap.size, 1, none⟩ = some (.int .i64 a) := (hb3.cell (p := ⟨w.heap.size, 1, none⟩) hz).trans c1) | (go_at_call_of 25 a; refine (digits_any a _ ?_ ?_).mono ?_; omega; omega; rintro e w4 ⟨rfl, hb4⟩))
  all_goals
    have B4 : Below w.heap.size w w4 := (B2.drew.trans (hb3.mono (Nat.le_of_lt hz))).trans (hb4.mono (by have h5 : w2.heap.size ≤ w3.heap.size := hb3.size; omega))
    clear hb3 hb4 c13 c0 c1 B2 l1 l2
    go_wp2
    go_ret
    exact ⟨ret_str (at_str _ _), B4⟩

set_option maxHeartbeats 400000 in
theorem rId_root (w : World) : Calls Tryd.prog 6 #[.agg #[.int .i64 0, .int .i64 0]] w fun e w' => e = .returned (.bool true) ∧ Below w.heap.size w w' := by
  go_enter Tryd.func6, Tryd.ntmps6
  go_wp2_with (go_at_call 21; refine (rRoot_yes _).mono ?_; rintro e w1 ⟨rfl, hb⟩)
  go_ret
  exact ⟨rfl, ((Below.refl _ _).alloc (Nat.le_refl _) _).trans (hb.mono (by simp))⟩

theorem one_box {w w1 : World} {c0 c1 : Value} (hb : Below (w.alloc (.cells #[c0, c1] 23)).heap.size (w.alloc (.cells #[c0, c1] 23)) w1) :
    w1.cell? ⟨w.heap.size, 0, none⟩ = some c0 ∧ w1.cell? ⟨w.heap.size, 1, none⟩ = some c1 ∧ Below w.heap.size w w1 ∧ w.heap.size < w1.heap.size := by
  obtain ⟨hc, _⟩ := bcell hb
  refine ⟨by rw [hc _ _ (by simp)]; simp, by rw [hc _ _ (by simp)]; simp, ((Below.refl _ _).alloc (Nat.le_refl _) _).trans (hb.mono (by simp)), ?_⟩
  have := hb.size
  simp at this
  omega

set_option maxHeartbeats 400000 in
theorem rId_real (n a : Int) (w : World) (h : Real n a) : Calls Tryd.prog 6 #[.agg #[.int .i64 n, .int .i64 a]] w fun e w' => e = .returned (.bool true) ∧ Below w.heap.size w w' := by
  have hnr : ¬ (n = 0 ∧ a = 0) := by have := h.1; omega
  go_enter Tryd.func6, Tryd.ntmps6
  go_wp2_with (first | (go_at_call 21; refine (rRoot_no n a _ hnr).mono ?_; rintro e w1 ⟨rfl, hb⟩; obtain ⟨c0, c1, B, hz⟩ := one_box hb) | (go_at_call 22; refine (rReal_yes n a _ h).mono ?_; rintro e w2 ⟨rfl, hb2⟩))
  go_ret
  exact ⟨rfl, B.trans (hb2.mono (Nat.le_of_lt hz))⟩

set_option maxHeartbeats 400000 in
theorem rId_bad (n a : Int) (w : World) (h : Bad n a) : Calls Tryd.prog 6 #[.agg #[.int .i64 n, .int .i64 a]] w fun e w' => e = .returned (.bool false) ∧ Below w.heap.size w w' := by
  obtain ⟨hnr, hR⟩ := h
  go_enter Tryd.func6, Tryd.ntmps6
  go_wp2_with (first | (go_at_call 21; refine (rRoot_no n a _ hnr).mono ?_; rintro e w1 ⟨rfl, hb⟩; obtain ⟨c0, c1, B, hz⟩ := one_box hb) | (go_at_call 22; refine (rReal_no n a _ hR).mono ?_; rintro e w2 ⟨rfl, hb2⟩))
  go_ret
  exact ⟨rfl, B.trans (hb2.mono (Nat.le_of_lt hz))⟩
end Go.Proofs.YtokjlfgffloagaaDoor
