/-
  What is proved: the functions Id and Parse of package bookref1 at any id and any text.
  Conditions: a text is no longer than the model lets one be.
-/
import Derived.Test.YtgiggobpbddlbaaDoorWhole
import Derived.Test.YtgiggobpbddlbaaDoorParse
namespace Go.Proofs.YtgiggobpbddlbaaDoor
open Go.RowKit Go.Sort

set_option maxHeartbeats 400000 in
theorem rparse_root (w : World) :
    Calls Tryd.prog 12 #[.string ⟨#[114, 111, 111, 116]⟩] w fun e w' => e = .returned (.tuple #[.agg #[.int .i64 0, .int .i64 0], .bool true]) ∧ Below w.heap.size w w' := by
  have hr : ((⟨#[114, 111, 111, 116]⟩ : ByteArray).toList == [114, 111, 111, 116]) = true := by decide +kernel
  go_enter Tryd.func12, Tryd.ntmps12
  go_wp2
  exact bodyPost_ret (v := .tuple #[.agg #[.int .i64 0, .int .i64 0], .bool true]) (by simp [results, Tryd.results12, go_sem]) rfl ⟨rfl, (Below.refl _ _).alloc (Nat.le_refl _) _⟩

set_option maxHeartbeats 400000 in
theorem rparse_miss (s : ByteArray) (w : World) (hs : s.size ≤ maxLen) (hroot : (s.toList == [114, 111, 111, 116]) = false) (h : ∀ (k : Nat) (hk : k < s.size), ((s[k].toNat : Int) == 64) = false) :
    Calls Tryd.prog 12 #[.string s] w fun e w' => e = .returned (.tuple #[.agg #[.int .i64 0, .int .i64 0], .bool false]) ∧ Below w.heap.size w w' := by
  unfold maxLen at hs
  go_enter Tryd.func12, Tryd.ntmps12
  go_wp2_with fail
  go_loop [4] (fun i => ∃ k : Nat, k ≤ s.size ∧ i = .int .i64 k) (fun i => s.size - (intOf i).toNat)
  case atStart => exact ⟨0, Nat.zero_le _, rfl⟩
  case round =>
    obtain ⟨k, hk, rfl⟩ := hrel
    by_cases hlt : k < s.size
    · have h1 := h k hlt
      clear h
      go_wp2
      go_round
      case rel =>
        have e1 : Value.int .i64 ((k : Int) + 1) = .int .i64 ((k + 1 : Nat) : Int) := by go_num
        exact ⟨k + 1, hlt, e1⟩
      case measure => simp [intOf]; omega
    · go_wp2
      exact bodyPost_ret (v := .tuple #[.agg #[.int .i64 0, .int .i64 0], .bool false]) (by simp [results, Tryd.results12, go_sem]) rfl ⟨rfl, (Below.refl _ _).alloc (Nat.le_refl _) _⟩

/-- Two blocks that were laid first, behind a draw and a call that turns nothing that was there. -/
theorem two_cells {w w4 : World} {c0 c1 d0 d1 : Value} {t : TypeId} (B : Below (((w.alloc (.cells #[c0, c1] t)).alloc (.cells #[d0, d1] t)).drew).heap.size (((w.alloc (.cells #[c0, c1] t)).alloc (.cells #[d0, d1] t)).drew) w4) :
    Below w.heap.size w w4 ∧ w.heap.size + 2 ≤ w4.heap.size ∧ (w4.cell? ⟨w.heap.size, 0, none⟩ = some c0 ∧ w4.cell? ⟨w.heap.size, 1, none⟩ = some c1 ∧ w4.frozen? ⟨w.heap.size, 0, none⟩ = false ∧ w4.frozen? ⟨w.heap.size, 1, none⟩ = false) ∧
    w4.cell? ⟨w.heap.size + 1, 0, none⟩ = some d0 ∧ w4.cell? ⟨w.heap.size + 1, 1, none⟩ = some d1 := by
  have z : ((w.alloc (.cells #[c0, c1] t)).alloc (.cells #[d0, d1] t)).heap.size = w.heap.size + 2 := by simp
  have C : Below (w.heap.size + 2) ((w.alloc (.cells #[c0, c1] t)).alloc (.cells #[d0, d1] t)) w4 := ⟨B.os, B.tape, B.output, B.size, fun k hk => B.block k (show k < ((w.alloc (.cells #[c0, c1] t)).alloc (.cells #[d0, d1] t)).heap.size by rw [z]; exact hk)⟩
  refine ⟨(((Below.refl _ w).alloc (Nat.le_refl _) _).alloc (by simp) _).trans (C.mono (by omega)), by have := C.size; omega, ⟨?_, ?_, ?_, ?_⟩, ?_, ?_⟩
  · rw [C.cell (p := ⟨w.heap.size, 0, none⟩) (Nat.lt_add_of_pos_right (by omega))]; simp
  · rw [C.cell (p := ⟨w.heap.size, 1, none⟩) (Nat.lt_add_of_pos_right (by omega))]; simp
  · rw [C.frozen (p := ⟨w.heap.size, 0, none⟩) (Nat.lt_add_of_pos_right (by omega)), World.frozen?_alloc_old _ _ _ (by simp), World.frozen?_alloc_at _ _ _ _ rfl]
  · rw [C.frozen (p := ⟨w.heap.size, 1, none⟩) (Nat.lt_add_of_pos_right (by omega)), World.frozen?_alloc_old _ _ _ (by simp), World.frozen?_alloc_at _ _ _ _ rfl]
  · rw [C.cell (p := ⟨w.heap.size + 1, 0, none⟩) (Nat.lt_succ_self _)]; simp
  · rw [C.cell (p := ⟨w.heap.size + 1, 1, none⟩) (Nat.lt_succ_self _)]; simp

set_option maxHeartbeats 400000 in
theorem rparse_hit (s : ByteArray) (p : Nat) (n a : Int) (w : World) (hs : s.size ≤ maxLen) (hroot : (s.toList == [114, 111, 111, 116]) = false) (hp : p < s.size) (h64 : s[p].toNat = 64) (h : ∀ (k : Nat) (hk : k < p), ((s[k].toNat : Int) == 64) = false)
    (hX : ∀ w, Calls Tryd.prog 22 #[.string (s.extract 0 p), .int .i64 7] w fun e w' => e = .returned (.int .i64 n) ∧ w' = w)
    (hY : ∀ w, Calls Tryd.prog 22 #[.string (s.extract (p + 1) s.size), .int .i64 2] w fun e w' => e = .returned (.int .i64 a) ∧ w' = w) (hR : Real n a) :
    Calls Tryd.prog 12 #[.string s] w fun e w' => e = .returned (.tuple #[.agg #[.int .i64 n, .int .i64 a], .bool true]) ∧ Below w.heap.size w w' := by
  unfold maxLen at hs
  go_enter Tryd.func12, Tryd.ntmps12
  go_wp2_with fail
  go_loop [4] (fun i => ∃ k : Nat, k ≤ p ∧ i = .int .i64 k) (fun i => p - (intOf i).toNat)
  case atStart => exact ⟨0, Nat.zero_le _, rfl⟩
  case round =>
    obtain ⟨k, hk, rfl⟩ := hrel
    by_cases hlt : k < p
    · have h1 := h k hlt
      have h2 : k < s.size := by omega
      clear h hX hY h64
      go_wp2
      go_round
      case rel =>
        have e1 : Value.int .i64 ((k : Int) + 1) = .int .i64 ((k + 1 : Nat) : Int) := by go_num
        exact ⟨k + 1, hlt, e1⟩
      case measure => simp [intOf]; omega
    · obtain rfl : k = p := by omega
      clear h hk hlt
      have c1 : (0 : Int) ≤ ↑k := by omega
      have c2 : (↑k : Int) ≤ ↑s.size := by omega
      have c3 : (0 : Int) ≤ ↑k + 1 := by omega
      have c4 : (↑k + 1 : Int) ≤ ↑s.size := by omega
      have wk : IntKind.i64.wrap ((k : Int) + 1) = (k : Int) + 1 := IntWalk.i64_in _ (by omega)
      go_wp2_with fail
      go_region_with (first | (go_at_call_of 22 (s.extract 0 k); refine (hX _).mono ?_; rintro e w1 ⟨rfl, rfl⟩) | (go_at_call 22; refine (hY _).mono ?_; rintro e w1 ⟨rfl, rfl⟩))
      all_goals
        clear hX hY h64 hroot
        go_wp2_with fail
        refine (rReal_yes n a _ hR).mono ?_
        rintro e w2 ⟨rfl, hb⟩
        obtain ⟨B2, z2, ⟨c0, c1, f0, f1⟩, d0, d1⟩ := two_cells hb
        clear hb
        go_wp2
        exact bodyPost_ret (v := .tuple #[.agg #[.int .i64 n, .int .i64 a], .bool true]) (by simp [results, Tryd.results12, go_sem, c0, c1]) rfl ⟨rfl, (B2.setCell (Nat.le_refl _) _).setCell (Nat.le_refl _) _⟩

set_option maxHeartbeats 400000 in
theorem rparse_no (s : ByteArray) (p : Nat) (n a : Int) (w : World) (hs : s.size ≤ maxLen) (hroot : (s.toList == [114, 111, 111, 116]) = false) (hp : p < s.size) (h64 : s[p].toNat = 64) (h : ∀ (k : Nat) (hk : k < p), ((s[k].toNat : Int) == 64) = false)
    (hX : ∀ w, Calls Tryd.prog 22 #[.string (s.extract 0 p), .int .i64 7] w fun e w' => e = .returned (.int .i64 n) ∧ w' = w)
    (hY : ∀ w, Calls Tryd.prog 22 #[.string (s.extract (p + 1) s.size), .int .i64 2] w fun e w' => e = .returned (.int .i64 a) ∧ w' = w) (hR : ¬ Real n a) :
    Calls Tryd.prog 12 #[.string s] w fun e w' => e = .returned (.tuple #[.agg #[.int .i64 0, .int .i64 0], .bool false]) ∧ Below w.heap.size w w' := by
  unfold maxLen at hs
  go_enter Tryd.func12, Tryd.ntmps12
  go_wp2_with fail
  go_loop [4] (fun i => ∃ k : Nat, k ≤ p ∧ i = .int .i64 k) (fun i => p - (intOf i).toNat)
  case atStart => exact ⟨0, Nat.zero_le _, rfl⟩
  case round =>
    obtain ⟨k, hk, rfl⟩ := hrel
    by_cases hlt : k < p
    · have h1 := h k hlt
      have h2 : k < s.size := by omega
      clear h hX hY h64
      go_wp2
      go_round
      case rel =>
        have e1 : Value.int .i64 ((k : Int) + 1) = .int .i64 ((k + 1 : Nat) : Int) := by go_num
        exact ⟨k + 1, hlt, e1⟩
      case measure => simp [intOf]; omega
    · obtain rfl : k = p := by omega
      clear h hk hlt
      have c1 : (0 : Int) ≤ ↑k := by omega
      have c2 : (↑k : Int) ≤ ↑s.size := by omega
      have c3 : (0 : Int) ≤ ↑k + 1 := by omega
      have c4 : (↑k + 1 : Int) ≤ ↑s.size := by omega
      have wk : IntKind.i64.wrap ((k : Int) + 1) = (k : Int) + 1 := IntWalk.i64_in _ (by omega)
      go_wp2_with fail
      go_region_with (first | (go_at_call_of 22 (s.extract 0 k); refine (hX _).mono ?_; rintro e w1 ⟨rfl, rfl⟩) | (go_at_call 22; refine (hY _).mono ?_; rintro e w1 ⟨rfl, rfl⟩))
      all_goals
        clear hX hY h64 hroot
        go_wp2_with fail
        refine (rReal_no n a _ hR).mono ?_
        rintro e w2 ⟨rfl, hb⟩
        obtain ⟨B2, z2, ⟨c0, c1, f0, f1⟩, d0, d1⟩ := two_cells hb
        clear hb
        go_wp2
        exact bodyPost_ret (v := .tuple #[.agg #[.int .i64 0, .int .i64 0], .bool false]) (by simp [results, Tryd.results12, go_sem, c0, c1]) rfl ⟨rfl, (B2.setCell (Nat.le_refl _) _).setCell (Nat.le_refl _) _⟩
end Go.Proofs.YtgiggobpbddlbaaDoor
