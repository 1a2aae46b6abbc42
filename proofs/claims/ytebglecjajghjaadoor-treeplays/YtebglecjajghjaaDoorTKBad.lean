/-
  What is proved: what package tree's methods answer, asked for what is none, of a row that lies in memory, and that they turn nothing.
  Conditions: the row lies in memory.
-/
import Derived.Test.YtebglecjajghjaaDoorTTop
namespace Go.Proofs.YtebglecjajghjaaDoor
open Go.RowKit

set_option maxRecDepth 100000 in
set_option maxHeartbeats 4000000 in
theorem kget_bad (t : (Deep.BT Int)) (a : Int) (lo g k : Nat) (w : World) (h : IsRow w lo g t k) (ha : ¬ (0 ≤ a ∧ a ≤ (t.many : Int) - 1)) :
    Calls Tryd.prog 12 #[.pointer (some ⟨g, 0, none⟩), .int .i64 a] w fun e w' => e = .returned (.tuple #[.int .i64 0, .int .i64 0, .iface 44 (.int .i64 1)]) ∧ IsRow w' lo g t k ∧ Kp (g :: t.blocks) w w' := by
  have E1 := len_any t g k w h.at_ h.row
  have E2 := upTo_any a ((t.many : Int) - 1)
  rw [decide_eq_false ha] at E2
  obtain ⟨M, HM⟩ : ∃ M : Int, Hid (M = (t.many : Int)) := ⟨_, rfl⟩
  rw [← HM.out] at E1 E2
  have y1 : wrap64 (M - 1) = M - 1 := by have := HM.out; have := h.mny; unfold wrap64; omega
  have HH : Hid (IsRow w lo g t k) := h
  clear h ha
  go_enter Tryd.func12, Tryd.ntmps12
  go_wp2_with fail
  go_fit E1
  rintro e w1 ⟨rfl, b1⟩
  go_wp2_with fail
  go_fit (E2 w1)
  rintro e w2 ⟨rfl, rfl⟩
  have HF : Hid (_ ∧ _) := ⟨HH.out.below b1, Kp.of (S := g :: t.blocks) b1⟩
  clear E1 E2 b1
  go_wp2
  go_returns
  exact ⟨rfl, HF.out⟩

set_option maxRecDepth 100000 in
set_option maxHeartbeats 4000000 in
theorem kremove_bad (t : (Deep.BT Int)) (a : Int) (lo g k : Nat) (w : World) (h : IsRow w lo g t k) (ha : ¬ (0 ≤ a ∧ a ≤ (t.many : Int) - 1)) :
    Calls Tryd.prog 10 #[.pointer (some ⟨g, 0, none⟩), .int .i64 a] w fun e w' => e = .returned (.tuple #[.int .i64 0, .int .i64 0, .iface 44 (.int .i64 1)]) ∧ IsRow w' lo g t k ∧ Kp (g :: t.blocks) w w' := by
  have E1 := len_any t g k w h.at_ h.row
  have E2 := upTo_any a ((t.many : Int) - 1)
  rw [decide_eq_false ha] at E2
  obtain ⟨M, HM⟩ : ∃ M : Int, Hid (M = (t.many : Int)) := ⟨_, rfl⟩
  rw [← HM.out] at E1 E2
  have y1 : wrap64 (M - 1) = M - 1 := by have := HM.out; have := h.mny; unfold wrap64; omega
  have HH : Hid (IsRow w lo g t k) := h
  clear h ha
  go_enter Tryd.func10, Tryd.ntmps10
  go_wp2_with fail
  go_fit E1
  rintro e w1 ⟨rfl, b1⟩
  go_wp2_with fail
  go_fit (E2 w1)
  rintro e w2 ⟨rfl, rfl⟩
  have HF : Hid (_ ∧ _) := ⟨HH.out.below b1, Kp.of (S := g :: t.blocks) b1⟩
  clear E1 E2 b1
  go_wp2
  go_returns
  exact ⟨rfl, HF.out⟩

set_option maxRecDepth 100000 in
set_option maxHeartbeats 4000000 in
theorem kahead_bad (t : (Deep.BT Int)) (a : Int) (lo g k : Nat) (w : World) (h : IsRow w lo g t k) (ha : ¬ (0 ≤ a ∧ a ≤ (t.many : Int))) :
    Calls Tryd.prog 15 #[.pointer (some ⟨g, 0, none⟩), .int .i64 a] w fun e w' => e = .returned (.tuple #[.int .i64 0, .iface 44 (.int .i64 1)]) ∧ IsRow w' lo g t k ∧ Kp (g :: t.blocks) w w' := by
  have E1 := len_any t g k w h.at_ h.row
  have E2 := upTo_any a ((t.many : Int))
  rw [decide_eq_false ha] at E2
  obtain ⟨M, HM⟩ : ∃ M : Int, Hid (M = (t.many : Int)) := ⟨_, rfl⟩
  rw [← HM.out] at E1 E2
  have HH : Hid (IsRow w lo g t k) := h
  clear h ha
  go_enter Tryd.func15, Tryd.ntmps15
  go_wp2_with fail
  go_fit E1
  rintro e w1 ⟨rfl, b1⟩
  go_wp2_with fail
  go_fit (E2 w1)
  rintro e w2 ⟨rfl, rfl⟩
  have HF : Hid (_ ∧ _) := ⟨HH.out.below b1, Kp.of (S := g :: t.blocks) b1⟩
  clear E1 E2 b1
  go_wp2
  go_returns
  exact ⟨rfl, HF.out⟩

set_option maxRecDepth 100000 in
set_option maxHeartbeats 4000000 in
theorem kinsert_bad1 (t : (Deep.BT Int)) (a x u : Int) (lo g k : Nat) (w : World) (h : IsRow w lo g t k) (ha : ¬ (0 ≤ a ∧ a ≤ (t.many : Int))) :
    Calls Tryd.prog 8 #[.pointer (some ⟨g, 0, none⟩), .int .i64 a, .int .i64 x, .int .i64 u] w fun e w' => e = .returned (.iface 44 (.int .i64 1)) ∧ IsRow w' lo g t k ∧ Kp (g :: t.blocks) w w' := by
  have E1 := len_any t g k w h.at_ h.row
  have E2 := upTo_any a ((t.many : Int))
  rw [decide_eq_false ha] at E2
  obtain ⟨M, HM⟩ : ∃ M : Int, Hid (M = (t.many : Int)) := ⟨_, rfl⟩
  rw [← HM.out] at E1 E2
  have HH : Hid (IsRow w lo g t k) := h
  clear h ha
  go_enter Tryd.func8, Tryd.ntmps8
  go_wp2_with fail
  go_fit E1
  rintro e w1 ⟨rfl, b1⟩
  go_wp2_with fail
  go_fit (E2 w1)
  rintro e w2 ⟨rfl, rfl⟩
  have HF : Hid (_ ∧ _) := ⟨HH.out.below b1, Kp.of (S := g :: t.blocks) b1⟩
  clear E1 E2 b1
  go_wp2
  go_ret
  exact ⟨rfl, HF.out⟩

set_option maxRecDepth 100000 in
set_option maxHeartbeats 4000000 in
theorem kset_bad1 (t : (Deep.BT Int)) (a u : Int) (lo g k : Nat) (w : World) (h : IsRow w lo g t k) (ha : ¬ (0 ≤ a ∧ a ≤ (t.many : Int) - 1)) :
    Calls Tryd.prog 13 #[.pointer (some ⟨g, 0, none⟩), .int .i64 a, .int .i64 u] w fun e w' => e = .returned (.iface 44 (.int .i64 1)) ∧ IsRow w' lo g t k ∧ Kp (g :: t.blocks) w w' := by
  have E1 := len_any t g k w h.at_ h.row
  have E2 := upTo_any a ((t.many : Int) - 1)
  rw [decide_eq_false ha] at E2
  obtain ⟨M, HM⟩ : ∃ M : Int, Hid (M = (t.many : Int)) := ⟨_, rfl⟩
  rw [← HM.out] at E1 E2
  have y1 : wrap64 (M - 1) = M - 1 := by have := HM.out; have := h.mny; unfold wrap64; omega
  have HH : Hid (IsRow w lo g t k) := h
  clear h ha
  go_enter Tryd.func13, Tryd.ntmps13
  go_wp2_with fail
  go_fit E1
  rintro e w1 ⟨rfl, b1⟩
  go_wp2_with fail
  go_fit (E2 w1)
  rintro e w2 ⟨rfl, rfl⟩
  have HF : Hid (_ ∧ _) := ⟨HH.out.below b1, Kp.of (S := g :: t.blocks) b1⟩
  clear E1 E2 b1
  go_wp2
  go_ret
  exact ⟨rfl, HF.out⟩

set_option maxRecDepth 100000 in
set_option maxHeartbeats 4000000 in
theorem kinsert_bad2 (t : (Deep.BT Int)) (a x u : Int) (lo g k : Nat) (w : World) (h : IsRow w lo g t k) (ha : 0 ≤ a ∧ a ≤ (t.many : Int)) (hu : ¬ (0 ≤ u ∧ u ≤ 1000000)) :
    Calls Tryd.prog 8 #[.pointer (some ⟨g, 0, none⟩), .int .i64 a, .int .i64 x, .int .i64 u] w fun e w' => e = .returned (.iface 44 (.int .i64 1)) ∧ IsRow w' lo g t k ∧ Kp (g :: t.blocks) w w' := by
  have E1 := len_any t g k w h.at_ h.row
  have E2 := upTo_any a ((t.many : Int))
  rw [decide_eq_true ha] at E2
  have E3 := upTo_any u 1000000
  rw [decide_eq_false hu] at E3
  obtain ⟨M, HM⟩ : ∃ M : Int, Hid (M = (t.many : Int)) := ⟨_, rfl⟩
  rw [← HM.out] at E1 E2
  have HH : Hid (IsRow w lo g t k) := h
  clear h ha hu
  go_enter Tryd.func8, Tryd.ntmps8
  go_wp2_with fail
  go_fit E1
  rintro e w1 ⟨rfl, b1⟩
  go_wp2_with fail
  go_fit (E2 w1)
  rintro e w2 ⟨rfl, rfl⟩
  go_wp2_with fail
  go_fit (E3 w2)
  rintro e w3 ⟨rfl, rfl⟩
  have HF : Hid (_ ∧ _) := ⟨HH.out.below b1, Kp.of (S := g :: t.blocks) b1⟩
  clear E1 E2 E3 b1
  go_wp2
  go_ret
  exact ⟨rfl, HF.out⟩

set_option maxRecDepth 100000 in
set_option maxHeartbeats 4000000 in
theorem kset_bad2 (t : (Deep.BT Int)) (a u : Int) (lo g k : Nat) (w : World) (h : IsRow w lo g t k) (ha : 0 ≤ a ∧ a ≤ (t.many : Int) - 1) (hu : ¬ (0 ≤ u ∧ u ≤ 1000000)) :
    Calls Tryd.prog 13 #[.pointer (some ⟨g, 0, none⟩), .int .i64 a, .int .i64 u] w fun e w' => e = .returned (.iface 44 (.int .i64 1)) ∧ IsRow w' lo g t k ∧ Kp (g :: t.blocks) w w' := by
  have E1 := len_any t g k w h.at_ h.row
  have E2 := upTo_any a ((t.many : Int) - 1)
  rw [decide_eq_true ha] at E2
  have E3 := upTo_any u 1000000
  rw [decide_eq_false hu] at E3
  obtain ⟨M, HM⟩ : ∃ M : Int, Hid (M = (t.many : Int)) := ⟨_, rfl⟩
  rw [← HM.out] at E1 E2
  have y1 : wrap64 (M - 1) = M - 1 := by have := HM.out; have := h.mny; unfold wrap64; omega
  have HH : Hid (IsRow w lo g t k) := h
  clear h ha hu
  go_enter Tryd.func13, Tryd.ntmps13
  go_wp2_with fail
  go_fit E1
  rintro e w1 ⟨rfl, b1⟩
  go_wp2_with fail
  go_fit (E2 w1)
  rintro e w2 ⟨rfl, rfl⟩
  go_wp2_with fail
  go_fit (E3 w2)
  rintro e w3 ⟨rfl, rfl⟩
  have HF : Hid (_ ∧ _) := ⟨HH.out.below b1, Kp.of (S := g :: t.blocks) b1⟩
  clear E1 E2 E3 b1
  go_wp2
  go_ret
  exact ⟨rfl, HF.out⟩

set_option maxRecDepth 100000 in
set_option maxHeartbeats 4000000 in
theorem kfind_bad1 (t : (Deep.BT Int)) (a : Int) (lo g k : Nat) (w : World) (h : IsRow w lo g t k) (ha : a < 0) :
    Calls Tryd.prog 14 #[.pointer (some ⟨g, 0, none⟩), .int .i64 a] w fun e w' => e = .returned (.tuple #[.int .i64 0, .int .i64 0, .iface 44 (.int .i64 1)]) ∧ IsRow w' lo g t k ∧ Kp (g :: t.blocks) w w' := by
  have HF : Hid (_ ∧ _) := ⟨h, Kp.refl (g :: t.blocks) w⟩
  clear h
  go_enter Tryd.func14, Tryd.ntmps14
  go_wp2
  go_returns
  exact ⟨rfl, HF.out⟩

set_option maxRecDepth 100000 in
set_option maxHeartbeats 4000000 in
theorem kfind_bad2 (t : (Deep.BT Int)) (a : Int) (lo g k : Nat) (w : World) (h : IsRow w lo g t k) (ha0 : 0 ≤ a) (ha : t.wide ≤ a) :
    Calls Tryd.prog 14 #[.pointer (some ⟨g, 0, none⟩), .int .i64 a] w fun e w' => e = .returned (.tuple #[.int .i64 0, .int .i64 0, .iface 44 (.int .i64 1)]) ∧ IsRow w' lo g t k ∧ Kp (g :: t.blocks) w w' := by
  have E1 := wide_any t g k w h.at_ h.row
  obtain ⟨M, HM⟩ : ∃ M : Int, Hid (M = t.wide) := ⟨_, rfl⟩
  rw [← HM.out] at E1
  have g0 : ¬ a < 0 := by omega
  have g1 : M ≤ a := by have := HM.out; omega
  have HH : Hid (IsRow w lo g t k) := h
  clear h ha0 ha
  go_enter Tryd.func14, Tryd.ntmps14
  go_wp2_with fail
  go_fit E1
  rintro e w2 ⟨rfl, b1⟩
  have HF : Hid (_ ∧ _) := ⟨HH.out.below b1, Kp.of (S := g :: t.blocks) b1⟩
  clear E1 b1
  go_wp2
  go_returns
  exact ⟨rfl, HF.out⟩
end Go.Proofs.YtebglecjajghjaaDoor
