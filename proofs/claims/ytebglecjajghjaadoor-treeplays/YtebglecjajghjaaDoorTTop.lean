/-
  What is proved: what package tree's Insert answers of a row that lies in memory, what the row is then, and what it costs.
  Conditions: the row lies in memory.
-/
import Derived.Test.YtebglecjajghjaaDoorTIns
import Derived.Test.YtebglecjajghjaaDoorTWay
namespace Go.Proofs.YtebglecjajghjaaDoor
open Go.RowKit

/-- A row that lies in memory, all of it behind a bound. -/
structure IsRow (w : World) (lo g : Nat) (t : (Deep.BT Int)) (k : Nat) : Prop where
  row : RowAt g t.pt k w
  at_ : t.At w
  nd : (g :: t.blocks).Nodup
  low : lo ≤ g ∧ ∀ b ∈ t.blocks, lo ≤ b
  itm : ∀ q ∈ t.items, 0 ≤ q.2 ∧ q.2 ≤ 1000000
  mny : t.many ≤ 100000

theorem IsRow.below {w w' : World} {lo g : Nat} {t : (Deep.BT Int)} {k : Nat} (h : IsRow w lo g t k) (b : Below w.heap.size w w') : IsRow w' lo g t k :=
  ⟨(Kp.of (S := []) b).heap h.row (by simp), h.at_.kp (Kp.of (S := []) b) (by simp), h.nd, h.low, h.itm, h.mny⟩

theorem IsRow.lo_le {w : World} {lo g : Nat} {t : (Deep.BT Int)} {k : Nat} (h : IsRow w lo g t k) : lo ≤ w.heap.size := Nat.le_trans h.low.1 (Nat.le_of_lt (lt_of_heap h.row))

theorem IsRow.fit {w : World} {lo g : Nat} {t : (Deep.BT Int)} {k : Nat} (h : IsRow w lo g t k) : t.fit := ⟨by have := h.mny; omega, h.itm⟩

set_option maxRecDepth 100000 in
set_option maxHeartbeats 4000000 in
theorem new_any (w : World) : Calls Tryd.prog 4 #[] w fun e w' => e = .returned (.pointer (some ⟨w.heap.size, 0, none⟩)) ∧ IsRow w' w.heap.size w.heap.size .nil 0 ∧ Below w.heap.size w w' := by
  have B := (Below.refl w.heap.size w).alloc (Nat.le_refl _) (.cells #[.pointer none, .int .i64 0] 43)
  have R : IsRow (w.alloc (.cells #[.pointer none, .int .i64 0] 43)) w.heap.size w.heap.size .nil 0 := ⟨heap_alloc_new w _, trivial, by simp [Deep.BT.blocks], ⟨Nat.le_refl _, by simp [Deep.BT.blocks]⟩, by simp [Deep.BT.items], by simp [Deep.BT.many]⟩
  go_enter Tryd.func4, Tryd.ntmps4
  go_wp2
  go_ret
  exact ⟨rfl, R, B⟩

set_option maxRecDepth 100000 in
set_option maxHeartbeats 8000000 in
theorem insertR_ok (t : (Deep.BT Int)) (a : Nat) (x u : Int) (lo g k : Nat) (w : World) (hk : k + 18 * t.high ≤ 4611686018427382000) (h : IsRow w lo g t k) (ha : a ≤ t.many) (hu : 0 ≤ u ∧ u ≤ 1000000) (hm : t.many < 100000) :
    Calls Tryd.prog 8 #[.pointer (some ⟨g, 0, none⟩), .int .i64 (a : Int), .int .i64 x, .int .i64 u] w fun e w' => e = .returned .nilIface ∧ (∃ b k', IsRow w' lo g (insT b x u t a) k' ∧ k' ≤ k + 18 * t.high + 16) ∧ Below lo w w' := by
  have E1 := len_any t g k w h.at_ h.row
  have E3 := upTo_any u 1000000
  rw [decide_eq_true (show 0 ≤ u ∧ u ≤ 1000000 from hu)] at E3
  have E2 := upTo_any (a : Int) (t.many : Int)
  rw [decide_eq_true (show 0 ≤ (a : Int) ∧ (a : Int) ≤ (t.many : Int) from ⟨by omega, by omega⟩)] at E2
  obtain ⟨M, HM⟩ : ∃ M : Int, Hid (M = (t.many : Int)) := ⟨_, rfl⟩
  rw [← HM.out] at E1 E2
  have g1 : ¬ (100000 : Int) ≤ M := by have := HM.out; omega
  have HH : Hid (IsRow w lo g t k) := h
  have HK : Hid (k + 18 * t.high ≤ 4611686018427382000) := hk
  have HA : Hid (a ≤ t.many ∧ t.many < 100000 ∧ (0 ≤ u ∧ u ≤ 1000000)) := ⟨ha, hm, hu⟩
  clear h hk ha hm hu
  go_enter Tryd.func8, Tryd.ntmps8
  go_wp2_with fail
  go_fit E1
  rintro e w1 ⟨rfl, b1⟩
  go_wp2_with fail
  go_fit (E2 w1)
  rintro e w2 ⟨rfl, rfl⟩
  go_wp2_with fail
  go_fit (E3 w2)
  rintro e w3 ⟨rfl, rfl⟩
  have H1 := HH.out.below b1
  have E4 := len_any t g k w3 H1.at_ H1.row
  rw [← HM.out] at E4
  have HH1 : Hid (IsRow w3 lo g t k) := H1
  have HB1 : Hid (Below w.heap.size w w3) := b1
  clear E1 E2 E3 H1 b1
  go_wp2_with fail
  go_fit E4
  rintro e w4 ⟨rfl, b2⟩
  have H2 := HH1.out.below b2
  have HH2 : Hid (IsRow w4 lo g t k) := H2
  have HB2 : Hid (Below w3.heap.size w3 w4) := b2
  have c0 : w4.cell? ⟨g, 0, none⟩ = some t.pt := Lib.cell_of_heap H2.row 0
  have hgz := lt_of_heap H2.row
  have KN : Kp [] w4 (w4.alloc (.cells #[.int .i64 x, .int .i64 u, .pointer none, .pointer none, .int .i64 0, .int .i64 0, .int .i64 0] 52)) := (Kp.refl _ w4).alloc _
  have EI := insert_any w4.heap.size x u t a g t.pt k (w4.alloc (.cells #[.int .i64 x, .int .i64 u, .pointer none, .pointer none, .int .i64 0, .int .i64 0, .int .i64 0] 52)) (by have := HK.out; omega) (by have := HA.out; omega) ⟨by have := HA.out; omega, HA.out.2.2, HH.out.itm⟩ HA.out.1 (H2.at_.kp KN (by simp)) (heap_alloc_new w4 _) (by
    have hn := HH.out.nd
    simp only [List.nodup_cons, List.mem_cons, not_or] at hn ⊢
    exact ⟨⟨by omega, hn.1⟩, fun e => by have := H2.at_.lt _ e; omega, hn.2⟩) (heap_alloc_old H2.row _)
  clear E4 H2 b2 KN
  go_wp2_with fail
  go_fit EI
  rintro e w5 ⟨rfl, T5, ⟨k5, hk5, R5⟩, K5⟩
  have z0 : w5.cell? ⟨g, 0, none⟩ = some t.pt := Lib.cell_of_heap R5 0
  have zf := Lib.frozen_of_heap R5
  have R6 : RowAt g (insT w4.heap.size x u t a).pt k5 (w5.setCell ⟨g, 0, none⟩ (insT w4.heap.size x u t a).pt) := set_at R5 0 _
  have KS : Kp [g] w5 (w5.setCell ⟨g, 0, none⟩ (insT w4.heap.size x u t a).pt) := (Kp.refl _ w5).set (by simp) _ _
  have hp := ins_blocks w4.heap.size x u t a
  have hgt := (List.nodup_cons.1 HH.out.nd).1
  have hgn : g ∉ (insT w4.heap.size x u t a).blocks := fun e => by
    have := hp.mem_iff.1 e
    simp only [List.mem_cons] at this
    rcases this with h | h
    · omega
    · exact hgt h
  have hfn : w4.heap.size ∉ t.blocks := fun e => by have := HH2.out.at_.lt _ e; omega
  have hlz : lo ≤ w4.heap.size := HH2.out.lo_le
  have T6 := T5.kp KS (off_one hgn)
  have I6 : IsRow (w5.setCell ⟨g, 0, none⟩ (insT w4.heap.size x u t a).pt) lo g (insT w4.heap.size x u t a) k5 := by
    refine ⟨R6, T6, List.nodup_cons.2 ⟨hgn, hp.nodup_iff.2 (List.nodup_cons.2 ⟨hfn, (List.nodup_cons.1 HH.out.nd).2⟩)⟩, ⟨HH.out.low.1, fun b hb => ?_⟩, fun q hq => ?_, ?_⟩
    · have := hp.mem_iff.1 hb
      simp only [List.mem_cons] at this
      rcases this with h | h
      · omega
      · exact HH.out.low.2 b h
    · rcases (mem_ins w4.heap.size x u t a HA.out.1 q).1 hq with h | h
      · rw [h]; exact HA.out.2.2
      · exact HH.out.itm q h
    · rw [many_ins _ _ _ _ _ HA.out.1]; have := HA.out; omega
  have K45 : Kp (g :: w4.heap.size :: t.blocks) w4 (w5.setCell ⟨g, 0, none⟩ (insT w4.heap.size x u t a).pt) := (((Kp.refl _ w4).alloc _).trans K5).trans (KS.mono (by simp))
  have BL : Below lo w (w5.setCell ⟨g, 0, none⟩ (insT w4.heap.size x u t a).pt) := ((HB1.out.mono HH.out.lo_le).trans (HB2.out.mono HH1.out.lo_le)).trans (K45.below (fun b hb => by
    simp only [List.mem_cons] at hb
    rcases hb with h | h | h
    · rw [h]; exact HH.out.low.1
    · omega
    · exact HH.out.low.2 b h) hlz)
  have HF : Hid (_ ∧ _) := ⟨I6, BL⟩
  clear R6 KS T6 I6 K45 BL T5 R5 K5 c0
  go_wp2
  go_ret
  exact ⟨rfl, ⟨_, k5, HF.out.1, hk5⟩, HF.out.2⟩

set_option maxRecDepth 100000 in
set_option maxHeartbeats 4000000 in
theorem insertR_bad (t : (Deep.BT Int)) (a : Nat) (x u : Int) (lo g k : Nat) (w : World) (h : IsRow w lo g t k) (ha : a ≤ t.many) (hu : ¬ (0 ≤ u ∧ u ≤ 1000000)) :
    Calls Tryd.prog 8 #[.pointer (some ⟨g, 0, none⟩), .int .i64 (a : Int), .int .i64 x, .int .i64 u] w fun e w' => e = .returned (.iface 44 (.int .i64 1)) ∧ Below w.heap.size w w' := by
  have E1 := len_any t g k w h.at_ h.row
  have E3 := upTo_any u 1000000
  rw [decide_eq_false hu] at E3
  have E2 := upTo_any (a : Int) (t.many : Int)
  rw [decide_eq_true (show 0 ≤ (a : Int) ∧ (a : Int) ≤ (t.many : Int) from ⟨by omega, by omega⟩)] at E2
  clear h ha hu
  go_enter Tryd.func8, Tryd.ntmps8
  go_wp2_with fail
  go_fit E1
  rintro e w1 ⟨rfl, b1⟩
  go_wp2_with fail
  go_fit (E2 w1)
  rintro e w2 ⟨rfl, rfl⟩
  go_wp2_with fail
  go_fit (E3 w2)
  rintro e w3 ⟨rfl, rfl⟩
  clear E1 E2 E3
  go_wp2
  go_ret
  exact ⟨rfl, b1⟩
end Go.Proofs.YtebglecjajghjaaDoor
