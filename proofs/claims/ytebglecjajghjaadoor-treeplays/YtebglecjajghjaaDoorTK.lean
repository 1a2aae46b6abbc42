/-
  What is proved: what package tree's methods answer of a row that lies in memory, and that they turn nothing but the row's own blocks.
  Conditions: the row lies in memory.
-/
import Derived.Test.YtebglecjajghjaaDoorTWork
namespace Go.Proofs.YtebglecjajghjaaDoor
open Go.RowKit

theorem Kp.drop_new {g : Nat} {S : List Nat} {w w' : World} (h : Kp (g :: w.heap.size :: S) w w') : Kp (g :: S) w w' :=
  ⟨h.os, h.tape, h.output, h.size, fun k hk hS => h.block k hk (by
    simp only [List.mem_cons, not_or] at hS ⊢
    exact ⟨hS.1, by omega, hS.2⟩)⟩

set_option maxRecDepth 100000 in
set_option maxHeartbeats 8000000 in
theorem kinsert_ok (t : (Deep.BT Int)) (a : Nat) (x u : Int) (lo g k : Nat) (w : World) (hk : k + 18 * t.high ≤ 4611686018427382000) (h : IsRow w lo g t k) (ha : a ≤ t.many) (hu : 0 ≤ u ∧ u ≤ 1000000) (hm : t.many < 100000) :
    Calls Tryd.prog 8 #[.pointer (some ⟨g, 0, none⟩), .int .i64 (a : Int), .int .i64 x, .int .i64 u] w fun e w' => e = .returned .nilIface ∧ (∃ b k', IsRow w' lo g (insT b x u t a) k' ∧ k' ≤ k + 18 * t.high + 16) ∧ Kp (g :: t.blocks) w w' := by
  have E1 := len_any t g k w h.at_ h.row
  have E3 := upTo_any u 1000000
  rw [decide_eq_true (show 0 ≤ u ∧ u ≤ 1000000 from hu)] at E3
  have E2 := upTo_any (a : Int) (t.many : Int)
  rw [decide_eq_true (show 0 ≤ (a : Int) ∧ (a : Int) ≤ (t.many : Int) from ⟨by omega, by omega⟩)] at E2
  obtain ⟨M, HM⟩ : ∃ M : Int, Hid (M = (t.many : Int)) := ⟨_, rfl⟩
  rw [← HM.out] at E1 E2
  have g1 : ¬ (100000 : Int) ≤ M := by have := HM.out; omega
  have HH : Hid (IsRow w lo g t k) := h
  have HK : Hid (k + 18 * t.high ≤ 4611686018427382000) := hk
  have HA : Hid (a ≤ t.many ∧ t.many < 100000 ∧ (0 ≤ u ∧ u ≤ 1000000)) := ⟨ha, hm, hu⟩
  clear h hk ha hm hu
  go_enter Tryd.func8, Tryd.ntmps8
  go_wp2_with fail
  go_fit E1
  rintro e w1 ⟨rfl, b1⟩
  go_wp2_with fail
  go_fit (E2 w1)
  rintro e w2 ⟨rfl, rfl⟩
  go_wp2_with fail
  go_fit (E3 w2)
  rintro e w3 ⟨rfl, rfl⟩
  have H1 := HH.out.below b1
  have E4 := len_any t g k w3 H1.at_ H1.row
  rw [← HM.out] at E4
  have HH1 : Hid (IsRow w3 lo g t k) := H1
  have HB1 : Hid (Below w.heap.size w w3) := b1
  clear E1 E2 E3 H1 b1
  go_wp2_with fail
  go_fit E4
  rintro e w4 ⟨rfl, b2⟩
  have H2 := HH1.out.below b2
  have HH2 : Hid (IsRow w4 lo g t k) := H2
  have HB2 : Hid (Below w3.heap.size w3 w4) := b2
  have c0 : w4.cell? ⟨g, 0, none⟩ = some t.pt := Lib.cell_of_heap H2.row 0
  have hgz := lt_of_heap H2.row
  have KN : Kp [] w4 (w4.alloc (.cells #[.int .i64 x, .int .i64 u, .pointer none, .pointer none, .int .i64 0, .int .i64 0, .int .i64 0] 52)) := (Kp.refl _ w4).alloc _
  have EI := insert_any w4.heap.size x u t a g t.pt k (w4.alloc (.cells #[.int .i64 x, .int .i64 u, .pointer none, .pointer none, .int .i64 0, .int .i64 0, .int .i64 0] 52)) (by have := HK.out; omega) (by have := HA.out; omega) ⟨by have := HA.out; omega, HA.out.2.2, HH.out.itm⟩ HA.out.1 (H2.at_.kp KN (by simp)) (heap_alloc_new w4 _) (by
    have hn := HH.out.nd
    simp only [List.nodup_cons, List.mem_cons, not_or] at hn ⊢
    exact ⟨⟨by omega, hn.1⟩, fun e => by have := H2.at_.lt _ e; omega, hn.2⟩) (heap_alloc_old H2.row _)
  clear E4 H2 b2 KN
  go_wp2_with fail
  go_fit EI
  rintro e w5 ⟨rfl, T5, ⟨k5, hk5, R5⟩, K5⟩
  have z0 : w5.cell? ⟨g, 0, none⟩ = some t.pt := Lib.cell_of_heap R5 0
  have zf := Lib.frozen_of_heap R5
  have R6 : RowAt g (insT w4.heap.size x u t a).pt k5 (w5.setCell ⟨g, 0, none⟩ (insT w4.heap.size x u t a).pt) := set_at R5 0 _
  have KS : Kp [g] w5 (w5.setCell ⟨g, 0, none⟩ (insT w4.heap.size x u t a).pt) := (Kp.refl _ w5).set (by simp) _ _
  have hp := ins_blocks w4.heap.size x u t a
  have hgt := (List.nodup_cons.1 HH.out.nd).1
  have hgn : g ∉ (insT w4.heap.size x u t a).blocks := fun e => by
    have := hp.mem_iff.1 e
    simp only [List.mem_cons] at this
    rcases this with h | h
    · omega
    · exact hgt h
  have hfn : w4.heap.size ∉ t.blocks := fun e => by have := HH2.out.at_.lt _ e; omega
  have hlz : lo ≤ w4.heap.size := HH2.out.lo_le
  have T6 := T5.kp KS (off_one hgn)
  have I6 : IsRow (w5.setCell ⟨g, 0, none⟩ (insT w4.heap.size x u t a).pt) lo g (insT w4.heap.size x u t a) k5 := by
    refine ⟨R6, T6, List.nodup_cons.2 ⟨hgn, hp.nodup_iff.2 (List.nodup_cons.2 ⟨hfn, (List.nodup_cons.1 HH.out.nd).2⟩)⟩, ⟨HH.out.low.1, fun b hb => ?_⟩, fun q hq => ?_, ?_⟩
    · have := hp.mem_iff.1 hb
      simp only [List.mem_cons] at this
      rcases this with h | h
      · omega
      · exact HH.out.low.2 b h
    · rcases (mem_ins w4.heap.size x u t a HA.out.1 q).1 hq with h | h
      · rw [h]; exact HA.out.2.2
      · exact HH.out.itm q h
    · rw [many_ins _ _ _ _ _ HA.out.1]; have := HA.out; omega
  have K45 : Kp (g :: w4.heap.size :: t.blocks) w4 (w5.setCell ⟨g, 0, none⟩ (insT w4.heap.size x u t a).pt) := (((Kp.refl _ w4).alloc _).trans K5).trans (KS.mono (by simp))
  have BL : Kp (g :: t.blocks) w (w5.setCell ⟨g, 0, none⟩ (insT w4.heap.size x u t a).pt) := ((Kp.of HB1.out).trans (Kp.of HB2.out)).trans K45.drop_new
  have HF : Hid (_ ∧ _) := ⟨I6, BL⟩
  clear R6 KS T6 I6 K45 BL T5 R5 K5 c0
  go_wp2
  go_ret
  exact ⟨rfl, ⟨_, k5, HF.out.1, hk5⟩, HF.out.2⟩

set_option maxRecDepth 100000 in
set_option maxHeartbeats 4000000 in
theorem kahead_ok (t : (Deep.BT Int)) (a : Nat) (lo g k : Nat) (w : World) (hk : k + 2 * t.high ≤ 4611686018427382000) (h : IsRow w lo g t k) (ha : a < t.many) :
    Calls Tryd.prog 15 #[.pointer (some ⟨g, 0, none⟩), .int .i64 (a : Int)] w fun e w' => e = .returned (.tuple #[.int .i64 (t.pre a), .nilIface]) ∧ (∃ k', IsRow w' lo g t k' ∧ k' ≤ k + 2 * t.high) ∧ Kp (g :: t.blocks) w w' := by
  have E1 := len_any t g k w h.at_ h.row
  have E2 := upTo_any (a : Int) (t.many : Int)
  rw [decide_eq_true (show 0 ≤ (a : Int) ∧ (a : Int) ≤ (t.many : Int) from ⟨by omega, by omega⟩)] at E2
  obtain ⟨M, HM⟩ : ∃ M : Int, Hid (M = (t.many : Int)) := ⟨_, rfl⟩
  obtain ⟨Aa, HAa⟩ : ∃ A : Int, Hid (A = (a : Int)) := ⟨_, rfl⟩
  rw [← HM.out] at E1 E2
  rw [← HAa.out] at E2 ⊢
  have g1 : ¬ Aa = M := by have := HM.out; have := HAa.out; omega
  have HH : Hid (IsRow w lo g t k) := h
  have HK : Hid (k + 2 * t.high ≤ 4611686018427382000 ∧ a < t.many) := ⟨hk, ha⟩
  clear h hk ha
  go_enter Tryd.func15, Tryd.ntmps15
  go_wp2_with fail
  go_fit E1
  rintro e w1 ⟨rfl, b1⟩
  go_wp2_with fail
  go_fit (E2 w1)
  rintro e w2 ⟨rfl, rfl⟩
  have H1 := HH.out.below b1
  have E4 := len_any t g k w2 H1.at_ H1.row
  rw [← HM.out] at E4
  have HH1 : Hid (IsRow w2 lo g t k) := H1
  have HB1 : Hid (Below w.heap.size w w2) := b1
  clear E1 E2 H1 b1
  go_wp2_with fail
  go_fit E4
  rintro e w4 ⟨rfl, b2⟩
  have H2 := HH1.out.below b2
  have HH2 : Hid (IsRow w4 lo g t k) := H2
  have HB2 : Hid (Below w2.heap.size w2 w4) := b2
  clear E4 H2 b2
  go_wp2_with fail
  go_fit (toIndex_any Aa w4)
  rintro e w5 ⟨rfl, rfl⟩
  have b3 := (Below.refl w4.heap.size w4).alloc (Nat.le_refl _) (.cells #[.int .i64 Aa] 3)
  have H3 := HH2.out.below b3
  have EW := walkI_any t a w4.heap.size g k (w4.alloc (.cells #[.int .i64 Aa] 3)) (by have := HK.out; omega) H3.at_ (List.nodup_cons.1 H3.nd).1 H3.fit HK.out.2 H3.row (by rw [HAa.out]; exact heap_alloc_new w4 _) (by have := lt_of_heap HH2.out.row; omega)
  have HH3 : Hid (IsRow (w4.alloc (.cells #[.int .i64 Aa] 3)) lo g t k) := H3
  have HB3 : Hid (Below w4.heap.size w4 (w4.alloc (.cells #[.int .i64 Aa] 3))) := b3
  clear H3 b3
  go_wp2_with fail
  go_fit EW
  rintro e w6 ⟨rfl, ⟨k6, hk6, R6⟩, K6⟩
  have HF : Hid (∀ w', Below w6.heap.size w6 w' → (∃ k', IsRow w' lo g t k' ∧ k' ≤ k + 2 * t.high) ∧ Kp (g :: t.blocks) w w') := fun w' b => by
    have I6 := HH3.out.count K6 R6
    refine ⟨⟨k6, I6.below b, hk6⟩, ?_⟩
    exact ((((Kp.of HB1.out).trans (Kp.of HB2.out)).trans (Kp.of HB3.out)).trans (K6.mono (by simp))).trans (Kp.of b)
  have b7 := (Below.refl w6.heap.size w6).alloc (Nat.le_refl _) (.cells #[.int .i64 (a : Int), .int .i64 (t.pre a), .int .i64 0] 50)
  clear EW R6 K6
  go_wp2
  go_returns
  exact ⟨rfl, HF.out _ b7⟩

set_option maxRecDepth 100000 in
set_option maxHeartbeats 4000000 in
theorem kahead_end (t : (Deep.BT Int)) (lo g k : Nat) (w : World) (h : IsRow w lo g t k) :
    Calls Tryd.prog 15 #[.pointer (some ⟨g, 0, none⟩), .int .i64 (t.many : Int)] w fun e w' => e = .returned (.tuple #[.int .i64 t.wide, .nilIface]) ∧ IsRow w' lo g t k ∧ Kp (g :: t.blocks) w w' := by
  have E1 := len_any t g k w h.at_ h.row
  have E2 := upTo_any (t.many : Int) (t.many : Int)
  rw [decide_eq_true (show 0 ≤ (t.many : Int) ∧ (t.many : Int) ≤ (t.many : Int) from ⟨by omega, by omega⟩)] at E2
  obtain ⟨M, HM⟩ : ∃ M : Int, Hid (M = (t.many : Int)) := ⟨_, rfl⟩
  rw [← HM.out] at E1 E2 ⊢
  have HH : Hid (IsRow w lo g t k) := h
  clear h
  go_enter Tryd.func15, Tryd.ntmps15
  go_wp2_with fail
  go_fit E1
  rintro e w1 ⟨rfl, b1⟩
  go_wp2_with fail
  go_fit (E2 w1)
  rintro e w2 ⟨rfl, rfl⟩
  have H1 := HH.out.below b1
  have E4 := len_any t g k w2 H1.at_ H1.row
  rw [← HM.out] at E4
  have HH1 : Hid (IsRow w2 lo g t k) := H1
  have HB1 : Hid (Below w.heap.size w w2) := b1
  clear E1 E2 H1 b1
  go_wp2_with fail
  go_fit E4
  rintro e w4 ⟨rfl, b2⟩
  have H2 := HH1.out.below b2
  have E5 := wide_any t g k w4 H2.at_ H2.row
  have HH2 : Hid (IsRow w4 lo g t k) := H2
  have HB2 : Hid (Below w2.heap.size w2 w4) := b2
  clear E4 H2 b2
  go_wp2_with fail
  go_fit E5
  rintro e w5 ⟨rfl, b3⟩
  have HF : Hid (IsRow w5 lo g t k ∧ Kp (g :: t.blocks) w w5) := ⟨HH2.out.below b3, ((Kp.of HB1.out).trans (Kp.of HB2.out)).trans (Kp.of b3)⟩
  clear E5 b3
  go_wp2
  go_returns
  exact ⟨rfl, HF.out⟩

set_option maxRecDepth 100000 in
set_option maxHeartbeats 4000000 in
theorem kget_ok (t : (Deep.BT Int)) (a : Nat) (lo g k : Nat) (w : World) (hk : k + 2 * t.high ≤ 4611686018427382000) (h : IsRow w lo g t k) (ha : a < t.many) :
    Calls Tryd.prog 12 #[.pointer (some ⟨g, 0, none⟩), .int .i64 (a : Int)] w fun e w' => e = .returned (.tuple #[.int .i64 (t.at' a).2.1, .int .i64 (t.at' a).2.2, .nilIface]) ∧ (∃ k', IsRow w' lo g t k' ∧ k' ≤ k + 2 * t.high) ∧ Kp (g :: t.blocks) w w' := by
  have E1 := len_any t g k w h.at_ h.row
  have E2 := upTo_any (a : Int) ((t.many : Int) - 1)
  rw [decide_eq_true (show 0 ≤ (a : Int) ∧ (a : Int) ≤ (t.many : Int) - 1 from ⟨by omega, by omega⟩)] at E2
  obtain ⟨M, HM⟩ : ∃ M : Int, Hid (M = (t.many : Int)) := ⟨_, rfl⟩
  obtain ⟨Aa, HAa⟩ : ∃ A : Int, Hid (A = (a : Int)) := ⟨_, rfl⟩
  rw [← HM.out] at E1 E2
  rw [← HAa.out] at E2 ⊢
  have y1 : wrap64 (M - 1) = M - 1 := by have := HM.out; have := h.mny; unfold wrap64; omega
  have HH : Hid (IsRow w lo g t k) := h
  have HK : Hid (k + 2 * t.high ≤ 4611686018427382000 ∧ a < t.many) := ⟨hk, ha⟩
  clear h hk ha
  go_enter Tryd.func12, Tryd.ntmps12
  go_wp2_with fail
  go_fit E1
  rintro e w1 ⟨rfl, b1⟩
  go_wp2_with fail
  go_fit (E2 w1)
  rintro e w2 ⟨rfl, rfl⟩
  have H2 := HH.out.below b1
  have HH2 : Hid (IsRow w2 lo g t k) := H2
  have HB1 : Hid (Below w.heap.size w w2) := b1
  clear E1 E2 H2 b1
  go_wp2_with fail
  go_fit (toIndex_any Aa w2)
  rintro e w5 ⟨rfl, rfl⟩
  have b3 := (Below.refl w2.heap.size w2).alloc (Nat.le_refl _) (.cells #[.int .i64 Aa] 3)
  have H3 := HH2.out.below b3
  have EW := walkI_any t a w2.heap.size g k (w2.alloc (.cells #[.int .i64 Aa] 3)) (by have := HK.out; omega) H3.at_ (List.nodup_cons.1 H3.nd).1 H3.fit HK.out.2 H3.row (by rw [HAa.out]; exact heap_alloc_new w2 _) (by have := lt_of_heap HH2.out.row; omega)
  have HH3 : Hid (IsRow (w2.alloc (.cells #[.int .i64 Aa] 3)) lo g t k) := H3
  have HB3 : Hid (Below w2.heap.size w2 (w2.alloc (.cells #[.int .i64 Aa] 3))) := b3
  clear H3 b3
  go_wp2_with fail
  go_fit EW
  rintro e w6 ⟨rfl, ⟨k6, hk6, R6⟩, K6⟩
  have HF : Hid (∀ w', Below w6.heap.size w6 w' → (∃ k', IsRow w' lo g t k' ∧ k' ≤ k + 2 * t.high) ∧ Kp (g :: t.blocks) w w') := fun w' b => by
    have I6 := HH3.out.count K6 R6
    refine ⟨⟨k6, I6.below b, hk6⟩, ?_⟩
    exact (((Kp.of HB1.out).trans (Kp.of HB3.out)).trans (K6.mono (by simp))).trans (Kp.of b)
  obtain ⟨nl, nr, nm, ns, nn, NB⟩ := at_heap (HH3.out.count K6 R6).at_ HK.out.2
  have N7 := heap_alloc_old NB (.cells #[.int .i64 (a : Int), .int .i64 (t.pre a), .int .i64 0] 50)
  obtain ⟨⟨nb, nx, nu⟩, hnb⟩ : ∃ q, t.at' a = q := ⟨_, rfl⟩
  rw [hnb] at EW NB N7 ⊢
  dsimp only at N7 NB ⊢
  have n0 : w6.cell? ⟨nb, 0, none⟩ = some (.int .i64 nx) := Lib.cell_of_heap NB 0
  have n1 : w6.cell? ⟨nb, 1, none⟩ = some (.int .i64 nu) := Lib.cell_of_heap NB 1
  have nz := lt_of_heap NB
  have b7 := (Below.refl w6.heap.size w6).alloc (Nat.le_refl _) (.cells #[.int .i64 (a : Int), .int .i64 (t.pre a), .int .i64 0] 50)
  have HNB : Hid (t.at' a = (nb, nx, nu)) := hnb
  clear EW R6 K6 hnb
  go_wp2
  go_quiet (fail)
  go_wp2
  go_returns
  exact ⟨by rw [HNB.out]; rfl, HF.out _ (below_drewN b7 nq)⟩

set_option maxRecDepth 100000 in
set_option maxHeartbeats 4000000 in
theorem kfind_ok (t : (Deep.BT Int)) (a : Int) (lo g k : Nat) (w : World) (hk : k + 2 * t.high ≤ 4611686018427382000) (h : IsRow w lo g t k) (ha0 : 0 ≤ a) (ha : a < t.wide) :
    Calls Tryd.prog 14 #[.pointer (some ⟨g, 0, none⟩), .int .i64 a] w fun e w' => e = .returned (.tuple #[.int .i64 (t.find a : Int), .int .i64 (a - t.pre (t.find a)), .nilIface]) ∧ (∃ k', IsRow w' lo g t k' ∧ k' ≤ k + 2 * t.high) ∧ Kp (g :: t.blocks) w w' := by
  have E1 := wide_any t g k w h.at_ h.row
  obtain ⟨M, HM⟩ : ∃ M : Int, Hid (M = t.wide) := ⟨_, rfl⟩
  rw [← HM.out] at E1
  have g0 : ¬ a < 0 := by omega
  have g1 : ¬ M ≤ a := by have := HM.out; omega
  have HH : Hid (IsRow w lo g t k) := h
  have HK : Hid (k + 2 * t.high ≤ 4611686018427382000 ∧ 0 ≤ a ∧ a < t.wide) := ⟨hk, ha0, ha⟩
  have hsp := find_spec t (fun q hq => (h.itm q hq).1) a ha0 ha
  have hw := h.fit.wide
  have y1 : IntKind.i64.wrap (a - t.pre (t.find a)) = a - t.pre (t.find a) := IntWalk.i64_in _ (by
    have := pre_pos t (fun q hq => (h.itm q hq).1) (t.find a)
    omega)
  clear h hk ha0 ha hsp hw
  go_enter Tryd.func14, Tryd.ntmps14
  go_wp2_with fail
  go_fit E1
  rintro e w2 ⟨rfl, b1⟩
  have H2 := HH.out.below b1
  have HH2 : Hid (IsRow w2 lo g t k) := H2
  have HB1 : Hid (Below w.heap.size w w2) := b1
  clear E1 H2 b1
  go_wp2_with fail
  go_fit (toPlace_any a w2)
  rintro e w5 ⟨rfl, rfl⟩
  have b3 := (Below.refl w2.heap.size w2).alloc (Nat.le_refl _) (.cells #[.int .i64 a] 3)
  have H3 := HH2.out.below b3
  have EW := walkP_any t a w2.heap.size g k (w2.alloc (.cells #[.int .i64 a] 3)) (by have := HK.out; omega) H3.at_ (List.nodup_cons.1 H3.nd).1 H3.fit HK.out.2.1 HK.out.2.2 H3.row (heap_alloc_new w2 _) (by have := lt_of_heap HH2.out.row; omega)
  have HH3 : Hid (IsRow (w2.alloc (.cells #[.int .i64 a] 3)) lo g t k) := H3
  have HB3 : Hid (Below w2.heap.size w2 (w2.alloc (.cells #[.int .i64 a] 3))) := b3
  clear H3 b3
  go_wp2_with fail
  go_fit EW
  rintro e w6 ⟨rfl, ⟨k6, hk6, R6⟩, K6⟩
  have HF : Hid (∀ w', Below w6.heap.size w6 w' → (∃ k', IsRow w' lo g t k' ∧ k' ≤ k + 2 * t.high) ∧ Kp (g :: t.blocks) w w') := fun w' b => by
    have I6 := HH3.out.count K6 R6
    refine ⟨⟨k6, I6.below b, hk6⟩, ?_⟩
    exact (((Kp.of HB1.out).trans (Kp.of HB3.out)).trans (K6.mono (by simp))).trans (Kp.of b)
  have b7 := (Below.refl w6.heap.size w6).alloc (Nat.le_refl _) (.cells #[.int .i64 (t.find a : Int), .int .i64 (t.pre (t.find a)), .int .i64 0] 50)
  clear EW R6 K6
  go_wp2
  go_quiet (fail)
  go_wp2
  go_returns
  exact ⟨rfl, HF.out _ (below_drewN b7 nq)⟩

set_option maxRecDepth 100000 in
set_option maxHeartbeats 4000000 in
theorem kremove_ok (t : (Deep.BT Int)) (a : Nat) (lo g k : Nat) (w : World) (hk : k + 18 * t.high ≤ 4611686018427382000) (h : IsRow w lo g t k) (ha : a < t.many) :
    Calls Tryd.prog 10 #[.pointer (some ⟨g, 0, none⟩), .int .i64 (a : Int)] w fun e w' => e = .returned (.tuple #[.int .i64 (t.at' a).2.1, .int .i64 (t.at' a).2.2, .nilIface]) ∧ (∃ k', IsRow w' lo g (remT t a) k' ∧ k' ≤ k + 18 * t.high) ∧ Kp (g :: t.blocks) w w' := by
  have E1 := len_any t g k w h.at_ h.row
  have E2 := upTo_any (a : Int) ((t.many : Int) - 1)
  rw [decide_eq_true (show 0 ≤ (a : Int) ∧ (a : Int) ≤ (t.many : Int) - 1 from ⟨by omega, by omega⟩)] at E2
  obtain ⟨M, HM⟩ : ∃ M : Int, Hid (M = (t.many : Int)) := ⟨_, rfl⟩
  rw [← HM.out] at E1 E2
  have y1 : wrap64 (M - 1) = M - 1 := by have := HM.out; have := h.mny; unfold wrap64; omega
  have HH : Hid (IsRow w lo g t k) := h
  have HK : Hid (k + 18 * t.high ≤ 4611686018427382000 ∧ a < t.many) := ⟨hk, ha⟩
  clear h hk ha
  go_enter Tryd.func10, Tryd.ntmps10
  go_wp2_with fail
  go_fit E1
  rintro e w1 ⟨rfl, b1⟩
  go_wp2_with fail
  go_fit (E2 w1)
  rintro e w2 ⟨rfl, rfl⟩
  have H2 := HH.out.below b1
  have HH2 : Hid (IsRow w2 lo g t k) := H2
  have HB1 : Hid (Below w.heap.size w w2) := b1
  have c0 : w2.cell? ⟨g, 0, none⟩ = some t.pt := Lib.cell_of_heap H2.row 0
  have ER := remove_any t a g t.pt k w2 (by have := HK.out; omega) (by have := HK.out; have := HH.out.mny; omega) H2.fit HK.out.2 H2.at_ H2.nd H2.row
  clear E1 E2 H2 b1
  go_wp2_with fail
  go_fit ER
  rintro e w3 ⟨rfl, T3, ⟨lp, rp, nm, ns, nn, N3⟩, ⟨k3, hk3, R3⟩, K3⟩
  have z0 : w3.cell? ⟨g, 0, none⟩ = some t.pt := Lib.cell_of_heap R3 0
  have zf := Lib.frozen_of_heap R3
  have hrb := rem_blocks t a HK.out.2
  have hgt := (List.nodup_cons.1 HH.out.nd).1
  have hgn : g ∉ (remT t a).blocks := fun e => hgt (hrb.mem_iff.1 (List.mem_cons_of_mem _ e))
  have hgb : (t.at' a).1 ≠ g := fun e => hgt (by rw [← e]; exact hrb.mem_iff.1 (by simp))
  have R4 : RowAt g (remT t a).pt k3 (w3.setCell ⟨g, 0, none⟩ (remT t a).pt) := set_at R3 0 _
  have KS : Kp [g] w3 (w3.setCell ⟨g, 0, none⟩ (remT t a).pt) := (Kp.refl _ w3).set (by simp) _ _
  have I4 : IsRow (w3.setCell ⟨g, 0, none⟩ (remT t a).pt) lo g (remT t a) k3 := by
    have hir := items_rem t a HK.out.2
    refine ⟨R4, T3.kp KS (off_one hgn), List.nodup_cons.2 ⟨hgn, (List.nodup_cons.1 (hrb.nodup_iff.2 (List.nodup_cons.1 HH.out.nd).2)).2⟩, ⟨HH.out.low.1, fun b hb => HH.out.low.2 b (hrb.mem_iff.1 (List.mem_cons_of_mem _ hb))⟩, fun q hq => HH.out.itm q (by
      rw [hir, List.mem_append] at hq
      rcases hq with h | h
      · exact List.mem_of_mem_take h
      · exact List.mem_of_mem_drop h), ?_⟩
    have h9 := congrArg List.length hir
    rw [items_len, List.length_append, List.length_take, List.length_drop, items_len] at h9
    have := HH.out.mny
    omega
  have N4 := heap_set_other (g := g) (i := 0) (v := (remT t a).pt) N3 hgb
  have BL : Kp (g :: t.blocks) w (w3.setCell ⟨g, 0, none⟩ (remT t a).pt) := (Kp.of HB1.out).trans (K3.trans (KS.mono (by simp)))
  have HF : Hid (∀ w', Below (w3.setCell ⟨g, 0, none⟩ (remT t a).pt).heap.size (w3.setCell ⟨g, 0, none⟩ (remT t a).pt) w' → (∃ k', IsRow w' lo g (remT t a) k' ∧ k' ≤ k + 18 * t.high) ∧ Kp (g :: t.blocks) w w') := fun w' b => ⟨⟨k3, I4.below b, hk3⟩, BL.trans (Kp.of b)⟩
  obtain ⟨⟨nb, nx, nu⟩, hnb⟩ : ∃ q, t.at' a = q := ⟨_, rfl⟩
  rw [hnb] at N4 ⊢
  have HNB : Hid (t.at' a = (nb, nx, nu)) := hnb
  dsimp only at N4 ⊢
  have HN4 : Hid _ := N4
  clear ER c0 R4 KS I4 BL T3 N3 R3 K3 hk3 hnb N4 hrb hgt hgn hgb
  go_upto_region 5 with fail
  have b7 := Below.refl (w3.setCell ⟨g, 0, none⟩ (remT t a).pt).heap.size (w3.setCell ⟨g, 0, none⟩ (remT t a).pt)
  have N5 := HN4.out
  generalize w3.setCell ⟨g, 0, none⟩ (remT t a).pt = W at *
  have n0 : W.cell? ⟨nb, 0, none⟩ = some (.int .i64 nx) := Lib.cell_of_heap N5 0
  have n1 : W.cell? ⟨nb, 1, none⟩ = some (.int .i64 nu) := Lib.cell_of_heap N5 1
  clear N5 z0 zf
  go_quiet (fail)
  go_wp2
  go_returns
  exact ⟨by rw [HNB.out]; rfl, HF.out _ (below_drewN b7 nq)⟩
end Go.Proofs.YtebglecjajghjaaDoor
