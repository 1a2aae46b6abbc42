/-
  What is proved: what package tree's Work and Remove answer of a row that lies in memory, and what a Find, a Get and a Remove behind the row's end answer; and booklaw2's pick.
  Conditions: the row lies in memory.
-/
import Derived.Test.YtebglecjajghjaaDoorTAsk
import Derived.Test.YtebglecjajghjaaDoorTRem
namespace Go.Proofs.YtebglecjajghjaaDoor
open Go.RowKit

set_option maxRecDepth 100000 in
set_option maxHeartbeats 4000000 in
theorem get_end (t : (Deep.BT Int)) (lo g k : Nat) (w : World) (h : IsRow w lo g t k) :
    Calls Tryd.prog 12 #[.pointer (some ⟨g, 0, none⟩), .int .i64 (t.many : Int)] w fun e w' => e = .returned (.tuple #[.int .i64 0, .int .i64 0, .iface 44 (.int .i64 1)]) ∧ IsRow w' lo g t k ∧ Below lo w w' := by
  have E1 := len_any t g k w h.at_ h.row
  have E2 := upTo_any (t.many : Int) ((t.many : Int) - 1)
  rw [decide_eq_false (show ¬ (0 ≤ (t.many : Int) ∧ (t.many : Int) ≤ (t.many : Int) - 1) from fun e => by omega)] at E2
  obtain ⟨M, HM⟩ : ∃ M : Int, Hid (M = (t.many : Int)) := ⟨_, rfl⟩
  rw [← HM.out] at E1 E2 ⊢
  have y1 : wrap64 (M - 1) = M - 1 := by have := HM.out; have := h.mny; unfold wrap64; omega
  have HH : Hid (IsRow w lo g t k) := h
  clear h
  go_enter Tryd.func12, Tryd.ntmps12
  go_wp2_with fail
  go_fit E1
  rintro e w1 ⟨rfl, b1⟩
  go_wp2_with fail
  go_fit (E2 w1)
  rintro e w2 ⟨rfl, rfl⟩
  have HF : Hid (_ ∧ _) := ⟨HH.out.below b1, b1.mono HH.out.lo_le⟩
  clear E1 E2 b1
  go_wp2
  go_returns
  exact ⟨rfl, HF.out⟩

set_option maxRecDepth 100000 in
set_option maxHeartbeats 4000000 in
theorem remove_end (t : (Deep.BT Int)) (lo g k : Nat) (w : World) (h : IsRow w lo g t k) :
    Calls Tryd.prog 10 #[.pointer (some ⟨g, 0, none⟩), .int .i64 (t.many : Int)] w fun e w' => e = .returned (.tuple #[.int .i64 0, .int .i64 0, .iface 44 (.int .i64 1)]) ∧ IsRow w' lo g t k ∧ Below lo w w' := by
  have E1 := len_any t g k w h.at_ h.row
  have E2 := upTo_any (t.many : Int) ((t.many : Int) - 1)
  rw [decide_eq_false (show ¬ (0 ≤ (t.many : Int) ∧ (t.many : Int) ≤ (t.many : Int) - 1) from fun e => by omega)] at E2
  obtain ⟨M, HM⟩ : ∃ M : Int, Hid (M = (t.many : Int)) := ⟨_, rfl⟩
  rw [← HM.out] at E1 E2 ⊢
  have y1 : wrap64 (M - 1) = M - 1 := by have := HM.out; have := h.mny; unfold wrap64; omega
  have HH : Hid (IsRow w lo g t k) := h
  clear h
  go_enter Tryd.func10, Tryd.ntmps10
  go_wp2_with fail
  go_fit E1
  rintro e w1 ⟨rfl, b1⟩
  go_wp2_with fail
  go_fit (E2 w1)
  rintro e w2 ⟨rfl, rfl⟩
  have HF : Hid (_ ∧ _) := ⟨HH.out.below b1, b1.mono HH.out.lo_le⟩
  clear E1 E2 b1
  go_wp2
  go_returns
  exact ⟨rfl, HF.out⟩

set_option maxRecDepth 100000 in
set_option maxHeartbeats 4000000 in
theorem find_end (t : (Deep.BT Int)) (a : Int) (ha0 : 0 ≤ a) (ha : t.wide ≤ a) (lo g k : Nat) (w : World) (h : IsRow w lo g t k) :
    Calls Tryd.prog 14 #[.pointer (some ⟨g, 0, none⟩), .int .i64 a] w fun e w' => e = .returned (.tuple #[.int .i64 0, .int .i64 0, .iface 44 (.int .i64 1)]) ∧ IsRow w' lo g t k ∧ Below lo w w' := by
  have E1 := wide_any t g k w h.at_ h.row
  obtain ⟨M, HM⟩ : ∃ M : Int, Hid (M = t.wide) := ⟨_, rfl⟩
  rw [← HM.out] at E1
  have g0 : ¬ a < 0 := by omega
  have g1 : M ≤ a := by have := HM.out; omega
  have HH : Hid (IsRow w lo g t k) := h
  clear h ha0 ha
  go_enter Tryd.func14, Tryd.ntmps14
  go_wp2_with fail
  go_fit E1
  rintro e w2 ⟨rfl, b1⟩
  have HF : Hid (_ ∧ _) := ⟨HH.out.below b1, b1.mono HH.out.lo_le⟩
  clear E1 b1
  go_wp2
  go_returns
  exact ⟨rfl, HF.out⟩

set_option maxRecDepth 100000 in
set_option maxHeartbeats 4000000 in
theorem removeR_ok (t : (Deep.BT Int)) (a : Nat) (lo g k : Nat) (w : World) (hk : k + 18 * t.high ≤ 4611686018427382000) (h : IsRow w lo g t k) (ha : a < t.many) :
    Calls Tryd.prog 10 #[.pointer (some ⟨g, 0, none⟩), .int .i64 (a : Int)] w fun e w' => e = .returned (.tuple #[.int .i64 (t.at' a).2.1, .int .i64 (t.at' a).2.2, .nilIface]) ∧ (∃ k', IsRow w' lo g (remT t a) k' ∧ k' ≤ k + 18 * t.high) ∧ Below lo w w' := by
  have E1 := len_any t g k w h.at_ h.row
  have E2 := upTo_any (a : Int) ((t.many : Int) - 1)
  rw [decide_eq_true (show 0 ≤ (a : Int) ∧ (a : Int) ≤ (t.many : Int) - 1 from ⟨by omega, by omega⟩)] at E2
  obtain ⟨M, HM⟩ : ∃ M : Int, Hid (M = (t.many : Int)) := ⟨_, rfl⟩
  rw [← HM.out] at E1 E2
  have y1 : wrap64 (M - 1) = M - 1 := by have := HM.out; have := h.mny; unfold wrap64; omega
  have HH : Hid (IsRow w lo g t k) := h
  have HK : Hid (k + 18 * t.high ≤ 4611686018427382000 ∧ a < t.many) := ⟨hk, ha⟩
  clear h hk ha
  go_enter Tryd.func10, Tryd.ntmps10
  go_wp2_with fail
  go_fit E1
  rintro e w1 ⟨rfl, b1⟩
  go_wp2_with fail
  go_fit (E2 w1)
  rintro e w2 ⟨rfl, rfl⟩
  have H2 := HH.out.below b1
  have HH2 : Hid (IsRow w2 lo g t k) := H2
  have HB1 : Hid (Below w.heap.size w w2) := b1
  have c0 : w2.cell? ⟨g, 0, none⟩ = some t.pt := Lib.cell_of_heap H2.row 0
  have ER := remove_any t a g t.pt k w2 (by have := HK.out; omega) (by have := HK.out; have := HH.out.mny; omega) H2.fit HK.out.2 H2.at_ H2.nd H2.row
  clear E1 E2 H2 b1
  go_wp2_with fail
  go_fit ER
  rintro e w3 ⟨rfl, T3, ⟨lp, rp, nm, ns, nn, N3⟩, ⟨k3, hk3, R3⟩, K3⟩
  have z0 : w3.cell? ⟨g, 0, none⟩ = some t.pt := Lib.cell_of_heap R3 0
  have zf := Lib.frozen_of_heap R3
  have hrb := rem_blocks t a HK.out.2
  have hgt := (List.nodup_cons.1 HH.out.nd).1
  have hgn : g ∉ (remT t a).blocks := fun e => hgt (hrb.mem_iff.1 (List.mem_cons_of_mem _ e))
  have hgb : (t.at' a).1 ≠ g := fun e => hgt (by rw [← e]; exact hrb.mem_iff.1 (by simp))
  have R4 : RowAt g (remT t a).pt k3 (w3.setCell ⟨g, 0, none⟩ (remT t a).pt) := set_at R3 0 _
  have KS : Kp [g] w3 (w3.setCell ⟨g, 0, none⟩ (remT t a).pt) := (Kp.refl _ w3).set (by simp) _ _
  have I4 : IsRow (w3.setCell ⟨g, 0, none⟩ (remT t a).pt) lo g (remT t a) k3 := by
    have hir := items_rem t a HK.out.2
    refine ⟨R4, T3.kp KS (off_one hgn), List.nodup_cons.2 ⟨hgn, (List.nodup_cons.1 (hrb.nodup_iff.2 (List.nodup_cons.1 HH.out.nd).2)).2⟩, ⟨HH.out.low.1, fun b hb => HH.out.low.2 b (hrb.mem_iff.1 (List.mem_cons_of_mem _ hb))⟩, fun q hq => HH.out.itm q (by
      rw [hir, List.mem_append] at hq
      rcases hq with h | h
      · exact List.mem_of_mem_take h
      · exact List.mem_of_mem_drop h), ?_⟩
    have h9 := congrArg List.length hir
    rw [items_len, List.length_append, List.length_take, List.length_drop, items_len] at h9
    have := HH.out.mny
    omega
  have N4 := heap_set_other (g := g) (i := 0) (v := (remT t a).pt) N3 hgb
  have BL : Below lo w (w3.setCell ⟨g, 0, none⟩ (remT t a).pt) := (HB1.out.mono HH.out.lo_le).trans ((K3.trans (KS.mono (by simp))).below (fun b hb => by
    rcases List.mem_cons.1 hb with h | h
    · rw [h]; exact HH.out.low.1
    · exact HH.out.low.2 b h) HH2.out.lo_le)
  have HF : Hid (∀ w', Below (w3.setCell ⟨g, 0, none⟩ (remT t a).pt).heap.size (w3.setCell ⟨g, 0, none⟩ (remT t a).pt) w' → (∃ k', IsRow w' lo g (remT t a) k' ∧ k' ≤ k + 18 * t.high) ∧ Below lo w w') := fun w' b => ⟨⟨k3, I4.below b, hk3⟩, BL.trans (b.mono I4.lo_le)⟩
  obtain ⟨⟨nb, nx, nu⟩, hnb⟩ : ∃ q, t.at' a = q := ⟨_, rfl⟩
  rw [hnb] at N4 ⊢
  have HNB : Hid (t.at' a = (nb, nx, nu)) := hnb
  dsimp only at N4 ⊢
  have HN4 : Hid _ := N4
  clear ER c0 R4 KS I4 BL T3 N3 R3 K3 hk3 hnb N4 hrb hgt hgn hgb
  go_upto_region 5 with fail
  have b7 := Below.refl (w3.setCell ⟨g, 0, none⟩ (remT t a).pt).heap.size (w3.setCell ⟨g, 0, none⟩ (remT t a).pt)
  have N5 := HN4.out
  generalize w3.setCell ⟨g, 0, none⟩ (remT t a).pt = W at *
  have n0 : W.cell? ⟨nb, 0, none⟩ = some (.int .i64 nx) := Lib.cell_of_heap N5 0
  have n1 : W.cell? ⟨nb, 1, none⟩ = some (.int .i64 nu) := Lib.cell_of_heap N5 1
  clear N5 z0 zf
  go_quiet (fail)
  go_wp2
  go_returns
  exact ⟨by rw [HNB.out]; rfl, HF.out _ (below_drewN b7 nq)⟩

theorem pick_val (a b : Int) (h0 : 0 < b) (h1 : b ≤ 3000) : ∃ r : Nat, (r : Int) < b ∧ (wrap64 (a.tmod b + b)).tmod b = (r : Int) := by
  have x1 := Int.tmod_lt_of_pos a h0
  have x2 := Int.lt_tmod_of_pos a h0
  generalize a.tmod b = x at *
  have e : wrap64 (x + b) = x + b := by unfold wrap64; omega
  rw [e, Int.tmod_eq_emod_of_nonneg (by omega)]
  have y1 := Int.emod_nonneg (x + b) (show b ≠ 0 from by omega)
  have y2 := Int.emod_lt_of_pos (x + b) h0
  exact ⟨((x + b) % b).toNat, by omega, by omega⟩

set_option maxRecDepth 100000 in
set_option maxHeartbeats 4000000 in
theorem pick_any (a b : Int) (w : World) (h0 : 0 < b) (h1 : b ≤ 3000) : Calls Tryd.prog 6 #[.int .i64 a, .int .i64 b] w fun e w' => (∃ r : Nat, (r : Int) < b ∧ e = .returned (.int .i64 (r : Int))) ∧ w' = w := by
  obtain ⟨r, h2, h3⟩ := pick_val a b h0 h1
  have HR : Hid ((r : Int) < b ∧ (wrap64 (a.tmod b + b)).tmod b = (r : Int)) := ⟨h2, h3⟩
  have hb : ¬ b = 0 := by omega
  have hb2 : (b == 0) = false := by rw [beq_eq_false_iff_ne]; omega
  clear h0 h1 h2 h3
  go_enter Tryd.func6, Tryd.ntmps6
  go_wp2
  go_ret
  exact ⟨⟨r, HR.out.1, by rw [← HR.out.2]; rfl⟩, rfl⟩
end Go.Proofs.YtebglecjajghjaaDoor
