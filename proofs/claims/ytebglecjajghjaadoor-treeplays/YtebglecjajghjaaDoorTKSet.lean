/-
  What is proved: what package tree's Set answers of a row that lies in memory, what the row is then, and that it turns nothing but the row's own blocks.
  Conditions: the row lies in memory.
-/
import Derived.Test.YtebglecjajghjaaDoorTAsk
import Derived.Test.YtebglecjajghjaaDoorTWalkS
import Derived.Laws.EntriesVeiled
namespace Go.Proofs.YtebglecjajghjaaDoor
open Go.RowKit

set_option maxRecDepth 100000 in
set_option maxHeartbeats 8000000 in
theorem kset_ok (t : (Deep.BT Int)) (a : Nat) (nu : Int) (lo g k : Nat) (w : World) (hk : k + 4 * t.high ≤ 4611686018427382000) (h : IsRow w lo g t k) (ha : a < t.many) (hu : 0 ≤ nu ∧ nu ≤ 1000000) :
    Calls Tryd.prog 13 #[.pointer (some ⟨g, 0, none⟩), .int .i64 (a : Int), .int .i64 nu] w fun e w' => e = .returned .nilIface ∧ (∃ k', IsRow w' lo g (setT t a nu) k' ∧ k' ≤ k + 4 * t.high) ∧ Kp (g :: t.blocks) w w' := by
  have E1 := len_any t g k w h.at_ h.row
  have E2 := upTo_any (a : Int) ((t.many : Int) - 1)
  rw [decide_eq_true (show 0 ≤ (a : Int) ∧ (a : Int) ≤ (t.many : Int) - 1 from ⟨by omega, by omega⟩)] at E2
  have E3 := upTo_any nu 1000000
  rw [decide_eq_true hu] at E3
  obtain ⟨M, HM⟩ : ∃ M : Int, Hid (M = (t.many : Int)) := ⟨_, rfl⟩
  obtain ⟨Aa, HAa⟩ : ∃ A : Int, Hid (A = (a : Int)) := ⟨_, rfl⟩
  rw [← HM.out] at E1 E2
  rw [← HAa.out] at E2 ⊢
  have y1 : wrap64 (M - 1) = M - 1 := by have := HM.out; have := h.mny; unfold wrap64; omega
  have HH : Hid (IsRow w lo g t k) := h
  have hold : 0 ≤ (t.at' a).2.2 ∧ (t.at' a).2.2 ≤ 1000000 := h.itm _ (List.mem_of_getElem? (at_item t a ha))
  have HK : Hid (k + 4 * t.high ≤ 4611686018427382000 ∧ a < t.many ∧ (0 ≤ nu ∧ nu ≤ 1000000) ∧ (0 ≤ (t.at' a).2.2 ∧ (t.at' a).2.2 ≤ 1000000)) := ⟨hk, ha, hu, hold⟩
  clear h hk ha hu hold
  go_enter Tryd.func13, Tryd.ntmps13
  go_wp2_with fail
  go_fit E1
  rintro e w1 ⟨rfl, b1⟩
  go_wp2_with fail
  go_fit (E2 w1)
  rintro e w2 ⟨rfl, rfl⟩
  go_wp2_with fail
  go_fit (E3 w2)
  rintro e w3 ⟨rfl, rfl⟩
  have H2 := HH.out.below b1
  have HH2 : Hid (IsRow w3 lo g t k) := H2
  have HB1 : Hid (Below w.heap.size w w3) := b1
  clear E1 E2 E3 H2 b1
  go_wp2_with fail
  go_fit (toIndex_any Aa w3)
  rintro e w5 ⟨rfl, rfl⟩
  have b3 := ((Below.refl w3.heap.size w3).alloc (Nat.le_refl _) (.cells #[.int .i64 Aa] 3)).alloc (by simp) (.cells #[.func (Fn.func 31) #[] #[.pointer (some ⟨w3.heap.size, 0, none⟩)]] 58)
  have H3 := HH2.out.below b3
  have q3 : ((w3.alloc (.cells #[.int .i64 Aa] 3)).alloc (.cells #[.func (Fn.func 31) #[] #[.pointer (some ⟨w3.heap.size, 0, none⟩)]] 58)).heap[w3.heap.size]? = some (.cells #[.int .i64 (a : Int)] 3) := by rw [← HAa.out]; exact heap_alloc_old (heap_alloc_new w3 _) _
  have f3 : ((w3.alloc (.cells #[.int .i64 Aa] 3)).alloc (.cells #[.func (Fn.func 31) #[] #[.pointer (some ⟨w3.heap.size, 0, none⟩)]] 58)).heap[w3.heap.size + 1]? = some (.cells #[.func (Fn.func 31) #[] #[.pointer (some ⟨w3.heap.size, 0, none⟩)]] 58) := heap_at_new _ _ (by simp)
  have hg3 := lt_of_heap HH2.out.row
  have EW := walkI_any t a w3.heap.size g k ((w3.alloc (.cells #[.int .i64 Aa] 3)).alloc (.cells #[.func (Fn.func 31) #[] #[.pointer (some ⟨w3.heap.size, 0, none⟩)]] 58)) (by have := HK.out; omega) H3.at_ (List.nodup_cons.1 H3.nd).1 H3.fit HK.out.2.1 H3.row q3 (by omega)
  have HH3 : Hid (_ ∧ _ ∧ _ ∧ _) := ⟨H3, q3, f3, b3⟩
  clear H3 b3 q3 f3
  go_wp2_with fail
  go_fit EW
  rintro e w6 ⟨rfl, ⟨k6, hk6, R6⟩, K6⟩
  clear EW
  obtain ⟨H3, q3, f3, b3⟩ := HH3.out
  have I6 := H3.count K6 R6
  have q6 := K6.heap q3 (by simp; omega)
  have f6 := K6.heap f3 (by simp; omega)
  have KA : Kp (g :: t.blocks) w w6 := ((Kp.of HB1.out).trans (Kp.of b3)).trans (K6.mono (by simp))
  obtain ⟨nl, nr, nm, ns, nn, NB⟩ := at_heap I6.at_ HK.out.2.1
  have HD : Hid (_ ∧ _ ∧ _ ∧ _ ∧ _) := ⟨I6, q6, f6, KA, NB⟩
  have n1 : w6.cell? ⟨(t.at' a).1, 1, none⟩ = some (.int .i64 (t.at' a).2.2) := Lib.cell_of_heap NB 1
  have nz := lt_of_heap NB
  have y2 : wrap64 (nu - (t.at' a).2.2) = nu - (t.at' a).2.2 := by have := HK.out; unfold wrap64; omega
  have hk6' : Hid (k6 ≤ k + 2 * t.high) := hk6
  have hfz : w3.heap.size + 1 < w6.heap.size := lt_of_heap f6
  clear H3 q3 f3 b3 I6 q6 f6 KA NB R6 K6 hk6 HH3
  have B6 : Kp [] w6 ((w6.alloc (.cells #[.int .i64 (a : Int), .int .i64 (t.pre a), .int .i64 0] 50)).alloc (.cells #[.int .i64 (nu - (t.at' a).2.2)] 3)) := ((Kp.refl _ w6).alloc _).alloc _
  have B6' : Below w6.heap.size w6 ((w6.alloc (.cells #[.int .i64 (a : Int), .int .i64 (t.pre a), .int .i64 0] 50)).alloc (.cells #[.int .i64 (nu - (t.at' a).2.2)] 3)) := ((Below.refl w6.heap.size w6).alloc (Nat.le_refl _) _).alloc (by simp) _
  have I7 := HD.out.1.below B6'
  have ES := walkS_any t a w3.heap.size (w6.heap.size + 1) (w3.heap.size + 1) g k6 nu (nu - (t.at' a).2.2) ((w6.alloc (.cells #[.int .i64 (a : Int), .int .i64 (t.pre a), .int .i64 0] 50)).alloc (.cells #[.int .i64 (nu - (t.at' a).2.2)] 3)) (by have := HK.out; have := hk6'.out; omega) I7.at_ (List.nodup_cons.1 I7.nd).2 (List.nodup_cons.1 I7.nd).1 I7.fit HK.out.2.1 I7.row (B6.heap HD.out.2.1 (by simp)) (heap_at_new _ _ (by simp)) (B6.heap HD.out.2.2.1 (by simp)) rfl HK.out.2.2.1 HK.out.2.2.2
  have HB6 : Hid (_ ∧ _) := ⟨B6, I7⟩
  clear B6 B6' I7
  go_wp2_with fail
  go_fit ES
  rintro e w8 ⟨⟨pp, sp, rfl⟩, ⟨k8, hk8, R8⟩, K8, ⟨cs, NC, hcs⟩, T8⟩
  clear ES
  obtain ⟨⟨nb, nx, nv⟩, hnb⟩ : ∃ q, t.at' a = q := ⟨_, rfl⟩
  have hgn : g ≠ nb := fun e => (List.nodup_cons.1 HH.out.nd).1 (by
    have := at_block t HK.out.2.1
    rw [hnb] at this
    rw [e]; exact this)
  have hbt : nb ∈ t.blocks := by have := at_block t HK.out.2.1; rw [hnb] at this; exact this
  rw [hnb] at NC T8 ⊢
  dsimp only at NC T8 ⊢
  have z1 : ∃ v, w8.cell? ⟨nb, 1, none⟩ = some v := by
    obtain ⟨l⟩ := cs
    match l, hcs with
    | [c0, c1, c2, c3, c4, c5, c6], _ => exact ⟨c1, Lib.cell_of_heap NC 1⟩
  obtain ⟨v1, z1⟩ := z1
  have zf := Lib.frozen_of_heap NC
  have KS : Kp (g :: t.blocks) w8 (w8.setCell ⟨nb, 1, none⟩ (.int .i64 nu)) := (Kp.refl _ w8).set (by simp [hbt]) _ _
  have R9 : RowAt g (setT t a nu).pt k8 (w8.setCell ⟨nb, 1, none⟩ (.int .i64 nu)) := by rw [ptr_set]; exact heap_set_other R8 hgn
  have I9 : IsRow (w8.setCell ⟨nb, 1, none⟩ (.int .i64 nu)) lo g (setT t a nu) k8 := by
    refine ⟨R9, T8, by rw [blocks_set]; exact HH.out.nd, by rw [blocks_set]; exact HH.out.low, fun q hq => ?_, by rw [many_set]; exact HH.out.mny⟩
    rw [items_set t a nu HK.out.2.1] at hq
    rcases List.mem_or_eq_of_mem_set hq with h | h
    · exact HH.out.itm q h
    · rw [h]; exact HK.out.2.2.1
  have HF : Hid (_ ∧ _ ∧ _) := ⟨I9, ((HD.out.2.2.2.1.trans (HB6.out.1.mono (by simp))).trans K8).trans KS, show k8 ≤ k + 4 * t.high by have := hk6'.out; omega⟩
  clear KS R9 I9 NC T8 R8 K8 hk8 hnb hbt
  go_wp2
  go_ret
  exact ⟨rfl, ⟨k8, HF.out.1, HF.out.2.2⟩, HF.out.2.1⟩
end Go.Proofs.YtebglecjajghjaaDoor
