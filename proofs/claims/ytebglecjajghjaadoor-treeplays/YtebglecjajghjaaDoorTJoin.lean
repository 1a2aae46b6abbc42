/-
  What is proved: what package tree's methods remove and join make of a piece, and what they cost.
  Conditions: the piece lies in memory, and is no longer than a row may be.
-/
import Derived.Test.YtebglecjajghjaaDoorTLev
import Derived.Test.YtebglecjajghjaaDoorTPre
namespace Go.Proofs.YtebglecjajghjaaDoor
open Go.RowKit

/-- What remove is to do with a piece. -/
def RemC (t : (Deep.BT Int)) : Prop := ∀ (at0 g : Nat) (p : Value) (k : Nat) (w : World), k + 18 * t.high ≤ 4611686018427383000 → at0 ≤ 1000000 → t.fit → at0 < t.many → t.At w → (g :: t.blocks).Nodup → RowAt g p k w →
    Calls Tryd.prog 21 #[.pointer (some ⟨g, 0, none⟩), t.pt, .int .i64 (at0 : Int)] w fun e w' => e = .returned (.tuple #[(remT t at0).pt, .pointer (some ⟨(t.at' at0).1, 0, none⟩)]) ∧ (remT t at0).At w' ∧ (∃ lp rp m s n, w'.heap[(t.at' at0).1]? = some (.cells (ncells (t.at' at0).2.1 (t.at' at0).2.2 (.pointer lp) (.pointer rp) m s n) 52)) ∧ (∃ k', k' ≤ k + 18 * t.high ∧ RowAt g p k' w') ∧ Kp (g :: t.blocks) w w'

/-- Two pieces, made one. -/
def joinT (l r : (Deep.BT Int)) : (Deep.BT Int) :=
  match r with
  | .nil => l
  | .node c y v rl rr => level ((Deep.BT.node c y v rl rr).at' 0).1 (cd ((Deep.BT.node c y v rl rr).at' 0).2.1) ((Deep.BT.node c y v rl rr).at' 0).2.2 l (remT (.node c y v rl rr) 0)

set_option maxRecDepth 100000 in
set_option maxHeartbeats 8000000 in
theorem join_any (l r : (Deep.BT Int)) (hr : RemC r) (g : Nat) (p : Value) (k : Nat) (w : World) (hk : k + 18 * r.high ≤ 4611686018427383000) (hf : l.many + r.many ≤ 1000000) (hfi : ∀ q, (q ∈ l.items ∨ q ∈ r.items) → 0 ≤ q.2 ∧ q.2 ≤ 1000000) (hl : l.At w) (hr2 : r.At w) (hd : (g :: (l.blocks ++ r.blocks)).Nodup) (hR : RowAt g p k w) :
    Calls Tryd.prog 30 #[.pointer (some ⟨g, 0, none⟩), .agg #[l.pt, r.pt]] w fun e w' => e = .returned (joinT l r).pt ∧ (joinT l r).At w' ∧ (∃ k', k' ≤ k + 18 * r.high + 16 ∧ RowAt g p k' w') ∧ Kp (g :: (l.blocks ++ r.blocks)) w w' := by
  have K0 : Kp [] w (w.alloc (.cells #[l.pt, r.pt] 48)) := (Kp.refl _ w).alloc _
  have hz := lt_of_heap hR
  cases r with
  | nil =>
    have L0 := hl.kp K0 (by simp)
    have R0 : RowAt g p k (w.alloc (.cells #[l.pt, Deep.BT.nil.pt] 48)) := heap_alloc_old hR _
    have K1 : Kp (g :: (l.blocks ++ Deep.BT.nil.blocks)) w (w.alloc (.cells #[l.pt, Deep.BT.nil.pt] 48)) := K0.mono (by simp)
    rw [show Deep.BT.nil.pt = Value.pointer none from rfl] at *
    go_enter Tryd.func30, Tryd.ntmps30
    go_wp2
    go_ret
    exact ⟨rfl, L0, ⟨k, by omega, R0⟩, K1⟩
  | node c y v rl rr =>
    have h0 : 0 < (Deep.BT.node c y v rl rr).many := by simp only [Deep.BT.many]; omega
    have hrb := rem_blocks (Deep.BT.node c y v rl rr) 0 h0
    have hir := items_rem (Deep.BT.node c y v rl rr) 0 h0
    have mn : (remT (Deep.BT.node c y v rl rr) 0).many + 1 = (Deep.BT.node c y v rl rr).many := by
      rw [← items_len, ← items_len, hir, List.length_append, List.length_take, List.length_drop, items_len]
      omega
    have mi : ∀ q ∈ (remT (Deep.BT.node c y v rl rr) 0).items, q ∈ (Deep.BT.node c y v rl rr).items := fun q hq => by
      rw [hir, List.mem_append] at hq
      rcases hq with h | h
      · exact List.mem_of_mem_take h
      · exact List.mem_of_mem_drop h
    have hit := List.mem_of_getElem? (at_item (Deep.BT.node c y v rl rr) 0 h0)
    have HJ : Hid (joinT l (Deep.BT.node c y v rl rr) = level ((Deep.BT.node c y v rl rr).at' 0).1 (cd ((Deep.BT.node c y v rl rr).at' 0).2.1) ((Deep.BT.node c y v rl rr).at' 0).2.2 l (remT (.node c y v rl rr) 0)) := rfl
    have E := hr 0 g p k (w.alloc (.cells #[l.pt, (Deep.BT.node c y v rl rr).pt] 48)) (by omega) (by omega) ⟨by omega, fun q hq => hfi q (Or.inr hq)⟩ h0 (hr2.kp K0 (by simp)) (by
      rw [List.nodup_cons, List.nodup_append] at hd
      exact List.nodup_cons.2 ⟨fun e => hd.1 (List.mem_append_right _ e), hd.2.2.1⟩) (heap_alloc_old hR _)
    have L0 := hl.kp K0 (by simp)
    have hbx : (w.alloc (.cells #[l.pt, (Deep.BT.node c y v rl rr).pt] 48)).heap[w.heap.size]? = some (.cells #[l.pt, (Deep.BT.node c y v rl rr).pt] 48) := heap_alloc_new w _
    have hll := hl.lt
    have hrl := hr2.lt
    generalize remT (Deep.BT.node c y v rl rr) 0 = tr at *
    obtain ⟨⟨nb, nx, nu⟩, hnb⟩ : ∃ q, (Deep.BT.node c y v rl rr).at' 0 = q := ⟨_, rfl⟩
    rw [hnb] at E hrb HJ hit
    dsimp only at E hrb HJ hit
    have hmr : (Deep.BT.node c y v rl rr).pt = Value.pointer (some ⟨c, 0, none⟩) := rfl
    rw [hmr] at E hbx K0 L0
    have HKK : Hid (k + 18 * (Deep.BT.node c y v rl rr).high ≤ 4611686018427383000 ∧ l.many + (Deep.BT.node c y v rl rr).many ≤ 1000000) := ⟨hk, hf⟩
    clear hk hf hnb hir h0 hr hl hr2 hR
    generalize (Deep.BT.node c y v rl rr).high = hh at *
    generalize (Deep.BT.node c y v rl rr).many = mm at *
    generalize (Deep.BT.node c y v rl rr).items = ii at *
    generalize (Deep.BT.node c y v rl rr).blocks = bb at *
    rw [hmr]
    have nbb : nb ∈ bb := hrb.mem_iff.1 (by simp)
    have hdn : (∀ z ∈ l.blocks, z ∉ g :: bb) ∧ g ∉ bb ∧ g ∉ l.blocks ∧ nb ∉ l.blocks := by
      rw [List.nodup_cons, List.mem_append, List.nodup_append, not_or] at hd
      refine ⟨fun z hz e => ?_, hd.1.2, hd.1.1, fun e => hd.2.2.2 nb e nb nbb rfl⟩
      rcases List.mem_cons.1 e with h | h
      · exact hd.1.1 (by rw [← h]; exact hz)
      · exact hd.2.2.2 z hz z h rfl
    have hnt : nb ∉ tr.blocks := (List.nodup_cons.1 (hrb.nodup_iff.2 (by rw [List.nodup_cons, List.nodup_append] at hd; exact hd.2.2.1))).1
    have HE0 : Hid _ := hbx
    go_enter Tryd.func30, Tryd.ntmps30
    go_wp2_with fail
    go_fit E
    rintro e w3 ⟨rfl, T3, ⟨lp, rp, nm, ns, nn, N3⟩, ⟨k3, hk3, R3⟩, K3⟩
    have b0 := K3.heap HE0.out (fun e => by
      rcases List.mem_cons.1 e with h | h
      · omega
      · have := hrl _ h; omega)
    have x0 : w3.cell? ⟨w.heap.size, 0, none⟩ = some l.pt := Lib.cell_of_heap b0 0
    have n2 : w3.cell? ⟨nb, 2, none⟩ = some (.pointer lp) := Lib.cell_of_heap N3 2
    have n3 : w3.cell? ⟨nb, 3, none⟩ = some (.pointer rp) := Lib.cell_of_heap N3 3
    have nf := Lib.frozen_of_heap N3
    have KN : Kp [nb] w3 ((w3.setCell ⟨nb, 2, none⟩ l.pt).setCell ⟨nb, 3, none⟩ tr.pt) := ((Kp.refl _ w3).set (by simp) _ _).set (by simp) _ _
    have N4 : ((w3.setCell ⟨nb, 2, none⟩ l.pt).setCell ⟨nb, 3, none⟩ tr.pt).heap[nb]? = some (.cells (ncells (th (cd nx)) nu l.pt tr.pt nm ns nn) 52) := by rw [th_cd]; exact set_at (set_at N3 2 _) 3 _
    have hgn : g ≠ nb := fun e => hdn.2.1 (by rw [e]; exact nbb)
    have hpp : (g :: (Deep.BT.node nb (cd nx) nu l tr).blocks).Perm (g :: (l.blocks ++ bb)) := List.Perm.cons _ (List.perm_middle.symm.trans (List.Perm.append_left _ hrb))
    have EL := level_any nb (cd nx) nu l tr g p k3 nm ns nn ((w3.setCell ⟨nb, 2, none⟩ l.pt).setCell ⟨nb, 3, none⟩ tr.pt) (by have := HKK.out; omega) ⟨by have := HKK.out; simp only [Deep.BT.many]; omega, fun q hq => by
      simp only [Deep.BT.items, List.mem_append, List.mem_cons] at hq
      rcases hq with h | h | h
      · exact hfi q (Or.inl h)
      · rw [h, th_cd]; exact hfi _ (Or.inr hit)
      · exact hfi q (Or.inr (mi q h))⟩ N4 ((L0.kp K3 hdn.1).kp KN (off_one hdn.2.2.2)) (T3.kp KN (off_one hnt)) (hpp.nodup_iff.2 hd) (KN.heap R3 (by simpa using hgn))
    have HKA : Hid (Kp (g :: (l.blocks ++ bb)) w ((w3.setCell ⟨nb, 2, none⟩ l.pt).setCell ⟨nb, 3, none⟩ tr.pt)) := ((K0.mono (by simp)).trans (K3.mono (fun z hz => by
      rcases List.mem_cons.1 hz with h | h
      · rw [h]; simp
      · exact List.mem_cons_of_mem _ (List.mem_append_right _ h)))).trans (KN.mono (fun z hz => by rw [List.mem_singleton.1 hz]; exact List.mem_cons_of_mem _ (List.mem_append_right _ nbb)))
    have HK3 : Hid (k3 ≤ k + 18 * hh) := hk3
    have HPP : Hid _ := hpp
    clear T3 N3 R3 K3 KN N4 L0 hbx K0 E b0 hk3 hpp
    go_wp2_with fail
    go_fit EL
    rintro e w5 ⟨rfl, T5, ⟨k5, hk5, R5⟩, K5⟩
    have HKB : Hid (Kp (g :: (l.blocks ++ bb)) w w5) := HKA.out.trans (K5.mono (fun z hz => HPP.out.mem_iff.1 hz))
    have HK5 : Hid (k5 ≤ k3 + 16) := hk5
    clear EL K5 hk5
    go_wp2
    go_ret
    exact ⟨by rw [HJ.out]; rfl, by rw [HJ.out]; exact T5, ⟨k5, by have h1 := HK5.out; have h2 := HK3.out; omega, R5⟩, HKB.out⟩
end Go.Proofs.YtebglecjajghjaaDoor
