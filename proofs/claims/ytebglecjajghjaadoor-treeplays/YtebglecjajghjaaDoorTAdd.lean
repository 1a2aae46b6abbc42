/-
  What is proved: what package tree's method add makes of a piece's top.
  Conditions: the piece lies in memory, and is no longer than a row may be.
-/
import Derived.Test.YtebglecjajghjaaDoorTLook
namespace Go.Proofs.YtebglecjajghjaaDoor
open Go.RowKit

theorem off_one {g : Nat} {t : (Deep.BT Int)} (h : g ∉ t.blocks) : ∀ c ∈ t.blocks, c ∉ [g] := fun c hc e => h (by rw [List.mem_singleton.1 e] at hc; exact hc)

theorem fit_of {t t' : (Deep.BT Int)} (h : t.fit) (hm : t'.many ≤ t.many) (hi : ∀ q ∈ t'.items, q ∈ t.items) : t'.fit := ⟨Nat.le_trans hm h.1, fun q hq => h.2 q (hi q hq)⟩

theorem three_of {w : World} {b : Nat} {x y z : Value} {T : TypeId} (hb : w.heap[b]? = some (.cells #[x, y, z] T)) : w.cell? ⟨b, 0, none⟩ = some x ∧ w.cell? ⟨b, 1, none⟩ = some y ∧ w.cell? ⟨b, 2, none⟩ = some z := ⟨Lib.cell_of_heap hb 0, Lib.cell_of_heap hb 1, Lib.cell_of_heap hb 2⟩

theorem sides_of {w : World} {b : Nat} {x u m s h : Int} {p q : Value} {T : TypeId} (hb : w.heap[b]? = some (.cells (ncells x u p q m s h) T)) : w.cell? ⟨b, 2, none⟩ = some p ∧ w.cell? ⟨b, 3, none⟩ = some q := ⟨Lib.cell_of_heap hb 2, Lib.cell_of_heap hb 3⟩

set_option maxRecDepth 100000 in
set_option maxHeartbeats 8000000 in
theorem add_any (b x : Nat) (u : Int) (l r : (Deep.BT Int)) (g : Nat) (p : Value) (k : Nat) (m s h : Int) (w : World) (hk : k ≤ 4611686018427387000) (hfit : (Deep.BT.node b x u l r).fit) (hb : w.heap[b]? = some (.cells (ncells (th x) u l.pt r.pt m s h) 52)) (hl : l.At w) (hr : r.At w) (hbl : b ∉ l.blocks) (hbr : b ∉ r.blocks) (hgl : g ∉ l.blocks) (hgr : g ∉ r.blocks) (hgb : b ≠ g) (hR : RowAt g p k w) :
    Calls Tryd.prog 40 #[.pointer (some ⟨g, 0, none⟩), .pointer (some ⟨b, 0, none⟩)] w fun e w' => e = .returned (.tuple #[]) ∧ (Deep.BT.node b x u l r).At w' ∧ (∃ k', k' ≤ k + 3 ∧ RowAt g p k' w') ∧ Kp [g, b] w w' := by
  have c1 : w.cell? ⟨g, 1, none⟩ = some (.int .i64 k) := Lib.cell_of_heap hR 1
  have cf := Lib.frozen_of_heap hR
  have w1 : wrap64 ((k : Int) + 1) = (k : Int) + 1 := by unfold wrap64; omega
  have K0 : Kp [g] w (w.setCell ⟨g, 1, none⟩ (.int .i64 ((k : Int) + 1))) := (Kp.refl [g] w).set (List.mem_singleton.2 rfl) 1 _
  have R0 : RowAt g p (k + 1) (w.setCell ⟨g, 1, none⟩ (.int .i64 ((k : Int) + 1))) := set_at hR 1 _
  have B0 := K0.heap hb (by simpa using hgb)
  have L0 := hl.kp K0 (off_one hgl)
  have Q0 := hr.kp K0 (off_one hgr)
  go_enter Tryd.func40, Tryd.ntmps40
  go_wp2
  generalize w.setCell ⟨g, 1, none⟩ (.int .i64 ((k : Int) + 1)) = w0 at *
  have hz := lt_of_heap B0
  have hzg := lt_of_heap R0
  have d2 : w0.cell? ⟨b, 2, none⟩ = some l.pt := Lib.cell_of_heap B0 2
  have d3 : w0.cell? ⟨b, 3, none⟩ = some r.pt := Lib.cell_of_heap B0 3
  have d2s : ∀ v, (w0.setCell ⟨g, 1, none⟩ v).cell? ⟨b, 2, none⟩ = some l.pt := fun v => Lib.cell_of_heap (heap_set_other B0 hgb) 2
  have d3s : ∀ v, (w0.setCell ⟨g, 1, none⟩ v).cell? ⟨b, 3, none⟩ = some r.pt := fun v => Lib.cell_of_heap (heap_set_other B0 hgb) 3
  have HR : Hid (RowAt g p (k + 1) w0) := R0
  have HB : Hid (w0.heap[b]? = some (.cells (ncells (th x) u l.pt r.pt m s h) 52)) := B0
  have HQ : Hid (r.At w0) := Q0
  have HL : Hid (l.At w0) := L0
  have HK0 : Hid (Kp [g] w w0) := K0
  have hol := one_le l
  have hor := one_le r
  clear hb hl hr c1 cf w1 K0 hR B0 L0 Q0 R0
  go_cut [4, 5] from 6 (fun a c wx => ∃ A C, a = .pointer (some ⟨A, 0, none⟩) ∧ c = .pointer (some ⟨C, 0, none⟩) ∧ w0.heap.size ≤ A ∧ w0.heap.size ≤ C ∧ A ≠ C ∧ wx.heap[A]? = some (.cells #[.int .i64 (l.many : Int), .int .i64 l.wide, .int .i64 (l.high : Int)] 50) ∧ wx.heap[C]? = some (.cells #[.int .i64 (r.many : Int), .int .i64 r.wide, .int .i64 (r.high : Int)] 50) ∧ Kp [g] w0 wx ∧ RowAt g p (k + 1 + l.one + r.one) wx)
  case first =>
    clear hfit hbl hbr HK0
    go_region_held3 (fun W => W.cell? ⟨b, 2, none⟩ = some l.pt ∧ W.cell? ⟨b, 3, none⟩ = some r.pt) (first | (exact sides_of (x := th x) (u := u) (m := m) (s := s) (h := h) (T := 52) (by with_reducible repeat (first | exact HB.out | refine heap_drew ?_ | refine heap_alloc_old ?_ _ | refine heap_set_other ?_ hgb | refine heap_set_other ?_ (by omega)))) | go_keep) (first
      | (go_at_call 29; go_fit (look_any l g p (k + 1) _ (by omega) (Deep.BT.At.kp (S := [g]) HL.out (by with_reducible repeat (first | exact Kp.refl _ _ | refine Kp.drew ?_ | refine Kp.alloc ?_ _ | refine Kp.set ?_ (List.mem_singleton.2 rfl) _ _ | refine Kp.setNew ?_ (by omega) _ _)) (off_one hgl)) hgl (by with_reducible repeat (first | exact HR.out | refine heap_drew ?_ | refine heap_alloc_old ?_ _ | exact row_set (by with_reducible repeat (first | exact rowE_of HR.out | refine rowE_drew ?_ | refine rowE_alloc ?_ _ | refine rowE_set ?_ _ | refine rowE_other ?_ (by omega))) (by omega) | refine heap_set_other ?_ (by omega)))); rintro e w1 ⟨rfl, rfl⟩)
      | (go_at_call 29; go_fit (look_any r g p (k + 1 + l.one) _ (by omega) (Deep.BT.At.kp (S := [g]) HQ.out (by with_reducible repeat (first | exact Kp.refl _ _ | refine Kp.drew ?_ | refine Kp.alloc ?_ _ | refine Kp.set ?_ (List.mem_singleton.2 rfl) _ _ | refine Kp.setNew ?_ (by omega) _ _)) (off_one hgr)) hgr (by with_reducible repeat (first | exact HR.out | refine heap_drew ?_ | refine heap_alloc_old ?_ _ | exact row_set (by with_reducible repeat (first | exact rowE_of HR.out | refine rowE_drew ?_ | refine rowE_alloc ?_ _ | refine rowE_set ?_ _ | refine rowE_other ?_ (by omega))) (by omega) | refine heap_set_other ?_ (by omega)))); rintro e w1 ⟨rfl, rfl⟩))
    all_goals
      clear d2 d3 d2s d3s
      go_wp2
      go_meet
      exact ⟨_, _, rfl, rfl, by first | omega | (simp; done) | (simp; omega), by first | omega | (simp; done) | (simp; omega), by first | omega | (simp; done) | (simp; omega), (by with_reducible repeat (first | refine heap_drew ?_ | (refine heap_at_new _ _ ?_; (simp <;> omega)) | refine heap_alloc_old ?_ _ | exact box_set (by with_reducible repeat (first | (refine boxE_new _ _ _ _ _ ?_; (simp <;> omega)) | refine boxE_drew ?_ | refine boxE_alloc ?_ _ | refine boxE_other ?_ (by omega))) _ _ _ | refine heap_set_other ?_ (by omega))), (by with_reducible repeat (first | refine heap_drew ?_ | (refine heap_at_new _ _ ?_; (simp <;> omega)) | refine heap_alloc_old ?_ _ | exact box_set (by with_reducible repeat (first | (refine boxE_new _ _ _ _ _ ?_; (simp <;> omega)) | refine boxE_drew ?_ | refine boxE_alloc ?_ _ | refine boxE_other ?_ (by omega))) _ _ _ | refine heap_set_other ?_ (by omega))), (by with_reducible repeat (first | exact Kp.refl _ _ | refine Kp.drew ?_ | refine Kp.alloc ?_ _ | refine Kp.set ?_ (List.mem_singleton.2 rfl) _ _ | refine Kp.setNew ?_ (by omega) _ _)), (by with_reducible repeat (first | exact HR.out | refine heap_drew ?_ | refine heap_alloc_old ?_ _ | exact row_set (by with_reducible repeat (first | exact rowE_of HR.out | refine rowE_drew ?_ | refine rowE_alloc ?_ _ | refine rowE_set ?_ _ | refine rowE_other ?_ (by omega))) (by omega) | refine heap_set_other ?_ (by omega)))⟩
  case rest =>
    obtain ⟨A, C, rfl, rfl, hA, hC, hAC, HA, HCC, KW, RW⟩ := hcut
    have HWB := KW.heap HB.out (by simpa using hgb)
    have fw := hfit.wide
    have fl := (fit_of hfit (t' := l) (by simp only [Deep.BT.many]; omega) (fun q hq => by simp only [Deep.BT.items, List.mem_append]; exact Or.inl hq)).wide
    have fr := (fit_of hfit (t' := r) (by simp only [Deep.BT.many]; omega) (fun q hq => by simp only [Deep.BT.items, List.mem_append, List.mem_cons]; exact Or.inr (Or.inr hq))).wide
    have fm := hfit.1
    have fu := hfit.2 (th x, u) (by simp [Deep.BT.items])
    have fhl := high_many l
    have fhr := high_many r
    simp only [Deep.BT.many] at fm
    dsimp only at fu
    have a0 : wc.cell? ⟨A, 0, none⟩ = some (.int .i64 (l.many : Int)) := Lib.cell_of_heap HA 0
    have a1 : wc.cell? ⟨A, 1, none⟩ = some (.int .i64 l.wide) := Lib.cell_of_heap HA 1
    have a2 : wc.cell? ⟨A, 2, none⟩ = some (.int .i64 (l.high : Int)) := Lib.cell_of_heap HA 2
    have e0 : wc.cell? ⟨C, 0, none⟩ = some (.int .i64 (r.many : Int)) := Lib.cell_of_heap HCC 0
    have e1 : wc.cell? ⟨C, 1, none⟩ = some (.int .i64 r.wide) := Lib.cell_of_heap HCC 1
    have e2 : wc.cell? ⟨C, 2, none⟩ = some (.int .i64 (r.high : Int)) := Lib.cell_of_heap HCC 2
    have b1 : wc.cell? ⟨b, 1, none⟩ = some (.int .i64 u) := Lib.cell_of_heap HWB 1
    have b4 : wc.cell? ⟨b, 4, none⟩ = some (.int .i64 m) := Lib.cell_of_heap HWB 4
    have b5 : wc.cell? ⟨b, 5, none⟩ = some (.int .i64 s) := Lib.cell_of_heap HWB 5
    have b6 : wc.cell? ⟨b, 6, none⟩ = some (.int .i64 h) := Lib.cell_of_heap HWB 6
    have bf := Lib.frozen_of_heap HWB
    have x1 : IntKind.i64.wrap ((l.many : Int) + 1) = (l.many : Int) + 1 := IntWalk.i64_in _ (by omega)
    have x2 : IntKind.i64.wrap ((l.many : Int) + 1 + r.many) = (l.many : Int) + 1 + r.many := IntWalk.i64_in _ (by omega)
    have x3 : IntKind.i64.wrap (l.wide + u) = l.wide + u := IntWalk.i64_in _ (by omega)
    have x4 : IntKind.i64.wrap (l.wide + u + r.wide) = l.wide + u + r.wide := IntWalk.i64_in _ (by omega)
    have HLH : Hid ((l.high : Int) ≤ 1000000 ∧ (r.high : Int) ≤ 1000000) := ⟨by omega, by omega⟩
    have KF : Kp [g, b] w wc := (HK0.out.mono (by simp)).trans (KW.mono (by simp))
    have NS : ∀ t : (Deep.BT Int), b ∉ t.blocks → ∀ z ∈ t.blocks, z ∉ [b] := fun t => off_one
    have TL := HL.out.kp KW (off_one hgl)
    have TR := HQ.out.kp KW (off_one hgr)
    clear hfit fw fl fr fm fu
    obtain ⟨H, hH⟩ : ∃ H : Int, ((1 + max l.high r.high : Nat) : Int) = H := ⟨_, rfl⟩
    have x5 : IntKind.i64.wrap (1 + if l.high < r.high then (r.high : Int) else (l.high : Int)) = H := by
      rw [← hH, IntWalk.i64_in _ (by have := HLH.out; split <;> omega)]
      split <;> omega
    have HH : Hid (((1 + max l.high r.high : Nat) : Int) = H) := hH
    have KQ : Kp [g, b] w (((wc.setCell ⟨b, 4, none⟩ (.int .i64 ((l.many : Int) + 1 + r.many))).setCell ⟨b, 5, none⟩ (.int .i64 (l.wide + u + r.wide))).setCell ⟨b, 6, none⟩ (.int .i64 H)).drew := (((KF.set (g := b) (by simp) 4 _).set (g := b) (by simp) 5 _).set (g := b) (by simp) 6 _).drew
    have KS : Kp [b] wc (((wc.setCell ⟨b, 4, none⟩ (.int .i64 ((l.many : Int) + 1 + r.many))).setCell ⟨b, 5, none⟩ (.int .i64 (l.wide + u + r.wide))).setCell ⟨b, 6, none⟩ (.int .i64 H)).drew := ((((Kp.refl _ wc).set (g := b) (by simp) 4 _).set (g := b) (by simp) 5 _).set (g := b) (by simp) 6 _).drew
    have HN : (((wc.setCell ⟨b, 4, none⟩ (.int .i64 ((l.many : Int) + 1 + r.many))).setCell ⟨b, 5, none⟩ (.int .i64 (l.wide + u + r.wide))).setCell ⟨b, 6, none⟩ (.int .i64 H)).drew.heap[b]? = some (.cells (ncells (th x) u l.pt r.pt ((l.many : Int) + 1 + r.many) (l.wide + u + r.wide) H) 52) := heap_drew (set_at (set_at (set_at HWB 4 _) 5 _) 6 _)
    have ZL := TL.kp KS (off_one hbl)
    have ZR := TR.kp KS (off_one hbr)
    have ZG := KS.heap RW (by simpa using Ne.symm hgb)
    have HZ : Hid (_ ∧ _ ∧ _ ∧ _ ∧ _) := ⟨KQ, HN, ZL, ZR, ZG⟩
    clear hH KQ KS HN ZL ZR ZG TL TR NS KF
    go_wp2
    go_region_held3 (fun W => (W.cell? ⟨A, 0, none⟩ = some (.int .i64 (l.many : Int)) ∧ W.cell? ⟨A, 1, none⟩ = some (.int .i64 l.wide) ∧ W.cell? ⟨A, 2, none⟩ = some (.int .i64 (l.high : Int))) ∧ (W.cell? ⟨C, 0, none⟩ = some (.int .i64 (r.many : Int)) ∧ W.cell? ⟨C, 1, none⟩ = some (.int .i64 r.wide) ∧ W.cell? ⟨C, 2, none⟩ = some (.int .i64 (r.high : Int))) ∧ W.cell? ⟨b, 1, none⟩ = some (.int .i64 u)) (first | (exact ⟨three_of (by with_reducible repeat (first | exact HA | refine heap_drew ?_ | refine heap_set_other ?_ (by omega))), three_of (by with_reducible repeat (first | exact HCC | refine heap_drew ?_ | refine heap_set_other ?_ (by omega))), Lib.cell_of_heap (set_at (set_at (set_at HWB 4 _) 5 _) 6 _) 1⟩) | go_keep) (first | fail)
    all_goals
      go_wp2
      all_goals
        go_end0
        refine ⟨rfl, ⟨?_, HZ.out.2.2.1, HZ.out.2.2.2.1⟩, ⟨_, by omega, HZ.out.2.2.2.2⟩, HZ.out.1⟩
        rw [show ((l.many + 1 + r.many : Nat) : Int) = (l.many : Int) + 1 + r.many from by omega, HH.out]
        exact HZ.out.2.1
end Go.Proofs.YtebglecjajghjaaDoor
