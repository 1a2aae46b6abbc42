/-
  What is proved: what the function that package tree's Set hands to walk answers, and that it turns nothing but one node's sum.
  Conditions: the node and what the function holds lie in memory.
-/
import Derived.Test.YtebglecjajghjaaDoorTWay
import Derived.Test.YtebglecjajghjaaDoorTSetM
namespace Go.Proofs.YtebglecjajghjaaDoor
open Go.RowKit

set_option maxRecDepth 100000 in
set_option maxHeartbeats 4000000 in
theorem setc_any (a m s h : Int) (b q mo wh : Nat) (x v mm ss hh more : Int) (pl pr : Value) (w : World)
    (hb : w.heap[b]? = some (.cells (ncells x v pl pr mm ss hh) 52)) (hmo : w.heap[mo]? = some (.cells #[.int .i64 more] 3))
    (hwh : w.heap[wh]? = some (.cells #[.func (Fn.func 31) #[] #[.pointer (some ⟨q, 0, none⟩)]] 58)) (hq : w.heap[q]? = some (.cells #[.int .i64 a] 3))
    (hw : IntKind.i64.wrap (ss + more) = ss + more) :
    Calls Tryd.prog 24 #[.pointer (some ⟨b, 0, none⟩), .agg #[.int .i64 m, .int .i64 s, .int .i64 h], .pointer (some ⟨mo, 0, none⟩), .pointer (some ⟨wh, 0, none⟩)] w fun e w' => e = .returned (.int .i64 (cmpI a m)) ∧ Kp [b] w w' ∧ w'.heap[b]? = some (.cells (ncells x v pl pr mm (ss + more) hh) 52) := by
  have hbq : q ≠ b := fun e => by rw [e, hb] at hq; simp at hq
  have hbw : wh ≠ b := fun e => by rw [e, hb] at hwh; simp at hwh
  have hbz := lt_of_heap hb
  have hmz := lt_of_heap hmo
  have K0 : Kp [b] w (w.alloc (.cells #[.int .i64 m, .int .i64 s, .int .i64 h] 50)) := (Kp.refl _ w).alloc _
  have b0 := heap_alloc_old hb (.cells #[.int .i64 m, .int .i64 s, .int .i64 h] 50)
  have m0 := heap_alloc_old hmo (.cells #[.int .i64 m, .int .i64 s, .int .i64 h] 50)
  have h0 := heap_alloc_old hwh (.cells #[.int .i64 m, .int .i64 s, .int .i64 h] 50)
  have q0 := heap_alloc_old hq (.cells #[.int .i64 m, .int .i64 s, .int .i64 h] 50)
  have x0 := heap_alloc_new w (.cells #[.int .i64 m, .int .i64 s, .int .i64 h] 50)
  have HA : Hid (_ ∧ _ ∧ _ ∧ _ ∧ _ ∧ _) := ⟨K0, b0, m0, h0, q0, x0⟩
  clear K0 b0 m0 h0 q0 x0 hb hmo hwh hq
  go_enter Tryd.func24, Tryd.ntmps24
  go_upto_region 2 with fail
  obtain ⟨K0, b0, m0, h0, q0, x0⟩ := HA.out
  clear HA
  have hsz : w.heap.size ≠ b := by omega
  have hsl : w.heap.size < (w.alloc (.cells #[.int .i64 m, .int .i64 s, .int .i64 h] 50)).heap.size := lt_of_heap x0
  generalize w.alloc (.cells #[.int .i64 m, .int .i64 s, .int .i64 h] 50) = W at *
  have b5 : W.cell? ⟨b, 5, none⟩ = some (.int .i64 ss) := Lib.cell_of_heap b0 5
  have bf := Lib.frozen_of_heap b0
  have mc : W.cell? ⟨mo, 0, none⟩ = some (.int .i64 more) := Lib.cell_of_heap m0 0
  have B1 : (W.setCell ⟨b, 5, none⟩ (.int .i64 (ss + more))).drew.heap[b]? = some (.cells (ncells x v pl pr mm (ss + more) hh) 52) := heap_drew (set_at b0 5 _)
  have K1 : Kp [b] w (W.setCell ⟨b, 5, none⟩ (.int .i64 (ss + more))).drew := (K0.set (by simp) _ _).drew
  have H1 : (W.setCell ⟨b, 5, none⟩ (.int .i64 (ss + more))).drew.heap[wh]? = _ := heap_drew (heap_set_other h0 hbw)
  have Q1 : (W.setCell ⟨b, 5, none⟩ (.int .i64 (ss + more))).drew.heap[q]? = _ := heap_drew (heap_set_other q0 hbq)
  have X1 : (W.setCell ⟨b, 5, none⟩ (.int .i64 (ss + more))).drew.heap[w.heap.size]? = _ := heap_drew (heap_set_other x0 hsz)
  have HB : Hid (_ ∧ _ ∧ _ ∧ _ ∧ _) := ⟨B1, K1, H1, Q1, X1⟩
  clear B1 K1 H1 Q1 X1 K0 b0 m0 h0 q0 x0
  go_region
  all_goals
    obtain ⟨B1, K1, H1, Q1, X1⟩ := HB.out
    clear HB b5 bf mc hw
    generalize (W.setCell ⟨b, 5, none⟩ (.int .i64 (ss + more))).drew = V at *
    have hz : w.heap.size < V.heap.size := lt_of_heap X1
    have v0 : V.cell? ⟨wh, 0, none⟩ = some (.func (Fn.func 31) #[] #[.pointer (some ⟨q, 0, none⟩)]) := Lib.cell_of_heap H1 0
    have y0 : V.cell? ⟨w.heap.size, 0, none⟩ = some (.int .i64 m) := Lib.cell_of_heap X1 0
    have y1 : V.cell? ⟨w.heap.size, 1, none⟩ = some (.int .i64 s) := Lib.cell_of_heap X1 1
    have y2 : V.cell? ⟨w.heap.size, 2, none⟩ = some (.int .i64 h) := Lib.cell_of_heap X1 2
    have EI := index_any a m s h (.pointer (some ⟨b, 0, none⟩)) q V (Lib.cell_of_heap Q1 0) (lt_of_heap Q1) _ rfl
    have HF : Hid (_ ∧ _) := ⟨K1.alloc (.cells #[.int .i64 m, .int .i64 s, .int .i64 h] 50), heap_alloc_old B1 (.cells #[.int .i64 m, .int .i64 s, .int .i64 h] 50)⟩
    clear B1 K1 H1 Q1 X1
    go_wp2_with fail
    go_fit EI
    rintro e w3 ⟨rfl, rfl⟩
    go_wp2
    go_ret
    exact ⟨rfl, HF.out⟩
end Go.Proofs.YtebglecjajghjaaDoor
