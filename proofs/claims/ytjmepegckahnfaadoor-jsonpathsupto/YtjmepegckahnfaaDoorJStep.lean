/-
  What is proved: the function stepTo of package json, called with a tree that lies in memory and a kid's number, answers the step to that kid.
  Conditions: the tree's keys lie in memory; a map has a key for that kid.
-/
import Derived.Test.YtjmepegckahnfaaDoorJPathM
namespace Go.Proofs.YtjmepegckahnfaaDoor
open Go.RowKit Go.Sort

set_option maxRecDepth 100000 in
set_option maxHeartbeats 4000000 in
theorem stepTo_any (x : V) (ks : List ByteArray) (ak a2 : Option Addr) (ck n2 c2 i : Nat) (w : World) (hk : IsStrs w (.slice ak ks.length ck) ks) (h5 : x.k = 5 → i < ks.length) :
    Calls Tryd.prog 15 #[tval (x, .slice ak ks.length ck, .slice a2 n2 c2), .int .i64 i] w fun e w' => e = .returned (stpV (stepOf x ks i)) ∧ Below w.heap.size w w' := by
  have HV : Hid (stepOf x ks i = if x.k = 5 then (ks[i]?.getD ⟨#[]⟩, 0) else (⟨#[]⟩, (i : Int))) := rfl
  generalize stepOf x ks i = st at *
  obtain ⟨k, n, t, o, c⟩ := x
  obtain ⟨x0, y0, b0⟩ := two_boxes w (.cells #[.int .i64 k, .int .i64 n, .string t, .int .i64 o, .int .i64 c, .slice ak ks.length ck, .slice a2 n2 c2] 29) (.cells #[.string ⟨#[]⟩, .int .i64 0] 41)
  have HS : Hid (IsStrs w (.slice ak ks.length ck) ks) := hk
  have HX : Hid (_ ∧ _ ∧ _) := ⟨x0, y0, b0⟩
  clear x0 y0 b0 hk
  unfold tval
  dsimp only at *
  by_cases hk5 : k = 5
  · subst hk5
    have hi := h5 rfl
    clear h5
    go_enter Tryd.func15, Tryd.ntmps15
    go_upto_region 1 with fail
    obtain ⟨x0, y0, b0⟩ := HX.out
    clear HX
    generalize (w.alloc (.cells #[.int .i64 5, .int .i64 n, .string t, .int .i64 o, .int .i64 c, .slice ak ks.length ck, .slice a2 n2 c2] 29)).alloc (.cells #[.string ⟨#[]⟩, .int .i64 0] 41) = W at *
    obtain ⟨b, off, rfl, hb4, hmem⟩ := HS.out.cells b0 (show ks ≠ [] from fun e => by rw [e] at hi; simp at hi)
    have m0 := hmem i hi
    have g1 : (i : Int) < ks.length := by omega
    have k0 : W.cell? ⟨w.heap.size, 0, none⟩ = some (.int .i64 5) := Lib.cell_of_heap x0 0
    have k5 : W.cell? ⟨w.heap.size, 5, none⟩ = some (.slice (some ⟨b, off, none⟩) ks.length ck) := Lib.cell_of_heap x0 5
    have z0 : W.cell? ⟨w.heap.size + 1, 0, none⟩ = some (.string ⟨#[]⟩) := Lib.cell_of_heap y0 0
    have z1 : W.cell? ⟨w.heap.size + 1, 1, none⟩ = some (.int .i64 0) := Lib.cell_of_heap y0 1
    have zf := Lib.frozen_of_heap y0
    have HR : Hid (st = (ks[i], 0)) := by
      show st = _
      rw [HV.out, if_pos rfl, List.getElem?_eq_getElem hi]; rfl
    generalize ks[i] = key at *
    have hF : ((W.setCell ⟨w.heap.size + 1, 0, none⟩ (.string key)).setCell ⟨w.heap.size + 1, 1, none⟩ (.int .i64 0)).heap[w.heap.size + 1]? = some (.cells #[.string key, .int .i64 0] 41) := set_at (set_at y0 0 (.string key)) 1 (.int .i64 0)
    have HBF : Hid (Below w.heap.size w ((W.setCell ⟨w.heap.size + 1, 0, none⟩ (.string key)).setCell ⟨w.heap.size + 1, 1, none⟩ (.int .i64 0))) := (b0.setCell (Nat.le_succ _) _).setCell (Nat.le_succ _) _
    have HHF : Hid (_ = some _) := hF
    clear hF x0 y0 b0 hmem hi
    go_wp2
    clear z0 z1 zf k0 k5 m0
    generalize (W.setCell ⟨w.heap.size + 1, 0, none⟩ (.string key)).setCell ⟨w.heap.size + 1, 1, none⟩ (.int .i64 0) = V at *
    have q0 : V.cell? ⟨w.heap.size + 1, 0, none⟩ = some (.string key) := Lib.cell_of_heap HHF.out 0
    have q1 : V.cell? ⟨w.heap.size + 1, 1, none⟩ = some (.int .i64 0) := Lib.cell_of_heap HHF.out 1
    exact bodyPost_ret (v := stpV (key, 0)) (by simp [results, Tryd.results15, go_sem, q0, q1]) rfl ⟨by rw [HR.out], HBF.out⟩
  · have HR : Hid (st = (⟨#[]⟩, (i : Int))) := by
      show st = _
      rw [HV.out, if_neg hk5]
    have hk5' : (k == 5) = false := by simpa using hk5
    clear hk5 h5
    go_enter Tryd.func15, Tryd.ntmps15
    go_upto_region 1 with fail
    obtain ⟨x0, y0, b0⟩ := HX.out
    clear HX
    generalize (w.alloc (.cells #[.int .i64 k, .int .i64 n, .string t, .int .i64 o, .int .i64 c, .slice ak ks.length ck, .slice a2 n2 c2] 29)).alloc (.cells #[.string ⟨#[]⟩, .int .i64 0] 41) = W at *
    have k0 : W.cell? ⟨w.heap.size, 0, none⟩ = some (.int .i64 k) := Lib.cell_of_heap x0 0
    have z0 : W.cell? ⟨w.heap.size + 1, 0, none⟩ = some (.string ⟨#[]⟩) := Lib.cell_of_heap y0 0
    have z1 : W.cell? ⟨w.heap.size + 1, 1, none⟩ = some (.int .i64 0) := Lib.cell_of_heap y0 1
    have zf := Lib.frozen_of_heap y0
    have HHF : Hid (_ = some (Obj.cells #[.string ⟨#[]⟩, .int .i64 (i : Int)] 41)) := set_at (set_at y0 0 (.string ⟨#[]⟩)) 1 (.int .i64 (i : Int))
    have HBF : Hid (Below w.heap.size w ((W.setCell ⟨w.heap.size + 1, 0, none⟩ (.string ⟨#[]⟩)).setCell ⟨w.heap.size + 1, 1, none⟩ (.int .i64 (i : Int)))) := (b0.setCell (Nat.le_succ _) _).setCell (Nat.le_succ _) _
    clear x0 y0 b0
    go_wp2
    clear z0 z1 zf k0
    generalize (W.setCell ⟨w.heap.size + 1, 0, none⟩ (.string ⟨#[]⟩)).setCell ⟨w.heap.size + 1, 1, none⟩ (.int .i64 (i : Int)) = V at *
    have q0 : V.cell? ⟨w.heap.size + 1, 0, none⟩ = some (.string ⟨#[]⟩) := Lib.cell_of_heap HHF.out 0
    have q1 : V.cell? ⟨w.heap.size + 1, 1, none⟩ = some (.int .i64 (i : Int)) := Lib.cell_of_heap HHF.out 1
    exact bodyPost_ret (v := stpV (⟨#[]⟩, (i : Int))) (by simp [results, Tryd.results15, go_sem, q0, q1]) rfl ⟨by rw [HR.out], HBF.out⟩
end Go.Proofs.YtjmepegckahnfaaDoor
