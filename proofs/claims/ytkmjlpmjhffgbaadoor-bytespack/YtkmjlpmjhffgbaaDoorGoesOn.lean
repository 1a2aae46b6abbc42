/-
  What is proved: the function goesOn of package bytes, called with any bytes, answer as they should, and nothing that was there has turned.
  Conditions: the bytes lie in memory.
-/
import Derived.Test.YtkmjlpmjhffgbaaDoorPackWalk
namespace Go.Proofs.YtkmjlpmjhffgbaaDoor
open Go.RowKit

set_option maxHeartbeats 1000000 in
theorem goesOn_any (v : Value) (D : List Int) (m d : Int) (w : World) (hv : IsInts w v D) :
    Calls Tryd.prog 33 #[v, .agg #[.int .i64 m, .int .i64 d]] w fun e w' => e = .returned (.bool (decide (D.getLast? = some d))) ∧ Below w.heap.size w w' := by
  obtain ⟨a, cap, rfl, h1, h2, hr, h3⟩ := hv
  by_cases h0 : D = []
  · subst h0
    go_enter Tryd.func33, Tryd.ntmps33
    go_wp2
    go_quiet (fail)
    go_wp2
    exact bodyPost_ret (v := .bool false) (by simp [results, Tryd.results33, go_sem]) rfl ⟨by simp, below_drew ((Below.refl _ _).alloc (Nat.le_refl _) _) nq⟩
  · obtain ⟨b, off, rfl, h4, h5⟩ := h3 h0
    have hl := List.length_pos_iff.2 h0
    have x0 := h5 (D.length - 1) (by omega)
    have hD : D.getLast? = some D[D.length - 1] := by rw [List.getLast?_eq_getElem?, List.getElem?_eq_getElem (by omega)]
    have HA : Hid (decide (D.getLast? = some d) = (D[D.length - 1] == d)) := by
      show _ = _
      rw [hD, Bool.eq_iff_iff]
      simp
    have g1 : (0 : Int) < D.length := by omega
    clear h3 h5 hD hr
    generalize D[D.length - 1] = y at *
    go_enter Tryd.func33, Tryd.ntmps33
    go_wp2
    go_quiet (fail)
    go_wp2
    exact bodyPost_ret (v := .bool (y == d)) (by simp [results, Tryd.results33, go_sem]) rfl ⟨by rw [HA.out], below_drew ((Below.refl _ _).alloc (Nat.le_refl _) _) nq⟩
end Go.Proofs.YtkmjlpmjhffgbaaDoor
