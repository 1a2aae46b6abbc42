/-
  What is proved: the function Ints of package booksame tells of any two lists of numbers whether they are the same, and nothing that was there has turned.
  Conditions: the lists lie in memory.
-/
import Derived.Test.YtgbhhnfnfldbmaaDoorInts
namespace Go.Proofs.YtgbhhnfnfldbmaaDoor
open Go.RowKit

theorem take_sameI {l m : List Int} (k : Nat) (h1 : k < l.length) (h2 : k < m.length) (h : l.take k = m.take k) (e : l[k] = m[k]) : l.take (k + 1) = m.take (k + 1) := by
  rw [List.take_succ_eq_append_getElem h1, List.take_succ_eq_append_getElem h2, h, e]

set_option maxRecDepth 100000 in
set_option maxHeartbeats 1000000 in
theorem ints_any (v u : Value) (l m : List Int) (w : World) (hv : IsInts w v l) (hu : IsInts w u m) :
    Calls Tryd.prog 10 #[v, u] w fun e w' => e = .returned (.bool (decide (l = m))) ∧ Below w.heap.size w w' := by
  obtain ⟨a, cap, rfl, h1, h2, _, h3⟩ := hv
  obtain ⟨c, cap2, rfl, k1, k2, _, k3⟩ := hu
  by_cases hlen : l.length = m.length
  · rw [hlen] at h1 h2 ⊢
    go_enter Tryd.func10, Tryd.ntmps10
    go_wp2_with fail
    go_loopw [5] (fun i wr => ∃ k : Nat, k ≤ m.length ∧ i = .int .i64 k ∧ l.take k = m.take k ∧ Below w.heap.size w wr) (fun i _ => m.length - (RowKit.intOf i).toNat)
    case atStart => exact ⟨0, Nat.zero_le _, rfl, by simp, Below.refl _ _⟩
    case round =>
      obtain ⟨k, hk, rfl, hs, hbel⟩ := hrel
      by_cases hlt : k < m.length
      · obtain ⟨b, off, rfl, h4, h5⟩ := h3 (fun e => by rw [e] at hlen; simp at hlen; omega)
        obtain ⟨b2, off2, rfl, k4, k5⟩ := k3 (fun e => by rw [e] at hlt; simp at hlt)
        have x0 : wr.cell? ⟨b, off + k, none⟩ = some (.int .i64 (l[k]'(by omega))) := by rw [hbel.cell (p := ⟨b, off + k, none⟩) h4]; exact h5 k (by omega)
        have x1 : wr.cell? ⟨b2, off2 + k, none⟩ = some (.int .i64 m[k]) := by rw [hbel.cell (p := ⟨b2, off2 + k, none⟩) k4]; exact k5 k hlt
        have g1 : (k : Int) < m.length := by omega
        by_cases he : (l[k]'(by omega)) = m[k]
        · have HS : Hid (l.take (k + 1) = m.take (k + 1)) := take_sameI k (by omega) hlt hs he
          have hd : ((l[k]'(by omega)) == m[k]) = true := by rw [he]; simp
          clear hs he h3 k3 h5 k5
          generalize (l[k]'(by omega)) = x at *
          generalize m[k] = y at *
          go_wp2
          go_quiet (fail)
          go_wp2
          go_roundw
          case rel => exact ⟨k + 1, hlt, by go_num, HS.out, below_drew hbel nq⟩
          case measure => simp [RowKit.intOf]; omega
        · have HN : Hid (decide (l = m) = false) := by
            show _ = _
            rw [decide_eq_false_iff_not]
            intro e
            subst e
            exact he rfl
          have hd : ((l[k]'(by omega)) == m[k]) = false := by rw [beq_eq_false_iff_ne]; exact he
          clear hs he h3 k3 h5 k5
          generalize (l[k]'(by omega)) = x at *
          generalize m[k] = y at *
          go_wp2
          go_quiet (fail)
          go_wp2
          go_ret
          exact ⟨by rw [HN.out]; rfl, below_drew hbel nq⟩
      · have HN : Hid (decide (l = m) = true) := by
          show _ = _
          rw [decide_eq_true_eq]
          rw [List.take_of_length_le (by omega), List.take_of_length_le (by omega)] at hs
          exact hs
        have g1 : ¬ (k : Int) < m.length := by omega
        clear hs
        go_wp2
        go_ret
        exact ⟨by rw [HN.out]; rfl, hbel⟩
  · have he : decide (l = m) = false := by simpa using fun e => hlen (by rw [e])
    have hq : ((l.length : Int) == (m.length : Int)) = false := by rw [beq_eq_false_iff_ne]; omega
    rw [he]
    go_enter Tryd.func10, Tryd.ntmps10
    go_wp2
    go_ret
    exact ⟨rfl, Below.refl _ _⟩
end Go.Proofs.YtgbhhnfnfldbmaaDoor
