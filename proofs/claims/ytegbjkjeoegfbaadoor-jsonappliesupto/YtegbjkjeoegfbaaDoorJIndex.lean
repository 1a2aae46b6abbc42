/-
  What is proved: the function index of bookref3, called with a tree and a step, answers the kid to which it leads, or -1.
  Conditions: the tree's keys lie in memory.
-/
import Derived.Test.YtegbjkjeoegfbaaDoorJFind
namespace Go.Proofs.YtegbjkjeoegfbaaDoor
open Go.RowKit Go.Sort

/-- A kid's number, or -1. -/
def idxI : Option Nat → Int
  | some i => i
  | none => -1
theorem lookK_hit {k : ByteArray} {r : List ByteArray} {b : List UInt8} (h : k.toList = b) : lookK (k :: r) b = some 0 := by
  unfold lookK
  exact if_pos h
theorem lookK_drop {ks : List ByteArray} {b : List UInt8} (j : Nat) (h : ∀ t (ht : t < ks.length), t < j → ks[t].toList ≠ b) (hj : j ≤ ks.length) : lookK ks b = (lookK (ks.drop j) b).map (· + j) := by
  induction j with
  | zero => simp
  | succ j ih =>
    have e1 := ih (fun t ht hlt => h t ht (by omega)) (by omega)
    rw [e1, List.drop_eq_getElem_cons (show j < ks.length by omega), lookK, if_neg (h j (by omega) (by omega))]
    cases lookK (ks.drop (j + 1)) b with
    | none => rfl
    | some q => simp; omega

set_option maxRecDepth 100000 in
set_option maxHeartbeats 8000000 in
theorem index_any (x : V) (ks : List ByteArray) (a1 a2 : Option Addr) (c1 n2 c2 : Nat) (s : Stp) (w : World) (hk : IsStrs w (.slice a1 ks.length c1) ks) :
    Calls Tryd.prog 18 #[tval (x, .slice a1 ks.length c1, .slice a2 n2 c2), stpV s] w fun e w' => e = .returned (.int .i64 (idxI (kidOf x ks n2 s))) ∧ Below w.heap.size w w' := by
  have HV : Hid (kidOf x ks n2 s = if keyStep x s = true then lookK ks s.1.toList else if atStep x n2 s = true ∧ s.2 < n2 then some s.2.toNat else none) := rfl
  have HKS : Hid (keyStep x s = (decide (x.k = 5) && (!s.1.toList.isEmpty && decide (s.2 = 0)))) := rfl
  have HAS : Hid (atStep x n2 s = (decide (x.k = 6) && (s.1.toList.isEmpty && (decide (0 ≤ s.2) && decide (s.2 ≤ n2))))) := rfl
  generalize kidOf x ks n2 s = r at *
  generalize keyStep x s = ky at *
  generalize atStep x n2 s = ay at *
  obtain ⟨k, n, t, o, c⟩ := x
  obtain ⟨b, i⟩ := s
  obtain ⟨t1, t2, t3⟩ := two_boxes w (.cells #[.int .i64 k, .int .i64 n, .string t, .int .i64 o, .int .i64 c, .slice a1 ks.length c1, .slice a2 n2 c2] 29) (.cells #[.string b, .int .i64 i] 45)
  have HB : Hid (Below w.heap.size w _) := t3
  have HX : Hid (((w.alloc (.cells #[.int .i64 k, .int .i64 n, .string t, .int .i64 o, .int .i64 c, .slice a1 ks.length c1, .slice a2 n2 c2] 29)).alloc (.cells #[.string b, .int .i64 i] 45)).heap[w.heap.size]? = some _) := t1
  have HY : Hid (((w.alloc (.cells #[.int .i64 k, .int .i64 n, .string t, .int .i64 o, .int .i64 c, .slice a1 ks.length c1, .slice a2 n2 c2] 29)).alloc (.cells #[.string b, .int .i64 i] 45)).heap[w.heap.size + 1]? = some _) := t2
  have HS : Hid (IsStrs w (.slice a1 ks.length c1) ks) := hk
  have hkz : ks.length ≤ 8796093022208 := by obtain ⟨_, _, _, _, h, _⟩ := hk; exact h
  clear t1 t2 t3 hk
  unfold tval stpV at *
  dsimp only at *
  generalize hbe : b.toList.isEmpty = be at *
  by_cases h5 : k = 5
  · subst h5
    have HAF : Hid (ay = false) := by
      show ay = false
      rw [HAS.out]; simp
    cases be with
    | true =>
      have HR : Hid (r = none) := by
        show r = none
        rw [HV.out, HKS.out, HAF.out]; simp
      clear HAS HV HKS
      go_enter Tryd.func18, Tryd.ntmps18
      go_wp2
      go_ret
      exact ⟨by rw [HR.out]; rfl, HB.out⟩
    | false =>
      by_cases hi : i = 0
      · subst hi
        have HR : Hid (r = lookK ks b.toList) := by
          show r = _
          rw [HV.out, HKS.out]; simp
        clear HAS HV HKS
        go_enter Tryd.func18, Tryd.ntmps18
        go_wp2_with fail
        go_loopw [5] (fun i wr => ∃ j : Nat, j ≤ ks.length ∧ i = .int .i64 j ∧ Hid (∀ t (ht : t < ks.length), t < j → ks[t].toList ≠ b.toList) ∧ Hid (wr.heap[w.heap.size]? = some (.cells #[.int .i64 5, .int .i64 n, .string t, .int .i64 o, .int .i64 c, .slice a1 ks.length c1, .slice a2 n2 c2] 29)) ∧ Hid (wr.heap[w.heap.size + 1]? = some (.cells #[.string b, .int .i64 0] 45)) ∧ Hid (Below w.heap.size w wr)) (fun i _ => ks.length - (RowKit.intOf i).toNat)
        case atStart => exact ⟨0, Nat.zero_le _, rfl, fun t _ h => absurd h (Nat.not_lt_zero _), HX, HY, HB⟩
        case round =>
          clear HX HY HB
          obtain ⟨j, hj, rfl, HU, HX, HY, HB⟩ := hrel
          have d5 : wr.cell? ⟨w.heap.size, 5, none⟩ = some (.slice a1 ks.length c1) := Lib.cell_of_heap HX.out 5
          by_cases hlt : j < ks.length
          · obtain ⟨bb, off, rfl, hb4, hmem⟩ := HS.out.cells HB.out (show ks ≠ [] from fun e => by rw [e] at hlt; simp at hlt)
            have x0 := hmem j hlt
            have y0 : wr.cell? ⟨w.heap.size + 1, 0, none⟩ = some (.string b) := Lib.cell_of_heap HY.out 0
            have g1 : (j : Int) < ks.length := by omega
            have HJ : Hid (j < ks.length) := hlt
            by_cases hq : ks[j].toList = b.toList
            · have e1 : (ks[j].toList == b.toList) = true := by simpa using hq
              have HF : Hid (lookK ks b.toList = some j) := by
                show lookK ks b.toList = some j
                rw [lookK_drop j HU.out hj, List.drop_eq_getElem_cons hlt]
                exact (congrArg (Option.map (· + j)) (lookK_hit hq)).trans (by simp)
              clear hmem hq hj
              generalize ks[j] = sj at *
              clear hlt
              go_wp2
              go_quiet (fail)
              go_wp2
              go_ret
              exact ⟨by rw [HR.out, HF.out]; rfl, below_drew HB.out nq⟩
            · have e1 : (ks[j].toList == b.toList) = false := by simpa using hq
              have HU2 : Hid (∀ t (ht : t < ks.length), t < j + 1 → ks[t].toList ≠ b.toList) := by
                intro t ht htj
                rcases Nat.lt_or_ge t j with e | e
                · exact HU.out t ht e
                · obtain rfl : t = j := by omega
                  exact hq
              clear hmem hq hj
              generalize ks[j] = sj at *
              clear hlt
              go_wp2
              go_quiet (fail)
              go_wp2
              go_roundw
              case rel => exact ⟨j + 1, HJ.out, by go_num, HU2, HX.out, HY.out, below_drew HB.out nq⟩
              case measure => simp [RowKit.intOf]; have := HJ.out; omega
          · have g1 : ¬ (j : Int) < ks.length := by omega
            have HF : Hid (lookK ks b.toList = none) := by
              show lookK ks b.toList = none
              rw [lookK_drop j HU.out hj, List.drop_eq_nil_of_le (by omega), lookK]; rfl
            have d0 : wr.cell? ⟨w.heap.size, 0, none⟩ = some (.int .i64 5) := Lib.cell_of_heap HX.out 0
            clear hlt hj
            go_wp2
            go_ret
            exact ⟨by rw [HR.out, HF.out]; rfl, HB.out⟩
      · have HR : Hid (r = none) := by
          show r = none
          rw [HV.out, HKS.out, HAF.out]; simp [hi]
        have hi' : (i == 0) = false := by simpa using hi
        clear hi HAS HV HKS
        go_enter Tryd.func18, Tryd.ntmps18
        go_wp2
        go_ret
        exact ⟨by rw [HR.out]; rfl, HB.out⟩
  · have h5' : (k == 5) = false := by simpa using h5
    have HKF : Hid (ky = false) := by
      show ky = false
      rw [HKS.out]; simp [h5]
    by_cases h6 : k = 6
    · subst h6
      cases be with
      | false =>
        have HR : Hid (r = none) := by
          show r = none
          rw [HV.out, HKF.out, HAS.out]; simp
        clear HAS HV HKS h5
        go_enter Tryd.func18, Tryd.ntmps18
        go_wp2
        go_ret
        exact ⟨by rw [HR.out]; rfl, HB.out⟩
      | true =>
        by_cases h0 : 0 ≤ i
        · by_cases hlt : i < n2
          · have HR : Hid (r = some i.toNat ∧ 0 ≤ i) := by
              refine ⟨?_, h0⟩
              rw [HV.out, HKF.out, HAS.out]
              simp [h0, hlt, Int.le_of_lt hlt]
            clear HAS HV HKS h5
            go_enter Tryd.func18, Tryd.ntmps18
            go_wp2
            go_ret
            refine ⟨?_, HB.out⟩
            rw [HR.out.1]
            have h2 : idxI (some i.toNat) = i := by have := HR.out.2; simp only [idxI]; omega
            rw [h2]
            rfl
          · have HR : Hid (r = none) := by
              show r = none
              rw [HV.out, HKF.out, if_neg (by decide), if_neg (fun h => hlt h.2)]
            clear HAS HV HKS h5
            go_enter Tryd.func18, Tryd.ntmps18
            go_wp2
            go_ret
            exact ⟨by rw [HR.out]; rfl, HB.out⟩
        · have HR : Hid (r = none) := by
            show r = none
            rw [HV.out, HKF.out, HAS.out, decide_eq_false h0]; simp
          clear HAS HV HKS h5
          go_enter Tryd.func18, Tryd.ntmps18
          go_wp2
          go_ret
          exact ⟨by rw [HR.out]; rfl, HB.out⟩
    · have h6' : (k == 6) = false := by simpa using h6
      have HR : Hid (r = none) := by
        show r = none
        rw [HV.out, HKF.out, HAS.out]; simp [h6]
      clear HAS HV HKS h5 h6
      go_enter Tryd.func18, Tryd.ntmps18
      go_wp2
      go_ret
      exact ⟨by rw [HR.out]; rfl, HB.out⟩
end Go.Proofs.YtegbjkjeoegfbaaDoor
