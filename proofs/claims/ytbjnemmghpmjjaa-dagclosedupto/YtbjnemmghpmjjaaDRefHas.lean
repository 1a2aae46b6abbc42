/-
  What is proved: what package bookref2's Ref and Has answer.
  Conditions: the list lies in memory.
-/
import Derived.Test.YtbjnemmghpmjjaaGPast
import Derived.Test.YtbjnemmghpmjjaaDTake
namespace Go.Proofs.Ytbjnemmghpmjjaa
open Go.RowKit Go.Maps

set_option maxRecDepth 100000 in
set_option maxHeartbeats 2000000 in
theorem rRef_any (a s t : Int) (d : Option Addr) (n c : Nat) (o : Option Addr) (m e : Nat) (w : World) :
    Calls Try.prog 8 #[.agg #[.int .i64 a, .int .i64 s, .int .i64 t, .slice d n c, .slice o m e]] w fun x w' => x = .returned (refV (a, s)) ∧ Below w.heap.size w w' := by
  go_enter Try.func8, Try.ntmps8
  go_wp2
  go_returns
  exact ⟨rfl, ((Below.refl _ _).alloc (Nat.le_refl _) _).alloc (by simp) _⟩

set_option maxRecDepth 100000 in
set_option maxHeartbeats 4000000 in
theorem rHas_any (v : Value) (l : List Pr) (r : Pr) (w : World) (hv : IsPairs w v l) :
    Calls Try.prog 9 #[v, refV r] w fun e w' => e = .returned (.bool (decide (r ∈ l))) ∧ Below w.heap.size w w' := by
  obtain ⟨a, cap, rfl, h1, h2, hr, h3⟩ := hv
  have H3 : Hid (l ≠ [] → ∃ b off, a = some ⟨b, off, none⟩ ∧ _) := h3
  have HZ : Hid (l.length ≤ 8796093022208) := h2
  have b0 := (Below.refl w.heap.size w).alloc (Nat.le_refl _) (.cells #[.int .i64 r.1, .int .i64 r.2] 34)
  have n0 := heap_alloc_new w (.cells #[.int .i64 r.1, .int .i64 r.2] 34)
  have HA : Hid (_ ∧ _) := ⟨b0, n0⟩
  clear h3 hr h1 h2 b0 n0
  have HE := eqR
  obtain ⟨rb, hrb⟩ : ∃ z : Bool, decide (r ∈ l) = z := ⟨_, rfl⟩
  rw [hrb]
  have HR : Hid (decide (r ∈ l) = rb) := hrb
  clear hrb
  go_enter Try.func9, Try.ntmps9
  go_wp2_with fail
  go_loopw [5] (fun i wr => ∃ k : Nat, k ≤ l.length ∧ i = .int .i64 k ∧ Hid ((∀ j (hj : j < l.length), j < k → l[j] ≠ r) ∧ Below w.heap.size w wr ∧ wr.heap[w.heap.size]? = some (.cells #[.int .i64 r.1, .int .i64 r.2] 34))) (fun i _ => l.length - (RowKit.intOf i).toNat)
  case atStart => exact ⟨0, Nat.zero_le _, rfl, fun j _ hj => absurd hj (Nat.not_lt_zero _), HA.out⟩
  case round =>
    obtain ⟨k, hk, rfl, hR⟩ := hrel
    by_cases hlt : k < l.length
    · obtain ⟨b, off, rfl, h4, h5⟩ := H3.out (fun e => by rw [e] at hlt; simp at hlt)
      have x0 : wr.cell? ⟨b, off + k * 2, none⟩ = some (.int .i64 l[k].1) := by rw [hR.out.2.1.cell (p := ⟨b, off + k * 2, none⟩) h4]; exact (h5 k hlt).1
      have x1 : wr.cell? ⟨b, off + k * 2 + 1, none⟩ = some (.int .i64 l[k].2) := by rw [hR.out.2.1.cell (p := ⟨b, off + k * 2 + 1, none⟩) h4]; exact (h5 k hlt).2
      have y0 : wr.cell? ⟨w.heap.size, 0, none⟩ = some (.int .i64 r.1) := Lib.cell_of_heap hR.out.2.2 0
      have y1 : wr.cell? ⟨w.heap.size, 1, none⟩ = some (.int .i64 r.2) := Lib.cell_of_heap hR.out.2.2 1
      have g1 : (k : Int) < l.length := by omega
      have g2 : (k : Int) < 8796093022208 := by have := HZ.out; omega
      have g3 : (0 : Int) ≤ k := by omega
      obtain ⟨p, hp⟩ : ∃ q : Pr, l[k] = q := ⟨_, rfl⟩
      have HP : Hid (∀ h : k < l.length, l[k] = p) := fun _ => hp
      rw [hp] at x0 x1
      have EQ := HE p r
      obtain ⟨sb, hsb⟩ : ∃ s : Bool, samePr p r = s := ⟨_, rfl⟩
      rw [hsb] at EQ
      have HS : Hid (samePr p r = sb) := hsb
      have HK : Hid (k < l.length) := hlt
      clear h5 hk hlt hp hsb HE
      cases sb with
      | true =>
        have HZ2 : Hid (rb = true) := by
          show _ = _
          rw [← HR.out]
          have h1 := (samePr_iff p r).1 HS.out
          have h2 := HP.out HK.out
          rw [decide_eq_true_iff, ← h1, ← h2]
          exact List.getElem_mem _
        go_wp2
        go_quiet (fail)
        go_wp2
        go_ret
        exact ⟨by rw [HZ2.out]; rfl, below_drew hR.out.2.1 nq⟩
      | false =>
        go_wp2
        go_quiet (fail)
        go_wp2
        go_roundw
        case rel =>
          refine ⟨k + 1, HK.out, by go_num, fun j hj hjk => ?_, below_drew hR.out.2.1 nq, hR.out.2.2⟩
          rcases Nat.lt_or_ge j k with e | e
          · exact hR.out.1 j hj e
          · obtain rfl : j = k := by omega
            rw [HP.out HK.out]
            exact samePr_no HS.out
        case measure => simp [RowKit.intOf]; have := HK.out; omega
    · have hke : k = l.length := by omega
      have HZ2 : Hid (rb = false) := by
        show _ = _
        rw [← HR.out, decide_eq_false_iff_not]
        intro e
        obtain ⟨j, hj, ej⟩ := List.getElem_of_mem e
        exact hR.out.1 j hj (by omega) ej
      clear hlt hk
      subst hke
      go_wp2
      go_ret
      exact ⟨by rw [HZ2.out]; rfl, hR.out.2.1⟩
end Go.Proofs.Ytbjnemmghpmjjaa
