/-
  What is proved: an argument that is a change, of small bulk, lies in memory.
  Conditions: as each theorem says.
-/
import Derived.Test.YtkmjlpmjhffgbabRows
import Derived.Test.YtkmjlpmjhffgbabCIs
import Derived.ProofKit
import Derived.OpenShut
import Derived.ChangeOld
import Derived.Deep.Slices
import Derived.Deep.SlicePairs
import Derived.Deep.Strs
namespace Go.Proofs.Ytkmjlpmjhffgbab
open Go.ChangeShapes Go.WideShapes Go.ChangeAt Go.RowKit Go.Deep

theorem laidOut : laidOutB Try.prog = true := by kernel_rfl
theorem ownNone : ownKnob Try.prog.godebug = none := by kernel_rfl
theorem cells3 : Try.prog.cellsOf 3 = 1 := by kernel_rfl
theorem cells4 : Try.prog.cellsOf 4 = 1 := by kernel_rfl
theorem cells5 : Try.prog.cellsOf 5 = 1 := by kernel_rfl
theorem cells9 : Try.prog.cellsOf 9 = 1 := by kernel_rfl
theorem cellsRef : Try.prog.cellsOf 45 = 2 := by kernel_rfl
theorem cellsId : Try.prog.cellsOf 28 = 2 := by kernel_rfl
theorem cellsVal : Try.prog.cellsOf 30 = 5 := by kernel_rfl
theorem cellsOp : Try.prog.cellsOf 33 = 13 := by kernel_rfl
theorem cellsChg : Try.prog.cellsOf 25 = 5 := by kernel_rfl
theorem cellsIds : Try.prog.cellsOf 31 = 1 := by kernel_rfl
theorem cellsRefs : Try.prog.cellsOf 22 = 1 := by kernel_rfl
theorem cellsOps : Try.prog.cellsOf 23 = 1 := by kernel_rfl

theorem at_cell {w : World} {a : Addr} {v : Value} (h : w.cell? a = some v) : a.spot = none ∧ a.block < w.heap.size := by
  obtain ⟨b, o, s⟩ := a
  unfold World.cell? at h
  simp only at h ⊢
  rcases Nat.lt_or_ge b w.heap.size with hb | hb
  · refine ⟨?_, hb⟩
    cases s with
    | none => rfl
    | some x =>
      split at h
      · simp at h
      · cases h
  · rw [Array.getElem?_eq_none hb] at h
    simp at h

theorem add_at (b off i : Nat) : (⟨b, off, none⟩ : Addr).add i = ⟨b, off + i, none⟩ := by unfold Addr.add; split <;> simp_all

theorem i64_of {n : Int} (h : (Lit.int .i64 n).wf = true) : I64 n := by
  simp [Lit.wf, IntKind.min, IntKind.max, IntKind.bits, IntKind.signed] at h
  unfold I64
  omega

theorem bulk_pos {H : Type} (d : DataW H) : 1 ≤ Rows.uptoBulk d := by
  cases d with
  | lit x => cases x <;> simp [Rows.uptoBulk]
  | _ => simp [Rows.uptoBulk]
theorem bulk_len {H : Type} (l : List (DataW H)) : l.length ≤ Rows.uptoBulkAll l := by
  induction l with
  | nil => simp
  | cons d r ih =>
    have := bulk_pos d
    rw [Rows.uptoBulkAll, List.length_cons]
    omega
theorem bulk_mem {H : Type} {l : List (DataW H)} {d : DataW H} (h : d ∈ l) : Rows.uptoBulk d ≤ Rows.uptoBulkAll l := by
  induction l with
  | nil => simp at h
  | cons x r ih =>
    rw [Rows.uptoBulkAll]
    rcases List.mem_cons.1 h with rfl | h
    · omega
    · have := ih h; omega

set_option maxRecDepth 100000 in
/-- Pairs, opened. -/
theorem open_prs {H : Type} {enc : TypeId × Value → H} {W : World} {base : Nat} {sp : Nat → Bool} {held : Bool} {t e : TypeId} {f0 f1 : Field} {fuel : Nat} {cs : List Value} {x : DataW H × List MemPlace}
    (ht : Try.prog.underlying t = some (.slice e)) (he : Try.prog.underlying e = some (.struct #[f0, f1])) (ce : Try.prog.cellsOf e = 2) (o0 : f0.offset = 0) (o1 : f1.offset = 1) (t0 : f0.type = 3) (t1 : f1.type = 3)
    (hf : DataW.trod enc Try.prog W base sp held fuel t cs = some x) (hz : Rows.uptoBulk x.1 ≤ 1048576) : ∃ v l, cs = [v] ∧ IsPairs W v l := by
  rcases open_slice_pairs ht he ce o0 o1 (by rw [t0]; exact cells3) (by rw [t1]; exact cells3) hf with ⟨hcs, _⟩ | ⟨a, len, cap, m, n, V0, V1, D0, D1, P0, P1, hcs, _, hl, _, hm, hx, hall⟩
  · exact ⟨_, [], hcs, isPairs_nil _ _ _⟩
  · have hlm : len ≤ m := by rw [hm]; split <;> omega
    rw [hx] at hz
    simp only [Rows.uptoBulk] at hz
    have hz1 := bulk_len ((List.range len).map fun i => DataW.agg [D0 i, D1 i])
    rw [List.length_map, List.length_range] at hz1
    have each : ∀ i, i < len → ∃ q : Pr, (W.cell? (a.add (i * 2)) = some (.int .i64 q.1) ∧ W.cell? (a.add (i * 2 + 1)) = some (.int .i64 q.2)) ∧ I64 q.1 ∧ I64 q.2 := by
      intro i hi
      obtain ⟨c0, c1, g0, g1⟩ := hall i (by omega)
      rw [t0] at g0
      rw [t1] at g1
      obtain ⟨x0, e0, _, hw0⟩ := DataW.trod_int Try.underlying3 g0
      obtain ⟨x1, e1, _, hw1⟩ := DataW.trod_int Try.underlying3 g1
      simp at e0 e1
      rw [e0] at c0
      rw [e1] at c1
      exact ⟨(x0, x1), ⟨c0, c1⟩, i64_of hw0, i64_of hw1⟩
    obtain ⟨q, hq⟩ := choose_lt each
    refine ⟨_, (List.range len).map q, hcs, some a, cap, by simp, by simpa using hl, by simp only [List.length_map, List.length_range]; omega, ?_, fun hne => ?_⟩
    · intro y hy
      rw [List.mem_map] at hy
      obtain ⟨i, hi, rfl⟩ := hy
      exact (hq i (List.mem_range.1 hi)).2
    · have h0 : 0 < len := by
        rcases Nat.eq_zero_or_pos len with e | e
        · subst e; simp at hne
        · exact e
      obtain ⟨hs, hb⟩ := at_cell (hq 0 h0).1.1
      obtain ⟨b, off, s⟩ := a
      have hs' : s = none := by simpa [Addr.add] using hs
      subst hs'
      refine ⟨b, off, rfl, by simpa [Addr.add] using hb, fun i hi => ?_⟩
      have hi' : i < len := by simpa using hi
      have := (hq i hi').1
      rw [add_at, add_at, ← Nat.add_assoc] at this
      simpa using this
end Go.Proofs.Ytkmjlpmjhffgbab
