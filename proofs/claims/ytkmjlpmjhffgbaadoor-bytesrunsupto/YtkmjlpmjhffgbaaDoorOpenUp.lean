/-
  What is proved: an argument that is a list of numbers or of pieces, of small bulk, lies in memory, and is no longer than its bulk.
  Conditions: as each theorem says.
-/
import Derived.Test.YtkmjlpmjhffgbaaDoorOpens
import Derived.Test.YtkmjlpmjhffgbaaDoorPieces
import Derived.Deep.SlicePairs
namespace Go.Proofs.YtkmjlpmjhffgbaaDoor
open Go.ChangeShapes Go.WideShapes Go.ChangeAt Go.RowKit Go.Deep

theorem bulk_pos {H : Type} (d : DataW H) : 1 ≤ Rows.uptoBulk d := by
  cases d with
  | lit x => cases x <;> simp [Rows.uptoBulk]
  | _ => simp [Rows.uptoBulk]

theorem bulk_len {H : Type} (l : List (DataW H)) : l.length ≤ Rows.uptoBulkAll l := by
  induction l with
  | nil => simp
  | cons d r ih =>
    have := bulk_pos d
    rw [Rows.uptoBulkAll, List.length_cons]
    omega

theorem bulk_slice {H : Type} {d : DataW H} {es ss : List (DataW H)} (h : d = .slice es ss) : es.length + ss.length ≤ Rows.uptoBulk d := by
  subst h
  have h1 := bulk_len es
  have h2 := bulk_len ss
  rw [Rows.uptoBulk]
  omega

set_option maxRecDepth 100000 in
/-- A list of numbers, opened. -/
theorem open_intsU {H : Type} {enc : TypeId × Value → H} {W : World} {b0 base : Nat} {sp : Nat → Bool} {held : Bool} {v : Value} {d : DataW H} {p : List MemPlace}
    (hv : Value.okWide Tryd.prog W .any b0 38 v) (h : DataW.Trod enc Tryd.prog W base sp held 38 v d p) (hz : Rows.uptoBulk d ≤ 1048576) :
    ∃ l, IsInts W v l ∧ l.length ≤ 1048576 := by
  obtain ⟨a0, len0, cap0, rfl⟩ := okWide_slice Tryd.underlying38 hv
  obtain ⟨fuel, hf⟩ := h
  rcases open_slice1 Tryd.underlying38 (cellsN 3 (Or.inl rfl)) hf with ⟨hcs, _⟩ | ⟨a, len, cap, m, n, V, D, P, hcs, _, hl, _, hm, hx, hall⟩
  · simp [Value.cells] at hcs
    obtain ⟨rfl, rfl, rfl⟩ := hcs
    exact ⟨[], ⟨none, 0, rfl, by simp, by simp, by simp, fun h => absurd rfl h⟩, by simp⟩
  · simp [Value.cells] at hcs
    obtain ⟨rfl, rfl, rfl⟩ := hcs
    have hlm : len0 ≤ m := by rw [hm]; split <;> omega
    have hz' := bulk_slice (d := d) (congrArg Prod.fst hx)
    rw [List.length_map, List.length_map, List.length_range, List.length_range] at hz'
    have each : ∀ i, i < len0 → ∃ q : Int, W.cell? (a.add i) = some (.int .i64 q) ∧ I64 q := by
      intro i hi
      obtain ⟨c0, t0⟩ := hall i (by omega)
      obtain ⟨x0, e0, _, hw⟩ := DataW.trod_int Tryd.underlying3 t0
      simp at e0
      rw [e0] at c0
      exact ⟨x0, c0, i64_of hw⟩
    obtain ⟨q, hq⟩ := choose_lt each
    refine ⟨(List.range len0).map q, ⟨some a, cap0, by simp, by simpa using hl, by simp only [List.length_map, List.length_range]; omega, ?_, fun hne => ?_⟩, by simp only [List.length_map, List.length_range]; omega⟩
    · intro x hx
      rw [List.mem_map] at hx
      obtain ⟨i, hi, rfl⟩ := hx
      exact (hq i (List.mem_range.1 hi)).2
    · have h0 : 0 < len0 := by
        rcases Nat.eq_zero_or_pos len0 with e | e
        · subst e; simp at hne
        · exact e
      obtain ⟨hs, hb⟩ := at_cell (hq 0 h0).1
      obtain ⟨b, off, s⟩ := a
      have hs' : s = none := by simpa [Addr.add] using hs
      subst hs'
      refine ⟨b, off, rfl, by simpa [Addr.add] using hb, fun i hi => ?_⟩
      have hi' : i < len0 := by simpa using hi
      have := (hq i hi').1
      rw [add_at] at this
      simpa using this

theorem cellsP : Tryd.prog.cellsOf 42 = 2 := by kernel_rfl

set_option maxRecDepth 100000 in
/-- A list of pieces, opened. -/
theorem open_piecesU {H : Type} {enc : TypeId × Value → H} {W : World} {b0 base : Nat} {sp : Nat → Bool} {held : Bool} {v : Value} {d : DataW H} {p : List MemPlace}
    (hv : Value.okWide Tryd.prog W .any b0 39 v) (h : DataW.Trod enc Tryd.prog W base sp held 39 v d p) (hz : Rows.uptoBulk d ≤ 1048576) :
    ∃ l, IsPieces W v l := by
  obtain ⟨a0, len0, cap0, rfl⟩ := okWide_slice Tryd.underlying39 hv
  obtain ⟨fuel, hf⟩ := h
  rcases open_slice_pairs Tryd.underlying39 Tryd.underlying42 cellsP rfl rfl (cellsN 3 (Or.inl rfl)) (cellsN 3 (Or.inl rfl)) hf with ⟨hcs, _⟩ | ⟨a, len, cap, m, n, V0, V1, D0, D1, P0, P1, hcs, _, hl, _, hm, hx, hall⟩
  · simp [Value.cells] at hcs
    obtain ⟨rfl, rfl, rfl⟩ := hcs
    exact ⟨[], none, 0, rfl, by simp, by simp, by simp, fun h => absurd rfl h⟩
  · simp [Value.cells] at hcs
    obtain ⟨rfl, rfl, rfl⟩ := hcs
    have hlm : len0 ≤ m := by rw [hm]; split <;> omega
    have hz' := bulk_slice (d := d) (congrArg Prod.fst hx)
    rw [List.length_map, List.length_map, List.length_range, List.length_range] at hz'
    have each : ∀ i, i < len0 → ∃ q : Pc, (W.cell? (a.add (i * 2)) = some (.int .i64 q.1) ∧ W.cell? (a.add (i * 2 + 1)) = some (.int .i64 q.2)) ∧ I64 q.1 ∧ I64 q.2 := by
      intro i hi
      obtain ⟨c0, c1, t0, t1⟩ := hall i (by omega)
      obtain ⟨x0, e0, _, hw0⟩ := DataW.trod_int Tryd.underlying3 t0
      obtain ⟨x1, e1, _, hw1⟩ := DataW.trod_int Tryd.underlying3 t1
      simp at e0 e1
      rw [e0] at c0
      rw [e1] at c1
      exact ⟨(x0, x1), ⟨c0, c1⟩, i64_of hw0, i64_of hw1⟩
    obtain ⟨q, hq⟩ := choose_lt each
    refine ⟨(List.range len0).map q, some a, cap0, by simp, by simpa using hl, by simp only [List.length_map, List.length_range]; omega, ?_, fun hne => ?_⟩
    · intro x hx
      rw [List.mem_map] at hx
      obtain ⟨i, hi, rfl⟩ := hx
      exact (hq i (List.mem_range.1 hi)).2
    · have h0 : 0 < len0 := by
        rcases Nat.eq_zero_or_pos len0 with e | e
        · subst e; simp at hne
        · exact e
      obtain ⟨hs, hb⟩ := at_cell (hq 0 h0).1.1
      obtain ⟨b, off, s⟩ := a
      have hs' : s = none := by simpa [Addr.add] using hs
      subst hs'
      refine ⟨b, off, rfl, by simpa [Addr.add] using hb, fun i hi => ?_⟩
      have hi' : i < len0 := by simpa using hi
      have := (hq i hi').1
      rw [add_at, add_at, ← Nat.add_assoc] at this
      simpa using this
end Go.Proofs.YtkmjlpmjhffgbaaDoor
