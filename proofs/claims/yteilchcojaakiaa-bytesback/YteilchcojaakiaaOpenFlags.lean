/-
  What is proved: an argument that is a list of flags lies in memory.
  Conditions: as the theorem says.
-/
import Derived.Test.YteilchcojaakiaaOpens
import Derived.Test.YteilchcojaakiaaFlags
namespace Go.Proofs.Yteilchcojaakiaa
open Go.ChangeShapes Go.WideShapes Go.ChangeAt Go.RowKit Go.Deep

theorem bytes4 : Try.prog.bytesOf 4 = 1 := by kernel_rfl

/-- A list of flags, opened. -/
theorem open_boolsL {H : Type} {enc : TypeId × Value → H} {W : World} {b0 base : Nat} {sp : Nat → Bool} {held : Bool} {v : Value} {d : DataW H} {p : List MemPlace}
    (hv : Value.okWide Try.prog W .any b0 24 v) (h : DataW.Trod enc Try.prog W base sp held 24 v d p) (hz : ∀ es ss, d = .slice es ss → (es.length + ss.length) * Try.prog.bytesOf 4 ≤ reachBytes) :
    ∃ l, IsBools W v l := by
  obtain ⟨a0, len0, cap0, rfl⟩ := okWide_slice Try.underlying24 hv
  obtain ⟨fuel, hf⟩ := h
  rcases open_slice1 Try.underlying24 (cellsN 4 (Or.inr (Or.inl rfl))) hf with ⟨hcs, _⟩ | ⟨a, len, cap, m, n, V, D, P, hcs, _, hl, _, hm, hx, hall⟩
  · simp [Value.cells] at hcs
    obtain ⟨rfl, rfl, rfl⟩ := hcs
    exact ⟨[], none, 0, rfl, by simp, by simp, fun h => absurd rfl h⟩
  · simp [Value.cells] at hcs
    obtain ⟨rfl, rfl, rfl⟩ := hcs
    have hlm : len0 ≤ m := by rw [hm]; split <;> omega
    have hz' := hz _ _ (congrArg Prod.fst hx)
    rw [List.length_map, List.length_map, List.length_range, List.length_range, bytes4] at hz'
    unfold reachBytes at hz'
    have each : ∀ i, i < len0 → ∃ q : Bool, W.cell? (a.add i) = some (.bool q) := by
      intro i hi
      obtain ⟨c0, t0⟩ := hall i (by omega)
      obtain ⟨x0, e0, _⟩ := DataW.trod_bool Try.underlying4 t0
      simp at e0
      rw [e0] at c0
      exact ⟨x0, c0⟩
    obtain ⟨q, hq⟩ := choose_lt each
    refine ⟨(List.range len0).map q, some a, cap0, by simp, by simpa using hl, by simp; omega, fun hne => ?_⟩
    have h0 : 0 < len0 := by
      rcases Nat.eq_zero_or_pos len0 with e | e
      · subst e; simp at hne
      · exact e
    obtain ⟨hs, hb⟩ := at_cell (hq 0 h0)
    obtain ⟨b, off, s⟩ := a
    have hs' : s = none := by simpa [Addr.add] using hs
    subst hs'
    refine ⟨b, off, rfl, by simpa [Addr.add] using hb, fun i hi => ?_⟩
    have hi' : i < len0 := by simpa using hi
    have := hq i hi'
    rw [add_at] at this
    simpa using this
end Go.Proofs.Yteilchcojaakiaa
