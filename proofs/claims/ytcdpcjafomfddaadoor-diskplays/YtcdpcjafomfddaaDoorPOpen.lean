/-
  What is proved: an argument that is a list of lists of numbers lies in memory.
  Conditions: as each theorem says.
-/
import Derived.Test.YtcdpcjafomfddaaDoorKOpenB
import Derived.LaidHandle
import Derived.Stop.LaidErr
import Derived.Stop.Joined
import Derived.Deep.Matrix
import Derived.SizedLaws
namespace Go.Proofs.YtcdpcjafomfddaaDoor
open Go.ChangeShapes Go.WideShapes Go.ChangeAt Go.RowKit Go.Deep

/-- A slice value that holds numbers. -/
def IsInts (w : World) (v : Value) (l : List Int) : Prop :=
  ∃ a cap, v = .slice a l.length cap ∧ l.length ≤ cap ∧ l.length ≤ 17592186044416 ∧ (∀ x ∈ l, I64 x) ∧ (l ≠ [] → ∃ b off, a = some ⟨b, off, none⟩ ∧ b < w.heap.size ∧ ∀ i (h : i < l.length), w.cell? ⟨b, off + i, none⟩ = some (.int .i64 l[i]))

theorem IsInts.below {w w' : World} {v : Value} {l : List Int} (h : IsInts w v l) (hb : Below w.heap.size w w') : IsInts w' v l := by
  obtain ⟨a, cap, rfl, h1, h2, hr, h3⟩ := h
  refine ⟨a, cap, rfl, h1, h2, hr, fun hl => ?_⟩
  obtain ⟨b, off, rfl, h4, h5⟩ := h3 hl
  exact ⟨b, off, rfl, Nat.lt_of_lt_of_le h4 hb.size, fun i hi => by rw [hb.cell (p := ⟨b, off + i, none⟩) h4]; exact h5 i hi⟩

theorem cells3 : Tryd.prog.cellsOf 3 = 1 := by kernel_rfl
theorem bytes3 : Tryd.prog.bytesOf 3 = 8 := by kernel_rfl

/-- A slice value that holds lists of numbers. -/
def IsRows (w : World) (v : Value) (ls : List (List Int)) : Prop :=
  ∃ a cap, v = .slice a ls.length cap ∧ ls.length ≤ cap ∧ ls.length ≤ 17592186044416 ∧ (ls ≠ [] → ∃ b off, a = some ⟨b, off, none⟩ ∧ b < w.heap.size ∧ ∀ i (h : i < ls.length), ∃ u, w.cell? ⟨b, off + i, none⟩ = some u ∧ IsInts w u ls[i])

theorem weightsAll_has {H : Type} {P : Program} {e : TypeId} {l : List (DataW H)} {d : DataW H} (h : d ∈ l) : ∀ x ∈ d.weights P e, x ∈ DataW.weightsAll P e l := by
  induction l with
  | nil => cases h
  | cons y r ih =>
    intro x hx
    simp only [DataW.weightsAll, List.mem_append]
    rcases List.mem_cons.1 h with rfl | h
    · exact Or.inl hx
    · exact Or.inr (ih h x hx)

theorem sized_inner {H : Type} {P : Program} {ts : List TypeId} {ds : List (DataW H)} (h : (DataW.weightsEach P ts ds).all (· ≤ reachBytes) = true) {j : Nat} {t e q : TypeId} {elems spare e' sp' : List (DataW H)}
    (ht : ts[j]? = some t) (hd : ds[j]? = some (.slice elems spare)) (hu : P.underlying t = some (.slice e)) (hu2 : P.underlying e = some (.slice q)) (hx : DataW.slice e' sp' ∈ elems) : (e'.length + sp'.length) * P.bytesOf q ≤ reachBytes := by
  refine of_decide_eq_true (List.all_eq_true.1 h _ (DataW.weights_mem_each ht hd _ ?_))
  simp only [DataW.weights, hu, List.mem_cons, List.mem_append]
  exact Or.inr (Or.inl (weightsAll_has hx _ (by simp [DataW.weights, hu2])))

theorem cellsS : Tryd.prog.cellsOf 32 = 1 := by kernel_rfl
theorem bytesS : Tryd.prog.bytesOf 32 = 24 := by kernel_rfl

set_option maxRecDepth 100000 in
/-- Lists of numbers, opened. -/
theorem open_rowsL {H : Type} {enc : TypeId × Value → H} {W : World} {b0 base : Nat} {held : Bool} {v : Value} {d : DataW H} {p : List MemPlace}
    (hv : Value.okWide Tryd.prog W .any b0 22 v) (h : DataW.Trod enc Tryd.prog W base (fun _ => true) held 22 v d p) (hz : ∀ es ss, d = .slice es ss → (es.length + ss.length) * Tryd.prog.bytesOf 32 ≤ reachBytes)
    (hin : ∀ es ss e' s', d = .slice es ss → DataW.slice e' s' ∈ es → (e'.length + s'.length) * Tryd.prog.bytesOf 3 ≤ reachBytes) : ∃ ls, IsRows W v ls := by
  obtain ⟨a0, len0, cap0, rfl⟩ := okWide_slice Tryd.underlying22 hv
  obtain ⟨fuel, hf⟩ := h
  rcases open_int_rows Tryd.underlying22 Tryd.underlying32 Tryd.underlying3 cellsS cells3 hf with ⟨hcs, _⟩ | ⟨a, len, cap, A, L, C, Z, hcs, _, hl, _, hx, hall⟩
  · simp [Value.cells] at hcs
    obtain ⟨rfl, rfl, rfl⟩ := hcs
    exact ⟨[], none, 0, rfl, by simp, by simp, fun h => absurd rfl h⟩
  · simp [Value.cells] at hcs
    obtain ⟨rfl, rfl, rfl⟩ := hcs
    have hd := congrArg Prod.fst hx
    simp only at hd
    have hz' := hz _ _ hd
    rw [List.length_map, List.length_map, List.length_range, List.length_range, bytesS] at hz'
    unfold reachBytes at hz'
    refine ⟨(List.range len0).map fun r => (Z r).take (L r), some a, cap0, by simp, by simpa using hl, by simp; omega, fun hne => ?_⟩
    have h0 : 0 < len0 := by
      rcases Nat.eq_zero_or_pos len0 with e | e
      · subst e; simp at hne
      · exact e
    obtain ⟨hs, hb⟩ := at_cell (hall 0 (by omega)).1
    obtain ⟨b, off, s⟩ := a
    have hs' : s = none := by simpa [Addr.add] using hs
    subst hs'
    refine ⟨b, off, rfl, by simpa [Addr.add] using hb, fun i hi => ?_⟩
    have hi' : i < len0 := by simpa using hi
    obtain ⟨c1, c2, c3, c4, c5, c6, c7⟩ := hall i (by omega)
    rw [add_at] at c1
    refine ⟨_, c1, ?_⟩
    rw [List.getElem_map, List.getElem_range]
    have hlen : ((Z i).take (L i)).length = L i := by rw [List.length_take]; omega
    refine ⟨A i, C i, by rw [hlen], by rw [hlen]; exact c2, ?_, fun x hx => i64_of (c5 x (List.mem_of_mem_take hx)), fun hne2 => ?_⟩
    · rw [hlen]
      cases hA : A i with
      | none => have := c6 hA; omega
      | some a' =>
        have := hin _ _ (lits .i64 ((Z i).take (L i))) (lits .i64 ((Z i).drop (L i))) hd (List.mem_map.2 ⟨i, List.mem_range.2 hi', by simp [intRow, hA]⟩)
        rw [bytes3] at this
        simp only [lits, List.length_map] at this
        unfold reachBytes at this
        rw [hlen] at this
        omega
    · have hL0 : 0 < L i := by
        rcases Nat.eq_zero_or_pos (L i) with e | e
        · rw [e] at hne2; simp at hne2
        · exact e
      cases hA : A i with
      | none => have := c6 hA; omega
      | some a' =>
        obtain ⟨_, c8⟩ := c7 a' hA
        obtain ⟨hs2, hb2⟩ := at_cell (c8 0 (by omega))
        obtain ⟨b2, off2, s2⟩ := a'
        have hs2' : s2 = none := by simpa [Addr.add] using hs2
        subst hs2'
        refine ⟨b2, off2, rfl, by simpa [Addr.add] using hb2, fun k hk => ?_⟩
        have hk' : k < L i := by rw [hlen] at hk; exact hk
        have h9 := c8 k (by omega)
        rw [add_at] at h9
        rw [h9, List.getElem_take]
        simp [show k < (Z i).length by omega]

end Go.Proofs.YtcdpcjafomfddaaDoor
