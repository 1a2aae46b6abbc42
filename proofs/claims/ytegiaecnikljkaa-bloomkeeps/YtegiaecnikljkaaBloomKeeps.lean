/-
  What is proved: the law BloomKeeps of booklaw3 returns true for every list of refs and every number of bits, and each argument reads afterwards as it did.
  Conditions: none.
-/
import Derived.Test.YtegiaecnikljkaaRows
import Derived.Test.YtegiaecnikljkaaBlL
import Derived.ProofKit
import Derived.OpenShut
import Derived.ChangeOld
import Derived.Deep.SlicePairs
namespace Go.Proofs.Ytegiaecnikljkaa
namespace bloomKeeps
open Go.ChangeShapes Go.WideShapes Go.ChangeAt Go.RowKit Go.Deep

theorem own : ownKnob Try.prog.godebug = none := by kernel_rfl
theorem laidOut : laidOutB Try.prog = true := by kernel_rfl
theorem cellsR : Try.prog.cellsOf 29 = 2 := by kernel_rfl
theorem cells3 : Try.prog.cellsOf 3 = 1 := by kernel_rfl
theorem bytesR : Try.prog.bytesOf 29 = 16 := by kernel_rfl

theorem at_cell {w : World} {a : Addr} {v : Value} (h : w.cell? a = some v) : a.spot = none ∧ a.block < w.heap.size := by
  obtain ⟨b, o, s⟩ := a
  unfold World.cell? at h
  simp only at h ⊢
  rcases Nat.lt_or_ge b w.heap.size with hb | hb
  · refine ⟨?_, hb⟩
    cases s with
    | none => rfl
    | some x =>
      split at h
      · simp at h
      · cases h
  · rw [Array.getElem?_eq_none hb] at h
    simp at h

theorem i64_of {n : Int} (h : (Lit.int .i64 n).wf = true) : I64 n := by
  simp [Lit.wf, IntKind.min, IntKind.max, IntKind.bits, IntKind.signed] at h
  unfold I64
  omega

/-- A list of refs, opened: it lies in memory, and how long it is. -/
theorem open_refs {H : Type} {enc : TypeId × Value → H} {W : World} {b0 base : Nat} {sp : Nat → Bool} {held : Bool} {v : Value} {d : DataW H} {p : List MemPlace}
    (hv : Value.okWide Try.prog W .any b0 22 v) (h : DataW.Trod enc Try.prog W base sp held 22 v d p) (hz : ∀ es ss, d = .slice es ss → (es.length + ss.length) * Try.prog.bytesOf 29 ≤ reachBytes) :
    ∃ l, IsRefs W v l := by
  obtain ⟨a0, len0, cap0, rfl⟩ := okWide_slice Try.underlying22 hv
  obtain ⟨fuel, hf⟩ := h
  rcases open_slice_pairs Try.underlying22 Try.underlying29 cellsR rfl rfl cells3 cells3 hf with ⟨hcs, _⟩ | ⟨a, len, cap, m, n, V0, V1, D0, D1, P0, P1, hcs, _, hl, _, hm, hx, hall⟩
  · simp [Value.cells] at hcs
    obtain ⟨rfl, rfl, rfl⟩ := hcs
    exact ⟨[], _, _, rfl, by simp, fun h => absurd rfl h⟩
  · simp [Value.cells] at hcs
    obtain ⟨rfl, rfl, rfl⟩ := hcs
    by_cases h0 : len0 = 0
    · subst h0
      exact ⟨[], _, _, rfl, by simp, fun h => absurd rfl h⟩
    · have hlm : len0 ≤ m := by rw [hm]; split <;> omega
      have hz' := hz _ _ (congrArg Prod.fst hx)
      rw [List.length_map, List.length_map, List.length_range, List.length_range, bytesR] at hz'
      obtain ⟨hs, hb⟩ := at_cell (hall 0 (by omega)).1
      obtain ⟨b, off, s⟩ := a
      have hs' : s = none := by simpa [Addr.add] using hs
      subst hs'
      have hb' : b < W.heap.size := by simpa [Addr.add] using hb
      have each : ∀ i, i < len0 → ∃ q : BRef, W.cell? ⟨b, off + i * 2, none⟩ = some (.int .i64 q.1) ∧ W.cell? ⟨b, off + i * 2 + 1, none⟩ = some (.int .i64 q.2) := by
        intro i hi
        obtain ⟨c0, c1, t0, t1⟩ := hall i (by omega)
        obtain ⟨x0, e0, _, _⟩ := DataW.trod_int Try.underlying3 t0
        obtain ⟨x1, e1, _, _⟩ := DataW.trod_int Try.underlying3 t1
        simp at e0 e1
        rw [e0] at c0
        rw [e1] at c1
        refine ⟨(x0, x1), ?_, ?_⟩
        · have ea : (⟨b, off, none⟩ : Addr).add (i * 2) = ⟨b, off + i * 2, none⟩ := by unfold Addr.add; split <;> simp_all
          rw [ea] at c0
          exact c0
        · have ea : (⟨b, off, none⟩ : Addr).add (i * 2 + 1) = ⟨b, off + i * 2 + 1, none⟩ := by unfold Addr.add; split <;> simp_all <;> omega
          rw [ea] at c1
          exact c1
      obtain ⟨q, hq⟩ := choose_lt each
      refine ⟨(List.range len0).map q, some ⟨b, off, none⟩, cap0, by simp, ?_, fun _ => ⟨b, off, rfl, hb', fun i hi => ?_⟩⟩
      · rw [List.length_map, List.length_range]
        unfold reachBytes at hz'
        omega
      · have hi' : i < len0 := by simpa using hi
        simpa using hq i hi'

set_option maxRecDepth 100000 in
theorem lifted (os : Os) (started : os.Started) (H : Type) (enc : TypeId × Value → H) :
    ReturnsInHanded {} Try.checked os 3 .any (Rows.bloomKeepsSpec.pre6 enc Try.prog Try.f3 Rows.bloomKeepsRow.domain false) (Rows.bloomKeepsSpec.post enc Try.prog Try.f3 false true false false) := by
  refine returnsInHanded_of_change_sized (C := Try.checked) own started (by kernel_rfl) Try.func3
    (ChangeSpec.witness6 (enc := enc) (C := Try.checked) false ⟨#[], #[.slice none 0 0, .int .i64 0], []⟩ 8 (by kernel_rfl) (by kernel_rfl) (by kernel_rfl) (by kernel_rfl)) ?_
  intro W base args ds gs before hval0 hW _ hsz0 _
  have hsz : (DataW.weightsEach Try.prog (Try.f3.params.toList ++ Rows.bloomKeepsSpec.plain.varTypes Try.prog) (ds ++ gs)).all (· ≤ reachBytes) = true := hsz0
  clear hsz0
  have hval : ∀ (j : Nat) t v, Try.f3.params[j]? = some t → args[j]? = some v → Value.okWide Try.prog W .any base t v := hval0
  have hW' := hW
  obtain ⟨p, q, hA0, hV, rfl, _, _⟩ := hW
  have hA : DataW.TrodAll enc Try.prog W 0 (fun _ => true) true Try.f3.params.toList args.toList ds p := hA0
  rw [Try.params3] at hA hval hsz
  obtain ⟨v0, vs0, d0, ds0, p0, q0, hargs, rfl, rfl, h0, r0⟩ := trodAll_cons hA
  obtain ⟨v1, vs1, d1, ds1, p1, q1, rfl, rfl, rfl, h1, r1⟩ := trodAll_cons r0
  obtain ⟨rfl, rfl, rfl⟩ := trodAll_nil r1
  obtain rfl : args = #[v0, v1] := by cases args; simp_all
  obtain ⟨rfl, rfl⟩ := trodVars_none hV
  obtain ⟨b, rfl, rfl, rfl, hb⟩ := open_int Try.underlying3 (hval 1 3 v1 rfl rfl) h1
  obtain ⟨l, hl⟩ := open_refs (hval 0 22 v0 rfl rfl) h0 (fun es ss e => sized_slice hsz (j := 0) (t := 22) rfl (by rw [← e]; rfl) Try.underlying22)
  have lt0 : ∀ x ∈ p0, x.block < W.heap.size := by obtain ⟨f, hf⟩ := h0; exact DataW.trod_lt f _ _ _ hf
  clear hA0 hval0 hsz
  simp only [List.append_nil] at hW'
  refine (law_any v0 l b (i64_of hb) W hl).mono fun e W' ⟨he, bel⟩ => ?_
  subst he
  exact ⟨_, rfl, _, _, _, [], _, [], hW', trodAll_cons_mk (shut_bool Try.underlying4 _) trodAll_mk0,
    trodAll_cons_mk (Below.trod laidOut (by kernel_rfl) (of_decide_eq_true (by kernel_rfl)) h0 bel lt0) (trodAll_cons_mk (shut_int Try.underlying3 hb) trodAll_mk0),
    rfl, bel.frame _, fun h => by cases h⟩
end bloomKeeps

theorem bloomKeeps_holds : Rows.BloomKeepsSaid :=
  OpenClaim.holds_of_wide 3 Try.f3 rfl rfl rfl rfl rfl rfl rfl ⟨rfl, rfl, rfl, rfl, rfl⟩ rfl rfl rfl rfl rfl (by kernel_rfl) Try.func3 (by kernel_rfl)
    (of_decide_eq_true (by kernel_rfl)) (by unfold Func.isWrapper; first | (rw [if_pos (by decide +kernel)]; kernel_rfl) | (rw [if_neg (by decide +kernel)]; exact ⟨rfl, rfl⟩))
    (fun os started H enc _ => bloomKeeps.lifted os started H enc)
end Go.Proofs.Ytegiaecnikljkaa
