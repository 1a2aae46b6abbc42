/-
  What is proved: the law TreePlays of booklaw2 returns true for every list of lists of numbers, and the argument reads afterwards as it did: the tied card of its row.
  Conditions: the listed package variable lies as the program's text lays it, which the card ties to that text.
-/
import Derived.Test.YtebglecjajghjaaDoorCards
import Derived.Test.YtebglecjajghjaaDoorTie
import Derived.Test.YtebglecjajghjaaDoorTPlay
import Derived.LaidMore
import Derived.LaidHandle
import Derived.Stop.LaidErr
import Derived.Stop.Joined
import Derived.Deep.Matrix
import Derived.SizedLaws
namespace Go.Proofs.YtebglecjajghjaaDoor
open Go.ChangeShapes Go.WideShapes Go.ChangeAt Go.RowKit Go.Deep

theorem weightsAll_has {H : Type} {P : Program} {e : TypeId} {l : List (DataW H)} {d : DataW H} (h : d ∈ l) : ∀ x ∈ d.weights P e, x ∈ DataW.weightsAll P e l := by
  induction l with
  | nil => cases h
  | cons y r ih =>
    intro x hx
    simp only [DataW.weightsAll, List.mem_append]
    rcases List.mem_cons.1 h with rfl | h
    · exact Or.inl hx
    · exact Or.inr (ih h x hx)

theorem sized_inner {H : Type} {P : Program} {ts : List TypeId} {ds : List (DataW H)} (h : (DataW.weightsEach P ts ds).all (· ≤ reachBytes) = true) {j : Nat} {t e q : TypeId} {elems spare e' sp' : List (DataW H)}
    (ht : ts[j]? = some t) (hd : ds[j]? = some (.slice elems spare)) (hu : P.underlying t = some (.slice e)) (hu2 : P.underlying e = some (.slice q)) (hx : DataW.slice e' sp' ∈ elems) : (e'.length + sp'.length) * P.bytesOf q ≤ reachBytes := by
  refine of_decide_eq_true (List.all_eq_true.1 h _ (DataW.weights_mem_each ht hd _ ?_))
  simp only [DataW.weights, hu, List.mem_cons, List.mem_append]
  exact Or.inr (Or.inl (weightsAll_has hx _ (by simp [DataW.weights, hu2])))

theorem cellsS : Tryd.prog.cellsOf 25 = 1 := by kernel_rfl
theorem bytesS : Tryd.prog.bytesOf 25 = 24 := by kernel_rfl

set_option maxRecDepth 100000 in
/-- Lists of numbers, opened. -/
theorem open_rowsL {H : Type} {enc : TypeId × Value → H} {W : World} {b0 base : Nat} {held : Bool} {v : Value} {d : DataW H} {p : List MemPlace}
    (hv : Value.okWide Tryd.prog W .any b0 22 v) (h : DataW.Trod enc Tryd.prog W base (fun _ => true) held 22 v d p) (hz : ∀ es ss, d = .slice es ss → (es.length + ss.length) * Tryd.prog.bytesOf 25 ≤ reachBytes)
    (hin : ∀ es ss e' s', d = .slice es ss → DataW.slice e' s' ∈ es → (e'.length + s'.length) * Tryd.prog.bytesOf 3 ≤ reachBytes) : ∃ ls, IsRows W v ls := by
  obtain ⟨a0, len0, cap0, rfl⟩ := okWide_slice Tryd.underlying22 hv
  obtain ⟨fuel, hf⟩ := h
  rcases open_int_rows Tryd.underlying22 Tryd.underlying25 Tryd.underlying3 cellsS (cellsN 3 (Or.inl rfl)) hf with ⟨hcs, _⟩ | ⟨a, len, cap, A, L, C, Z, hcs, _, hl, _, hx, hall⟩
  · simp [Value.cells] at hcs
    obtain ⟨rfl, rfl, rfl⟩ := hcs
    exact ⟨[], none, 0, rfl, by simp, by simp, fun h => absurd rfl h⟩
  · simp [Value.cells] at hcs
    obtain ⟨rfl, rfl, rfl⟩ := hcs
    have hd := congrArg Prod.fst hx
    simp only at hd
    have hz' := hz _ _ hd
    rw [List.length_map, List.length_map, List.length_range, List.length_range, bytesS] at hz'
    unfold reachBytes at hz'
    refine ⟨(List.range len0).map fun r => (Z r).take (L r), some a, cap0, by simp, by simpa using hl, by simp; omega, fun hne => ?_⟩
    have h0 : 0 < len0 := by
      rcases Nat.eq_zero_or_pos len0 with e | e
      · subst e; simp at hne
      · exact e
    obtain ⟨hs, hb⟩ := at_cell (hall 0 (by omega)).1
    obtain ⟨b, off, s⟩ := a
    have hs' : s = none := by simpa [Addr.add] using hs
    subst hs'
    refine ⟨b, off, rfl, by simpa [Addr.add] using hb, fun i hi => ?_⟩
    have hi' : i < len0 := by simpa using hi
    obtain ⟨c1, c2, c3, c4, c5, c6, c7⟩ := hall i (by omega)
    rw [add_at] at c1
    refine ⟨_, c1, ?_⟩
    rw [List.getElem_map, List.getElem_range]
    have hlen : ((Z i).take (L i)).length = L i := by rw [List.length_take]; omega
    refine ⟨A i, C i, by rw [hlen], by rw [hlen]; exact c2, ?_, fun x hx => i64_of (c5 x (List.mem_of_mem_take hx)), fun hne2 => ?_⟩
    · rw [hlen]
      cases hA : A i with
      | none => have := c6 hA; omega
      | some a' =>
        have := hin _ _ (lits .i64 ((Z i).take (L i))) (lits .i64 ((Z i).drop (L i))) hd (List.mem_map.2 ⟨i, List.mem_range.2 hi', by simp [intRow, hA]⟩)
        rw [bytes3] at this
        simp only [lits, List.length_map] at this
        unfold reachBytes at this
        rw [hlen] at this
        omega
    · have hL0 : 0 < L i := by
        rcases Nat.eq_zero_or_pos (L i) with e | e
        · rw [e] at hne2; simp at hne2
        · exact e
      cases hA : A i with
      | none => have := c6 hA; omega
      | some a' =>
        obtain ⟨_, c8⟩ := c7 a' hA
        obtain ⟨hs2, hb2⟩ := at_cell (c8 0 (by omega))
        obtain ⟨b2, off2, s2⟩ := a'
        have hs2' : s2 = none := by simpa [Addr.add] using hs2
        subst hs2'
        refine ⟨b2, off2, rfl, by simpa [Addr.add] using hb2, fun k hk => ?_⟩
        have hk' : k < L i := by rw [hlen] at hk; exact hk
        have h9 := c8 k (by omega)
        rw [add_at] at h9
        rw [h9, List.getElem_take]
        simp [show k < (Z i).length by omega]

namespace treePlays
open Go.ChangeShapes Go.WideShapes Go.ChangeAt Go.RowKit Go.Deep

theorem et_g : Tryd.prog.globalNamed "errors.errorType" = some 0 := by kernel_rfl
theorem rt_t : (Tryd.prog.cutTypes.find? (·.1 == "internal/reflectlite.rtype")).map (·.2) = some 85 := by kernel_rfl
theorem types : Tryd.prog.types.size = 127 := by kernel_rfl
theorem oneRow : ((List.range 127).filter fun t => Tryd.prog.rowNamed t [101, 114, 114, 111, 114]) = [30] := by kernel_rfl

theorem et_of {W : World} (h : handlesMet Tryd.prog [("errors.errorType", Rows.laid_errors_errorType)] W) : Et W := by
  obtain ⟨name, u, ty, e1, e2, e3, e4, e5⟩ := h _ (List.mem_singleton.2 rfl)
  have en : name = [101, 114, 114, 111, 114] := (Option.some.inj e1).symm
  subst en
  obtain rfl := Option.some.inj (rt_t.symm.trans e2)
  have hm : ty ∈ (List.range 127).filter fun t => Tryd.prog.rowNamed t [101, 114, 114, 111, 114] := List.mem_filter.2 ⟨List.mem_range.2 (by rw [← types]; exact e3), e4⟩
  rw [oneRow] at hm
  obtain rfl := List.mem_singleton.1 hm
  have hh : typeHandle Tryd.prog 30 = .pointer (some ⟨1, 30, none⟩) := by kernel_rfl
  rw [hh] at e5
  unfold Et
  simpa using World.var?_cell et_g e5 0

theorem all_of {W : World} (h : laidMetH Tryd.prog Rows.treePlaysRow.laid W) : Et W := by
  have h' : laidMet Tryd.prog [] W ∧ handlesMet Tryd.prog [("errors.errorType", Rows.laid_errors_errorType)] W := h
  exact et_of h'.2

theorem door_met (os : Os) (args : Array Value) : laidMetH Tryd.prog Rows.treePlaysRow.laid ((World.doorLaid Tryd.prog 400 os).forCall (fun _ _ => 0) ⟨#[], args, []⟩).memory :=
  laidMetH_of_parts3 (fuel := 8) (laidMet_of_run' 8 (by kernel_rfl) (by kernel_rfl)) (by kernel_rfl) (by kernel_rfl)

set_option maxRecDepth 100000 in
theorem lifted (os : Os) (started : os.Started) (H : Type) (enc : TypeId × Value → H) :
    ReturnsInHanded {} Tryd.checked os 3 .any (fun w args => (Rows.treePlaysSpec.pre enc Tryd.prog Tryd.f3 [] false w args ∧ laidMetH Tryd.prog Rows.treePlaysRow.laid w) ∧ sizedMet enc Tryd.prog Tryd.f3 (OpenSpec.ofChange Rows.treePlaysSpec) false w args)
      (Rows.treePlaysSpec.post enc Tryd.prog Tryd.f3 false true false false) := by
  refine returnsInHanded_of_change_and (C := Tryd.checked) (X := fun w _ => laidMetH Tryd.prog Rows.treePlaysRow.laid w) (fun _ _ _ hh h => h.of_heap hh) ownNone started (by kernel_rfl) Tryd.func3
    (ChangeSpec.witness_shaped (enc := enc) (C := Tryd.checked) (os := os) (X := fun w _ => laidMetH Tryd.prog Rows.treePlaysRow.laid w) false (World.doorLaid Tryd.prog 400 os) #[.slice none 0 0] 8 rfl (World.shaped_of_RefB (by kernel_rfl) (by kernel_rfl)) (by kernel_rfl) (by kernel_rfl) (by kernel_rfl) (door_met os _)) ?_
  intro W base args ds gs before hval0 hW z1 z2 hL z3
  have hval : ∀ (j : Nat) t v, Tryd.f3.params[j]? = some t → args[j]? = some v → Value.okWide Tryd.prog W .any base t v := hval0
  have hsz : (DataW.weightsEach Tryd.prog (Tryd.f3.params.toList ++ Rows.treePlaysSpec.plain.varTypes Tryd.prog) (ds ++ gs)).all (· ≤ reachBytes) = true := z2
  have hW' := hW
  obtain ⟨p, q, hA0, hV, rfl, _, _⟩ := hW
  have hA : DataW.TrodAll enc Tryd.prog W 0 (fun _ => true) true Tryd.f3.params.toList args.toList ds p := hA0
  rw [Tryd.params3] at hA hval hsz
  obtain ⟨v0, vs0, d0, ds0, p0, q0, hargs, rfl, rfl, h0, r0⟩ := trodAll_cons hA
  obtain ⟨rfl, rfl, rfl⟩ := trodAll_nil r0
  obtain rfl : args = #[v0] := by cases args; simp_all
  obtain ⟨rfl, rfl⟩ := trodVars_none hV
  obtain ⟨ls, hls⟩ := open_rowsL (hval 0 22 v0 rfl rfl) h0 (fun es ss e => sized_slice hsz (j := 0) (t := 22) rfl (by rw [← e]; rfl) Tryd.underlying22)
    (fun es ss e' s' e hx => sized_inner hsz (j := 0) (t := 22) (e := 25) (q := 3) rfl (by rw [← e]; rfl) Tryd.underlying22 Tryd.underlying25 hx)
  have lt0 : ∀ x ∈ p0, x.block < W.heap.size := by obtain ⟨f, hf⟩ := h0; exact DataW.trod_lt f _ _ _ hf
  clear hA0 hval0 hsz
  simp only [List.append_nil] at hW' ⊢
  refine (plays_any v0 ls W hls (all_of hL)).mono fun e W' ⟨he, bel⟩ => ?_
  subst he
  exact ⟨_, rfl, _, _, _, [], _, [], hW', trodAll_mk1 (shut_bool Tryd.underlying4 _),
    trodAll_cons_mk (Below.trod laidOut (by kernel_rfl) (of_decide_eq_true (by kernel_rfl)) h0 bel lt0) trodAll_mk0,
    rfl, bel.frame _, fun h => by cases h⟩

theorem said : Rows.TreePlaysSaid :=
  OpenClaim.holds_of_wide 3 Tryd.f3 rfl rfl rfl rfl rfl rfl rfl ⟨rfl, rfl, rfl, rfl, rfl⟩ rfl rfl rfl rfl rfl (by kernel_rfl) Tryd.func3 (by kernel_rfl)
    (of_decide_eq_true (by kernel_rfl)) (by unfold Func.isWrapper; first | (rw [if_pos (by decide +kernel)]; kernel_rfl) | (rw [if_neg (by decide +kernel)]; exact ⟨rfl, rfl⟩))
    (fun os started H enc _ => lifted os started H enc)

theorem plain (f : FuncId) (fn : Func) (hf : Tryd.pinned.checked.prog.funcNamed "commonbook/booklaw2.TreePlays" = some f) (hfn : Tryd.pinned.checked.prog.funcs[f]? = some fn) :
    true = Tryd.pinned.checked.prog.looks [] ∧ ∀ (j : Nat) t, fn.params[j]? = some t → Tryd.pinned.checked.prog.wantsStandIn t = false := by
  obtain rfl : f = 3 := Option.some.inj ((show Tryd.prog.funcNamed "commonbook/booklaw2.TreePlays" = some 3 by kernel_rfl).symm.trans hf) |>.symm
  obtain rfl : fn = Tryd.f3 := (Option.some.inj (Tryd.func3.symm.trans hfn)).symm
  refine ⟨by kernel_rfl, fun j t ht => ?_⟩
  rw [Tryd.params3] at ht
  obtain rfl : t = 22 := by simpa using Array.mem_of_getElem? ht
  exact (show Tryd.prog.wantsStandIn 22 = false by kernel_rfl)
end treePlays

theorem treePlays_card : Rows.TreePlaysCardSaid :=
  Claim7.holds_tied_plain_at .later [] _ _ _ _ treePlays.said (fun _ h => by cases h) (by kernel_rfl) (fun _ h => by cases h) treePlays_row_tie rfl ⟨rfl, rfl⟩ (by kernel_rfl) rfl treePlays.plain (by kernel_rfl)
end Go.Proofs.YtebglecjajghjaaDoor
