/-
  What is proved: the law ChangeDecodes of booklaw1 returns true for all bytes, and they read afterwards as they did: the tied card of its row.
  Conditions: the listed package variable lies as the program's text lays it, which the card ties to that text.
-/
import Derived.Test.YtgecgemfniiciaaGreatDoorCards
import Derived.Test.YtgecgemfniiciaaGreatDoorTie
import Derived.LaidMore
import Derived.LaidHandle
import Derived.Stop.LaidErr
import Derived.Stop.Joined
import Derived.Test.YtgecgemfniiciaaGreatDoorQDecode
import Derived.Test.YtgecgemfniiciaaGreatDoorBackSame
import Derived.Test.YtgecgemfniiciaaGreatDoorToldC
import Derived.Test.YtgecgemfniiciaaGreatDoorRows
import Derived.Test.YtgecgemfniiciaaGreatDoorLies
import Derived.ProofKit
import Derived.OpenShut
import Derived.ChangeOld
import Derived.Deep.Slices
namespace Go.Proofs.YtgecgemfniiciaaGreatDoor
open Go.RowKit

theorem dec_chk {b : List UInt8} {c : Chg} {n : Nat} (h : dec b = some (c, n)) : chk c = 0 := by
  unfold dec at h
  split at h
  · split at h
    · rename_i h1
      have e := Option.some.inj h
      have e1 := congrArg Prod.fst e
      dsimp only at e1
      rw [← e1]
      exact h1
    · cases h
  · cases h

set_option maxRecDepth 100000 in
set_option maxHeartbeats 8000000 in
theorem decodes_any (v : Value) (b : List UInt8) (w : World) (hb : IsBytes w v b) (hw : Wh v) (he : Et w) :
    Calls Tryz.prog 3 #[v] w fun e w' => e = .returned (.bool true) ∧ Below w.heap.size w w' := by
  have E1 := rDecode_any v b w hb hw
  rw [qDec_dec] at E1
  unfold noChg at E1
  obtain ⟨a0, cap, rfl, -⟩ := id hb
  have HB : Hid (IsBytes w (.slice a0 b.length cap) b ∧ Wh (.slice a0 b.length cap) ∧ Et w) := ⟨hb, hw, he⟩
  clear hb hw he
  go_enter Tryz.func3, Tryz.ntmps3
  go_wp2_with fail
  go_fit E1
  rintro e w1 ⟨h1, b1⟩
  rcases h1 with ⟨c, n, u, hd, rfl, hI⟩ | ⟨hd, rfl⟩
  · obtain ⟨ud, uo, l, rfl, i1, i2, i3, hdp, hop, hll⟩ := id hI
    obtain ⟨ad, cd, rfl, -⟩ := id hdp
    obtain ⟨ao, co, rfl, -⟩ := id hop
    have A1 := (Below.refl w1.heap.size w1).alloc (Nat.le_refl _) (.cells #[.int .i64 c.actor, .int .i64 c.seq, .int .i64 c.start, .slice ad c.deps.length cd, .slice ao l.length co] 26)
    have hbx : (w1.alloc (.cells #[.int .i64 c.actor, .int .i64 c.seq, .int .i64 c.start, .slice ad c.deps.length cd, .slice ao l.length co] 26)).heap[w1.heap.size]? = some (.cells #[.int .i64 c.actor, .int .i64 c.seq, .int .i64 c.start, .slice ad c.deps.length cd, .slice ao l.length co] 26) := (MapKept.heap_alloc w1 _).1
    have B2 : Below w.heap.size w (w1.alloc (.cells #[.int .i64 c.actor, .int .i64 c.seq, .int .i64 c.start, .slice ad c.deps.length cd, .slice ao l.length co] 26)) := b1.trans (A1.mono b1.size)
    have E2 := decode_any (.slice a0 b.length cap) b _ (HB.out.1.below B2) HB.out.2.1
    have HI2 : Hid (IsChg _ _ c) := hI.below A1
    have HB2 : Hid _ := B2
    have HX2 : Hid _ := hbx
    have HD : Hid (dec b = some (c, n)) := hd
    clear E1 hd hI i1 i2 i3 hdp hop hll A1 hbx B2 b1
    go_wp2_with fail
    go_fit E2
    rintro e w3 ⟨h3, b3⟩
    rcases h3 with ⟨c', n', u', hd', rfl, hI'⟩ | ⟨hd', -⟩
    · rw [HD.out] at hd'
      obtain ⟨rfl, rfl⟩ : c = c' ∧ n = n' := by
        have e := Option.some.inj hd'
        exact ⟨congrArg Prod.fst e, congrArg Prod.snd e⟩
      obtain ⟨vd, vo, l', rfl, i1, i2, i3, hdp, hop, hll⟩ := id hI'
      obtain ⟨ad', cd', rfl, -⟩ := id hdp
      obtain ⟨ao', co', rfl, -⟩ := id hop
      have A3 := (Below.refl w3.heap.size w3).alloc (Nat.le_refl _) (.cells #[.int .i64 c.actor, .int .i64 c.seq, .int .i64 c.start, .slice ad' c.deps.length cd', .slice ao' l'.length co'] 26)
      have hbx : (w3.alloc (.cells #[.int .i64 c.actor, .int .i64 c.seq, .int .i64 c.start, .slice ad' c.deps.length cd', .slice ao' l'.length co'] 26)).heap[w3.heap.size]? = some (.cells #[.int .i64 c.actor, .int .i64 c.seq, .int .i64 c.start, .slice ad' c.deps.length cd', .slice ao' l'.length co'] 26) := (MapKept.heap_alloc w3 _).1
      have EN := error_nil (w3.alloc (.cells #[.int .i64 c.actor, .int .i64 c.seq, .int .i64 c.start, .slice ad' c.deps.length cd', .slice ao' l'.length co'] 26))
      have HI3 : Hid (IsChg _ _ c) := (HI2.out.below b3).below A3
      have HI4 : Hid (IsChg _ _ c) := hI'.below A3
      have HX3 : Hid _ := heap_below (heap_below HX2.out b3 (Nat.le_refl _)) A3 (Nat.le_refl _)
      have HX4 : Hid _ := hbx
      have HB4 : Hid (Below w.heap.size w _) := (HB2.out.trans (b3.mono HB2.out.size)).trans (A3.mono (Nat.le_trans HB2.out.size b3.size))
      clear E2 hd' hI' i1 i2 i3 hdp hop hll A3 hbx b3 HI2 HX2
      go_wp2_with fail
      go_fit EN
      rintro e w5 ⟨rfl, b5⟩
      have x3 := heap_below HX3.out b5 (Nat.le_refl _)
      have x4 := heap_below HX4.out b5 (Nat.le_refl _)
      have p0 : w5.cell? ⟨w1.heap.size, 0, none⟩ = some (.int .i64 c.actor) := Lib.cell_of_heap x3 0
      have p1 : w5.cell? ⟨w1.heap.size, 1, none⟩ = some (.int .i64 c.seq) := Lib.cell_of_heap x3 1
      have p2 : w5.cell? ⟨w1.heap.size, 2, none⟩ = some (.int .i64 c.start) := Lib.cell_of_heap x3 2
      have p3 : w5.cell? ⟨w1.heap.size, 3, none⟩ = some (.slice ad c.deps.length cd) := Lib.cell_of_heap x3 3
      have p4 : w5.cell? ⟨w1.heap.size, 4, none⟩ = some (.slice ao l.length co) := Lib.cell_of_heap x3 4
      have q0 : w5.cell? ⟨w3.heap.size, 0, none⟩ = some (.int .i64 c.actor) := Lib.cell_of_heap x4 0
      have q1 : w5.cell? ⟨w3.heap.size, 1, none⟩ = some (.int .i64 c.seq) := Lib.cell_of_heap x4 1
      have q2 : w5.cell? ⟨w3.heap.size, 2, none⟩ = some (.int .i64 c.start) := Lib.cell_of_heap x4 2
      have q3 : w5.cell? ⟨w3.heap.size, 3, none⟩ = some (.slice ad' c.deps.length cd') := Lib.cell_of_heap x4 3
      have q4 : w5.cell? ⟨w3.heap.size, 4, none⟩ = some (.slice ao' l'.length co') := Lib.cell_of_heap x4 4
      have ES := same_any _ _ c w5 (HI4.out.below b5) (HI3.out.below b5) (dec_chk HD.out)
      have HB5 : Hid (Below w.heap.size w w5) := HB4.out.trans (b5.mono HB4.out.size)
      clear EN x3 x4 b5 HI3 HI4 HX3 HX4
      go_wp2_with fail
      go_fit ES
      rintro e w6 ⟨rfl, b6⟩
      have HB6 : Hid (Below w.heap.size w w6) := HB5.out.trans (b6.mono HB5.out.size)
      clear ES b6
      go_wp2
      go_ret
      exact ⟨by simp, HB6.out⟩
    · rw [HD.out] at hd'
      cases hd'
  · have A1 := (Below.refl w1.heap.size w1).alloc (Nat.le_refl _) (.cells #[.int .i64 0, .int .i64 0, .int .i64 0, .slice none 0 0, .slice none 0 0] 26)
    have B2 : Below w.heap.size w (w1.alloc (.cells #[.int .i64 0, .int .i64 0, .int .i64 0, .slice none 0 0, .slice none 0 0] 26)) := b1.trans (A1.mono b1.size)
    have E2 := decode_any (.slice a0 b.length cap) b _ (HB.out.1.below B2) HB.out.2.1
    unfold noChg at E2
    have HB2 : Hid (Below w.heap.size w _) := B2
    have HD : Hid (dec b = none) := hd
    clear E1 hd A1 B2 b1
    go_wp2_with fail
    go_fit E2
    rintro e w3 ⟨h3, b3⟩
    rcases h3 with ⟨c', n', u', hd', -, -⟩ | ⟨-, rfl⟩
    · rw [HD.out] at hd'
      cases hd'
    · have A3 := (Below.refl w3.heap.size w3).alloc (Nat.le_refl _) (.cells #[.int .i64 0, .int .i64 0, .int .i64 0, .slice none 0 0, .slice none 0 0] 26)
      have B4 : Below w.heap.size w (w3.alloc (.cells #[.int .i64 0, .int .i64 0, .int .i64 0, .slice none 0 0, .slice none 0 0] 26)) := (HB2.out.trans (b3.mono HB2.out.size)).trans (A3.mono (Nat.le_trans HB2.out.size b3.size))
      have EN := error_errno 9 _ (HB.out.2.2.below B4)
      have HB4 : Hid (Below w.heap.size w _) := B4
      clear E2 A3 B4 b3
      go_wp2_with fail
      go_fit EN
      rintro e w5 ⟨rfl, b5⟩
      have HB5 : Hid (Below w.heap.size w w5) := HB4.out.trans (b5.mono HB4.out.size)
      clear EN b5
      go_wp2
      go_ret
      exact ⟨by simp, HB5.out⟩
end Go.Proofs.YtgecgemfniiciaaGreatDoor

namespace Go.Proofs.YtgecgemfniiciaaGreatDoor
open Go.ChangeShapes Go.WideShapes Go.ChangeAt Go.RowKit Go.Deep

theorem laidOut : laidOutB Tryz.prog = true := by kernel_rfl
theorem ownNone : ownKnob Tryz.prog.godebug = none := by kernel_rfl
theorem cellsN (t : TypeId) (h : t = 3 ∨ t = 4 ∨ t = 5) : Tryz.prog.cellsOf t = 1 := by
  rcases h with rfl | rfl | rfl
  · kernel_rfl
  · kernel_rfl
  · kernel_rfl
theorem bytes5 : Tryz.prog.bytesOf 5 = 1 := by kernel_rfl

theorem at_cell {w : World} {a : Addr} {v : Value} (h : w.cell? a = some v) : a.spot = none ∧ a.block < w.heap.size := by
  obtain ⟨b, o, s⟩ := a
  unfold World.cell? at h
  simp only at h ⊢
  rcases Nat.lt_or_ge b w.heap.size with hb | hb
  · refine ⟨?_, hb⟩
    cases s with
    | none => rfl
    | some x =>
      split at h
      · simp at h
      · cases h
  · rw [Array.getElem?_eq_none hb] at h
    simp at h

theorem add_at (b off i : Nat) : (⟨b, off, none⟩ : Addr).add i = ⟨b, off + i, none⟩ := by unfold Addr.add; split <;> simp_all

theorem u8_of {n : Int} (h : (Lit.int .u8 n).wf = true) : ∃ c : UInt8, n = c.toNat := by
  simp [Lit.wf, IntKind.min, IntKind.max, IntKind.bits, IntKind.signed] at h
  exact ⟨UInt8.ofNat n.toNat, by simp; omega⟩

set_option maxRecDepth 100000 in
/-- A list of bytes, opened. -/
theorem open_bytesL {H : Type} {enc : TypeId × Value → H} {W : World} {b0 base : Nat} {sp : Nat → Bool} {held : Bool} {v : Value} {d : DataW H} {p : List MemPlace}
    (hv : Value.okWide Tryz.prog W .any b0 22 v) (h : DataW.Trod enc Tryz.prog W base sp held 22 v d p) (hz : ∀ es ss, d = .slice es ss → (es.length + ss.length) * Tryz.prog.bytesOf 5 ≤ reachBytes) :
    ∃ l, IsBytes W v l ∧ l.length ≤ 140737488355328 ∧ (v = .slice none 0 0 ∨ ∃ ad n c, v = .slice (some ad) n c) := by
  obtain ⟨a0, len0, cap0, rfl⟩ := okWide_slice Tryz.underlying22 hv
  obtain ⟨fuel, hf⟩ := h
  rcases open_slice1 Tryz.underlying22 (cellsN 5 (Or.inr (Or.inr rfl))) hf with ⟨hcs, _⟩ | ⟨a, len, cap, m, n, V, D, P, hcs, _, hl, _, hm, hx, hall⟩
  · simp [Value.cells] at hcs
    obtain ⟨rfl, rfl, rfl⟩ := hcs
    exact ⟨[], ⟨none, 0, rfl, by simp, by simp, fun h => absurd rfl h⟩, by simp, Or.inl rfl⟩
  · simp [Value.cells] at hcs
    obtain ⟨rfl, rfl, rfl⟩ := hcs
    have hlm : len0 ≤ m := by rw [hm]; split <;> omega
    have hz' := hz _ _ (congrArg Prod.fst hx)
    rw [List.length_map, List.length_map, List.length_range, List.length_range, bytes5] at hz'
    unfold reachBytes at hz'
    have each : ∀ i, i < len0 → ∃ q : UInt8, W.cell? (a.add i) = some (.int .u8 q.toNat) := by
      intro i hi
      obtain ⟨c0, t0⟩ := hall i (by omega)
      obtain ⟨x0, e0, _, hw⟩ := DataW.trod_int Tryz.underlying5 t0
      obtain ⟨c, rfl⟩ := u8_of hw
      simp at e0
      rw [e0] at c0
      exact ⟨c, c0⟩
    obtain ⟨q, hq⟩ := choose_lt each
    refine ⟨(List.range len0).map q, ⟨some a, cap0, by simp, by simpa using hl, by simp; omega, fun hne => ?_⟩, by simp; omega, Or.inr ⟨_, _, _, rfl⟩⟩
    have h0 : 0 < len0 := by
      rcases Nat.eq_zero_or_pos len0 with e | e
      · subst e; simp at hne
      · exact e
    obtain ⟨hs, hb⟩ := at_cell (hq 0 h0)
    obtain ⟨b, off, s⟩ := a
    have hs' : s = none := by simpa [Addr.add] using hs
    subst hs'
    refine ⟨b, off, rfl, by simpa [Addr.add] using hb, fun i hi => ?_⟩
    have hi' : i < len0 := by simpa using hi
    have := hq i hi'
    rw [add_at] at this
    simpa using this
end Go.Proofs.YtgecgemfniiciaaGreatDoor

namespace Go.Proofs.YtgecgemfniiciaaGreatDoor
namespace changeDecodes
open Go.ChangeShapes Go.WideShapes Go.ChangeAt Go.RowKit Go.Deep

theorem et_g : Tryz.prog.globalNamed "errors.errorType" = some 0 := by kernel_rfl
theorem rt_t : (Tryz.prog.cutTypes.find? (·.1 == "internal/reflectlite.rtype")).map (·.2) = some 124 := by kernel_rfl
theorem types : Tryz.prog.types.size = 171 := by kernel_rfl
theorem oneRow : ((List.range 171).filter fun t => Tryz.prog.rowNamed t [101, 114, 114, 111, 114]) = [30] := by kernel_rfl

theorem et_of {W : World} (h : handlesMet Tryz.prog [("errors.errorType", Rows.laid_errors_errorType)] W) : Et W := by
  obtain ⟨name, u, ty, e1, e2, e3, e4, e5⟩ := h _ (List.mem_singleton.2 rfl)
  have en : name = [101, 114, 114, 111, 114] := (Option.some.inj e1).symm
  subst en
  obtain rfl := Option.some.inj (rt_t.symm.trans e2)
  have hm : ty ∈ (List.range 171).filter fun t => Tryz.prog.rowNamed t [101, 114, 114, 111, 114] := List.mem_filter.2 ⟨List.mem_range.2 (by rw [← types]; exact e3), e4⟩
  rw [oneRow] at hm
  obtain rfl := List.mem_singleton.1 hm
  have hh : typeHandle Tryz.prog 30 = .pointer (some ⟨1, 30, none⟩) := by kernel_rfl
  rw [hh] at e5
  unfold Et
  simpa using World.var?_cell et_g e5 0

theorem all_of {W : World} (h : laidMetH Tryz.prog Rows.changeDecodesRow.laid W) : Et W := by
  have h' : laidMet Tryz.prog [] W ∧ handlesMet Tryz.prog [("errors.errorType", Rows.laid_errors_errorType)] W := h
  exact et_of h'.2

theorem door_met (os : Os) (args : Array Value) : laidMetH Tryz.prog Rows.changeDecodesRow.laid ((World.doorLaid Tryz.prog 400 os).forCall (fun _ _ => 0) ⟨#[], args, []⟩).memory :=
  laidMetH_of_parts3 (fuel := 8) (laidMet_of_run' 8 (by kernel_rfl) (by kernel_rfl)) (by kernel_rfl) (by kernel_rfl)

set_option maxRecDepth 100000 in
theorem lifted (os : Os) (started : os.Started) (H : Type) (enc : TypeId × Value → H) :
    ReturnsInHanded {} Tryz.checked os 3 .any (fun w args => (Rows.changeDecodesSpec.pre enc Tryz.prog Tryz.f3 [] false w args ∧ laidMetH Tryz.prog Rows.changeDecodesRow.laid w) ∧ sizedMet enc Tryz.prog Tryz.f3 (OpenSpec.ofChange Rows.changeDecodesSpec) false w args)
      (Rows.changeDecodesSpec.post enc Tryz.prog Tryz.f3 false true false false) := by
  refine returnsInHanded_of_change_and (C := Tryz.checked) (X := fun w _ => laidMetH Tryz.prog Rows.changeDecodesRow.laid w) (fun _ _ _ hh h => h.of_heap hh) ownNone started (by kernel_rfl) Tryz.func3
    (ChangeSpec.witness_shaped (enc := enc) (C := Tryz.checked) (os := os) (X := fun w _ => laidMetH Tryz.prog Rows.changeDecodesRow.laid w) false (World.doorLaid Tryz.prog 400 os) #[.slice none 0 0] 8 rfl (World.shaped_of_RefB (by kernel_rfl) (by kernel_rfl)) (by kernel_rfl) (by kernel_rfl) (by kernel_rfl) (door_met os _)) ?_
  intro W base args ds gs before hval0 hW z1 z2 hL z3
  have hval : ∀ (j : Nat) t v, Tryz.f3.params[j]? = some t → args[j]? = some v → Value.okWide Tryz.prog W .any base t v := hval0
  have hsz : (DataW.weightsEach Tryz.prog (Tryz.f3.params.toList ++ Rows.changeDecodesSpec.plain.varTypes Tryz.prog) (ds ++ gs)).all (· ≤ reachBytes) = true := z2
  have hW' := hW
  obtain ⟨p, q, hA0, hV, rfl, _, _⟩ := hW
  have hA : DataW.TrodAll enc Tryz.prog W 0 (fun _ => true) true Tryz.f3.params.toList args.toList ds p := hA0
  rw [Tryz.params3] at hA hval hsz
  obtain ⟨v0, vs0, d0, ds0, p0, q0, hargs, rfl, rfl, h0, r0⟩ := trodAll_cons hA
  obtain ⟨rfl, rfl, rfl⟩ := trodAll_nil r0
  obtain rfl : args = #[v0] := by cases args; simp_all
  obtain ⟨rfl, rfl⟩ := trodVars_none hV
  obtain ⟨b, hb, hbl, hbn⟩ := open_bytesL (hval 0 22 v0 rfl rfl) h0 (fun es ss e => sized_slice hsz (j := 0) (t := 22) rfl (by rw [← e]; rfl) Tryz.underlying22)
  have lt0 : ∀ x ∈ p0, x.block < W.heap.size := by obtain ⟨f, hf⟩ := h0; exact DataW.trod_lt f _ _ _ hf
  clear hA0 hval0 hsz
  simp only [List.append_nil] at hW' ⊢
  refine (decodes_any v0 b W hb hbn (all_of hL)).mono fun e W' ⟨he, bel⟩ => ?_
  subst he
  exact ⟨_, rfl, _, _, _, [], _, [], hW', trodAll_mk1 (shut_bool Tryz.underlying4 _),
    trodAll_cons_mk (Below.trod laidOut (by kernel_rfl) (of_decide_eq_true (by kernel_rfl)) h0 bel lt0) trodAll_mk0,
    rfl, bel.frame _, fun h => by cases h⟩

theorem said : Rows.ChangeDecodesSaid :=
  OpenClaim.holds_of_wide 3 Tryz.f3 rfl rfl rfl rfl rfl rfl rfl ⟨rfl, rfl, rfl, rfl, rfl⟩ rfl rfl rfl rfl rfl (by kernel_rfl) Tryz.func3 (by kernel_rfl)
    (of_decide_eq_true (by kernel_rfl)) (by unfold Func.isWrapper; first | (rw [if_pos (by decide +kernel)]; kernel_rfl) | (rw [if_neg (by decide +kernel)]; exact ⟨rfl, rfl⟩))
    (fun os started H enc _ => lifted os started H enc)

theorem plain (f : FuncId) (fn : Func) (hf : Tryz.pinned.checked.prog.funcNamed "commonbook/booklaw1.ChangeDecodes" = some f) (hfn : Tryz.pinned.checked.prog.funcs[f]? = some fn) :
    true = Tryz.pinned.checked.prog.looks [] ∧ ∀ (j : Nat) t, fn.params[j]? = some t → Tryz.pinned.checked.prog.wantsStandIn t = false := by
  obtain rfl : f = 3 := Option.some.inj ((show Tryz.prog.funcNamed "commonbook/booklaw1.ChangeDecodes" = some 3 by kernel_rfl).symm.trans hf) |>.symm
  obtain rfl : fn = Tryz.f3 := (Option.some.inj (Tryz.func3.symm.trans hfn)).symm
  refine ⟨by kernel_rfl, fun j t ht => ?_⟩
  rw [Tryz.params3] at ht
  obtain rfl : t = 22 := by simpa using Array.mem_of_getElem? ht
  exact (show Tryz.prog.wantsStandIn 22 = false by kernel_rfl)
end changeDecodes

theorem changeDecodes_card : Rows.ChangeDecodesCardSaid :=
  Claim7.holds_tied_plain_at .later [] _ _ _ _ changeDecodes.said (fun _ h => by cases h) (by kernel_rfl) (fun _ h => by cases h) changeDecodes_row_tie rfl ⟨rfl, rfl⟩ (by kernel_rfl) rfl changeDecodes.plain (by kernel_rfl)
end Go.Proofs.YtgecgemfniiciaaGreatDoor
