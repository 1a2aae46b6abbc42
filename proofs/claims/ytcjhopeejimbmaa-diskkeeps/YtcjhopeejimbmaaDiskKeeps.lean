/-
  What is proved: the law DiskKeeps of booklaw3 returns true for all bytes and every number, and each argument reads afterwards as it did.
  Conditions: none.
-/
import Derived.Test.YtcjhopeejimbmaaRows
import Derived.Test.YtcjhopeejimbmaaKKeeps2
import Derived.Test.YtcjhopeejimbmaaKOpenB
namespace Go.Proofs.Ytcjhopeejimbmaa
namespace diskKeeps
open Go.ChangeShapes Go.WideShapes Go.ChangeAt Go.RowKit Go.Deep

theorem law_any (va vb : Value) (la lb : Tx) (k : Int) (w : World) (ha : ArgB w va la) (hb : ArgB w vb lb) (hk : I64 k) :
    Calls Try.prog 3 #[va, vb, .int .i64 k] w fun e w' => e = .returned (.bool true) ∧ Below w.heap.size w w' := by
  by_cases hL : 30000 < la.length
  · exact keeps_long va vb la lb k w ha hb hL
  · obtain ⟨a, c, rfl⟩ := ha.form
    by_cases hM : 30000 < lb.length
    · exact keeps_mid a c vb la lb k w ha hb (by omega) hM
    · rcases hb.2 with rfl | ⟨ad, n, c2, rfl⟩
      · have hl : lb = [] := by
          obtain ⟨_, _, e, _⟩ := hb.1
          exact List.length_eq_zero_iff.1 (Value.slice.inj e).2.1.symm
        rcases Int.lt_trichotomy k 0 with h | h | h
        · exact keeps_nil_n a c la lb k w ha hb hl h (by omega) (by omega) hk
        · exact keeps_nil_z a c la lb k w ha hb hl h (by omega) (by omega) hk
        · exact keeps_nil_p a c la lb k w ha hb hl h (by omega) (by omega) hk
      · obtain rfl : n = lb.length := by
          obtain ⟨_, _, e, _⟩ := hb.1
          exact (Value.slice.inj e).2.1
        by_cases h0 : k < 0
        · exact keeps_some_neg a c la lb k w ha ad c2 hb h0 (by omega) (by omega) hk
        · by_cases h1 : (lb.length : Int) < k
          · exact keeps_some_over a c la lb k w ha ad c2 hb h1 (by omega) (by omega) hk
          · exact keeps_some_mid a c la lb k w ha ad c2 hb k.toNat (by omega) (by omega) (by omega) (by omega) hk

set_option maxRecDepth 100000 in
theorem lifted (os : Os) (started : os.Started) (H : Type) (enc : TypeId × Value → H) :
    ReturnsInHanded {} Try.checked os 3 .any (Rows.diskKeepsSpec.pre6 enc Try.prog Try.f3 Rows.diskKeepsRow.domain false) (Rows.diskKeepsSpec.post enc Try.prog Try.f3 false true false false) := by
  refine returnsInHanded_of_change_sized (C := Try.checked) ownNone started (by kernel_rfl) Try.func3
    (ChangeSpec.witness6 (enc := enc) (C := Try.checked) false ⟨#[], #[.slice none 0 0, .slice none 0 0, .int .i64 0], []⟩ 8 (by kernel_rfl) (by kernel_rfl) (by kernel_rfl) (by kernel_rfl)) ?_
  intro W base args ds gs before hval0 hW _ hsz0 _
  have hsz : (DataW.weightsEach Try.prog (Try.f3.params.toList ++ Rows.diskKeepsSpec.plain.varTypes Try.prog) (ds ++ gs)).all (· ≤ reachBytes) = true := hsz0
  clear hsz0
  have hval : ∀ (j : Nat) t v, Try.f3.params[j]? = some t → args[j]? = some v → Value.okWide Try.prog W .any base t v := hval0
  have hW' := hW
  obtain ⟨p, q, hA0, hV, rfl, _, _⟩ := hW
  have hA : DataW.TrodAll enc Try.prog W 0 (fun _ => true) true Try.f3.params.toList args.toList ds p := hA0
  rw [Try.params3] at hA hval hsz
  obtain ⟨v0, vs0, d0, ds0, p0, q0, hargs, rfl, rfl, h0, r0⟩ := trodAll_cons hA
  obtain ⟨v1, vs1, d1, ds1, p1, q1, rfl, rfl, rfl, h1, r1⟩ := trodAll_cons r0
  obtain ⟨v2, vs2, d2, ds2, p2, q2, rfl, rfl, rfl, h2, r2⟩ := trodAll_cons r1
  obtain ⟨rfl, rfl, rfl⟩ := trodAll_nil r2
  obtain rfl : args = #[v0, v1, v2] := by cases args; simp_all
  obtain ⟨rfl, rfl⟩ := trodVars_none hV
  obtain ⟨la, hla, _, hna⟩ := open_bytesL (hval 0 22 v0 rfl rfl) h0 (fun es ss e => sized_slice hsz (j := 0) (t := 22) rfl (by rw [← e]; rfl) Try.underlying22)
  obtain ⟨lb, hlb, _, hnb⟩ := open_bytesL (hval 1 22 v1 rfl rfl) h1 (fun es ss e => sized_slice hsz (j := 1) (t := 22) rfl (by rw [← e]; rfl) Try.underlying22)
  obtain ⟨k, rfl, rfl, rfl, hk⟩ := open_int Try.underlying3 (hval 2 3 v2 rfl rfl) h2
  have lt0 : ∀ x ∈ p0, x.block < W.heap.size := by obtain ⟨f, hf⟩ := h0; exact DataW.trod_lt f _ _ _ hf
  have lt1 : ∀ x ∈ p1, x.block < W.heap.size := by obtain ⟨f, hf⟩ := h1; exact DataW.trod_lt f _ _ _ hf
  clear hA0 hval0 hsz
  simp only [List.append_nil] at hW' ⊢
  refine (law_any v0 v1 la lb k W ⟨hla, hna⟩ ⟨hlb, hnb⟩ (i64_of hk)).mono fun e W' ⟨he, bel⟩ => ?_
  subst he
  exact ⟨_, rfl, _, _, _, [], _, [], hW', trodAll_cons_mk (shut_bool Try.underlying4 _) trodAll_mk0,
    trodAll_cons_mk (Below.trod laidOut (by kernel_rfl) (of_decide_eq_true (by kernel_rfl)) h0 bel lt0) (trodAll_cons_mk (Below.trod laidOut (by kernel_rfl) (of_decide_eq_true (by kernel_rfl)) h1 bel lt1) (trodAll_cons_mk (shut_int Try.underlying3 hk) trodAll_mk0)),
    rfl, bel.frame _, fun h => by cases h⟩
end diskKeeps

theorem diskKeeps_holds : Rows.DiskKeepsSaid :=
  OpenClaim.holds_of_wide 3 Try.f3 rfl rfl rfl rfl rfl rfl rfl ⟨rfl, rfl, rfl, rfl, rfl⟩ rfl rfl rfl rfl rfl (by kernel_rfl) Try.func3 (by kernel_rfl)
    (of_decide_eq_true (by kernel_rfl)) (by unfold Func.isWrapper; first | (rw [if_pos (by decide +kernel)]; kernel_rfl) | (rw [if_neg (by decide +kernel)]; exact ⟨rfl, rfl⟩))
    (fun os started H enc _ => diskKeeps.lifted os started H enc)
end Go.Proofs.Ytcjhopeejimbmaa
