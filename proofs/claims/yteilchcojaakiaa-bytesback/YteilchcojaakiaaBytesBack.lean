/-
  What is proved: the law BytesBack of booklaw1 returns true for every two numbers, every list of numbers, every list of flags and all bytes, and each argument reads afterwards as it did.
  Conditions: none.
-/
import Derived.Test.YteilchcojaakiaaRows
import Derived.Test.YteilchcojaakiaaBytesBackWalk
import Derived.Test.YteilchcojaakiaaOpenFlags
namespace Go.Proofs.Yteilchcojaakiaa
namespace bytesBack
open Go.ChangeShapes Go.WideShapes Go.ChangeAt Go.RowKit Go.Deep

set_option maxRecDepth 100000 in
theorem lifted (os : Os) (started : os.Started) (H : Type) (enc : TypeId × Value → H) :
    ReturnsInHanded {} Try.checked os 3 .any (Rows.bytesBackSpec.pre6 enc Try.prog Try.f3 Rows.bytesBackRow.domain false) (Rows.bytesBackSpec.post enc Try.prog Try.f3 false true false false) := by
  refine returnsInHanded_of_change_sized (C := Try.checked) ownNone started (by kernel_rfl) Try.func3
    (ChangeSpec.witness6 (enc := enc) (C := Try.checked) false ⟨#[], #[.int .u64 0, .int .i64 0, .slice none 0 0, .slice none 0 0, .slice none 0 0], []⟩ 8 (by kernel_rfl) (by kernel_rfl) (by kernel_rfl) (by kernel_rfl)) ?_
  intro W base args ds gs before hval0 hW _ hsz0 _
  have hsz : (DataW.weightsEach Try.prog (Try.f3.params.toList ++ Rows.bytesBackSpec.plain.varTypes Try.prog) (ds ++ gs)).all (· ≤ reachBytes) = true := hsz0
  clear hsz0
  have hval : ∀ (j : Nat) t v, Try.f3.params[j]? = some t → args[j]? = some v → Value.okWide Try.prog W .any base t v := hval0
  have hW' := hW
  obtain ⟨p, q, hA0, hV, rfl, _, _⟩ := hW
  have hA : DataW.TrodAll enc Try.prog W 0 (fun _ => true) true Try.f3.params.toList args.toList ds p := hA0
  rw [Try.params3] at hA hval hsz
  obtain ⟨v0, vs0, d0, ds0, p0, q0, hargs, rfl, rfl, h0, r0⟩ := trodAll_cons hA
  obtain ⟨v1, vs1, d1, ds1, p1, q1, rfl, rfl, rfl, h1, r1⟩ := trodAll_cons r0
  obtain ⟨v2, vs2, d2, ds2, p2, q2, rfl, rfl, rfl, h2, r2⟩ := trodAll_cons r1
  obtain ⟨v3, vs3, d3, ds3, p3, q3, rfl, rfl, rfl, h3, r3⟩ := trodAll_cons r2
  obtain ⟨v4, vs4, d4, ds4, p4, q4, rfl, rfl, rfl, h4, r4⟩ := trodAll_cons r3
  obtain ⟨rfl, rfl, rfl⟩ := trodAll_nil r4
  obtain rfl : args = #[v0, v1, v2, v3, v4] := by cases args; simp_all
  obtain ⟨rfl, rfl⟩ := trodVars_none hV
  obtain ⟨x, rfl, rfl, rfl, hx⟩ := open_int Try.underlying22 (hval 0 22 v0 rfl rfl) h0
  obtain ⟨y, rfl, rfl, rfl, hy⟩ := open_int Try.underlying3 (hval 1 3 v1 rfl rfl) h1
  obtain ⟨l, hl⟩ := open_intsL (hval 2 23 v2 rfl rfl) h2 (fun es ss e => sized_slice hsz (j := 2) (t := 23) rfl (by rw [← e]; rfl) Try.underlying23)
  obtain ⟨f, hf⟩ := open_boolsL (hval 3 24 v3 rfl rfl) h3 (fun es ss e => sized_slice hsz (j := 3) (t := 24) rfl (by rw [← e]; rfl) Try.underlying24)
  obtain ⟨b, hb, hbl, hbn⟩ := open_bytesL (hval 4 25 v4 rfl rfl) h4 (fun es ss e => sized_slice hsz (j := 4) (t := 25) rfl (by rw [← e]; rfl) Try.underlying25)
  obtain ⟨n, rfl, hn⟩ := u64_of hx
  have hk := i64_of hy
  have lt2 : ∀ x ∈ p2, x.block < W.heap.size := by obtain ⟨f, hf⟩ := h2; exact DataW.trod_lt f _ _ _ hf
  have lt3 : ∀ x ∈ p3, x.block < W.heap.size := by obtain ⟨f, hf⟩ := h3; exact DataW.trod_lt f _ _ _ hf
  have lt4 : ∀ x ∈ p4, x.block < W.heap.size := by obtain ⟨f, hf⟩ := h4; exact DataW.trod_lt f _ _ _ hf
  clear hA0 hval0 hsz
  simp only [List.append_nil, List.nil_append] at hW' ⊢
  refine (back_any n y v2 v3 v4 l f b W hn hk hl hf hb hbl hbn).mono fun e W' ⟨he, bel⟩ => ?_
  subst he
  exact ⟨_, rfl, _, _, _, [], _, [], hW', trodAll_cons_mk (shut_bool Try.underlying4 _) trodAll_mk0,
    trodAll_cons_mk (shut_int Try.underlying22 hx) (trodAll_cons_mk (shut_int Try.underlying3 hy) (trodAll_cons_mk (Below.trod laidOut (by kernel_rfl) (of_decide_eq_true (by kernel_rfl)) h2 bel lt2) (trodAll_cons_mk (Below.trod laidOut (by kernel_rfl) (of_decide_eq_true (by kernel_rfl)) h3 bel lt3) (trodAll_cons_mk (Below.trod laidOut (by kernel_rfl) (of_decide_eq_true (by kernel_rfl)) h4 bel lt4) trodAll_mk0)))),
    rfl, bel.frame _, fun h => by cases h⟩
end bytesBack

theorem bytesBack_holds : Rows.BytesBackSaid :=
  OpenClaim.holds_of_wide 3 Try.f3 rfl rfl rfl rfl rfl rfl rfl ⟨rfl, rfl, rfl, rfl, rfl⟩ rfl rfl rfl rfl rfl (by kernel_rfl) Try.func3 (by kernel_rfl)
    (of_decide_eq_true (by kernel_rfl)) (by unfold Func.isWrapper; first | (rw [if_pos (by decide +kernel)]; kernel_rfl) | (rw [if_neg (by decide +kernel)]; exact ⟨rfl, rfl⟩))
    (fun os started H enc _ => bytesBack.lifted os started H enc)
end Go.Proofs.Yteilchcojaakiaa
