/-
  What is proved: what a disk's Names answers.
  Conditions: as each theorem says.
-/
import Derived.Test.YtcdpcjafomfddaaDoorKSyn
namespace Go.Proofs.YtcdpcjafomfddaaDoor
open Go.RowKit Go.Maps Go.Sort Go.Shelf

theorem has_short {w : World} {b n : Nat} {D : DataW Value} (h : w.ownsMap Tryd.prog 9 rawElem b n D) {x : Tx} (hx : Maps.has D (.string x) = true) : T64 x := by
  obtain ⟨es, rfl, hko⟩ := h.keysOf
  rw [has_eq, List.any_eq_true] at hx
  obtain ⟨p, hp, hs⟩ := hx
  obtain ⟨v, hv⟩ := hko p hp
  obtain ⟨y, _, hy, hl⟩ := Maps.keyOf_str txTy hv
  rw [hy] at hs
  have e : y = x := by simpa [Lit.sameKey] using hs
  subst e
  exact hl

theorem MapS.keys {w : World} {b : Nat} {L : List (Tx × Value)} (h : MapS w b L) : ∃ D : DataW Value, w.ownsMap Tryd.prog 9 rawElem b L.length D ∧ (L.map (·.1)).Perm (strKeys D) ∧ Maps.size D = L.length := by
  obtain ⟨D, h1, h2, h3, h4⟩ := h.own
  refine ⟨D, h1, ?_, h4⟩
  refine Collected.perm (left := fun _ => false) ⟨h.nd, fun x => ?_⟩ h1 txLaw txTy (fun _ => rfl)
  constructor
  · intro hx
    refine ⟨?_, rfl⟩
    obtain ⟨q, hq, rfl⟩ := List.mem_map.1 hx
    rw [h2 _ (h.t64 q hq)]
    cases hk : lk L q.1 with
    | some _ => rfl
    | none => exact absurd hx (lk_none.1 hk)
  · rintro ⟨hx, _⟩
    have ht := has_short h1 hx
    rw [h2 x ht] at hx
    refine Classical.byContradiction fun hc => ?_
    rw [lk_none.2 hc] at hx
    cases hx

theorem sortsA (m : Nat) : AnyZ.SortsIn Tryd.prog Tryd.sortedA_ren Fence.wide m :=
  ⟨fun blk off cap ss W hH hblk hsz => callsIn_wide.2 (AnyM.slices_Sort_string Tryd.sortA blk off cap ss W hH hblk hsz),
   fun p cap W => callsIn_wide.2 (AnyM.slices_Sort_string_none Tryd.sortA p cap W)⟩

/-- Texts in their order. -/
def sortT (ss : List Tx) : List Tx := ss.mergeSort (fun x y => decide (x ≤ y))
def NamesP (w : World) (F : List (Tx × Nat)) (e : Ending) (w' : World) : Prop :=
  ∃ v, e = .returned v ∧ w'.ownsRow w.heap.size 9 1 v F.length ((sortT (F.map (·.1))).map encStr) ∧ (v = .slice none 0 0 ↔ F = []) ∧ Below w.heap.size w w'

set_option maxRecDepth 100000 in
set_option maxHeartbeats 1000000 in
theorem names_any {S : Nat → Prop} {p fb sb : Nat} {F Z : List (Tx × Nat)} {n st : Int} {G : List Fi} (w : World) (hd : Dk S w p fb sb F Z n st G) (hF : F.length ≤ 1000000) :
    Calls Tryd.prog 7 #[ptrV p] w fun e w' => NamesP w F e w' := by
  refine (callsIn_wide (n := 6)).1 ?_
  obtain ⟨D0, hown, hperm, hsize⟩ := hd.mf.keys
  have hl : (ptrs F).length = F.length := by unfold ptrs; rw [List.length_map]
  have hbl := hown.lt
  have c0 : w.cell? ⟨p, 0, none⟩ = some (.map (some fb)) := Lib.cell_of_heap hd.box 0
  have hseq : SeqGives Fence.wide 2 Tryd.prog 38 #[.pointer (some ⟨w.heap.size, 0, none⟩)] encStr (fun ss => ss.Perm (strKeys D0)) (Maps.size D0) (w.alloc (.cells #[.map (some fb)] 49)) :=
    AnyZ.keys_gives (ρ := Tryd.keysA_ren) { Tryd.keysA with } Fence.wide _ trivial rfl (by omega) w.heap.size fb _ D0 _ (by simp) (by simp) (by
      obtain ⟨es, clock, hb, Ft, hs, hD⟩ := hown
      exact ⟨es, clock, (Below.heap_alloc _ _ fb hbl).trans hb, Ft, hs, hD⟩)
  have cK : ∀ mb W, CallsIn Fence.wide 5 Tryd.prog 24 #[.map mb] W fun e w' => e = .returned (.func (.func 38) #[] #[.pointer (some ⟨W.heap.size, 0, none⟩)]) ∧ w' = W.alloc (.cells #[.map mb] 49) := fun mb W => AnyZ.keys_in Tryd.keysA Fence.wide 5 trivial rfl mb W
  have cS := AnyZ.sorted_in Tryd.sortedA Fence.wide 5 trivial trivial trivial trivial rfl (by omega) (sortsA _) (enters_of Tryd.func37 (by kernel_rfl) rfl) 38 #[.pointer (some ⟨w.heap.size, 0, none⟩)] trivial (enters_of Tryd.func38 (by kernel_rfl) rfl) _ _ (by rw [hsize, hl]; unfold maxLen; omega) (by rw [hsize, hl]; omega) _ hseq
  change CallsIn _ _ Tryd.prog 23 _ _ _ at cS
  have hfK : Fence.wide.fn 24 := trivial
  have hfS : Fence.wide.fn 23 := trivial
  have HF : Hid (∀ v ss w', ss.Perm (strKeys D0) → w'.ownsRow (w.alloc (.cells #[.map (some fb)] 49)).heap.size 9 1 v ss.length ((ss.mergeSort (fun x y => decide (x ≤ y))).map encStr) → (v = .slice none 0 0 ↔ ss = []) → Below (w.alloc (.cells #[.map (some fb)] 49)).heap.size (w.alloc (.cells #[.map (some fb)] 49)) w' → NamesP w F (.returned v) w') := fun v ss w' h1 h2 h3 h4 => by
    have hp : ss.Perm (F.map (·.1)) := by
      refine h1.trans (hperm.symm.trans ?_)
      unfold ptrs
      rw [List.map_map]
      exact List.Perm.refl _
    have hz : ss.length = F.length := by rw [hp.length_eq, List.length_map]
    refine ⟨v, rfl, ?_, ?_, ((Below.refl _ w).alloc (Nat.le_refl _) _).trans (h4.mono (by simp))⟩
    · unfold sortT
      rw [← mergeSort_of_perm hp, ← hz]
      exact ownsRow_base_a h2 (by simp)
    · rw [h3]
      constructor
      · rintro rfl; exact List.length_eq_zero_iff.1 hz.symm
      · rintro rfl; exact List.length_eq_zero_iff.1 hz
  clear hown hperm hsize hl hbl hd hF hseq
  unfold ptrV
  refine callsIn_of_wp Tryd.func7 rfl trivial ?_ rfl
  simp only [Tryd.ntmps7, List.size_toArray, List.length_cons, List.length_nil, Nat.reduceAdd, Nat.reduceSub, Array.replicate_succ, Array.replicate_zero, List.push_toArray, List.append_toArray, List.nil_append, List.cons_append]
  gi_wp2_with (first
    | (gi_at_call 24; refine (cK _ _).mono ?_; rintro e w' ⟨rfl, rfl⟩)
    | (gi_at_call 23; refine cS.mono ?_; rintro e w' ⟨v, ss, rfl, hS, hrow, hnil, hb⟩; have HEND : Hid (NamesP w F (.returned v) w') := HF.out v ss w' hS hrow hnil hb; clear hS hrow hnil hb))
  go_ret
  exact HEND.out
end Go.Proofs.YtcdpcjafomfddaaDoor
