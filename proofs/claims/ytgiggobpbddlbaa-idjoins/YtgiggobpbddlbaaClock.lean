/-
  What is proved: the function clock of package id makes of a map of what is known the clock of it.
  Conditions: the map holds what may be known alone.
-/
import Derived.Test.YtgiggobpbddlbaaSeqs
import Derived.Test.YtgiggobpbddlbaaShelf
namespace Go.Proofs.Ytgiggobpbddlbaa
open Go.RowKit Go.Maps Go.Sort Go.Shelf

theorem keys_of {w : World} {R : Value → Option (DataW Unit × List MemPlace)} {b n : Nat} {D : DataW Unit} (hown : w.ownsMap Try.prog 3 R b n D) :
    (intKeys D).Nodup ∧ (∀ x, x ∈ intKeys D ↔ Maps.has D (.int .i64 x) = true) ∧ Maps.size D = (intKeys D).length := by
  obtain ⟨es, hD, hpw, _⟩ := hown.entries law3
  obtain ⟨es', hD', hko⟩ := hown.keysOf
  obtain rfl : es = es' := by rw [hD] at hD'; simpa using hD'
  subst hD
  have hk : ∀ p ∈ es, ∃ x, p.1 = .int .i64 x := fun p hp => by
    obtain ⟨v, hv⟩ := hko p hp
    obtain ⟨x, _, hx, _⟩ := Maps.keyOf_i64 Try.underlying3 hv
    exact ⟨x, hx⟩
  refine ⟨?_, fun x => ?_, by simp [intKeys, Maps.size]⟩
  · show (es.map fun p => Go.intOf p.1).Nodup
    refine List.pairwise_map.2 (hpw.imp_of_mem fun {p q} hp' hq' hne e => hne ?_)
    obtain ⟨a, ha⟩ := hk p hp'
    obtain ⟨c, hc⟩ := hk q hq'
    rw [ha, hc] at e ⊢
    exact congrArg _ e
  · rw [has_eq, List.any_eq_true]
    show x ∈ (es.map fun p => Go.intOf p.1) ↔ _
    rw [List.mem_map]
    constructor
    · rintro ⟨p, hp', rfl⟩
      obtain ⟨a, ha⟩ := hk p hp'
      exact ⟨p, hp', by rw [ha]; simp [Lit.sameKey, Go.intOf]⟩
    · rintro ⟨p, hp', hs⟩
      obtain ⟨a, ha⟩ := hk p hp'
      rw [ha] at hs
      exact ⟨p, hp', by rw [ha]; simpa [Lit.sameKey, Go.intOf] using hs⟩

/-- Actors, sorted, rise. -/
theorem sorted_rise {ss : List Int} (hn : ss.Nodup) : (ss.mergeSort leI).Pairwise (· < ·) := by
  have tr : ∀ a b c : Int, leI a b = true → leI b c = true → leI a c = true := fun a b c h1 h2 => by simp only [leI, decide_eq_true_eq] at *; omega
  have to : ∀ a b : Int, (leI a b || leI b a) = true := fun a b => by simp only [leI, Bool.or_eq_true, decide_eq_true_eq]; omega
  have hs := List.pairwise_mergeSort tr to ss
  have hd : (ss.mergeSort leI).Nodup := (List.mergeSort_perm ss leI).nodup_iff.2 hn
  refine (hs.and hd).imp fun {a b} h => ?_
  have h1 := h.1
  simp only [leI, decide_eq_true_eq] at h1
  have h2 : a ≠ b := h.2
  omega

/-- What holds of a map that may be known. -/
def Fine (f : Int → Int) : Prop := (∀ x, 0 ≤ f x) ∧ ∀ x, 0 < f x → OkRef (x, f x)

theorem Known.clock {w : World} {b n : Nat} {D : DataW Unit} {f : Int → Int} (hown : w.ownsMap Try.prog 3 (plainElem Try.prog 3) b n D) (hK : Known D f) (hF : Fine f) {ss : List Int} (hs : ss.Perm (intKeys D)) :
    Valid ((ss.mergeSort leI).map fun x => (x, f x)) ∧ (∀ x, mx ((ss.mergeSort leI).map fun x => (x, f x)) x = f x) := by
  obtain ⟨h1, h2, _⟩ := keys_of hown
  refine valid_of_keys (sorted_rise (hs.nodup_iff.2 h1)) (fun x => ?_) hF.1 hF.2
  rw [List.mem_mergeSort, hs.mem_iff, h2, hK.2.1]
  simp

theorem Known.few {w : World} {b n : Nat} {D : DataW Unit} {f : Int → Int} (hown : w.ownsMap Try.prog 3 (plainElem Try.prog 3) b n D) (hK : Known D f) (hF : Fine f) : Maps.size D ≤ 99 := by
  have hv := (hK.clock hown hF (List.Perm.refl _)).1
  have hl := valid_len hv
  rw [List.length_map, List.length_mergeSort] at hl
  rw [(keys_of hown).2.2]
  exact hl

theorem sorts (m : Nat) : AnyZI.SortsIn Try.prog Try.sortedA_ren Fence.wide m :=
  ⟨fun blk off cap ss W hH hblk hsz => callsIn_wide.2 (AnyM.slices_Sort_int Try.sortA blk off cap ss W hH hblk hsz),
   fun p cap W => callsIn_wide.2 (AnyM.slices_Sort_int_none Try.sortA p cap W)⟩

theorem keys_any (b : Nat) (W : World) : Calls Try.prog 16 #[.map (some b)] W fun e w' => e = .returned (.func (.func 22) #[] #[.pointer (some ⟨W.heap.size, 0, none⟩)]) ∧ w' = W.alloc (.cells #[.map (some b)] 38) :=
  callsIn_wide.1 (AnyZI.keys_in Try.keysA Fence.wide 5 trivial rfl (some b) W)

set_option maxHeartbeats 1000000 in
theorem sorted_any (b nn : Nat) (D0 : DataW Unit) (w : World) (hown : w.ownsMap Try.prog 3 (plainElem Try.prog 3) b nn D0) (hmax : Maps.size D0 ≤ 99) :
    Calls Try.prog 15 #[.func (.func 22) #[] #[.pointer (some ⟨w.heap.size, 0, none⟩)]] (w.alloc (.cells #[.map (some b)] 38)) fun e w' => ∃ (v : Value) (ss : List Int), e = .returned v ∧ ss.Perm (intKeys D0) ∧
      w'.ownsRow (w.heap.size + 1) 3 1 v ss.length ((ss.mergeSort (fun x y => decide (x ≤ y))).map encZ) ∧ (v = .slice none 0 0 ↔ ss = []) ∧ Below (w.heap.size + 1) (w.alloc (.cells #[.map (some b)] 38)) w' := by
  have hbl := hown.lt
  have hseq : SeqGives Fence.wide 2 Try.prog 22 #[.pointer (some ⟨w.heap.size, 0, none⟩)] encZ (fun ss => ss.Perm (intKeys D0)) (Maps.size D0) (w.alloc (.cells #[.map (some b)] 38)) :=
    AnyZI.keys_gives (ρ := Try.keysA_ren) { Try.keysA with } Fence.wide _ trivial rfl (by omega) w.heap.size b nn D0 _ (by simp) (by simp) (by
      obtain ⟨es, clock, hb, Ft, hs, hD⟩ := hown
      exact ⟨es, clock, (Below.heap_alloc _ _ b hbl).trans hb, Ft, hs, hD⟩)
  have cS := AnyZI.sorted_in Try.sortedA Fence.wide 5 trivial trivial trivial trivial rfl (by omega) (sorts _) (enters_of Try.func21 (by kernel_rfl) rfl) 22 #[.pointer (some ⟨w.heap.size, 0, none⟩)] trivial (enters_of Try.func22 (by kernel_rfl) rfl) _ _ (by unfold maxLen; omega) (by omega) _ hseq
  have cS' := callsIn_wide.1 cS
  rw [show (w.alloc (.cells #[.map (some b)] 38)).heap.size = w.heap.size + 1 from by simp] at cS'
  exact cS'
end Go.Proofs.Ytgiggobpbddlbaa
