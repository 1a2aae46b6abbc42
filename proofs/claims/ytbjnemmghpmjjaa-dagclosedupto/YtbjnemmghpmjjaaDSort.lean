/-
  What is proved: what package dag's risingKeys and Waiting answer: the keys of a map of refs, rising.
  Conditions: the map lies in memory.
-/
import Derived.Test.YtbjnemmghpmjjaaDSortM
import Derived.Test.YtbjnemmghpmjjaaShelf
namespace Go.Proofs.Ytbjnemmghpmjjaa
open Go.RowKit Go.Maps Go.Sort Go.Shelf Go.Lib

/-- Refs that rise. -/
def Rise (l : List Pr) : Prop := l.Pairwise ltR

theorem rise_unique {l m : List Pr} (hp : l.Perm m) (hl : Rise l) (hm : Rise m) : l = m := by
  refine List.Perm.eq_of_pairwise (le := ltR) (fun a b _ _ h1 h2 => ?_) hl hm hp
  unfold ltR at h1 h2
  omega

set_option maxRecDepth 100000 in
set_option maxHeartbeats 1000000 in
theorem sortR_any (g cap base : Nat) (ss : List Pr) (w : World) (hR : RowPr 34 base (.slice (some ⟨g, 0, none⟩) ss.length cap) ss w) (hn : ss.Nodup) (hl : ss.length ≤ 1000000) :
    Calls Try.prog 62 #[.slice (some ⟨g, 0, none⟩) ss.length cap, .func (.func 42) #[] #[]] w fun e w' => e = .returned (.tuple #[]) ∧ ∃ ts : List Pr, ts.Perm ss ∧ Rise ts ∧ RowPr 34 base (.slice (some ⟨g, 0, none⟩) ss.length cap) ts w' ∧ w.grownBy w' (some g) := by
  have eg : ∀ args w, (callFunc 42 args).run Try.prog w = .ok (.enter 42 args) w := enters_of Try.func42 (by kernel_rfl) rfl
  rcases hR.2 with ⟨h0, _⟩ | ⟨g', cap', cur, e1, hbase, hb, h1, h2, h3, h4⟩
  · cases h0
  obtain ⟨e2, _, e3⟩ := Value.slice.inj e1
  obtain rfl : g = g' := by have := Option.some.inj e2; simpa using this
  subst e3
  have hH := holdsR_of_block (ss := ss) hb h4
  have hcon := AnyQ.slices_SortFunc Try.sortA 2 Try.isAgg34 Try.sizeOf34 encR (fun _ => rfl) (fun x v hv => by simp [encR] at hv; rcases hv with rfl | rfl <;> rfl) cR swoR 42 #[] g 0 cap ss.toArray w eg (fun _ _ _ _ x y => compareR_any x y _) hH (lt_of_heap hb) (by simp; omega)
  rw [show ss.toArray.size = ss.length from by simp] at hcon
  refine Calls.mono hcon ?_
  rintro e w' ⟨rfl, d', n, os, hp, hs, rfl⟩
  obtain ⟨p1, _, p3⟩ := hp
  have p1' : d'.size = ss.length := by simpa using p1
  have e4 : d'.extract 0 ss.length = d' := by rw [← p1']; exact Array.extract_size
  have e5 : ss.toArray.extract 0 ss.length = ss.toArray := by
    simp
  rw [e4, e5] at p3
  have p4 : d'.toList.Perm ss := by simpa using p3
  refine ⟨rfl, d'.toList, p4, ?_, ?_, ?_⟩
  · refine List.pairwise_iff_getElem.2 fun i j hi hj hij => ?_
    have q1 : i < d'.size := by simpa using hi
    have q2 : j < d'.size := by simpa using hj
    have h5 := hs i j (Nat.zero_le _) hij (by omega)
    rw [getElem!_pos d' j q2, getElem!_pos d' i q1] at h5
    have h6 : ¬ ltR d'[j] d'[i] := fun e => by rw [(ltOf_cR _ _).2 e] at h5; cases h5
    have h7 : d'[i] ≠ d'[j] := fun e => by
      have hnd := p4.nodup_iff.2 hn
      have h9 := List.pairwise_iff_getElem.1 hnd i j hi hj hij
      simp only [Array.getElem_toList] at h9
      exact h9 e
    simp only [Array.getElem_toList]
    unfold ltR at h6 ⊢
    have h8 : ¬ (d'[i].1 = d'[j].1 ∧ d'[i].2 = d'[j].2) := fun e => h7 (Prod.ext e.1 e.2)
    omega
  · have := rowPr_sorted (n := n) (os := os) (ts := d'.toList) (ss := ss) (by simpa using p1') hbase hb h1 h2 h3
    simpa using this
  · unfold sortWorldK putRowK
    exact grownBy_sortedV _

set_option maxRecDepth 100000 in
set_option maxHeartbeats 1000000 in
theorem mapsKeys_any (b : Nat) (w : World) : Calls Try.prog 41 #[.map (some b)] w fun e w' => e = .returned (.func (.func 63) #[] #[.pointer (some ⟨w.heap.size, 0, none⟩)]) ∧ w' = w.alloc (.cells #[.map (some b)] 41) := by
  go_enter Try.func41, Try.ntmps41
  go_wp2
  go_ret
  exact ⟨rfl, rfl⟩

set_option maxRecDepth 100000 in
set_option maxHeartbeats 2000000 in
theorem sortedFunc_any (g : Nat) (lb : Array Value) (eg : ∀ args w, (callFunc g args).run Try.prog w = .ok (.enter g args) w) (S : List Pr → Prop) (N : Nat) (hN : N ≤ 1000000) (w : World) (hS : ∀ ss, S ss → ss.Nodup ∧ ss.length ≤ 1000000) (hseq : SeqGives Fence.wide 1 Try.prog g lb refV S N w) :
    Calls Try.prog 40 #[.func (.func g) #[] lb, .func (.func 42) #[] #[]] w fun e w' => ∃ (v : Value) (ss ts : List Pr), e = .returned v ∧ S ss ∧ ts.Perm ss ∧ Rise ts ∧ RowPr 34 w.heap.size v ts w' ∧ Below w.heap.size w w' := by
  have C := callsIn_wide.1 (collectR_in 3 (by omega) g lb eg S N hN w hseq)
  go_enter Try.func40, Try.ntmps40
  go_wp2_with fail
  go_fit C
  rintro e w1 ⟨v, ss, rfl, hSs, hrow, hnil, hb⟩
  clear C
  obtain ⟨hn, hl⟩ := hS ss hSs
  rcases hrow.2 with ⟨rfl, h0⟩ | ⟨g1, cap, cur, rfl, hbase, hb1, h1, h2, h3, h4⟩
  · have E := AnyF.slices_SortFunc_none Try.sortA none 0 (.func (.func 42) #[] #[]) w1
    change Calls Try.prog 62 _ _ _ at E
    have hss : ss = [] := List.length_eq_zero_iff.1 h0
    subst hss
    have HH : Hid (_ ∧ _ ∧ _) := ⟨hSs, hrow, hb⟩
    clear hSs hrow hb hnil hn hl hseq
    go_wp2_with fail
    go_fit E
    rintro e w2 ⟨rfl, rfl⟩
    go_wp2
    go_ret
    exact ⟨_, [], [], rfl, HH.out.1, List.Perm.refl _, List.Pairwise.nil, HH.out.2.1, HH.out.2.2⟩
  · have E := sortR_any g1 cap w.heap.size ss w1 hrow hn hl
    have HH : Hid (_ ∧ _ ∧ _) := ⟨hSs, hbase, hb⟩
    clear hSs hrow hb hnil hn hl hseq hb1 h1 h2 h3 h4 hbase
    go_wp2_with fail
    go_fit E
    rintro e w2 ⟨rfl, ts, q1, q2, q3, q4⟩
    have HQ : Hid (_ ∧ _ ∧ _) := ⟨q1, q2, q3⟩
    have HB : Hid (Below w.heap.size w w2) := HH.out.2.2.grown q4 HH.out.2.2.size (fun k e => by cases e; exact HH.out.2.1)
    clear q1 q2 q3 q4 E
    go_wp2
    go_ret
    exact ⟨_, ss, ts, rfl, HH.out.1, HQ.out.1, HQ.out.2.1, HQ.out.2.2, HB.out⟩

set_option maxRecDepth 100000 in
set_option maxHeartbeats 2000000 in
theorem risingKeys_any (b : Nat) (L : List (Pr × Value)) (w : World) (M : MapL w b L) (hl : L.length ≤ 1000000) :
    Calls Try.prog 23 #[.map (some b)] w fun e w' => ∃ (v : Value) (ts : List Pr), e = .returned v ∧ ts.Perm (L.map (·.1)) ∧ Rise ts ∧ RowPr 34 w.heap.size v ts w' ∧ Below w.heap.size w w' := by
  have b0 := (Below.refl w.heap.size w).alloc (Nat.le_refl _) (.cells #[.map (some b)] 41)
  have x0 := heap_alloc_new w (.cells #[.map (some b)] 41)
  have eg : ∀ args w, (callFunc 63 args).run Try.prog w = .ok (.enter 63 args) w := enters_of Try.func63 (by kernel_rfl) rfl
  have G := keysR_gives 1 (by omega) w.heap.size b L (w.alloc (.cells #[.map (some b)] 41)) (by simp) (Lib.cell_of_heap x0 0) (M.below b0)
  have E := sortedFunc_any _ _ eg _ L.length hl (w.alloc (.cells #[.map (some b)] 41)) (fun ss h => ⟨h.nodup_iff.2 M.nd, by have := h.length_eq; simp at this; omega⟩) G
  have K := mapsKeys_any b w
  have HB : Hid _ := b0
  clear b0 x0 eg G M
  go_enter Try.func23, Try.ntmps23
  go_wp2_with fail
  go_fit K
  rintro e w1 ⟨rfl, rfl⟩
  go_wp2_with fail
  go_fit E
  rintro e w2 ⟨v, ss, ts, rfl, q1, q2, q3, q4, q5⟩
  have HQ : Hid (_ ∧ _ ∧ _ ∧ _) := ⟨q2.trans q1, q3, own_mono q4 HB.out.size, HB.out.trans (q5.mono HB.out.size)⟩
  clear q1 q2 q3 q4 q5 E K
  go_wp2
  go_ret
  exact ⟨v, ts, rfl, HQ.out⟩

set_option maxRecDepth 100000 in
set_option maxHeartbeats 2000000 in
theorem waiting_any (g h q : Nat) (LH LW : List (Pr × Value)) (w : World) (B : BookAt w g h q LH LW) (hl : LW.length ≤ 1000000) :
    Calls Try.prog 39 #[.pointer (some ⟨g, 0, none⟩)] w fun e w' => ∃ (v : Value) (ts : List Pr), e = .returned v ∧ ts.Perm (LW.map (·.1)) ∧ Rise ts ∧ RowPr 34 w.heap.size v ts w' ∧ Below w.heap.size w w' := by
  have E := risingKeys_any q LW w B.wait hl
  have c0 : w.cell? ⟨g, 1, none⟩ = some (.map (some q)) := Lib.cell_of_heap B.box 1
  clear B
  go_enter Try.func39, Try.ntmps39
  go_wp2_with fail
  go_fit E
  rintro e w2 ⟨v, ts, rfl, HQ⟩
  have HH : Hid _ := HQ
  clear HQ E
  go_wp2
  go_ret
  exact ⟨v, ts, rfl, HH.out⟩
end Go.Proofs.Ytbjnemmghpmjjaa
