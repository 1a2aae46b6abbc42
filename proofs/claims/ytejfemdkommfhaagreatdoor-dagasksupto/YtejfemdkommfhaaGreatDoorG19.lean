/-
  What is proved: as each theorem says.
  Conditions: as each theorem says.
-/
import Derived.Test.YtejfemdkommfhaaGreatDoorG01
import Derived.Test.YtejfemdkommfhaaGreatDoorG17
import Derived.Test.YtejfemdkommfhaaGreatDoorG18
import Derived.Deep.RegionHeld3
import Derived.Handy
namespace Go.Proofs.YtejfemdkommfhaaGreatDoor
open Go.RowKit Go.Sort
def FindP (L : List Chg) (r : Pr) (x : Int) : Prop := (x = -1 ∧ r ∉ refsOf L) ∨ ∃ k : Nat, x = k ∧ ∃ h : k < L.length, L[k].ref = r ∧ ∀ j (_ : j < k), L[j].ref ≠ r
theorem FindP.neg {L : List Chg} {r : Pr} {x : Int} (h : FindP L r x) : x < 0 ↔ r ∉ refsOf L := by
 rcases h with ⟨rfl, h⟩ | ⟨k, rfl, hk, e, _⟩
 ·exact ⟨fun _ => h, fun _ => by omega⟩
 ·exact ⟨fun h => by omega, fun h => absurd (mem_refs.2 ⟨_, List.getElem_mem hk, e⟩) h⟩
theorem FindP.range {L : List Chg} {r : Pr} {x : Int} (h : FindP L r x) : -1 ≤ x ∧ x < L.length := by
 rcases h with ⟨rfl, _⟩ | ⟨k, rfl, hk, _⟩ <;> omega
set_option maxRecDepth 100000 in
set_option maxHeartbeats 4000000 in
theorem rFind_any (v : Value) (l : List CX) (r : Pr) (w : World) (hv : IsChgs w v l) :
 Calls Tryz.prog 20 #[v, refV r] w fun e w' => (∃ x, e = .returned (.int .i64 x) ∧ FindP (l.map (·.c)) r x) ∧ Below w.heap.size w w' := by
 obtain ⟨a, cap, rfl, h1, h2, hr, h3⟩ := hv
 have H3 : Hid ((∀ x ∈ l, x.In w) ∧ (l ≠ [] → ∃ b off, a = some ⟨b, off, none⟩ ∧ b < w.heap.size ∧ ∀ i (h : i < l.length) j, j < 5 → w.cell? ⟨b, off + i * 5 + j, none⟩ = l[i].cells[j]?)) := ⟨hr, h3⟩
 have HZ : Hid (l.length ≤ 1000000) := h2
 have b0 := (Below.refl w.heap.size w).alloc (Nat.le_refl _) (.cells #[.int .i64 r.1, .int .i64 r.2] 25)
 have n0 := heap_alloc_new w (.cells #[.int .i64 r.1, .int .i64 r.2] 25)
 have HA : Hid (_ ∧ _) := ⟨b0, n0⟩
 clear h3 hr h1 h2 b0 n0
 go_enter Tryz.func20, Tryz.ntmps20
 go_wp2_with fail
 go_loopw [5] (fun i wr => ∃ k : Nat, k ≤ l.length ∧ i = .int .i64 k ∧ Hid ((∀ j (hj : j < l.length), j < k → l[j].c.ref ≠ r) ∧ Below w.heap.size w wr ∧ wr.heap[w.heap.size]? = some (.cells #[.int .i64 r.1, .int .i64 r.2] 25))) (fun i _ => l.length - (RowKit.intOf i).toNat)
 case atStart => exact ⟨0, Nat.zero_le _, rfl, fun j _ hj => absurd hj (Nat.not_lt_zero _), HA.out⟩
 case round =>
  obtain ⟨k, hk, rfl, hR⟩ := hrel
  by_cases hlt : k < l.length
  ·obtain ⟨b, off, rfl, h4, h5⟩ := H3.out.2 (fun e => by rw [e] at hlt; simp at hlt)
   obtain ⟨qa, hqa⟩ : ∃ z : Int, l[k].c.actor = z := ⟨_, rfl⟩
   obtain ⟨qs, hqs⟩ : ∃ z : Int, l[k].c.seq = z := ⟨_, rfl⟩
   have x0 : wr.cell? ⟨b, off + k * 5, none⟩ = some (.int .i64 qa) := by rw [hR.out.2.1.cell (p := ⟨b, off + k * 5, none⟩) h4, ← hqa]; exact h5 k hlt 0 (by omega)
   have x1 : wr.cell? ⟨b, off + k * 5 + 1, none⟩ = some (.int .i64 qs) := by rw [hR.out.2.1.cell (p := ⟨b, off + k * 5 + 1, none⟩) h4, ← hqs]; exact h5 k hlt 1 (by omega)
   have y0 : wr.cell? ⟨w.heap.size, 0, none⟩ = some (.int .i64 r.1) := Lib.cell_of_heap hR.out.2.2 0
   have y1 : wr.cell? ⟨w.heap.size, 1, none⟩ = some (.int .i64 r.2) := Lib.cell_of_heap hR.out.2.2 1
   have g1 : (k : Int) < l.length := by omega
   have g2 : (k : Int) < 1000000 := by have := HZ.out; omega
   have g3 : (0 : Int) ≤ k := by omega
   have HK : Hid (∃ h : k < l.length, l[k].c.ref = (qa, qs)) := ⟨hlt, by unfold Chg.ref; rw [hqa, hqs]⟩
   have HD : Hid (Below w.heap.size w wr.drew ∧ wr.drew.heap[w.heap.size]? = some (.cells #[.int .i64 r.1, .int .i64 r.2] 25) ∧ ∀ j (hj : j < l.length), j < k → l[j].c.ref ≠ r) := ⟨drew_of hR.out.2.1, hR.out.2.2, hR.out.1⟩
   clear h4 h5 hk hlt hqa hqs hR
   by_cases ha : qa = r.1
   ·have ja : (qa == r.1) = true := by rw [beq_iff_eq]; exact ha
    by_cases hs : qs = r.2
    ·have js : (qs == r.2) = true := by rw [beq_iff_eq]; exact hs
     have HE : Hid (FindP (l.map (·.c)) r (k : Int)) := by
      obtain ⟨h, e⟩ := HK.out
      refine Or.inr ⟨k, rfl, by rw [List.length_map]; exact h, ?_, fun j hj => ?_⟩
      ·rw [List.getElem_map, e, ha, hs]
      ·rw [List.getElem_map]
       exact HD.out.2.2 j (by omega) hj
     clear ha hs
     go_upto_region 4 with fail
     refine wp_region_noPanic ?_
     refine wp_region_held_drew (S := fun W => W.cell? ⟨b, off + k * 5, none⟩ = some (.int .i64 qa) ∧ W.cell? ⟨b, off + k * 5 + 1, none⟩ = some (.int .i64 qs) ∧ W.cell? ⟨w.heap.size, 0, none⟩ = some (.int .i64 r.1) ∧ W.cell? ⟨w.heap.size, 1, none⟩ = some (.int .i64 r.2)) (by kernel_rfl) (⟨x0, x1, y0, y1⟩) (fun hHeld => ?_)
     refine tk 0 rfl ?_
     refine tk 1 rfl ?_
     refine tk 2 rfl ?_
     refine tk 3 rfl ?_
     refine tk 4 rfl ?_
     refine tk 5 rfl ?_
     refine tk 6 rfl ?_
     refine tk 7 rfl ?_
     refine tk 8 rfl ?_
     refine tk 9 rfl ?_
     refine tk 10 rfl ?_
     refine tk 11 rfl ?_
     refine tk 12 rfl ?_
     refine tk 13 rfl ?_
     refine tk 14 rfl ?_
     refine tk 15 rfl ?_
     refine tk 16 rfl ?_
     refine tk 17 rfl ?_
     refine wpAnyH_done (by kernel_rfl) ?_ _
     refine NoPanic.normal ?_
     clear hHeld x0 x1 y0 y1 ja js
     generalize wr.drew = WD at *
     go_wp2
     go_ret
     exact ⟨⟨_, rfl, HE.out⟩, HD.out.1⟩
    ·have js : (qs == r.2) = false := by rw [beq_eq_false_iff_ne]; exact hs
     have HX : Hid ((qa, qs) ≠ r) := fun e => hs (congrArg Prod.snd e)
     clear ha hs
     go_upto_region 4 with fail
     refine wp_region_noPanic ?_
     refine wp_region_held_drew (S := fun W => W.cell? ⟨b, off + k * 5, none⟩ = some (.int .i64 qa) ∧ W.cell? ⟨b, off + k * 5 + 1, none⟩ = some (.int .i64 qs) ∧ W.cell? ⟨w.heap.size, 0, none⟩ = some (.int .i64 r.1) ∧ W.cell? ⟨w.heap.size, 1, none⟩ = some (.int .i64 r.2)) (by kernel_rfl) (⟨x0, x1, y0, y1⟩) (fun hHeld => ?_)
     refine tk 0 rfl ?_
     refine tk 1 rfl ?_
     refine tk 2 rfl ?_
     refine tk 3 rfl ?_
     refine tk 4 rfl ?_
     refine tk 5 rfl ?_
     refine tk 6 rfl ?_
     refine tk 7 rfl ?_
     refine tk 8 rfl ?_
     refine tk 9 rfl ?_
     refine tk 10 rfl ?_
     refine tk 11 rfl ?_
     refine tk 12 rfl ?_
     refine tk 13 rfl ?_
     refine tk 14 rfl ?_
     refine tk 15 rfl ?_
     refine tk 16 rfl ?_
     refine tk 17 rfl ?_
     refine wpAnyH_done (by kernel_rfl) ?_ _
     refine NoPanic.normal ?_
     clear hHeld x0 x1 y0 y1 ja js
     generalize wr.drew = WD at *
     go_wp2
     go_roundw
     case rel =>
      obtain ⟨h, e⟩ := HK.out
      refine ⟨k + 1, h, by go_num, fun j hj hjk => ?_, HD.out.1, HD.out.2.1⟩
      rcases Nat.lt_or_ge j k with h1 | h1
      ·exact HD.out.2.2 j hj h1
      ·obtain rfl : j = k := by omega
       rw [e]
       exact HX.out
     case measure => obtain ⟨h, _⟩ := HK.out; simp [RowKit.intOf]; omega
   ·have ja : (qa == r.1) = false := by rw [beq_eq_false_iff_ne]; exact ha
    have HX : Hid ((qa, qs) ≠ r) := fun e => ha (congrArg Prod.fst e)
    clear ha
    go_upto_region 4 with fail
    refine wp_region_noPanic ?_
    refine wp_region_held_drew (S := fun W => W.cell? ⟨b, off + k * 5, none⟩ = some (.int .i64 qa) ∧ W.cell? ⟨b, off + k * 5 + 1, none⟩ = some (.int .i64 qs) ∧ W.cell? ⟨w.heap.size, 0, none⟩ = some (.int .i64 r.1) ∧ W.cell? ⟨w.heap.size, 1, none⟩ = some (.int .i64 r.2)) (by kernel_rfl) (⟨x0, x1, y0, y1⟩) (fun hHeld => ?_)
    refine tk 0 rfl ?_
    refine tk 1 rfl ?_
    refine tk 2 rfl ?_
    refine tk 3 rfl ?_
    refine tk 4 rfl ?_
    refine tk 5 rfl ?_
    refine tk 6 rfl ?_
    refine tk 7 rfl ?_
    refine tk 8 rfl ?_
    refine sk 9 rfl ?_
    refine sk 10 rfl ?_
    refine sk 11 rfl ?_
    refine sk 12 rfl ?_
    refine sk 13 rfl ?_
    refine sk 14 rfl ?_
    refine sk 15 rfl ?_
    refine sk 16 rfl ?_
    refine tk 17 rfl ?_
    refine wpAnyH_done (by kernel_rfl) ?_ _
    refine NoPanic.normal ?_
    clear hHeld x0 x1 y0 y1 ja
    generalize wr.drew = WD at *
    go_wp2
    go_roundw
    case rel =>
     obtain ⟨h, e⟩ := HK.out
     refine ⟨k + 1, h, by go_num, fun j hj hjk => ?_, HD.out.1, HD.out.2.1⟩
     rcases Nat.lt_or_ge j k with h1 | h1
     ·exact HD.out.2.2 j hj h1
     ·obtain rfl : j = k := by omega
      rw [e]
      exact HX.out
    case measure => obtain ⟨h, _⟩ := HK.out; simp [RowKit.intOf]; omega
  ·have hke : k = l.length := by omega
   have HZ2 : Hid (FindP (l.map (·.c)) r (-1)) := by
    refine Or.inl ⟨rfl, fun e => ?_⟩
    obtain ⟨c, hc, e⟩ := mem_refs.1 e
    obtain ⟨x, hx, rfl⟩ := List.mem_map.1 hc
    obtain ⟨j, hj, ej⟩ := List.getElem_of_mem hx
    exact hR.out.1 j hj (by omega) (by rw [ej]; exact e)
   have HB : Hid (Below w.heap.size w wr) := hR.out.2.1
   clear hlt hk hR
   subst hke
   go_wp2
   go_ret
   exact ⟨⟨_, rfl, HZ2.out⟩, HB.out⟩
def aheadB (a b : Pr) : Bool := decide (a.1 < b.1 ∨ (a.1 = b.1 ∧ a.2 < b.2))
theorem ahead_iff (a b : Pr) : aheadB a b = true ↔ ltR a b := by unfold aheadB ltR; simp
theorem rAhead_any (a b : Pr) (w : World) :
 Calls Tryz.prog 24 #[refV a, refV b] w fun e w' => e = .returned (.bool (aheadB a b)) ∧ Below w.heap.size w w' := by
 have b0 := ((Below.refl w.heap.size w).alloc (Nat.le_refl _) (.cells #[.int .i64 a.1, .int .i64 a.2] 25)).alloc (by simp) (.cells #[.int .i64 b.1, .int .i64 b.2] 25)
 have HB : Hid (Below w.heap.size w _) := b0
 obtain ⟨z, hz⟩ : ∃ z : Bool, aheadB a b = z := ⟨_, rfl⟩
 rw [hz]
 have HZ : Hid (aheadB a b = z) := hz
 clear hz b0
 unfold refV
 go_enter Tryz.func24, Tryz.ntmps24
 by_cases h : a.1 = b.1
 ·have h1 : (a.1 != b.1) = false := by simp [h]
  by_cases h2 : a.2 < b.2
  ·have HE : Hid (z = true) := by show _ = _; rw [← HZ.out]; exact decide_eq_true (by omega)
   clear h
   go_wp2
   go_ret
   exact ⟨by rw [HE.out]; rfl, HB.out⟩
  ·have HE : Hid (z = false) := by show _ = _; rw [← HZ.out]; exact decide_eq_false (by omega)
   clear h
   go_wp2
   go_ret
   exact ⟨by rw [HE.out]; rfl, HB.out⟩
 ·have h1 : (a.1 != b.1) = true := by simp [h]
  by_cases h2 : a.1 < b.1
  ·have HE : Hid (z = true) := by show _ = _; rw [← HZ.out]; exact decide_eq_true (by omega)
   clear h
   go_wp2
   go_ret
   exact ⟨by rw [HE.out]; rfl, HB.out⟩
  ·have HE : Hid (z = false) := by show _ = _; rw [← HZ.out]; exact decide_eq_false (by omega)
   clear h
   go_wp2
   go_ret
   exact ⟨by rw [HE.out]; rfl, HB.out⟩
end Go.Proofs.YtejfemdkommfhaaGreatDoor
