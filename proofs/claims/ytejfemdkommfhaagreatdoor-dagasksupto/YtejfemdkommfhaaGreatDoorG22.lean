/-
  What is proved: as each theorem says.
  Conditions: as each theorem says.
-/
import Derived.Test.YtejfemdkommfhaaGreatDoorG21
import Derived.Test.YtejfemdkommfhaaGreatDoorG01
import Derived.Deep.RegionHeld3
import Derived.Handy
namespace Go.Proofs.YtejfemdkommfhaaGreatDoor
open Go.RowKit Go.Sort
abbrev KE : Type := OV × Pr
def keM (l : List KE) : List (OpM × Pr) := l.map fun q => (q.1.1, q.2)
theorem keM_len (l : List KE) : (keM l).length = l.length := List.length_map _
theorem keM_at (l : List KE) (k : Nat) (h : k < (keM l).length) : (keM l)[k] = ((l[k]'(by rw [keM_len] at h; exact h)).1.1, (l[k]'(by rw [keM_len] at h; exact h)).2) := List.getElem_map ..
def kcells (l : List KE) : List Value := l.flatMap fun q => knCells q.1.1 q.1.2 q.2
theorem kcells_append (p q : List KE) : kcells (p ++ q) = kcells p ++ kcells q := by simp [kcells]
theorem kn_len (o : OpM) (pv : Value) (a : Pr) : (knCells o pv a).length = 15 := by simp [knCells, opCells]
theorem kcells_at (p : List KE) (i : Nat) (h : i < p.length) (j : Nat) (hj : j < 15) : (kcells p)[i * 15 + j]? = (knCells p[i].1.1 p[i].1.2 p[i].2)[j]? := by
 induction p generalizing i with
 | nil => simp at h
 | cons q r ih =>
  have e : kcells (q :: r) = knCells q.1.1 q.1.2 q.2 ++ kcells r := by simp [kcells]
  rw [e]
  cases i with
  | zero => rw [Nat.zero_mul, Nat.zero_add, List.getElem?_append_left (by rw [kn_len]; exact hj)]; rfl
  | succ i =>
   rw [List.getElem?_append_right (by rw [kn_len]; omega), kn_len, show (i + 1) * 15 + j - 15 = i * 15 + j by omega]
   exact ih i (by simpa using h)
abbrev RowK (B : Nat) (v : Value) (l : List KE) (w : World) : Prop := w.ownsRow B 87 15 v l.length (kcells l)
def IsKn (w : World) (v : Value) (l : List KE) : Prop :=
 ∃ a cap, v = .slice a l.length cap ∧ l.length ≤ cap ∧ l.length ≤ 1000000 ∧ (∀ q ∈ l, IsPairs w q.1.2 q.1.1.preds) ∧ (l ≠ [] → ∃ b off, a = some ⟨b, off, none⟩ ∧ b < w.heap.size ∧ ∀ i (h : i < l.length) j, j < 15 → w.cell? ⟨b, off + i * 15 + j, none⟩ = (knCells l[i].1.1 l[i].1.2 l[i].2)[j]?)
theorem IsKn.below {w w' : World} {v : Value} {l : List KE} (h : IsKn w v l) (hb : Below w.heap.size w w') : IsKn w' v l := by
 obtain ⟨a, cap, rfl, h1, h2, hr, h3⟩ := h
 refine ⟨a, cap, rfl, h1, h2, fun q hq => (hr q hq).below hb, fun hl => ?_⟩
 obtain ⟨b, off, rfl, h4, h5⟩ := h3 hl
 exact ⟨b, off, rfl, Nat.lt_of_lt_of_le h4 hb.size, fun i hi j hj => by rw [hb.cell (p := ⟨b, off + i * 15 + j, none⟩) h4]; exact h5 i hi j hj⟩
theorem RowK.kn {B : Nat} {w : World} {v : Value} {l : List KE} (h : RowK B v l w) (hl : l.length ≤ 1000000) (hr : ∀ q ∈ l, IsPairs w q.1.2 q.1.1.preds) : IsKn w v l := by
 rcases h.2 with ⟨rfl, h0⟩ | ⟨g, cap, cur, rfl, hg, hh, hc, hm, hz, ht⟩
 ·exact ⟨none, 0, by rw [h0], by omega, hl, hr, fun h => absurd (List.length_eq_zero_iff.1 h0) h⟩
 ·refine ⟨_, cap, rfl, hc, hl, hr, fun _ => ⟨g, 0, rfl, lt_of_heap hh, fun i hi j hj => ?_⟩⟩
  rw [Nat.zero_add, h.cellAt (i * 15 + j) (by omega), kcells_at l i hi j hj]
theorem infoK : (Tryz.prog.info? 87).map (fun i => (i.zero.map (·.cells.size), i.size, decide (i.bytes ≤ 200))) = some (some 15, 15, true) := by kernel_rfl
theorem kn_one (o : OpM) (pa : Option Addr) (pn pc : Nat) (a : Pr) : ∀ u ∈ knCells o (.slice pa pn pc) a, u.oneCell' = true := by
 intro u hu
 simp only [knCells, opCells, List.cons_append, List.nil_append, List.mem_cons, List.not_mem_nil, or_false] at hu
 rcases hu with rfl | rfl | rfl | rfl | rfl | rfl | rfl | rfl | rfl | rfl | rfl | rfl | rfl | rfl | rfl <;> rfl
theorem run_appK (ty : TypeId) (W : World) (B : Nat) (hB : B ≤ W.heap.size) (v : Value) (rs : List KE) (o : OpM) (pa : Option Addr) (pn pc : Nat) (a : Pr) (h : RowK B v rs W) (hl : rs.length ≤ 1000000) (x : Nat) (hx : W.heap[x]? = some (.cells (knCells o (.slice pa pn pc) a).toArray 87)) :
 ∃ v' W', (Builtin.append_ #[84, 84] ty #[v, .slice (some ⟨x, 0, none⟩) 1 1]).run Tryz.prog W = .ok v' W' ∧ RowK B v' (rs ++ [((o, .slice pa pn pc), a)]) W' ∧ W.grownBy W' v.ownBlock := by
 have hi := infoK
 cases hi0 : Tryz.prog.info? 87 with
 | none => rw [hi0] at hi; cases hi
 | some i0 =>
  rw [hi0] at hi
  simp only [Option.map_some, Option.some.injEq, Prod.mk.injEq] at hi
  obtain ⟨hz, hs, hb⟩ := hi
  obtain ⟨z, hz0, hz1⟩ := Option.map_eq_some_iff.1 hz
  have hb2 := of_decide_eq_true hb
  obtain ⟨v', W', h1, h2, h3, _⟩ := run_append_own (P := Tryz.prog) W B 84 ty 87 i0 z 15 i0.bytes Tryz.underlying84 hi0 hz0 hs rfl hz1 (by decide) v rs.length _ h ⟨x, 0, none⟩ 1 1 (knCells o (.slice pa pn pc) a) (kn_len _ _ _) (fun j y hj => by
   have ea : (⟨x, 0, none⟩ : Addr).add j = ⟨x, j, none⟩ := by unfold Addr.add; split <;> simp_all
   rw [ea]
   simp [World.cell?, hx, hj]) (kn_one o pa pn pc a) (by unfold maxLen; omega) (Nat.le_trans (Nat.mul_le_mul (show rs.length + 1 ≤ 1000001 by omega) hb2) (by decide)) hB
  refine ⟨v', W', h1, ?_, h3⟩
  show World.ownsRow _ _ _ _ _ _ _
  rw [kcells_append, List.length_append]
  simpa [kcells] using h2
def LookP (K : List (OpM × Pr)) (a : Pr) (x : Int) : Prop := (x = -1 ∧ lkK K a = none) ∨ ∃ k : Nat, x = k ∧ ∃ h : k < K.length, K[k].2 = a ∧ lkK K a = some K[k].1
theorem look_none {K : List (OpM × Pr)} {a : Pr} (h : ∀ j (hj : j < K.length), K[j].2 ≠ a) : lkK K a = none := by
 unfold lkK
 have : K.find? (fun p => p.2 == a) = none := List.find?_eq_none.2 fun x hx e => by
  obtain ⟨j, hj, rfl⟩ := List.getElem_of_mem hx
  exact h j hj (by simpa using e)
 rw [this]
 rfl
theorem look_some {K : List (OpM × Pr)} {a : Pr} {k : Nat} (hk : k < K.length) (he : K[k].2 = a) (h : ∀ j (hj : j < K.length), j < k → K[j].2 ≠ a) : lkK K a = some K[k].1 := by
 induction K generalizing k with
 | nil => simp at hk
 | cons q r ih =>
  unfold lkK
  rw [List.find?_cons]
  cases k with
  | zero =>
   simp only [List.getElem_cons_zero] at he ⊢
   rw [show (q.2 == a) = true by simpa using he]
   rfl
  | succ k =>
   have h0 := h 0 (by simp) (by omega)
   simp only [List.getElem_cons_zero] at h0
   rw [show (q.2 == a) = false by simpa using h0]
   simp only [List.getElem_cons_succ] at he ⊢
   exact ih (by simpa using hk) he (fun j hj hjk => by have := h (j + 1) (by simpa using hj) (by omega); simpa using this)
end Go.Proofs.YtejfemdkommfhaaGreatDoor
namespace Go.Proofs.YtejfemdkommfhaaGreatDoor
open Go.RowKit Go.Sort
set_option maxRecDepth 100000 in
set_option maxHeartbeats 4000000 in
theorem rLook_any (v : Value) (l : List KE) (r : Pr) (w : World) (hv : IsKn w v l) :
 Calls Tryz.prog 76 #[v, refV r] w fun e w' => (∃ x, e = .returned (.int .i64 x) ∧ LookP (keM l) r x) ∧ Below w.heap.size w w' := by
 obtain ⟨a, cap, rfl, h1, h2, hr, h3⟩ := hv
 have H3 : Hid (l ≠ [] → ∃ b off, a = some ⟨b, off, none⟩ ∧ b < w.heap.size ∧ ∀ i (h : i < l.length) j, j < 15 → w.cell? ⟨b, off + i * 15 + j, none⟩ = (knCells l[i].1.1 l[i].1.2 l[i].2)[j]?) := h3
 have HZ : Hid (l.length ≤ 1000000) := h2
 have b0 := (Below.refl w.heap.size w).alloc (Nat.le_refl _) (.cells #[.int .i64 r.1, .int .i64 r.2] 78)
 have n0 := heap_alloc_new w (.cells #[.int .i64 r.1, .int .i64 r.2] 78)
 have HA : Hid (_ ∧ _) := ⟨b0, n0⟩
 have HE := eqD
 clear h3 hr h1 h2 b0 n0
 go_enter Tryz.func76, Tryz.ntmps76
 go_wp2_with fail
 go_loopw [5] (fun i wr => ∃ k : Nat, k ≤ l.length ∧ i = .int .i64 k ∧ Hid ((∀ j (hj : j < l.length), j < k → l[j].2 ≠ r) ∧ Below w.heap.size w wr ∧ wr.heap[w.heap.size]? = some (.cells #[.int .i64 r.1, .int .i64 r.2] 78))) (fun i _ => l.length - (RowKit.intOf i).toNat)
 case atStart => exact ⟨0, Nat.zero_le _, rfl, fun j _ hj => absurd hj (Nat.not_lt_zero _), HA.out⟩
 case round =>
  obtain ⟨k, hk, rfl, hR⟩ := hrel
  by_cases hlt : k < l.length
  ·obtain ⟨b, off, rfl, h4, h5⟩ := H3.out (fun e => by rw [e] at hlt; simp at hlt)
   obtain ⟨p, hp⟩ : ∃ z : Pr, l[k].2 = z := ⟨_, rfl⟩
   have x0 : wr.cell? ⟨b, off + k * 15 + 13, none⟩ = some (.int .i64 p.1) := by rw [hR.out.2.1.cell (p := ⟨b, off + k * 15 + 13, none⟩) h4, ← hp]; exact h5 k hlt 13 (by omega)
   have x1 : wr.cell? ⟨b, off + k * 15 + 14, none⟩ = some (.int .i64 p.2) := by rw [hR.out.2.1.cell (p := ⟨b, off + k * 15 + 14, none⟩) h4, ← hp]; exact h5 k hlt 14 (by omega)
   have y0 : wr.cell? ⟨w.heap.size, 0, none⟩ = some (.int .i64 r.1) := Lib.cell_of_heap hR.out.2.2 0
   have y1 : wr.cell? ⟨w.heap.size, 1, none⟩ = some (.int .i64 r.2) := Lib.cell_of_heap hR.out.2.2 1
   have g1 : (k : Int) < l.length := by omega
   have g2 : (k : Int) < 1000000 := by have := HZ.out; omega
   have g3 : (0 : Int) ≤ k := by omega
   have HK : Hid (∃ h : k < l.length, l[k].2 = p) := ⟨hlt, hp⟩
   have HD : Hid (Below w.heap.size w wr.drew ∧ wr.drew.heap[w.heap.size]? = some (.cells #[.int .i64 r.1, .int .i64 r.2] 78) ∧ ∀ j (hj : j < l.length), j < k → l[j].2 ≠ r) := ⟨drew_of hR.out.2.1, hR.out.2.2, hR.out.1⟩
   have EQ := HE p r
   obtain ⟨sb, hsb⟩ : ∃ s : Bool, samePr p r = s := ⟨_, rfl⟩
   rw [hsb] at EQ
   have HS : Hid (samePr p r = sb) := hsb
   clear h4 h5 hk hlt hp hR hsb HE
   cases sb with
   | true =>
    have HX : Hid (LookP (keM l) r (k : Int)) := by
     obtain ⟨h, e⟩ := HK.out
     have e1 := (samePr_iff p r).1 HS.out
     have hk : k < (keM l).length := by rw [keM_len]; exact h
     have he : (keM l)[k].2 = r := by rw [keM_at]; exact e.trans e1
     refine Or.inr ⟨k, rfl, hk, he, look_some hk he (fun j hj hjk => ?_)⟩
     rw [keM_at]
     exact HD.out.2.2 j (by rw [keM_len] at hj; exact hj) hjk
    go_upto_region 4 with fail
    refine wp_region_noPanic ?_
    refine wp_region_held_drew (S := fun W => W.cell? ⟨b, off + k * 15 + 13, none⟩ = some (.int .i64 p.1) ∧ W.cell? ⟨b, off + k * 15 + 14, none⟩ = some (.int .i64 p.2) ∧ W.cell? ⟨w.heap.size, 0, none⟩ = some (.int .i64 r.1) ∧ W.cell? ⟨w.heap.size, 1, none⟩ = some (.int .i64 r.2)) (by kernel_rfl) (⟨x0, x1, y0, y1⟩) (fun hHeld => ?_)
    refine tk 0 rfl ?_
    refine tk 1 rfl ?_
    refine tk 2 rfl ?_
    refine tk 3 rfl ?_
    refine tk 4 rfl ?_
    refine tk 5 rfl ?_
    refine tk 6 rfl ?_
    refine wpAnyH_done (by kernel_rfl) ?_ _
    refine NoPanic.normal ?_
    clear hHeld x0 x1 y0 y1 EQ
    generalize wr.drew = WD at *
    go_wp2
    go_ret
    exact ⟨⟨_, rfl, HX.out⟩, HD.out.1⟩
   | false =>
    go_upto_region 4 with fail
    refine wp_region_noPanic ?_
    refine wp_region_held_drew (S := fun W => W.cell? ⟨b, off + k * 15 + 13, none⟩ = some (.int .i64 p.1) ∧ W.cell? ⟨b, off + k * 15 + 14, none⟩ = some (.int .i64 p.2) ∧ W.cell? ⟨w.heap.size, 0, none⟩ = some (.int .i64 r.1) ∧ W.cell? ⟨w.heap.size, 1, none⟩ = some (.int .i64 r.2)) (by kernel_rfl) (⟨x0, x1, y0, y1⟩) (fun hHeld => ?_)
    refine tk 0 rfl ?_
    refine tk 1 rfl ?_
    refine tk 2 rfl ?_
    refine tk 3 rfl ?_
    refine tk 4 rfl ?_
    refine tk 5 rfl ?_
    refine tk 6 rfl ?_
    refine wpAnyH_done (by kernel_rfl) ?_ _
    refine NoPanic.normal ?_
    clear hHeld x0 x1 y0 y1 EQ
    generalize wr.drew = WD at *
    go_wp2
    go_roundw
    case rel =>
     obtain ⟨h, e⟩ := HK.out
     refine ⟨k + 1, h, by go_num, fun j hj hjk => ?_, HD.out.1, HD.out.2.1⟩
     rcases Nat.lt_or_ge j k with h1 | h1
     ·exact HD.out.2.2 j hj h1
     ·obtain rfl : j = k := by omega
      rw [e]
      exact samePr_no HS.out
    case measure => obtain ⟨h, _⟩ := HK.out; simp [RowKit.intOf]; omega
  ·have hke : k = l.length := by omega
   have HZ2 : Hid (LookP (keM l) r (-1)) := by
    refine Or.inl ⟨rfl, look_none (fun j hj => ?_)⟩
    rw [keM_at]
    rw [keM_len] at hj
    exact hR.out.1 j hj (by omega)
   have HB : Hid (Below w.heap.size w wr) := hR.out.2.1
   clear hlt hk hR HE
   subst hke
   go_wp2
   go_ret
   exact ⟨⟨_, rfl, HZ2.out⟩, HB.out⟩
end Go.Proofs.YtejfemdkommfhaaGreatDoor
