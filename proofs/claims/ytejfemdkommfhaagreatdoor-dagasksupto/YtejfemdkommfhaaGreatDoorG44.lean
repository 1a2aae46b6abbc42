/-
  What is proved: as each theorem says.
  Conditions: as each theorem says.
-/
import Derived.Test.YtejfemdkommfhaaGreatDoorG14
import Derived.Test.YtejfemdkommfhaaGreatDoorG20
namespace Go.Proofs.YtejfemdkommfhaaGreatDoor
open Go.RowKit Go.Maps
set_option maxRecDepth 100000 in
set_option maxHeartbeats 8000000 in
theorem addL_any (w : World) (g h q : Nat) (LH LW : List (Pr × Value)) (D : List Pr) (lv v : Value) (rs : List Pr) (W : World) (Bw : BookAt w g h q LH LW) (hC : ∀ q ∈ LH, CV q.2) (hv : IsPairs w v rs) (B : Bh w g LH D lv W) (hn : D.length + rs.length ≤ 900000) :
 Calls Tryz.prog 62 #[v, .pointer (some ⟨w.heap.size + 3, 0, none⟩), .pointer (some ⟨w.heap.size + 1, 0, none⟩), .pointer (some ⟨w.heap.size, 0, none⟩)] W fun e w' => e = .returned (.tuple #[]) ∧ ∃ nv, Bh w g LH (addR D rs) nv w' := by
 obtain ⟨a, cap, rfl, h1, h2, hr, h3⟩ := hv
 have H3 : Hid (rs ≠ [] → ∃ b off, a = some ⟨b, off, none⟩ ∧ _) := h3
 have HA : Hid (BookAt w g h q LH LW ∧ (∀ q ∈ LH, CV q.2) ∧ Bh w g LH D lv W ∧ D.length + rs.length ≤ 900000 ∧ (∀ q ∈ rs, R64 q)) := ⟨Bw, hC, B, hn, hr⟩
 clear h3 h1 h2 Bw hC B hn hr
 go_enter Tryz.func62, Tryz.ntmps62
 go_wp2_with fail
 go_loopw [9] (fun i wr => ∃ (k : Nat) (nv : Value), k ≤ rs.length ∧ i = .int .i64 k ∧ Hid (Bh w g LH (addR D (rs.take k)) nv wr)) (fun i _ => rs.length - (RowKit.intOf i).toNat)
 case atStart => exact ⟨0, lv, Nat.zero_le _, rfl, HA.out.2.2.1⟩
 case round =>
  obtain ⟨k, nv, hk, rfl, hB⟩ := hrel
  by_cases hlt : k < rs.length
  ·obtain ⟨b, off, rfl, h4, h5⟩ := H3.out (fun e => by rw [e] at hlt; simp at hlt)
   have hbel := hB.out.bel
   have x0 : wr.cell? ⟨b, off + k * 2, none⟩ = some (.int .i64 rs[k].1) := by rw [hbel.cell (p := ⟨b, off + k * 2, none⟩) h4]; exact (h5 k hlt).1
   have x1 : wr.cell? ⟨b, off + k * 2 + 1, none⟩ = some (.int .i64 rs[k].2) := by rw [hbel.cell (p := ⟨b, off + k * 2 + 1, none⟩) h4]; exact (h5 k hlt).2
   have g1 : (k : Int) < rs.length := by omega
   have g2 : (k : Int) < 1000000 := by have := HA.out.2.2.2.1; omega
   have h64 : R64 rs[k] := HA.out.2.2.2.2 _ (List.getElem_mem hlt)
   have hlen := addR_len D (rs.take k)
   rw [List.length_take] at hlen
   have hD1 : addR D (rs.take (k + 1)) = if rs[k] ∈ addR D (rs.take k) then addR D (rs.take k) else addR D (rs.take k) ++ [rs[k]] := by
    rw [List.take_succ_eq_append_getElem hlt, addR_snoc]
   obtain ⟨r, hq⟩ : ∃ q : Pr, rs[k] = q := ⟨_, rfl⟩
   obtain ⟨D', hD'⟩ : ∃ D', addR D (rs.take k) = D' := ⟨_, rfl⟩
   rw [hD'] at hB hD1 hlen
   rw [hq] at x0 x1 h64 hD1
   have HK : Hid (k < rs.length ∧ D'.length ≤ 900000) := ⟨hlt, by have := HA.out.2.2.2.1; omega⟩
   have HD : Hid (addR D (rs.take (k + 1)) = _) := hD1
   have bA := (Below.refl wr.heap.size wr).alloc (Nat.le_refl _) (.cells #[.int .i64 r.1, .int .i64 r.2] 25)
   have hB1 := hB.out.below bA
   have N := heap_alloc_new wr (.cells #[.int .i64 r.1, .int .i64 r.2] 25)
   have hlk := hB1.m.look1 Tryz.underlying102 (zeroI _) h64
   rw [lk_ones] at hlk
   have c1 : (wr.alloc (.cells #[.int .i64 r.1, .int .i64 r.2] 25)).cell? ⟨w.heap.size + 3, 0, none⟩ = some (.map (some (w.heap.size + 2))) := Lib.cell_of_heap hB1.s 0
   have hne : w.heap.size + 3 < wr.heap.size := by have := hB.out.z; omega
   have HB1 : Hid (_ ∧ _) := ⟨hB1, N⟩
   have Hk : Hid (k ≤ rs.length) := hk
   clear h5 hk hlt hD1 hlen hbel hB hq bA hB1 N
   by_cases hm : r ∈ D'
   ·rw [if_pos hm] at hlk HD
    simp only [Option.getD_some] at hlk
    have HM : Hid (r ∈ D') := hm
    clear hm
    go_wp2
    go_roundw
    case rel => exact ⟨k + 1, nv, HK.out.1, by go_num, by rw [HD.out]; exact HB1.out.1⟩
    case measure => simp [RowKit.intOf]; have := HK.out; omega
   ·rw [if_neg hm] at hlk HD
    simp only [Option.getD_none] at hlk
    have hput := HB1.out.1.m.put Tryz.underlying102 h64 (by simp; have := HK.out; omega) (.int .i64 1)
    obtain ⟨V, hrun, hM, ht⟩ := hput
    have HV : Hid (_ ∧ _) := ⟨hM, ht⟩
    have HM : Hid (r ∉ D') := hm
    clear hm hM ht
    go_upto_region 5 with fail
    have kp := Kp.turned HV.out.2
    have z0 := HB1.out.1.z
    have vb := kp.heap HB1.out.1.b (by simp)
    have vl := kp.heap HB1.out.1.l (by simp)
    have vs := kp.heap HB1.out.1.s (by simp)
    have vN := kp.heap HB1.out.2 (by simp; omega)
    have vbook := HA.out.1.below ((HB1.out.1.bel).trans (kp.below (B := w.heap.size) (by simp) HB1.out.1.bel.size))
    have vbel : Below w.heap.size w V := (HB1.out.1.bel).trans (kp.below (B := w.heap.size) (by simp) HB1.out.1.bel.size)
    have vrow : RowC (w.heap.size + 4) nv (D'.map (entV LH)) V := HB1.out.1.row.kept HV.out.2.grown (Or.inr (fun e => by have := (HB1.out.1.row.lt _ e).1; omega))
    have vz : w.heap.size + 4 ≤ V.heap.size := Nat.le_trans z0 kp.size
    have vM : MapL V (w.heap.size + 2) ((D' ++ [r]).map fun r => (r, (.int .i64 1 : Value))) := by
     have := HV.out.1
     rw [putL_new (by rw [lk_ones, if_neg HM.out])] at this
     simpa using this
    have c2 : V.cell? ⟨w.heap.size + 1, 0, none⟩ = some nv := Lib.cell_of_heap vl 0
    have c3 : V.cell? ⟨w.heap.size, 0, none⟩ = some (.pointer (some ⟨g, 0, none⟩)) := Lib.cell_of_heap vb 0
    have c4 : V.cell? ⟨g, 0, none⟩ = some (.map (some h)) := Lib.cell_of_heap vbook.box 0
    have c5 : V.cell? ⟨wr.heap.size, 0, none⟩ = some (.int .i64 r.1) := Lib.cell_of_heap vN 0
    have c6 : V.cell? ⟨wr.heap.size, 1, none⟩ = some (.int .i64 r.2) := Lib.cell_of_heap vN 1
    have s1 := lt_of_heap vl
    have s2 := lt_of_heap vb
    have s3 := lt_of_heap vbook.box
    have s4 := lt_of_heap vN
    have hlk2 := MapL.look1 (w := V.drew) ⟨vbook.has.own, vbook.has.nd, vbook.has.r64⟩ Tryz.underlying53 (zeroC _) h64
    have hcv := cv_look HA.out.2.1 r
    have hent : entV LH r = (lk LH r).getD zC := rfl
    rw [← hent] at hlk2 hcv
    have bD : Below V.heap.size V (V.drew.alloc (.cells (vcells (entV LH r)).toArray 34)) := (drew_of (Below.refl _ V)).alloc (Nat.le_refl _) _
    have x5 : (V.drew.alloc (.cells (vcells (entV LH r)).toArray 34)).heap[V.heap.size]? = some (.cells (vcells (entV LH r)).toArray 34) := heap_alloc_new V.drew _
    obtain ⟨nv', U, happ, hrow', hgr⟩ := run_appC 22 (V.drew.alloc (.cells (vcells (entV LH r)).toArray 34)) (w.heap.size + 4) (Nat.le_trans vz bD.size) nv (entV LH r) (D'.map (entV LH)) hcv (own_below vrow bD (Nat.le_refl _)) (by simp; have := HK.out; omega) V.heap.size x5
    obtain ⟨na, nn, nc, rfl⟩ : ∃ a n c, nv' = .slice a n c := by
     rcases hrow'.2 with ⟨e, _⟩ | ⟨_, _, _, e, _⟩
     ·exact ⟨_, _, _, e⟩
     ·exact ⟨_, _, _, e⟩
    have low : ∀ k, k < w.heap.size + 4 → some k ≠ nv.ownBlock := fun k hk e => by
     have := (vrow.lt k e.symm).1
     omega
    have ul := grown_heap (heap_below vl bD (Nat.le_refl _)) hgr (low _ (by omega))
    have c7 : U.cell? ⟨w.heap.size + 1, 0, none⟩ = some nv := Lib.cell_of_heap ul 0
    have uf := Lib.frozen_of_heap ul
    have s5 := lt_of_heap ul
    have HX : Hid (Bh w g LH (D' ++ [r]) (.slice na nn nc) (U.setCell ⟨w.heap.size + 1, 0, none⟩ (.slice na nn nc))) := Bh.app (heap_below vb bD (Nat.le_refl _)) (heap_below vl bD (Nat.le_refl _)) (vM.below bD) (heap_below vs bD (Nat.le_refl _)) (own_below vrow bD (Nat.le_refl _)) (vbel.trans (bD.mono vbel.size)) (Nat.le_trans vz bD.size) hgr hrow'
    obtain ⟨ea, es, et, ed, en, ec, eo, em, ee, hev⟩ := hcv
    rw [hev] at hlk2 happ hgr
    simp only [vcells] at happ hgr
    clear kp z0 vb vl vs vN vbook vbel vrow vz vM hent bD x5 hrow' low ul hgr hlk hrun c1 x0 x1
    go_region_law (refine step_append_known rfl (.tmp 19) (.tmp 26) 22 rfl nv (.slice (some ⟨V.heap.size, 0, none⟩) 1 1) (.slice na nn nc) U (by simp [Act.eval]) (by simp [Act.eval]) happ ?_)
    all_goals
     have hX := HX.out
     clear c2 c3 c4 c5 c6 c7 uf hlk2 happ s1 s2 s3 s4 s5 hev
     generalize U.setCell ⟨w.heap.size + 1, 0, none⟩ (.slice na nn nc) = U2 at *
     have HY : Hid _ := hX
     clear hX
     go_wp2
     go_roundw
     case rel => exact ⟨k + 1, _, HK.out.1, by go_num, by rw [HD.out]; exact HY.out⟩
     case measure => simp [RowKit.intOf]; have := HK.out; omega
  ·have hke : k = rs.length := by omega
   subst hke
   rw [List.take_length] at hB
   clear hlt hk
   go_wp2
   go_end0
   exact ⟨rfl, nv, hB.out⟩
set_option maxRecDepth 100000 in
set_option maxHeartbeats 8000000 in
theorem behindL_any (w : World) (g h q : Nat) (EH EW : List CE) (v : Value) (hs : List Pr) (B : Bk w g h q EH EW) (hv : IsPairs w v hs) (hk : ∀ r ∈ hs, r ∈ EH.map (·.1.ref)) (hl : hs.length ≤ 800000) :
 Calls Tryz.prog 36 #[.pointer (some ⟨g, 0, none⟩), v] w fun e w' => ∃ lv, e = .returned lv ∧ BehP w EH hs lv w' := by
 have hmm := @run_makeMap Tryz.prog
 obtain ⟨va, vc, rfl, _⟩ := id hv
 obtain ⟨W0, hW0⟩ : ∃ W0, W0 = (((w.alloc (.cells #[.pointer (some ⟨g, 0, none⟩)] 26)).alloc (.cells #[.slice none 0 0] 22)).alloc (.map #[] 0)).alloc (.cells #[.map (some (w.heap.size + 2))] 102) := ⟨_, rfl⟩
 have B0 : Bh w g (ents EH) [] (.slice none 0 0) W0 := by
  have M2 := MapL.made ((w.alloc (.cells #[.pointer (some ⟨g, 0, none⟩)] 26)).alloc (.cells #[.slice none 0 0] 22))
  have e2 : ((w.alloc (.cells #[.pointer (some ⟨g, 0, none⟩)] 26)).alloc (.cells #[.slice none 0 0] 22)).heap.size = w.heap.size + 2 := by simp
  rw [e2] at M2
  have n1 := heap_alloc_new (w.alloc (.cells #[.pointer (some ⟨g, 0, none⟩)] 26)) (.cells #[.slice none 0 0] 22)
  rw [show (w.alloc (.cells #[.pointer (some ⟨g, 0, none⟩)] 26)).heap.size = w.heap.size + 1 from by simp] at n1
  have n3 := heap_alloc_new (((w.alloc (.cells #[.pointer (some ⟨g, 0, none⟩)] 26)).alloc (.cells #[.slice none 0 0] 22)).alloc (.map #[] 0)) (.cells #[.map (some (w.heap.size + 2))] 102)
  rw [show (((w.alloc (.cells #[.pointer (some ⟨g, 0, none⟩)] 26)).alloc (.cells #[.slice none 0 0] 22)).alloc (.map #[] 0)).heap.size = w.heap.size + 3 from by simp] at n3
  rw [hW0]
  refine ⟨heap_alloc_old (heap_alloc_old (heap_alloc_old (heap_alloc_new w _) _) _) _, heap_alloc_old (heap_alloc_old n1 _) _, M2.below ((Below.refl _ _).alloc (Nat.le_refl _) _), n3, World.ownsRow_nil _ _ _ _, ((((Below.refl _ _).alloc (Nat.le_refl _) _).alloc (by simp) _).alloc (by simp; omega) _).alloc (by simp; omega) _, by simp⟩
 have E1 := addL_any w g h q (ents EH) (ents EW) [] (.slice none 0 0) (.slice va hs.length vc) hs W0 B.book B.cvH hv B0 (by simp; omega)
 have eg : ∀ args w, (callFunc 62 args).run Tryz.prog w = .ok (.enter 62 args) w := enters_of Tryz.func62 (by kernel_rfl) rfl
 have HA : Hid (Bk w g h q EH EW ∧ (∀ r ∈ hs, r ∈ EH.map (·.1.ref))) := ⟨B, hk⟩
 rw [hW0] at E1
 clear B0 hW0 B hv hk
 go_enter Tryz.func36, Tryz.ntmps36
 go_wp2_with fail
 go_fit E1
 rintro e w1 ⟨rfl, lv, hB1⟩
 have HB1 : Hid _ := hB1
 clear E1 hB1
 go_wp2_with fail
 go_loopw [8] (fun i wr => ∃ (k : Nat) (D : List Pr) (lv : Value), k ≤ D.length ∧ i = .int .i64 k ∧ Hid (D = behS (depE EH) hs k ∧ (∀ r ∈ D, r ∈ EH.map (·.1.ref)) ∧ Bh w g (ents EH) D lv wr)) (fun i _ => 200 - (RowKit.intOf i).toNat)
 case atStart => exact ⟨0, _, lv, Nat.zero_le _, rfl, rfl, fun r hr => HA.out.2 r (by have := (addR_mem [] hs r).1 hr; simpa using this), HB1.out⟩
 case round =>
  clear HB1 lv
  obtain ⟨k, D, lv, hkD, rfl, hB⟩ := hrel
  have hnd : D.Nodup := by have := hB.out.2.2.m.nd; simpa [Function.comp_def] using this
  have hlen : D.length ≤ 120 := by
   have h1 := nodup_len hnd hB.out.2.1
   have h2 := HA.out.1.many
   rw [List.length_map] at h1
   omega
  have c0 : wr.cell? ⟨w.heap.size + 1, 0, none⟩ = some lv := Lib.cell_of_heap hB.out.2.2.l 0
  have s0 := lt_of_heap hB.out.2.2.l
  have hcvs : ∀ u ∈ D.map (entV (ents EH)), CV u := fun u hu => by
   obtain ⟨r, _, rfl⟩ := List.mem_map.1 hu
   exact cv_look HA.out.1.cvH r
  by_cases hlt : k < D.length
  ·have hrow := hB.out.2.2.row
   rcases hrow.2 with ⟨_, h0⟩ | ⟨gb, cap, cur, rfl, hg, hcur, hcap, hm, hz, ht⟩
   ·simp at h0; rw [h0] at hlt; simp at hlt
   rw [List.length_map] at hcap c0
   have hrk : D[k] ∈ EH.map (·.1.ref) := hB.out.2.1 _ (List.getElem_mem hlt)
   obtain ⟨p, hp, hpr, hpv, hpd⟩ := ent_of hrk
   obtain ⟨hchg, hchk⟩ := HA.out.1.chgs p (List.mem_append_left _ hp)
   obtain ⟨ud, uo, lo, h1, h2, h3, _⟩ := hchg
   obtain ⟨da, dc, rfl, _⟩ := id h3
   have hcell : wr.cell? ⟨gb, k * 5 + 3, none⟩ = some (.slice da p.1.deps.length dc) := by
    have := hrow.cellAt (k * 5 + 3) (by rw [List.length_map]; omega)
    rw [flat_at hcvs k (by simpa using hlt) 3 (by omega)] at this
    rw [this]
    simp only [List.getElem_map]
    rw [hpv, h1]
    rfl
   have E := addL_any w g h q (ents EH) (ents EW) D _ (.slice da p.1.deps.length dc) p.1.deps wr HA.out.1.book HA.out.1.cvH h3 hB.out.2.2 (by have := (chk_few hchk).1; omega)
   have HN : Hid (addR D p.1.deps = behS (depE EH) hs (k + 1) ∧ ∀ r ∈ addR D p.1.deps, r ∈ EH.map (·.1.ref)) := by
    refine ⟨?_, fun r hr => ?_⟩
    ·show _ = addR (behS (depE EH) hs k) (depE EH ((behS (depE EH) hs k).getD k (0, 0)))
     rw [← hB.out.1]
     simp [List.getD, hlt, hpd]
    ·rcases (addR_mem _ _ r).1 hr with e | e
     ·exact hB.out.2.1 r e
     ·exact clo_all HA.out.1.clo p hp r e
   have HK : Hid (k < D.length ∧ D.length ≤ 120) := ⟨hlt, hlen⟩
   have g1 : (k : Int) < D.length := by omega
   have g2 : (k : Int) < 120 := by omega
   have HM : Hid (∀ r, r ∈ D → r ∈ addR D p.1.deps) := fun r hr => (addR_mem _ _ r).2 (Or.inl hr)
   have HND : Hid (D.Nodup) := hnd
   have s1 := lt_of_heap hcur
   clear hB hkD hnd hlen hcvs hlt hrow hrk hp hpr hpv hpd hchk h1 h2 h3 hg hcur hcap hm hz ht
   go_wp2_with fail
   go_fit E
   rintro e w2 ⟨rfl, lv2, hB2⟩
   have HB2 : Hid _ := hB2
   have HL : Hid (k + 1 ≤ (addR D p.1.deps).length) := by
    have := nodup_len HND.out HM.out
    have := HK.out
    show _ ≤ _
    omega
   clear E hB2 c0 hcell
   go_wp2
   go_roundw
   case rel => exact ⟨k + 1, _, lv2, HL.out, by go_num, HN.out.1, HN.out.2, HB2.out⟩
   case measure => simp [RowKit.intOf]; have := HK.out; omega
  ·have hke : k = D.length := by omega
   obtain ⟨la, ln, lc, rfl⟩ : ∃ a n c, lv = .slice a n c := by
    rcases hB.out.2.2.row.2 with ⟨e, _⟩ | ⟨_, _, _, e, _⟩
    ·exact ⟨_, _, _, e⟩
    ·exact ⟨_, _, _, e⟩
   have hln : ln = D.length := by
    rcases hB.out.2.2.row.2 with ⟨e, h0⟩ | ⟨_, _, _, e, _⟩
    ·simp at h0; have := (Value.slice.inj e).2.1; rw [h0]; simpa using this
    ·have := (Value.slice.inj e).2.1; simpa using this
   subst hln
   have HND : Hid (D.Nodup) := hnd
   have HK : Hid (k = D.length) := hke
   have g1 : ¬ (k : Int) < D.length := by omega
   clear hlt hcvs hnd hlen hkD hke
   go_wp2
   go_ret
   exact ⟨_, rfl, D, k, own_mono hB.out.2.2.row (Nat.le_add_right _ _), hB.out.1, HK.out, HND.out, hB.out.2.1, hB.out.2.2.bel⟩
end Go.Proofs.YtejfemdkommfhaaGreatDoor
namespace Go.Proofs.YtejfemdkommfhaaGreatDoor
open Go.RowKit Go.Sort
def refsS (L : List Chg) : List Pr := L.foldl (fun m c => putS m c.ref) []
theorem refsS_snoc (L : List Chg) (c : Chg) : refsS (L ++ [c]) = putS (refsS L) c.ref := by unfold refsS; rw [List.foldl_append]; rfl
theorem refsS_facts (L : List Chg) : Rise (refsS L) ∧ (∀ x, x ∈ refsS L ↔ x ∈ refsOf L) ∧ (refsS L).length ≤ L.length := by
 have key : ∀ (L : List Chg) (m : List Pr), Rise m → Rise (L.foldl (fun m c => putS m c.ref) m) ∧ (∀ x, x ∈ L.foldl (fun m c => putS m c.ref) m ↔ x ∈ m ∨ x ∈ refsOf L) ∧ (L.foldl (fun m c => putS m c.ref) m).length ≤ m.length + L.length := by
  intro L
  induction L with
  | nil => intro m h; exact ⟨h, fun x => by simp [refsOf], by simp⟩
  | cons c L ih =>
   intro m h
   rw [List.foldl_cons]
   obtain ⟨h1, h2, h3⟩ := ih (putS m c.ref) (rise_putS h)
   refine ⟨h1, fun x => ?_, ?_⟩
   ·rw [h2 x, mem_putS]
    unfold refsOf
    rw [List.map_cons, List.mem_cons]
    constructor
    ·rintro ((h | h) | h)
     ·exact Or.inr (Or.inl h)
     ·exact Or.inl h
     ·exact Or.inr (Or.inr h)
    ·rintro (h | h | h)
     ·exact Or.inl (Or.inr h)
     ·exact Or.inl (Or.inl h)
     ·exact Or.inr h
   ·have := putS_len m c.ref
    rw [List.length_cons]
    omega
 obtain ⟨h1, h2, h3⟩ := key L [] List.Pairwise.nil
 exact ⟨h1, fun x => (h2 x).trans ⟨fun h => h.elim (fun h => by cases h) id, Or.inr⟩, by unfold refsS; simpa using h3⟩
set_option maxRecDepth 100000 in
set_option maxHeartbeats 8000000 in
theorem rRefs_any (v : Value) (l : List CX) (w : World) (hv : IsChgs w v l) (hl : l.length ≤ 1000) :
 Calls Tryz.prog 7 #[v] w fun e w' => (∃ u, e = .returned u ∧ IsPairs w' u (refsS (l.map (·.c))) ∧ Wh u) ∧ Below w.heap.size w w' := by
 obtain ⟨la, ln, lc, rfl⟩ : ∃ a n c, v = .slice a n c := by obtain ⟨a, c, e, _⟩ := hv; exact ⟨_, _, _, e⟩
 obtain ⟨HLN⟩ : Nonempty (Hid (ln = l.length)) := ⟨by obtain ⟨a, c, e, _⟩ := hv; exact (Value.slice.inj e).2.1⟩
 have HV : Hid (IsChgs w (.slice la ln lc) l ∧ l.length ≤ 1000) := ⟨hv, hl⟩
 clear hv hl
 go_enter Tryz.func7, Tryz.ntmps7
 go_wp2_with fail
 go_loopw [3, 4] (fun xo xi wr => ∃ (i : Nat) (vo : Value), i ≤ l.length ∧ xi = .int .i64 i ∧ vo = xo ∧ Hid (IsPairs wr vo (refsS ((l.take i).map (·.c))) ∧ Wh vo ∧ Below w.heap.size w wr)) (fun _ xi _ => l.length - (RowKit.intOf xi).toNat)
 case atStart => exact ⟨0, _, Nat.zero_le _, rfl, rfl, isPairs_nil _ _ _, Or.inl rfl, Below.refl _ _⟩
 case round =>
  obtain ⟨i, vo, hi, rfl, rfl, hR⟩ := hrel
  by_cases hlt : i < l.length
  ·obtain ⟨a', c', e9, _, _, hIn, h4⟩ := id HV.out.1
   obtain ⟨cb, co, ha', h5, h6⟩ := h4 (fun e => by rw [e] at hlt; simp at hlt)
   have hla : la = some ⟨cb, co, none⟩ := (Value.slice.inj e9).1.trans ha'
   obtain ⟨x, hx⟩ : ∃ z : CX, l[i] = z := ⟨_, rfl⟩
   obtain ⟨⟨i1, i2, _⟩, dd, dn, dc, uo, um, ue, eud, euo⟩ := CX.form (hIn x (by rw [← hx]; exact List.getElem_mem hlt))
   obtain ⟨ca, hca⟩ : ∃ z : Int, x.c.actor = z := ⟨_, rfl⟩
   obtain ⟨cs, hcs⟩ : ∃ z : Int, x.c.seq = z := ⟨_, rfl⟩
   obtain ⟨ct, hct⟩ : ∃ z : Int, x.c.start = z := ⟨_, rfl⟩
   have hc : ∀ j, j < 5 → wr.cell? ⟨cb, co + i * 5 + j, none⟩ = x.cells[j]? := fun j hj => by rw [hR.out.2.2.cell (p := ⟨cb, co + i * 5 + j, none⟩) h5, ← hx]; exact h6 i hlt j hj
   have x0 : wr.cell? ⟨cb, co + i * 5, none⟩ = some (.int .i64 ca) := by rw [← hca]; exact hc 0 (by omega)
   have x1 : wr.cell? ⟨cb, co + i * 5 + 1, none⟩ = some (.int .i64 cs) := by rw [← hcs]; exact hc 1 (by omega)
   have x2 : wr.cell? ⟨cb, co + i * 5 + 2, none⟩ = some (.int .i64 ct) := by rw [← hct]; exact hc 2 (by omega)
   have x3 : wr.cell? ⟨cb, co + i * 5 + 3, none⟩ = some (.slice dd dn dc) := by rw [← eud]; exact hc 3 (by omega)
   have x4 : wr.cell? ⟨cb, co + i * 5 + 4, none⟩ = some (.slice uo um ue) := by rw [← euo]; exact hc 4 (by omega)
   have HX : Hid ((∃ h : i < l.length, l[i] = x) ∧ x.c.ref = (ca, cs) ∧ R64 (ca, cs)) := ⟨⟨hlt, hx⟩, by unfold Chg.ref; rw [hca, hcs], by rw [← hca]; exact i1, by rw [← hcs]; exact i2⟩
   subst hla
   have g1 : (i : Int) < ln := by have := HLN.out; omega
   have g3 : (0 : Int) ≤ i := by omega
   have E1 := rRefC_any ca cs ct dd dn dc uo um ue wr
   have HR : Hid (IsPairs wr vo (refsS ((l.take i).map (·.c))) ∧ Wh vo ∧ Below w.heap.size w wr) := hR
   clear e9 hIn h4 ha' h5 h6 hx eud euo hca hcs hct hi hlt hR hc i1 i2
   go_wp2_with fail
   go_fit E1
   rintro e w1 ⟨rfl, b1⟩
   clear E1 x0 x1 x2 x3 x4
   have E2 := rPutR_any vo _ (ca, cs) w1 (HR.out.1.below b1) HR.out.2.1 HX.out.2.2 (by
    have h1 := (refsS_facts ((l.take i).map (·.c))).2.2
    rw [List.length_map, List.length_take] at h1
    have := HV.out.2
    omega)
   have HB1 : Hid (Below w.heap.size w w1) := HR.out.2.2.trans (b1.mono HR.out.2.2.size)
   unfold refV at E2
   clear b1 g1 g3
   go_wp2_with fail
   refine Calls.mono E2 ?_
   rintro e w2 ⟨⟨u, rfl, h1, h2, _⟩, b2⟩
   clear E2
   have HN : Hid (IsPairs w2 u (refsS ((l.take (i + 1)).map (·.c))) ∧ Wh u ∧ Below w.heap.size w w2) := by
    obtain ⟨⟨h, e⟩, er, _⟩ := HX.out
    refine ⟨?_, h2, HB1.out.trans (b2.mono HB1.out.size)⟩
    rw [List.take_succ_eq_append_getElem h, List.map_append, List.map_cons, List.map_nil, refsS_snoc, e, er]
    exact h1
   clear h1 h2 b2
   have g2 : (i : Int) < 1000 := by obtain ⟨⟨h, _⟩, _⟩ := HX.out; have := HV.out.2; omega
   go_wp2
   go_roundw
   case rel => obtain ⟨⟨h, _⟩, _⟩ := HX.out; exact ⟨i + 1, u, h, by go_num, rfl, HN.out⟩
   case measure => obtain ⟨⟨h, _⟩, _⟩ := HX.out; simp [RowKit.intOf]; omega
  ·have hme : ¬ (i : Int) < ln := by have := HLN.out; omega
   have HE : Hid (IsPairs wr vo (refsS (l.map (·.c))) ∧ Wh vo ∧ Below w.heap.size w wr) := by
    have := hR.out
    rw [List.take_of_length_le (by omega)] at this
    exact this
   clear hlt hi hR
   go_wp2
   go_ret
   exact ⟨⟨_, rfl, HE.out.1, HE.out.2.1⟩, HE.out.2.2⟩
end Go.Proofs.YtejfemdkommfhaaGreatDoor
