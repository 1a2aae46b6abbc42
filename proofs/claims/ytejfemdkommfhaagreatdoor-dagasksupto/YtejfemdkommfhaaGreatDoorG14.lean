/-
  What is proved: as each theorem says.
  Conditions: as each theorem says.
-/
import Derived.Test.YtejfemdkommfhaaGreatDoorG13
import Derived.Deep.LoopGhost
import Derived.Test.YtejfemdkommfhaaGreatDoorG07
namespace Go.Proofs.YtejfemdkommfhaaGreatDoor
open Go.RowKit Go.Maps
theorem flat_at {us : List Value} (h : ∀ u ∈ us, CV u) (k : Nat) (hk : k < us.length) (j : Nat) (hj : j < 5) : (us.flatMap vcells)[k * 5 + j]? = (vcells us[k])[j]? := by
 induction us generalizing k with
 | nil => simp at hk
 | cons u us ih =>
  rw [List.flatMap_cons]
  have h5 := (cv_cells (h u (List.mem_cons_self ..))).1
  cases k with
  | zero =>
   rw [List.getElem?_append_left (by omega)]
   simp
  | succ k =>
   rw [List.getElem?_append_right (by omega), h5]
   have := ih (fun x hx => h x (List.mem_cons_of_mem _ hx)) k (by simpa using hk)
   rw [show (k + 1) * 5 + j - 5 = k * 5 + j by omega, this]
   simp
def depE (E : List CE) (r : Pr) : List Pr := ((E.find? fun p => p.1.ref == r).map (·.1.deps)).getD []
theorem lk_find (E : List CE) (r : Pr) : lk (ents E) r = (E.find? fun p => p.1.ref == r).map (·.2) := by
 unfold lk ents
 rw [List.find?_map]
 simp [Function.comp_def, Option.map_map]
def behS (dep : Pr → List Pr) (hs : List Pr) : Nat → List Pr
 | 0 => addR [] hs
 | k + 1 => addR (behS dep hs k) (dep ((behS dep hs k).getD k (0, 0)))
theorem addR_mem (D rs : List Pr) (x : Pr) : x ∈ addR D rs ↔ x ∈ D ∨ x ∈ rs := by
 induction rs generalizing D with
 | nil => simp [addR]
 | cons r rs ih =>
  have e : addR D (r :: rs) = addR (if r ∈ D then D else D ++ [r]) rs := rfl
  rw [e, ih]
  by_cases hm : r ∈ D
  ·rw [if_pos hm]
   simp only [List.mem_cons]
   constructor
   ·rintro (h | h)
    ·exact Or.inl h
    ·exact Or.inr (Or.inr h)
   ·rintro (h | rfl | h)
    ·exact Or.inl h
    ·exact Or.inl hm
    ·exact Or.inr h
  ·rw [if_neg hm]
   simp only [List.mem_cons, List.mem_append, List.not_mem_nil, or_false]
   constructor
   ·rintro ((h | h) | h)
    ·exact Or.inl h
    ·exact Or.inr (Or.inl h)
    ·exact Or.inr (Or.inr h)
   ·rintro (h | h | h)
    ·exact Or.inl (Or.inl h)
    ·exact Or.inl (Or.inr h)
    ·exact Or.inr h
theorem nodup_len {D K : List Pr} (hn : D.Nodup) (hs : ∀ x ∈ D, x ∈ K) : D.length ≤ K.length := by
 induction D generalizing K with
 | nil => simp
 | cons x D ih =>
  simp only [List.nodup_cons] at hn
  have hx := hs x (List.mem_cons_self ..)
  have := ih (K := K.erase x) hn.2 (fun y hy => (List.mem_erase_of_ne (fun e => hn.1 (by rw [← e]; exact hy))).2 (hs y (List.mem_cons_of_mem _ hy)))
  rw [List.length_erase_of_mem hx] at this
  have hp : 0 < K.length := List.length_pos_of_mem hx
  simp only [List.length_cons]
  omega
theorem ent_of {E : List CE} {r : Pr} (h : r ∈ E.map (·.1.ref)) : ∃ p ∈ E, p.1.ref = r ∧ entV (ents E) r = p.2 ∧ depE E r = p.1.deps := by
 cases hf : E.find? fun p => p.1.ref == r with
 | none =>
  obtain ⟨p, hp, e⟩ := List.mem_map.1 h
  have := List.find?_eq_none.1 hf p hp
  simp [e] at this
 | some p =>
  have h1 := List.mem_of_find?_eq_some hf
  have h2 := List.find?_some hf
  refine ⟨p, h1, by simpa using h2, ?_, ?_⟩
  ·unfold entV; rw [lk_find, hf]; rfl
  ·unfold depE; rw [hf]; rfl
def BehP (w : World) (EH : List CE) (hs : List Pr) (lv : Value) (w' : World) : Prop :=
 ∃ (D : List Pr) (k : Nat), RowC w.heap.size lv (D.map (entV (ents EH))) w' ∧ D = behS (depE EH) hs k ∧ k = D.length ∧ D.Nodup ∧ (∀ r ∈ D, r ∈ EH.map (·.1.ref)) ∧ Below w.heap.size w w'
set_option maxRecDepth 100000 in
set_option maxHeartbeats 8000000 in
theorem behind_any (w : World) (g h q : Nat) (EH EW : List CE) (v : Value) (hs : List Pr) (B : Bk w g h q EH EW) (hv : IsPairs w v hs) (hk : ∀ r ∈ hs, r ∈ EH.map (·.1.ref)) (hl : hs.length ≤ 12) :
 Calls Tryz.prog 36 #[.pointer (some ⟨g, 0, none⟩), v] w fun e w' => ∃ lv, e = .returned lv ∧ BehP w EH hs lv w' := by
 have hmm := @run_makeMap Tryz.prog
 obtain ⟨va, vc, rfl, _⟩ := id hv
 obtain ⟨W0, hW0⟩ : ∃ W0, W0 = (((w.alloc (.cells #[.pointer (some ⟨g, 0, none⟩)] 26)).alloc (.cells #[.slice none 0 0] 22)).alloc (.map #[] 0)).alloc (.cells #[.map (some (w.heap.size + 2))] 102) := ⟨_, rfl⟩
 have B0 : Bh w g (ents EH) [] (.slice none 0 0) W0 := by
  have M2 := MapL.made ((w.alloc (.cells #[.pointer (some ⟨g, 0, none⟩)] 26)).alloc (.cells #[.slice none 0 0] 22))
  have e2 : ((w.alloc (.cells #[.pointer (some ⟨g, 0, none⟩)] 26)).alloc (.cells #[.slice none 0 0] 22)).heap.size = w.heap.size + 2 := by simp
  rw [e2] at M2
  have n1 := heap_alloc_new (w.alloc (.cells #[.pointer (some ⟨g, 0, none⟩)] 26)) (.cells #[.slice none 0 0] 22)
  rw [show (w.alloc (.cells #[.pointer (some ⟨g, 0, none⟩)] 26)).heap.size = w.heap.size + 1 from by simp] at n1
  have n3 := heap_alloc_new (((w.alloc (.cells #[.pointer (some ⟨g, 0, none⟩)] 26)).alloc (.cells #[.slice none 0 0] 22)).alloc (.map #[] 0)) (.cells #[.map (some (w.heap.size + 2))] 102)
  rw [show (((w.alloc (.cells #[.pointer (some ⟨g, 0, none⟩)] 26)).alloc (.cells #[.slice none 0 0] 22)).alloc (.map #[] 0)).heap.size = w.heap.size + 3 from by simp] at n3
  rw [hW0]
  refine ⟨heap_alloc_old (heap_alloc_old (heap_alloc_old (heap_alloc_new w _) _) _) _, heap_alloc_old (heap_alloc_old n1 _) _, M2.below ((Below.refl _ _).alloc (Nat.le_refl _) _), n3, World.ownsRow_nil _ _ _ _, ((((Below.refl _ _).alloc (Nat.le_refl _) _).alloc (by simp) _).alloc (by simp; omega) _).alloc (by simp; omega) _, by simp⟩
 have E1 := add_any w g h q (ents EH) (ents EW) [] (.slice none 0 0) (.slice va hs.length vc) hs W0 B.book B.cvH hv B0 (by simp; omega)
 have eg : ∀ args w, (callFunc 62 args).run Tryz.prog w = .ok (.enter 62 args) w := enters_of Tryz.func62 (by kernel_rfl) rfl
 have HA : Hid (Bk w g h q EH EW ∧ (∀ r ∈ hs, r ∈ EH.map (·.1.ref))) := ⟨B, hk⟩
 rw [hW0] at E1
 clear B0 hW0 B hv hk
 go_enter Tryz.func36, Tryz.ntmps36
 go_wp2_with fail
 go_fit E1
 rintro e w1 ⟨rfl, lv, hB1⟩
 have HB1 : Hid _ := hB1
 clear E1 hB1
 go_wp2_with fail
 go_loopw [8] (fun i wr => ∃ (k : Nat) (D : List Pr) (lv : Value), k ≤ D.length ∧ i = .int .i64 k ∧ Hid (D = behS (depE EH) hs k ∧ (∀ r ∈ D, r ∈ EH.map (·.1.ref)) ∧ Bh w g (ents EH) D lv wr)) (fun i _ => 200 - (RowKit.intOf i).toNat)
 case atStart => exact ⟨0, _, lv, Nat.zero_le _, rfl, rfl, fun r hr => HA.out.2 r (by have := (addR_mem [] hs r).1 hr; simpa using this), HB1.out⟩
 case round =>
  clear HB1 lv
  obtain ⟨k, D, lv, hkD, rfl, hB⟩ := hrel
  have hnd : D.Nodup := by have := hB.out.2.2.m.nd; simpa [Function.comp_def] using this
  have hlen : D.length ≤ 120 := by
   have h1 := nodup_len hnd hB.out.2.1
   have h2 := HA.out.1.many
   rw [List.length_map] at h1
   omega
  have c0 : wr.cell? ⟨w.heap.size + 1, 0, none⟩ = some lv := Lib.cell_of_heap hB.out.2.2.l 0
  have s0 := lt_of_heap hB.out.2.2.l
  have hcvs : ∀ u ∈ D.map (entV (ents EH)), CV u := fun u hu => by
   obtain ⟨r, _, rfl⟩ := List.mem_map.1 hu
   exact cv_look HA.out.1.cvH r
  by_cases hlt : k < D.length
  ·have hrow := hB.out.2.2.row
   rcases hrow.2 with ⟨_, h0⟩ | ⟨gb, cap, cur, rfl, hg, hcur, hcap, hm, hz, ht⟩
   ·simp at h0; rw [h0] at hlt; simp at hlt
   rw [List.length_map] at hcap c0
   have hrk : D[k] ∈ EH.map (·.1.ref) := hB.out.2.1 _ (List.getElem_mem hlt)
   obtain ⟨p, hp, hpr, hpv, hpd⟩ := ent_of hrk
   obtain ⟨hchg, hchk⟩ := HA.out.1.chgs p (List.mem_append_left _ hp)
   obtain ⟨ud, uo, lo, h1, h2, h3, _⟩ := hchg
   obtain ⟨da, dc, rfl, _⟩ := id h3
   have hcell : wr.cell? ⟨gb, k * 5 + 3, none⟩ = some (.slice da p.1.deps.length dc) := by
    have := hrow.cellAt (k * 5 + 3) (by rw [List.length_map]; omega)
    rw [flat_at hcvs k (by simpa using hlt) 3 (by omega)] at this
    rw [this]
    simp only [List.getElem_map]
    rw [hpv, h1]
    rfl
   have E := add_any w g h q (ents EH) (ents EW) D _ (.slice da p.1.deps.length dc) p.1.deps wr HA.out.1.book HA.out.1.cvH h3 hB.out.2.2 (by have := (chk_few hchk).1; omega)
   have HN : Hid (addR D p.1.deps = behS (depE EH) hs (k + 1) ∧ ∀ r ∈ addR D p.1.deps, r ∈ EH.map (·.1.ref)) := by
    refine ⟨?_, fun r hr => ?_⟩
    ·show _ = addR (behS (depE EH) hs k) (depE EH ((behS (depE EH) hs k).getD k (0, 0)))
     rw [← hB.out.1]
     simp [List.getD, hlt, hpd]
    ·rcases (addR_mem _ _ r).1 hr with e | e
     ·exact hB.out.2.1 r e
     ·exact clo_all HA.out.1.clo p hp r e
   have HK : Hid (k < D.length ∧ D.length ≤ 120) := ⟨hlt, hlen⟩
   have g1 : (k : Int) < D.length := by omega
   have g2 : (k : Int) < 120 := by omega
   have HM : Hid (∀ r, r ∈ D → r ∈ addR D p.1.deps) := fun r hr => (addR_mem _ _ r).2 (Or.inl hr)
   have HND : Hid (D.Nodup) := hnd
   have s1 := lt_of_heap hcur
   clear hB hkD hnd hlen hcvs hlt hrow hrk hp hpr hpv hpd hchk h1 h2 h3 hg hcur hcap hm hz ht
   go_wp2_with fail
   go_fit E
   rintro e w2 ⟨rfl, lv2, hB2⟩
   have HB2 : Hid _ := hB2
   have HL : Hid (k + 1 ≤ (addR D p.1.deps).length) := by
    have := nodup_len HND.out HM.out
    have := HK.out
    show _ ≤ _
    omega
   clear E hB2 c0 hcell
   go_wp2
   go_roundw
   case rel => exact ⟨k + 1, _, lv2, HL.out, by go_num, HN.out.1, HN.out.2, HB2.out⟩
   case measure => simp [RowKit.intOf]; have := HK.out; omega
  ·have hke : k = D.length := by omega
   obtain ⟨la, ln, lc, rfl⟩ : ∃ a n c, lv = .slice a n c := by
    rcases hB.out.2.2.row.2 with ⟨e, _⟩ | ⟨_, _, _, e, _⟩
    ·exact ⟨_, _, _, e⟩
    ·exact ⟨_, _, _, e⟩
   have hln : ln = D.length := by
    rcases hB.out.2.2.row.2 with ⟨e, h0⟩ | ⟨_, _, _, e, _⟩
    ·simp at h0; have := (Value.slice.inj e).2.1; rw [h0]; simpa using this
    ·have := (Value.slice.inj e).2.1; simpa using this
   subst hln
   have HND : Hid (D.Nodup) := hnd
   have HK : Hid (k = D.length) := hke
   have g1 : ¬ (k : Int) < D.length := by omega
   clear hlt hcvs hnd hlen hkD hke
   go_wp2
   go_ret
   exact ⟨_, rfl, D, k, own_mono hB.out.2.2.row (Nat.le_add_right _ _), hB.out.1, HK.out, HND.out, hB.out.2.1, hB.out.2.2.bel⟩
end Go.Proofs.YtejfemdkommfhaaGreatDoor
namespace Go.Proofs.YtejfemdkommfhaaGreatDoor
open Go.RowKit Go.Maps
theorem dRoot_any (n a : Int) (w : World) : Calls Tryz.prog 117 #[.agg #[.int .i64 n, .int .i64 a]] w fun e w' => e = .returned (.bool (rootB (n, a))) ∧ Below w.heap.size w w' := by
 unfold rootB
 by_cases h : n = 0
 ·subst h
  by_cases h2 : a = 0
  ·subst h2
   go_enter Tryz.func117, Tryz.ntmps117
   go_wp2
   go_ret
   exact ⟨by simp, (Below.refl _ _).alloc (Nat.le_refl _) _⟩
  ·have q : (a == 0) = false := by simp [h2]
   go_enter Tryz.func117, Tryz.ntmps117
   go_wp2
   go_ret
   exact ⟨by simp [h2], (Below.refl _ _).alloc (Nat.le_refl _) _⟩
 ·have q : (n == 0) = false := by simp [h]
  go_enter Tryz.func117, Tryz.ntmps117
  go_wp2
  go_ret
  exact ⟨by simp [h], (Below.refl _ _).alloc (Nat.le_refl _) _⟩
def objKindM (cs : List Chg) (a : Pr) : Int := if rootB a = true then 5 else if (lookM cs a).1.kind = 2 then (lookM cs a).1.val.k else 0
def keyFitsM (cs : List Chg) (o : OpM) : Bool := if objKindM cs o.obj = 5 then !(o.key.toList == []) else if objKindM cs o.obj = 6 then o.key.toList == [] else false
def elemFitsM (cs : List Chg) (o : OpM) : Bool := rootB o.elem || ((lookM cs o.elem).1.ins && samePr (lookM cs o.elem).1.obj o.obj)
set_option maxRecDepth 100000 in
set_option maxHeartbeats 8000000 in
theorem objKind_any (v : Value) (l : List CX) (a : Pr) (w : World) (hv : IsChgs w v l) :
 Calls Tryz.prog 116 #[refV a, v] w fun e w' => e = .returned (.int .i64 (objKindM (l.map (·.c)) a)) ∧ Below w.heap.size w w' := by
 obtain ⟨a1, a2⟩ := a
 have b0 := (Below.refl w.heap.size w).alloc (Nat.le_refl _) (.cells #[.int .i64 a1, .int .i64 a2] 78)
 have HA : Hid (_ ∧ _ ∧ _) := ⟨b0, hv, heap_alloc_new w (.cells #[.int .i64 a1, .int .i64 a2] 78)⟩
 have E1 := dRoot_any a1 a2 (w.alloc (.cells #[.int .i64 a1, .int .i64 a2] 78))
 obtain ⟨va, vc, rfl, _⟩ := hv
 clear b0
 unfold objKindM
 cases hr : rootB (a1, a2) with
 | true =>
  rw [hr] at E1
  go_enter Tryz.func116, Tryz.ntmps116
  go_wp2_with fail
  go_fit E1
  rintro e w1 ⟨rfl, b1⟩
  have HB : Hid (Below w.heap.size w w1) := HA.out.1.trans (b1.mono HA.out.1.size)
  clear b1 E1
  go_wp2
  go_ret
  exact ⟨by simp, HB.out⟩
 | false =>
  rw [hr] at E1
  obtain ⟨⟨⟨ok, oo, oy, oe, oi, ⟨wk, wn, wt, wo, wa⟩, op⟩, x1, x2⟩, hp⟩ : ∃ p, lookM (l.map (·.c)) (a1, a2) = p := ⟨_, rfl⟩
  rw [hp]
  have HP : Hid _ := hp
  clear hp
  dsimp only
  obtain ⟨rk, hrk⟩ : ∃ rk : Int, (if (false : Bool) = true then (5 : Int) else if ok = 2 then wk else 0) = rk := ⟨_, rfl⟩
  rw [hrk]
  simp only [Bool.false_eq_true, if_false] at hrk
  have HRK : Hid _ := hrk
  clear hrk
  go_enter Tryz.func116, Tryz.ntmps116
  go_wp2_with fail
  go_fit E1
  rintro e w1 ⟨rfl, b1⟩
  have hb1 : Below w.heap.size w w1 := HA.out.1.trans (b1.mono HA.out.1.size)
  have X := heap_below HA.out.2.2 b1 (Nat.le_refl _)
  have c0 : w1.cell? ⟨w.heap.size, 0, none⟩ = some (.int .i64 a1) := Lib.cell_of_heap X 0
  have c1 : w1.cell? ⟨w.heap.size, 1, none⟩ = some (.int .i64 a2) := Lib.cell_of_heap X 1
  have E2 := lookUp_any _ l (a1, a2) w1 (HA.out.2.1.below hb1)
  rw [HP.out] at E2
  have s0 := lt_of_heap X
  have HB : Hid _ := hb1
  clear b1 E1 hb1 X
  go_wp2_with fail
  go_fit E2
  rintro e w2 ⟨⟨sa, sn, sc, rfl⟩, b2⟩
  have HB2 : Hid (∀ o, Below w.heap.size w (w2.alloc o)) := fun o => (HB.out.trans (b2.mono HB.out.size)).alloc (Nat.le_trans HB.out.size b2.size) o
  clear b2 E2 c0 c1 s0
  simp only [knVal, knCells, opCells, List.cons_append, List.nil_append]
  by_cases h2 : ok = 2
  ·subst h2
   go_wp2
   go_ret
   exact ⟨by rw [← HRK.out]; simp, HB2.out _⟩
  ·have h2b : (ok == 2) = false := by simp [h2]
   go_wp2
   go_ret
   exact ⟨by rw [← HRK.out]; simp [h2], HB2.out _⟩
set_option maxRecDepth 100000 in
set_option maxHeartbeats 8000000 in
theorem keyFits_any (v : Value) (l : List CX) (o : OpM) (pa : Option Addr) (pn pc : Nat) (w : World) (hv : IsChgs w v l) :
 Calls Tryz.prog 87 #[opVal o (.slice pa pn pc), v] w fun e w' => e = .returned (.bool (keyFitsM (l.map (·.c)) o)) ∧ Below w.heap.size w w' := by
 obtain ⟨ok, oo, oy, oe, oi, ⟨wk, wn, wt, wo, wa⟩, op⟩ := o
 simp only [opVal, opCells]
 have b0 := (Below.refl w.heap.size w).alloc (Nat.le_refl _) (.cells #[.int .i64 ok, .int .i64 oo.1, .int .i64 oo.2, .string oy, .int .i64 oe.1, .int .i64 oe.2, .bool oi, .int .i64 wk, .int .i64 wn, .string wt, .int .i64 wo, .int .i64 wa, .slice pa pn pc] 83)
 have x0 := heap_alloc_new w (.cells #[.int .i64 ok, .int .i64 oo.1, .int .i64 oo.2, .string oy, .int .i64 oe.1, .int .i64 oe.2, .bool oi, .int .i64 wk, .int .i64 wn, .string wt, .int .i64 wo, .int .i64 wa, .slice pa pn pc] 83)
 have E1 := objKind_any v l oo _ (hv.below b0)
 have HA : Hid (_ ∧ _) := ⟨b0, x0⟩
 obtain ⟨va, vc, rfl, _⟩ := hv
 clear b0 x0
 unfold keyFitsM
 dsimp only
 generalize objKindM (l.map (·.c)) oo = kk at *
 obtain ⟨eb, hem⟩ : ∃ b : Bool, (oy.toList == []) = b := ⟨_, rfl⟩
 obtain ⟨rk, hrk⟩ : ∃ rk : Bool, (if kk = 5 then !(oy.toList == []) else if kk = 6 then oy.toList == [] else false) = rk := ⟨_, rfl⟩
 rw [hrk]
 rw [hem] at hrk
 have HRK : Hid _ := hrk
 clear hrk
 go_enter Tryz.func87, Tryz.ntmps87
 go_wp2_with fail
 go_fit E1
 rintro e w1 ⟨rfl, b1⟩
 have X := heap_below HA.out.2 b1 (Nat.le_refl _)
 have c0 : w1.cell? ⟨w.heap.size, 3, none⟩ = some (.string oy) := Lib.cell_of_heap X 3
 have HB : Hid (Below w.heap.size w w1) := HA.out.1.trans (b1.mono HA.out.1.size)
 have s0 := lt_of_heap X
 clear b1 E1 X
 by_cases h5 : kk = 5
 ·subst h5
  go_wp2
  go_ret
  exact ⟨by rw [← HRK.out]; simp, HB.out⟩
 ·have h5b : (kk == 5) = false := by simp [h5]
  by_cases h6 : kk = 6
  ·subst h6
   go_wp2
   go_ret
   exact ⟨by rw [← HRK.out]; simp, HB.out⟩
  ·have h6b : (kk == 6) = false := by simp [h6]
   go_wp2
   go_ret
   exact ⟨by rw [← HRK.out]; simp [h5, h6], HB.out⟩
set_option maxRecDepth 100000 in
set_option maxHeartbeats 8000000 in
theorem elemFits_any (v : Value) (l : List CX) (o : OpM) (pa : Option Addr) (pn pc : Nat) (w : World) (hv : IsChgs w v l) :
 Calls Tryz.prog 88 #[opVal o (.slice pa pn pc), v] w fun e w' => e = .returned (.bool (elemFitsM (l.map (·.c)) o)) ∧ Below w.heap.size w w' := by
 obtain ⟨ok, oo, oy, ⟨oe1, oe2⟩, oi, ⟨wk, wn, wt, wo, wa⟩, op⟩ := o
 simp only [opVal, opCells]
 have b0 := (Below.refl w.heap.size w).alloc (Nat.le_refl _) (.cells #[.int .i64 ok, .int .i64 oo.1, .int .i64 oo.2, .string oy, .int .i64 oe1, .int .i64 oe2, .bool oi, .int .i64 wk, .int .i64 wn, .string wt, .int .i64 wo, .int .i64 wa, .slice pa pn pc] 83)
 have x0 := heap_alloc_new w (.cells #[.int .i64 ok, .int .i64 oo.1, .int .i64 oo.2, .string oy, .int .i64 oe1, .int .i64 oe2, .bool oi, .int .i64 wk, .int .i64 wn, .string wt, .int .i64 wo, .int .i64 wa, .slice pa pn pc] 83)
 have E1 := dRoot_any oe1 oe2 (w.alloc (.cells #[.int .i64 ok, .int .i64 oo.1, .int .i64 oo.2, .string oy, .int .i64 oe1, .int .i64 oe2, .bool oi, .int .i64 wk, .int .i64 wn, .string wt, .int .i64 wo, .int .i64 wa, .slice pa pn pc] 83))
 have HA : Hid (_ ∧ _ ∧ _) := ⟨b0, x0, hv⟩
 obtain ⟨va, vc, rfl, _⟩ := hv
 clear b0 x0
 unfold elemFitsM
 dsimp only
 cases hr : rootB (oe1, oe2) with
 | true =>
  rw [hr] at E1
  go_enter Tryz.func88, Tryz.ntmps88
  go_wp2_with fail
  go_fit E1
  rintro e w1 ⟨rfl, b1⟩
  have HB : Hid (Below w.heap.size w w1) := HA.out.1.trans (b1.mono HA.out.1.size)
  clear b1 E1
  go_wp2
  go_ret
  exact ⟨by simp, HB.out⟩
 | false =>
  rw [hr] at E1
  obtain ⟨⟨⟨ok', oo', oy', oe', oi', ⟨wk', wn', wt', wo', wa'⟩, op'⟩, x1, x2⟩, hp⟩ : ∃ p, lookM (l.map (·.c)) (oe1, oe2) = p := ⟨_, rfl⟩
  rw [hp]
  have HP : Hid _ := hp
  clear hp
  dsimp only
  have EQ := eqD oo' oo
  obtain ⟨sb, hsb⟩ : ∃ s : Bool, samePr oo' oo = s := ⟨_, rfl⟩
  rw [hsb] at EQ
  obtain ⟨rk, hrk⟩ : ∃ rk : Bool, (false || (oi' && samePr oo' oo)) = rk := ⟨_, rfl⟩
  rw [hrk]
  rw [hsb] at hrk
  have HRK : Hid _ := hrk
  clear hrk hsb
  go_enter Tryz.func88, Tryz.ntmps88
  go_wp2_with fail
  go_fit E1
  rintro e w1 ⟨rfl, b1⟩
  have hb1 : Below w.heap.size w w1 := HA.out.1.trans (b1.mono HA.out.1.size)
  have X := heap_below HA.out.2.1 b1 (Nat.le_refl _)
  have c4 : w1.cell? ⟨w.heap.size, 4, none⟩ = some (.int .i64 oe1) := Lib.cell_of_heap X 4
  have c5 : w1.cell? ⟨w.heap.size, 5, none⟩ = some (.int .i64 oe2) := Lib.cell_of_heap X 5
  have E2 := lookUp_any _ l (oe1, oe2) w1 (HA.out.2.2.below hb1)
  rw [HP.out] at E2
  have s0 := lt_of_heap X
  have HB : Hid (_ ∧ _) := ⟨hb1, X⟩
  clear b1 E1 hb1 X
  go_wp2_with fail
  go_fit E2
  rintro e w2 ⟨⟨sa, sn, sc, rfl⟩, b2⟩
  have HB2 : Hid (∀ o, Below w.heap.size w (w2.alloc o)) := fun o => (HB.out.1.trans (b2.mono HB.out.1.size)).alloc (Nat.le_trans HB.out.1.size b2.size) o
  have X2 := heap_below HB.out.2 b2 (Nat.le_refl _)
  have c1 : w2.cell? ⟨w.heap.size, 1, none⟩ = some (.int .i64 oo.1) := Lib.cell_of_heap X2 1
  have c2 : w2.cell? ⟨w.heap.size, 2, none⟩ = some (.int .i64 oo.2) := Lib.cell_of_heap X2 2
  have s1 := lt_of_heap X2
  clear b2 E2 c4 c5 s0 X2
  simp only [knVal, knCells, opCells, List.cons_append, List.nil_append]
  cases oi' with
  | true =>
   go_wp2
   go_ret
   exact ⟨by rw [← HRK.out]; simp, HB2.out _⟩
  | false =>
   go_wp2
   go_ret
   exact ⟨by rw [← HRK.out]; simp, HB2.out _⟩
end Go.Proofs.YtejfemdkommfhaaGreatDoor
