/-
  What is proved: as each theorem says.
  Conditions: as each theorem says.
-/
import Derived.Test.YtejfemdkommfhaaGreatDoorG01
import Derived.Test.YtejfemdkommfhaaGreatDoorG36
import Derived.Test.YtejfemdkommfhaaGreatDoorG44
namespace Go.Proofs.YtejfemdkommfhaaGreatDoor
open Go.RowKit Go.Sort
structure MissP (L W : List Chg) (hs O : List Pr) : Prop where
 rise : Rise O
 mem : ∀ r, r ∈ O ↔ (r ∈ hs ∨ ∃ x ∈ W, r ∈ x.deps) ∧ r ∉ refsOf L ∧ r ∉ refsOf W
theorem rise_ext {l m : List Pr} (hl : Rise l) (hm : Rise m) (h : ∀ x, x ∈ l ↔ x ∈ m) : l = m := by
 refine rise_unique ?_ hl hm
 exact (List.perm_ext_iff_of_nodup (rise_nd hl) (rise_nd hm)).2 h
theorem MissP.uniq {L W V : List Chg} {hs O Q : List Pr} (hp : W.Perm V) (h : MissP L W hs O) (g : MissP L V hs Q) : O = Q := by
 refine rise_ext h.rise g.rise fun x => ?_
 rw [h.mem, g.mem]
 have e1 : (∃ y ∈ W, x ∈ y.deps) ↔ ∃ y ∈ V, x ∈ y.deps := ⟨fun ⟨y, hy, hx⟩ => ⟨y, hp.mem_iff.1 hy, hx⟩, fun ⟨y, hy, hx⟩ => ⟨y, hp.mem_iff.2 hy, hx⟩⟩
 have e2 : x ∈ refsOf W ↔ x ∈ refsOf V := (hp.map Chg.ref).mem_iff
 rw [e1, e2]
def depsOf (W : List Chg) : List Pr := W.flatMap (·.deps)
theorem mem_deps {W : List Chg} {r : Pr} : r ∈ depsOf W ↔ ∃ x ∈ W, r ∈ x.deps := List.mem_flatMap
structure MissTo (L W : List Chg) (A O : List Pr) (i : Nat) : Prop where
 rise : Rise O
 mem : ∀ r, r ∈ O ↔ r ∈ A.take i ∧ r ∉ refsOf L ∧ r ∉ refsOf W
theorem MissTo.start (L W : List Chg) (A : List Pr) : MissTo L W A [] 0 := ⟨List.Pairwise.nil, fun r => by simp⟩
theorem mem_take_succ {A : List Pr} {i : Nat} (hi : i < A.length) {r : Pr} : r ∈ A.take (i + 1) ↔ r ∈ A.take i ∨ r = A[i] := by rw [take_snocE A i hi, List.mem_append, List.mem_singleton]
theorem MissTo.put {L W : List Chg} {A O : List Pr} {i : Nat} (h : MissTo L W A O i) (hi : i < A.length) (h1 : A[i] ∉ refsOf L) (h2 : A[i] ∉ refsOf W) : MissTo L W A (putS O A[i]) (i + 1) :=
 ⟨rise_putS h.rise, fun r => by
  rw [mem_putS, h.mem, mem_take_succ hi]
  constructor
  ·rintro (e | ⟨a, b, c⟩)
   ·subst e; exact ⟨Or.inr rfl, h1, h2⟩
   ·exact ⟨Or.inl a, b, c⟩
  ·rintro ⟨a | a, b, c⟩
   ·exact Or.inr ⟨a, b, c⟩
   ·exact Or.inl a⟩
theorem MissTo.skip {L W : List Chg} {A O : List Pr} {i : Nat} (h : MissTo L W A O i) (hi : i < A.length) (h1 : A[i] ∈ refsOf L ∨ A[i] ∈ refsOf W) : MissTo L W A O (i + 1) :=
 ⟨h.rise, fun r => by
  rw [h.mem, mem_take_succ hi]
  constructor
  ·rintro ⟨a, b, c⟩
   exact ⟨Or.inl a, b, c⟩
  ·rintro ⟨a | a, b, c⟩
   ·exact ⟨a, b, c⟩
   ·subst a
    exact absurd h1 (fun e => e.elim b c)⟩
theorem MissTo.few {L W : List Chg} {A O : List Pr} {i : Nat} (h : MissTo L W A O i) : O.length ≤ A.length := nodup_len (rise_nd h.rise) fun x hx => List.mem_of_mem_take ((h.mem x).1 hx).1
theorem MissTo.done {L W : List Chg} {hs O : List Pr} {i : Nat} (h : MissTo L W (hs ++ depsOf W) O i) (hi : (hs ++ depsOf W).length ≤ i) : MissP L W hs O :=
 ⟨h.rise, fun r => by rw [h.mem, List.take_of_length_le hi, List.mem_append, mem_deps]⟩
theorem deps_len {W : List Chg} (h : ∀ x ∈ W, chk x = 0) : (depsOf W).length ≤ W.length * 12 := by
 unfold depsOf
 induction W with
 | nil => simp
 | cons a l ih =>
  rw [List.flatMap_cons, List.length_append, List.length_cons]
  have h1 := (chk_few (h a (List.mem_cons_self ..))).1
  have h2 := ih (fun x hx => h x (List.mem_cons_of_mem _ hx))
  omega
def RMissP (L W : List Chg) (hs : List Pr) (e : Ending) (w' : World) : Prop :=
 (hs.all refB = false ∧ e = .returned (.tuple #[.slice none 0 0, .int .i64 1])) ∨ (hs.all refB = true ∧ ∃ u O, e = .returned (.tuple #[u, .int .i64 0]) ∧ IsPairs w' u O ∧ Wh u ∧ MissP L W hs O)
set_option maxRecDepth 100000 in
set_option maxHeartbeats 16000000 in
theorem rMissing_any (w0 : World) (g : Nat) (EL EW : List CE) (vl vw vh : Value) (hs : List Pr) (w : World) (R : RB w0 g EL EW vl vw w) (I : RI (chgsOf EL) (chgsOf EW)) (hh : IsPairs w vh hs) (hhl : hs.length ≤ 900000) :
 Calls Tryz.prog 17 #[.pointer (some ⟨g, 0, none⟩), vh] w fun e w' => RMissP (chgsOf EL) (chgsOf EW) hs e w' ∧ Below w.heap.size w w' := by
 obtain ⟨la, lc, rfl⟩ := slice_row R.rowL
 obtain ⟨na, nc, rfl⟩ := slice_row R.rowW
 rw [List.length_map, List.length_map] at R
 obtain ⟨ln, hln⟩ : ∃ z, EL.length = z := ⟨_, rfl⟩
 obtain ⟨nn, hnn⟩ : ∃ z, EW.length = z := ⟨_, rfl⟩
 rw [hln, hnn] at R
 obtain ⟨ha, hn, hc, rfl⟩ : ∃ a n c, vh = .slice a n c := by obtain ⟨a, c, e, _⟩ := hh; exact ⟨_, _, _, e⟩
 obtain ⟨HHN⟩ : Nonempty (Hid (hn = hs.length ∧ hs.length ≤ 900000)) := ⟨by obtain ⟨a, c9, e, _⟩ := hh; exact ⟨(Value.slice.inj e).2.1, hhl⟩⟩
 have HA : Hid (RB w0 g EL EW (.slice la ln lc) (.slice na nn nc) w ∧ RI (chgsOf EL) (chgsOf EW) ∧ IsPairs w (.slice ha hn hc) hs) := ⟨R, I, hh⟩
 have HN1 : Hid (EL.length = ln ∧ EW.length = nn ∧ EL.length + EW.length ≤ 120) := ⟨hln, hnn, by have := I.few; unfold chgsOf at this; rw [List.length_map, List.length_map] at this; exact this⟩
 have HAL : Hid ((hs ++ depsOf (chgsOf EW)).length ≤ 902000) := by
  show _ ≤ _
  have h1 := deps_len I.ok
  have h2 := HN1.out.2.2
  unfold chgsOf at h1
  rw [List.length_map] at h1
  rw [List.length_append]
  unfold chgsOf
  omega
 clear R I hh hhl hln hnn
 go_enter Tryz.func17, Tryz.ntmps17
 go_wp2_with fail
 go_loopw [6, 7] (fun xo xi wr => ∃ (i : Nat) (vo : Value), i ≤ hs.length ∧ xi = .int .i64 i ∧ vo = xo ∧ Hid (RowPr 25 w.heap.size vo (hs.take i) wr ∧ (∀ x ∈ hs.take i, refB x = true) ∧ Below w.heap.size w wr)) (fun _ xi _ => hs.length - (RowKit.intOf xi).toNat)
 case atStart => exact ⟨0, _, Nat.zero_le _, rfl, rfl, World.ownsRow_nil _ _ _ _, (fun _ h => by simp at h), Below.refl _ _⟩
 case round =>
  obtain ⟨i, vo, hi, rfl, rfl, hR⟩ := hrel
  by_cases hlt : i < hs.length
  ·obtain ⟨a', c', e9, _, _, h64, h4⟩ := id HA.out.2.2
   obtain ⟨pb, po, ha', h5, h6⟩ := h4 (fun e => by rw [e] at hlt; simp at hlt)
   have hha : ha = some ⟨pb, po, none⟩ := (Value.slice.inj e9).1.trans ha'
   subst hha
   obtain ⟨⟨ra, rs⟩, hr⟩ : ∃ z : Pr, hs[i] = z := ⟨_, rfl⟩
   have y0 : wr.cell? ⟨pb, po + i * 2, none⟩ = some (.int .i64 ra) := by rw [hR.out.2.2.cell (p := ⟨pb, po + i * 2, none⟩) h5, (h6 i hlt).1, hr]
   have y1 : wr.cell? ⟨pb, po + i * 2 + 1, none⟩ = some (.int .i64 rs) := by rw [hR.out.2.2.cell (p := ⟨pb, po + i * 2 + 1, none⟩) h5, (h6 i hlt).2, hr]
   have HCL : Hid (∀ W, Below w.heap.size w W → W.cell? ⟨pb, po + i * 2, none⟩ = some (.int .i64 ra) ∧ W.cell? ⟨pb, po + i * 2 + 1, none⟩ = some (.int .i64 rs)) := fun W hW => ⟨by rw [hW.cell (p := ⟨pb, po + i * 2, none⟩) h5, (h6 i hlt).1, hr], by rw [hW.cell (p := ⟨pb, po + i * 2 + 1, none⟩) h5, (h6 i hlt).2, hr]⟩
   have HM : Hid (∃ h : i < hs.length, hs[i] = (ra, rs)) := ⟨hlt, hr⟩
   have HR : Hid (RowPr 25 w.heap.size vo (hs.take i) wr ∧ (∀ x ∈ hs.take i, refB x = true) ∧ Below w.heap.size w wr) := hR
   have g1 : (i : Int) < hn := by have := HHN.out.1; omega
   have g3 : (0 : Int) ≤ i := by omega
   have E1 := rRef_any ra rs wr
   obtain ⟨rb, hrb⟩ : ∃ z : Bool, refB (ra, rs) = z := ⟨_, rfl⟩
   rw [hrb] at E1
   have HRB : Hid (refB (ra, rs) = rb) := hrb
   clear e9 h64 h4 ha' h5 h6 hr hi hlt hR hrb
   go_wp2_with fail
   go_fit E1
   rintro e w1 ⟨rfl, b1⟩
   have HR1 : Hid (RowPr 25 w.heap.size vo (hs.take i) w1 ∧ (∀ x ∈ hs.take i, refB x = true) ∧ Below w.heap.size w w1) := ⟨own_below HR.out.1 b1 (Nat.le_refl _), HR.out.2.1, HR.out.2.2.trans (b1.mono HR.out.2.2.size)⟩
   clear E1 b1 HR y0 y1
   cases rb with
   | false =>
    have HE : Hid (hs.all refB = false) := by
     obtain ⟨h, e⟩ := HM.out
     exact all_no i h (by rw [e]; exact HRB.out)
    clear HRB
    go_wp2
    go_returns
    exact ⟨Or.inl ⟨HE.out, rfl⟩, HR1.out.2.2⟩
   | true =>
    obtain ⟨y0, y1⟩ := HCL.out w1 HR1.out.2.2
    have b9 : Below w1.heap.size w1 (w1.alloc (.cells #[.int .i64 ra, .int .i64 rs] 25)) := (Below.refl _ _).alloc (Nat.le_refl _) _
    obtain ⟨v9, U9, happ, row9, gr9⟩ := run_appR1 23 (w1.alloc (.cells #[.int .i64 ra, .int .i64 rs] 25)) w.heap.size (Nat.le_trans HR1.out.2.2.size b9.size) vo (ra, rs) (hs.take i) (own_below HR1.out.1 b9 (Nat.le_refl _)) (by have := HHN.out.2; rw [List.length_take]; omega) w1.heap.size (heap_alloc_new w1 _)
    have HNX : Hid (RowPr 25 w.heap.size v9 (hs.take (i + 1)) U9 ∧ (∀ x ∈ hs.take (i + 1), refB x = true) ∧ Below w.heap.size w U9) := by
     obtain ⟨h, e⟩ := HM.out
     rw [take_snocE hs i h, e]
     refine ⟨row9, fun x hx => ?_, (HR1.out.2.2.trans (b9.mono HR1.out.2.2.size)).grown gr9 (Nat.le_trans HR1.out.2.2.size b9.size) (fun j e => (HR1.out.1.lt j e).1)⟩
     rcases List.mem_append.1 hx with hx | hx
     ·exact HR1.out.2.1 x hx
     ·rw [List.mem_singleton.1 hx]; exact HRB.out
    clear b9 row9 gr9 HRB
    go_upto_region 4 with (first | (at_builtin; refine wp_append rfl _ _ 23 rfl _ _ _ _ rfl rfl happ ?_))
    clear happ y0 y1
    have gm : (i : Int) < 900000 := by obtain ⟨h, _⟩ := HM.out; have := HHN.out.2; omega
    go_wp2
    go_roundw
    case rel => obtain ⟨h, _⟩ := HM.out; exact ⟨i + 1, v9, h, by go_num, rfl, HNX.out⟩
    case measure => obtain ⟨h, _⟩ := HM.out; simp [RowKit.intOf]; omega
  ·have hme : ¬ (i : Int) < hn := by have := HHN.out.1; omega
   have HR : Hid (RowPr 25 w.heap.size vo hs wr ∧ hs.all refB = true ∧ Below w.heap.size w wr) := by
    have h1 := hR.out
    rw [List.take_of_length_le (by omega)] at h1
    exact ⟨h1.1, List.all_eq_true.2 h1.2.1, h1.2.2⟩
   clear hlt hi hR
   generalize wr = w1 at *
   clear wr
   go_wp2_with fail
   clear hme
   go_loopw [6, 9] (fun xo xi wr => ∃ (i : Nat) (vo : Value), i ≤ EW.length ∧ xi = .int .i64 i ∧ vo = xo ∧ Hid (RowPr 25 w.heap.size vo (hs ++ depsOf ((chgsOf EW).take i)) wr ∧ Below w.heap.size w wr)) (fun _ xi _ => EW.length - (RowKit.intOf xi).toNat)
   case atStart => exact ⟨0, _, Nat.zero_le _, rfl, rfl, by rw [List.take_zero]; simpa [depsOf] using HR.out.1, HR.out.2.2⟩
   case round =>
    have HALL : Hid (hs.all refB = true) := HR.out.2.1
    clear HR
    obtain ⟨i, vo, hi, rfl, rfl, hR⟩ := hrel
    have hR1 := HA.out.1.below hR.out.2
    have k1 : wr.cell? ⟨g, 1, none⟩ = some (.slice na nn nc) := Lib.cell_of_heap hR1.box 1
    have zg : g < wr.heap.size := lt_of_heap hR1.box
    by_cases hlt : i < EW.length
    ·have hk7 : i < (EW.map toCX).length := by rw [List.length_map]; exact hlt
     obtain ⟨a7, c7, e7, _, _, hIn, h47⟩ := hR1.isW HN1.out.2.2
     obtain ⟨cb, co, ha7, h57, h67⟩ := h47 (fun e => by rw [e] at hk7; simp at hk7)
     have hna : na = some ⟨cb, co, none⟩ := (Value.slice.inj e7).1.trans ha7
     obtain ⟨p, hp⟩ : ∃ z : CE, EW[i] = z := ⟨_, rfl⟩
     have hpm : p ∈ EW := by rw [← hp]; exact List.getElem_mem hlt
     have hpw := HA.out.1.chgs p (List.mem_append_right _ hpm)
     obtain ⟨ud, uo, plo, hpv, _, hdp, _, _, hwd, _⟩ := id hpw
     obtain ⟨da, dn, dc, rfl⟩ : ∃ a n c, ud = .slice a n c := by obtain ⟨a, c, e, _⟩ := hdp; exact ⟨_, _, _, e⟩
     have x3 : wr.cell? ⟨cb, co + i * 5 + 3, none⟩ = some (.slice da dn dc) := by
      have h8 := h67 i hk7 3 (by omega)
      rw [List.getElem_map, hp, (toCX_val hpw.chg).2.2.2, hpv] at h8
      exact h8
     obtain ⟨v9, U9, happ, row9, gr9, _⟩ := run_appP 23 wr w.heap.size hR.out.2.size vo (.slice da dn dc) (hs ++ depsOf ((chgsOf EW).take i)) p.1.deps hR.out.1 (hdp.below (HA.out.1.bel.trans (hR.out.2.mono HA.out.1.bel.size))) hwd (by
      have h1 := HAL.out
      have h2 := (chk_few (HA.out.2.1.ok _ (mem_chgs.2 ⟨p, hpm, rfl⟩))).1
      have h3 : (depsOf ((chgsOf EW).take i)).length ≤ ((chgsOf EW).take i).length * 12 := deps_len (fun x hx => HA.out.2.1.ok x (List.mem_of_mem_take hx))
      have h4 : ((chgsOf EW).take i).length ≤ 120 := by rw [List.length_take]; unfold chgsOf; rw [List.length_map]; have := HN1.out.2.2; omega
      have h5 := HHN.out.2
      rw [List.length_append]
      omega)
     have HNX : Hid (RowPr 25 w.heap.size v9 (hs ++ depsOf ((chgsOf EW).take (i + 1))) U9 ∧ Below w.heap.size w U9) := by
      have h1 : i < (chgsOf EW).length := by unfold chgsOf; rw [List.length_map]; exact hlt
      have e1 : (chgsOf EW)[i] = p.1 := by rw [show (chgsOf EW)[i] = (EW[i]).1 from List.getElem_map .., hp]
      have e2 : depsOf ((chgsOf EW).take (i + 1)) = depsOf ((chgsOf EW).take i) ++ p.1.deps := by
       rw [take_snocE _ i h1, e1]
       unfold depsOf
       rw [List.flatMap_append]
       simp
      rw [e2, ← List.append_assoc]
      exact ⟨row9, hR.out.2.grown gr9 hR.out.2.size (fun j e => (hR.out.1.lt j e).1)⟩
     have HM : Hid (i < EW.length) := hlt
     have g1 : (i : Int) < nn := by have := HN1.out.2.1; omega
     have g3 : (0 : Int) ≤ i := by omega
     clear hk7 e7 hIn h47 ha7 h57 h67 hp hpm hpw hpv hdp hwd row9 gr9 hlt hi hR hR1
     subst hna
     go_upto_region 11 with (first | (at_builtin; refine wp_append rfl _ _ 23 rfl _ _ _ _ rfl rfl happ ?_))
     clear happ x3 k1 zg
     have gm : (i : Int) < 1000 := by have := HM.out; have := HN1.out.2.2; omega
     go_wp2
     go_roundw
     case rel => exact ⟨i + 1, v9, HM.out, by go_num, rfl, HNX.out⟩
     case measure => have := HM.out; simp [RowKit.intOf]; omega
    ·obtain ⟨A, hA⟩ : ∃ z, hs ++ depsOf (chgsOf EW) = z := ⟨_, rfl⟩
     have HR2 : Hid (RowPr 25 w.heap.size vo A wr ∧ Below w.heap.size w wr) := by
      have h1 := hR.out
      rw [List.take_of_length_le (by unfold chgsOf; rw [List.length_map]; omega), hA] at h1
      exact h1
     have HAE : Hid (hs ++ depsOf (chgsOf EW) = A ∧ A.length ≤ 902000) := ⟨hA, by rw [← hA]; exact HAL.out⟩
     have h64 : ∀ x ∈ A, R64 x := fun x hx => by
      rw [← hA] at hx
      rcases List.mem_append.1 hx with hx | hx
      ·obtain ⟨_, _, _, _, _, h, _⟩ := HA.out.2.2
       exact h x hx
      ·obtain ⟨y, hy, hxy⟩ := mem_deps.1 hx
       obtain ⟨p, hp, rfl⟩ := mem_chgs.1 hy
       obtain ⟨_, _, _, _, _, ⟨_, _, _, _, _, h, _⟩, _⟩ := HA.out.1.chgs p (List.mem_append_right _ hp)
       exact h x hxy
     have hpa : IsPairs wr vo A := RowPr.pairs HR2.out.1 (by have := HAE.out.2; omega) h64
     obtain ⟨va, vn, vc, rfl⟩ : ∃ a n c, vo = .slice a n c := by obtain ⟨a, c, e, _⟩ := hpa; exact ⟨_, _, _, e⟩
     have HVN : Hid (vn = A.length) := by obtain ⟨a, c9, e, _⟩ := hpa; exact (Value.slice.inj e).2.1
     have HP : Hid (IsPairs wr (.slice va vn vc) A ∧ Below w.heap.size w wr) := ⟨hpa, HR2.out.2⟩
     have hme : ¬ (i : Int) < nn := by have := HN1.out.2.1; omega
     clear hlt hi hR hR1 hA h64 hpa HR2
     generalize wr = w2 at *
     clear wr
     go_wp2_with fail
     clear hme k1 zg
     go_loopw [10, 11] (fun xo xi wr => ∃ (i : Nat) (vo : Value) (O : List Pr), i ≤ A.length ∧ xi = .int .i64 i ∧ vo = xo ∧ Hid (IsPairs wr vo O ∧ Wh vo ∧ MissTo (chgsOf EL) (chgsOf EW) A O i ∧ Below w2.heap.size w2 wr)) (fun _ xi _ => A.length - (RowKit.intOf xi).toNat)
     case atStart => exact ⟨0, _, [], Nat.zero_le _, rfl, rfl, isPairs_nil _ _ _, Or.inl rfl, MissTo.start _ _ _, Below.refl _ _⟩
     case round =>
      obtain ⟨i, vo, O, hi, rfl, rfl, hR⟩ := hrel
      by_cases hlt : i < A.length
      ·obtain ⟨a', c', e9, _, _, h64, h4⟩ := id HP.out.1
       obtain ⟨pb, po, ha', h5, h6⟩ := h4 (fun e => by rw [e] at hlt; simp at hlt)
       have hva : va = some ⟨pb, po, none⟩ := (Value.slice.inj e9).1.trans ha'
       subst hva
       obtain ⟨⟨ra, rs⟩, hr⟩ : ∃ z : Pr, A[i] = z := ⟨_, rfl⟩
       have HCL : Hid (∀ W, Below w2.heap.size w2 W → W.cell? ⟨g, 0, none⟩ = some (.slice la ln lc) ∧ W.cell? ⟨g, 1, none⟩ = some (.slice na nn nc) ∧ W.cell? ⟨pb, po + i * 2, none⟩ = some (.int .i64 ra) ∧ W.cell? ⟨pb, po + i * 2 + 1, none⟩ = some (.int .i64 rs)) := fun W hW => by
        have hb := (HA.out.1.below (HP.out.2.trans (hW.mono HP.out.2.size))).box
        exact ⟨Lib.cell_of_heap hb 0, Lib.cell_of_heap hb 1, by rw [hW.cell (p := ⟨pb, po + i * 2, none⟩) h5, (h6 i hlt).1, hr], by rw [hW.cell (p := ⟨pb, po + i * 2 + 1, none⟩) h5, (h6 i hlt).2, hr]⟩
       have HM : Hid ((∃ h : i < A.length, A[i] = (ra, rs)) ∧ R64 (ra, rs)) := ⟨⟨hlt, hr⟩, by rw [← hr]; exact h64 _ (List.getElem_mem hlt)⟩
       have HR : Hid (IsPairs wr vo O ∧ Wh vo ∧ MissTo (chgsOf EL) (chgsOf EW) A O i) := ⟨hR.out.1, hR.out.2.1, hR.out.2.2.1⟩
       have HRB : Hid (Below w2.heap.size w2 wr) := hR.out.2.2.2
       have g1 : (i : Int) < vn := by have := HVN.out; omega
       have g3 : (0 : Int) ≤ i := by omega
       have bw : Below w.heap.size w wr.drew := HP.out.2.trans ((drew_of HRB.out).mono HP.out.2.size)
       have EL1 := rFind_any (.slice la ln lc) (EL.map toCX) (ra, rs) wr.drew ((HA.out.1.below bw).isL HN1.out.2.2)
       rw [map_toCX] at EL1
       unfold refV at EL1
       have zg : g < wr.drew.heap.size := lt_of_heap (HA.out.1.below bw).box
       clear e9 h64 h4 ha' h5 h6 hr hi hlt hR bw
       go_upto_region 17 with fail
       refine wp_region_noPanic ?_
       refine wp_region_held_drew (S := fun W => Below w2.heap.size w2 W) (by kernel_rfl) (drew_of HRB.out) (fun hHeld => ?_)
       refine tk 0 rfl ?_ (by intro wz hSw; obtain ⟨zz0, zz1, zz2, zz3⟩ := HCL.out wz hSw; go_simp; try with_reducible rfl)
       refine tk 1 rfl ?_ (by intro wz hSw; obtain ⟨zz0, zz1, zz2, zz3⟩ := HCL.out wz hSw; go_simp; try with_reducible rfl)
       refine tk 2 rfl ?_ (by intro wz hSw; obtain ⟨zz0, zz1, zz2, zz3⟩ := HCL.out wz hSw; go_simp; try with_reducible rfl)
       refine tk 3 rfl ?_ (by intro wz hSw; obtain ⟨zz0, zz1, zz2, zz3⟩ := HCL.out wz hSw; go_simp; try with_reducible rfl)
       refine tk 4 rfl ?_ (by intro wz hSw; obtain ⟨zz0, zz1, zz2, zz3⟩ := HCL.out wz hSw; go_simp; try with_reducible rfl)
       refine tk 5 rfl ?_ (by intro wz hSw; obtain ⟨zz0, zz1, zz2, zz3⟩ := HCL.out wz hSw; go_simp; try with_reducible rfl)
       refine tk 6 rfl ?_ (by intro wz hSw; obtain ⟨zz0, zz1, zz2, zz3⟩ := HCL.out wz hSw; go_simp; try with_reducible rfl)
       refine tk 7 rfl ?_ (by intro wz hSw; obtain ⟨zz0, zz1, zz2, zz3⟩ := HCL.out wz hSw; go_simp; try with_reducible rfl)
       refine wpAnyH_ready (rs := [8]) (by kernel_rfl) (by simp) (AllReadyH.cons (o := { dst := some 67, op := Op.call { callee := Callee.value (Operand.func 20), args := #[Operand.tmp 62, Operand.tmp 66], argTypes := #[22, 25] }, type := 3, pos := "book.go:320", after := #[aD 3, aD 7], guard := none }) rfl (fun K hK => ?_) AllReadyH.nil)
       go_simp
       go_at_call 20
       refine Calls.mono EL1 ?_
       rintro e w8 ⟨⟨x1, rfl, hx1⟩, b8⟩
       go_wp2_with fail
       refine hK.out _ _ ((drew_of HRB.out).trans (b8.mono HRB.out.size)) (fun hHeld8 => ?_)
       clear hK K
       try simp only [Act.put, nm]
       refine tk 9 rfl ?_
       refine wpAnyH_done (by kernel_rfl) ?_ _
       refine NoPanic.normal ?_
       have HX1 : Hid (FindP (chgsOf EL) (ra, rs) x1) := hx1
       have HR7 : Hid (IsPairs w8 vo O ∧ Wh vo ∧ MissTo (chgsOf EL) (chgsOf EW) A O i) := ⟨(HR.out.1.below (Below.refl _ _).drew).below b8, HR.out.2⟩
       have HRB7 : Hid (Below w2.heap.size w2 w8) := (drew_of HRB.out).trans (b8.mono HRB.out.size)
       clear hHeld hHeld8 EL1 b8 hx1 zg HR HRB
       generalize w8 = w7 at *
       clear w8
       have bw : Below w.heap.size w w7.drew := HP.out.2.trans ((drew_of HRB7.out).mono HP.out.2.size)
       have EW1 := rFind_any (.slice na nn nc) (EW.map toCX) (ra, rs) w7.drew ((HA.out.1.below bw).isW HN1.out.2.2)
       rw [map_toCX] at EW1
       unfold refV at EW1
       have zg : g < w7.drew.heap.size := lt_of_heap (HA.out.1.below bw).box
       clear bw
       go_upto_region 18 with fail
       refine wp_region_noPanic ?_
       refine wp_region_held_drew (S := fun W => Below w2.heap.size w2 W) (by kernel_rfl) (drew_of HRB7.out) (fun hHeld => ?_)
       refine tk 0 rfl ?_ (by intro wz hSw; obtain ⟨zz0, zz1, zz2, zz3⟩ := HCL.out wz hSw; go_simp; try with_reducible rfl)
       refine tk 1 rfl ?_ (by intro wz hSw; obtain ⟨zz0, zz1, zz2, zz3⟩ := HCL.out wz hSw; go_simp; try with_reducible rfl)
       refine tk 2 rfl ?_ (by intro wz hSw; obtain ⟨zz0, zz1, zz2, zz3⟩ := HCL.out wz hSw; go_simp; try with_reducible rfl)
       refine tk 3 rfl ?_ (by intro wz hSw; obtain ⟨zz0, zz1, zz2, zz3⟩ := HCL.out wz hSw; go_simp; try with_reducible rfl)
       refine tk 4 rfl ?_ (by intro wz hSw; obtain ⟨zz0, zz1, zz2, zz3⟩ := HCL.out wz hSw; go_simp; try with_reducible rfl)
       refine tk 5 rfl ?_ (by intro wz hSw; obtain ⟨zz0, zz1, zz2, zz3⟩ := HCL.out wz hSw; go_simp; try with_reducible rfl)
       refine tk 6 rfl ?_ (by intro wz hSw; obtain ⟨zz0, zz1, zz2, zz3⟩ := HCL.out wz hSw; go_simp; try with_reducible rfl)
       refine tk 7 rfl ?_ (by intro wz hSw; obtain ⟨zz0, zz1, zz2, zz3⟩ := HCL.out wz hSw; go_simp; try with_reducible rfl)
       refine wpAnyH_ready (rs := [8]) (by kernel_rfl) (by simp) (AllReadyH.cons (o := { dst := some 76, op := Op.call { callee := Callee.value (Operand.func 20), args := #[Operand.tmp 71, Operand.tmp 75], argTypes := #[22, 25] }, type := 3, pos := "book.go:321", after := #[aD 3, aD 7], guard := none }) rfl (fun K hK => ?_) AllReadyH.nil)
       go_simp
       go_at_call 20
       refine Calls.mono EW1 ?_
       rintro e w8 ⟨⟨x2, rfl, hx2⟩, b8⟩
       go_wp2_with fail
       refine hK.out _ _ ((drew_of HRB7.out).trans (b8.mono HRB7.out.size)) (fun hHeld8 => ?_)
       clear hK K
       try simp only [Act.put, nm]
       refine tk 9 rfl ?_
       refine wpAnyH_done (by kernel_rfl) ?_ _
       refine NoPanic.normal ?_
       have HX2 : Hid (FindP (chgsOf EW) (ra, rs) x2) := hx2
       have HR8 : Hid (IsPairs w8 vo O ∧ Wh vo ∧ MissTo (chgsOf EL) (chgsOf EW) A O i) := ⟨(HR7.out.1.below (Below.refl _ _).drew).below b8, HR7.out.2⟩
       have HRB8 : Hid (Below w2.heap.size w2 w8) := (drew_of HRB7.out).trans (b8.mono HRB7.out.size)
       clear hHeld hHeld8 EW1 b8 hx2 zg HR7 HRB7
       by_cases hn1 : x1 < 0
       ·by_cases hn2 : x2 < 0
        ·have HMS : Hid (MissTo (chgsOf EL) (chgsOf EW) A (putS O (ra, rs)) (i + 1)) := by
          obtain ⟨⟨h, e⟩, _⟩ := HM.out
          have := HR8.out.2.2.put h (by rw [e]; exact HX1.out.neg.1 hn1) (by rw [e]; exact HX2.out.neg.1 hn2)
          rw [e] at this
          exact this
         obtain ⟨_, _, y0, y1⟩ := HCL.out w8 HRB8.out
         have EP := rPutR_any vo O (ra, rs) w8 HR8.out.1 HR8.out.2.1 HM.out.2 (by have := HR8.out.2.2.few; have := HAE.out.2; omega)
         unfold refV at EP
         clear HX1 HX2
         go_wp2_with fail
         go_fit EP
         rintro e w9 ⟨⟨u, rfl, hu, hwu, _⟩, b9⟩
         have HNX : Hid (IsPairs w9 u (putS O (ra, rs)) ∧ Wh u ∧ MissTo (chgsOf EL) (chgsOf EW) A (putS O (ra, rs)) (i + 1) ∧ Below w2.heap.size w2 w9) := ⟨hu, hwu, HMS.out, HRB8.out.trans (b9.mono HRB8.out.size)⟩
         clear EP hu hwu b9 y0 y1 hn1 hn2
         go_upto_region 16 with fail
         have gm : (i : Int) < 1000000 := by obtain ⟨⟨h, _⟩, _⟩ := HM.out; have := HAE.out.2; omega
         go_wp2
         go_roundw
         case rel => obtain ⟨⟨h, _⟩, _⟩ := HM.out; exact ⟨i + 1, u, _, h, by go_num, rfl, HNX.out⟩
         case measure => obtain ⟨⟨h, _⟩, _⟩ := HM.out; simp [RowKit.intOf]; omega
        ·have HNX : Hid (IsPairs w8 vo O ∧ Wh vo ∧ MissTo (chgsOf EL) (chgsOf EW) A O (i + 1) ∧ Below w2.heap.size w2 w8) := by
          obtain ⟨⟨h, e⟩, _⟩ := HM.out
          exact ⟨HR8.out.1, HR8.out.2.1, HR8.out.2.2.skip h (Or.inr (by rw [e]; exact Classical.byContradiction fun h9 => hn2 (HX2.out.neg.2 h9))), HRB8.out⟩
         clear HX1 HX2
         go_upto_region 16 with fail
         try clear hn1
         try clear hn2
         have gm : (i : Int) < 1000000 := by obtain ⟨⟨h, _⟩, _⟩ := HM.out; have := HAE.out.2; omega
         go_wp2
         go_roundw
         case rel => obtain ⟨⟨h, _⟩, _⟩ := HM.out; exact ⟨i + 1, vo, O, h, by go_num, rfl, HNX.out⟩
         case measure => obtain ⟨⟨h, _⟩, _⟩ := HM.out; simp [RowKit.intOf]; omega
       ·have HNX : Hid (IsPairs w8 vo O ∧ Wh vo ∧ MissTo (chgsOf EL) (chgsOf EW) A O (i + 1) ∧ Below w2.heap.size w2 w8) := by
         obtain ⟨⟨h, e⟩, _⟩ := HM.out
         exact ⟨HR8.out.1, HR8.out.2.1, HR8.out.2.2.skip h (Or.inl (by rw [e]; exact Classical.byContradiction fun h9 => hn1 (HX1.out.neg.2 h9))), HRB8.out⟩
        clear HX1 HX2
        go_upto_region 16 with fail
        try clear hn1
        try clear hn2
        have gm : (i : Int) < 1000000 := by obtain ⟨⟨h, _⟩, _⟩ := HM.out; have := HAE.out.2; omega
        go_wp2
        go_roundw
        case rel => obtain ⟨⟨h, _⟩, _⟩ := HM.out; exact ⟨i + 1, vo, O, h, by go_num, rfl, HNX.out⟩
        case measure => obtain ⟨⟨h, _⟩, _⟩ := HM.out; simp [RowKit.intOf]; omega
      ·have hme : ¬ (i : Int) < vn := by have := HVN.out; omega
       have HE : Hid (IsPairs wr vo O ∧ Wh vo ∧ MissP (chgsOf EL) (chgsOf EW) hs O ∧ Below w.heap.size w wr) := by
        refine ⟨hR.out.1, hR.out.2.1, ?_, HP.out.2.trans (hR.out.2.2.2.mono HP.out.2.size)⟩
        have h1 := hR.out.2.2.1
        rw [← HAE.out.1] at h1
        exact h1.done (by rw [HAE.out.1]; omega)
       clear hlt hi hR
       go_wp2
       go_returns
       exact ⟨Or.inr ⟨HALL.out, _, _, rfl, HE.out.1, HE.out.2.1, HE.out.2.2.1⟩, HE.out.2.2.2⟩
end Go.Proofs.YtejfemdkommfhaaGreatDoor
