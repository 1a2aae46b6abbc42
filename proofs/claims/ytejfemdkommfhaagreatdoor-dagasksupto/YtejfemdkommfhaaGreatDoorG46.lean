/-
  What is proved: as each theorem says.
  Conditions: as each theorem says.
-/
import Derived.Test.YtejfemdkommfhaaGreatDoorG44
import Derived.Test.YtejfemdkommfhaaGreatDoorG45
import Derived.Test.YtejfemdkommfhaaGreatDoorG09
import Derived.Test.YtejfemdkommfhaaGreatDoorG17
import Derived.Lib.SliceRun
import Derived.Test.YtejfemdkommfhaaGreatDoorG35
import Derived.Laws.EntriesVeiled
namespace Go.Proofs.YtejfemdkommfhaaGreatDoor
open Go.RowKit Go.Maps Go.Sort Go.Shelf Go.Lib
def RiseW (l : List Pr) : Prop := l.Pairwise fun a b => ¬ ltR b a
theorem RiseW.rise {l : List Pr} (h : RiseW l) (hn : l.Nodup) : Rise l := by
 have : l.Pairwise fun a b => ¬ ltR b a ∧ a ≠ b := List.pairwise_and_iff.2 ⟨h, hn⟩
 exact this.imp fun ⟨h1, h2⟩ => ltR_total (fun e => h2 e.symm) h1
set_option maxRecDepth 100000 in
set_option maxHeartbeats 1000000 in
theorem sortD_any (g cap base : Nat) (ss : List Pr) (w : World) (hR : RowPr 25 base (.slice (some ⟨g, 0, none⟩) ss.length cap) ss w) (hl : ss.length ≤ 1000000) :
 Calls Tryz.prog 37 #[.slice (some ⟨g, 0, none⟩) ss.length cap, .func (.func 38) #[] #[]] w fun e w' => e = .returned (.tuple #[]) ∧ ∃ ts : List Pr, ts.Perm ss ∧ RiseW ts ∧ RowPr 25 base (.slice (some ⟨g, 0, none⟩) ss.length cap) ts w' ∧ w.grownBy w' (some g) := by
 have eg : ∀ args w, (callFunc 38 args).run Tryz.prog w = .ok (.enter 38 args) w := enters_of Tryz.func38 (by kernel_rfl) rfl
 rcases hR.2 with ⟨h0, _⟩ | ⟨g', cap', cur, e1, hbase, hb, h1, h2, h3, h4⟩
 ·cases h0
 obtain ⟨e2, _, e3⟩ := Value.slice.inj e1
 obtain rfl : g = g' := by have := Option.some.inj e2; simpa using this
 subst e3
 have hH := holdsR_of_block (ss := ss) hb h4
 have hcon := AnyQ.slices_SortFunc Tryz.sortA 2 Tryz.isAgg25 Tryz.sizeOf25 encR (fun _ => rfl) (fun x v hv => by simp [encR] at hv; rcases hv with rfl | rfl <;> rfl) cR swoR 38 #[] g 0 cap ss.toArray w eg (fun _ _ _ _ x y => compareR_any x y _) hH (lt_of_heap hb) (by simp; omega)
 rw [show ss.toArray.size = ss.length from by simp] at hcon
 refine Calls.mono hcon ?_
 rintro e w' ⟨rfl, d', n, os, hp, hs, rfl⟩
 obtain ⟨p1, _, p3⟩ := hp
 have p1' : d'.size = ss.length := by simpa using p1
 have e4 : d'.extract 0 ss.length = d' := by rw [← p1']; exact Array.extract_size
 have e5 : ss.toArray.extract 0 ss.length = ss.toArray := by
  simp
 rw [e4, e5] at p3
 have p4 : d'.toList.Perm ss := by simpa using p3
 refine ⟨rfl, d'.toList, p4, ?_, ?_, ?_⟩
 ·refine List.pairwise_iff_getElem.2 fun i j hi hj hij => ?_
  have q1 : i < d'.size := by simpa using hi
  have q2 : j < d'.size := by simpa using hj
  have h5 := hs i j (Nat.zero_le _) hij (by omega)
  rw [getElem!_pos d' j q2, getElem!_pos d' i q1] at h5
  have h6 : ¬ ltR d'[j] d'[i] := fun e => by rw [(ltOf_cR _ _).2 e] at h5; cases h5
  simp only [Array.getElem_toList]
  exact h6
 ·have := rowPr_sorted (n := n) (os := os) (ts := d'.toList) (ss := ss) (by simpa using p1') hbase hb h1 h2 h3
  simpa using this
 ·unfold sortWorldK putRowK
  exact grownBy_sortedV _
set_option maxRecDepth 100000 in
set_option maxHeartbeats 1000000 in
theorem sortW_any (v : Value) (base : Nat) (ss : List Pr) (w : World) (hR : RowPr 25 base v ss w) (hl : ss.length ≤ 1000000) :
 Calls Tryz.prog 37 #[v, .func (.func 38) #[] #[]] w fun e w' => e = .returned (.tuple #[]) ∧ ∃ ts : List Pr, ts.Perm ss ∧ RiseW ts ∧ RowPr 25 base v ts w' ∧ w.grownBy w' v.ownBlock := by
 rcases hR.2 with ⟨rfl, h0⟩ | ⟨g1, cap, cur, rfl, hbase, hb1, h1, h2, h3, h4⟩
 ·have E := AnyF.slices_SortFunc_none Tryz.sortA none 0 (.func (.func 38) #[] #[]) w
  change Calls Tryz.prog 37 _ _ _ at E
  have hss : ss = [] := List.length_eq_zero_iff.1 h0
  subst hss
  refine E.mono ?_
  rintro e w2 ⟨rfl, rfl⟩
  exact ⟨rfl, [], List.Perm.refl _, List.Pairwise.nil, hR, ⟨rfl, rfl, rfl, Nat.le_refl _, fun _ _ _ => rfl⟩⟩
 ·refine (sortD_any g1 cap base ss w hR hl).mono ?_
  rintro e w2 ⟨rfl, ts, q1, q2, q3, q4⟩
  exact ⟨rfl, ts, q1, q2, q3, q4⟩
theorem row_nat {w : World} {N n c : Nat} {a : Option Addr} {us : List Value} (h : RowC N (.slice a n c) us w) (hn : us.length = n) : w.ownsRow N 34 5 (.slice a n c) n (us.flatMap vcells) := by subst hn; exact h
theorem IsBeh.perm {L : List Chg} {hs D E : List Pr} (h : IsBeh L hs D) (hm : ∀ x, x ∈ E ↔ x ∈ D) : IsBeh L hs E :=
 ⟨⟨fun x hx hr => (hm x).2 (h.cl.1 x hx hr), fun c hc hcD d hd hr => (hm d).2 (h.cl.2 c hc ((hm _).1 hcD) d hd hr)⟩, fun D' hD' x hx => h.least D' hD' x ((hm x).1 hx)⟩
def DBehR (EH : List CE) (hs : List Pr) (e : Ending) (w' : World) : Prop :=
 (¬ (∀ r ∈ hs, r ∈ refsOf (chgsOf EH)) ∧ e = .returned (.tuple #[.slice none 0 0, errV 6])) ∨ ((∀ r ∈ hs, r ∈ refsOf (chgsOf EH)) ∧ ∃ u O, e = .returned (.tuple #[u, .nilIface]) ∧ IsPairs w' u O ∧ Wh u ∧ Rise O ∧ IsBeh (chgsOf EH) hs O)
set_option maxRecDepth 100000 in
set_option maxHeartbeats 8000000 in
theorem dBehind_any (w : World) (g h q : Nat) (EH EW : List CE) (v : Value) (hs : List Pr) (B : Bk w g h q EH EW) (hv : IsPairs w v hs) (hl : hs.length ≤ 800000) :
 Calls Tryz.prog 15 #[.pointer (some ⟨g, 0, none⟩), v] w fun e w' => DBehR EH hs e w' ∧ Below w.heap.size w w' := by
 obtain ⟨va, vn, vc, rfl⟩ : ∃ a n c, v = .slice a n c := by obtain ⟨a, c, e, _⟩ := hv; exact ⟨_, _, _, e⟩
 have E1 := hasAll_any g h q (ents EH) (ents EW) _ hs w B.book hv B.cvH
 obtain ⟨hb, hhb⟩ : ∃ b : Bool, hasL (ents EH) hs = b := ⟨_, rfl⟩
 rw [hhb] at E1
 have HRD : Hid ((∀ r ∈ hs, r ∈ refsOf (chgsOf EH)) ↔ hb = true) := by
  show _ ↔ _
  rw [← hhb]
  unfold hasL
  rw [refs_chgs, List.all_eq_true]
  exact ⟨fun h d hd => mem_keys.1 (h d hd), fun h d hd => mem_keys.2 (h d hd)⟩
 have HA : Hid (Bk w g h q EH EW ∧ IsPairs w (.slice va vn vc) hs ∧ hs.length ≤ 800000) := ⟨B, hv, hl⟩
 clear hhb B hv hl
 go_enter Tryz.func15, Tryz.ntmps15
 go_wp2_with fail
 go_fit E1
 rintro e w1 ⟨rfl, b1⟩
 clear E1
 have H1 : Hid (Below w.heap.size w w1) := b1
 clear b1
 cases hb with
 | false =>
  have HE : Hid (¬ (∀ r ∈ hs, r ∈ refsOf (chgsOf EH))) := fun h => by cases HRD.out.1 h
  clear HRD
  go_wp2
  go_returns
  exact ⟨Or.inl ⟨HE.out, rfl⟩, H1.out⟩
 | true =>
  have HIN : Hid (∀ r ∈ hs, r ∈ refsOf (chgsOf EH)) := HRD.out.2 rfl
  clear HRD
  have B1 := HA.out.1.below H1.out
  have E2 := behindL_any w1 g h q EH EW _ hs B1 (HA.out.2.1.below H1.out) (fun r hr => by rw [← refs_chgs]; exact HIN.out r hr) HA.out.2.2
  clear B1
  go_wp2_with fail
  go_fit E2
  rintro e w2 ⟨lv, rfl, hP⟩
  obtain ⟨D, kk, hrow, hD, hkk, hnd, hin, b2⟩ := hP
  clear E2
  have HBH : Hid (IsBeh (chgsOf EH) hs D) := by
   have hok : ∀ p ∈ EH, chk p.1 = 0 := fun p hp => (HA.out.1.chgs p (List.mem_append_left _ hp)).2
   exact behS_isBeh HA.out.1.clo hok (nodup_ents HA.out.1).1 hD hkk (fun x hx => by rw [← refs_chgs]; exact HIN.out x hx)
  have HDL : Hid (D.length ≤ 120 ∧ D.Nodup) := ⟨by
   have h1 := nodup_len hnd (fun x hx => hin x hx)
   have h2 := HA.out.1.many
   rw [List.length_map] at h1
   omega, hnd⟩
  obtain ⟨la, lc, rfl⟩ := slice_row hrow
  obtain ⟨ln, hln⟩ : ∃ z, D.length = z := ⟨_, rfl⟩
  have hlen : (D.map (entV (ents EH))).length = ln := by rw [List.length_map]; exact hln
  rw [hlen] at hrow ⊢
  have HLN : Hid (D.length = ln) := hln
  have H2 : Hid (Below w.heap.size w w2) := H1.out.trans (b2.mono H1.out.size)
  -- the changes that were gathered
  have HEL : Hid (∀ i (hi : i < D.length), ∃ (b : Nat) (xa xs xt : Int) (xda : Option Addr) (xdn xdc : Nat) (xoa : Option Addr) (xon xoc : Nat), la = some ⟨b, 0, none⟩ ∧ D[i] = (xa, xs) ∧ R64 (xa, xs) ∧ ∀ W, Below w2.heap.size w2 W → W.cell? ⟨b, i * 5, none⟩ = some (.int .i64 xa) ∧ W.cell? ⟨b, i * 5 + 1, none⟩ = some (.int .i64 xs) ∧ W.cell? ⟨b, i * 5 + 2, none⟩ = some (.int .i64 xt) ∧ W.cell? ⟨b, i * 5 + 3, none⟩ = some (.slice xda xdn xdc) ∧ W.cell? ⟨b, i * 5 + 4, none⟩ = some (.slice xoa xon xoc)) := fun i hi => by
   obtain ⟨h1, h2, h3⟩ := entE_of (E := EH) (hin D[i] (List.getElem_mem hi))
   obtain ⟨hw, _⟩ := HA.out.1.chgs _ (List.mem_append_left EW h1)
   obtain ⟨ud, uo, l, e1, ⟨i1, i2, _⟩, ⟨da, dc, rfl, _⟩, ⟨oa, oc, rfl, _⟩, _⟩ := id hw
   have hcv : ∀ u ∈ D.map (entV (ents EH)), CV u := fun u hu => by
    obtain ⟨r, hr, rfl⟩ := List.mem_map.1 hu
    obtain ⟨k1, k2, k3⟩ := entE_of (E := EH) (hin r hr)
    rw [k3]
    exact (HA.out.1.chgs _ (List.mem_append_left EW k1)).1.cv
   rcases hrow.2 with ⟨e, e2⟩ | ⟨b, cap, cur, e, _, hh, _⟩
   ·rw [List.length_map] at e2
    omega
   ·have hlb : la = some ⟨b, 0, none⟩ := (Value.slice.inj e).1
    have hc : ∀ j, j < 5 → w2.cell? ⟨b, i * 5 + j, none⟩ = (vcells (entV (ents EH) D[i]))[j]? := fun j hj => by
     have hr2 := row_nat hrow hlen
     rw [hlb] at hr2
     rw [hr2.cellAt (i * 5 + j) (by omega), flat_at hcv i (by rw [List.length_map]; exact hi) j hj, List.getElem_map]
    rw [h3, e1] at hc
    refine ⟨b, _, _, (entE EH D[i]).1.start, da, (entE EH D[i]).1.deps.length, dc, oa, l.length, oc, hlb, h2.symm, ⟨i1, i2⟩, fun W hW => ?_⟩
    have hbz := lt_of_heap hh
    exact ⟨by rw [hW.cell (p := ⟨b, i * 5, none⟩) hbz]; exact hc 0 (by omega), by rw [hW.cell (p := ⟨b, i * 5 + 1, none⟩) hbz]; exact hc 1 (by omega), by rw [hW.cell (p := ⟨b, i * 5 + 2, none⟩) hbz]; exact hc 2 (by omega), by rw [hW.cell (p := ⟨b, i * 5 + 3, none⟩) hbz]; exact hc 3 (by omega), by rw [hW.cell (p := ⟨b, i * 5 + 4, none⟩) hbz]; exact hc 4 (by omega)⟩
  clear hrow hD hkk hnd hin b2 hln hlen
  go_wp2_with fail
  go_loopw [6, 18] (fun xo xi wr => ∃ (i : Nat) (vo : Value), i ≤ D.length ∧ xi = .int .i64 i ∧ vo = xo ∧ Hid (RowPr 25 w2.heap.size vo (D.take i) wr ∧ Below w2.heap.size w2 wr)) (fun _ xi _ => D.length - (RowKit.intOf xi).toNat)
  case atStart => exact ⟨0, _, Nat.zero_le _, rfl, rfl, World.ownsRow_nil _ _ _ _, Below.refl _ _⟩
  case round =>
   obtain ⟨i, vo, hi, rfl, rfl, hR⟩ := hrel
   by_cases hlt : i < D.length
   ·obtain ⟨b, xa, xs, xt, xda, xdn, xdc, xoa, xon, xoc, hla, hDi, _, hcl⟩ := HEL.out i hlt
    obtain ⟨x0, x1, x2, x3, x4⟩ := hcl wr hR.out.2
    have HM : Hid (∃ h : i < D.length, D[i] = (xa, xs)) := ⟨hlt, hDi⟩
    have HR : Hid (RowPr 25 w2.heap.size vo (D.take i) wr ∧ Below w2.heap.size w2 wr) := hR
    have g1 : (i : Int) < ln := by have := HLN.out; omega
    have g3 : (0 : Int) ≤ i := by omega
    clear hcl hlt hi hR hDi
    subst hla
    go_upto_region 7 with fail
    have bA : Below wr.heap.size wr (wr.alloc (.cells #[.int .i64 xa, .int .i64 xs, .int .i64 xt, .slice xda xdn xdc, .slice xoa xon xoc] 34)) := (Below.refl _ _).alloc (Nat.le_refl _) _
    have HN : Hid ((wr.alloc (.cells #[.int .i64 xa, .int .i64 xs, .int .i64 xt, .slice xda xdn xdc, .slice xoa xon xoc] 34)).heap[wr.heap.size]? = some (.cells #[.int .i64 xa, .int .i64 xs, .int .i64 xt, .slice xda xdn xdc, .slice xoa xon xoc] 34) ∧ Below wr.heap.size wr (wr.alloc (.cells #[.int .i64 xa, .int .i64 xs, .int .i64 xt, .slice xda xdn xdc, .slice xoa xon xoc] 34))) := ⟨heap_alloc_new wr _, bA⟩
    clear bA x0 x1 x2 x3 x4
    generalize wr.alloc (.cells #[.int .i64 xa, .int .i64 xs, .int .i64 xt, .slice xda xdn xdc, .slice xoa xon xoc] 34) = wa at *
    have y0 : wa.cell? ⟨wr.heap.size, 0, none⟩ = some (.int .i64 xa) := Lib.cell_of_heap HN.out.1 0
    have y1 : wa.cell? ⟨wr.heap.size, 1, none⟩ = some (.int .i64 xs) := Lib.cell_of_heap HN.out.1 1
    have y2 : wa.cell? ⟨wr.heap.size, 2, none⟩ = some (.int .i64 xt) := Lib.cell_of_heap HN.out.1 2
    have y3 : wa.cell? ⟨wr.heap.size, 3, none⟩ = some (.slice xda xdn xdc) := Lib.cell_of_heap HN.out.1 3
    have y4 : wa.cell? ⟨wr.heap.size, 4, none⟩ = some (.slice xoa xon xoc) := Lib.cell_of_heap HN.out.1 4
    have E3 := refOf_any xa xs xt xda xdn xdc xoa xon xoc wa
    unfold refV at E3
    go_wp2_with fail
    go_fit E3
    rintro e w4 ⟨rfl, b4⟩
    have HR4 : Hid (RowPr 25 w2.heap.size vo (D.take i) w4 ∧ Below w2.heap.size w2 w4) := ⟨own_below (own_below HR.out.1 HN.out.2 (Nat.le_refl _)) b4 (Nat.le_refl _), (HR.out.2.trans (HN.out.2.mono HR.out.2.size)).trans (b4.mono (Nat.le_trans HR.out.2.size HN.out.2.size))⟩
    clear E3 b4 HN HR y0 y1 y2 y3 y4
    have b9 : Below w4.heap.size w4 (w4.alloc (.cells #[.int .i64 xa, .int .i64 xs] 25)) := (Below.refl _ _).alloc (Nat.le_refl _) _
    obtain ⟨v9, U9, happ, row9, gr9⟩ := run_appR1 23 (w4.alloc (.cells #[.int .i64 xa, .int .i64 xs] 25)) w2.heap.size (Nat.le_trans HR4.out.2.size b9.size) vo (xa, xs) (D.take i) (own_below HR4.out.1 b9 (Nat.le_refl _)) (by have := HDL.out.1; rw [List.length_take]; omega) w4.heap.size (heap_alloc_new w4 _)
    have HNX : Hid (RowPr 25 w2.heap.size v9 (D.take (i + 1)) U9 ∧ Below w2.heap.size w2 U9) := by
     obtain ⟨h, e⟩ := HM.out
     rw [take_snocE D i h, e]
     exact ⟨row9, (HR4.out.2.trans (b9.mono HR4.out.2.size)).grown gr9 (Nat.le_trans HR4.out.2.size b9.size) (fun j e => (HR4.out.1.lt j e).1)⟩
    clear b9 row9 gr9
    go_upto_region 8 with (first | (at_builtin; refine wp_append rfl _ _ 23 rfl _ _ _ _ rfl rfl happ ?_))
    clear happ
    have gm : (i : Int) < 1000 := by obtain ⟨h, _⟩ := HM.out; have := HDL.out.1; omega
    go_wp2
    go_roundw
    case rel => obtain ⟨h, _⟩ := HM.out; exact ⟨i + 1, v9, h, by go_num, rfl, HNX.out⟩
    case measure => obtain ⟨h, _⟩ := HM.out; simp [RowKit.intOf]; omega
   ·have hme : ¬ (i : Int) < ln := by have := HLN.out; omega
    have HR : Hid (RowPr 25 w2.heap.size vo D wr ∧ Below w2.heap.size w2 wr) := by
     have := hR.out
     rw [List.take_of_length_le (by omega)] at this
     exact this
    have h64 : ∀ x ∈ D, R64 x := fun x hx => by
     obtain ⟨j, hj, rfl⟩ := List.getElem_of_mem hx
     obtain ⟨b, xa, xs, xt, xda, xdn, xdc, xoa, xon, xoc, _, hDi, h9, _⟩ := HEL.out j hj
     rw [hDi]
     exact h9
    have H64 : Hid (∀ x ∈ D, R64 x) := h64
    have E5 := sortW_any vo w2.heap.size D wr HR.out.1 (by have := HDL.out.1; omega)
    clear hlt hi hR h64
    go_wp2_with fail
    go_fit E5
    rintro e w5 ⟨rfl, ts, q1, q2, q3, q4⟩
    have HE : Hid (IsPairs w5 vo ts ∧ Wh vo ∧ Rise ts ∧ IsBeh (chgsOf EH) hs ts ∧ Below w.heap.size w w5) := by
     have hnd : ts.Nodup := q1.nodup_iff.2 HDL.out.2
     refine ⟨RowPr.pairs q3 (by have := q1.length_eq; have := HDL.out.1; omega) (fun x hx => H64.out x (q1.mem_iff.1 hx)), Wh.of_own q3, q2.rise hnd, HBH.out.perm (fun x => q1.mem_iff), ?_⟩
     have h9 : Below w2.heap.size w2 w5 := HR.out.2.grown q4 HR.out.2.size (fun j e => (HR.out.1.lt j e).1)
     exact H2.out.trans (h9.mono H2.out.size)
    clear E5 q1 q2 q3 q4 hme
    go_wp2
    go_returns
    exact ⟨Or.inr ⟨HIN.out, _, _, rfl, HE.out.1, HE.out.2.1, HE.out.2.2.1, HE.out.2.2.2.1⟩, HE.out.2.2.2.2⟩
end Go.Proofs.YtejfemdkommfhaaGreatDoor
namespace Go.Proofs.YtejfemdkommfhaaGreatDoor
open Go.RowKit Go.Maps Go.Sort Go.Shelf Go.Lib
theorem wp_clear {w : World} {ops : Array Oper} {rest : List Oper} {o : Oper} {a : Act} {Q : Exit → Act → World → Prop} (hgd : o.guard = none) (s : Operand) (T : TypeId)
 (ho : o.op = .call { callee := .builtin .clear, args := #[s], argTypes := #[T] }) (v r : Value) (w' : World) (hs : a.eval s = v)
 (hrun : (Builtin.clear_ #[T] o.type #[v]).run Tryz.prog w = .ok r w') (h : wpList Tryz.prog ops Q rest (a.put o.dst r) w') : wpList Tryz.prog ops Q (o :: rest) a w := by
 refine wpList_plain hgd fun K hK => ?_
 unfold Oper.wp
 simp [execOp, ho, resolve, invoke, builtin, hs, hrun, Result.andThen]
 exact hK _ _ h
end Go.Proofs.YtejfemdkommfhaaGreatDoor
namespace Go.Proofs.YtejfemdkommfhaaGreatDoor
open Go.RowKit Go.Maps
def nextB (EH : List CE) (D : List Pr) (r : Pr) : Bool := !((depE EH r).any fun d => !decide (d ∈ D))
end Go.Proofs.YtejfemdkommfhaaGreatDoor
namespace Go.Proofs.YtejfemdkommfhaaGreatDoor
open Go.RowKit Go.Maps
theorem idxP_true {p : Pr → Bool} {l : List Pr} {k : Nat} (h : idxP p l = k) : ∃ hk : k < l.length, p l[k] = true := by
 induction l generalizing k with
 | nil => simp [idxP] at h
 | cons x l ih =>
  simp only [idxP] at h
  split at h
  ·rename_i hx
   have : k = 0 := by omega
   subst this
   exact ⟨by simp, by simpa using hx⟩
  ·split at h
   ·omega
   ·cases k with
    | zero => have := idxP_range p l; omega
    | succ k =>
     obtain ⟨hk, hp⟩ := ih (k := k) (by omega)
     exact ⟨by simpa using hk, by simpa using hp⟩
theorem nextB_iff {EH : List CE} {D : List Pr} {r : Pr} : nextB EH D r = true ↔ ∀ d ∈ depE EH r, d ∈ D := by
 unfold nextB
 rw [Bool.not_eq_true', List.any_eq_false]
 constructor
 ·intro h d hd
  have := h d hd
  simpa using this
 ·intro h d hd
  simpa using h d hd
theorem perm_erase (l : List Pr) (i : Nat) (hi : i < l.length) : (l[i] :: l.eraseIdx i).Perm l := by
 induction l generalizing i with
 | nil => simp at hi
 | cons x l ih =>
  cases i with
  | zero => simp
  | succ i =>
   simp only [List.getElem_cons_succ, List.eraseIdx_cons_succ]
   exact (List.Perm.swap x _ _).trans ((ih i (by simpa using hi)).cons x)
def ordStep (EH : List CE) (s : List Pr × List Pr) : List Pr × List Pr := (s.1 ++ [s.2.getD (idxP (nextB EH s.1) s.2).toNat (0, 0)], s.2.eraseIdx (idxP (nextB EH s.1) s.2).toNat)
def ordN (EH : List CE) (ts : List Pr) : Nat → List Pr × List Pr
 | 0 => ([], ts)
 | k + 1 => ordStep EH (ordN EH ts k)
structure OrdOk (EH : List CE) (D rest : List Pr) : Prop where
 perm : (D ++ rest).Perm (EH.map (·.1.ref))
 dep : ∀ pre r post, D = pre ++ r :: post → ∀ d ∈ depE EH r, d ∈ pre
theorem OrdOk.next {EH : List CE} {D rest : List Pr} (h : OrdOk EH D rest) (hc : Clo EH) (hr : rest ≠ []) :
 ∃ i : Nat, idxP (nextB EH D) rest = i ∧ ∃ hi : i < rest.length, nextB EH D rest[i] = true := by
 have hsome : ∃ r ∈ rest, nextB EH D r = true := by
  obtain ⟨x, hx⟩ : ∃ x, x ∈ rest := by cases rest with | nil => exact absurd rfl hr | cons x _ => exact ⟨x, by simp⟩
  have hxk : x ∈ EH.map (·.1.ref) := h.perm.mem_iff.1 (List.mem_append_right _ hx)
  obtain ⟨p0, hp0, e0⟩ := List.mem_map.1 hxk
  cases hf : EH.find? fun p => decide (p.1.ref ∈ rest) with
  | none =>
   have := List.find?_eq_none.1 hf p0 hp0
   simp [e0, hx] at this
  | some p =>
   obtain ⟨hp, pre, post, he, hpre⟩ := List.find?_eq_some_iff_append.1 hf
   have hpr : p.1.ref ∈ rest := by simpa using hp
   refine ⟨p.1.ref, hpr, ?_⟩
   have hd : depE EH p.1.ref = p.1.deps := by
    unfold depE
    have : (EH.find? fun y => y.1.ref == p.1.ref) = some p := by
     rw [List.find?_eq_some_iff_append]
     refine ⟨by simp, pre, post, he, fun y hy => ?_⟩
     have hy1 := hpre y hy
     simp at hy1 ⊢
     exact fun e => hy1 (by rw [e]; exact hpr)
    rw [this]; rfl
   rw [nextB_iff, hd]
   intro d hdd
   have h1 := hc pre p post he d hdd
   obtain ⟨y, hy, ey⟩ := List.mem_map.1 h1
   have h2 : d ∉ rest := fun e => by have := hpre y hy; simp [ey, e] at this
   have h3 : d ∈ EH.map (·.1.ref) := by rw [he, List.map_append]; exact List.mem_append_left _ h1
   rcases List.mem_append.1 (h.perm.mem_iff.2 h3) with e | e
   ·exact e
   ·exact absurd e h2
 obtain ⟨r, hr1, hr2⟩ := hsome
 have h1 := idxP_range (nextB EH D) rest
 have h2 : idxP (nextB EH D) rest ≠ -1 := fun e => by rw [idxP_none.1 e r hr1] at hr2; cases hr2
 refine ⟨(idxP (nextB EH D) rest).toNat, by omega, idxP_true (by omega)⟩
theorem OrdOk.step {EH : List CE} {D rest : List Pr} (h : OrdOk EH D rest) (i : Nat) (hi : i < rest.length) (hb : nextB EH D rest[i] = true) : OrdOk EH (D ++ [rest[i]]) (rest.eraseIdx i) := by
 refine ⟨?_, ?_⟩
 ·rw [List.append_assoc]
  exact (List.Perm.append_left D (perm_erase rest i hi)).trans h.perm
 ·intro pre r post he d hd
  rcases List.append_eq_append_iff.1 he with ⟨a, h1, h2⟩ | ⟨a, h1, h2⟩
  ·cases a with
   | nil =>
    simp at h1 h2
    obtain ⟨rfl, _⟩ := h2
    subst h1
    exact nextB_iff.1 hb d hd
   | cons y a => simp at h2
  ·cases a with
   | nil =>
    simp at h1 h2
    obtain ⟨rfl, _⟩ := h2
    subst h1
    exact nextB_iff.1 hb d hd
   | cons y a =>
    simp at h2
    obtain ⟨rfl, _⟩ := h2
    exact h.dep pre r a h1 d hd
end Go.Proofs.YtejfemdkommfhaaGreatDoor
namespace Go.Proofs.YtejfemdkommfhaaGreatDoor
open Go.RowKit Go.Maps
end Go.Proofs.YtejfemdkommfhaaGreatDoor
namespace Go.Proofs.YtejfemdkommfhaaGreatDoor
open Go.RowKit Go.Maps
def Ones (L : List (Pr × Value)) : Prop := ∀ x ∈ L, x.2 = .int .i64 1
end Go.Proofs.YtejfemdkommfhaaGreatDoor
