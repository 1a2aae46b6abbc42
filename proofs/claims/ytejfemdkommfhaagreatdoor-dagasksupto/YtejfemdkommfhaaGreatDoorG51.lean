/-
  What is proved: as each theorem says.
  Conditions: as each theorem says.
-/
import Derived.Test.YtejfemdkommfhaaGreatDoorG43
import Derived.Test.YtejfemdkommfhaaGreatDoorG49
import Derived.Test.YtejfemdkommfhaaGreatDoorG50
import Derived.Test.YtejfemdkommfhaaGreatDoorG34
import Derived.Test.YtejfemdkommfhaaGreatDoorG24
import Derived.Deep.CutBlock
namespace Go.Proofs.YtejfemdkommfhaaGreatDoor
open Go.RowKit Go.Maps Go.Sort
def zeroChg : Chg := ⟨0, 0, 0, [], []⟩
theorem zero_fit : ChgFit zeroChg := ⟨by unfold N63 zeroChg; decide, ⟨by decide, fun q hq => by cases hq⟩, ⟨by decide, fun o ho => by cases ho⟩⟩
theorem zero_is (w : World) : IsChg w zC zeroChg := ⟨_, _, [], rfl, by unfold I64 zeroChg; decide, by unfold I64 zeroChg; decide, by unfold I64 zeroChg; decide, isPairs_nil _ _ _, ⟨none, 0, rfl, by simp, by simp, by simp, fun h => absurd rfl h⟩, rfl⟩
def WantP (EL : List CE) (r : Pr) (i : Nat) (e0 : Int) (o : Array Value) : Prop :=
 (e0 = 6 ∧ o = #[.int .i64 0, .int .i64 0, .int .i64 0, .slice none 0 0, .slice none 0 0] ∧ ∀ j (hj : j < EL.length), j < i → EL[j].1.ref ≠ r) ∨ (e0 = 0 ∧ ∃ p ∈ EL, p.1.ref = r ∧ p.2 = .agg o)
theorem WantP.skip {EL : List CE} {r : Pr} {i : Nat} {e0 : Int} {o : Array Value} (h : WantP EL r i e0 o) (hi : i < EL.length) (hn : EL[i].1.ref ≠ r) : WantP EL r (i + 1) e0 o := by
 rcases h with ⟨e, e2, h⟩ | h
 ·refine Or.inl ⟨e, e2, fun j hj hji => ?_⟩
  rcases Nat.lt_or_ge j i with h1 | h1
  ·exact h j hj h1
  ·obtain rfl : j = i := by omega
   exact hn
 ·exact Or.inr h
def HeadsTo (L : List Chg) (hs : List Pr) (i : Nat) (e0 : Int) : Prop := (e0 = 0 ∧ ∀ x ∈ hs.take i, x ∈ refsOf L) ∨ (e0 = 6 ∧ ∃ x ∈ hs.take i, x ∉ refsOf L)
theorem HeadsTo.next {L : List Chg} {hs : List Pr} {i : Nat} {e0 : Int} (h : HeadsTo L hs i e0) (hi : i < hs.length) : (hs[i] ∈ refsOf L → HeadsTo L hs (i + 1) e0) ∧ (hs[i] ∉ refsOf L → HeadsTo L hs (i + 1) 6) := by
 refine ⟨fun hm => ?_, fun hm => Or.inr ⟨rfl, hs[i], (mem_take_succ hi).2 (Or.inr rfl), hm⟩⟩
 rcases h with ⟨e, h⟩ | ⟨e, x, hx, hn⟩
 ·refine Or.inl ⟨e, fun x hx => ?_⟩
  rcases (mem_take_succ hi).1 hx with h1 | h1
  ·exact h x h1
  ·rw [h1]; exact hm
 ·exact Or.inr ⟨e, x, (mem_take_succ hi).2 (Or.inl hx), hn⟩
set_option maxRecDepth 100000 in
set_option maxHeartbeats 32000000 in
theorem asks_any (v vh : Value) (l : List CE) (hs : List Pr) (r : Pr) (w : World) (ha : ArgC w v l) (hh : IsPairs w vh hs) (hwh : Wh vh) (hl : hs.length ≤ 800000) (hr : R64 r) (he : Et w) :
 Calls Tryz.prog 3 #[v, vh, refV r] w fun e w' => e = .returned (.bool true) ∧ Below w.heap.size w w' := by
 obtain ⟨va, vn, vc, rfl⟩ : ∃ a n c, v = .slice a n c := by obtain ⟨a, c, e, _⟩ := ha.row; exact ⟨_, _, _, e⟩
 obtain ⟨HVN⟩ : Nonempty (Hid (vn = l.length ∧ l.length ≤ 1000000)) := ⟨by obtain ⟨a, c9, e, _, h2, _⟩ := ha.row; exact ⟨by rw [(Value.slice.inj e).2.1, List.length_map], by rw [List.length_map] at h2; exact h2⟩⟩
 obtain ⟨hha, hn, hc, rfl⟩ : ∃ a n c, vh = .slice a n c := by obtain ⟨a, c, e, _⟩ := hh; exact ⟨_, _, _, e⟩
 obtain ⟨HHN⟩ : Nonempty (Hid (hn = hs.length ∧ hs.length ≤ 800000)) := ⟨by obtain ⟨a, c9, e, _⟩ := hh; exact ⟨(Value.slice.inj e).2.1, hl⟩⟩
 have HA : Hid (ArgC w (.slice va vn vc) l ∧ IsPairs w (.slice hha hn hc) hs ∧ Wh (.slice hha hn hc) ∧ R64 r ∧ Et w) := ⟨ha, hh, hwh, hr, he⟩
 obtain ⟨post, hpost⟩ : ∃ post : Ending → World → Prop, post = fun e w' => e = .returned (.bool true) ∧ Below w.heap.size w w' := ⟨_, rfl⟩
 rw [← hpost]
 have HPO : Hid (∀ W, Below w.heap.size w W → post (.returned (.bool true)) W) := fun W b => by rw [hpost]; exact ⟨rfl, b⟩
 have HB0 : Hid (Below w.heap.size w (w.alloc (.cells #[.int .i64 r.1, .int .i64 r.2] 25)) ∧ (w.alloc (.cells #[.int .i64 r.1, .int .i64 r.2] 25)).heap[w.heap.size]? = some (.cells #[.int .i64 r.1, .int .i64 r.2] 25)) := ⟨(Below.refl _ _).alloc (Nat.le_refl _) _, heap_alloc_new w _⟩
 unfold refV
 clear ha hh hwh hl hr he hpost
 go_enter Tryz.func3, Tryz.ntmps3
 go_upto_region 1 with fail
 generalize w.alloc (.cells #[.int .i64 r.1, .int .i64 r.2] 25) = W0 at *
 have E1 := dnew_any W0
 go_wp2_with fail
 go_fit E1
 rintro e w1 ⟨rfl, hB, b1⟩
 clear E1
 go_upto_region 3 with fail
 obtain ⟨g, hg⟩ : ∃ z, W0.heap.size + 2 = z := ⟨_, rfl⟩
 obtain ⟨h, hh⟩ : ∃ z, W0.heap.size = z := ⟨_, rfl⟩
 obtain ⟨q, hq⟩ : ∃ z, W0.heap.size + 1 = z := ⟨_, rfl⟩
 obtain ⟨s, hs0⟩ : ∃ z, w1.heap.size = z := ⟨_, rfl⟩
 have HS0 : Hid ((∃ EL ER EH ED vl vr, ASt w g h q s EL ER EH ED vl vr (w1.alloc (.cells #[.slice none 0 0, .slice none 0 0] 30))) ∧ (w1.alloc (.cells #[.slice none 0 0, .slice none 0 0] 30)).heap[w.heap.size]? = some (.cells #[.int .i64 r.1, .int .i64 r.2] 25)) := by
  have b2 : Below w1.heap.size w1 (w1.alloc (.cells #[.slice none 0 0, .slice none 0 0] 30)) := (Below.refl _ _).alloc (Nat.le_refl _) _
  have bw : Below w.heap.size w w1 := HB0.out.1.trans (b1.mono HB0.out.1.size)
  have hz := HB0.out.1.size
  refine ⟨⟨[], [], [], [], _, _, ASt.start (bw.trans (b2.mono bw.size)) (by rw [← hg, ← hh, ← hq]; exact hB.below b2) (by rw [← hs0]; exact bw.size) (by rw [← hs0]; exact heap_alloc_new w1 _) ⟨by omega, by omega⟩⟩, heap_below (heap_below HB0.out.2 b1 (Nat.le_refl _)) b2 (Nat.le_refl _)⟩
 rw [hg, hs0]
 generalize w1.alloc (.cells #[.slice none 0 0, .slice none 0 0] 30) = w2 at *
 clear hB b1 hg hh hq hs0 HB0
 go_wp2_with fail
 go_loopw [9] (fun xi wr => ∃ i : Nat, i ≤ l.length ∧ xi = .int .i64 i ∧ Hid ((∃ EL ER EH ED vl vr, ASt w g h q s EL ER EH ED vl vr wr) ∧ wr.heap[w.heap.size]? = some (.cells #[.int .i64 r.1, .int .i64 r.2] 25))) (fun xi _ => l.length - (RowKit.intOf xi).toNat)
 case atStart => exact ⟨0, Nat.zero_le _, rfl, HS0.out⟩
 case round =>
  clear HS0
  obtain ⟨i, hi, rfl, hR⟩ := hrel
  by_cases hlt : i < l.length ∧ i < 60
  ·obtain ⟨hlt, h60⟩ := hlt
   obtain ⟨⟨EL, ER, EH, ED, vl, vr, hS⟩, hX⟩ := hR.out
   have hk7 : i < (l.map toCX).length := by rw [List.length_map]; exact hlt
   obtain ⟨a7, c7, e7, _, _, hIn, h47⟩ := id HA.out.1.row
   obtain ⟨cb, co, ha7, h57, h67⟩ := h47 (fun e => by rw [e] at hk7; simp at hk7)
   have hva : va = some ⟨cb, co, none⟩ := (Value.slice.inj e7).1.trans ha7
   obtain ⟨p, hp⟩ : ∃ z : CE, l[i] = z := ⟨_, rfl⟩
   have hpm : p ∈ l := by rw [← hp]; exact List.getElem_mem hlt
   have hpw := HA.out.1.each p hpm
   obtain ⟨pud, puo, plo, hpv, _, ⟨pda, pdc, rfl, _⟩, ⟨poa, poc, rfl, _⟩, _⟩ := id hpw
   obtain ⟨pa, hpa⟩ : ∃ z : Int, p.1.actor = z := ⟨_, rfl⟩
   obtain ⟨ps, hps⟩ : ∃ z : Int, p.1.seq = z := ⟨_, rfl⟩
   obtain ⟨pt, hpt⟩ : ∃ z : Int, p.1.start = z := ⟨_, rfl⟩
   obtain ⟨pdn, hpdn⟩ : ∃ z : Nat, p.1.deps.length = z := ⟨_, rfl⟩
   obtain ⟨pon, hpon⟩ : ∃ z : Nat, plo.length = z := ⟨_, rfl⟩
   rw [hpa, hps, hpt, hpdn, hpon] at hpv
   have HCL : Hid (∀ W, Below w.heap.size w W → W.cell? ⟨cb, co + i * 5, none⟩ = some (.int .i64 pa) ∧ W.cell? ⟨cb, co + i * 5 + 1, none⟩ = some (.int .i64 ps) ∧ W.cell? ⟨cb, co + i * 5 + 2, none⟩ = some (.int .i64 pt) ∧ W.cell? ⟨cb, co + i * 5 + 3, none⟩ = some (.slice pda pdn pdc) ∧ W.cell? ⟨cb, co + i * 5 + 4, none⟩ = some (.slice poa pon poc)) := fun W hW => by
    have hcell : ∀ j, j < 5 → W.cell? ⟨cb, co + i * 5 + j, none⟩ = (vcells p.2)[j]? := fun j hj => by
     rw [hW.cell (p := ⟨cb, co + i * 5 + j, none⟩) h57, h67 i hk7 j hj]
     rw [List.getElem_map, hp, (toCX_val hpw.chg).2.2.2]
    rw [hpv] at hcell
    exact ⟨hcell 0 (by omega), hcell 1 (by omega), hcell 2 (by omega), hcell 3 (by omega), hcell 4 (by omega)⟩
   have HPW : Hid (IsChgW w (.agg #[.int .i64 pa, .int .i64 ps, .int .i64 pt, .slice pda pdn pdc, .slice poa pon poc]) p.1) := by show IsChgW _ _ _; rw [← hpv]; exact hpw
   have HS : Hid (ASt w g h q s EL ER EH ED vl vr wr ∧ wr.heap[w.heap.size]? = some (.cells #[.int .i64 r.1, .int .i64 r.2] 25)) := ⟨hS, hX⟩
   have HI : Hid (i < l.length) := hlt
   obtain ⟨x0, x1, x2, x3, x4⟩ := HCL.out wr hS.ref.bel
   have g1 : (i : Int) < vn := by have := HVN.out.1; omega
   have g2 : (i : Int) < 60 := by omega
   have g3 : (0 : Int) ≤ i := by omega
   have E1 := rTake_any w s EL ER vl vr (.agg #[.int .i64 pa, .int .i64 ps, .int .i64 pt, .slice pda pdn pdc, .slice poa pon poc]) p.1 wr hS.ref hS.ri HPW.out
   clear hk7 e7 hIn h47 ha7 h57 h67 hp hpm hpw hpv hpa hps hpt hpdn hpon hS hX hR hlt h60 hi
   subst hva
   go_wp2_with fail
   go_fit E1
   rintro e w3 ⟨x, rfl, hT⟩
   have HT : Hid (RTakeP w wr s EL ER p.1 x w3) := hT
   have HK : Hid (KpT w.heap.size wr w3 ∧ Below w.heap.size w w3) := by
    obtain ⟨_, _, _, _, hRB, _, _, hk⟩ := hT
    exact ⟨hk, hRB.bel⟩
   clear E1 hT x0 x1 x2 x3 x4
   obtain ⟨x0, x1, x2, x3, x4⟩ := HCL.out w3 HK.out.2
   have hBk : Bk w3 g h q EH ED := HS.out.1.bk.kpT HS.out.1.hi HK.out.1
   have E2 := takeX_any w3 g h q EH ED (.agg #[.int .i64 pa, .int .i64 ps, .int .i64 pt, .slice pda pdn pdc, .slice poa pon poc]) p.1 hBk (HPW.out.below HK.out.2) HS.out.1.inv
   have HM : Hid (∀ b ∈ [h, q], ∃ es t, w3.heap[b]? = some (.map es t)) := hBk.maps
   clear hBk
   go_wp2_with fail
   go_fit E2
   rintro e w4 ⟨er, rfl, hX⟩
   have HN : Hid ((∃ EL ER EH ED vl vr, ASt w g h q s EL ER EH ED vl vr w4) ∧ w4.heap[w.heap.size]? = some (.cells #[.int .i64 r.1, .int .i64 r.2] 25)) := by
    refine ⟨HS.out.1.both HT.out hX, ?_⟩
    obtain ⟨_, _, _, _, kp, _⟩ := hX
    have h3 : w3.heap[w.heap.size]? = some (.cells #[.int .i64 r.1, .int .i64 r.2] 25) := HK.out.1.heap HS.out.2 (Or.inr fun c z => ⟨fun e => by injection e with _ e2; exact absurd e2 (by decide), fun e => by injection e with _ e2; exact absurd e2 (by decide)⟩)
    exact kp.heap h3 (fun e => by
     obtain ⟨es, t, h5⟩ := HM.out _ e
     rw [h3] at h5
     cases h5)
   clear E2 hX HT HK HM HS x0 x1 x2 x3 x4 g2
   go_upto_region 5 with fail
   have gm : (i : Int) < 1000000 := by have := HI.out; have := HVN.out.2; omega
   go_wp2
   go_roundw
   case rel => exact ⟨i + 1, HI.out, by go_num, HN.out⟩
   case measure => have := HI.out; simp [RowKit.intOf]; omega
  ·obtain ⟨⟨EL, ER, EH, ED, vl, vr, hS⟩, hX⟩ := hR.out
   obtain ⟨la, lc, rfl⟩ := slice_row hS.ref.rowL
   rw [List.length_map] at hS
   obtain ⟨ln, hln⟩ : ∃ z, EL.length = z := ⟨_, rfl⟩
   rw [hln] at hS
   have HLN : Hid (EL.length = ln ∧ EL.length ≤ 120) := ⟨hln, by have := hS.few; omega⟩
   have HSwr : Hid (ASt w g h q s EL ER EH ED (.slice la ln lc) vr wr ∧ wr.heap[w.heap.size]? = some (.cells #[.int .i64 r.1, .int .i64 r.2] 25)) := ⟨hS, hX⟩
   by_cases h60 : i < l.length
   ·have h6 : ¬ i < 60 := fun e => hlt ⟨h60, e⟩
    have g1 : (i : Int) < vn := by have := HVN.out.1; omega
    have g2 : ¬ (i : Int) < 60 := by omega
    clear hlt h60 h6 hi hR hS hX hln
    go_upto_region 8 with fail
    clear g1 g2
    have k0 : wr.cell? ⟨s, 0, none⟩ = some (.slice la ln lc) := Lib.cell_of_heap HSwr.out.1.ref.box 0
    have zs : s < wr.heap.size := lt_of_heap HSwr.out.1.ref.box
    have E1 := rRefs_any (.slice la ln lc) (EL.map toCX) wr (HSwr.out.1.ref.isL HSwr.out.1.few) (by rw [List.length_map]; have := HLN.out.2; omega)
    rw [map_toCX] at E1
    go_wp2_with fail
    go_fit E1
    rintro e w3 ⟨⟨u3, rfl, hu3, _⟩, b3⟩
    obtain ⟨ra, rn, rc, rfl⟩ : ∃ a n c, u3 = .slice a n c := by obtain ⟨a, c, e, _⟩ := hu3; exact ⟨_, _, _, e⟩
    have HSw3 := as_next HSwr b3
    have HRF : Hid (IsPairs w3 (.slice ra rn rc) (refsS (chgsOf EL))) := hu3
    clear E1 hu3 b3 HSwr k0 zs
    have r0 : w3.cell? ⟨w.heap.size, 0, none⟩ = some (.int .i64 r.1) := Lib.cell_of_heap HSw3.out.2 0
    have r1 : w3.cell? ⟨w.heap.size, 1, none⟩ = some (.int .i64 r.2) := Lib.cell_of_heap HSw3.out.2 1
    have E2 := has_any g h q (ents EH) (ents ED) r w3 HSw3.out.1.bk.book HA.out.2.2.2.1 HSw3.out.1.bk.cvH
    obtain ⟨hb, hhb⟩ : ∃ z : Bool, (lk (ents EH) r).isSome = z := ⟨_, rfl⟩
    rw [hhb] at E2
    have HHB : Hid ((lk (ents EH) r).isSome = hb) := hhb
    have HMEM : Hid (r ∈ refsOf (chgsOf EL) ↔ hb = true) := by
     show _ ↔ _
     rw [← hhb, HSw3.out.1.has, refs_chgs, mem_keys]
    unfold refV at E2
    clear hhb
    go_wp2_with fail
    go_fit E2
    rintro e w4 ⟨rfl, b4⟩
    have HSw4 := as_next HSw3 b4
    have HRF4 : Hid (IsPairs w4 (.slice ra rn rc) (refsS (chgsOf EL))) := HRF.out.below b4
    clear E2 b4 HSw3 HRF r0 r1
    have r0 : w4.cell? ⟨w.heap.size, 0, none⟩ = some (.int .i64 r.1) := Lib.cell_of_heap HSw4.out.2 0
    have r1 : w4.cell? ⟨w.heap.size, 1, none⟩ = some (.int .i64 r.2) := Lib.cell_of_heap HSw4.out.2 1
    have E3 := rHas_any (.slice ra rn rc) (refsS (chgsOf EL)) r w4 HRF4.out
    have hdh : decide (r ∈ refsS (chgsOf EL)) = hb := by
     have h1 := (refsS_facts (chgsOf EL)).2.1 r
     have h2 := HMEM.out
     cases hb with
     | true => exact decide_eq_true (h1.2 (h2.2 rfl))
     | false => exact decide_eq_false (fun e => by cases h2.1 (h1.1 e))
    rw [hdh] at E3
    unfold refV at E3
    clear hdh
    go_wp2_with fail
    go_fit E3
    rintro e w5 ⟨rfl, b5⟩
    have HSw5 := as_next HSw4 b5
    have HRF5 : Hid (IsPairs w5 (.slice ra rn rc) (refsS (chgsOf EL))) := HRF4.out.below b5
    clear E3 b5 HSw4 HRF4 r0 r1
    have r0 : w5.cell? ⟨w.heap.size, 0, none⟩ = some (.int .i64 r.1) := Lib.cell_of_heap HSw5.out.2 0
    have r1 : w5.cell? ⟨w.heap.size, 1, none⟩ = some (.int .i64 r.2) := Lib.cell_of_heap HSw5.out.2 1
    cases hb with
    | true =>
     obtain ⟨u0, hu0⟩ : ∃ u, lk (ents EH) r = some u := Option.isSome_iff_exists.1 HHB.out
     obtain ⟨c', hm, hcr⟩ := lk_ents hu0
     have hcw := HSw5.out.1.bk.chgs _ (List.mem_append_left _ hm)
     have HCC : Hid (c' ∈ chgsOf EL ∧ c'.ref = r ∧ chk c' = 0) := ⟨by rw [HSw5.out.1.has]; exact mem_chgs.2 ⟨_, hm, rfl⟩, hcr, hcw.2⟩
     have E4 := dChange_yes g h q (ents EH) (ents ED) r u0 w5 HSw5.out.1.bk.book HA.out.2.2.2.1 HSw5.out.1.bk.cvH hu0 c' hcw.1 hcw.2
     unfold refV at E4
     clear hu0 hm hcr hcw
     go_wp2_with fail
     go_fit E4
     rintro e w6 ⟨⟨u6, rfl, hu6⟩, b6⟩
     obtain ⟨ua, us, ut, uda, udn, udc, uoa, uon, uoc, rfl⟩ := hu6.cv
     have HSw6 := as_next HSw5 b6
     have HRF6 : Hid (IsPairs w6 (.slice ra rn rc) (refsS (chgsOf EL)) ∧ IsChg w6 (.agg #[.int .i64 ua, .int .i64 us, .int .i64 ut, .slice uda udn udc, .slice uoa uon uoc]) c') := ⟨HRF5.out.below b6, hu6.chg⟩
     clear E4 b6 hu6 HSw5 HRF5 r0 r1
     go_upto_region 14 with fail
     have HBX : Hid (((w6.alloc (.cells #[.int .i64 ua, .int .i64 us, .int .i64 ut, .slice uda udn udc, .slice uoa uon uoc] 34)).alloc (.cells #[.int .i64 0, .int .i64 0, .int .i64 0, .slice none 0 0, .slice none 0 0] 34)).heap[w6.heap.size]? = some (.cells #[.int .i64 ua, .int .i64 us, .int .i64 ut, .slice uda udn udc, .slice uoa uon uoc] 34) ∧ ((w6.alloc (.cells #[.int .i64 ua, .int .i64 us, .int .i64 ut, .slice uda udn udc, .slice uoa uon uoc] 34)).alloc (.cells #[.int .i64 0, .int .i64 0, .int .i64 0, .slice none 0 0, .slice none 0 0] 34)).heap[w6.heap.size + 1]? = some (.cells #[.int .i64 0, .int .i64 0, .int .i64 0, .slice none 0 0, .slice none 0 0] 34) ) := ⟨heap_alloc_old (heap_alloc_new w6 _) _, by have := heap_alloc_new (w6.alloc (.cells #[.int .i64 ua, .int .i64 us, .int .i64 ut, .slice uda udn udc, .slice uoa uon uoc] 34)) (.cells #[.int .i64 0, .int .i64 0, .int .i64 0, .slice none 0 0, .slice none 0 0] 34); simpa using this⟩
     have HBB : Hid (Below w6.heap.size w6 ((w6.alloc (.cells #[.int .i64 ua, .int .i64 us, .int .i64 ut, .slice uda udn udc, .slice uoa uon uoc] 34)).alloc (.cells #[.int .i64 0, .int .i64 0, .int .i64 0, .slice none 0 0, .slice none 0 0] 34))) := ((Below.refl _ _).alloc (Nat.le_refl _) _).alloc (by simp) _
     generalize (w6.alloc (.cells #[.int .i64 ua, .int .i64 us, .int .i64 ut, .slice uda udn udc, .slice uoa uon uoc] 34)).alloc (.cells #[.int .i64 0, .int .i64 0, .int .i64 0, .slice none 0 0, .slice none 0 0] 34) = w7 at *
     obtain ⟨y13, h13⟩ : ∃ z, w6.heap.size = z := ⟨_, rfl⟩
     obtain ⟨y16, h16⟩ : ∃ z, w6.heap.size + 1 = z := ⟨_, rfl⟩
     have HYZ : Hid (w6.heap.size = y13 ∧ w6.heap.size + 1 = y16) := ⟨h13, h16⟩
     try rw [h16]
     try rw [h13]
     rw [h16, h13] at HBX
     clear h13 h16
     go_wp2_with fail
     go_loopw [15, 17] (fun xe xi wr => ∃ (i : Nat) (e0 : Int) (o0 o1 o2 o3 o4 : Value), i ≤ EL.length ∧ xe = .int .i64 e0 ∧ xi = .int .i64 i ∧ Hid (WantP EL r i e0 #[o0, o1, o2, o3, o4] ∧ wr.heap[y13]? = some (.cells #[.int .i64 ua, .int .i64 us, .int .i64 ut, .slice uda udn udc, .slice uoa uon uoc] 34) ∧ wr.heap[y16]? = some (.cells #[o0, o1, o2, o3, o4] 34) ∧ Below w6.heap.size w6 wr)) (fun _ xi _ => EL.length - (RowKit.intOf xi).toNat)
     case atStart => exact ⟨0, 6, (.int .i64 0), (.int .i64 0), (.int .i64 0), (.slice none 0 0), (.slice none 0 0), Nat.zero_le _, rfl, rfl, Or.inl ⟨rfl, rfl, fun j _ hj => absurd hj (Nat.not_lt_zero _)⟩, HBX.out.1, HBX.out.2, HBB.out⟩
     case round =>
      clear HBX HBB
      obtain ⟨i, e0, o0, o1, o2, o3, o4, hi, rfl, rfl, hR⟩ := hrel
      have hRB := HSw6.out.1.ref.below hR.out.2.2.2
      have k0 : wr.cell? ⟨s, 0, none⟩ = some (.slice la ln lc) := Lib.cell_of_heap hRB.box 0
      have zs : s < wr.heap.size := lt_of_heap hRB.box
      by_cases hlt : i < EL.length
      ·have hk7 : i < (EL.map toCX).length := by rw [List.length_map]; exact hlt
       obtain ⟨a7, c7, e7, _, _, hIn, h47⟩ := HSw6.out.1.ref.isL HSw6.out.1.few
       obtain ⟨cb, co, ha7, h57, h67⟩ := h47 (fun e => by rw [e] at hk7; simp at hk7)
       have hva : la = some ⟨cb, co, none⟩ := (Value.slice.inj e7).1.trans ha7
       obtain ⟨p, hp⟩ : ∃ z : CE, EL[i] = z := ⟨_, rfl⟩
       have hpm : p ∈ EL := by rw [← hp]; exact List.getElem_mem hlt
       have hpw := HSw6.out.1.ref.chgs p (List.mem_append_left _ hpm)
       obtain ⟨pud, puo, plo, hpv, _, ⟨pda, pdc, rfl, _⟩, ⟨poa, poc, rfl, _⟩, _⟩ := id hpw
       obtain ⟨pa, hpa⟩ : ∃ z : Int, p.1.actor = z := ⟨_, rfl⟩
       obtain ⟨ps, hps⟩ : ∃ z : Int, p.1.seq = z := ⟨_, rfl⟩
       obtain ⟨pt, hpt⟩ : ∃ z : Int, p.1.start = z := ⟨_, rfl⟩
       obtain ⟨pdn, hpdn⟩ : ∃ z : Nat, p.1.deps.length = z := ⟨_, rfl⟩
       obtain ⟨pon, hpon⟩ : ∃ z : Nat, plo.length = z := ⟨_, rfl⟩
       rw [hpa, hps, hpt, hpdn, hpon] at hpv
       have HCL : Hid (∀ W, Below w6.heap.size w6 W → W.cell? ⟨cb, co + i * 5, none⟩ = some (.int .i64 pa) ∧ W.cell? ⟨cb, co + i * 5 + 1, none⟩ = some (.int .i64 ps) ∧ W.cell? ⟨cb, co + i * 5 + 2, none⟩ = some (.int .i64 pt) ∧ W.cell? ⟨cb, co + i * 5 + 3, none⟩ = some (.slice pda pdn pdc) ∧ W.cell? ⟨cb, co + i * 5 + 4, none⟩ = some (.slice poa pon poc)) := fun W hW => by
        have hcell : ∀ j, j < 5 → W.cell? ⟨cb, co + i * 5 + j, none⟩ = (vcells p.2)[j]? := fun j hj => by
         rw [hW.cell (p := ⟨cb, co + i * 5 + j, none⟩) h57, h67 i hk7 j hj]
         rw [List.getElem_map, hp, (toCX_val hpw.chg).2.2.2]
        rw [hpv] at hcell
        exact ⟨hcell 0 (by omega), hcell 1 (by omega), hcell 2 (by omega), hcell 3 (by omega), hcell 4 (by omega)⟩
       have HPV : Hid (p ∈ EL ∧ p.2 = .agg #[.int .i64 pa, .int .i64 ps, .int .i64 pt, .slice pda pdn pdc, .slice poa pon poc] ∧ p.1.ref = (pa, ps) ∧ ∃ h : i < EL.length, EL[i] = p) := ⟨hpm, hpv, by unfold Chg.ref; rw [hpa, hps], hlt, hp⟩
       obtain ⟨x0, x1, x2, x3, x4⟩ := HCL.out wr hR.out.2.2.2
       have HR : Hid (WantP EL r i e0 #[o0, o1, o2, o3, o4] ∧ wr.heap[y13]? = some (.cells #[.int .i64 ua, .int .i64 us, .int .i64 ut, .slice uda udn udc, .slice uoa uon uoc] 34) ∧ wr.heap[y16]? = some (.cells #[o0, o1, o2, o3, o4] 34) ∧ Below w6.heap.size w6 wr) := hR
       have g1 : (i : Int) < ln := by have := HLN.out.1; omega
       have g3 : (0 : Int) ≤ i := by omega
       have E5 := rRefD_any pa ps pt pda pdn pdc poa pon poc wr
       clear hk7 e7 hIn h47 ha7 h57 h67 hp hpm hpw hpv hpa hps hpt hpdn hpon hR hlt hi hRB
       subst hva
       go_wp2_with fail
       go_fit E5
       rintro e w8 ⟨rfl, b8⟩
       have HR8 : Hid (w8.heap[y13]? = some (.cells #[.int .i64 ua, .int .i64 us, .int .i64 ut, .slice uda udn udc, .slice uoa uon uoc] 34) ∧ w8.heap[y16]? = some (.cells #[o0, o1, o2, o3, o4] 34) ∧ Below w6.heap.size w6 w8) := ⟨heap_below HR.out.2.1 b8 (Nat.le_refl _), heap_below HR.out.2.2.1 b8 (Nat.le_refl _), HR.out.2.2.2.trans (b8.mono HR.out.2.2.2.size)⟩
       have HWP : Hid (WantP EL r i e0 #[o0, o1, o2, o3, o4]) := HR.out.1
       clear E5 b8 HR x0 x1 x2 x3 x4 k0 zs
       go_upto_region 18 with fail
       have HR9 : Hid ((w8.alloc (.cells #[.int .i64 pa, .int .i64 ps] 25)).heap[y13]? = some (.cells #[.int .i64 ua, .int .i64 us, .int .i64 ut, .slice uda udn udc, .slice uoa uon uoc] 34) ∧ (w8.alloc (.cells #[.int .i64 pa, .int .i64 ps] 25)).heap[y16]? = some (.cells #[o0, o1, o2, o3, o4] 34) ∧ Below w6.heap.size w6 (w8.alloc (.cells #[.int .i64 pa, .int .i64 ps] 25)) ∧ (w8.alloc (.cells #[.int .i64 pa, .int .i64 ps] 25)).heap[w8.heap.size]? = some (.cells #[.int .i64 pa, .int .i64 ps] 25) ∧ (w8.alloc (.cells #[.int .i64 pa, .int .i64 ps] 25)).heap[w.heap.size]? = some (.cells #[.int .i64 r.1, .int .i64 r.2] 25)) := by
        have b9 : Below w8.heap.size w8 (w8.alloc (.cells #[.int .i64 pa, .int .i64 ps] 25)) := (Below.refl _ _).alloc (Nat.le_refl _) _
        exact ⟨heap_below HR8.out.1 b9 (Nat.le_refl _), heap_below HR8.out.2.1 b9 (Nat.le_refl _), HR8.out.2.2.trans (b9.mono HR8.out.2.2.size), heap_alloc_new w8 _, heap_below (heap_below HSw6.out.2 HR8.out.2.2 (Nat.le_refl _)) b9 (Nat.le_refl _)⟩
       clear HR8
       generalize w8.alloc (.cells #[.int .i64 pa, .int .i64 ps] 25) = w9 at *
       have m0 : w9.cell? ⟨w8.heap.size, 0, none⟩ = some (.int .i64 pa) := Lib.cell_of_heap HR9.out.2.2.2.1 0
       have m1 : w9.cell? ⟨w8.heap.size, 1, none⟩ = some (.int .i64 ps) := Lib.cell_of_heap HR9.out.2.2.2.1 1
       have r0 : w9.cell? ⟨w.heap.size, 0, none⟩ = some (.int .i64 r.1) := Lib.cell_of_heap HR9.out.2.2.2.2 0
       have r1 : w9.cell? ⟨w.heap.size, 1, none⟩ = some (.int .i64 r.2) := Lib.cell_of_heap HR9.out.2.2.2.2 1
       have EQ := eqR (pa, ps) r
       obtain ⟨sb, hsb⟩ : ∃ s : Bool, samePr (pa, ps) r = s := ⟨_, rfl⟩
       rw [hsb] at EQ
       dsimp only at EQ
       have HSB : Hid (samePr (pa, ps) r = sb) := hsb
       clear hsb
       cases sb with
       | false =>
        have HNX : Hid (WantP EL r (i + 1) e0 #[o0, o1, o2, o3, o4]) := by
         obtain ⟨_, _, e3, h4, e4⟩ := HPV.out
         refine HWP.out.skip h4 ?_
         rw [e4, e3]
         intro e
         have := (samePr_iff (pa, ps) r).2 e
         rw [HSB.out] at this
         cases this
        clear HSB HWP
        go_upto_region 16 with fail
        clear m0 m1 r0 r1 EQ
        have gm : (i : Int) < 1000 := by obtain ⟨_, _, _, h4, _⟩ := HPV.out; have := HLN.out; omega
        go_wp2
        go_roundw
        case rel => obtain ⟨_, _, _, h4, _⟩ := HPV.out; exact ⟨i + 1, e0, o0, o1, o2, o3, o4, h4, rfl, by go_num, HNX.out, HR9.out.1, HR9.out.2.1, HR9.out.2.2.1⟩
        case measure => obtain ⟨_, _, _, h4, _⟩ := HPV.out; simp [RowKit.intOf]; omega
       | true =>
        have HNX : Hid (WantP EL r (i + 1) 0 #[.int .i64 pa, .int .i64 ps, .int .i64 pt, .slice pda pdn pdc, .slice poa pon poc]) := by
         obtain ⟨e1, e2, e3, _⟩ := HPV.out
         exact Or.inr ⟨rfl, p, e1, by rw [e3]; exact (samePr_iff (pa, ps) r).1 HSB.out, e2⟩
        clear HSB HWP
        go_upto_region 20 with fail
        clear m0 m1 r0 r1 EQ
        obtain ⟨x0, x1, x2, x3, x4⟩ := HCL.out w9 HR9.out.2.2.1
        have hRB := HSw6.out.1.ref.below HR9.out.2.2.1
        have k0 : w9.cell? ⟨s, 0, none⟩ = some (.slice (some ⟨cb, co, none⟩) ln lc) := Lib.cell_of_heap hRB.box 0
        have zs : s < w9.heap.size := lt_of_heap hRB.box
        have oo0 : w9.cell? ⟨y16, 0, none⟩ = some o0 := Lib.cell_of_heap HR9.out.2.1 0
        have oo1 : w9.cell? ⟨y16, 1, none⟩ = some o1 := Lib.cell_of_heap HR9.out.2.1 1
        have oo2 : w9.cell? ⟨y16, 2, none⟩ = some o2 := Lib.cell_of_heap HR9.out.2.1 2
        have oo3 : w9.cell? ⟨y16, 3, none⟩ = some o3 := Lib.cell_of_heap HR9.out.2.1 3
        have oo4 : w9.cell? ⟨y16, 4, none⟩ = some o4 := Lib.cell_of_heap HR9.out.2.1 4
        have of := Lib.frozen_of_heap HR9.out.2.1
        have hy : w6.heap.size ≤ y16 := by have := HYZ.out.2; omega
        have hyn : y13 ≠ y16 := by have := HYZ.out; omega
        have HZ : Hid (((((((w9.setCell ⟨y16, 0, none⟩ (.int .i64 pa)).setCell ⟨y16, 1, none⟩ (.int .i64 ps)).setCell ⟨y16, 2, none⟩ (.int .i64 pt)).setCell ⟨y16, 3, none⟩ (.slice pda pdn pdc)).setCell ⟨y16, 4, none⟩ (.slice poa pon poc))).heap[y13]? = some (.cells #[.int .i64 ua, .int .i64 us, .int .i64 ut, .slice uda udn udc, .slice uoa uon uoc] 34) ∧ ((((((w9.setCell ⟨y16, 0, none⟩ (.int .i64 pa)).setCell ⟨y16, 1, none⟩ (.int .i64 ps)).setCell ⟨y16, 2, none⟩ (.int .i64 pt)).setCell ⟨y16, 3, none⟩ (.slice pda pdn pdc)).setCell ⟨y16, 4, none⟩ (.slice poa pon poc))).heap[y16]? = some (.cells #[.int .i64 pa, .int .i64 ps, .int .i64 pt, .slice pda pdn pdc, .slice poa pon poc] 34) ∧ Below w6.heap.size w6 (((((w9.setCell ⟨y16, 0, none⟩ (.int .i64 pa)).setCell ⟨y16, 1, none⟩ (.int .i64 ps)).setCell ⟨y16, 2, none⟩ (.int .i64 pt)).setCell ⟨y16, 3, none⟩ (.slice pda pdn pdc)).setCell ⟨y16, 4, none⟩ (.slice poa pon poc))) := ⟨(heap_set_other (heap_set_other (heap_set_other (heap_set_other (heap_set_other HR9.out.1 hyn) hyn) hyn) hyn) hyn), by rw [(set_at (set_at (set_at (set_at (set_at HR9.out.2.1 0 (.int .i64 pa)) 1 (.int .i64 ps)) 2 (.int .i64 pt)) 3 (.slice pda pdn pdc)) 4 (.slice poa pon poc))]; rfl, (((((HR9.out.2.2.1.setCell (p := ⟨y16, 0, none⟩) hy (.int .i64 pa)).setCell (p := ⟨y16, 1, none⟩) hy (.int .i64 ps)).setCell (p := ⟨y16, 2, none⟩) hy (.int .i64 pt)).setCell (p := ⟨y16, 3, none⟩) hy (.slice pda pdn pdc)).setCell (p := ⟨y16, 4, none⟩) hy (.slice poa pon poc))⟩
        clear hRB hy hyn
        go_upto_region 16 with fail
        clear x0 x1 x2 x3 x4 k0 zs oo0 oo1 oo2 oo3 oo4 of
        generalize (((((w9.setCell ⟨y16, 0, none⟩ (.int .i64 pa)).setCell ⟨y16, 1, none⟩ (.int .i64 ps)).setCell ⟨y16, 2, none⟩ (.int .i64 pt)).setCell ⟨y16, 3, none⟩ (.slice pda pdn pdc)).setCell ⟨y16, 4, none⟩ (.slice poa pon poc)) = wz at *
        have gm : (i : Int) < 1000 := by obtain ⟨_, _, _, h4, _⟩ := HPV.out; have := HLN.out; omega
        go_wp2
        go_roundw
        case rel => obtain ⟨_, _, _, h4, _⟩ := HPV.out; exact ⟨i + 1, 0, (.int .i64 pa), (.int .i64 ps), (.int .i64 pt), (.slice pda pdn pdc), (.slice poa pon poc), h4, rfl, by go_num, HNX.out, HZ.out⟩
        case measure => obtain ⟨_, _, _, h4, _⟩ := HPV.out; simp [RowKit.intOf]; omega
      ·have g1 : ¬ (i : Int) < ln := by have := HLN.out.1; omega
       have HR : Hid (wr.heap[y13]? = some (.cells #[.int .i64 ua, .int .i64 us, .int .i64 ut, .slice uda udn udc, .slice uoa uon uoc] 34) ∧ wr.heap[y16]? = some (.cells #[o0, o1, o2, o3, o4] 34) ∧ Below w6.heap.size w6 wr) := hR.out.2
       obtain ⟨p, hpm, hpr, hpv, he0⟩ : ∃ p ∈ EL, p.1.ref = r ∧ p.2 = .agg #[o0, o1, o2, o3, o4] ∧ e0 = 0 := by
        rcases hR.out.1 with ⟨_, _, h3⟩ | ⟨h1, p, h2, h3, h4⟩
        ·exfalso
         obtain ⟨pp, hpp, epp⟩ := mem_chgs.1 HCC.out.1
         obtain ⟨j, hj, ej⟩ := List.getElem_of_mem hpp
         exact h3 j hj (by omega) (by rw [ej, epp]; exact HCC.out.2.1)
        ·exact ⟨p, h2, h3, h4, h1⟩
       subst he0
       have hpw := HSw6.out.1.ref.chgs p (List.mem_append_left _ hpm)
       have hpc : p.1 = c' := refs_inj HSw6.out.1.ri.inv.nd (mem_chgs.2 ⟨p, hpm, rfl⟩) HCC.out.1 (hpr.trans HCC.out.2.1.symm)
       rw [hpv, hpc] at hpw
       obtain ⟨wa, ws, wt, wda, wdn, wdc, woa, won, woc, hwe⟩ := hpw.cv
       have hwl : #[o0, o1, o2, o3, o4] = #[.int .i64 wa, .int .i64 ws, .int .i64 wt, .slice wda wdn wdc, .slice woa won woc] := by injection hwe
       have hwl2 : o0 = .int .i64 wa ∧ o1 = .int .i64 ws ∧ o2 = .int .i64 wt ∧ o3 = .slice wda wdn wdc ∧ o4 = .slice woa won woc := by simpa using hwl
       obtain ⟨rfl, rfl, rfl, rfl, rfl⟩ := hwl2
       have HWW : Hid (IsChg w (.agg #[.int .i64 wa, .int .i64 ws, .int .i64 wt, .slice wda wdn wdc, .slice woa won woc]) c') := hpw.chg
       clear hpm hpr hpv hpw hpc hwe hwl hlt hi hR hRB
       go_upto_region 21 with fail
       clear k0 zs g1
       have E6 := error_nil wr
       go_wp2_with fail
       go_fit E6
       rintro e w10 ⟨rfl, b10⟩
       have HR10 : Hid (w10.heap[y13]? = some (.cells #[.int .i64 ua, .int .i64 us, .int .i64 ut, .slice uda udn udc, .slice uoa uon uoc] 34) ∧ w10.heap[y16]? = some (.cells #[.int .i64 wa, .int .i64 ws, .int .i64 wt, .slice wda wdn wdc, .slice woa won woc] 34) ∧ Below w6.heap.size w6 w10) := ⟨heap_below HR.out.1 b10 (Nat.le_refl _), heap_below HR.out.2.1 b10 (Nat.le_refl _), HR.out.2.2.trans (b10.mono HR.out.2.2.size)⟩
       clear E6 b10 HR
       have a130 : w10.cell? ⟨y13, 0, none⟩ = some (.int .i64 ua) := Lib.cell_of_heap HR10.out.1 0
       have a131 : w10.cell? ⟨y13, 1, none⟩ = some (.int .i64 us) := Lib.cell_of_heap HR10.out.1 1
       have a132 : w10.cell? ⟨y13, 2, none⟩ = some (.int .i64 ut) := Lib.cell_of_heap HR10.out.1 2
       have a133 : w10.cell? ⟨y13, 3, none⟩ = some (.slice uda udn udc) := Lib.cell_of_heap HR10.out.1 3
       have a134 : w10.cell? ⟨y13, 4, none⟩ = some (.slice uoa uon uoc) := Lib.cell_of_heap HR10.out.1 4
       have a160 : w10.cell? ⟨y16, 0, none⟩ = some (.int .i64 wa) := Lib.cell_of_heap HR10.out.2.1 0
       have a161 : w10.cell? ⟨y16, 1, none⟩ = some (.int .i64 ws) := Lib.cell_of_heap HR10.out.2.1 1
       have a162 : w10.cell? ⟨y16, 2, none⟩ = some (.int .i64 wt) := Lib.cell_of_heap HR10.out.2.1 2
       have a163 : w10.cell? ⟨y16, 3, none⟩ = some (.slice wda wdn wdc) := Lib.cell_of_heap HR10.out.2.1 3
       have a164 : w10.cell? ⟨y16, 4, none⟩ = some (.slice woa won woc) := Lib.cell_of_heap HR10.out.2.1 4
       have E7 := same_any (.agg #[.int .i64 ua, .int .i64 us, .int .i64 ut, .slice uda udn udc, .slice uoa uon uoc]) (.agg #[.int .i64 wa, .int .i64 ws, .int .i64 wt, .slice wda wdn wdc, .slice woa won woc]) c' w10 (HRF6.out.2.below HR10.out.2.2) (HWW.out.below (HSw6.out.1.ref.bel.trans (HR10.out.2.2.mono HSw6.out.1.ref.bel.size))) HCC.out.2.2
       go_wp2_with fail
       go_fit E7
       rintro e w11 ⟨rfl, b11⟩
       have b611 : Below w6.heap.size w6 w11 := HR10.out.2.2.trans (b11.mono HR10.out.2.2.size)
       have HSw11 := as_next HSw6 b611
       have HRF11 : Hid (IsPairs w11 (.slice ra rn rc) (refsS (chgsOf EL))) := HRF6.out.1.below b611
       clear E7 b11 b611 HR10 a130 a131 a132 a133 a134 a160 a161 a162 a163 a164 HSw6 HRF6 HCC HWW HYZ
       go_upto_region 25 with fail
       go_wp2_with fail
       go_loopw [12, 15, 21] (fun xs xe xi wr => ∃ (i : Nat) (e0 : Int) (bb : Bool), i ≤ hs.length ∧ xs = .bool bb ∧ xe = .int .i64 e0 ∧ xi = .int .i64 i ∧ Hid (HeadsTo (chgsOf EL) hs i e0 ∧ Below w11.heap.size w11 wr)) (fun _ _ xi _ => hs.length - (RowKit.intOf xi).toNat)
       case atStart => exact ⟨0, 0, _, Nat.zero_le _, rfl, rfl, rfl, Or.inl ⟨rfl, fun x hx => by simp at hx⟩, Below.refl _ _⟩
       case round =>
        obtain ⟨i, e0, bb, hi, rfl, rfl, rfl, hR⟩ := hrel
        by_cases hlt : i < hs.length
        ·obtain ⟨a', c9, e9, _, _, h64, h4⟩ := id HA.out.2.1
         obtain ⟨pb, po, ha', h5, h6⟩ := h4 (fun e => by rw [e] at hlt; simp at hlt)
         have hva : hha = some ⟨pb, po, none⟩ := (Value.slice.inj e9).1.trans ha'
         subst hva
         obtain ⟨x, hx⟩ : ∃ z : Pr, hs[i] = z := ⟨_, rfl⟩
         have bw : Below w.heap.size w wr := HSw11.out.1.ref.bel.trans (hR.out.2.mono HSw11.out.1.ref.bel.size)
         have y0 : wr.cell? ⟨pb, po + i * 2, none⟩ = some (.int .i64 x.1) := by rw [bw.cell (p := ⟨pb, po + i * 2, none⟩) h5, (h6 i hlt).1, hx]
         have y1 : wr.cell? ⟨pb, po + i * 2 + 1, none⟩ = some (.int .i64 x.2) := by rw [bw.cell (p := ⟨pb, po + i * 2 + 1, none⟩) h5, (h6 i hlt).2, hx]
         have E8 := rHas_any (.slice ra rn rc) (refsS (chgsOf EL)) x wr (HRF11.out.below hR.out.2)
         obtain ⟨db, hdb⟩ : ∃ z : Bool, decide (x ∈ refsS (chgsOf EL)) = z := ⟨_, rfl⟩
         rw [hdb] at E8
         unfold refV at E8
         have HX : Hid ((x ∈ refsOf (chgsOf EL) ↔ db = true) ∧ ∃ h : i < hs.length, hs[i] = x) := ⟨by rw [← (refsS_facts (chgsOf EL)).2.1, ← hdb]; simp, hlt, hx⟩
         have HR : Hid (HeadsTo (chgsOf EL) hs i e0 ∧ Below w11.heap.size w11 wr) := hR
         have g1 : (i : Int) < hn := by have := HHN.out.1; omega
         have g3 : (0 : Int) ≤ i := by omega
         clear e9 h64 h4 ha' h5 h6 hx bw hdb hR hlt hi
         go_wp2_with fail
         go_fit E8
         rintro e w12 ⟨rfl, b12⟩
         have HB12 : Hid (Below w11.heap.size w11 w12) := HR.out.2.trans (b12.mono HR.out.2.size)
         clear E8 b12 y0 y1
         cases db with
         | true =>
          have HNX : Hid (HeadsTo (chgsOf EL) hs (i + 1) e0) := by
           obtain ⟨h1, h2, e2⟩ := HX.out
           exact (HR.out.1.next h2).1 (by rw [e2]; exact h1.2 rfl)
          clear HR
          go_upto_region 28 with fail
          have gm : (i : Int) < 1000000 := by obtain ⟨_, h2, _⟩ := HX.out; have := HHN.out.2; omega
          go_wp2
          go_roundw
          case rel => obtain ⟨_, h2, _⟩ := HX.out; exact ⟨i + 1, e0, _, h2, rfl, rfl, by go_num, HNX.out, HB12.out⟩
          case measure => obtain ⟨_, h2, _⟩ := HX.out; simp [RowKit.intOf]; omega
         | false =>
          have HNX : Hid (HeadsTo (chgsOf EL) hs (i + 1) 6) := by
           obtain ⟨h1, h2, e2⟩ := HX.out
           exact (HR.out.1.next h2).2 (by rw [e2]; exact fun h => by cases h1.1 h)
          clear HR
          go_upto_region 28 with fail
          have gm : (i : Int) < 1000000 := by obtain ⟨_, h2, _⟩ := HX.out; have := HHN.out.2; omega
          go_wp2
          go_roundw
          case rel => obtain ⟨_, h2, _⟩ := HX.out; exact ⟨i + 1, 6, _, h2, rfl, rfl, by go_num, HNX.out, HB12.out⟩
          case measure => obtain ⟨_, h2, _⟩ := HX.out; simp [RowKit.intOf]; omega
        ·have g1 : ¬ (i : Int) < hn := by have := HHN.out.1; omega
         have hb11 := hR.out.2
         have HSwr : Hid (ASt w g h q s EL ER EH ED (.slice la ln lc) vr wr ∧ wr.heap[w.heap.size]? = some (.cells #[.int .i64 r.1, .int .i64 r.2] 25)) := ⟨HSw11.out.1.below hb11, heap_below HSw11.out.2 hb11 (Nat.le_refl _)⟩
         have HHT : Hid ((e0 = 0 ∧ ∀ x ∈ hs, x ∈ refsOf (chgsOf EL)) ∨ (e0 = 6 ∧ ¬ ∀ x ∈ hs, x ∈ refsOf (chgsOf EL))) := by
          have h1 := hR.out.1
          unfold HeadsTo at h1
          rw [List.take_of_length_le (by omega)] at h1
          rcases h1 with h1 | ⟨h1, x, hx, hn⟩
          ·exact Or.inl h1
          ·exact Or.inr ⟨h1, fun h => hn (h x hx)⟩
         clear hb11 hR hlt hi HSw11 HRF11
         generalize wr = w12 at *
         clear wr
         have k0 : w12.cell? ⟨s, 0, none⟩ = some (.slice la ln lc) := Lib.cell_of_heap HSwr.out.1.ref.box 0
         have zs : s < w12.heap.size := lt_of_heap HSwr.out.1.ref.box
         rcases HHT.out with ⟨rfl, hall⟩ | ⟨rfl, hnot⟩
         ·have HALL : Hid (∀ x ∈ hs, x ∈ refsOf (chgsOf EL)) := hall
          clear hall HHT
          have bw : Below w.heap.size w w12 := HSwr.out.1.ref.bel
          have hok : ∀ x ∈ EL.map toCX, x.c.deps.length ≤ 12 := fun x hx => by
           obtain ⟨p, hp, rfl⟩ := List.mem_map.1 hx
           exact (chk_few (HSwr.out.1.ri.inv.ok p.1 (mem_chgs.2 ⟨p, hp, rfl⟩))).1
          have E9 := rBehind_any (.slice la ln lc) (.slice hha hn hc) (EL.map toCX) hs w12 (HSwr.out.1.ref.isL HSwr.out.1.few) HSwr.out.1.ref.whL (HA.out.2.1.below bw) HA.out.2.2.1 (by rw [map_toCX]; exact HSwr.out.1.ri.inv.nd) (by rw [List.length_map]; have := HLN.out.2; omega) hok (by have := HHN.out.2; omega)
          rw [map_toCX] at E9
          clear bw hok
          go_wp2_with fail
          go_fit E9
          rintro e w13 ⟨⟨ub, O, rfl, hub, _, hro, hbo⟩, b13⟩
          obtain ⟨ba, bn, bc, rfl⟩ : ∃ a n c, ub = .slice a n c := by obtain ⟨a, c, e, _⟩ := hub; exact ⟨_, _, _, e⟩
          have HSw13 := as_next HSwr b13
          have HO : Hid (IsPairs w13 (.slice ba bn bc) O ∧ Rise O ∧ IsBeh (chgsOf EL) hs O) := ⟨hub, hro, hbo⟩
          clear E9 hub hro hbo b13 HSwr k0 zs g1
          have E10 := dBehind_any w13 g h q EH ED (.slice hha hn hc) hs HSw13.out.1.bk (HA.out.2.1.below HSw13.out.1.ref.bel) HHN.out.2
          go_wp2_with fail
          go_fit E10
          rintro e w14 ⟨hD, b14⟩
          obtain ⟨ud, hu14⟩ : ∃ u, e = .returned (.tuple #[u, .nilIface]) ∧ IsPairs w14 u O := by
           rcases hD with ⟨h1, _⟩ | ⟨_, u, O', h2, h3, _, h4, h5⟩
           ·exact absurd (by rw [← HSw13.out.1.has]; exact HALL.out) h1
           ·refine ⟨u, h2, ?_⟩
            have e9 : O' = O := rise_ext h4 HO.out.2.1 (fun x => by rw [← HSw13.out.1.has] at h5; exact h5.same HO.out.2.2 x)
            rw [← e9]
            exact h3
          obtain ⟨rfl, hud⟩ := hu14
          obtain ⟨da, dn, dc, rfl⟩ : ∃ a n c, ud = .slice a n c := by obtain ⟨a, c, e, _⟩ := hud; exact ⟨_, _, _, e⟩
          have HSw14 := as_next HSw13 b14
          have HP14 : Hid (IsPairs w14 (.slice da dn dc) O ∧ IsPairs w14 (.slice ba bn bc) O) := ⟨hud, HO.out.1.below b14⟩
          clear E10 hD hud b14 HO HSw13
          have E11 := error_nil w14
          go_wp2_with fail
          go_fit E11
          rintro e w15 ⟨rfl, b15⟩
          have HSw15 := as_next HSw14 b15
          have E12 := sameRefs_any (.slice da dn dc) (.slice ba bn bc) O w15 (HP14.out.1.below b15) (HP14.out.2.below b15)
          clear E11 b15 HSw14 HP14
          go_wp2_with fail
          go_fit E12
          rintro e w16 ⟨rfl, b16⟩
          have HSw16 := as_next HSw15 b16
          clear E12 b16 HSw15 HALL
          go_upto_region 40 with fail
          have E13 := rMissing_any w s EL ER (.slice la ln lc) vr (.slice hha hn hc) hs w16 HSw16.out.1.ref HSw16.out.1.ri (HA.out.2.1.below HSw16.out.1.ref.bel) (by have := HHN.out.2; omega)
          go_wp2_with fail
          go_fit E13
          rintro e w17 ⟨hM, b17⟩
          have HSw17 := as_next HSw16 b17
          clear E13 b17 HSw16
          have E14 := dMissing_any w17 g h q EH ED (.slice hha hn hc) hs HSw17.out.1.bk (HA.out.2.1.below HSw17.out.1.ref.bel) HA.out.2.2.1 HHN.out.2
          rcases hM with ⟨hbad, rfl⟩ | ⟨hgood, um, O, rfl, hum, _, hMP⟩
          ·have HBAD : Hid (hs.all refB = false) := hbad
           clear hbad
           go_wp2_with fail
           go_fit E14
           rintro e w18 ⟨hD, b18⟩
           have he : e = .returned (.tuple #[.slice none 0 0, .iface 62 (.int .i64 1)]) := by
            rcases hD with ⟨_, h2⟩ | ⟨h1, _⟩
            ·exact h2
            ·rw [HBAD.out] at h1; cases h1
           subst he
           have HSw18 := as_next HSw17 b18
           clear E14 hD b18 HSw17 HBAD
           have E15 := error_errno 1 w18 (HA.out.2.2.2.2.below HSw18.out.1.ref.bel)
           go_wp2_with fail
           go_fit E15
           rintro e w19 ⟨rfl, b19⟩
           have HSw19 := as_next HSw18 b19
           have E16 := sameRefs_any (.slice none 0 0) (.slice none 0 0) [] w19 (isPairs_nil _ _ _) (isPairs_nil _ _ _)
           clear E15 b19 HSw18
           go_wp2_with fail
           go_fit E16
           rintro e w20 ⟨rfl, b20⟩
           have HEND : Hid (post (.returned (.bool true)) w20) := HPO.out _ (HSw19.out.1.ref.bel.trans (b20.mono HSw19.out.1.ref.bel.size))
           clear E16 b20 HSw19
           go_wp2
           exact HEND.out
          ·have HGOOD : Hid (hs.all refB = true ∧ IsPairs w17 um O ∧ MissP (chgsOf EL) (chgsOf ER) hs O) := ⟨hgood, hum, hMP⟩
           obtain ⟨ma, mn, mc, rfl⟩ : ∃ a n c, um = .slice a n c := by obtain ⟨a, c, e, _⟩ := hum; exact ⟨_, _, _, e⟩
           clear hgood hum hMP
           go_wp2_with fail
           go_fit E14
           rintro e w18 ⟨hD, b18⟩
           obtain ⟨ud, hu18⟩ : ∃ u, e = .returned (.tuple #[u, .nilIface]) ∧ IsPairs w18 u O := by
            rcases hD with ⟨h1, _⟩ | ⟨_, u, O', h2, h3, h4⟩
            ·rw [HGOOD.out.1] at h1; cases h1
            ·refine ⟨u, h2, ?_⟩
             have h5 := HGOOD.out.2.2
             rw [HSw17.out.1.has] at h5
             rw [h5.uniq HSw17.out.1.wait h4]
             exact h3
           obtain ⟨rfl, hud⟩ := hu18
           obtain ⟨da9, dn9, dc9, rfl⟩ : ∃ a n c, ud = .slice a n c := by obtain ⟨a, c, e, _⟩ := hud; exact ⟨_, _, _, e⟩
           have HSw18 := as_next HSw17 b18
           have HP18 : Hid (IsPairs w18 (.slice ma mn mc) O ∧ IsPairs w18 (.slice da9 dn9 dc9) O) := ⟨HGOOD.out.2.1.below b18, hud⟩
           clear E14 hD hud b18 HSw17 HGOOD
           have E15 := error_nil w18
           go_wp2_with fail
           go_fit E15
           rintro e w19 ⟨rfl, b19⟩
           have HSw19 := as_next HSw18 b19
           have E16 := sameRefs_any (.slice ma mn mc) (.slice da9 dn9 dc9) O w19 (HP18.out.1.below b19) (HP18.out.2.below b19)
           clear E15 b19 HSw18 HP18
           go_wp2_with fail
           go_fit E16
           rintro e w20 ⟨rfl, b20⟩
           have HEND : Hid (post (.returned (.bool true)) w20) := HPO.out _ (HSw19.out.1.ref.bel.trans (b20.mono HSw19.out.1.ref.bel.size))
           clear E16 b20 HSw19
           go_wp2
           exact HEND.out
         ·have HNOT : Hid (¬ ∀ x ∈ hs, x ∈ refsOf (chgsOf EL)) := hnot
          clear hnot HHT
          have E10 := dBehind_any w12 g h q EH ED (.slice hha hn hc) hs HSwr.out.1.bk (HA.out.2.1.below HSwr.out.1.ref.bel) HHN.out.2
          go_wp2_with fail
          go_fit E10
          rintro e w14 ⟨hD, b14⟩
          have he : e = .returned (.tuple #[.slice none 0 0, .iface 62 (.int .i64 6)]) := by
           rcases hD with ⟨_, h2⟩ | ⟨h1, _⟩
           ·exact h2
           ·exact absurd (by rw [HSwr.out.1.has]; exact h1) HNOT.out
          subst he
          have HSw14 := as_next HSwr b14
          clear E10 hD b14 HSwr k0 zs g1
          have E11 := error_errno 6 w14 (HA.out.2.2.2.2.below HSw14.out.1.ref.bel)
          go_wp2_with fail
          go_fit E11
          rintro e w15 ⟨rfl, b15⟩
          have HSw15 := as_next HSw14 b15
          have E12 := sameRefs_any (.slice none 0 0) (.slice none 0 0) [] w15 (isPairs_nil _ _ _) (isPairs_nil _ _ _)
          clear E11 b15 HSw14
          go_wp2_with fail
          go_fit E12
          rintro e w16 ⟨rfl, b16⟩
          have HSw16 := as_next HSw15 b16
          clear E12 b16 HSw15 HNOT
          go_upto_region 40 with fail
          have E13 := rMissing_any w s EL ER (.slice la ln lc) vr (.slice hha hn hc) hs w16 HSw16.out.1.ref HSw16.out.1.ri (HA.out.2.1.below HSw16.out.1.ref.bel) (by have := HHN.out.2; omega)
          go_wp2_with fail
          go_fit E13
          rintro e w17 ⟨hM, b17⟩
          have HSw17 := as_next HSw16 b17
          clear E13 b17 HSw16
          have E14 := dMissing_any w17 g h q EH ED (.slice hha hn hc) hs HSw17.out.1.bk (HA.out.2.1.below HSw17.out.1.ref.bel) HA.out.2.2.1 HHN.out.2
          rcases hM with ⟨hbad, rfl⟩ | ⟨hgood, um, O, rfl, hum, _, hMP⟩
          ·have HBAD : Hid (hs.all refB = false) := hbad
           clear hbad
           go_wp2_with fail
           go_fit E14
           rintro e w18 ⟨hD, b18⟩
           have he : e = .returned (.tuple #[.slice none 0 0, .iface 62 (.int .i64 1)]) := by
            rcases hD with ⟨_, h2⟩ | ⟨h1, _⟩
            ·exact h2
            ·rw [HBAD.out] at h1; cases h1
           subst he
           have HSw18 := as_next HSw17 b18
           clear E14 hD b18 HSw17 HBAD
           have E15 := error_errno 1 w18 (HA.out.2.2.2.2.below HSw18.out.1.ref.bel)
           go_wp2_with fail
           go_fit E15
           rintro e w19 ⟨rfl, b19⟩
           have HSw19 := as_next HSw18 b19
           have E16 := sameRefs_any (.slice none 0 0) (.slice none 0 0) [] w19 (isPairs_nil _ _ _) (isPairs_nil _ _ _)
           clear E15 b19 HSw18
           go_wp2_with fail
           go_fit E16
           rintro e w20 ⟨rfl, b20⟩
           have HEND : Hid (post (.returned (.bool true)) w20) := HPO.out _ (HSw19.out.1.ref.bel.trans (b20.mono HSw19.out.1.ref.bel.size))
           clear E16 b20 HSw19
           go_wp2
           exact HEND.out
          ·have HGOOD : Hid (hs.all refB = true ∧ IsPairs w17 um O ∧ MissP (chgsOf EL) (chgsOf ER) hs O) := ⟨hgood, hum, hMP⟩
           obtain ⟨ma, mn, mc, rfl⟩ : ∃ a n c, um = .slice a n c := by obtain ⟨a, c, e, _⟩ := hum; exact ⟨_, _, _, e⟩
           clear hgood hum hMP
           go_wp2_with fail
           go_fit E14
           rintro e w18 ⟨hD, b18⟩
           obtain ⟨ud, hu18⟩ : ∃ u, e = .returned (.tuple #[u, .nilIface]) ∧ IsPairs w18 u O := by
            rcases hD with ⟨h1, _⟩ | ⟨_, u, O', h2, h3, h4⟩
            ·rw [HGOOD.out.1] at h1; cases h1
            ·refine ⟨u, h2, ?_⟩
             have h5 := HGOOD.out.2.2
             rw [HSw17.out.1.has] at h5
             rw [h5.uniq HSw17.out.1.wait h4]
             exact h3
           obtain ⟨rfl, hud⟩ := hu18
           obtain ⟨da9, dn9, dc9, rfl⟩ : ∃ a n c, ud = .slice a n c := by obtain ⟨a, c, e, _⟩ := hud; exact ⟨_, _, _, e⟩
           have HSw18 := as_next HSw17 b18
           have HP18 : Hid (IsPairs w18 (.slice ma mn mc) O ∧ IsPairs w18 (.slice da9 dn9 dc9) O) := ⟨HGOOD.out.2.1.below b18, hud⟩
           clear E14 hD hud b18 HSw17 HGOOD
           have E15 := error_nil w18
           go_wp2_with fail
           go_fit E15
           rintro e w19 ⟨rfl, b19⟩
           have HSw19 := as_next HSw18 b19
           have E16 := sameRefs_any (.slice ma mn mc) (.slice da9 dn9 dc9) O w19 (HP18.out.1.below b19) (HP18.out.2.below b19)
           clear E15 b19 HSw18 HP18
           go_wp2_with fail
           go_fit E16
           rintro e w20 ⟨rfl, b20⟩
           have HEND : Hid (post (.returned (.bool true)) w20) := HPO.out _ (HSw19.out.1.ref.bel.trans (b20.mono HSw19.out.1.ref.bel.size))
           clear E16 b20 HSw19
           go_wp2
           exact HEND.out
    | false =>
     have hu0 : lk (ents EH) r = none := by
      have := HHB.out
      cases hl : lk (ents EH) r with
      | none => rfl
      | some u => rw [hl] at this; cases this
     have E4 := dChange_no g h q (ents EH) (ents ED) r w5 HSw5.out.1.bk.book HA.out.2.2.2.1 hu0
     unfold refV errV zC at E4
     rw [if_neg (by decide)] at E4
     clear hu0
     go_wp2_with fail
     go_fit E4
     rintro e w6 ⟨rfl, b6⟩
     have HSw6 := as_next HSw5 b6
     have HRF6 : Hid (IsPairs w6 (.slice ra rn rc) (refsS (chgsOf EL))) := HRF5.out.below b6
     clear E4 b6 HSw5 HRF5 r0 r1
     go_upto_region 14 with fail
     have HBX : Hid (((w6.alloc (.cells #[.int .i64 0, .int .i64 0, .int .i64 0, .slice none 0 0, .slice none 0 0] 34)).alloc (.cells #[.int .i64 0, .int .i64 0, .int .i64 0, .slice none 0 0, .slice none 0 0] 34)).heap[w6.heap.size]? = some (.cells #[.int .i64 0, .int .i64 0, .int .i64 0, .slice none 0 0, .slice none 0 0] 34) ∧ ((w6.alloc (.cells #[.int .i64 0, .int .i64 0, .int .i64 0, .slice none 0 0, .slice none 0 0] 34)).alloc (.cells #[.int .i64 0, .int .i64 0, .int .i64 0, .slice none 0 0, .slice none 0 0] 34)).heap[w6.heap.size + 1]? = some (.cells #[.int .i64 0, .int .i64 0, .int .i64 0, .slice none 0 0, .slice none 0 0] 34) ) := ⟨heap_alloc_old (heap_alloc_new w6 _) _, by have := heap_alloc_new (w6.alloc (.cells #[.int .i64 0, .int .i64 0, .int .i64 0, .slice none 0 0, .slice none 0 0] 34)) (.cells #[.int .i64 0, .int .i64 0, .int .i64 0, .slice none 0 0, .slice none 0 0] 34); simpa using this⟩
     have HBB : Hid (Below w6.heap.size w6 ((w6.alloc (.cells #[.int .i64 0, .int .i64 0, .int .i64 0, .slice none 0 0, .slice none 0 0] 34)).alloc (.cells #[.int .i64 0, .int .i64 0, .int .i64 0, .slice none 0 0, .slice none 0 0] 34))) := ((Below.refl _ _).alloc (Nat.le_refl _) _).alloc (by simp) _
     generalize (w6.alloc (.cells #[.int .i64 0, .int .i64 0, .int .i64 0, .slice none 0 0, .slice none 0 0] 34)).alloc (.cells #[.int .i64 0, .int .i64 0, .int .i64 0, .slice none 0 0, .slice none 0 0] 34) = w7 at *
     obtain ⟨y13, h13⟩ : ∃ z, w6.heap.size = z := ⟨_, rfl⟩
     obtain ⟨y16, h16⟩ : ∃ z, w6.heap.size + 1 = z := ⟨_, rfl⟩
     have HYZ : Hid (w6.heap.size = y13 ∧ w6.heap.size + 1 = y16) := ⟨h13, h16⟩
     try rw [h16]
     try rw [h13]
     rw [h16, h13] at HBX
     clear h13 h16
     go_wp2_with fail
     go_loopw [15, 17] (fun xe xi wr => ∃ (i : Nat) (e0 : Int) (o0 o1 o2 o3 o4 : Value), i ≤ EL.length ∧ xe = .int .i64 e0 ∧ xi = .int .i64 i ∧ Hid (WantP EL r i e0 #[o0, o1, o2, o3, o4] ∧ wr.heap[y13]? = some (.cells #[.int .i64 0, .int .i64 0, .int .i64 0, .slice none 0 0, .slice none 0 0] 34) ∧ wr.heap[y16]? = some (.cells #[o0, o1, o2, o3, o4] 34) ∧ Below w6.heap.size w6 wr)) (fun _ xi _ => EL.length - (RowKit.intOf xi).toNat)
     case atStart => exact ⟨0, 6, (.int .i64 0), (.int .i64 0), (.int .i64 0), (.slice none 0 0), (.slice none 0 0), Nat.zero_le _, rfl, rfl, Or.inl ⟨rfl, rfl, fun j _ hj => absurd hj (Nat.not_lt_zero _)⟩, HBX.out.1, HBX.out.2, HBB.out⟩
     case round =>
      clear HBX HBB
      obtain ⟨i, e0, o0, o1, o2, o3, o4, hi, rfl, rfl, hR⟩ := hrel
      have hRB := HSw6.out.1.ref.below hR.out.2.2.2
      have k0 : wr.cell? ⟨s, 0, none⟩ = some (.slice la ln lc) := Lib.cell_of_heap hRB.box 0
      have zs : s < wr.heap.size := lt_of_heap hRB.box
      by_cases hlt : i < EL.length
      ·have hk7 : i < (EL.map toCX).length := by rw [List.length_map]; exact hlt
       obtain ⟨a7, c7, e7, _, _, hIn, h47⟩ := HSw6.out.1.ref.isL HSw6.out.1.few
       obtain ⟨cb, co, ha7, h57, h67⟩ := h47 (fun e => by rw [e] at hk7; simp at hk7)
       have hva : la = some ⟨cb, co, none⟩ := (Value.slice.inj e7).1.trans ha7
       obtain ⟨p, hp⟩ : ∃ z : CE, EL[i] = z := ⟨_, rfl⟩
       have hpm : p ∈ EL := by rw [← hp]; exact List.getElem_mem hlt
       have hpw := HSw6.out.1.ref.chgs p (List.mem_append_left _ hpm)
       obtain ⟨pud, puo, plo, hpv, _, ⟨pda, pdc, rfl, _⟩, ⟨poa, poc, rfl, _⟩, _⟩ := id hpw
       obtain ⟨pa, hpa⟩ : ∃ z : Int, p.1.actor = z := ⟨_, rfl⟩
       obtain ⟨ps, hps⟩ : ∃ z : Int, p.1.seq = z := ⟨_, rfl⟩
       obtain ⟨pt, hpt⟩ : ∃ z : Int, p.1.start = z := ⟨_, rfl⟩
       obtain ⟨pdn, hpdn⟩ : ∃ z : Nat, p.1.deps.length = z := ⟨_, rfl⟩
       obtain ⟨pon, hpon⟩ : ∃ z : Nat, plo.length = z := ⟨_, rfl⟩
       rw [hpa, hps, hpt, hpdn, hpon] at hpv
       have HCL : Hid (∀ W, Below w6.heap.size w6 W → W.cell? ⟨cb, co + i * 5, none⟩ = some (.int .i64 pa) ∧ W.cell? ⟨cb, co + i * 5 + 1, none⟩ = some (.int .i64 ps) ∧ W.cell? ⟨cb, co + i * 5 + 2, none⟩ = some (.int .i64 pt) ∧ W.cell? ⟨cb, co + i * 5 + 3, none⟩ = some (.slice pda pdn pdc) ∧ W.cell? ⟨cb, co + i * 5 + 4, none⟩ = some (.slice poa pon poc)) := fun W hW => by
        have hcell : ∀ j, j < 5 → W.cell? ⟨cb, co + i * 5 + j, none⟩ = (vcells p.2)[j]? := fun j hj => by
         rw [hW.cell (p := ⟨cb, co + i * 5 + j, none⟩) h57, h67 i hk7 j hj]
         rw [List.getElem_map, hp, (toCX_val hpw.chg).2.2.2]
        rw [hpv] at hcell
        exact ⟨hcell 0 (by omega), hcell 1 (by omega), hcell 2 (by omega), hcell 3 (by omega), hcell 4 (by omega)⟩
       have HPV : Hid (p ∈ EL ∧ p.2 = .agg #[.int .i64 pa, .int .i64 ps, .int .i64 pt, .slice pda pdn pdc, .slice poa pon poc] ∧ p.1.ref = (pa, ps) ∧ ∃ h : i < EL.length, EL[i] = p) := ⟨hpm, hpv, by unfold Chg.ref; rw [hpa, hps], hlt, hp⟩
       obtain ⟨x0, x1, x2, x3, x4⟩ := HCL.out wr hR.out.2.2.2
       have HR : Hid (WantP EL r i e0 #[o0, o1, o2, o3, o4] ∧ wr.heap[y13]? = some (.cells #[.int .i64 0, .int .i64 0, .int .i64 0, .slice none 0 0, .slice none 0 0] 34) ∧ wr.heap[y16]? = some (.cells #[o0, o1, o2, o3, o4] 34) ∧ Below w6.heap.size w6 wr) := hR
       have g1 : (i : Int) < ln := by have := HLN.out.1; omega
       have g3 : (0 : Int) ≤ i := by omega
       have E5 := rRefD_any pa ps pt pda pdn pdc poa pon poc wr
       clear hk7 e7 hIn h47 ha7 h57 h67 hp hpm hpw hpv hpa hps hpt hpdn hpon hR hlt hi hRB
       subst hva
       go_wp2_with fail
       go_fit E5
       rintro e w8 ⟨rfl, b8⟩
       have HR8 : Hid (w8.heap[y13]? = some (.cells #[.int .i64 0, .int .i64 0, .int .i64 0, .slice none 0 0, .slice none 0 0] 34) ∧ w8.heap[y16]? = some (.cells #[o0, o1, o2, o3, o4] 34) ∧ Below w6.heap.size w6 w8) := ⟨heap_below HR.out.2.1 b8 (Nat.le_refl _), heap_below HR.out.2.2.1 b8 (Nat.le_refl _), HR.out.2.2.2.trans (b8.mono HR.out.2.2.2.size)⟩
       have HWP : Hid (WantP EL r i e0 #[o0, o1, o2, o3, o4]) := HR.out.1
       clear E5 b8 HR x0 x1 x2 x3 x4 k0 zs
       go_upto_region 18 with fail
       have HR9 : Hid ((w8.alloc (.cells #[.int .i64 pa, .int .i64 ps] 25)).heap[y13]? = some (.cells #[.int .i64 0, .int .i64 0, .int .i64 0, .slice none 0 0, .slice none 0 0] 34) ∧ (w8.alloc (.cells #[.int .i64 pa, .int .i64 ps] 25)).heap[y16]? = some (.cells #[o0, o1, o2, o3, o4] 34) ∧ Below w6.heap.size w6 (w8.alloc (.cells #[.int .i64 pa, .int .i64 ps] 25)) ∧ (w8.alloc (.cells #[.int .i64 pa, .int .i64 ps] 25)).heap[w8.heap.size]? = some (.cells #[.int .i64 pa, .int .i64 ps] 25) ∧ (w8.alloc (.cells #[.int .i64 pa, .int .i64 ps] 25)).heap[w.heap.size]? = some (.cells #[.int .i64 r.1, .int .i64 r.2] 25)) := by
        have b9 : Below w8.heap.size w8 (w8.alloc (.cells #[.int .i64 pa, .int .i64 ps] 25)) := (Below.refl _ _).alloc (Nat.le_refl _) _
        exact ⟨heap_below HR8.out.1 b9 (Nat.le_refl _), heap_below HR8.out.2.1 b9 (Nat.le_refl _), HR8.out.2.2.trans (b9.mono HR8.out.2.2.size), heap_alloc_new w8 _, heap_below (heap_below HSw6.out.2 HR8.out.2.2 (Nat.le_refl _)) b9 (Nat.le_refl _)⟩
       clear HR8
       generalize w8.alloc (.cells #[.int .i64 pa, .int .i64 ps] 25) = w9 at *
       have m0 : w9.cell? ⟨w8.heap.size, 0, none⟩ = some (.int .i64 pa) := Lib.cell_of_heap HR9.out.2.2.2.1 0
       have m1 : w9.cell? ⟨w8.heap.size, 1, none⟩ = some (.int .i64 ps) := Lib.cell_of_heap HR9.out.2.2.2.1 1
       have r0 : w9.cell? ⟨w.heap.size, 0, none⟩ = some (.int .i64 r.1) := Lib.cell_of_heap HR9.out.2.2.2.2 0
       have r1 : w9.cell? ⟨w.heap.size, 1, none⟩ = some (.int .i64 r.2) := Lib.cell_of_heap HR9.out.2.2.2.2 1
       have EQ := eqR (pa, ps) r
       obtain ⟨sb, hsb⟩ : ∃ s : Bool, samePr (pa, ps) r = s := ⟨_, rfl⟩
       rw [hsb] at EQ
       dsimp only at EQ
       have HSB : Hid (samePr (pa, ps) r = sb) := hsb
       clear hsb
       cases sb with
       | false =>
        have HNX : Hid (WantP EL r (i + 1) e0 #[o0, o1, o2, o3, o4]) := by
         obtain ⟨_, _, e3, h4, e4⟩ := HPV.out
         refine HWP.out.skip h4 ?_
         rw [e4, e3]
         intro e
         have := (samePr_iff (pa, ps) r).2 e
         rw [HSB.out] at this
         cases this
        clear HSB HWP
        go_upto_region 16 with fail
        clear m0 m1 r0 r1 EQ
        have gm : (i : Int) < 1000 := by obtain ⟨_, _, _, h4, _⟩ := HPV.out; have := HLN.out; omega
        go_wp2
        go_roundw
        case rel => obtain ⟨_, _, _, h4, _⟩ := HPV.out; exact ⟨i + 1, e0, o0, o1, o2, o3, o4, h4, rfl, by go_num, HNX.out, HR9.out.1, HR9.out.2.1, HR9.out.2.2.1⟩
        case measure => obtain ⟨_, _, _, h4, _⟩ := HPV.out; simp [RowKit.intOf]; omega
       | true =>
        have HNX : Hid (WantP EL r (i + 1) 0 #[.int .i64 pa, .int .i64 ps, .int .i64 pt, .slice pda pdn pdc, .slice poa pon poc]) := by
         obtain ⟨e1, e2, e3, _⟩ := HPV.out
         exact Or.inr ⟨rfl, p, e1, by rw [e3]; exact (samePr_iff (pa, ps) r).1 HSB.out, e2⟩
        clear HSB HWP
        go_upto_region 20 with fail
        clear m0 m1 r0 r1 EQ
        obtain ⟨x0, x1, x2, x3, x4⟩ := HCL.out w9 HR9.out.2.2.1
        have hRB := HSw6.out.1.ref.below HR9.out.2.2.1
        have k0 : w9.cell? ⟨s, 0, none⟩ = some (.slice (some ⟨cb, co, none⟩) ln lc) := Lib.cell_of_heap hRB.box 0
        have zs : s < w9.heap.size := lt_of_heap hRB.box
        have oo0 : w9.cell? ⟨y16, 0, none⟩ = some o0 := Lib.cell_of_heap HR9.out.2.1 0
        have oo1 : w9.cell? ⟨y16, 1, none⟩ = some o1 := Lib.cell_of_heap HR9.out.2.1 1
        have oo2 : w9.cell? ⟨y16, 2, none⟩ = some o2 := Lib.cell_of_heap HR9.out.2.1 2
        have oo3 : w9.cell? ⟨y16, 3, none⟩ = some o3 := Lib.cell_of_heap HR9.out.2.1 3
        have oo4 : w9.cell? ⟨y16, 4, none⟩ = some o4 := Lib.cell_of_heap HR9.out.2.1 4
        have of := Lib.frozen_of_heap HR9.out.2.1
        have hy : w6.heap.size ≤ y16 := by have := HYZ.out.2; omega
        have hyn : y13 ≠ y16 := by have := HYZ.out; omega
        have HZ : Hid (((((((w9.setCell ⟨y16, 0, none⟩ (.int .i64 pa)).setCell ⟨y16, 1, none⟩ (.int .i64 ps)).setCell ⟨y16, 2, none⟩ (.int .i64 pt)).setCell ⟨y16, 3, none⟩ (.slice pda pdn pdc)).setCell ⟨y16, 4, none⟩ (.slice poa pon poc))).heap[y13]? = some (.cells #[.int .i64 0, .int .i64 0, .int .i64 0, .slice none 0 0, .slice none 0 0] 34) ∧ ((((((w9.setCell ⟨y16, 0, none⟩ (.int .i64 pa)).setCell ⟨y16, 1, none⟩ (.int .i64 ps)).setCell ⟨y16, 2, none⟩ (.int .i64 pt)).setCell ⟨y16, 3, none⟩ (.slice pda pdn pdc)).setCell ⟨y16, 4, none⟩ (.slice poa pon poc))).heap[y16]? = some (.cells #[.int .i64 pa, .int .i64 ps, .int .i64 pt, .slice pda pdn pdc, .slice poa pon poc] 34) ∧ Below w6.heap.size w6 (((((w9.setCell ⟨y16, 0, none⟩ (.int .i64 pa)).setCell ⟨y16, 1, none⟩ (.int .i64 ps)).setCell ⟨y16, 2, none⟩ (.int .i64 pt)).setCell ⟨y16, 3, none⟩ (.slice pda pdn pdc)).setCell ⟨y16, 4, none⟩ (.slice poa pon poc))) := ⟨(heap_set_other (heap_set_other (heap_set_other (heap_set_other (heap_set_other HR9.out.1 hyn) hyn) hyn) hyn) hyn), by rw [(set_at (set_at (set_at (set_at (set_at HR9.out.2.1 0 (.int .i64 pa)) 1 (.int .i64 ps)) 2 (.int .i64 pt)) 3 (.slice pda pdn pdc)) 4 (.slice poa pon poc))]; rfl, (((((HR9.out.2.2.1.setCell (p := ⟨y16, 0, none⟩) hy (.int .i64 pa)).setCell (p := ⟨y16, 1, none⟩) hy (.int .i64 ps)).setCell (p := ⟨y16, 2, none⟩) hy (.int .i64 pt)).setCell (p := ⟨y16, 3, none⟩) hy (.slice pda pdn pdc)).setCell (p := ⟨y16, 4, none⟩) hy (.slice poa pon poc))⟩
        clear hRB hy hyn
        go_upto_region 16 with fail
        clear x0 x1 x2 x3 x4 k0 zs oo0 oo1 oo2 oo3 oo4 of
        generalize (((((w9.setCell ⟨y16, 0, none⟩ (.int .i64 pa)).setCell ⟨y16, 1, none⟩ (.int .i64 ps)).setCell ⟨y16, 2, none⟩ (.int .i64 pt)).setCell ⟨y16, 3, none⟩ (.slice pda pdn pdc)).setCell ⟨y16, 4, none⟩ (.slice poa pon poc)) = wz at *
        have gm : (i : Int) < 1000 := by obtain ⟨_, _, _, h4, _⟩ := HPV.out; have := HLN.out; omega
        go_wp2
        go_roundw
        case rel => obtain ⟨_, _, _, h4, _⟩ := HPV.out; exact ⟨i + 1, 0, (.int .i64 pa), (.int .i64 ps), (.int .i64 pt), (.slice pda pdn pdc), (.slice poa pon poc), h4, rfl, by go_num, HNX.out, HZ.out⟩
        case measure => obtain ⟨_, _, _, h4, _⟩ := HPV.out; simp [RowKit.intOf]; omega
      ·have g1 : ¬ (i : Int) < ln := by have := HLN.out.1; omega
       have HR : Hid (wr.heap[y13]? = some (.cells #[.int .i64 0, .int .i64 0, .int .i64 0, .slice none 0 0, .slice none 0 0] 34) ∧ wr.heap[y16]? = some (.cells #[o0, o1, o2, o3, o4] 34) ∧ Below w6.heap.size w6 wr) := hR.out.2
       obtain ⟨he0, hol⟩ : e0 = 6 ∧ #[o0, o1, o2, o3, o4] = #[.int .i64 0, .int .i64 0, .int .i64 0, .slice none 0 0, .slice none 0 0] := by
        rcases hR.out.1 with ⟨h1, h2, _⟩ | ⟨_, p, h2, h3, _⟩
        ·exact ⟨h1, h2⟩
        ·exfalso
         cases HMEM.out.1 (mem_refs.2 ⟨p.1, mem_chgs.2 ⟨p, h2, rfl⟩, h3⟩)
       subst he0
       have hwl2 : o0 = .int .i64 0 ∧ o1 = .int .i64 0 ∧ o2 = .int .i64 0 ∧ o3 = .slice none 0 0 ∧ o4 = .slice none 0 0 := by simpa using hol
       obtain ⟨rfl, rfl, rfl, rfl, rfl⟩ := hwl2
       clear hol hlt hi hR hRB
       go_upto_region 21 with fail
       clear k0 zs g1
       have E6 := error_errno 6 wr (HA.out.2.2.2.2.below (HSw6.out.1.ref.bel.trans (HR.out.2.2.mono HSw6.out.1.ref.bel.size)))
       go_wp2_with fail
       go_fit E6
       rintro e w10 ⟨rfl, b10⟩
       have HR10 : Hid (w10.heap[y13]? = some (.cells #[.int .i64 0, .int .i64 0, .int .i64 0, .slice none 0 0, .slice none 0 0] 34) ∧ w10.heap[y16]? = some (.cells #[.int .i64 0, .int .i64 0, .int .i64 0, .slice none 0 0, .slice none 0 0] 34) ∧ Below w6.heap.size w6 w10) := ⟨heap_below HR.out.1 b10 (Nat.le_refl _), heap_below HR.out.2.1 b10 (Nat.le_refl _), HR.out.2.2.trans (b10.mono HR.out.2.2.size)⟩
       clear E6 b10 HR
       have a130 : w10.cell? ⟨y13, 0, none⟩ = some (.int .i64 0) := Lib.cell_of_heap HR10.out.1 0
       have a131 : w10.cell? ⟨y13, 1, none⟩ = some (.int .i64 0) := Lib.cell_of_heap HR10.out.1 1
       have a132 : w10.cell? ⟨y13, 2, none⟩ = some (.int .i64 0) := Lib.cell_of_heap HR10.out.1 2
       have a133 : w10.cell? ⟨y13, 3, none⟩ = some (.slice none 0 0) := Lib.cell_of_heap HR10.out.1 3
       have a134 : w10.cell? ⟨y13, 4, none⟩ = some (.slice none 0 0) := Lib.cell_of_heap HR10.out.1 4
       have a160 : w10.cell? ⟨y16, 0, none⟩ = some (.int .i64 0) := Lib.cell_of_heap HR10.out.2.1 0
       have a161 : w10.cell? ⟨y16, 1, none⟩ = some (.int .i64 0) := Lib.cell_of_heap HR10.out.2.1 1
       have a162 : w10.cell? ⟨y16, 2, none⟩ = some (.int .i64 0) := Lib.cell_of_heap HR10.out.2.1 2
       have a163 : w10.cell? ⟨y16, 3, none⟩ = some (.slice none 0 0) := Lib.cell_of_heap HR10.out.2.1 3
       have a164 : w10.cell? ⟨y16, 4, none⟩ = some (.slice none 0 0) := Lib.cell_of_heap HR10.out.2.1 4
       have E7 := sameF_any zC zC zeroChg w10 (zero_is _) (zero_is _) zero_fit
       unfold zC at E7
       go_wp2_with fail
       go_fit E7
       rintro e w11 ⟨rfl, b11⟩
       have b611 : Below w6.heap.size w6 w11 := HR10.out.2.2.trans (b11.mono HR10.out.2.2.size)
       have HSw11 := as_next HSw6 b611
       have HRF11 : Hid (IsPairs w11 (.slice ra rn rc) (refsS (chgsOf EL))) := HRF6.out.below b611
       have a13a := heap_below HR10.out.1 b11 (Nat.le_refl _)
       clear a130 a131 a132 a133 a134 a160 a161 a162 a163 a164
       have a130 : w11.cell? ⟨y13, 0, none⟩ = some (.int .i64 0) := Lib.cell_of_heap a13a 0
       have a131 : w11.cell? ⟨y13, 1, none⟩ = some (.int .i64 0) := Lib.cell_of_heap a13a 1
       have a132 : w11.cell? ⟨y13, 2, none⟩ = some (.int .i64 0) := Lib.cell_of_heap a13a 2
       have a133 : w11.cell? ⟨y13, 3, none⟩ = some (.slice none 0 0) := Lib.cell_of_heap a13a 3
       have a134 : w11.cell? ⟨y13, 4, none⟩ = some (.slice none 0 0) := Lib.cell_of_heap a13a 4
       clear E7 b11 b611 HR10 a13a HSw6 HRF6 HYZ
       go_upto_region 25 with fail
       clear a130 a131 a132 a133 a134
       go_wp2_with fail
       go_loopw [12, 15, 21] (fun xs xe xi wr => ∃ (i : Nat) (e0 : Int) (bb : Bool), i ≤ hs.length ∧ xs = .bool bb ∧ xe = .int .i64 e0 ∧ xi = .int .i64 i ∧ Hid (HeadsTo (chgsOf EL) hs i e0 ∧ Below w11.heap.size w11 wr)) (fun _ _ xi _ => hs.length - (RowKit.intOf xi).toNat)
       case atStart => exact ⟨0, 0, _, Nat.zero_le _, rfl, rfl, rfl, Or.inl ⟨rfl, fun x hx => by simp at hx⟩, Below.refl _ _⟩
       case round =>
        obtain ⟨i, e0, bb, hi, rfl, rfl, rfl, hR⟩ := hrel
        by_cases hlt : i < hs.length
        ·obtain ⟨a', c9, e9, _, _, h64, h4⟩ := id HA.out.2.1
         obtain ⟨pb, po, ha', h5, h6⟩ := h4 (fun e => by rw [e] at hlt; simp at hlt)
         have hva : hha = some ⟨pb, po, none⟩ := (Value.slice.inj e9).1.trans ha'
         subst hva
         obtain ⟨x, hx⟩ : ∃ z : Pr, hs[i] = z := ⟨_, rfl⟩
         have bw : Below w.heap.size w wr := HSw11.out.1.ref.bel.trans (hR.out.2.mono HSw11.out.1.ref.bel.size)
         have y0 : wr.cell? ⟨pb, po + i * 2, none⟩ = some (.int .i64 x.1) := by rw [bw.cell (p := ⟨pb, po + i * 2, none⟩) h5, (h6 i hlt).1, hx]
         have y1 : wr.cell? ⟨pb, po + i * 2 + 1, none⟩ = some (.int .i64 x.2) := by rw [bw.cell (p := ⟨pb, po + i * 2 + 1, none⟩) h5, (h6 i hlt).2, hx]
         have E8 := rHas_any (.slice ra rn rc) (refsS (chgsOf EL)) x wr (HRF11.out.below hR.out.2)
         obtain ⟨db, hdb⟩ : ∃ z : Bool, decide (x ∈ refsS (chgsOf EL)) = z := ⟨_, rfl⟩
         rw [hdb] at E8
         unfold refV at E8
         have HX : Hid ((x ∈ refsOf (chgsOf EL) ↔ db = true) ∧ ∃ h : i < hs.length, hs[i] = x) := ⟨by rw [← (refsS_facts (chgsOf EL)).2.1, ← hdb]; simp, hlt, hx⟩
         have HR : Hid (HeadsTo (chgsOf EL) hs i e0 ∧ Below w11.heap.size w11 wr) := hR
         have g1 : (i : Int) < hn := by have := HHN.out.1; omega
         have g3 : (0 : Int) ≤ i := by omega
         clear e9 h64 h4 ha' h5 h6 hx bw hdb hR hlt hi
         go_wp2_with fail
         go_fit E8
         rintro e w12 ⟨rfl, b12⟩
         have HB12 : Hid (Below w11.heap.size w11 w12) := HR.out.2.trans (b12.mono HR.out.2.size)
         clear E8 b12 y0 y1
         cases db with
         | true =>
          have HNX : Hid (HeadsTo (chgsOf EL) hs (i + 1) e0) := by
           obtain ⟨h1, h2, e2⟩ := HX.out
           exact (HR.out.1.next h2).1 (by rw [e2]; exact h1.2 rfl)
          clear HR
          go_upto_region 28 with fail
          have gm : (i : Int) < 1000000 := by obtain ⟨_, h2, _⟩ := HX.out; have := HHN.out.2; omega
          go_wp2
          go_roundw
          case rel => obtain ⟨_, h2, _⟩ := HX.out; exact ⟨i + 1, e0, _, h2, rfl, rfl, by go_num, HNX.out, HB12.out⟩
          case measure => obtain ⟨_, h2, _⟩ := HX.out; simp [RowKit.intOf]; omega
         | false =>
          have HNX : Hid (HeadsTo (chgsOf EL) hs (i + 1) 6) := by
           obtain ⟨h1, h2, e2⟩ := HX.out
           exact (HR.out.1.next h2).2 (by rw [e2]; exact fun h => by cases h1.1 h)
          clear HR
          go_upto_region 28 with fail
          have gm : (i : Int) < 1000000 := by obtain ⟨_, h2, _⟩ := HX.out; have := HHN.out.2; omega
          go_wp2
          go_roundw
          case rel => obtain ⟨_, h2, _⟩ := HX.out; exact ⟨i + 1, 6, _, h2, rfl, rfl, by go_num, HNX.out, HB12.out⟩
          case measure => obtain ⟨_, h2, _⟩ := HX.out; simp [RowKit.intOf]; omega
        ·have g1 : ¬ (i : Int) < hn := by have := HHN.out.1; omega
         have hb11 := hR.out.2
         have HSwr : Hid (ASt w g h q s EL ER EH ED (.slice la ln lc) vr wr ∧ wr.heap[w.heap.size]? = some (.cells #[.int .i64 r.1, .int .i64 r.2] 25)) := ⟨HSw11.out.1.below hb11, heap_below HSw11.out.2 hb11 (Nat.le_refl _)⟩
         have HHT : Hid ((e0 = 0 ∧ ∀ x ∈ hs, x ∈ refsOf (chgsOf EL)) ∨ (e0 = 6 ∧ ¬ ∀ x ∈ hs, x ∈ refsOf (chgsOf EL))) := by
          have h1 := hR.out.1
          unfold HeadsTo at h1
          rw [List.take_of_length_le (by omega)] at h1
          rcases h1 with h1 | ⟨h1, x, hx, hn⟩
          ·exact Or.inl h1
          ·exact Or.inr ⟨h1, fun h => hn (h x hx)⟩
         clear hb11 hR hlt hi HSw11 HRF11
         generalize wr = w12 at *
         clear wr
         have k0 : w12.cell? ⟨s, 0, none⟩ = some (.slice la ln lc) := Lib.cell_of_heap HSwr.out.1.ref.box 0
         have zs : s < w12.heap.size := lt_of_heap HSwr.out.1.ref.box
         rcases HHT.out with ⟨rfl, hall⟩ | ⟨rfl, hnot⟩
         ·have HALL : Hid (∀ x ∈ hs, x ∈ refsOf (chgsOf EL)) := hall
          clear hall HHT
          have bw : Below w.heap.size w w12 := HSwr.out.1.ref.bel
          have hok : ∀ x ∈ EL.map toCX, x.c.deps.length ≤ 12 := fun x hx => by
           obtain ⟨p, hp, rfl⟩ := List.mem_map.1 hx
           exact (chk_few (HSwr.out.1.ri.inv.ok p.1 (mem_chgs.2 ⟨p, hp, rfl⟩))).1
          have E9 := rBehind_any (.slice la ln lc) (.slice hha hn hc) (EL.map toCX) hs w12 (HSwr.out.1.ref.isL HSwr.out.1.few) HSwr.out.1.ref.whL (HA.out.2.1.below bw) HA.out.2.2.1 (by rw [map_toCX]; exact HSwr.out.1.ri.inv.nd) (by rw [List.length_map]; have := HLN.out.2; omega) hok (by have := HHN.out.2; omega)
          rw [map_toCX] at E9
          clear bw hok
          go_wp2_with fail
          go_fit E9
          rintro e w13 ⟨⟨ub, O, rfl, hub, _, hro, hbo⟩, b13⟩
          obtain ⟨ba, bn, bc, rfl⟩ : ∃ a n c, ub = .slice a n c := by obtain ⟨a, c, e, _⟩ := hub; exact ⟨_, _, _, e⟩
          have HSw13 := as_next HSwr b13
          have HO : Hid (IsPairs w13 (.slice ba bn bc) O ∧ Rise O ∧ IsBeh (chgsOf EL) hs O) := ⟨hub, hro, hbo⟩
          clear E9 hub hro hbo b13 HSwr k0 zs g1
          have E10 := dBehind_any w13 g h q EH ED (.slice hha hn hc) hs HSw13.out.1.bk (HA.out.2.1.below HSw13.out.1.ref.bel) HHN.out.2
          go_wp2_with fail
          go_fit E10
          rintro e w14 ⟨hD, b14⟩
          obtain ⟨ud, hu14⟩ : ∃ u, e = .returned (.tuple #[u, .nilIface]) ∧ IsPairs w14 u O := by
           rcases hD with ⟨h1, _⟩ | ⟨_, u, O', h2, h3, _, h4, h5⟩
           ·exact absurd (by rw [← HSw13.out.1.has]; exact HALL.out) h1
           ·refine ⟨u, h2, ?_⟩
            have e9 : O' = O := rise_ext h4 HO.out.2.1 (fun x => by rw [← HSw13.out.1.has] at h5; exact h5.same HO.out.2.2 x)
            rw [← e9]
            exact h3
          obtain ⟨rfl, hud⟩ := hu14
          obtain ⟨da, dn, dc, rfl⟩ : ∃ a n c, ud = .slice a n c := by obtain ⟨a, c, e, _⟩ := hud; exact ⟨_, _, _, e⟩
          have HSw14 := as_next HSw13 b14
          have HP14 : Hid (IsPairs w14 (.slice da dn dc) O ∧ IsPairs w14 (.slice ba bn bc) O) := ⟨hud, HO.out.1.below b14⟩
          clear E10 hD hud b14 HO HSw13
          have E11 := error_nil w14
          go_wp2_with fail
          go_fit E11
          rintro e w15 ⟨rfl, b15⟩
          have HSw15 := as_next HSw14 b15
          have E12 := sameRefs_any (.slice da dn dc) (.slice ba bn bc) O w15 (HP14.out.1.below b15) (HP14.out.2.below b15)
          clear E11 b15 HSw14 HP14
          go_wp2_with fail
          go_fit E12
          rintro e w16 ⟨rfl, b16⟩
          have HSw16 := as_next HSw15 b16
          clear E12 b16 HSw15 HALL
          go_upto_region 40 with fail
          have E13 := rMissing_any w s EL ER (.slice la ln lc) vr (.slice hha hn hc) hs w16 HSw16.out.1.ref HSw16.out.1.ri (HA.out.2.1.below HSw16.out.1.ref.bel) (by have := HHN.out.2; omega)
          go_wp2_with fail
          go_fit E13
          rintro e w17 ⟨hM, b17⟩
          have HSw17 := as_next HSw16 b17
          clear E13 b17 HSw16
          have E14 := dMissing_any w17 g h q EH ED (.slice hha hn hc) hs HSw17.out.1.bk (HA.out.2.1.below HSw17.out.1.ref.bel) HA.out.2.2.1 HHN.out.2
          rcases hM with ⟨hbad, rfl⟩ | ⟨hgood, um, O, rfl, hum, _, hMP⟩
          ·have HBAD : Hid (hs.all refB = false) := hbad
           clear hbad
           go_wp2_with fail
           go_fit E14
           rintro e w18 ⟨hD, b18⟩
           have he : e = .returned (.tuple #[.slice none 0 0, .iface 62 (.int .i64 1)]) := by
            rcases hD with ⟨_, h2⟩ | ⟨h1, _⟩
            ·exact h2
            ·rw [HBAD.out] at h1; cases h1
           subst he
           have HSw18 := as_next HSw17 b18
           clear E14 hD b18 HSw17 HBAD
           have E15 := error_errno 1 w18 (HA.out.2.2.2.2.below HSw18.out.1.ref.bel)
           go_wp2_with fail
           go_fit E15
           rintro e w19 ⟨rfl, b19⟩
           have HSw19 := as_next HSw18 b19
           have E16 := sameRefs_any (.slice none 0 0) (.slice none 0 0) [] w19 (isPairs_nil _ _ _) (isPairs_nil _ _ _)
           clear E15 b19 HSw18
           go_wp2_with fail
           go_fit E16
           rintro e w20 ⟨rfl, b20⟩
           have HEND : Hid (post (.returned (.bool true)) w20) := HPO.out _ (HSw19.out.1.ref.bel.trans (b20.mono HSw19.out.1.ref.bel.size))
           clear E16 b20 HSw19
           go_wp2
           exact HEND.out
          ·have HGOOD : Hid (hs.all refB = true ∧ IsPairs w17 um O ∧ MissP (chgsOf EL) (chgsOf ER) hs O) := ⟨hgood, hum, hMP⟩
           obtain ⟨ma, mn, mc, rfl⟩ : ∃ a n c, um = .slice a n c := by obtain ⟨a, c, e, _⟩ := hum; exact ⟨_, _, _, e⟩
           clear hgood hum hMP
           go_wp2_with fail
           go_fit E14
           rintro e w18 ⟨hD, b18⟩
           obtain ⟨ud, hu18⟩ : ∃ u, e = .returned (.tuple #[u, .nilIface]) ∧ IsPairs w18 u O := by
            rcases hD with ⟨h1, _⟩ | ⟨_, u, O', h2, h3, h4⟩
            ·rw [HGOOD.out.1] at h1; cases h1
            ·refine ⟨u, h2, ?_⟩
             have h5 := HGOOD.out.2.2
             rw [HSw17.out.1.has] at h5
             rw [h5.uniq HSw17.out.1.wait h4]
             exact h3
           obtain ⟨rfl, hud⟩ := hu18
           obtain ⟨da9, dn9, dc9, rfl⟩ : ∃ a n c, ud = .slice a n c := by obtain ⟨a, c, e, _⟩ := hud; exact ⟨_, _, _, e⟩
           have HSw18 := as_next HSw17 b18
           have HP18 : Hid (IsPairs w18 (.slice ma mn mc) O ∧ IsPairs w18 (.slice da9 dn9 dc9) O) := ⟨HGOOD.out.2.1.below b18, hud⟩
           clear E14 hD hud b18 HSw17 HGOOD
           have E15 := error_nil w18
           go_wp2_with fail
           go_fit E15
           rintro e w19 ⟨rfl, b19⟩
           have HSw19 := as_next HSw18 b19
           have E16 := sameRefs_any (.slice ma mn mc) (.slice da9 dn9 dc9) O w19 (HP18.out.1.below b19) (HP18.out.2.below b19)
           clear E15 b19 HSw18 HP18
           go_wp2_with fail
           go_fit E16
           rintro e w20 ⟨rfl, b20⟩
           have HEND : Hid (post (.returned (.bool true)) w20) := HPO.out _ (HSw19.out.1.ref.bel.trans (b20.mono HSw19.out.1.ref.bel.size))
           clear E16 b20 HSw19
           go_wp2
           exact HEND.out
         ·have HNOT : Hid (¬ ∀ x ∈ hs, x ∈ refsOf (chgsOf EL)) := hnot
          clear hnot HHT
          have E10 := dBehind_any w12 g h q EH ED (.slice hha hn hc) hs HSwr.out.1.bk (HA.out.2.1.below HSwr.out.1.ref.bel) HHN.out.2
          go_wp2_with fail
          go_fit E10
          rintro e w14 ⟨hD, b14⟩
          have he : e = .returned (.tuple #[.slice none 0 0, .iface 62 (.int .i64 6)]) := by
           rcases hD with ⟨_, h2⟩ | ⟨h1, _⟩
           ·exact h2
           ·exact absurd (by rw [HSwr.out.1.has]; exact h1) HNOT.out
          subst he
          have HSw14 := as_next HSwr b14
          clear E10 hD b14 HSwr k0 zs g1
          have E11 := error_errno 6 w14 (HA.out.2.2.2.2.below HSw14.out.1.ref.bel)
          go_wp2_with fail
          go_fit E11
          rintro e w15 ⟨rfl, b15⟩
          have HSw15 := as_next HSw14 b15
          have E12 := sameRefs_any (.slice none 0 0) (.slice none 0 0) [] w15 (isPairs_nil _ _ _) (isPairs_nil _ _ _)
          clear E11 b15 HSw14
          go_wp2_with fail
          go_fit E12
          rintro e w16 ⟨rfl, b16⟩
          have HSw16 := as_next HSw15 b16
          clear E12 b16 HSw15 HNOT
          go_upto_region 40 with fail
          have E13 := rMissing_any w s EL ER (.slice la ln lc) vr (.slice hha hn hc) hs w16 HSw16.out.1.ref HSw16.out.1.ri (HA.out.2.1.below HSw16.out.1.ref.bel) (by have := HHN.out.2; omega)
          go_wp2_with fail
          go_fit E13
          rintro e w17 ⟨hM, b17⟩
          have HSw17 := as_next HSw16 b17
          clear E13 b17 HSw16
          have E14 := dMissing_any w17 g h q EH ED (.slice hha hn hc) hs HSw17.out.1.bk (HA.out.2.1.below HSw17.out.1.ref.bel) HA.out.2.2.1 HHN.out.2
          rcases hM with ⟨hbad, rfl⟩ | ⟨hgood, um, O, rfl, hum, _, hMP⟩
          ·have HBAD : Hid (hs.all refB = false) := hbad
           clear hbad
           go_wp2_with fail
           go_fit E14
           rintro e w18 ⟨hD, b18⟩
           have he : e = .returned (.tuple #[.slice none 0 0, .iface 62 (.int .i64 1)]) := by
            rcases hD with ⟨_, h2⟩ | ⟨h1, _⟩
            ·exact h2
            ·rw [HBAD.out] at h1; cases h1
           subst he
           have HSw18 := as_next HSw17 b18
           clear E14 hD b18 HSw17 HBAD
           have E15 := error_errno 1 w18 (HA.out.2.2.2.2.below HSw18.out.1.ref.bel)
           go_wp2_with fail
           go_fit E15
           rintro e w19 ⟨rfl, b19⟩
           have HSw19 := as_next HSw18 b19
           have E16 := sameRefs_any (.slice none 0 0) (.slice none 0 0) [] w19 (isPairs_nil _ _ _) (isPairs_nil _ _ _)
           clear E15 b19 HSw18
           go_wp2_with fail
           go_fit E16
           rintro e w20 ⟨rfl, b20⟩
           have HEND : Hid (post (.returned (.bool true)) w20) := HPO.out _ (HSw19.out.1.ref.bel.trans (b20.mono HSw19.out.1.ref.bel.size))
           clear E16 b20 HSw19
           go_wp2
           exact HEND.out
          ·have HGOOD : Hid (hs.all refB = true ∧ IsPairs w17 um O ∧ MissP (chgsOf EL) (chgsOf ER) hs O) := ⟨hgood, hum, hMP⟩
           obtain ⟨ma, mn, mc, rfl⟩ : ∃ a n c, um = .slice a n c := by obtain ⟨a, c, e, _⟩ := hum; exact ⟨_, _, _, e⟩
           clear hgood hum hMP
           go_wp2_with fail
           go_fit E14
           rintro e w18 ⟨hD, b18⟩
           obtain ⟨ud, hu18⟩ : ∃ u, e = .returned (.tuple #[u, .nilIface]) ∧ IsPairs w18 u O := by
            rcases hD with ⟨h1, _⟩ | ⟨_, u, O', h2, h3, h4⟩
            ·rw [HGOOD.out.1] at h1; cases h1
            ·refine ⟨u, h2, ?_⟩
             have h5 := HGOOD.out.2.2
             rw [HSw17.out.1.has] at h5
             rw [h5.uniq HSw17.out.1.wait h4]
             exact h3
           obtain ⟨rfl, hud⟩ := hu18
           obtain ⟨da9, dn9, dc9, rfl⟩ : ∃ a n c, ud = .slice a n c := by obtain ⟨a, c, e, _⟩ := hud; exact ⟨_, _, _, e⟩
           have HSw18 := as_next HSw17 b18
           have HP18 : Hid (IsPairs w18 (.slice ma mn mc) O ∧ IsPairs w18 (.slice da9 dn9 dc9) O) := ⟨HGOOD.out.2.1.below b18, hud⟩
           clear E14 hD hud b18 HSw17 HGOOD
           have E15 := error_nil w18
           go_wp2_with fail
           go_fit E15
           rintro e w19 ⟨rfl, b19⟩
           have HSw19 := as_next HSw18 b19
           have E16 := sameRefs_any (.slice ma mn mc) (.slice da9 dn9 dc9) O w19 (HP18.out.1.below b19) (HP18.out.2.below b19)
           clear E15 b19 HSw18 HP18
           go_wp2_with fail
           go_fit E16
           rintro e w20 ⟨rfl, b20⟩
           have HEND : Hid (post (.returned (.bool true)) w20) := HPO.out _ (HSw19.out.1.ref.bel.trans (b20.mono HSw19.out.1.ref.bel.size))
           clear E16 b20 HSw19
           go_wp2
           exact HEND.out
   ·have g1 : ¬ (i : Int) < vn := by have := HVN.out.1; omega
    clear hlt h60 hi hR hS hX hln
    go_upto_region 8 with fail
    clear g1
    have k0 : wr.cell? ⟨s, 0, none⟩ = some (.slice la ln lc) := Lib.cell_of_heap HSwr.out.1.ref.box 0
    have zs : s < wr.heap.size := lt_of_heap HSwr.out.1.ref.box
    have E1 := rRefs_any (.slice la ln lc) (EL.map toCX) wr (HSwr.out.1.ref.isL HSwr.out.1.few) (by rw [List.length_map]; have := HLN.out.2; omega)
    rw [map_toCX] at E1
    go_wp2_with fail
    go_fit E1
    rintro e w3 ⟨⟨u3, rfl, hu3, _⟩, b3⟩
    obtain ⟨ra, rn, rc, rfl⟩ : ∃ a n c, u3 = .slice a n c := by obtain ⟨a, c, e, _⟩ := hu3; exact ⟨_, _, _, e⟩
    have HSw3 := as_next HSwr b3
    have HRF : Hid (IsPairs w3 (.slice ra rn rc) (refsS (chgsOf EL))) := hu3
    clear E1 hu3 b3 HSwr k0 zs
    have r0 : w3.cell? ⟨w.heap.size, 0, none⟩ = some (.int .i64 r.1) := Lib.cell_of_heap HSw3.out.2 0
    have r1 : w3.cell? ⟨w.heap.size, 1, none⟩ = some (.int .i64 r.2) := Lib.cell_of_heap HSw3.out.2 1
    have E2 := has_any g h q (ents EH) (ents ED) r w3 HSw3.out.1.bk.book HA.out.2.2.2.1 HSw3.out.1.bk.cvH
    obtain ⟨hb, hhb⟩ : ∃ z : Bool, (lk (ents EH) r).isSome = z := ⟨_, rfl⟩
    rw [hhb] at E2
    have HHB : Hid ((lk (ents EH) r).isSome = hb) := hhb
    have HMEM : Hid (r ∈ refsOf (chgsOf EL) ↔ hb = true) := by
     show _ ↔ _
     rw [← hhb, HSw3.out.1.has, refs_chgs, mem_keys]
    unfold refV at E2
    clear hhb
    go_wp2_with fail
    go_fit E2
    rintro e w4 ⟨rfl, b4⟩
    have HSw4 := as_next HSw3 b4
    have HRF4 : Hid (IsPairs w4 (.slice ra rn rc) (refsS (chgsOf EL))) := HRF.out.below b4
    clear E2 b4 HSw3 HRF r0 r1
    have r0 : w4.cell? ⟨w.heap.size, 0, none⟩ = some (.int .i64 r.1) := Lib.cell_of_heap HSw4.out.2 0
    have r1 : w4.cell? ⟨w.heap.size, 1, none⟩ = some (.int .i64 r.2) := Lib.cell_of_heap HSw4.out.2 1
    have E3 := rHas_any (.slice ra rn rc) (refsS (chgsOf EL)) r w4 HRF4.out
    have hdh : decide (r ∈ refsS (chgsOf EL)) = hb := by
     have h1 := (refsS_facts (chgsOf EL)).2.1 r
     have h2 := HMEM.out
     cases hb with
     | true => exact decide_eq_true (h1.2 (h2.2 rfl))
     | false => exact decide_eq_false (fun e => by cases h2.1 (h1.1 e))
    rw [hdh] at E3
    unfold refV at E3
    clear hdh
    go_wp2_with fail
    go_fit E3
    rintro e w5 ⟨rfl, b5⟩
    have HSw5 := as_next HSw4 b5
    have HRF5 : Hid (IsPairs w5 (.slice ra rn rc) (refsS (chgsOf EL))) := HRF4.out.below b5
    clear E3 b5 HSw4 HRF4 r0 r1
    have r0 : w5.cell? ⟨w.heap.size, 0, none⟩ = some (.int .i64 r.1) := Lib.cell_of_heap HSw5.out.2 0
    have r1 : w5.cell? ⟨w.heap.size, 1, none⟩ = some (.int .i64 r.2) := Lib.cell_of_heap HSw5.out.2 1
    cases hb with
    | true =>
     obtain ⟨u0, hu0⟩ : ∃ u, lk (ents EH) r = some u := Option.isSome_iff_exists.1 HHB.out
     obtain ⟨c', hm, hcr⟩ := lk_ents hu0
     have hcw := HSw5.out.1.bk.chgs _ (List.mem_append_left _ hm)
     have HCC : Hid (c' ∈ chgsOf EL ∧ c'.ref = r ∧ chk c' = 0) := ⟨by rw [HSw5.out.1.has]; exact mem_chgs.2 ⟨_, hm, rfl⟩, hcr, hcw.2⟩
     have E4 := dChange_yes g h q (ents EH) (ents ED) r u0 w5 HSw5.out.1.bk.book HA.out.2.2.2.1 HSw5.out.1.bk.cvH hu0 c' hcw.1 hcw.2
     unfold refV at E4
     clear hu0 hm hcr hcw
     go_wp2_with fail
     go_fit E4
     rintro e w6 ⟨⟨u6, rfl, hu6⟩, b6⟩
     obtain ⟨ua, us, ut, uda, udn, udc, uoa, uon, uoc, rfl⟩ := hu6.cv
     have HSw6 := as_next HSw5 b6
     have HRF6 : Hid (IsPairs w6 (.slice ra rn rc) (refsS (chgsOf EL)) ∧ IsChg w6 (.agg #[.int .i64 ua, .int .i64 us, .int .i64 ut, .slice uda udn udc, .slice uoa uon uoc]) c') := ⟨HRF5.out.below b6, hu6.chg⟩
     clear E4 b6 hu6 HSw5 HRF5 r0 r1
     go_upto_region 14 with fail
     have HBX : Hid (((w6.alloc (.cells #[.int .i64 ua, .int .i64 us, .int .i64 ut, .slice uda udn udc, .slice uoa uon uoc] 34)).alloc (.cells #[.int .i64 0, .int .i64 0, .int .i64 0, .slice none 0 0, .slice none 0 0] 34)).heap[w6.heap.size]? = some (.cells #[.int .i64 ua, .int .i64 us, .int .i64 ut, .slice uda udn udc, .slice uoa uon uoc] 34) ∧ ((w6.alloc (.cells #[.int .i64 ua, .int .i64 us, .int .i64 ut, .slice uda udn udc, .slice uoa uon uoc] 34)).alloc (.cells #[.int .i64 0, .int .i64 0, .int .i64 0, .slice none 0 0, .slice none 0 0] 34)).heap[w6.heap.size + 1]? = some (.cells #[.int .i64 0, .int .i64 0, .int .i64 0, .slice none 0 0, .slice none 0 0] 34) ) := ⟨heap_alloc_old (heap_alloc_new w6 _) _, by have := heap_alloc_new (w6.alloc (.cells #[.int .i64 ua, .int .i64 us, .int .i64 ut, .slice uda udn udc, .slice uoa uon uoc] 34)) (.cells #[.int .i64 0, .int .i64 0, .int .i64 0, .slice none 0 0, .slice none 0 0] 34); simpa using this⟩
     have HBB : Hid (Below w6.heap.size w6 ((w6.alloc (.cells #[.int .i64 ua, .int .i64 us, .int .i64 ut, .slice uda udn udc, .slice uoa uon uoc] 34)).alloc (.cells #[.int .i64 0, .int .i64 0, .int .i64 0, .slice none 0 0, .slice none 0 0] 34))) := ((Below.refl _ _).alloc (Nat.le_refl _) _).alloc (by simp) _
     generalize (w6.alloc (.cells #[.int .i64 ua, .int .i64 us, .int .i64 ut, .slice uda udn udc, .slice uoa uon uoc] 34)).alloc (.cells #[.int .i64 0, .int .i64 0, .int .i64 0, .slice none 0 0, .slice none 0 0] 34) = w7 at *
     obtain ⟨y13, h13⟩ : ∃ z, w6.heap.size = z := ⟨_, rfl⟩
     obtain ⟨y16, h16⟩ : ∃ z, w6.heap.size + 1 = z := ⟨_, rfl⟩
     have HYZ : Hid (w6.heap.size = y13 ∧ w6.heap.size + 1 = y16) := ⟨h13, h16⟩
     try rw [h16]
     try rw [h13]
     rw [h16, h13] at HBX
     clear h13 h16
     go_wp2_with fail
     go_loopw [15, 17] (fun xe xi wr => ∃ (i : Nat) (e0 : Int) (o0 o1 o2 o3 o4 : Value), i ≤ EL.length ∧ xe = .int .i64 e0 ∧ xi = .int .i64 i ∧ Hid (WantP EL r i e0 #[o0, o1, o2, o3, o4] ∧ wr.heap[y13]? = some (.cells #[.int .i64 ua, .int .i64 us, .int .i64 ut, .slice uda udn udc, .slice uoa uon uoc] 34) ∧ wr.heap[y16]? = some (.cells #[o0, o1, o2, o3, o4] 34) ∧ Below w6.heap.size w6 wr)) (fun _ xi _ => EL.length - (RowKit.intOf xi).toNat)
     case atStart => exact ⟨0, 6, (.int .i64 0), (.int .i64 0), (.int .i64 0), (.slice none 0 0), (.slice none 0 0), Nat.zero_le _, rfl, rfl, Or.inl ⟨rfl, rfl, fun j _ hj => absurd hj (Nat.not_lt_zero _)⟩, HBX.out.1, HBX.out.2, HBB.out⟩
     case round =>
      clear HBX HBB
      obtain ⟨i, e0, o0, o1, o2, o3, o4, hi, rfl, rfl, hR⟩ := hrel
      have hRB := HSw6.out.1.ref.below hR.out.2.2.2
      have k0 : wr.cell? ⟨s, 0, none⟩ = some (.slice la ln lc) := Lib.cell_of_heap hRB.box 0
      have zs : s < wr.heap.size := lt_of_heap hRB.box
      by_cases hlt : i < EL.length
      ·have hk7 : i < (EL.map toCX).length := by rw [List.length_map]; exact hlt
       obtain ⟨a7, c7, e7, _, _, hIn, h47⟩ := HSw6.out.1.ref.isL HSw6.out.1.few
       obtain ⟨cb, co, ha7, h57, h67⟩ := h47 (fun e => by rw [e] at hk7; simp at hk7)
       have hva : la = some ⟨cb, co, none⟩ := (Value.slice.inj e7).1.trans ha7
       obtain ⟨p, hp⟩ : ∃ z : CE, EL[i] = z := ⟨_, rfl⟩
       have hpm : p ∈ EL := by rw [← hp]; exact List.getElem_mem hlt
       have hpw := HSw6.out.1.ref.chgs p (List.mem_append_left _ hpm)
       obtain ⟨pud, puo, plo, hpv, _, ⟨pda, pdc, rfl, _⟩, ⟨poa, poc, rfl, _⟩, _⟩ := id hpw
       obtain ⟨pa, hpa⟩ : ∃ z : Int, p.1.actor = z := ⟨_, rfl⟩
       obtain ⟨ps, hps⟩ : ∃ z : Int, p.1.seq = z := ⟨_, rfl⟩
       obtain ⟨pt, hpt⟩ : ∃ z : Int, p.1.start = z := ⟨_, rfl⟩
       obtain ⟨pdn, hpdn⟩ : ∃ z : Nat, p.1.deps.length = z := ⟨_, rfl⟩
       obtain ⟨pon, hpon⟩ : ∃ z : Nat, plo.length = z := ⟨_, rfl⟩
       rw [hpa, hps, hpt, hpdn, hpon] at hpv
       have HCL : Hid (∀ W, Below w6.heap.size w6 W → W.cell? ⟨cb, co + i * 5, none⟩ = some (.int .i64 pa) ∧ W.cell? ⟨cb, co + i * 5 + 1, none⟩ = some (.int .i64 ps) ∧ W.cell? ⟨cb, co + i * 5 + 2, none⟩ = some (.int .i64 pt) ∧ W.cell? ⟨cb, co + i * 5 + 3, none⟩ = some (.slice pda pdn pdc) ∧ W.cell? ⟨cb, co + i * 5 + 4, none⟩ = some (.slice poa pon poc)) := fun W hW => by
        have hcell : ∀ j, j < 5 → W.cell? ⟨cb, co + i * 5 + j, none⟩ = (vcells p.2)[j]? := fun j hj => by
         rw [hW.cell (p := ⟨cb, co + i * 5 + j, none⟩) h57, h67 i hk7 j hj]
         rw [List.getElem_map, hp, (toCX_val hpw.chg).2.2.2]
        rw [hpv] at hcell
        exact ⟨hcell 0 (by omega), hcell 1 (by omega), hcell 2 (by omega), hcell 3 (by omega), hcell 4 (by omega)⟩
       have HPV : Hid (p ∈ EL ∧ p.2 = .agg #[.int .i64 pa, .int .i64 ps, .int .i64 pt, .slice pda pdn pdc, .slice poa pon poc] ∧ p.1.ref = (pa, ps) ∧ ∃ h : i < EL.length, EL[i] = p) := ⟨hpm, hpv, by unfold Chg.ref; rw [hpa, hps], hlt, hp⟩
       obtain ⟨x0, x1, x2, x3, x4⟩ := HCL.out wr hR.out.2.2.2
       have HR : Hid (WantP EL r i e0 #[o0, o1, o2, o3, o4] ∧ wr.heap[y13]? = some (.cells #[.int .i64 ua, .int .i64 us, .int .i64 ut, .slice uda udn udc, .slice uoa uon uoc] 34) ∧ wr.heap[y16]? = some (.cells #[o0, o1, o2, o3, o4] 34) ∧ Below w6.heap.size w6 wr) := hR
       have g1 : (i : Int) < ln := by have := HLN.out.1; omega
       have g3 : (0 : Int) ≤ i := by omega
       have E5 := rRefD_any pa ps pt pda pdn pdc poa pon poc wr
       clear hk7 e7 hIn h47 ha7 h57 h67 hp hpm hpw hpv hpa hps hpt hpdn hpon hR hlt hi hRB
       subst hva
       go_wp2_with fail
       go_fit E5
       rintro e w8 ⟨rfl, b8⟩
       have HR8 : Hid (w8.heap[y13]? = some (.cells #[.int .i64 ua, .int .i64 us, .int .i64 ut, .slice uda udn udc, .slice uoa uon uoc] 34) ∧ w8.heap[y16]? = some (.cells #[o0, o1, o2, o3, o4] 34) ∧ Below w6.heap.size w6 w8) := ⟨heap_below HR.out.2.1 b8 (Nat.le_refl _), heap_below HR.out.2.2.1 b8 (Nat.le_refl _), HR.out.2.2.2.trans (b8.mono HR.out.2.2.2.size)⟩
       have HWP : Hid (WantP EL r i e0 #[o0, o1, o2, o3, o4]) := HR.out.1
       clear E5 b8 HR x0 x1 x2 x3 x4 k0 zs
       go_upto_region 18 with fail
       have HR9 : Hid ((w8.alloc (.cells #[.int .i64 pa, .int .i64 ps] 25)).heap[y13]? = some (.cells #[.int .i64 ua, .int .i64 us, .int .i64 ut, .slice uda udn udc, .slice uoa uon uoc] 34) ∧ (w8.alloc (.cells #[.int .i64 pa, .int .i64 ps] 25)).heap[y16]? = some (.cells #[o0, o1, o2, o3, o4] 34) ∧ Below w6.heap.size w6 (w8.alloc (.cells #[.int .i64 pa, .int .i64 ps] 25)) ∧ (w8.alloc (.cells #[.int .i64 pa, .int .i64 ps] 25)).heap[w8.heap.size]? = some (.cells #[.int .i64 pa, .int .i64 ps] 25) ∧ (w8.alloc (.cells #[.int .i64 pa, .int .i64 ps] 25)).heap[w.heap.size]? = some (.cells #[.int .i64 r.1, .int .i64 r.2] 25)) := by
        have b9 : Below w8.heap.size w8 (w8.alloc (.cells #[.int .i64 pa, .int .i64 ps] 25)) := (Below.refl _ _).alloc (Nat.le_refl _) _
        exact ⟨heap_below HR8.out.1 b9 (Nat.le_refl _), heap_below HR8.out.2.1 b9 (Nat.le_refl _), HR8.out.2.2.trans (b9.mono HR8.out.2.2.size), heap_alloc_new w8 _, heap_below (heap_below HSw6.out.2 HR8.out.2.2 (Nat.le_refl _)) b9 (Nat.le_refl _)⟩
       clear HR8
       generalize w8.alloc (.cells #[.int .i64 pa, .int .i64 ps] 25) = w9 at *
       have m0 : w9.cell? ⟨w8.heap.size, 0, none⟩ = some (.int .i64 pa) := Lib.cell_of_heap HR9.out.2.2.2.1 0
       have m1 : w9.cell? ⟨w8.heap.size, 1, none⟩ = some (.int .i64 ps) := Lib.cell_of_heap HR9.out.2.2.2.1 1
       have r0 : w9.cell? ⟨w.heap.size, 0, none⟩ = some (.int .i64 r.1) := Lib.cell_of_heap HR9.out.2.2.2.2 0
       have r1 : w9.cell? ⟨w.heap.size, 1, none⟩ = some (.int .i64 r.2) := Lib.cell_of_heap HR9.out.2.2.2.2 1
       have EQ := eqR (pa, ps) r
       obtain ⟨sb, hsb⟩ : ∃ s : Bool, samePr (pa, ps) r = s := ⟨_, rfl⟩
       rw [hsb] at EQ
       dsimp only at EQ
       have HSB : Hid (samePr (pa, ps) r = sb) := hsb
       clear hsb
       cases sb with
       | false =>
        have HNX : Hid (WantP EL r (i + 1) e0 #[o0, o1, o2, o3, o4]) := by
         obtain ⟨_, _, e3, h4, e4⟩ := HPV.out
         refine HWP.out.skip h4 ?_
         rw [e4, e3]
         intro e
         have := (samePr_iff (pa, ps) r).2 e
         rw [HSB.out] at this
         cases this
        clear HSB HWP
        go_upto_region 16 with fail
        clear m0 m1 r0 r1 EQ
        have gm : (i : Int) < 1000 := by obtain ⟨_, _, _, h4, _⟩ := HPV.out; have := HLN.out; omega
        go_wp2
        go_roundw
        case rel => obtain ⟨_, _, _, h4, _⟩ := HPV.out; exact ⟨i + 1, e0, o0, o1, o2, o3, o4, h4, rfl, by go_num, HNX.out, HR9.out.1, HR9.out.2.1, HR9.out.2.2.1⟩
        case measure => obtain ⟨_, _, _, h4, _⟩ := HPV.out; simp [RowKit.intOf]; omega
       | true =>
        have HNX : Hid (WantP EL r (i + 1) 0 #[.int .i64 pa, .int .i64 ps, .int .i64 pt, .slice pda pdn pdc, .slice poa pon poc]) := by
         obtain ⟨e1, e2, e3, _⟩ := HPV.out
         exact Or.inr ⟨rfl, p, e1, by rw [e3]; exact (samePr_iff (pa, ps) r).1 HSB.out, e2⟩
        clear HSB HWP
        go_upto_region 20 with fail
        clear m0 m1 r0 r1 EQ
        obtain ⟨x0, x1, x2, x3, x4⟩ := HCL.out w9 HR9.out.2.2.1
        have hRB := HSw6.out.1.ref.below HR9.out.2.2.1
        have k0 : w9.cell? ⟨s, 0, none⟩ = some (.slice (some ⟨cb, co, none⟩) ln lc) := Lib.cell_of_heap hRB.box 0
        have zs : s < w9.heap.size := lt_of_heap hRB.box
        have oo0 : w9.cell? ⟨y16, 0, none⟩ = some o0 := Lib.cell_of_heap HR9.out.2.1 0
        have oo1 : w9.cell? ⟨y16, 1, none⟩ = some o1 := Lib.cell_of_heap HR9.out.2.1 1
        have oo2 : w9.cell? ⟨y16, 2, none⟩ = some o2 := Lib.cell_of_heap HR9.out.2.1 2
        have oo3 : w9.cell? ⟨y16, 3, none⟩ = some o3 := Lib.cell_of_heap HR9.out.2.1 3
        have oo4 : w9.cell? ⟨y16, 4, none⟩ = some o4 := Lib.cell_of_heap HR9.out.2.1 4
        have of := Lib.frozen_of_heap HR9.out.2.1
        have hy : w6.heap.size ≤ y16 := by have := HYZ.out.2; omega
        have hyn : y13 ≠ y16 := by have := HYZ.out; omega
        have HZ : Hid (((((((w9.setCell ⟨y16, 0, none⟩ (.int .i64 pa)).setCell ⟨y16, 1, none⟩ (.int .i64 ps)).setCell ⟨y16, 2, none⟩ (.int .i64 pt)).setCell ⟨y16, 3, none⟩ (.slice pda pdn pdc)).setCell ⟨y16, 4, none⟩ (.slice poa pon poc))).heap[y13]? = some (.cells #[.int .i64 ua, .int .i64 us, .int .i64 ut, .slice uda udn udc, .slice uoa uon uoc] 34) ∧ ((((((w9.setCell ⟨y16, 0, none⟩ (.int .i64 pa)).setCell ⟨y16, 1, none⟩ (.int .i64 ps)).setCell ⟨y16, 2, none⟩ (.int .i64 pt)).setCell ⟨y16, 3, none⟩ (.slice pda pdn pdc)).setCell ⟨y16, 4, none⟩ (.slice poa pon poc))).heap[y16]? = some (.cells #[.int .i64 pa, .int .i64 ps, .int .i64 pt, .slice pda pdn pdc, .slice poa pon poc] 34) ∧ Below w6.heap.size w6 (((((w9.setCell ⟨y16, 0, none⟩ (.int .i64 pa)).setCell ⟨y16, 1, none⟩ (.int .i64 ps)).setCell ⟨y16, 2, none⟩ (.int .i64 pt)).setCell ⟨y16, 3, none⟩ (.slice pda pdn pdc)).setCell ⟨y16, 4, none⟩ (.slice poa pon poc))) := ⟨(heap_set_other (heap_set_other (heap_set_other (heap_set_other (heap_set_other HR9.out.1 hyn) hyn) hyn) hyn) hyn), by rw [(set_at (set_at (set_at (set_at (set_at HR9.out.2.1 0 (.int .i64 pa)) 1 (.int .i64 ps)) 2 (.int .i64 pt)) 3 (.slice pda pdn pdc)) 4 (.slice poa pon poc))]; rfl, (((((HR9.out.2.2.1.setCell (p := ⟨y16, 0, none⟩) hy (.int .i64 pa)).setCell (p := ⟨y16, 1, none⟩) hy (.int .i64 ps)).setCell (p := ⟨y16, 2, none⟩) hy (.int .i64 pt)).setCell (p := ⟨y16, 3, none⟩) hy (.slice pda pdn pdc)).setCell (p := ⟨y16, 4, none⟩) hy (.slice poa pon poc))⟩
        clear hRB hy hyn
        go_upto_region 16 with fail
        clear x0 x1 x2 x3 x4 k0 zs oo0 oo1 oo2 oo3 oo4 of
        generalize (((((w9.setCell ⟨y16, 0, none⟩ (.int .i64 pa)).setCell ⟨y16, 1, none⟩ (.int .i64 ps)).setCell ⟨y16, 2, none⟩ (.int .i64 pt)).setCell ⟨y16, 3, none⟩ (.slice pda pdn pdc)).setCell ⟨y16, 4, none⟩ (.slice poa pon poc)) = wz at *
        have gm : (i : Int) < 1000 := by obtain ⟨_, _, _, h4, _⟩ := HPV.out; have := HLN.out; omega
        go_wp2
        go_roundw
        case rel => obtain ⟨_, _, _, h4, _⟩ := HPV.out; exact ⟨i + 1, 0, (.int .i64 pa), (.int .i64 ps), (.int .i64 pt), (.slice pda pdn pdc), (.slice poa pon poc), h4, rfl, by go_num, HNX.out, HZ.out⟩
        case measure => obtain ⟨_, _, _, h4, _⟩ := HPV.out; simp [RowKit.intOf]; omega
      ·have g1 : ¬ (i : Int) < ln := by have := HLN.out.1; omega
       have HR : Hid (wr.heap[y13]? = some (.cells #[.int .i64 ua, .int .i64 us, .int .i64 ut, .slice uda udn udc, .slice uoa uon uoc] 34) ∧ wr.heap[y16]? = some (.cells #[o0, o1, o2, o3, o4] 34) ∧ Below w6.heap.size w6 wr) := hR.out.2
       obtain ⟨p, hpm, hpr, hpv, he0⟩ : ∃ p ∈ EL, p.1.ref = r ∧ p.2 = .agg #[o0, o1, o2, o3, o4] ∧ e0 = 0 := by
        rcases hR.out.1 with ⟨_, _, h3⟩ | ⟨h1, p, h2, h3, h4⟩
        ·exfalso
         obtain ⟨pp, hpp, epp⟩ := mem_chgs.1 HCC.out.1
         obtain ⟨j, hj, ej⟩ := List.getElem_of_mem hpp
         exact h3 j hj (by omega) (by rw [ej, epp]; exact HCC.out.2.1)
        ·exact ⟨p, h2, h3, h4, h1⟩
       subst he0
       have hpw := HSw6.out.1.ref.chgs p (List.mem_append_left _ hpm)
       have hpc : p.1 = c' := refs_inj HSw6.out.1.ri.inv.nd (mem_chgs.2 ⟨p, hpm, rfl⟩) HCC.out.1 (hpr.trans HCC.out.2.1.symm)
       rw [hpv, hpc] at hpw
       obtain ⟨wa, ws, wt, wda, wdn, wdc, woa, won, woc, hwe⟩ := hpw.cv
       have hwl : #[o0, o1, o2, o3, o4] = #[.int .i64 wa, .int .i64 ws, .int .i64 wt, .slice wda wdn wdc, .slice woa won woc] := by injection hwe
       have hwl2 : o0 = .int .i64 wa ∧ o1 = .int .i64 ws ∧ o2 = .int .i64 wt ∧ o3 = .slice wda wdn wdc ∧ o4 = .slice woa won woc := by simpa using hwl
       obtain ⟨rfl, rfl, rfl, rfl, rfl⟩ := hwl2
       have HWW : Hid (IsChg w (.agg #[.int .i64 wa, .int .i64 ws, .int .i64 wt, .slice wda wdn wdc, .slice woa won woc]) c') := hpw.chg
       clear hpm hpr hpv hpw hpc hwe hwl hlt hi hR hRB
       go_upto_region 21 with fail
       clear k0 zs g1
       have E6 := error_nil wr
       go_wp2_with fail
       go_fit E6
       rintro e w10 ⟨rfl, b10⟩
       have HR10 : Hid (w10.heap[y13]? = some (.cells #[.int .i64 ua, .int .i64 us, .int .i64 ut, .slice uda udn udc, .slice uoa uon uoc] 34) ∧ w10.heap[y16]? = some (.cells #[.int .i64 wa, .int .i64 ws, .int .i64 wt, .slice wda wdn wdc, .slice woa won woc] 34) ∧ Below w6.heap.size w6 w10) := ⟨heap_below HR.out.1 b10 (Nat.le_refl _), heap_below HR.out.2.1 b10 (Nat.le_refl _), HR.out.2.2.trans (b10.mono HR.out.2.2.size)⟩
       clear E6 b10 HR
       have a130 : w10.cell? ⟨y13, 0, none⟩ = some (.int .i64 ua) := Lib.cell_of_heap HR10.out.1 0
       have a131 : w10.cell? ⟨y13, 1, none⟩ = some (.int .i64 us) := Lib.cell_of_heap HR10.out.1 1
       have a132 : w10.cell? ⟨y13, 2, none⟩ = some (.int .i64 ut) := Lib.cell_of_heap HR10.out.1 2
       have a133 : w10.cell? ⟨y13, 3, none⟩ = some (.slice uda udn udc) := Lib.cell_of_heap HR10.out.1 3
       have a134 : w10.cell? ⟨y13, 4, none⟩ = some (.slice uoa uon uoc) := Lib.cell_of_heap HR10.out.1 4
       have a160 : w10.cell? ⟨y16, 0, none⟩ = some (.int .i64 wa) := Lib.cell_of_heap HR10.out.2.1 0
       have a161 : w10.cell? ⟨y16, 1, none⟩ = some (.int .i64 ws) := Lib.cell_of_heap HR10.out.2.1 1
       have a162 : w10.cell? ⟨y16, 2, none⟩ = some (.int .i64 wt) := Lib.cell_of_heap HR10.out.2.1 2
       have a163 : w10.cell? ⟨y16, 3, none⟩ = some (.slice wda wdn wdc) := Lib.cell_of_heap HR10.out.2.1 3
       have a164 : w10.cell? ⟨y16, 4, none⟩ = some (.slice woa won woc) := Lib.cell_of_heap HR10.out.2.1 4
       have E7 := same_any (.agg #[.int .i64 ua, .int .i64 us, .int .i64 ut, .slice uda udn udc, .slice uoa uon uoc]) (.agg #[.int .i64 wa, .int .i64 ws, .int .i64 wt, .slice wda wdn wdc, .slice woa won woc]) c' w10 (HRF6.out.2.below HR10.out.2.2) (HWW.out.below (HSw6.out.1.ref.bel.trans (HR10.out.2.2.mono HSw6.out.1.ref.bel.size))) HCC.out.2.2
       go_wp2_with fail
       go_fit E7
       rintro e w11 ⟨rfl, b11⟩
       have b611 : Below w6.heap.size w6 w11 := HR10.out.2.2.trans (b11.mono HR10.out.2.2.size)
       have HSw11 := as_next HSw6 b611
       have HRF11 : Hid (IsPairs w11 (.slice ra rn rc) (refsS (chgsOf EL))) := HRF6.out.1.below b611
       clear E7 b11 b611 HR10 a130 a131 a132 a133 a134 a160 a161 a162 a163 a164 HSw6 HRF6 HCC HWW HYZ
       go_upto_region 25 with fail
       go_wp2_with fail
       go_loopw [12, 15, 21] (fun xs xe xi wr => ∃ (i : Nat) (e0 : Int) (bb : Bool), i ≤ hs.length ∧ xs = .bool bb ∧ xe = .int .i64 e0 ∧ xi = .int .i64 i ∧ Hid (HeadsTo (chgsOf EL) hs i e0 ∧ Below w11.heap.size w11 wr)) (fun _ _ xi _ => hs.length - (RowKit.intOf xi).toNat)
       case atStart => exact ⟨0, 0, _, Nat.zero_le _, rfl, rfl, rfl, Or.inl ⟨rfl, fun x hx => by simp at hx⟩, Below.refl _ _⟩
       case round =>
        obtain ⟨i, e0, bb, hi, rfl, rfl, rfl, hR⟩ := hrel
        by_cases hlt : i < hs.length
        ·obtain ⟨a', c9, e9, _, _, h64, h4⟩ := id HA.out.2.1
         obtain ⟨pb, po, ha', h5, h6⟩ := h4 (fun e => by rw [e] at hlt; simp at hlt)
         have hva : hha = some ⟨pb, po, none⟩ := (Value.slice.inj e9).1.trans ha'
         subst hva
         obtain ⟨x, hx⟩ : ∃ z : Pr, hs[i] = z := ⟨_, rfl⟩
         have bw : Below w.heap.size w wr := HSw11.out.1.ref.bel.trans (hR.out.2.mono HSw11.out.1.ref.bel.size)
         have y0 : wr.cell? ⟨pb, po + i * 2, none⟩ = some (.int .i64 x.1) := by rw [bw.cell (p := ⟨pb, po + i * 2, none⟩) h5, (h6 i hlt).1, hx]
         have y1 : wr.cell? ⟨pb, po + i * 2 + 1, none⟩ = some (.int .i64 x.2) := by rw [bw.cell (p := ⟨pb, po + i * 2 + 1, none⟩) h5, (h6 i hlt).2, hx]
         have E8 := rHas_any (.slice ra rn rc) (refsS (chgsOf EL)) x wr (HRF11.out.below hR.out.2)
         obtain ⟨db, hdb⟩ : ∃ z : Bool, decide (x ∈ refsS (chgsOf EL)) = z := ⟨_, rfl⟩
         rw [hdb] at E8
         unfold refV at E8
         have HX : Hid ((x ∈ refsOf (chgsOf EL) ↔ db = true) ∧ ∃ h : i < hs.length, hs[i] = x) := ⟨by rw [← (refsS_facts (chgsOf EL)).2.1, ← hdb]; simp, hlt, hx⟩
         have HR : Hid (HeadsTo (chgsOf EL) hs i e0 ∧ Below w11.heap.size w11 wr) := hR
         have g1 : (i : Int) < hn := by have := HHN.out.1; omega
         have g3 : (0 : Int) ≤ i := by omega
         clear e9 h64 h4 ha' h5 h6 hx bw hdb hR hlt hi
         go_wp2_with fail
         go_fit E8
         rintro e w12 ⟨rfl, b12⟩
         have HB12 : Hid (Below w11.heap.size w11 w12) := HR.out.2.trans (b12.mono HR.out.2.size)
         clear E8 b12 y0 y1
         cases db with
         | true =>
          have HNX : Hid (HeadsTo (chgsOf EL) hs (i + 1) e0) := by
           obtain ⟨h1, h2, e2⟩ := HX.out
           exact (HR.out.1.next h2).1 (by rw [e2]; exact h1.2 rfl)
          clear HR
          go_upto_region 28 with fail
          have gm : (i : Int) < 1000000 := by obtain ⟨_, h2, _⟩ := HX.out; have := HHN.out.2; omega
          go_wp2
          go_roundw
          case rel => obtain ⟨_, h2, _⟩ := HX.out; exact ⟨i + 1, e0, _, h2, rfl, rfl, by go_num, HNX.out, HB12.out⟩
          case measure => obtain ⟨_, h2, _⟩ := HX.out; simp [RowKit.intOf]; omega
         | false =>
          have HNX : Hid (HeadsTo (chgsOf EL) hs (i + 1) 6) := by
           obtain ⟨h1, h2, e2⟩ := HX.out
           exact (HR.out.1.next h2).2 (by rw [e2]; exact fun h => by cases h1.1 h)
          clear HR
          go_upto_region 28 with fail
          have gm : (i : Int) < 1000000 := by obtain ⟨_, h2, _⟩ := HX.out; have := HHN.out.2; omega
          go_wp2
          go_roundw
          case rel => obtain ⟨_, h2, _⟩ := HX.out; exact ⟨i + 1, 6, _, h2, rfl, rfl, by go_num, HNX.out, HB12.out⟩
          case measure => obtain ⟨_, h2, _⟩ := HX.out; simp [RowKit.intOf]; omega
        ·have g1 : ¬ (i : Int) < hn := by have := HHN.out.1; omega
         have hb11 := hR.out.2
         have HSwr : Hid (ASt w g h q s EL ER EH ED (.slice la ln lc) vr wr ∧ wr.heap[w.heap.size]? = some (.cells #[.int .i64 r.1, .int .i64 r.2] 25)) := ⟨HSw11.out.1.below hb11, heap_below HSw11.out.2 hb11 (Nat.le_refl _)⟩
         have HHT : Hid ((e0 = 0 ∧ ∀ x ∈ hs, x ∈ refsOf (chgsOf EL)) ∨ (e0 = 6 ∧ ¬ ∀ x ∈ hs, x ∈ refsOf (chgsOf EL))) := by
          have h1 := hR.out.1
          unfold HeadsTo at h1
          rw [List.take_of_length_le (by omega)] at h1
          rcases h1 with h1 | ⟨h1, x, hx, hn⟩
          ·exact Or.inl h1
          ·exact Or.inr ⟨h1, fun h => hn (h x hx)⟩
         clear hb11 hR hlt hi HSw11 HRF11
         generalize wr = w12 at *
         clear wr
         have k0 : w12.cell? ⟨s, 0, none⟩ = some (.slice la ln lc) := Lib.cell_of_heap HSwr.out.1.ref.box 0
         have zs : s < w12.heap.size := lt_of_heap HSwr.out.1.ref.box
         rcases HHT.out with ⟨rfl, hall⟩ | ⟨rfl, hnot⟩
         ·have HALL : Hid (∀ x ∈ hs, x ∈ refsOf (chgsOf EL)) := hall
          clear hall HHT
          have bw : Below w.heap.size w w12 := HSwr.out.1.ref.bel
          have hok : ∀ x ∈ EL.map toCX, x.c.deps.length ≤ 12 := fun x hx => by
           obtain ⟨p, hp, rfl⟩ := List.mem_map.1 hx
           exact (chk_few (HSwr.out.1.ri.inv.ok p.1 (mem_chgs.2 ⟨p, hp, rfl⟩))).1
          have E9 := rBehind_any (.slice la ln lc) (.slice hha hn hc) (EL.map toCX) hs w12 (HSwr.out.1.ref.isL HSwr.out.1.few) HSwr.out.1.ref.whL (HA.out.2.1.below bw) HA.out.2.2.1 (by rw [map_toCX]; exact HSwr.out.1.ri.inv.nd) (by rw [List.length_map]; have := HLN.out.2; omega) hok (by have := HHN.out.2; omega)
          rw [map_toCX] at E9
          clear bw hok
          go_wp2_with fail
          go_fit E9
          rintro e w13 ⟨⟨ub, O, rfl, hub, _, hro, hbo⟩, b13⟩
          obtain ⟨ba, bn, bc, rfl⟩ : ∃ a n c, ub = .slice a n c := by obtain ⟨a, c, e, _⟩ := hub; exact ⟨_, _, _, e⟩
          have HSw13 := as_next HSwr b13
          have HO : Hid (IsPairs w13 (.slice ba bn bc) O ∧ Rise O ∧ IsBeh (chgsOf EL) hs O) := ⟨hub, hro, hbo⟩
          clear E9 hub hro hbo b13 HSwr k0 zs g1
          have E10 := dBehind_any w13 g h q EH ED (.slice hha hn hc) hs HSw13.out.1.bk (HA.out.2.1.below HSw13.out.1.ref.bel) HHN.out.2
          go_wp2_with fail
          go_fit E10
          rintro e w14 ⟨hD, b14⟩
          obtain ⟨ud, hu14⟩ : ∃ u, e = .returned (.tuple #[u, .nilIface]) ∧ IsPairs w14 u O := by
           rcases hD with ⟨h1, _⟩ | ⟨_, u, O', h2, h3, _, h4, h5⟩
           ·exact absurd (by rw [← HSw13.out.1.has]; exact HALL.out) h1
           ·refine ⟨u, h2, ?_⟩
            have e9 : O' = O := rise_ext h4 HO.out.2.1 (fun x => by rw [← HSw13.out.1.has] at h5; exact h5.same HO.out.2.2 x)
            rw [← e9]
            exact h3
          obtain ⟨rfl, hud⟩ := hu14
          obtain ⟨da, dn, dc, rfl⟩ : ∃ a n c, ud = .slice a n c := by obtain ⟨a, c, e, _⟩ := hud; exact ⟨_, _, _, e⟩
          have HSw14 := as_next HSw13 b14
          have HP14 : Hid (IsPairs w14 (.slice da dn dc) O ∧ IsPairs w14 (.slice ba bn bc) O) := ⟨hud, HO.out.1.below b14⟩
          clear E10 hD hud b14 HO HSw13
          have E11 := error_nil w14
          go_wp2_with fail
          go_fit E11
          rintro e w15 ⟨rfl, b15⟩
          have HSw15 := as_next HSw14 b15
          have E12 := sameRefs_any (.slice da dn dc) (.slice ba bn bc) O w15 (HP14.out.1.below b15) (HP14.out.2.below b15)
          clear E11 b15 HSw14 HP14
          go_wp2_with fail
          go_fit E12
          rintro e w16 ⟨rfl, b16⟩
          have HSw16 := as_next HSw15 b16
          clear E12 b16 HSw15 HALL
          go_upto_region 40 with fail
          have E13 := rMissing_any w s EL ER (.slice la ln lc) vr (.slice hha hn hc) hs w16 HSw16.out.1.ref HSw16.out.1.ri (HA.out.2.1.below HSw16.out.1.ref.bel) (by have := HHN.out.2; omega)
          go_wp2_with fail
          go_fit E13
          rintro e w17 ⟨hM, b17⟩
          have HSw17 := as_next HSw16 b17
          clear E13 b17 HSw16
          have E14 := dMissing_any w17 g h q EH ED (.slice hha hn hc) hs HSw17.out.1.bk (HA.out.2.1.below HSw17.out.1.ref.bel) HA.out.2.2.1 HHN.out.2
          rcases hM with ⟨hbad, rfl⟩ | ⟨hgood, um, O, rfl, hum, _, hMP⟩
          ·have HBAD : Hid (hs.all refB = false) := hbad
           clear hbad
           go_wp2_with fail
           go_fit E14
           rintro e w18 ⟨hD, b18⟩
           have he : e = .returned (.tuple #[.slice none 0 0, .iface 62 (.int .i64 1)]) := by
            rcases hD with ⟨_, h2⟩ | ⟨h1, _⟩
            ·exact h2
            ·rw [HBAD.out] at h1; cases h1
           subst he
           have HSw18 := as_next HSw17 b18
           clear E14 hD b18 HSw17 HBAD
           have E15 := error_errno 1 w18 (HA.out.2.2.2.2.below HSw18.out.1.ref.bel)
           go_wp2_with fail
           go_fit E15
           rintro e w19 ⟨rfl, b19⟩
           have HSw19 := as_next HSw18 b19
           have E16 := sameRefs_any (.slice none 0 0) (.slice none 0 0) [] w19 (isPairs_nil _ _ _) (isPairs_nil _ _ _)
           clear E15 b19 HSw18
           go_wp2_with fail
           go_fit E16
           rintro e w20 ⟨rfl, b20⟩
           have HEND : Hid (post (.returned (.bool true)) w20) := HPO.out _ (HSw19.out.1.ref.bel.trans (b20.mono HSw19.out.1.ref.bel.size))
           clear E16 b20 HSw19
           go_wp2
           exact HEND.out
          ·have HGOOD : Hid (hs.all refB = true ∧ IsPairs w17 um O ∧ MissP (chgsOf EL) (chgsOf ER) hs O) := ⟨hgood, hum, hMP⟩
           obtain ⟨ma, mn, mc, rfl⟩ : ∃ a n c, um = .slice a n c := by obtain ⟨a, c, e, _⟩ := hum; exact ⟨_, _, _, e⟩
           clear hgood hum hMP
           go_wp2_with fail
           go_fit E14
           rintro e w18 ⟨hD, b18⟩
           obtain ⟨ud, hu18⟩ : ∃ u, e = .returned (.tuple #[u, .nilIface]) ∧ IsPairs w18 u O := by
            rcases hD with ⟨h1, _⟩ | ⟨_, u, O', h2, h3, h4⟩
            ·rw [HGOOD.out.1] at h1; cases h1
            ·refine ⟨u, h2, ?_⟩
             have h5 := HGOOD.out.2.2
             rw [HSw17.out.1.has] at h5
             rw [h5.uniq HSw17.out.1.wait h4]
             exact h3
           obtain ⟨rfl, hud⟩ := hu18
           obtain ⟨da9, dn9, dc9, rfl⟩ : ∃ a n c, ud = .slice a n c := by obtain ⟨a, c, e, _⟩ := hud; exact ⟨_, _, _, e⟩
           have HSw18 := as_next HSw17 b18
           have HP18 : Hid (IsPairs w18 (.slice ma mn mc) O ∧ IsPairs w18 (.slice da9 dn9 dc9) O) := ⟨HGOOD.out.2.1.below b18, hud⟩
           clear E14 hD hud b18 HSw17 HGOOD
           have E15 := error_nil w18
           go_wp2_with fail
           go_fit E15
           rintro e w19 ⟨rfl, b19⟩
           have HSw19 := as_next HSw18 b19
           have E16 := sameRefs_any (.slice ma mn mc) (.slice da9 dn9 dc9) O w19 (HP18.out.1.below b19) (HP18.out.2.below b19)
           clear E15 b19 HSw18 HP18
           go_wp2_with fail
           go_fit E16
           rintro e w20 ⟨rfl, b20⟩
           have HEND : Hid (post (.returned (.bool true)) w20) := HPO.out _ (HSw19.out.1.ref.bel.trans (b20.mono HSw19.out.1.ref.bel.size))
           clear E16 b20 HSw19
           go_wp2
           exact HEND.out
         ·have HNOT : Hid (¬ ∀ x ∈ hs, x ∈ refsOf (chgsOf EL)) := hnot
          clear hnot HHT
          have E10 := dBehind_any w12 g h q EH ED (.slice hha hn hc) hs HSwr.out.1.bk (HA.out.2.1.below HSwr.out.1.ref.bel) HHN.out.2
          go_wp2_with fail
          go_fit E10
          rintro e w14 ⟨hD, b14⟩
          have he : e = .returned (.tuple #[.slice none 0 0, .iface 62 (.int .i64 6)]) := by
           rcases hD with ⟨_, h2⟩ | ⟨h1, _⟩
           ·exact h2
           ·exact absurd (by rw [HSwr.out.1.has]; exact h1) HNOT.out
          subst he
          have HSw14 := as_next HSwr b14
          clear E10 hD b14 HSwr k0 zs g1
          have E11 := error_errno 6 w14 (HA.out.2.2.2.2.below HSw14.out.1.ref.bel)
          go_wp2_with fail
          go_fit E11
          rintro e w15 ⟨rfl, b15⟩
          have HSw15 := as_next HSw14 b15
          have E12 := sameRefs_any (.slice none 0 0) (.slice none 0 0) [] w15 (isPairs_nil _ _ _) (isPairs_nil _ _ _)
          clear E11 b15 HSw14
          go_wp2_with fail
          go_fit E12
          rintro e w16 ⟨rfl, b16⟩
          have HSw16 := as_next HSw15 b16
          clear E12 b16 HSw15 HNOT
          go_upto_region 40 with fail
          have E13 := rMissing_any w s EL ER (.slice la ln lc) vr (.slice hha hn hc) hs w16 HSw16.out.1.ref HSw16.out.1.ri (HA.out.2.1.below HSw16.out.1.ref.bel) (by have := HHN.out.2; omega)
          go_wp2_with fail
          go_fit E13
          rintro e w17 ⟨hM, b17⟩
          have HSw17 := as_next HSw16 b17
          clear E13 b17 HSw16
          have E14 := dMissing_any w17 g h q EH ED (.slice hha hn hc) hs HSw17.out.1.bk (HA.out.2.1.below HSw17.out.1.ref.bel) HA.out.2.2.1 HHN.out.2
          rcases hM with ⟨hbad, rfl⟩ | ⟨hgood, um, O, rfl, hum, _, hMP⟩
          ·have HBAD : Hid (hs.all refB = false) := hbad
           clear hbad
           go_wp2_with fail
           go_fit E14
           rintro e w18 ⟨hD, b18⟩
           have he : e = .returned (.tuple #[.slice none 0 0, .iface 62 (.int .i64 1)]) := by
            rcases hD with ⟨_, h2⟩ | ⟨h1, _⟩
            ·exact h2
            ·rw [HBAD.out] at h1; cases h1
           subst he
           have HSw18 := as_next HSw17 b18
           clear E14 hD b18 HSw17 HBAD
           have E15 := error_errno 1 w18 (HA.out.2.2.2.2.below HSw18.out.1.ref.bel)
           go_wp2_with fail
           go_fit E15
           rintro e w19 ⟨rfl, b19⟩
           have HSw19 := as_next HSw18 b19
           have E16 := sameRefs_any (.slice none 0 0) (.slice none 0 0) [] w19 (isPairs_nil _ _ _) (isPairs_nil _ _ _)
           clear E15 b19 HSw18
           go_wp2_with fail
           go_fit E16
           rintro e w20 ⟨rfl, b20⟩
           have HEND : Hid (post (.returned (.bool true)) w20) := HPO.out _ (HSw19.out.1.ref.bel.trans (b20.mono HSw19.out.1.ref.bel.size))
           clear E16 b20 HSw19
           go_wp2
           exact HEND.out
          ·have HGOOD : Hid (hs.all refB = true ∧ IsPairs w17 um O ∧ MissP (chgsOf EL) (chgsOf ER) hs O) := ⟨hgood, hum, hMP⟩
           obtain ⟨ma, mn, mc, rfl⟩ : ∃ a n c, um = .slice a n c := by obtain ⟨a, c, e, _⟩ := hum; exact ⟨_, _, _, e⟩
           clear hgood hum hMP
           go_wp2_with fail
           go_fit E14
           rintro e w18 ⟨hD, b18⟩
           obtain ⟨ud, hu18⟩ : ∃ u, e = .returned (.tuple #[u, .nilIface]) ∧ IsPairs w18 u O := by
            rcases hD with ⟨h1, _⟩ | ⟨_, u, O', h2, h3, h4⟩
            ·rw [HGOOD.out.1] at h1; cases h1
            ·refine ⟨u, h2, ?_⟩
             have h5 := HGOOD.out.2.2
             rw [HSw17.out.1.has] at h5
             rw [h5.uniq HSw17.out.1.wait h4]
             exact h3
           obtain ⟨rfl, hud⟩ := hu18
           obtain ⟨da9, dn9, dc9, rfl⟩ : ∃ a n c, ud = .slice a n c := by obtain ⟨a, c, e, _⟩ := hud; exact ⟨_, _, _, e⟩
           have HSw18 := as_next HSw17 b18
           have HP18 : Hid (IsPairs w18 (.slice ma mn mc) O ∧ IsPairs w18 (.slice da9 dn9 dc9) O) := ⟨HGOOD.out.2.1.below b18, hud⟩
           clear E14 hD hud b18 HSw17 HGOOD
           have E15 := error_nil w18
           go_wp2_with fail
           go_fit E15
           rintro e w19 ⟨rfl, b19⟩
           have HSw19 := as_next HSw18 b19
           have E16 := sameRefs_any (.slice ma mn mc) (.slice da9 dn9 dc9) O w19 (HP18.out.1.below b19) (HP18.out.2.below b19)
           clear E15 b19 HSw18 HP18
           go_wp2_with fail
           go_fit E16
           rintro e w20 ⟨rfl, b20⟩
           have HEND : Hid (post (.returned (.bool true)) w20) := HPO.out _ (HSw19.out.1.ref.bel.trans (b20.mono HSw19.out.1.ref.bel.size))
           clear E16 b20 HSw19
           go_wp2
           exact HEND.out
    | false =>
     have hu0 : lk (ents EH) r = none := by
      have := HHB.out
      cases hl : lk (ents EH) r with
      | none => rfl
      | some u => rw [hl] at this; cases this
     have E4 := dChange_no g h q (ents EH) (ents ED) r w5 HSw5.out.1.bk.book HA.out.2.2.2.1 hu0
     unfold refV errV zC at E4
     rw [if_neg (by decide)] at E4
     clear hu0
     go_wp2_with fail
     go_fit E4
     rintro e w6 ⟨rfl, b6⟩
     have HSw6 := as_next HSw5 b6
     have HRF6 : Hid (IsPairs w6 (.slice ra rn rc) (refsS (chgsOf EL))) := HRF5.out.below b6
     clear E4 b6 HSw5 HRF5 r0 r1
     go_upto_region 14 with fail
     have HBX : Hid (((w6.alloc (.cells #[.int .i64 0, .int .i64 0, .int .i64 0, .slice none 0 0, .slice none 0 0] 34)).alloc (.cells #[.int .i64 0, .int .i64 0, .int .i64 0, .slice none 0 0, .slice none 0 0] 34)).heap[w6.heap.size]? = some (.cells #[.int .i64 0, .int .i64 0, .int .i64 0, .slice none 0 0, .slice none 0 0] 34) ∧ ((w6.alloc (.cells #[.int .i64 0, .int .i64 0, .int .i64 0, .slice none 0 0, .slice none 0 0] 34)).alloc (.cells #[.int .i64 0, .int .i64 0, .int .i64 0, .slice none 0 0, .slice none 0 0] 34)).heap[w6.heap.size + 1]? = some (.cells #[.int .i64 0, .int .i64 0, .int .i64 0, .slice none 0 0, .slice none 0 0] 34) ) := ⟨heap_alloc_old (heap_alloc_new w6 _) _, by have := heap_alloc_new (w6.alloc (.cells #[.int .i64 0, .int .i64 0, .int .i64 0, .slice none 0 0, .slice none 0 0] 34)) (.cells #[.int .i64 0, .int .i64 0, .int .i64 0, .slice none 0 0, .slice none 0 0] 34); simpa using this⟩
     have HBB : Hid (Below w6.heap.size w6 ((w6.alloc (.cells #[.int .i64 0, .int .i64 0, .int .i64 0, .slice none 0 0, .slice none 0 0] 34)).alloc (.cells #[.int .i64 0, .int .i64 0, .int .i64 0, .slice none 0 0, .slice none 0 0] 34))) := ((Below.refl _ _).alloc (Nat.le_refl _) _).alloc (by simp) _
     generalize (w6.alloc (.cells #[.int .i64 0, .int .i64 0, .int .i64 0, .slice none 0 0, .slice none 0 0] 34)).alloc (.cells #[.int .i64 0, .int .i64 0, .int .i64 0, .slice none 0 0, .slice none 0 0] 34) = w7 at *
     obtain ⟨y13, h13⟩ : ∃ z, w6.heap.size = z := ⟨_, rfl⟩
     obtain ⟨y16, h16⟩ : ∃ z, w6.heap.size + 1 = z := ⟨_, rfl⟩
     have HYZ : Hid (w6.heap.size = y13 ∧ w6.heap.size + 1 = y16) := ⟨h13, h16⟩
     try rw [h16]
     try rw [h13]
     rw [h16, h13] at HBX
     clear h13 h16
     go_wp2_with fail
     go_loopw [15, 17] (fun xe xi wr => ∃ (i : Nat) (e0 : Int) (o0 o1 o2 o3 o4 : Value), i ≤ EL.length ∧ xe = .int .i64 e0 ∧ xi = .int .i64 i ∧ Hid (WantP EL r i e0 #[o0, o1, o2, o3, o4] ∧ wr.heap[y13]? = some (.cells #[.int .i64 0, .int .i64 0, .int .i64 0, .slice none 0 0, .slice none 0 0] 34) ∧ wr.heap[y16]? = some (.cells #[o0, o1, o2, o3, o4] 34) ∧ Below w6.heap.size w6 wr)) (fun _ xi _ => EL.length - (RowKit.intOf xi).toNat)
     case atStart => exact ⟨0, 6, (.int .i64 0), (.int .i64 0), (.int .i64 0), (.slice none 0 0), (.slice none 0 0), Nat.zero_le _, rfl, rfl, Or.inl ⟨rfl, rfl, fun j _ hj => absurd hj (Nat.not_lt_zero _)⟩, HBX.out.1, HBX.out.2, HBB.out⟩
     case round =>
      clear HBX HBB
      obtain ⟨i, e0, o0, o1, o2, o3, o4, hi, rfl, rfl, hR⟩ := hrel
      have hRB := HSw6.out.1.ref.below hR.out.2.2.2
      have k0 : wr.cell? ⟨s, 0, none⟩ = some (.slice la ln lc) := Lib.cell_of_heap hRB.box 0
      have zs : s < wr.heap.size := lt_of_heap hRB.box
      by_cases hlt : i < EL.length
      ·have hk7 : i < (EL.map toCX).length := by rw [List.length_map]; exact hlt
       obtain ⟨a7, c7, e7, _, _, hIn, h47⟩ := HSw6.out.1.ref.isL HSw6.out.1.few
       obtain ⟨cb, co, ha7, h57, h67⟩ := h47 (fun e => by rw [e] at hk7; simp at hk7)
       have hva : la = some ⟨cb, co, none⟩ := (Value.slice.inj e7).1.trans ha7
       obtain ⟨p, hp⟩ : ∃ z : CE, EL[i] = z := ⟨_, rfl⟩
       have hpm : p ∈ EL := by rw [← hp]; exact List.getElem_mem hlt
       have hpw := HSw6.out.1.ref.chgs p (List.mem_append_left _ hpm)
       obtain ⟨pud, puo, plo, hpv, _, ⟨pda, pdc, rfl, _⟩, ⟨poa, poc, rfl, _⟩, _⟩ := id hpw
       obtain ⟨pa, hpa⟩ : ∃ z : Int, p.1.actor = z := ⟨_, rfl⟩
       obtain ⟨ps, hps⟩ : ∃ z : Int, p.1.seq = z := ⟨_, rfl⟩
       obtain ⟨pt, hpt⟩ : ∃ z : Int, p.1.start = z := ⟨_, rfl⟩
       obtain ⟨pdn, hpdn⟩ : ∃ z : Nat, p.1.deps.length = z := ⟨_, rfl⟩
       obtain ⟨pon, hpon⟩ : ∃ z : Nat, plo.length = z := ⟨_, rfl⟩
       rw [hpa, hps, hpt, hpdn, hpon] at hpv
       have HCL : Hid (∀ W, Below w6.heap.size w6 W → W.cell? ⟨cb, co + i * 5, none⟩ = some (.int .i64 pa) ∧ W.cell? ⟨cb, co + i * 5 + 1, none⟩ = some (.int .i64 ps) ∧ W.cell? ⟨cb, co + i * 5 + 2, none⟩ = some (.int .i64 pt) ∧ W.cell? ⟨cb, co + i * 5 + 3, none⟩ = some (.slice pda pdn pdc) ∧ W.cell? ⟨cb, co + i * 5 + 4, none⟩ = some (.slice poa pon poc)) := fun W hW => by
        have hcell : ∀ j, j < 5 → W.cell? ⟨cb, co + i * 5 + j, none⟩ = (vcells p.2)[j]? := fun j hj => by
         rw [hW.cell (p := ⟨cb, co + i * 5 + j, none⟩) h57, h67 i hk7 j hj]
         rw [List.getElem_map, hp, (toCX_val hpw.chg).2.2.2]
        rw [hpv] at hcell
        exact ⟨hcell 0 (by omega), hcell 1 (by omega), hcell 2 (by omega), hcell 3 (by omega), hcell 4 (by omega)⟩
       have HPV : Hid (p ∈ EL ∧ p.2 = .agg #[.int .i64 pa, .int .i64 ps, .int .i64 pt, .slice pda pdn pdc, .slice poa pon poc] ∧ p.1.ref = (pa, ps) ∧ ∃ h : i < EL.length, EL[i] = p) := ⟨hpm, hpv, by unfold Chg.ref; rw [hpa, hps], hlt, hp⟩
       obtain ⟨x0, x1, x2, x3, x4⟩ := HCL.out wr hR.out.2.2.2
       have HR : Hid (WantP EL r i e0 #[o0, o1, o2, o3, o4] ∧ wr.heap[y13]? = some (.cells #[.int .i64 0, .int .i64 0, .int .i64 0, .slice none 0 0, .slice none 0 0] 34) ∧ wr.heap[y16]? = some (.cells #[o0, o1, o2, o3, o4] 34) ∧ Below w6.heap.size w6 wr) := hR
       have g1 : (i : Int) < ln := by have := HLN.out.1; omega
       have g3 : (0 : Int) ≤ i := by omega
       have E5 := rRefD_any pa ps pt pda pdn pdc poa pon poc wr
       clear hk7 e7 hIn h47 ha7 h57 h67 hp hpm hpw hpv hpa hps hpt hpdn hpon hR hlt hi hRB
       subst hva
       go_wp2_with fail
       go_fit E5
       rintro e w8 ⟨rfl, b8⟩
       have HR8 : Hid (w8.heap[y13]? = some (.cells #[.int .i64 0, .int .i64 0, .int .i64 0, .slice none 0 0, .slice none 0 0] 34) ∧ w8.heap[y16]? = some (.cells #[o0, o1, o2, o3, o4] 34) ∧ Below w6.heap.size w6 w8) := ⟨heap_below HR.out.2.1 b8 (Nat.le_refl _), heap_below HR.out.2.2.1 b8 (Nat.le_refl _), HR.out.2.2.2.trans (b8.mono HR.out.2.2.2.size)⟩
       have HWP : Hid (WantP EL r i e0 #[o0, o1, o2, o3, o4]) := HR.out.1
       clear E5 b8 HR x0 x1 x2 x3 x4 k0 zs
       go_upto_region 18 with fail
       have HR9 : Hid ((w8.alloc (.cells #[.int .i64 pa, .int .i64 ps] 25)).heap[y13]? = some (.cells #[.int .i64 0, .int .i64 0, .int .i64 0, .slice none 0 0, .slice none 0 0] 34) ∧ (w8.alloc (.cells #[.int .i64 pa, .int .i64 ps] 25)).heap[y16]? = some (.cells #[o0, o1, o2, o3, o4] 34) ∧ Below w6.heap.size w6 (w8.alloc (.cells #[.int .i64 pa, .int .i64 ps] 25)) ∧ (w8.alloc (.cells #[.int .i64 pa, .int .i64 ps] 25)).heap[w8.heap.size]? = some (.cells #[.int .i64 pa, .int .i64 ps] 25) ∧ (w8.alloc (.cells #[.int .i64 pa, .int .i64 ps] 25)).heap[w.heap.size]? = some (.cells #[.int .i64 r.1, .int .i64 r.2] 25)) := by
        have b9 : Below w8.heap.size w8 (w8.alloc (.cells #[.int .i64 pa, .int .i64 ps] 25)) := (Below.refl _ _).alloc (Nat.le_refl _) _
        exact ⟨heap_below HR8.out.1 b9 (Nat.le_refl _), heap_below HR8.out.2.1 b9 (Nat.le_refl _), HR8.out.2.2.trans (b9.mono HR8.out.2.2.size), heap_alloc_new w8 _, heap_below (heap_below HSw6.out.2 HR8.out.2.2 (Nat.le_refl _)) b9 (Nat.le_refl _)⟩
       clear HR8
       generalize w8.alloc (.cells #[.int .i64 pa, .int .i64 ps] 25) = w9 at *
       have m0 : w9.cell? ⟨w8.heap.size, 0, none⟩ = some (.int .i64 pa) := Lib.cell_of_heap HR9.out.2.2.2.1 0
       have m1 : w9.cell? ⟨w8.heap.size, 1, none⟩ = some (.int .i64 ps) := Lib.cell_of_heap HR9.out.2.2.2.1 1
       have r0 : w9.cell? ⟨w.heap.size, 0, none⟩ = some (.int .i64 r.1) := Lib.cell_of_heap HR9.out.2.2.2.2 0
       have r1 : w9.cell? ⟨w.heap.size, 1, none⟩ = some (.int .i64 r.2) := Lib.cell_of_heap HR9.out.2.2.2.2 1
       have EQ := eqR (pa, ps) r
       obtain ⟨sb, hsb⟩ : ∃ s : Bool, samePr (pa, ps) r = s := ⟨_, rfl⟩
       rw [hsb] at EQ
       dsimp only at EQ
       have HSB : Hid (samePr (pa, ps) r = sb) := hsb
       clear hsb
       cases sb with
       | false =>
        have HNX : Hid (WantP EL r (i + 1) e0 #[o0, o1, o2, o3, o4]) := by
         obtain ⟨_, _, e3, h4, e4⟩ := HPV.out
         refine HWP.out.skip h4 ?_
         rw [e4, e3]
         intro e
         have := (samePr_iff (pa, ps) r).2 e
         rw [HSB.out] at this
         cases this
        clear HSB HWP
        go_upto_region 16 with fail
        clear m0 m1 r0 r1 EQ
        have gm : (i : Int) < 1000 := by obtain ⟨_, _, _, h4, _⟩ := HPV.out; have := HLN.out; omega
        go_wp2
        go_roundw
        case rel => obtain ⟨_, _, _, h4, _⟩ := HPV.out; exact ⟨i + 1, e0, o0, o1, o2, o3, o4, h4, rfl, by go_num, HNX.out, HR9.out.1, HR9.out.2.1, HR9.out.2.2.1⟩
        case measure => obtain ⟨_, _, _, h4, _⟩ := HPV.out; simp [RowKit.intOf]; omega
       | true =>
        have HNX : Hid (WantP EL r (i + 1) 0 #[.int .i64 pa, .int .i64 ps, .int .i64 pt, .slice pda pdn pdc, .slice poa pon poc]) := by
         obtain ⟨e1, e2, e3, _⟩ := HPV.out
         exact Or.inr ⟨rfl, p, e1, by rw [e3]; exact (samePr_iff (pa, ps) r).1 HSB.out, e2⟩
        clear HSB HWP
        go_upto_region 20 with fail
        clear m0 m1 r0 r1 EQ
        obtain ⟨x0, x1, x2, x3, x4⟩ := HCL.out w9 HR9.out.2.2.1
        have hRB := HSw6.out.1.ref.below HR9.out.2.2.1
        have k0 : w9.cell? ⟨s, 0, none⟩ = some (.slice (some ⟨cb, co, none⟩) ln lc) := Lib.cell_of_heap hRB.box 0
        have zs : s < w9.heap.size := lt_of_heap hRB.box
        have oo0 : w9.cell? ⟨y16, 0, none⟩ = some o0 := Lib.cell_of_heap HR9.out.2.1 0
        have oo1 : w9.cell? ⟨y16, 1, none⟩ = some o1 := Lib.cell_of_heap HR9.out.2.1 1
        have oo2 : w9.cell? ⟨y16, 2, none⟩ = some o2 := Lib.cell_of_heap HR9.out.2.1 2
        have oo3 : w9.cell? ⟨y16, 3, none⟩ = some o3 := Lib.cell_of_heap HR9.out.2.1 3
        have oo4 : w9.cell? ⟨y16, 4, none⟩ = some o4 := Lib.cell_of_heap HR9.out.2.1 4
        have of := Lib.frozen_of_heap HR9.out.2.1
        have hy : w6.heap.size ≤ y16 := by have := HYZ.out.2; omega
        have hyn : y13 ≠ y16 := by have := HYZ.out; omega
        have HZ : Hid (((((((w9.setCell ⟨y16, 0, none⟩ (.int .i64 pa)).setCell ⟨y16, 1, none⟩ (.int .i64 ps)).setCell ⟨y16, 2, none⟩ (.int .i64 pt)).setCell ⟨y16, 3, none⟩ (.slice pda pdn pdc)).setCell ⟨y16, 4, none⟩ (.slice poa pon poc))).heap[y13]? = some (.cells #[.int .i64 0, .int .i64 0, .int .i64 0, .slice none 0 0, .slice none 0 0] 34) ∧ ((((((w9.setCell ⟨y16, 0, none⟩ (.int .i64 pa)).setCell ⟨y16, 1, none⟩ (.int .i64 ps)).setCell ⟨y16, 2, none⟩ (.int .i64 pt)).setCell ⟨y16, 3, none⟩ (.slice pda pdn pdc)).setCell ⟨y16, 4, none⟩ (.slice poa pon poc))).heap[y16]? = some (.cells #[.int .i64 pa, .int .i64 ps, .int .i64 pt, .slice pda pdn pdc, .slice poa pon poc] 34) ∧ Below w6.heap.size w6 (((((w9.setCell ⟨y16, 0, none⟩ (.int .i64 pa)).setCell ⟨y16, 1, none⟩ (.int .i64 ps)).setCell ⟨y16, 2, none⟩ (.int .i64 pt)).setCell ⟨y16, 3, none⟩ (.slice pda pdn pdc)).setCell ⟨y16, 4, none⟩ (.slice poa pon poc))) := ⟨(heap_set_other (heap_set_other (heap_set_other (heap_set_other (heap_set_other HR9.out.1 hyn) hyn) hyn) hyn) hyn), by rw [(set_at (set_at (set_at (set_at (set_at HR9.out.2.1 0 (.int .i64 pa)) 1 (.int .i64 ps)) 2 (.int .i64 pt)) 3 (.slice pda pdn pdc)) 4 (.slice poa pon poc))]; rfl, (((((HR9.out.2.2.1.setCell (p := ⟨y16, 0, none⟩) hy (.int .i64 pa)).setCell (p := ⟨y16, 1, none⟩) hy (.int .i64 ps)).setCell (p := ⟨y16, 2, none⟩) hy (.int .i64 pt)).setCell (p := ⟨y16, 3, none⟩) hy (.slice pda pdn pdc)).setCell (p := ⟨y16, 4, none⟩) hy (.slice poa pon poc))⟩
        clear hRB hy hyn
        go_upto_region 16 with fail
        clear x0 x1 x2 x3 x4 k0 zs oo0 oo1 oo2 oo3 oo4 of
        generalize (((((w9.setCell ⟨y16, 0, none⟩ (.int .i64 pa)).setCell ⟨y16, 1, none⟩ (.int .i64 ps)).setCell ⟨y16, 2, none⟩ (.int .i64 pt)).setCell ⟨y16, 3, none⟩ (.slice pda pdn pdc)).setCell ⟨y16, 4, none⟩ (.slice poa pon poc)) = wz at *
        have gm : (i : Int) < 1000 := by obtain ⟨_, _, _, h4, _⟩ := HPV.out; have := HLN.out; omega
        go_wp2
        go_roundw
        case rel => obtain ⟨_, _, _, h4, _⟩ := HPV.out; exact ⟨i + 1, 0, (.int .i64 pa), (.int .i64 ps), (.int .i64 pt), (.slice pda pdn pdc), (.slice poa pon poc), h4, rfl, by go_num, HNX.out, HZ.out⟩
        case measure => obtain ⟨_, _, _, h4, _⟩ := HPV.out; simp [RowKit.intOf]; omega
      ·have g1 : ¬ (i : Int) < ln := by have := HLN.out.1; omega
       have HR : Hid (wr.heap[y13]? = some (.cells #[.int .i64 0, .int .i64 0, .int .i64 0, .slice none 0 0, .slice none 0 0] 34) ∧ wr.heap[y16]? = some (.cells #[o0, o1, o2, o3, o4] 34) ∧ Below w6.heap.size w6 wr) := hR.out.2
       obtain ⟨he0, hol⟩ : e0 = 6 ∧ #[o0, o1, o2, o3, o4] = #[.int .i64 0, .int .i64 0, .int .i64 0, .slice none 0 0, .slice none 0 0] := by
        rcases hR.out.1 with ⟨h1, h2, _⟩ | ⟨_, p, h2, h3, _⟩
        ·exact ⟨h1, h2⟩
        ·exfalso
         cases HMEM.out.1 (mem_refs.2 ⟨p.1, mem_chgs.2 ⟨p, h2, rfl⟩, h3⟩)
       subst he0
       have hwl2 : o0 = .int .i64 0 ∧ o1 = .int .i64 0 ∧ o2 = .int .i64 0 ∧ o3 = .slice none 0 0 ∧ o4 = .slice none 0 0 := by simpa using hol
       obtain ⟨rfl, rfl, rfl, rfl, rfl⟩ := hwl2
       clear hol hlt hi hR hRB
       go_upto_region 21 with fail
       clear k0 zs g1
       have E6 := error_errno 6 wr (HA.out.2.2.2.2.below (HSw6.out.1.ref.bel.trans (HR.out.2.2.mono HSw6.out.1.ref.bel.size)))
       go_wp2_with fail
       go_fit E6
       rintro e w10 ⟨rfl, b10⟩
       have HR10 : Hid (w10.heap[y13]? = some (.cells #[.int .i64 0, .int .i64 0, .int .i64 0, .slice none 0 0, .slice none 0 0] 34) ∧ w10.heap[y16]? = some (.cells #[.int .i64 0, .int .i64 0, .int .i64 0, .slice none 0 0, .slice none 0 0] 34) ∧ Below w6.heap.size w6 w10) := ⟨heap_below HR.out.1 b10 (Nat.le_refl _), heap_below HR.out.2.1 b10 (Nat.le_refl _), HR.out.2.2.trans (b10.mono HR.out.2.2.size)⟩
       clear E6 b10 HR
       have a130 : w10.cell? ⟨y13, 0, none⟩ = some (.int .i64 0) := Lib.cell_of_heap HR10.out.1 0
       have a131 : w10.cell? ⟨y13, 1, none⟩ = some (.int .i64 0) := Lib.cell_of_heap HR10.out.1 1
       have a132 : w10.cell? ⟨y13, 2, none⟩ = some (.int .i64 0) := Lib.cell_of_heap HR10.out.1 2
       have a133 : w10.cell? ⟨y13, 3, none⟩ = some (.slice none 0 0) := Lib.cell_of_heap HR10.out.1 3
       have a134 : w10.cell? ⟨y13, 4, none⟩ = some (.slice none 0 0) := Lib.cell_of_heap HR10.out.1 4
       have a160 : w10.cell? ⟨y16, 0, none⟩ = some (.int .i64 0) := Lib.cell_of_heap HR10.out.2.1 0
       have a161 : w10.cell? ⟨y16, 1, none⟩ = some (.int .i64 0) := Lib.cell_of_heap HR10.out.2.1 1
       have a162 : w10.cell? ⟨y16, 2, none⟩ = some (.int .i64 0) := Lib.cell_of_heap HR10.out.2.1 2
       have a163 : w10.cell? ⟨y16, 3, none⟩ = some (.slice none 0 0) := Lib.cell_of_heap HR10.out.2.1 3
       have a164 : w10.cell? ⟨y16, 4, none⟩ = some (.slice none 0 0) := Lib.cell_of_heap HR10.out.2.1 4
       have E7 := sameF_any zC zC zeroChg w10 (zero_is _) (zero_is _) zero_fit
       unfold zC at E7
       go_wp2_with fail
       go_fit E7
       rintro e w11 ⟨rfl, b11⟩
       have b611 : Below w6.heap.size w6 w11 := HR10.out.2.2.trans (b11.mono HR10.out.2.2.size)
       have HSw11 := as_next HSw6 b611
       have HRF11 : Hid (IsPairs w11 (.slice ra rn rc) (refsS (chgsOf EL))) := HRF6.out.below b611
       have a13a := heap_below HR10.out.1 b11 (Nat.le_refl _)
       clear a130 a131 a132 a133 a134 a160 a161 a162 a163 a164
       have a130 : w11.cell? ⟨y13, 0, none⟩ = some (.int .i64 0) := Lib.cell_of_heap a13a 0
       have a131 : w11.cell? ⟨y13, 1, none⟩ = some (.int .i64 0) := Lib.cell_of_heap a13a 1
       have a132 : w11.cell? ⟨y13, 2, none⟩ = some (.int .i64 0) := Lib.cell_of_heap a13a 2
       have a133 : w11.cell? ⟨y13, 3, none⟩ = some (.slice none 0 0) := Lib.cell_of_heap a13a 3
       have a134 : w11.cell? ⟨y13, 4, none⟩ = some (.slice none 0 0) := Lib.cell_of_heap a13a 4
       clear E7 b11 b611 HR10 a13a HSw6 HRF6 HYZ
       go_upto_region 25 with fail
       clear a130 a131 a132 a133 a134
       go_wp2_with fail
       go_loopw [12, 15, 21] (fun xs xe xi wr => ∃ (i : Nat) (e0 : Int) (bb : Bool), i ≤ hs.length ∧ xs = .bool bb ∧ xe = .int .i64 e0 ∧ xi = .int .i64 i ∧ Hid (HeadsTo (chgsOf EL) hs i e0 ∧ Below w11.heap.size w11 wr)) (fun _ _ xi _ => hs.length - (RowKit.intOf xi).toNat)
       case atStart => exact ⟨0, 0, _, Nat.zero_le _, rfl, rfl, rfl, Or.inl ⟨rfl, fun x hx => by simp at hx⟩, Below.refl _ _⟩
       case round =>
        obtain ⟨i, e0, bb, hi, rfl, rfl, rfl, hR⟩ := hrel
        by_cases hlt : i < hs.length
        ·obtain ⟨a', c9, e9, _, _, h64, h4⟩ := id HA.out.2.1
         obtain ⟨pb, po, ha', h5, h6⟩ := h4 (fun e => by rw [e] at hlt; simp at hlt)
         have hva : hha = some ⟨pb, po, none⟩ := (Value.slice.inj e9).1.trans ha'
         subst hva
         obtain ⟨x, hx⟩ : ∃ z : Pr, hs[i] = z := ⟨_, rfl⟩
         have bw : Below w.heap.size w wr := HSw11.out.1.ref.bel.trans (hR.out.2.mono HSw11.out.1.ref.bel.size)
         have y0 : wr.cell? ⟨pb, po + i * 2, none⟩ = some (.int .i64 x.1) := by rw [bw.cell (p := ⟨pb, po + i * 2, none⟩) h5, (h6 i hlt).1, hx]
         have y1 : wr.cell? ⟨pb, po + i * 2 + 1, none⟩ = some (.int .i64 x.2) := by rw [bw.cell (p := ⟨pb, po + i * 2 + 1, none⟩) h5, (h6 i hlt).2, hx]
         have E8 := rHas_any (.slice ra rn rc) (refsS (chgsOf EL)) x wr (HRF11.out.below hR.out.2)
         obtain ⟨db, hdb⟩ : ∃ z : Bool, decide (x ∈ refsS (chgsOf EL)) = z := ⟨_, rfl⟩
         rw [hdb] at E8
         unfold refV at E8
         have HX : Hid ((x ∈ refsOf (chgsOf EL) ↔ db = true) ∧ ∃ h : i < hs.length, hs[i] = x) := ⟨by rw [← (refsS_facts (chgsOf EL)).2.1, ← hdb]; simp, hlt, hx⟩
         have HR : Hid (HeadsTo (chgsOf EL) hs i e0 ∧ Below w11.heap.size w11 wr) := hR
         have g1 : (i : Int) < hn := by have := HHN.out.1; omega
         have g3 : (0 : Int) ≤ i := by omega
         clear e9 h64 h4 ha' h5 h6 hx bw hdb hR hlt hi
         go_wp2_with fail
         go_fit E8
         rintro e w12 ⟨rfl, b12⟩
         have HB12 : Hid (Below w11.heap.size w11 w12) := HR.out.2.trans (b12.mono HR.out.2.size)
         clear E8 b12 y0 y1
         cases db with
         | true =>
          have HNX : Hid (HeadsTo (chgsOf EL) hs (i + 1) e0) := by
           obtain ⟨h1, h2, e2⟩ := HX.out
           exact (HR.out.1.next h2).1 (by rw [e2]; exact h1.2 rfl)
          clear HR
          go_upto_region 28 with fail
          have gm : (i : Int) < 1000000 := by obtain ⟨_, h2, _⟩ := HX.out; have := HHN.out.2; omega
          go_wp2
          go_roundw
          case rel => obtain ⟨_, h2, _⟩ := HX.out; exact ⟨i + 1, e0, _, h2, rfl, rfl, by go_num, HNX.out, HB12.out⟩
          case measure => obtain ⟨_, h2, _⟩ := HX.out; simp [RowKit.intOf]; omega
         | false =>
          have HNX : Hid (HeadsTo (chgsOf EL) hs (i + 1) 6) := by
           obtain ⟨h1, h2, e2⟩ := HX.out
           exact (HR.out.1.next h2).2 (by rw [e2]; exact fun h => by cases h1.1 h)
          clear HR
          go_upto_region 28 with fail
          have gm : (i : Int) < 1000000 := by obtain ⟨_, h2, _⟩ := HX.out; have := HHN.out.2; omega
          go_wp2
          go_roundw
          case rel => obtain ⟨_, h2, _⟩ := HX.out; exact ⟨i + 1, 6, _, h2, rfl, rfl, by go_num, HNX.out, HB12.out⟩
          case measure => obtain ⟨_, h2, _⟩ := HX.out; simp [RowKit.intOf]; omega
        ·have g1 : ¬ (i : Int) < hn := by have := HHN.out.1; omega
         have hb11 := hR.out.2
         have HSwr : Hid (ASt w g h q s EL ER EH ED (.slice la ln lc) vr wr ∧ wr.heap[w.heap.size]? = some (.cells #[.int .i64 r.1, .int .i64 r.2] 25)) := ⟨HSw11.out.1.below hb11, heap_below HSw11.out.2 hb11 (Nat.le_refl _)⟩
         have HHT : Hid ((e0 = 0 ∧ ∀ x ∈ hs, x ∈ refsOf (chgsOf EL)) ∨ (e0 = 6 ∧ ¬ ∀ x ∈ hs, x ∈ refsOf (chgsOf EL))) := by
          have h1 := hR.out.1
          unfold HeadsTo at h1
          rw [List.take_of_length_le (by omega)] at h1
          rcases h1 with h1 | ⟨h1, x, hx, hn⟩
          ·exact Or.inl h1
          ·exact Or.inr ⟨h1, fun h => hn (h x hx)⟩
         clear hb11 hR hlt hi HSw11 HRF11
         generalize wr = w12 at *
         clear wr
         have k0 : w12.cell? ⟨s, 0, none⟩ = some (.slice la ln lc) := Lib.cell_of_heap HSwr.out.1.ref.box 0
         have zs : s < w12.heap.size := lt_of_heap HSwr.out.1.ref.box
         rcases HHT.out with ⟨rfl, hall⟩ | ⟨rfl, hnot⟩
         ·have HALL : Hid (∀ x ∈ hs, x ∈ refsOf (chgsOf EL)) := hall
          clear hall HHT
          have bw : Below w.heap.size w w12 := HSwr.out.1.ref.bel
          have hok : ∀ x ∈ EL.map toCX, x.c.deps.length ≤ 12 := fun x hx => by
           obtain ⟨p, hp, rfl⟩ := List.mem_map.1 hx
           exact (chk_few (HSwr.out.1.ri.inv.ok p.1 (mem_chgs.2 ⟨p, hp, rfl⟩))).1
          have E9 := rBehind_any (.slice la ln lc) (.slice hha hn hc) (EL.map toCX) hs w12 (HSwr.out.1.ref.isL HSwr.out.1.few) HSwr.out.1.ref.whL (HA.out.2.1.below bw) HA.out.2.2.1 (by rw [map_toCX]; exact HSwr.out.1.ri.inv.nd) (by rw [List.length_map]; have := HLN.out.2; omega) hok (by have := HHN.out.2; omega)
          rw [map_toCX] at E9
          clear bw hok
          go_wp2_with fail
          go_fit E9
          rintro e w13 ⟨⟨ub, O, rfl, hub, _, hro, hbo⟩, b13⟩
          obtain ⟨ba, bn, bc, rfl⟩ : ∃ a n c, ub = .slice a n c := by obtain ⟨a, c, e, _⟩ := hub; exact ⟨_, _, _, e⟩
          have HSw13 := as_next HSwr b13
          have HO : Hid (IsPairs w13 (.slice ba bn bc) O ∧ Rise O ∧ IsBeh (chgsOf EL) hs O) := ⟨hub, hro, hbo⟩
          clear E9 hub hro hbo b13 HSwr k0 zs g1
          have E10 := dBehind_any w13 g h q EH ED (.slice hha hn hc) hs HSw13.out.1.bk (HA.out.2.1.below HSw13.out.1.ref.bel) HHN.out.2
          go_wp2_with fail
          go_fit E10
          rintro e w14 ⟨hD, b14⟩
          obtain ⟨ud, hu14⟩ : ∃ u, e = .returned (.tuple #[u, .nilIface]) ∧ IsPairs w14 u O := by
           rcases hD with ⟨h1, _⟩ | ⟨_, u, O', h2, h3, _, h4, h5⟩
           ·exact absurd (by rw [← HSw13.out.1.has]; exact HALL.out) h1
           ·refine ⟨u, h2, ?_⟩
            have e9 : O' = O := rise_ext h4 HO.out.2.1 (fun x => by rw [← HSw13.out.1.has] at h5; exact h5.same HO.out.2.2 x)
            rw [← e9]
            exact h3
          obtain ⟨rfl, hud⟩ := hu14
          obtain ⟨da, dn, dc, rfl⟩ : ∃ a n c, ud = .slice a n c := by obtain ⟨a, c, e, _⟩ := hud; exact ⟨_, _, _, e⟩
          have HSw14 := as_next HSw13 b14
          have HP14 : Hid (IsPairs w14 (.slice da dn dc) O ∧ IsPairs w14 (.slice ba bn bc) O) := ⟨hud, HO.out.1.below b14⟩
          clear E10 hD hud b14 HO HSw13
          have E11 := error_nil w14
          go_wp2_with fail
          go_fit E11
          rintro e w15 ⟨rfl, b15⟩
          have HSw15 := as_next HSw14 b15
          have E12 := sameRefs_any (.slice da dn dc) (.slice ba bn bc) O w15 (HP14.out.1.below b15) (HP14.out.2.below b15)
          clear E11 b15 HSw14 HP14
          go_wp2_with fail
          go_fit E12
          rintro e w16 ⟨rfl, b16⟩
          have HSw16 := as_next HSw15 b16
          clear E12 b16 HSw15 HALL
          go_upto_region 40 with fail
          have E13 := rMissing_any w s EL ER (.slice la ln lc) vr (.slice hha hn hc) hs w16 HSw16.out.1.ref HSw16.out.1.ri (HA.out.2.1.below HSw16.out.1.ref.bel) (by have := HHN.out.2; omega)
          go_wp2_with fail
          go_fit E13
          rintro e w17 ⟨hM, b17⟩
          have HSw17 := as_next HSw16 b17
          clear E13 b17 HSw16
          have E14 := dMissing_any w17 g h q EH ED (.slice hha hn hc) hs HSw17.out.1.bk (HA.out.2.1.below HSw17.out.1.ref.bel) HA.out.2.2.1 HHN.out.2
          rcases hM with ⟨hbad, rfl⟩ | ⟨hgood, um, O, rfl, hum, _, hMP⟩
          ·have HBAD : Hid (hs.all refB = false) := hbad
           clear hbad
           go_wp2_with fail
           go_fit E14
           rintro e w18 ⟨hD, b18⟩
           have he : e = .returned (.tuple #[.slice none 0 0, .iface 62 (.int .i64 1)]) := by
            rcases hD with ⟨_, h2⟩ | ⟨h1, _⟩
            ·exact h2
            ·rw [HBAD.out] at h1; cases h1
           subst he
           have HSw18 := as_next HSw17 b18
           clear E14 hD b18 HSw17 HBAD
           have E15 := error_errno 1 w18 (HA.out.2.2.2.2.below HSw18.out.1.ref.bel)
           go_wp2_with fail
           go_fit E15
           rintro e w19 ⟨rfl, b19⟩
           have HSw19 := as_next HSw18 b19
           have E16 := sameRefs_any (.slice none 0 0) (.slice none 0 0) [] w19 (isPairs_nil _ _ _) (isPairs_nil _ _ _)
           clear E15 b19 HSw18
           go_wp2_with fail
           go_fit E16
           rintro e w20 ⟨rfl, b20⟩
           have HEND : Hid (post (.returned (.bool true)) w20) := HPO.out _ (HSw19.out.1.ref.bel.trans (b20.mono HSw19.out.1.ref.bel.size))
           clear E16 b20 HSw19
           go_wp2
           exact HEND.out
          ·have HGOOD : Hid (hs.all refB = true ∧ IsPairs w17 um O ∧ MissP (chgsOf EL) (chgsOf ER) hs O) := ⟨hgood, hum, hMP⟩
           obtain ⟨ma, mn, mc, rfl⟩ : ∃ a n c, um = .slice a n c := by obtain ⟨a, c, e, _⟩ := hum; exact ⟨_, _, _, e⟩
           clear hgood hum hMP
           go_wp2_with fail
           go_fit E14
           rintro e w18 ⟨hD, b18⟩
           obtain ⟨ud, hu18⟩ : ∃ u, e = .returned (.tuple #[u, .nilIface]) ∧ IsPairs w18 u O := by
            rcases hD with ⟨h1, _⟩ | ⟨_, u, O', h2, h3, h4⟩
            ·rw [HGOOD.out.1] at h1; cases h1
            ·refine ⟨u, h2, ?_⟩
             have h5 := HGOOD.out.2.2
             rw [HSw17.out.1.has] at h5
             rw [h5.uniq HSw17.out.1.wait h4]
             exact h3
           obtain ⟨rfl, hud⟩ := hu18
           obtain ⟨da9, dn9, dc9, rfl⟩ : ∃ a n c, ud = .slice a n c := by obtain ⟨a, c, e, _⟩ := hud; exact ⟨_, _, _, e⟩
           have HSw18 := as_next HSw17 b18
           have HP18 : Hid (IsPairs w18 (.slice ma mn mc) O ∧ IsPairs w18 (.slice da9 dn9 dc9) O) := ⟨HGOOD.out.2.1.below b18, hud⟩
           clear E14 hD hud b18 HSw17 HGOOD
           have E15 := error_nil w18
           go_wp2_with fail
           go_fit E15
           rintro e w19 ⟨rfl, b19⟩
           have HSw19 := as_next HSw18 b19
           have E16 := sameRefs_any (.slice ma mn mc) (.slice da9 dn9 dc9) O w19 (HP18.out.1.below b19) (HP18.out.2.below b19)
           clear E15 b19 HSw18 HP18
           go_wp2_with fail
           go_fit E16
           rintro e w20 ⟨rfl, b20⟩
           have HEND : Hid (post (.returned (.bool true)) w20) := HPO.out _ (HSw19.out.1.ref.bel.trans (b20.mono HSw19.out.1.ref.bel.size))
           clear E16 b20 HSw19
           go_wp2
           exact HEND.out
         ·have HNOT : Hid (¬ ∀ x ∈ hs, x ∈ refsOf (chgsOf EL)) := hnot
          clear hnot HHT
          have E10 := dBehind_any w12 g h q EH ED (.slice hha hn hc) hs HSwr.out.1.bk (HA.out.2.1.below HSwr.out.1.ref.bel) HHN.out.2
          go_wp2_with fail
          go_fit E10
          rintro e w14 ⟨hD, b14⟩
          have he : e = .returned (.tuple #[.slice none 0 0, .iface 62 (.int .i64 6)]) := by
           rcases hD with ⟨_, h2⟩ | ⟨h1, _⟩
           ·exact h2
           ·exact absurd (by rw [HSwr.out.1.has]; exact h1) HNOT.out
          subst he
          have HSw14 := as_next HSwr b14
          clear E10 hD b14 HSwr k0 zs g1
          have E11 := error_errno 6 w14 (HA.out.2.2.2.2.below HSw14.out.1.ref.bel)
          go_wp2_with fail
          go_fit E11
          rintro e w15 ⟨rfl, b15⟩
          have HSw15 := as_next HSw14 b15
          have E12 := sameRefs_any (.slice none 0 0) (.slice none 0 0) [] w15 (isPairs_nil _ _ _) (isPairs_nil _ _ _)
          clear E11 b15 HSw14
          go_wp2_with fail
          go_fit E12
          rintro e w16 ⟨rfl, b16⟩
          have HSw16 := as_next HSw15 b16
          clear E12 b16 HSw15 HNOT
          go_upto_region 40 with fail
          have E13 := rMissing_any w s EL ER (.slice la ln lc) vr (.slice hha hn hc) hs w16 HSw16.out.1.ref HSw16.out.1.ri (HA.out.2.1.below HSw16.out.1.ref.bel) (by have := HHN.out.2; omega)
          go_wp2_with fail
          go_fit E13
          rintro e w17 ⟨hM, b17⟩
          have HSw17 := as_next HSw16 b17
          clear E13 b17 HSw16
          have E14 := dMissing_any w17 g h q EH ED (.slice hha hn hc) hs HSw17.out.1.bk (HA.out.2.1.below HSw17.out.1.ref.bel) HA.out.2.2.1 HHN.out.2
          rcases hM with ⟨hbad, rfl⟩ | ⟨hgood, um, O, rfl, hum, _, hMP⟩
          ·have HBAD : Hid (hs.all refB = false) := hbad
           clear hbad
           go_wp2_with fail
           go_fit E14
           rintro e w18 ⟨hD, b18⟩
           have he : e = .returned (.tuple #[.slice none 0 0, .iface 62 (.int .i64 1)]) := by
            rcases hD with ⟨_, h2⟩ | ⟨h1, _⟩
            ·exact h2
            ·rw [HBAD.out] at h1; cases h1
           subst he
           have HSw18 := as_next HSw17 b18
           clear E14 hD b18 HSw17 HBAD
           have E15 := error_errno 1 w18 (HA.out.2.2.2.2.below HSw18.out.1.ref.bel)
           go_wp2_with fail
           go_fit E15
           rintro e w19 ⟨rfl, b19⟩
           have HSw19 := as_next HSw18 b19
           have E16 := sameRefs_any (.slice none 0 0) (.slice none 0 0) [] w19 (isPairs_nil _ _ _) (isPairs_nil _ _ _)
           clear E15 b19 HSw18
           go_wp2_with fail
           go_fit E16
           rintro e w20 ⟨rfl, b20⟩
           have HEND : Hid (post (.returned (.bool true)) w20) := HPO.out _ (HSw19.out.1.ref.bel.trans (b20.mono HSw19.out.1.ref.bel.size))
           clear E16 b20 HSw19
           go_wp2
           exact HEND.out
          ·have HGOOD : Hid (hs.all refB = true ∧ IsPairs w17 um O ∧ MissP (chgsOf EL) (chgsOf ER) hs O) := ⟨hgood, hum, hMP⟩
           obtain ⟨ma, mn, mc, rfl⟩ : ∃ a n c, um = .slice a n c := by obtain ⟨a, c, e, _⟩ := hum; exact ⟨_, _, _, e⟩
           clear hgood hum hMP
           go_wp2_with fail
           go_fit E14
           rintro e w18 ⟨hD, b18⟩
           obtain ⟨ud, hu18⟩ : ∃ u, e = .returned (.tuple #[u, .nilIface]) ∧ IsPairs w18 u O := by
            rcases hD with ⟨h1, _⟩ | ⟨_, u, O', h2, h3, h4⟩
            ·rw [HGOOD.out.1] at h1; cases h1
            ·refine ⟨u, h2, ?_⟩
             have h5 := HGOOD.out.2.2
             rw [HSw17.out.1.has] at h5
             rw [h5.uniq HSw17.out.1.wait h4]
             exact h3
           obtain ⟨rfl, hud⟩ := hu18
           obtain ⟨da9, dn9, dc9, rfl⟩ : ∃ a n c, ud = .slice a n c := by obtain ⟨a, c, e, _⟩ := hud; exact ⟨_, _, _, e⟩
           have HSw18 := as_next HSw17 b18
           have HP18 : Hid (IsPairs w18 (.slice ma mn mc) O ∧ IsPairs w18 (.slice da9 dn9 dc9) O) := ⟨HGOOD.out.2.1.below b18, hud⟩
           clear E14 hD hud b18 HSw17 HGOOD
           have E15 := error_nil w18
           go_wp2_with fail
           go_fit E15
           rintro e w19 ⟨rfl, b19⟩
           have HSw19 := as_next HSw18 b19
           have E16 := sameRefs_any (.slice ma mn mc) (.slice da9 dn9 dc9) O w19 (HP18.out.1.below b19) (HP18.out.2.below b19)
           clear E15 b19 HSw18 HP18
           go_wp2_with fail
           go_fit E16
           rintro e w20 ⟨rfl, b20⟩
           have HEND : Hid (post (.returned (.bool true)) w20) := HPO.out _ (HSw19.out.1.ref.bel.trans (b20.mono HSw19.out.1.ref.bel.size))
           clear E16 b20 HSw19
           go_wp2
           exact HEND.out
end Go.Proofs.YtejfemdkommfhaaGreatDoor
