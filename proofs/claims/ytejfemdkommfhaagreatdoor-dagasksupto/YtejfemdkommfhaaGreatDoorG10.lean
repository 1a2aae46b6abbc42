/-
  What is proved: as each theorem says.
  Conditions: as each theorem says.
-/
import Derived.Test.YtejfemdkommfhaaGreatDoorG09
import Derived.Laws.OwnMore
namespace Go.Proofs.YtejfemdkommfhaaGreatDoor
open Go.RowKit Go.Maps
set_option maxRecDepth 100000 in
set_option maxHeartbeats 8000000 in
theorem equalF_any (v u : Value) (l m : List OV) (w : World) (hv : IsOps w v l) (hu : IsOps w u m) :
 Calls Tryz.prog 51 #[v, u, .func (Fn.func 52) #[] #[]] w fun e w' => (∃ b : Bool, e = .returned (.bool b) ∧ (l.map (·.1) = m.map (·.1) → b = true)) ∧ Below w.heap.size w w' := by
 have HVU : Hid (IsOps w v l ∧ IsOps w u m) := ⟨hv, hu⟩
 obtain ⟨a, cap, rfl, h1, h2, hr, h3⟩ := hv
 obtain ⟨c, cap2, rfl, k1, k2, kr, k3⟩ := hu
 have HA : Hid (_ ∧ _) := ⟨h3, k3⟩
 have HR : Hid (_ ∧ _) := ⟨hr, kr⟩
 have HZ : Hid (l.length ≤ 1099511627776) := h2
 clear h1 h2 hr h3 k1 k2 kr k3 HVU
 by_cases hlen : l.length = m.length
 ·have HL : Hid (l.length = m.length) := hlen
  rw [← hlen]
  clear hlen
  go_enter Tryz.func51, Tryz.ntmps51
  go_wp2_with fail
  go_loopw [17] (fun i wr => ∃ k : Nat, k ≤ l.length ∧ i = .int .i64 k ∧ Below w.heap.size w wr) (fun i _ => l.length - (RowKit.intOf i).toNat)
  case atStart => exact ⟨0, Nat.zero_le _, rfl, Below.refl _ _⟩
  case round =>
   obtain ⟨k, hk, rfl, hbel⟩ := hrel
   by_cases hlt : k < l.length
   ·have hlm : k < m.length := by have := HL.out; omega
    obtain ⟨b, off, rfl, h4, h5⟩ := HA.out.1 (fun e => by rw [e] at hlt; simp at hlt)
    obtain ⟨b2, off2, rfl, k4, k5⟩ := HA.out.2 (fun e => by rw [e] at hlm; simp at hlm)
    obtain ⟨x, hx⟩ : ∃ x : OV, l[k] = x := ⟨_, rfl⟩
    obtain ⟨y, hy⟩ : ∃ y : OV, m[k] = y := ⟨_, rfl⟩
    have hc : ∀ j, j < 13 → wr.cell? ⟨b, off + k * 13 + j, none⟩ = (opCells x.1 x.2)[j]? := fun j hj => by rw [hbel.cell (p := ⟨b, off + k * 13 + j, none⟩) h4, ← hx]; exact h5 k hlt j hj
    have hd : ∀ j, j < 13 → wr.cell? ⟨b2, off2 + k * 13 + j, none⟩ = (opCells y.1 y.2)[j]? := fun j hj => by rw [hbel.cell (p := ⟨b2, off2 + k * 13 + j, none⟩) k4, ← hy]; exact k5 k hlm j hj
    obtain ⟨⟨ok, oo, oy, oe, oi, ⟨wk, wn, wt, wo, wa⟩, op⟩, xv⟩ := x
    obtain ⟨⟨pk, po, py, pe, pi, ⟨xk, xn, xt, xo, xa⟩, pp⟩, yv⟩ := y
    have ix := (HR.out.1 _ (List.getElem_mem hlt)).1
    have iy := (HR.out.2 _ (List.getElem_mem hlm)).1
    rw [hx] at ix
    rw [hy] at iy
    dsimp only at ix iy hc hd
    have HIX : Hid (IsPairs w xv op ∧ IsPairs w yv pp) := ⟨ix, iy⟩
    obtain ⟨xa1, xc1, rfl, _⟩ := ix
    obtain ⟨ya1, yc1, rfl, _⟩ := iy
    have a0 : wr.cell? ⟨b, off + k * 13, none⟩ = some (.int .i64 ok) := hc 0 (by omega)
    have a1 : wr.cell? ⟨b, off + k * 13 + 1, none⟩ = some (.int .i64 oo.1) := hc 1 (by omega)
    have a2 : wr.cell? ⟨b, off + k * 13 + 2, none⟩ = some (.int .i64 oo.2) := hc 2 (by omega)
    have a3 : wr.cell? ⟨b, off + k * 13 + 3, none⟩ = some (.string oy) := hc 3 (by omega)
    have a4 : wr.cell? ⟨b, off + k * 13 + 4, none⟩ = some (.int .i64 oe.1) := hc 4 (by omega)
    have a5 : wr.cell? ⟨b, off + k * 13 + 5, none⟩ = some (.int .i64 oe.2) := hc 5 (by omega)
    have a6 : wr.cell? ⟨b, off + k * 13 + 6, none⟩ = some (.bool oi) := hc 6 (by omega)
    have a7 : wr.cell? ⟨b, off + k * 13 + 7, none⟩ = some (.int .i64 wk) := hc 7 (by omega)
    have a8 : wr.cell? ⟨b, off + k * 13 + 8, none⟩ = some (.int .i64 wn) := hc 8 (by omega)
    have a9 : wr.cell? ⟨b, off + k * 13 + 9, none⟩ = some (.string wt) := hc 9 (by omega)
    have a10 : wr.cell? ⟨b, off + k * 13 + 10, none⟩ = some (.int .i64 wo) := hc 10 (by omega)
    have a11 : wr.cell? ⟨b, off + k * 13 + 11, none⟩ = some (.int .i64 wa) := hc 11 (by omega)
    have a12 : wr.cell? ⟨b, off + k * 13 + 12, none⟩ = some (.slice xa1 op.length xc1) := hc 12 (by omega)
    have e0 : wr.cell? ⟨b2, off2 + k * 13, none⟩ = some (.int .i64 pk) := hd 0 (by omega)
    have e1 : wr.cell? ⟨b2, off2 + k * 13 + 1, none⟩ = some (.int .i64 po.1) := hd 1 (by omega)
    have e2 : wr.cell? ⟨b2, off2 + k * 13 + 2, none⟩ = some (.int .i64 po.2) := hd 2 (by omega)
    have e3 : wr.cell? ⟨b2, off2 + k * 13 + 3, none⟩ = some (.string py) := hd 3 (by omega)
    have e4 : wr.cell? ⟨b2, off2 + k * 13 + 4, none⟩ = some (.int .i64 pe.1) := hd 4 (by omega)
    have e5 : wr.cell? ⟨b2, off2 + k * 13 + 5, none⟩ = some (.int .i64 pe.2) := hd 5 (by omega)
    have e6 : wr.cell? ⟨b2, off2 + k * 13 + 6, none⟩ = some (.bool pi) := hd 6 (by omega)
    have e7 : wr.cell? ⟨b2, off2 + k * 13 + 7, none⟩ = some (.int .i64 xk) := hd 7 (by omega)
    have e8 : wr.cell? ⟨b2, off2 + k * 13 + 8, none⟩ = some (.int .i64 xn) := hd 8 (by omega)
    have e9 : wr.cell? ⟨b2, off2 + k * 13 + 9, none⟩ = some (.string xt) := hd 9 (by omega)
    have e10 : wr.cell? ⟨b2, off2 + k * 13 + 10, none⟩ = some (.int .i64 xo) := hd 10 (by omega)
    have e11 : wr.cell? ⟨b2, off2 + k * 13 + 11, none⟩ = some (.int .i64 xa) := hd 11 (by omega)
    have e12 : wr.cell? ⟨b2, off2 + k * 13 + 12, none⟩ = some (.slice ya1 pp.length yc1) := hd 12 (by omega)
    have g1 : (k : Int) < l.length := by omega
    have g2 : (k : Int) < 1099511627776 := by have := HZ.out; omega
    have gm : (k : Int) < m.length := by omega
    have hbz := hbel.size
    have hbb : b < wr.heap.size := by omega
    have hbb2 : b2 < wr.heap.size := by omega
    have HK : Hid (k < l.length ∧ ∀ h : l.map (·.1) = m.map (·.1), (OpM.mk ok oo oy oe oi ⟨wk, wn, wt, wo, wa⟩ op) = (OpM.mk pk po py pe pi ⟨xk, xn, xt, xo, xa⟩ pp)) := ⟨hlt, fun h => by
     have h8 : (l.map (·.1))[k]? = (m.map (·.1))[k]? := by rw [h]
     rw [List.getElem?_map, List.getElem?_map, List.getElem?_eq_getElem hlt, List.getElem?_eq_getElem hlm, hx, hy] at h8
     simpa using h8⟩
    have HB : Hid (Below w.heap.size w wr) := hbel
    have b1 := (hbel.alloc hbz (.cells (opCells (OpM.mk ok oo oy oe oi ⟨wk, wn, wt, wo, wa⟩ op) (.slice xa1 op.length xc1)).toArray 83)).alloc (by simp; omega) (.cells (opCells (OpM.mk pk po py pe pi ⟨xk, xn, xt, xo, xa⟩ pp) (.slice ya1 pp.length yc1)).toArray 83)
    have HB2 : Hid _ := b1
    have E := sameOp_any (OpM.mk ok oo oy oe oi ⟨wk, wn, wt, wo, wa⟩ op) (OpM.mk pk po py pe pi ⟨xk, xn, xt, xo, xa⟩ pp) (.slice xa1 op.length xc1) (.slice ya1 pp.length yc1) _ (HIX.out.1.below b1) (HIX.out.2.below b1)
    obtain ⟨EQ, HEQ⟩ : ∃ P : Prop, Hid (P = ((OpM.mk ok oo oy oe oi ⟨wk, wn, wt, wo, wa⟩ op) = (OpM.mk pk po py pe pi ⟨xk, xn, xt, xo, xa⟩ pp))) := ⟨_, rfl⟩
    rw [← HEQ.out] at E HK
    simp only [opVal, opCells] at E HB2
    clear h5 k5 hk hbel hlt hlm hx hy hc hd b1 hbz HEQ
    go_wp2_with fail
    go_fit E
    rintro e w1 ⟨⟨pb, rfl, hpb⟩, b2⟩
    have HPB : Hid (EQ → pb = true) := hpb
    have HB3 : Hid (Below w.heap.size w w1) := HB2.out.trans (b2.mono HB2.out.size)
    clear hpb b2 E
    cases pb with
    | true =>
     go_wp2
     go_roundw
     case rel => exact ⟨k + 1, HK.out.1, by go_num, HB3.out⟩
     case measure => simp [RowKit.intOf]; have := HK.out.1; omega
    | false =>
     go_wp2
     go_ret
     have hn : ¬ l.map (·.1) = m.map (·.1) := fun h => by cases HPB.out (HK.out.2 h)
     first | exact ⟨⟨false, rfl, fun h => absurd h hn⟩, HB3.out⟩ | exact ⟨Or.inl ⟨rfl, hn⟩, HB3.out⟩
   ·have hke : k = l.length := by omega
    have HB : Hid (Below w.heap.size w wr) := hbel
    clear hlt hk hbel
    subst hke
    go_wp2
    go_ret
    first | exact ⟨⟨true, rfl, fun _ => rfl⟩, HB.out⟩ | exact ⟨Or.inr rfl, HB.out⟩
 ·have g1 : ¬ (l.length : Int) = m.length := by omega
  have g2 : ((l.length : Int) == m.length) = false := by simp; omega
  have HL : Hid (¬ l.length = m.length) := hlen
  clear hlen
  go_enter Tryz.func51, Tryz.ntmps51
  go_wp2
  go_ret
  have hn : ¬ l.map (·.1) = m.map (·.1) := fun e => HL.out (by have := congrArg List.length e; simpa using this)
  first | exact ⟨⟨false, rfl, fun h => absurd h hn⟩, Below.refl _ _⟩ | exact ⟨Or.inl ⟨rfl, hn⟩, Below.refl _ _⟩
end Go.Proofs.YtejfemdkommfhaaGreatDoor
namespace Go.Proofs.YtejfemdkommfhaaGreatDoor
open Go.RowKit Go.Maps
set_option maxRecDepth 100000 in
set_option maxHeartbeats 8000000 in
theorem clash_any (v u : Value) (c d : Chg) (w : World) (hv : IsChg w v c) (hu : IsChg w u d) :
 Calls Tryz.prog 28 #[v, u] w fun e w' => (∃ b : Bool, e = .returned (if b then .nilIface else .iface 62 (.int .i64 8)) ∧ (c = d → b = true)) ∧ Below w.heap.size w w' := by
 obtain ⟨vd, vo, l, rfl, _, _, _, hd, ho, hl⟩ := hv
 obtain ⟨ud, uo, m, rfl, _, _, _, kd, ko, km⟩ := hu
 have H4 : Hid (c = d → c.start = d.start ∧ c.deps = d.deps ∧ l.map (·.1) = m.map (·.1)) := fun e => ⟨by rw [e], by rw [e], by rw [hl, km, e]⟩
 have b0 := ((Below.refl w.heap.size w).alloc (Nat.le_refl _) (.cells #[.int .i64 c.actor, .int .i64 c.seq, .int .i64 c.start, vd, vo] 34)).alloc (by simp) (.cells #[.int .i64 d.actor, .int .i64 d.seq, .int .i64 d.start, ud, uo] 34)
 have E1 := equalR_any vd ud c.deps d.deps _ (hd.below b0) (kd.below b0)
 have HO : Hid (IsOps w vo l ∧ IsOps w uo m) := ⟨ho, ko⟩
 obtain ⟨da, dc, rfl, _⟩ := hd
 obtain ⟨oa, oc, rfl, _⟩ := ho
 obtain ⟨da2, dc2, rfl, _⟩ := kd
 obtain ⟨oa2, oc2, rfl, _⟩ := ko
 have HB : Hid _ := b0
 obtain ⟨EQ, HEQ⟩ : ∃ P : Prop, Hid (P = (c = d)) := ⟨_, rfl⟩
 rw [← HEQ.out] at H4 ⊢
 obtain ⟨ca, cs, ct, cd, co⟩ := c
 obtain ⟨ea, es, et, ed, eo⟩ := d
 dsimp only at *
 clear hl km HEQ b0
 by_cases c1 : ct = et
 ·subst c1
  go_enter Tryz.func28, Tryz.ntmps28
  go_wp2_with fail
  go_fit E1
  rintro e w1 ⟨⟨pb, rfl, hpb⟩, b1⟩
  have HP : Hid (pb = true ↔ cd = ed) := hpb
  have B1 := HB.out.trans (b1.mono HB.out.size)
  have HB1 : Hid (Below w.heap.size w w1) := B1
  have E2 := equalF_any (.slice oa l.length oc) (.slice oa2 m.length oc2) l m w1 (HO.out.1.below B1) (HO.out.2.below B1)
  have hk1 := (heap_alloc_old (heap_alloc_new w (.cells #[.int .i64 ca, .int .i64 cs, .int .i64 ct, .slice da cd.length dc, .slice oa l.length oc] 34)) (.cells #[.int .i64 ea, .int .i64 es, .int .i64 ct, .slice da2 ed.length dc2, .slice oa2 m.length oc2] 34))
  have x1 := (Kp.of (S := []) b1).heap hk1 (by simp)
  have hk2 := heap_alloc_new (w.alloc (.cells #[.int .i64 ca, .int .i64 cs, .int .i64 ct, .slice da cd.length dc, .slice oa l.length oc] 34)) (.cells #[.int .i64 ea, .int .i64 es, .int .i64 ct, .slice da2 ed.length dc2, .slice oa2 m.length oc2] 34)
  have x2 := (Kp.of (S := []) b1).heap hk2 (by simp)
  rw [show (w.alloc (.cells #[.int .i64 ca, .int .i64 cs, .int .i64 ct, .slice da cd.length dc, .slice oa l.length oc] 34)).heap.size = w.heap.size + 1 from by simp] at x2
  have y1 : w1.cell? ⟨w.heap.size, 4, none⟩ = some (.slice oa l.length oc) := Lib.cell_of_heap x1 4
  have y2 : w1.cell? ⟨w.heap.size + 1, 4, none⟩ = some (.slice oa2 m.length oc2) := Lib.cell_of_heap x2 4
  have z1 := lt_of_heap x1
  have z2 := lt_of_heap x2
  clear hpb b1 B1 E1 hk1 hk2 x1 x2
  cases pb with
  | false =>
   go_wp2
   go_ret
   have hn : ¬ EQ := fun h => by cases HP.out.2 (H4.out h).2.1
   first | exact ⟨⟨false, rfl, fun h => absurd h hn⟩, HB1.out⟩ | exact ⟨Or.inl ⟨rfl, hn⟩, HB1.out⟩
  | true =>
   go_wp2_with fail
   go_fit E2
   rintro e w2 ⟨⟨qb, rfl, hqb⟩, b2⟩
   have HQ : Hid (l.map (·.1) = m.map (·.1) → qb = true) := hqb
   have HB2 : Hid (Below w.heap.size w w2) := HB1.out.trans (b2.mono HB1.out.size)
   clear hqb b2 E2
   cases qb with
   | false =>
    go_wp2
    go_ret
    have hn : ¬ EQ := fun h => by cases HQ.out (H4.out h).2.2
    first | exact ⟨⟨false, rfl, fun h => absurd h hn⟩, HB2.out⟩ | exact ⟨Or.inl ⟨rfl, hn⟩, HB2.out⟩
   | true =>
    go_wp2
    go_ret
    first | exact ⟨⟨true, rfl, fun _ => rfl⟩, HB2.out⟩ | exact ⟨Or.inr rfl, HB2.out⟩
 ·have c1b : (ct == et) = false := by simp [c1]
  go_enter Tryz.func28, Tryz.ntmps28
  go_wp2
  go_ret
  have hn : ¬ EQ := fun h => c1 (H4.out h).1
  first | exact ⟨⟨false, rfl, fun h => absurd h hn⟩, HB.out⟩ | exact ⟨Or.inl ⟨rfl, hn⟩, HB.out⟩
end Go.Proofs.YtejfemdkommfhaaGreatDoor
namespace Go.Proofs.YtejfemdkommfhaaGreatDoor
open Go.RowKit Go.Maps
theorem pair_cells {W : World} {a : Option Addr} {n c : Nat} {l : List Pr} (hv : IsPairs W (.slice a n c) l) {ad : Addr} (ha : a = some ad) : n = l.length ∧ ∀ j u, (pcells l)[j]? = some u → W.cell? (ad.add j) = some u := by
 obtain ⟨a', c', e, h1, h2, hr, h3⟩ := hv
 have e1 := Value.slice.inj e
 refine ⟨e1.2.1, fun j u hj => ?_⟩
 have hjl : j < l.length * 2 := by
  rcases Nat.lt_or_ge j (l.length * 2) with h | h
  ·exact h
  ·rw [List.getElem?_eq_none (by rw [pcells_len]; exact h)] at hj; cases hj
 have hne : l ≠ [] := fun e => by rw [e] at hjl; simp at hjl
 obtain ⟨b, off, e2, h4, h5⟩ := h3 hne
 have e3 : ad = ⟨b, off, none⟩ := Option.some.inj (ha.symm.trans (e1.1.trans e2))
 subst e3
 have ea : (⟨b, off, none⟩ : Addr).add j = ⟨b, off + j, none⟩ := by unfold Addr.add; split <;> simp_all
 rw [ea]
 obtain ⟨i, hi⟩ : ∃ i, j = i * 2 ∨ j = i * 2 + 1 := ⟨j / 2, by omega⟩
 rcases hi with rfl | rfl
 ·have hil : i < l.length := by omega
  rw [(pcells_at l i hil).1] at hj
  rw [(h5 i hil).1]; exact hj
 ·have hil : i < l.length := by omega
  rw [(pcells_at l i hil).2] at hj
  rw [← Nat.add_assoc, (h5 i hil).2]; exact hj
theorem pair_one (l : List Pr) : ∀ u ∈ pcells l, u.oneCell' = true := by
 intro u hu
 unfold pcells at hu
 obtain ⟨q, _, hq⟩ := List.mem_flatMap.1 hu
 simp at hq
 rcases hq with rfl | rfl <;> rfl
theorem run_copy {T E : TypeId} (ht : Tryz.prog.underlying T = some (.slice E)) (hi : (Tryz.prog.info? E).map (fun i => (i.zero, i.size, i.bytes)) = some (some (.agg #[.int .i64 0, .int .i64 0]), 2, 16)) (ty : TypeId) (W : World) (B : Nat) (hB : B ≤ W.heap.size) (v : Value) (l : List Pr) (hv : IsPairs W v l) (hw : Wh v) (hl : l.length ≤ 1000000) :
 ∃ u W', (Builtin.append_ #[T, T] ty #[.slice none 0 0, v]).run Tryz.prog W = .ok u W' ∧ RowPr E B u l W' ∧ Below W.heap.size W W' := by
 obtain ⟨i0, hi0, hz0, hz1, hz2⟩ := info_parts hi
 rcases hw with rfl | ⟨ad, n, c, rfl⟩
 ·have hl0 : l = [] := by
   obtain ⟨a', c', e, _⟩ := hv
   exact List.length_eq_zero_iff.1 (Value.slice.inj e).2.1.symm
  subst hl0
  refine ⟨.slice none 0 0, W, run_append_owned_none (P := Tryz.prog) (w := W) B T ty E i0 2 ht hi0 (.slice none 0 0) 0 [] (World.ownsRow_nil W B E 2), World.ownsRow_nil W B E 2, Below.refl _ _⟩
 ·obtain ⟨hn, hc⟩ := pair_cells hv rfl
  subst hn
  obtain ⟨u, W', h1, h2, h3, _⟩ := run_append_own (P := Tryz.prog) W B T ty E i0 (.agg #[.int .i64 0, .int .i64 0]) 2 16 ht hi0 hz0 hz1 hz2 rfl (by decide) (.slice none 0 0) 0 [] (World.ownsRow_nil W B E 2) ad l.length c (pcells l) (pcells_len l) hc (pair_one l) (by unfold maxLen; omega) (by omega) hB
  refine ⟨u, W', h1, ?_, ⟨h3.os, h3.tape, h3.output, h3.size, fun k hk => h3.block k hk (by simp [Value.ownBlock])⟩⟩
  simpa using h2
end Go.Proofs.YtejfemdkommfhaaGreatDoor
namespace Go.Proofs.YtejfemdkommfhaaGreatDoor
open Go.RowKit Go.Maps
theorem op_cells {W : World} {a : Option Addr} {n c : Nat} {l : List OV} (hv : IsOps W (.slice a n c) l) {ad : Addr} (ha : a = some ad) : n = l.length ∧ ∀ j u, (ocells l)[j]? = some u → W.cell? (ad.add j) = some u := by
 obtain ⟨a', c', e, h1, h2, hr, h3⟩ := hv
 have e1 := Value.slice.inj e
 refine ⟨e1.2.1, fun j u hj => ?_⟩
 have hjl : j < l.length * 13 := by
  rcases Nat.lt_or_ge j (l.length * 13) with h | h
  ·exact h
  ·rw [List.getElem?_eq_none (by rw [ocells_len]; exact h)] at hj; cases hj
 have hne : l ≠ [] := fun e => by rw [e] at hjl; simp at hjl
 obtain ⟨b, off, e2, h4, h5⟩ := h3 hne
 have e3 : ad = ⟨b, off, none⟩ := Option.some.inj (ha.symm.trans (e1.1.trans e2))
 subst e3
 have ea : (⟨b, off, none⟩ : Addr).add j = ⟨b, off + j, none⟩ := by unfold Addr.add; split <;> simp_all
 rw [ea]
 obtain ⟨i, k, rfl, hk⟩ : ∃ i k, j = i * 13 + k ∧ k < 13 := ⟨j / 13, j % 13, by omega, by omega⟩
 have hil : i < l.length := by omega
 rw [ocells_at l i hil k hk] at hj
 rw [← Nat.add_assoc, h5 i hil k hk]; exact hj
theorem ops_one {W : World} {v : Value} {l : List OV} (hv : IsOps W v l) : ∀ u ∈ ocells l, u.oneCell' = true := by
 obtain ⟨a', c', e, h1, h2, hr, h3⟩ := hv
 intro u hu
 unfold ocells at hu
 obtain ⟨q, hq, hu⟩ := List.mem_flatMap.1 hu
 obtain ⟨⟨pa, pc, pe, _⟩, _⟩ := hr q hq
 unfold opCells at hu
 rw [pe] at hu
 simp at hu
 rcases hu with rfl | rfl | rfl | rfl | rfl | rfl | rfl | rfl | rfl | rfl | rfl | rfl | rfl <;> rfl
theorem run_copyO (ty : TypeId) (W : World) (B : Nat) (hB : B ≤ W.heap.size) (v : Value) (l : List OV) (hv : IsOps W v l) (hw : Wh v) (hl : l.length ≤ 1000000) :
 ∃ u W', (Builtin.append_ #[32, 32] ty #[.slice none 0 0, v]).run Tryz.prog W = .ok u W' ∧ RowO B u l W' ∧ Below W.heap.size W W' := by
 obtain ⟨i0, hi0, hz0, hz1, hz2⟩ := info_parts infoO
 have h1c := ops_one hv
 rcases hw with rfl | ⟨ad, n, c, rfl⟩
 ·have hl0 : l = [] := by
   obtain ⟨a', c', e, _⟩ := hv
   exact List.length_eq_zero_iff.1 (Value.slice.inj e).2.1.symm
  subst hl0
  exact ⟨.slice none 0 0, W, run_append_owned_none (P := Tryz.prog) (w := W) B 32 ty 83 i0 13 Tryz.underlying32 hi0 (.slice none 0 0) 0 [] (World.ownsRow_nil W B 83 13), World.ownsRow_nil W B 83 13, Below.refl _ _⟩
 ·obtain ⟨hn, hc⟩ := op_cells hv rfl
  subst hn
  obtain ⟨u, W', h1, h2, h3, _⟩ := run_append_own (P := Tryz.prog) W B 32 ty 83 i0 _ 13 _ Tryz.underlying32 hi0 hz0 hz1 hz2 rfl (by decide) (.slice none 0 0) 0 [] (World.ownsRow_nil W B 83 13) ad l.length c (ocells l) (ocells_len l) hc h1c (by unfold maxLen; omega) (by omega) hB
  refine ⟨u, W', h1, ?_, ⟨h3.os, h3.tape, h3.output, h3.size, fun k hk => h3.block k hk (by simp [Value.ownBlock])⟩⟩
  simpa using h2
theorem wp_append {w : World} {ops : Array Oper} {rest : List Oper} {o : Oper} {a : Act} {Q : Exit → Act → World → Prop} (hgd : o.guard = none) (s x : Operand) (T : TypeId)
 (ho : o.op = .call { callee := .builtin .append, args := #[s, x], argTypes := #[T, T] }) (v u r : Value) (w' : World) (hs : a.eval s = v) (hx : a.eval x = u)
 (hrun : (Builtin.append_ #[T, T] o.type #[v, u]).run Tryz.prog w = .ok r w') (h : wpList Tryz.prog ops Q rest (a.put o.dst r) w') : wpList Tryz.prog ops Q (o :: rest) a w := by
 refine wpList_plain hgd fun K hK => ?_
 unfold Oper.wp
 simp [execOp, ho, resolve, invoke, builtin, hs, hx, hrun, Result.andThen]
 exact hK _ _ h
end Go.Proofs.YtejfemdkommfhaaGreatDoor
namespace Go.Proofs.YtejfemdkommfhaaGreatDoor
open Go.RowKit Go.Maps
theorem ocells_set (l : List OV) (k : Nat) (hk : k < l.length) (nv : Value) : ocells (l.set k (l[k].1, nv)) = (ocells l).set (k * 13 + 12) nv := by
 refine List.ext_getElem? fun j => ?_
 rcases Nat.lt_or_ge j (l.length * 13) with hj | hj
 ·obtain ⟨i, r, rfl, hr⟩ : ∃ i r, j = i * 13 + r ∧ r < 13 := ⟨j / 13, j % 13, by omega, by omega⟩
  have hi : i < l.length := by omega
  rw [ocells_at _ i (by simpa using hi) r hr, List.getElem?_set]
  by_cases hik : i = k
  ·subst hik
   by_cases hr2 : r = 12
   ·subst hr2
    rw [if_pos rfl, if_pos (by rw [ocells_len]; omega)]
    simp [opCells]
   ·rw [if_neg (by omega), ocells_at l i hi r hr]
    simp only [List.getElem_set_self]
    unfold opCells
    obtain rfl | rfl | rfl | rfl | rfl | rfl | rfl | rfl | rfl | rfl | rfl | rfl : r = 0 ∨ r = 1 ∨ r = 2 ∨ r = 3 ∨ r = 4 ∨ r = 5 ∨ r = 6 ∨ r = 7 ∨ r = 8 ∨ r = 9 ∨ r = 10 ∨ r = 11 := by omega
    all_goals rfl
  ·rw [if_neg (by omega), ocells_at l i hi r hr]
   rw [List.getElem_set_ne (fun e => hik e.symm)]
 ·rw [List.getElem?_eq_none (by rw [ocells_len, List.length_set]; exact hj), List.getElem?_eq_none (by rw [List.length_set, ocells_len]; exact hj)]
theorem rowO_set {B g cap : Nat} {w : World} {l : List OV} (h : RowO B (.slice (some ⟨g, 0, none⟩) l.length cap) l w) (k : Nat) (hk : k < l.length) (nv : Value) : RowO B (.slice (some ⟨g, 0, none⟩) l.length cap) (l.set k (l[k].1, nv)) (w.setCell ⟨g, k * 13 + 12, none⟩ nv) := by
 have hn : (l.set k (l[k].1, nv)).length = l.length := by simp
 unfold RowO
 rw [hn, ocells_set l k hk nv]
 refine ⟨by rw [List.length_set, ocells_len], ?_⟩
 rcases h.2 with ⟨e, h0⟩ | ⟨g', cap', cur, e, hg, hh, hc, hm, hz, ht⟩
 ·omega
 ·have e1 := Value.slice.inj e
  have e2 : g = g' := by have := Option.some.inj e1.1; simpa using this
  subst e2
  have e3 := e1.2.2
  subst e3
  refine Or.inr ⟨g, cap, cur.setIfInBounds (k * 13 + 12) nv, rfl, hg, set_at hh _ _, hc, hm, by simpa using hz, ?_⟩
  rw [Array.toList_setIfInBounds, List.take_set, ht]
theorem rowO_form {B : Nat} {w : World} {v : Value} {l : List OV} (h : RowO B v l w) (hl : l ≠ []) : ∃ g cap, v = .slice (some ⟨g, 0, none⟩) l.length cap ∧ B ≤ g ∧ g < w.heap.size ∧ l.length ≤ cap ∧ (∀ j, w.frozen? ⟨g, j, none⟩ = false) ∧ (∃ cur, w.heap[g]? = some (.cells cur 83)) ∧ ∀ i (hi : i < l.length) j, j < 13 → w.cell? ⟨g, i * 13 + j, none⟩ = (opCells l[i].1 l[i].2)[j]? := by
 rcases h.2 with ⟨rfl, h0⟩ | ⟨g, cap, cur, rfl, hg, hh, hc, hm, hz, ht⟩
 ·exact absurd (List.length_eq_zero_iff.1 h0) hl
 ·exact ⟨g, cap, rfl, hg, lt_of_heap hh, hc, Lib.frozen_of_heap hh, ⟨cur, hh⟩, fun i hi j hj => by rw [h.cellAt (i * 13 + j) (by omega), ocells_at l i hi j hj]⟩
end Go.Proofs.YtejfemdkommfhaaGreatDoor
