/-
  What is proved: what bookref3's Do does in a crash.
  Conditions: as each theorem says.
-/
import Derived.Test.YtcdpcjafomfddaaDoorQCrM
import Derived.Test.YtcdpcjafomfddaaDoorQDoY
namespace Go.Proofs.YtcdpcjafomfddaaDoor
open Go.RowKit Go.Maps Go.Sort Go.Shelf

def Cr7 (T : Nat → Prop) (w : World) (p : Nat) (fs : List FV) (Y : List (Tx × Nat)) (k : Int) (e : Ending) (w' : World) : Prop := ∃ E : List FV, E.map (·.2) = Y.map (crB k fs) ∧ DoP T w p (fs ++ E) (crN fs.length Y) (crN fs.length Y) 0 (-1) e w'

set_option maxRecDepth 100000 in
set_option maxHeartbeats 8000000 in
theorem do_7 {T : Nat → Prop} {p : Nat} {fs : List FV} {N Y : List (Tx × Nat)} {n st : Int} (s t : Tx) (a : Option Addr) (m c : Nat) (k : Int) (w : World) (h : Rk T w p fs N Y n st) (hT : ∀ k, w.heap.size ≤ k → T k) (hY : Y.length ≤ 1000) (hfl : fs.length ≤ 100000) (hk : I64 k) :
    Calls Tryd.prog 22 #[.pointer (some ⟨p, 0, none⟩), .agg #[.int .i64 7, .string ⟨s.toArray⟩, .string ⟨t.toArray⟩, .slice a m c, .int .i64 k]] w fun e w' => Cr7 T w p fs Y k e w' := by
  have b0 : Below w.heap.size w (w.alloc (.cells #[.int .i64 7, .string ⟨s.toArray⟩, .string ⟨t.toArray⟩, .slice a m c, .int .i64 k] 36)) := (Below.refl _ _).alloc (Nat.le_refl _) _
  have r0 := h.below b0
  have x0 := (MapKept.heap_alloc w (.cells #[.int .i64 7, .string ⟨s.toArray⟩, .string ⟨t.toArray⟩, .slice a m c, .int .i64 k] 36)).1
  have k0 : (w.alloc (.cells #[.int .i64 7, .string ⟨s.toArray⟩, .string ⟨t.toArray⟩, .slice a m c, .int .i64 k] 36)).cell? ⟨w.heap.size, 0, none⟩ = some (.int .i64 7) := Lib.cell_of_heap x0 0
  obtain ⟨vf0, vn, vy, hb0, H1, H2, H3, t1, t2, t3⟩ := h.box
  have HI0 : Hid (CrK T w p fs N Y n st vn vy (.cells #[.int .i64 7, .string ⟨s.toArray⟩, .string ⟨t.toArray⟩, .slice a m c, .int .i64 k] 36) [] [] (.slice none 0 0) (w.alloc (.cells #[.int .i64 7, .string ⟨s.toArray⟩, .string ⟨t.toArray⟩, .slice a m c, .int .i64 k] 36))) := by
    refine ⟨Kp.of b0, ⟨vf0, (b0.block p (lt_of_heap hb0)).trans hb0, by rw [List.append_nil]; exact own_below H1 b0 (Nat.le_refl _), t1⟩, own_below H2 b0 (Nat.le_refl _), own_below H3 b0 (Nat.le_refl _), fun q hq => ?_, World.ownsRow_nil _ _ _ _, (fun b e => by cases e), x0⟩
    rw [List.append_nil] at hq
    have z := r0.fi q hq; exact z
  obtain ⟨post, hpost⟩ : ∃ post, post = fun e w' => Cr7 T w p fs Y k e w' := ⟨_, rfl⟩
  rw [← hpost]
  have HPO : Hid (post = _) := hpost
  have HTT : Hid (∀ k, w.heap.size ≤ k → T k) := hT
  have HV : Hid ((∀ b, vn.ownBlock = some b → T b ∧ b < w.heap.size) ∧ (∀ b, vy.ownBlock = some b → T b ∧ b < w.heap.size) ∧ T p ∧ (∀ q ∈ Y, q.2 < fs.length) ∧ p < w.heap.size) := ⟨fun b e => ⟨t2 b e, own_lt H2 e⟩, fun b e => ⟨t3 b e, own_lt H3 e⟩, h.tp, h.nY, lt_of_heap hb0⟩
  have HB : Hid (Y.length ≤ 1000 ∧ fs.length ≤ 100000 ∧ I64 k) := ⟨hY, hfl, hk⟩
  obtain ⟨ay, cy, rfl⟩ := rowN_form H3
  clear h b0 r0 x0 hb0 H1 H2 H3 t1 t2 t3 hpost hT hY hfl hk
  go_enter Tryd.func22, Tryd.ntmps22
  go_wp2_with fail
  clear k0
  go_loopw [5, 6] (fun u i wr => ∃ (j : Nat) (E : List FV) (oa : Option Addr) (om oc : Nat), j ≤ Y.length ∧ i = .int .i64 j ∧ u = .slice oa om oc ∧ Hid (CrK T w p fs N Y n st vn (.slice ay Y.length cy) (.cells #[.int .i64 7, .string ⟨s.toArray⟩, .string ⟨t.toArray⟩, .slice a m c, .int .i64 k] 36) (crN fs.length (Y.take j)) E (.slice oa om oc) wr ∧ E.map (·.2) = (Y.take j).map (crB k fs))) (fun _ i _ => Y.length - (RowKit.intOf i).toNat)
  case atStart => exact ⟨0, [], none, 0, 0, Nat.zero_le _, rfl, rfl, HI0.out, by simp⟩
  case round =>
    clear HI0
    obtain ⟨j, E, oa, om, oc, hj, rfl, rfl, HIC⟩ := hrel
    have HI : Hid (_) := HIC.out.1
    have HCU : Hid (_ = _) := HIC.out.2
    clear HIC
    obtain ⟨vf, hbx, R1, t1⟩ := HI.out.box
    obtain ⟨af, cf, rfl⟩ := rowF_form R1
    have p2 : wr.cell? ⟨p, 2, none⟩ = some (.slice ay Y.length cy) := Lib.cell_of_heap hbx 2
    by_cases hlt : j < Y.length
    · obtain ⟨⟨yn, yi⟩, hq⟩ : ∃ q, Y[j]? = some q := ⟨_, List.getElem?_eq_getElem hlt⟩
      have hyi : yi < fs.length := HV.out.2.2.2.1 _ (List.mem_of_getElem? hq)
      obtain ⟨⟨vi, bi, si⟩, hgi⟩ : ∃ q, fs[yi]? = some q := ⟨_, List.getElem?_eq_getElem hyi⟩
      have hgi2 : (fs ++ E)[yi]? = some (vi, bi, si) := by rw [List.getElem?_append_left hyi]; exact hgi
      obtain ⟨by_, rfl, y0, y1⟩ := rowN_get HI.out.ry hq
      obtain ⟨bf, rfl, d0, d1⟩ := rowF_get R1 hgi2
      have hfi := HI.out.fi _ (List.mem_of_getElem? hgi2)
      obtain ⟨ai, ci, e5⟩ : ∃ a c, vi = .slice a bi.length c := row_form hfi.1
      subst e5
      obtain ⟨cf1, hcf⟩ := own_block R1 (b := bf) rfl
      obtain ⟨cy1, hcy⟩ := own_block HI.out.ry (b := by_) rfl
      have HCL : Hid (∀ W, Below wr.heap.size wr W → W.cell? ⟨p, 0, none⟩ = some (.slice (some ⟨bf, 0, none⟩) (fs ++ E).length cf) ∧ W.cell? ⟨p, 2, none⟩ = some (.slice (some ⟨by_, 0, none⟩) Y.length cy) ∧ W.cell? ⟨by_, j * 2 + 1, none⟩ = some (.int .i64 yi) ∧ (W.cell? ⟨bf, yi * 2, none⟩ = some (.slice ai bi.length ci) ∧ W.cell? ⟨bf, yi * 2 + 1, none⟩ = some (.int .i64 si))) := fun W hW => by
        have bx := (hW.block p (lt_of_heap hbx)).trans hbx
        exact ⟨Lib.cell_of_heap bx 0, Lib.cell_of_heap bx 2, (World.cell?_of_block (w := wr) (hW.block by_ (lt_of_heap hcy))).trans y1, (World.cell?_of_block (w := wr) (hW.block bf (lt_of_heap hcf))).trans d0, (World.cell?_of_block (w := wr) (hW.block bf (lt_of_heap hcf))).trans d1⟩
      have g1 : (j : Int) < (Y.length : Int) := by omega
      have g2 : (j : Int) < 1000 := by have := HB.out.1; omega
      have g3 : (yi : Int) < ((fs ++ E).length : Int) := by rw [List.length_append]; omega
      have HJ : Hid (j < Y.length ∧ Y[j]? = some (yn, yi) ∧ fs[yi]? = some (.slice ai bi.length ci, bi, si) ∧ Row 0 (.slice ai bi.length ci) bi wr ∧ bi.length ≤ 60000 ∧ si ≤ bi.length) := ⟨hlt, hq, hgi, hfi.1, hfi.2.1, hfi.2.2.1⟩
      clear hj hlt hq hgi hgi2 hyi y0 y1 d0 d1 hfi hcf hcy hbx R1 t1
      generalize (fs ++ E).length = L at *
      go_upto_region 7 with fail
      refine wp_region_noPanic ?_
      refine early_begin (S := fun W => Below wr.heap.size wr W) (late := fun k => decide (15 ≤ k)) (by kernel_rfl) ?_
      have hHeld : Below wr.heap.size wr wr.drew := (Below.refl _ _).drew
      refine ek 0 rfl ?_ (by intro wz hSw; obtain ⟨z0, z1, z2, z3, z4⟩ := HCL.out wz hSw; go_simp; try with_reducible rfl)
      refine ek 1 rfl ?_ (by intro wz hSw; obtain ⟨z0, z1, z2, z3, z4⟩ := HCL.out wz hSw; go_simp; try with_reducible rfl)
      refine ek 2 rfl ?_ (by intro wz hSw; obtain ⟨z0, z1, z2, z3, z4⟩ := HCL.out wz hSw; go_simp; try with_reducible rfl)
      refine ek 3 rfl ?_ (by intro wz hSw; obtain ⟨z0, z1, z2, z3, z4⟩ := HCL.out wz hSw; go_simp; try with_reducible rfl)
      refine ek 4 rfl ?_ (by intro wz hSw; obtain ⟨z0, z1, z2, z3, z4⟩ := HCL.out wz hSw; go_simp; try with_reducible rfl)
      refine ek 5 rfl ?_ (by intro wz hSw; obtain ⟨z0, z1, z2, z3, z4⟩ := HCL.out wz hSw; go_simp; try with_reducible rfl)
      refine ek 6 rfl ?_ (by intro wz hSw; obtain ⟨z0, z1, z2, z3, z4⟩ := HCL.out wz hSw; go_simp; try with_reducible rfl)
      refine ek 7 rfl ?_ (by intro wz hSw; obtain ⟨z0, z1, z2, z3, z4⟩ := HCL.out wz hSw; go_simp; try with_reducible rfl)
      refine ek 8 rfl ?_ (by intro wz hSw; obtain ⟨z0, z1, z2, z3, z4⟩ := HCL.out wz hSw; go_simp; try with_reducible rfl)
      refine ek 9 rfl ?_ (by intro wz hSw; obtain ⟨z0, z1, z2, z3, z4⟩ := HCL.out wz hSw; go_simp; try with_reducible rfl)
      refine ek 10 rfl ?_ (by intro wz hSw; obtain ⟨z0, z1, z2, z3, z4⟩ := HCL.out wz hSw; go_simp; try with_reducible rfl)
      refine ek 11 rfl ?_ (by intro wz hSw; obtain ⟨z0, z1, z2, z3, z4⟩ := HCL.out wz hSw; go_simp; try with_reducible rfl)
      refine ek 12 rfl ?_ (by intro wz hSw; obtain ⟨z0, z1, z2, z3, z4⟩ := HCL.out wz hSw; go_simp; try with_reducible rfl)
      refine ek 13 rfl ?_ (by intro wz hSw; obtain ⟨z0, z1, z2, z3, z4⟩ := HCL.out wz hSw; go_simp; try with_reducible rfl)
      have bA : Below wr.heap.size wr (wr.drew.alloc (.cells #[.slice none 0 0, .int .i64 0] 74)) := hHeld.alloc hHeld.size _
      refine es 14 rfl (fun K hK => ?_)
      go_simp
      go_wp2_with fail
      refine hK.out _ _ (fun _ => bA) ?_
      clear hK K
      try simp only [Act.put, nm]
      refine es 15 rfl (fun K hK => ?_)
      go_simp
      go_wp2_with fail
      refine hK.out _ _ (fun h => absurd h (by decide)) ?_
      clear hK K
      try simp only [Act.put, nm]
      refine early_done (by kernel_rfl) ?_ _
      refine NoPanic.normal ?_
      go_upto_region 8 with fail
      have b1 : Below wr.heap.size wr (wr.alloc (.cells #[.slice ai bi.length ci, .int .i64 si] 74)).drew := ((Below.refl _ _).alloc (Nat.le_refl _) _).drew
      have HF1 : Hid ((wr.alloc (.cells #[.slice ai bi.length ci, .int .i64 si] 74)).drew.heap[wr.heap.size]? = some (.cells #[.slice ai bi.length ci, .int .i64 si] 74)) := (MapKept.heap_alloc wr _).1
      have HI1 : Hid (_) := HI.out.keep b1
      have HR1 : Hid (Row 0 (.slice ai bi.length ci) bi _) := own_below HJ.out.2.2.2.1 b1 (Nat.le_refl _)
      obtain ⟨D, hD⟩ : ∃ D, min (max k 0).toNat (bi.length - si) = D := ⟨_, rfl⟩
      have HD : Hid (D = min (max k 0).toNat (bi.length - si)) := hD.symm
      have HSZ : Hid (w.heap.size ≤ wr.heap.size) := HI.out.kp.size
      clear hHeld bA b1 HCL HI hD p2
      generalize (wr.alloc (.cells #[.slice ai bi.length ci, .int .i64 si] 74)).drew = w1 at *
      have k4 : w1.cell? ⟨w.heap.size, 4, none⟩ = some (.int .i64 k) := Lib.cell_of_heap HI1.out.wb 4
      have d0 : w1.cell? ⟨wr.heap.size, 0, none⟩ = some (.slice ai bi.length ci) := Lib.cell_of_heap HF1.out 0
      have d1 : w1.cell? ⟨wr.heap.size, 1, none⟩ = some (.int .i64 si) := Lib.cell_of_heap HF1.out 1
      go_upto_block 3 with fail
      go_cut [8, 9] from 46 to 60 (fun u i wx => u = .int .i64 ((si + D : Nat) : Int) ∧ w1 = wx)
      case first =>
        go_wp2_with fail
        go_loopw [8, 9] (fun u i wx => ∃ x : Nat, x ≤ D ∧ u = .int .i64 ((si + x : Nat) : Int) ∧ i = .int .i64 x ∧ wx = w1) (fun _ i _ => D - (RowKit.intOf i).toNat)
        case atStart => exact ⟨0, Nat.zero_le _, by simp, rfl, rfl⟩
        case round =>
          obtain ⟨x, hx, rfl, rfl, hw⟩ := hrel
          replace hw := hw.symm
          subst hw
          by_cases hxD : x < D
          · have e1 : (x : Int) < k := by have := HD.out; omega
            have e2 : ((si + x : Nat) : Int) < (bi.length : Int) := by have := HD.out; omega
            have e3 : (x : Int) < 60000 := by have := HD.out; have := HJ.out.2.2.2.2.1; omega
            have e4 : ((si + x : Nat) : Int) < 60000 := by have := HJ.out.2.2.2.2.1; omega
            have HX : Hid (x < D) := hxD
            clear hxD hx
            generalize hsx : si + x = sx at *
            have HSX : Hid (si + x = sx) := hsx
            clear hsx
            go_wp2
            go_roundw
            case rel => exact ⟨x + 1, HX.out, by rw [← Nat.add_assoc, HSX.out]; go_num, by go_num, by first | rfl | trivial⟩
            case measure => have := HX.out; simp [RowKit.intOf]; omega
          · have hxe : x = D := by omega
            subst hxe
            by_cases e1 : (x : Int) < k
            · have e2 : ¬ ((si + x : Nat) : Int) < (bi.length : Int) := by have := HD.out; omega
              clear hx hxD
              go_wp2_with fail
              go_meet
              case rel => exact ⟨rfl, rfl⟩
            · clear hx hxD
              go_wp2_with fail
              go_meet
              case rel => exact ⟨rfl, rfl⟩
      case rest =>
        obtain ⟨rfl, rfl⟩ := hcut
        have HN2 : Hid (si + D = lftV k (.slice ai bi.length ci, bi, si) ∧ si + D ≤ bi.length) := by
          refine ⟨?_, by have := HD.out; have := HJ.out.2.2.2.2.2; omega⟩
          unfold lftV; dsimp only; rw [← HD.out]
        generalize si + D = M at *
        clear d1 k4 HD
        obtain ⟨cap, hcap⟩ : ∃ cc, ci = cc := ⟨_, rfl⟩
        clear hcap cap
        go_upto_region 14 with fail
        go_cut [8, 10] from 61 to 66 (fun n9 u wx => n9 = .int .i64 (M : Int) ∧ ∃ (a4 : Option Addr) (c4 : Nat), u = .slice a4 M c4 ∧ Hid (Row 0 (.slice a4 M c4) (bi.take M) wx ∧ Below w1.heap.size w1 wx ∧ ∀ b, (Value.slice a4 M c4).ownBlock = some b → w1.heap.size ≤ b))
        case first =>
          have hM : M ≤ bi.length := HN2.out.2
          have key : ∀ u', ArgB w1 u' (bi.take M) → ∃ a4 c4 w4, (Builtin.append_ #[23, 23] 23 #[.slice none 0 0, u']).run Tryd.prog w1 = .ok (.slice a4 M c4) w4 ∧ Hid (Row 0 (.slice a4 M c4) (bi.take M) w4 ∧ Below w1.heap.size w1 w4 ∧ ∀ b, (Value.slice a4 M c4).ownBlock = some b → w1.heap.size ≤ b) := fun u' hu' => by
            obtain ⟨v4, w4, q1, q2, q3, q4⟩ := run_appB 23 w1 (.slice none 0 0) u' [] (bi.take M) (World.ownsRow_nil _ _ _ _) hu'.1 hu'.2 (by rw [List.length_take]; have := HJ.out.2.2.2.2.1; simp; omega)
            rw [List.nil_append] at q2
            obtain ⟨a4, c4, e4⟩ := row_form q2
            rw [List.length_take, Nat.min_eq_left hM] at e4
            subst e4
            refine ⟨a4, c4, w4, q1, q2, ⟨q3.os, q3.tape, q3.output, q3.size, fun z hz => q3.block z hz (by simp [Value.ownBlock])⟩, fun b e => ?_⟩
            rcases q4 with h | h
            · rw [e] at h; cases h
            · rw [e] at h; rw [Option.some.inj h]; exact Nat.le_refl _
          rcases take_arg HR1.out HJ.out.2.2.2.2.1 M hM with ⟨ev, el⟩ | ⟨b9, c9, ev, hc9, hA⟩
          · obtain ⟨rfl, hz, rfl⟩ := Value.slice.inj ev
            have hM0 : M = 0 := by omega
            obtain ⟨a4, c4, w4, q1, q2⟩ := key (.slice none 0 0) (by rw [el, List.take_nil]; exact ⟨isBytes_nil _ _ _, Or.inl rfl⟩)
            rw [hz] at d0
            subst hM0
            clear key ev hz el hM
            go_wp2_with (at_builtin; refine app_known rfl _ _ 23 rfl _ _ _ rfl rfl q1 ?_)
            go_meet
            case rel => exact ⟨by first | rfl | simp, a4, c4, by first | rfl | simp, q2⟩
          · obtain ⟨rfl, -, rfl⟩ := Value.slice.inj ev
            obtain ⟨a4, c4, w4, q1, q2⟩ := key _ hA
            have g8 : (M : Int) ≤ (ci : Int) := by omega
            clear key hA ev hc9
            go_wp2_with (at_builtin; refine app_known rfl _ _ 23 rfl _ _ _ rfl rfl q1 ?_)
            go_meet
            case rel => exact ⟨by first | rfl | simp, a4, c4, by first | rfl | simp, q2⟩
        case rest =>
          obtain ⟨rfl, a4, c4, rfl, H4⟩ := hcut
          have b4 := H4.out.2.1
          have HI4 : Hid (_) := HI1.out.keep b4
          obtain ⟨vf, hbx, R1, t1⟩ := HI4.out.box
          obtain ⟨af, cf2, rfl⟩ := rowF_form R1
          have hEj : E.length = j := cut_len HCU.out (Nat.le_of_lt HJ.out.1)
          have hsz0 : w.heap.size ≤ wr.heap.size ∧ wr.heap.size ≤ w1.heap.size := ⟨HSZ.out, by have := lt_of_heap HF1.out; omega⟩
          have p0 : wc.cell? ⟨p, 0, none⟩ = some (.slice af (fs ++ E).length cf2) := Lib.cell_of_heap hbx 0
          have ba : Below wc.heap.size wc (wc.alloc (.cells #[.slice a4 M c4, .int .i64 M] 74)) := (Below.refl _ _).alloc (Nat.le_refl _) _
          obtain ⟨v5, w5, q1, q2, q3, q4⟩ := run_appF 27 _ (.slice af (fs ++ E).length cf2) (.slice a4 M c4, bi.take M, M) rfl (fs ++ E) (own_below R1 ba (Nat.le_refl _)) (by rw [List.length_append]; have := HB.out; have := HJ.out.1; omega) wc.heap.size (MapKept.heap_alloc wc (.cells #[.slice a4 M c4, .int .i64 M] 74)).1
          rw [List.append_assoc] at q2
          obtain ⟨bx5, HI6'⟩ := HI4.out.file rfl HTT.out hbx R1 t1 HV.out.2.2.1 q2 q3 q4 ⟨H4.out.1, by dsimp only; rw [List.length_take]; have := HJ.out.2.2.2.2.1; omega, by dsimp only; rw [List.length_take]; have := HN2.out.2; omega, fun b e => HTT.out b (by have := H4.out.2.2 b e; omega)⟩
          obtain ⟨a5, c5, e5⟩ := rowF_form q2
          rw [show (fs ++ (E ++ [((.slice a4 M c4, bi.take M, M) : FV)])).length = fs.length + j + 1 by rw [List.length_append, List.length_append, hEj]; rfl] at e5
          subst e5
          have c0 : w5.cell? ⟨p, 0, none⟩ = some (.slice af (fs ++ E).length cf2) := Lib.cell_of_heap bx5 0
          have f0 : w5.frozen? ⟨p, 0, none⟩ = false := Lib.frozen_of_heap bx5 0
          have HI6 : Hid (_) := HI6'
          have HEJ : Hid (E.length = j) := hEj
          clear HI6' bx5 q2 q3 q4 R1 t1 hbx ba b4 H4 HI4 HI1 hEj HR1 d0 HF1 hsz0
          generalize (fs ++ E).length = LX at *
          go_wp2_with (at_builtin; refine app_known rfl _ _ 27 rfl _ _ _ rfl rfl q1 ?_)
          clear c0 f0 q1 p0
          generalize w5.setCell ⟨p, 0, none⟩ (.slice a5 (fs.length + j + 1) c5) = w6 at *
          obtain ⟨vf, hbx, R1, t1⟩ := HI6.out.box
          obtain ⟨ag, cg, rfl⟩ := rowF_form R1
          rw [show (fs ++ (E ++ [((.slice a4 M c4, bi.take M, M) : FV)])).length = fs.length + j + 1 by rw [List.length_append, List.length_append, HEJ.out]; rfl] at hbx
          obtain ⟨bz, ez, y0, y1⟩ := rowN_get HI6.out.ry HJ.out.2.1
          have ez' : by_ = bz := by injection ez with ez; injection ez
          subst ez'
          obtain ⟨cy1, hcy⟩ := own_block HI6.out.ry (b := by_) rfl
          have HCL : Hid (∀ W, Below w6.heap.size w6 W → W.cell? ⟨p, 0, none⟩ = some (.slice ag (fs.length + j + 1) cg) ∧ W.cell? ⟨p, 2, none⟩ = some (.slice (some ⟨by_, 0, none⟩) Y.length cy) ∧ W.cell? ⟨by_, j * 2, none⟩ = some (.string ⟨yn.toArray⟩)) := fun W hW => by
            have bx := (hW.block p (lt_of_heap hbx)).trans hbx
            exact ⟨Lib.cell_of_heap bx 0, Lib.cell_of_heap bx 2, (World.cell?_of_block (w := w6) (hW.block by_ (lt_of_heap hcy))).trans y0⟩
          have hHeld : Below w6.heap.size w6 w6.drew := (Below.refl _ _).drew
          have HI7 := HI6.out.keep hHeld
          have ba : Below w6.drew.heap.size w6.drew (w6.drew.alloc (.cells #[.string ⟨yn.toArray⟩, .int .i64 ((fs.length + j : Nat) : Int)] 64)) := (Below.refl _ _).alloc (Nat.le_refl _) _
          obtain ⟨v8, w8, q1, q2, q3, q4⟩ := run_appN 28 _ (.slice oa om oc) yn (fs.length + j) _ (own_below HI7.nam ba (Nat.le_refl _)) (by rw [crN_len, List.length_take]; have := HB.out.1; omega) w6.drew.heap.size (MapKept.heap_alloc w6.drew (.cells #[.string ⟨yn.toArray⟩, .int .i64 ((fs.length + j : Nat) : Int)] 64)).1
          obtain ⟨bx8, hI8⟩ := HI7.name rfl HTT.out ⟨fun b e => (HV.out.1 b e).2, fun b e => (HV.out.2.1 b e).2⟩ q2 q3 q4
          have HI8 : Hid (_) := hI8
          obtain ⟨a8, c8, e8⟩ := rowN_form q2
          obtain ⟨m8, hm8⟩ : ∃ m8, (crN fs.length (Y.take j) ++ [(yn, fs.length + j)]).length = m8 := ⟨_, rfl⟩
          rw [hm8] at e8
          subst e8
          have HNX : Hid (crN fs.length (Y.take j) ++ [(yn, fs.length + j)] = crN fs.length (Y.take (j + 1))) := by
            show _ = _
            rw [take_get HJ.out.2.1, crN_snoc, List.length_take, Nat.min_eq_left (Nat.le_of_lt HJ.out.1)]
          have HCX : Hid ((E ++ [((.slice a4 M c4, bi.take M, M) : FV)]).map (·.2) = (Y.take (j + 1)).map (crB k fs)) := by
            show _ = _
            rw [take_get HJ.out.2.1, List.map_append, List.map_append, HCU.out, List.map_singleton, List.map_singleton, crB_of HJ.out.2.2.1, ← HN2.out.1]
          have HS8 : Hid (w8.cell? ⟨p, 0, none⟩ = some (.slice ag (fs.length + j + 1) cg) ∧ w8.cell? ⟨p, 2, none⟩ = some (.slice (some ⟨by_, 0, none⟩) Y.length cy) ∧ w8.cell? ⟨by_, j * 2, none⟩ = some (.string ⟨yn.toArray⟩)) := by
            have b8 : w8.heap[p]? = _ := bx8.trans ((hHeld.block p (lt_of_heap hbx)).trans hbx)
            obtain ⟨b9, ez9, y9, -⟩ := rowN_get HI8.out.ry HJ.out.2.1
            have e9 : by_ = b9 := by injection ez9 with ez9; injection ez9
            subst e9
            exact ⟨Lib.cell_of_heap b8 0, Lib.cell_of_heap b8 2, y9⟩
          have bA : Below w6.heap.size w6 (w6.drew.alloc (.cells #[.string ⟨yn.toArray⟩, .int .i64 ((fs.length + j : Nat) : Int)] 64)) := hHeld.trans ba
          have g6 : ((fs.length + j : Nat) : Int) < 1000000 := by have := HB.out; have := HJ.out.1; omega
          clear HI7 ba q2 q3 q4 R1 t1 hbx y0 y1 hcy hm8 ez hI8 bx8
          generalize fs.length + j = LL at *
          have hwr : IntKind.i64.wrap (LL : Int) = (LL : Int) := IntWalk.i64_in _ (by omega)
          refine wp_region_noPanic ?_
          refine wp_region_held_drew (S := fun W => W.cell? ⟨p, 0, none⟩ = some (.slice ag (LL + 1) cg) ∧ W.cell? ⟨p, 2, none⟩ = some (.slice (some ⟨by_, 0, none⟩) Y.length cy) ∧ W.cell? ⟨by_, j * 2, none⟩ = some (.string ⟨yn.toArray⟩)) (by kernel_rfl) (HCL.out _ hHeld) (fun hH0 => ?_)
          refine tk 0 rfl ?_ (by intro wz hSw; obtain ⟨z0, z1, z2⟩ := hSw; go_simp; try with_reducible rfl)
          refine tk 1 rfl ?_ (by intro wz hSw; obtain ⟨z0, z1, z2⟩ := hSw; go_simp; try with_reducible rfl)
          refine tk 2 rfl ?_ (by intro wz hSw; obtain ⟨z0, z1, z2⟩ := hSw; go_simp; try with_reducible rfl)
          refine tk 3 rfl ?_ (by intro wz hSw; obtain ⟨z0, z1, z2⟩ := hSw; go_simp; try with_reducible rfl)
          refine tk 4 rfl ?_ (by intro wz hSw; obtain ⟨z0, z1, z2⟩ := hSw; go_simp; try with_reducible rfl)
          refine tk 5 rfl ?_ (by intro wz hSw; obtain ⟨z0, z1, z2⟩ := hSw; go_simp; try with_reducible rfl)
          refine tk 6 rfl ?_ (by intro wz hSw; obtain ⟨z0, z1, z2⟩ := hSw; go_simp; try with_reducible rfl)
          refine tk 7 rfl ?_ (by intro wz hSw; obtain ⟨z0, z1, z2⟩ := hSw; go_simp; try with_reducible rfl)
          refine tk 8 rfl ?_ (by intro wz hSw; obtain ⟨z0, z1, z2⟩ := hSw; go_simp; try with_reducible rfl)
          refine tk 9 rfl ?_ (by intro wz hSw; obtain ⟨z0, z1, z2⟩ := hSw; go_simp; try with_reducible rfl)
          refine tk 10 rfl ?_ (by intro wz hSw; obtain ⟨z0, z1, z2⟩ := hSw; go_simp; try with_reducible rfl)
          refine tk 11 rfl ?_ (by intro wz hSw; obtain ⟨z0, z1, z2⟩ := hSw; go_simp; try with_reducible rfl)
          refine tk 12 rfl ?_ (by intro wz hSw; obtain ⟨z0, z1, z2⟩ := hSw; go_simp; try with_reducible rfl)
          refine tk 13 rfl ?_ (by intro wz hSw; obtain ⟨z0, z1, z2⟩ := hSw; go_simp; try with_reducible rfl)
          refine tk 14 rfl ?_ (by intro wz hSw; obtain ⟨z0, z1, z2⟩ := hSw; go_simp; try with_reducible rfl)
          refine tk 15 rfl ?_ (by intro wz hSw; obtain ⟨z0, z1, z2⟩ := hSw; go_simp; try with_reducible rfl)
          refine ts 16 rfl (fun K hK => ?_)
          go_simp
          go_wp2_with fail
          refine hK.out _ _ (HCL.out _ bA) (fun hH1 => ?_)
          clear hK K
          try simp only [Act.put, nm]
          refine ts 17 rfl (fun K hK => ?_)
          refine step_append_known rfl (.tmp 79) (.tmp 95) 28 rfl _ _ _ w8 (by simp [Act.eval]) (by simp [Act.eval]) q1 ?_
          refine hK.out _ _ HS8.out (fun hH2 => ?_)
          clear hK K
          try simp only [Act.put, nm]
          refine tk 18 rfl ?_ (by intro wz hSw; obtain ⟨z0, z1, z2⟩ := hSw; go_simp; try with_reducible rfl)
          refine wpAnyH_done (by kernel_rfl) ?_ _
          refine NoPanic.normal ?_
          clear hH0 hH1 hH2 HS8
          clear HCL hHeld bA q1
          go_wp2
          go_roundw
          case rel => exact ⟨j + 1, _, a8, m8, c8, HJ.out.1, by go_num, rfl, by rw [← HNX.out]; exact HI8.out, HCX.out⟩
          case measure => have := HJ.out.1; simp [RowKit.intOf]; omega
    · have hje : j = Y.length := by omega
      subst hje
      have hcu : E.map (·.2) = Y.map (crB k fs) := by have := HCU.out; rwa [List.take_length] at this
      have HI9 := HI.out
      rw [List.take_length] at HI9
      have hEl : E.length = Y.length := by have := congrArg List.length hcu; simpa using this
      obtain ⟨hkp, hrk⟩ := HI9.fin hbx R1 t1 HV.out.2.2.1 HTT.out (crN_lt (by rw [List.length_append, hEl]; exact Nat.le_refl _))
      have HEND : Hid (post (.returned (.int .i64 0)) (fin7 wr p (.slice oa om oc))) := by
        rw [HPO.out]
        exact ⟨E, hcu, rfl, hkp, hrk⟩
      obtain ⟨b1, b2, b3, -⟩ := fin7_box (v := .slice oa om oc) hbx
      obtain ⟨an9, cn9, e9⟩ := rowN_form HI9.rn
      subst e9
      have y1 : wr.cell? ⟨p, 1, none⟩ = some (.slice an9 N.length cn9) := Lib.cell_of_heap hbx 1
      have z1 : wr.frozen? ⟨p, 1, none⟩ = false := Lib.frozen_of_heap hbx 1
      have y2 : (wr.setCell ⟨p, 1, none⟩ (.slice oa om oc)).cell? ⟨p, 2, none⟩ = some (.slice ay Y.length cy) := Lib.cell_of_heap b1 2
      have z2 : (wr.setCell ⟨p, 1, none⟩ (.slice oa om oc)).frozen? ⟨p, 2, none⟩ = false := Lib.frozen_of_heap b1 2
      have y3 : ((wr.setCell ⟨p, 1, none⟩ (.slice oa om oc)).setCell ⟨p, 2, none⟩ (.slice oa om oc)).cell? ⟨p, 3, none⟩ = some (.int .i64 n) := Lib.cell_of_heap b2 3
      have z3 : ((wr.setCell ⟨p, 1, none⟩ (.slice oa om oc)).setCell ⟨p, 2, none⟩ (.slice oa om oc)).frozen? ⟨p, 3, none⟩ = false := Lib.frozen_of_heap b2 3
      have y4 : (((wr.setCell ⟨p, 1, none⟩ (.slice oa om oc)).setCell ⟨p, 2, none⟩ (.slice oa om oc)).setCell ⟨p, 3, none⟩ (.int .i64 0)).cell? ⟨p, 4, none⟩ = some (.int .i64 st) := Lib.cell_of_heap b3 4
      have z4 : (((wr.setCell ⟨p, 1, none⟩ (.slice oa om oc)).setCell ⟨p, 2, none⟩ (.slice oa om oc)).setCell ⟨p, 3, none⟩ (.int .i64 0)).frozen? ⟨p, 4, none⟩ = false := Lib.frozen_of_heap b3 4
      unfold fin7 at HEND
      clear hcu HI9 hEl hkp hrk b1 b2 b3 hbx R1 t1 hj hlt HCU HI
      go_wp2
      exact HEND.out
end Go.Proofs.YtcdpcjafomfddaaDoor
