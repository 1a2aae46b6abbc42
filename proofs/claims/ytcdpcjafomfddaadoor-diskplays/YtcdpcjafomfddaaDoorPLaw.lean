/-
  What is proved: the law DiskPlays of booklaw3, called with any lists of numbers and any bytes, returns true, and nothing that was there has turned.
  Conditions: the lists lie in memory; the package variable errorType of package errors lies as the text lays it.
-/
import Derived.Test.YtcdpcjafomfddaaDoorPLaw0
import Derived.Test.YtcdpcjafomfddaaDoorPOpen
import Derived.Test.YtcdpcjafomfddaaDoorHK
import Derived.Test.YtcdpcjafomfddaaDoorEK
import Derived.Deep.CutBlock
import Derived.Deep.CutRange
import Derived.Deep.LoopGhost
namespace Go.Proofs.YtcdpcjafomfddaaDoor
open Go.RowKit Go.Maps Go.Sort Go.Shelf

/-- Four numbers in a box. -/
def Four (wr : World) (vb : Nat) (wx : World) : Prop := ∃ a0 a1 a2 a3 : Int, wx.heap[vb]? = some (.cells #[.int .i64 a0, .int .i64 a1, .int .i64 a2, .int .i64 a3] 31) ∧ I64 a0 ∧ I64 a1 ∧ I64 a2 ∧ I64 a3 ∧ Below vb wr wx

theorem i64_0 : I64 0 := by unfold I64; omega
theorem four_new (wr : World) : Four wr wr.heap.size (wr.alloc (.cells #[.int .i64 0, .int .i64 0, .int .i64 0, .int .i64 0] 31)) :=
  ⟨0, 0, 0, 0, (MapKept.heap_alloc _ _).1, i64_0, i64_0, i64_0, i64_0, (Below.refl _ _).alloc (Nat.le_refl _) _⟩
theorem fileT_64 (n : Int) : T64 (fileT n) := by have := fileT_short n; unfold T64 maxLen; omega
theorem bt_up {lo p k m : Nat} {w : World} (h : Bt lo w p k m) : Bt lo w p k (m + 1) := by
  obtain ⟨n, st2, D, N, Y, T, h1, h2, h3, h4, h5⟩ := h
  exact ⟨n, st2, D, N, Y, T, h1, h2, h3, h4, h5.up⟩
theorem four_set {wr wx : World} {vb : Nat} (h : Four wr vb wx) {q : Nat} (hq : q < 4) {x : Int} (hx : I64 x) : Four wr vb (wx.setCell ⟨vb, q, none⟩ (.int .i64 x)) := by
  obtain ⟨a0, a1, a2, a3, h1, h2, h3, h4, h5, h6⟩ := h
  have hs := heap_setCell_same wx vb q _ _ (.int .i64 x) h1
  have hb : Below vb wr (wx.setCell ⟨vb, q, none⟩ (.int .i64 x)) := h6.setCell (Nat.le_refl _) _
  have : q = 0 ∨ q = 1 ∨ q = 2 ∨ q = 3 := by omega
  rcases this with rfl | rfl | rfl | rfl
  · exact ⟨x, a1, a2, a3, hs, hx, h3, h4, h5, hb⟩
  · exact ⟨a0, x, a2, a3, hs, h2, hx, h4, h5, hb⟩
  · exact ⟨a0, a1, x, a3, hs, h2, h3, hx, h5, hb⟩
  · exact ⟨a0, a1, a2, x, hs, h2, h3, h4, hx, hb⟩

set_option maxRecDepth 100000 in
set_option maxHeartbeats 40000000 in
theorem plays_any (v : Value) (ua : Option Addr) (uc : Nat) (ls : List (List Int)) (bl : Tx) (w : World) (hv : IsRows w v ls) (hu : ArgB w (.slice ua bl.length uc) bl) (hE : Et w) :
    Calls Tryd.prog 3 #[v, .slice ua bl.length uc] w fun e w' => e = .returned (.bool true) ∧ Below w.heap.size w w' := by
  obtain ⟨a0, cap0, rfl, hc1, hc2, h3⟩ := hv
  have H3 : Hid (ls ≠ [] → ∃ b off, a0 = some ⟨b, off, none⟩ ∧ b < w.heap.size ∧ ∀ i (h : i < ls.length), ∃ u, w.cell? ⟨b, off + i, none⟩ = some u ∧ IsInts w u ls[i]) := h3
  have HET : Hid (Et w) := hE
  have HC : Hid (ls.length ≤ cap0 ∧ ls.length ≤ 17592186044416) := ⟨hc1, hc2⟩
  have h0 : 0 < w.heap.size := hE.pos
  have hua : bl ≠ [] → ∀ b o, ua = some ⟨b, o, none⟩ → b < w.heap.size := fun hl b o e => by
    obtain ⟨⟨a, cap, e2, _, _, h4⟩, _⟩ := hu
    obtain ⟨b', off, e3, h5, _⟩ := h4 hl
    have e4 := (Value.slice.inj e2).1
    rw [e, e3] at e4
    have : b = b' := by injection e4 with e4; injection e4
    omega
  have HU : Hid (ArgB w (.slice ua bl.length uc) bl ∧ (bl ≠ [] → ∀ b o, ua = some ⟨b, o, none⟩ → b < w.heap.size) ∧ 0 < w.heap.size) := ⟨hu, hua, h0⟩
  obtain ⟨post, hpost⟩ : ∃ post : Ending → World → Prop, post = fun e w' => e = .returned (.bool true) ∧ Below w.heap.size w w' := ⟨_, rfl⟩
  have HPO : Hid (post = fun e w' => e = .returned (.bool true) ∧ Below w.heap.size w w') := hpost
  rw [← hpost]
  clear h3 hE hc1 hc2 hu hua h0 hpost
  generalize bl.length = ul at *
  go_enter Tryd.func3, Tryd.ntmps3
  go_wp2_with fail
  go_fit (new_any (fun b => w.heap.size ≤ b) w (fun _ h => h))
  rintro e w1 ⟨p, fb, sb, rfl, hd, hb1⟩
  have HB0 : Hid (Bt w.heap.size (w1.alloc (.cells #[.slice none 0 0, .slice none 0 0, .slice none 0 0, .int .i64 0, .int .i64 (-1)] 30)) p w1.heap.size 0) := bt_start hd hb1
  have HB1 : Hid (Below w.heap.size w w1) := hb1
  clear hd hb1
  unfold ptrV
  go_upto_region 3 with fail
  have HB2 : Hid (Below w.heap.size w (w1.alloc (.cells #[.slice none 0 0, .slice none 0 0, .slice none 0 0, .int .i64 0, .int .i64 (-1)] 30))) := HB1.out.alloc HB1.out.size _
  clear HB1
  generalize w1.alloc (.cells #[.slice none 0 0, .slice none 0 0, .slice none 0 0, .int .i64 0, .int .i64 (-1)] 30) = W1 at *
  generalize w1.heap.size = k at *
  go_wp2_with fail
  go_loopw [7] (fun i wr => ∃ m : Nat, m ≤ ls.length ∧ m ≤ 80 ∧ i = .int .i64 (m : Int) ∧ Hid (Bt w.heap.size wr p k m ∧ Below w.heap.size w wr)) (fun i _ => 80 - (RowKit.intOf i).toNat)
  case atStart => exact ⟨0, Nat.zero_le _, by omega, rfl, HB0.out, HB2.out⟩
  case round =>
    obtain ⟨wo, hwo⟩ : ∃ x : World, x = wr := ⟨wr, rfl⟩
    subst hwo
    obtain ⟨m, hml, hm80, rfl, HI⟩ := hrel
    by_cases hlt : m < ls.length
    · by_cases h80 : m < 80
      · obtain ⟨b, off, rfl, h4, h5⟩ := H3.out (fun e => by rw [e] at hlt; simp at hlt)
        obtain ⟨sv, hsc, hsv⟩ := h5 m hlt
        obtain ⟨l, hl⟩ : ∃ l : List Int, ls[m] = l := ⟨_, rfl⟩
        rw [hl] at hsv
        obtain ⟨sa, sc, rfl, hl1, hl2, hlr, hl3⟩ := hsv
        have c0 : wo.cell? ⟨b, off + m, none⟩ = some (.slice sa l.length sc) := by rw [HI.out.2.cell (p := ⟨b, off + m, none⟩) h4]; exact hsc
        have HBW : Hid (b < w.heap.size ∧ w.heap.size ≤ wo.heap.size) := ⟨h4, HI.out.2.size⟩
        have HL : Hid ((∀ x ∈ l, I64 x) ∧ l.length ≤ 17592186044416 ∧ (l ≠ [] → ∃ b off, sa = some ⟨b, off, none⟩ ∧ b < w.heap.size ∧ ∀ i (h : i < l.length), w.cell? ⟨b, off + i, none⟩ = some (.int .i64 l[i]))) := ⟨hlr, hl2, hl3⟩
        have HC0 : Hid (wo.cell? ⟨b, off + m, none⟩ = some (.slice sa l.length sc)) := c0
        have g1 : (m : Int) < ls.length := by omega
        have g2 : (m : Int) < 80 := by omega
        have HM : Hid (m < ls.length ∧ m < 80) := ⟨hlt, h80⟩
        clear hlt h80 h5 hl hsc hl1 hl2 hlr hl3 hml hm80 h4
        go_upto_block 2 with fail
        go_cut [9] from 34 to 55 (fun _ wx => Hid (Four wo wo.heap.size wx))
        case first =>
          go_wp2_with fail
          go_loopw [9] (fun j wx => ∃ q : Nat, q ≤ 4 ∧ q ≤ l.length ∧ j = .int .i64 (q : Int) ∧ Hid (Four wo wo.heap.size wx)) (fun j _ => 4 - (RowKit.intOf j).toNat)
          case atStart => exact ⟨0, by omega, Nat.zero_le _, rfl, four_new wo⟩
          case round =>
            obtain ⟨q, hq4, hql, rfl, HQ⟩ := hrel
            have c1 : wr.cell? ⟨b, off + m, none⟩ = some (.slice sa l.length sc) := by
              obtain ⟨_, _, _, _, _, _, _, _, _, hbl⟩ := HQ.out
              rw [hbl.cell (p := ⟨b, off + m, none⟩) (Nat.lt_of_lt_of_le HBW.out.1 HBW.out.2)]
              exact HC0.out
            by_cases h1 : q < l.length
            · by_cases h2 : q < 4
              · obtain ⟨b2, off2, rfl, h6, h7⟩ := HL.out.2.2 (fun e => by rw [e] at h1; simp at h1)
                obtain ⟨x, hx⟩ : ∃ x : Int, l[q] = x := ⟨_, rfl⟩
                have hxi : I64 x := by rw [← hx]; exact HL.out.1 _ (List.getElem_mem h1)
                have x0 : wr.cell? ⟨b2, off2 + q, none⟩ = some (.int .i64 x) := by
                  obtain ⟨_, _, _, _, _, _, _, _, _, hbl⟩ := HQ.out
                  rw [hbl.cell (p := ⟨b2, off2 + q, none⟩) (Nat.lt_of_lt_of_le h6 HBW.out.2), HI.out.2.cell (p := ⟨b2, off2 + q, none⟩) h6, h7 q h1, hx]
                have HN : Hid (Four wo wo.heap.size (wr.setCell ⟨wo.heap.size, q, none⟩ (.int .i64 x))) := four_set HQ.out h2 hxi
                have HQ2 : Hid (q < 4 ∧ q < l.length) := ⟨h2, h1⟩
                have e1 : (q : Int) < 4 := by omega
                have e2 : (q : Int) < (l.length : Int) := by omega
                have hcv : ∃ u, wr.cell? ⟨wo.heap.size, q, none⟩ = some u ∧ wr.frozen? ⟨wo.heap.size, q, none⟩ = false := by
                  obtain ⟨a0, a1, a2, a3, hbx, _⟩ := HQ.out
                  have fz := Lib.frozen_of_heap hbx q
                  have : q = 0 ∨ q = 1 ∨ q = 2 ∨ q = 3 := by omega
                  rcases this with rfl | rfl | rfl | rfl
                  · exact ⟨_, Lib.cell_of_heap hbx 0, fz⟩
                  · exact ⟨_, Lib.cell_of_heap hbx 1, fz⟩
                  · exact ⟨_, Lib.cell_of_heap hbx 2, fz⟩
                  · exact ⟨_, Lib.cell_of_heap hbx 3, fz⟩
                obtain ⟨u, cu, fu⟩ := hcv
                clear h1 h2 h6 h7 hx hxi hq4 hql HQ
                go_wp2
                go_roundw
                case rel => exact ⟨q + 1, by have := HQ2.out; omega, by have := HQ2.out; omega, by go_num, HN.out⟩
                case measure => have := HQ2.out; simp [RowKit.intOf]; omega
              · have e1 : ¬ (q : Int) < 4 := by omega
                have e2 : (q : Int) < (l.length : Int) := by omega
                clear h1 h2 hq4 hql
                go_wp2
                go_meet
                case rel => exact HQ
            · have e2 : ¬ (q : Int) < (l.length : Int) := by omega
              clear h1 hq4 hql
              go_wp2
              go_meet
              case rel => exact HQ
        case rest =>
          obtain ⟨a0, a1, a2, a3, hbx, i0, i1, i2, i3, hbl⟩ := hcut.out
          have HBC : Hid (Bt w.heap.size wc p k m ∧ Below w.heap.size w wc) := ⟨HI.out.1.keep hbl, HI.out.2.trans (hbl.mono HBW.out.2)⟩
          have HB4 : Hid (Bt w.heap.size wo p k m ∧ Below wo.heap.size wo wc) := ⟨HI.out.1, hbl⟩
          have HI4 : Hid (I64 a0 ∧ I64 a1 ∧ I64 a2 ∧ I64 a3) := ⟨i0, i1, i2, i3⟩
          have v0 : wc.cell? ⟨wo.heap.size, 0, none⟩ = some (.int .i64 a0) := Lib.cell_of_heap hbx 0
          have v1 : wc.cell? ⟨wo.heap.size, 1, none⟩ = some (.int .i64 a1) := Lib.cell_of_heap hbx 1
          have v2 : wc.cell? ⟨wo.heap.size, 2, none⟩ = some (.int .i64 a2) := Lib.cell_of_heap hbx 2
          have v3 : wc.cell? ⟨wo.heap.size, 3, none⟩ = some (.int .i64 a3) := Lib.cell_of_heap hbx 3
          have HV : Hid (wo.heap.size < wc.heap.size) := lt_of_heap hbx
          clear i0 i1 i2 i3 hbl hbx hcut HI HC0 HBW HL c0
          obtain ⟨vb, hvb⟩ : ∃ x, wo.heap.size = x := ⟨_, rfl⟩
          have HVB : Hid (wo.heap.size = vb) := hvb
          rw [hvb] at v0 v1 v2 v3 HV ⊢
          clear hvb
          have HSK : Hid (∃ n : Nat, n ≤ ls.length ∧ n ≤ 80 ∧ Value.int IntKind.i64 ((m : Int) + 1) = .int .i64 (n : Int) ∧ Hid (Bt w.heap.size wc p k n ∧ Below w.heap.size w wc)) := ⟨m + 1, by have := HM.out; omega, by have := HM.out; omega, by go_num, bt_up HBC.out.1, HBC.out.2⟩
          by_cases e1 : a0 < 1
          · clear HSK
            go_wp2
            go_roundw
            case rel => exact ⟨m + 1, by have := HM.out; omega, by have := HM.out; omega, by go_num, bt_up HBC.out.1, HBC.out.2⟩
            case measure => have := HM.out; simp [RowKit.intOf]; omega
          · by_cases e2 : 8 < a0
            · clear HSK
              go_wp2
              go_roundw
              case rel => exact ⟨m + 1, by have := HM.out; omega, by have := HM.out; omega, by go_num, bt_up HBC.out.1, HBC.out.2⟩
              case measure => have := HM.out; simp [RowKit.intOf]; omega
            · clear HSK
              go_upto_region 12 with fail
              have HZ : Hid (1 ≤ a0 ∧ a0 ≤ 8) := ⟨by omega, by omega⟩
              have F1 := file_any a1
              have F2 := file_any a2
              have HDN : Hid (∀ W, Below wc.heap.size wc W → Calls Tryd.prog 5 #[.pointer (some ⟨p, 0, none⟩), .pointer (some ⟨k, 0, none⟩), .agg #[.int .i64 a0, .string ⟨(fileT a1).toArray⟩, .string ⟨(fileT a2).toArray⟩, .slice ua ul uc, .int .i64 a3]] W fun e w' => DoneP w.heap.size wo W p k m e w') := fun W h => by
                have hu := HU.out
                obtain ⟨a', cap', e', _⟩ := hu.1.1
                obtain ⟨_, hul, _⟩ := Value.slice.inj e'
                subst hul
                have hW : Below w.heap.size w W := HBC.out.2.trans (h.mono HBC.out.2.size)
                exact done_all a0 HZ.out (fileT a1) (fileT a2) ua uc bl a3 HI4.out.2.2.2 (fileT_64 a1) (fileT_64 a2) (by have := HM.out; omega) HB4.out.1 (HB4.out.2.trans (h.mono HB4.out.2.size)) (hu.1.below hW) hu.2.1 (et_lo HET.out hu.2.2 hW) hu.2.2
              generalize fileT a1 = s1 at *
              generalize fileT a2 = s2 at *
              clear e1 e2 g1 g2
              refine wp_region_noPanic ?_
              refine wp_region_held_drew (S := fun W => W.cell? ⟨vb, 0, none⟩ = some (.int .i64 a0) ∧ W.cell? ⟨vb, 1, none⟩ = some (.int .i64 a1) ∧ W.cell? ⟨vb, 2, none⟩ = some (.int .i64 a2) ∧ W.cell? ⟨vb, 3, none⟩ = some (.int .i64 a3)) (by kernel_rfl) (⟨v0, v1, v2, v3⟩) (fun hHeld => ?_)
              have hBd : Below wc.heap.size wc wc.drew := (Below.refl _ _).drew
              refine tk 0 rfl ?_ (by intro wz hSw; obtain ⟨z0, z1, z2, z3⟩ := hSw; go_simp; try with_reducible rfl)
              refine tk 1 rfl ?_ (by intro wz hSw; obtain ⟨z0, z1, z2, z3⟩ := hSw; go_simp; try with_reducible rfl)
              refine tk 2 rfl ?_ (by intro wz hSw; obtain ⟨z0, z1, z2, z3⟩ := hSw; go_simp; try with_reducible rfl)
              refine tk 3 rfl ?_ (by intro wz hSw; obtain ⟨z0, z1, z2, z3⟩ := hSw; go_simp; try with_reducible rfl)
              refine tk 4 rfl ?_ (by intro wz hSw; obtain ⟨z0, z1, z2, z3⟩ := hSw; go_simp; try with_reducible rfl)
              refine tk 5 rfl ?_ (by intro wz hSw; obtain ⟨z0, z1, z2, z3⟩ := hSw; go_simp; try with_reducible rfl)
              refine tk 7 rfl ?_ (by intro wz hSw; obtain ⟨z0, z1, z2, z3⟩ := hSw; go_simp; try with_reducible rfl)
              refine tk 8 rfl ?_ (by intro wz hSw; obtain ⟨z0, z1, z2, z3⟩ := hSw; go_simp; try with_reducible rfl)
              refine tk 10 rfl ?_ (by intro wz hSw; obtain ⟨z0, z1, z2, z3⟩ := hSw; go_simp; try with_reducible rfl)
              refine tk 11 rfl ?_ (by intro wz hSw; obtain ⟨z0, z1, z2, z3⟩ := hSw; go_simp; try with_reducible rfl)
              refine tk 12 rfl ?_ (by intro wz hSw; obtain ⟨z0, z1, z2, z3⟩ := hSw; go_simp; try with_reducible rfl)
              refine ts 6 rfl (fun K hK => ?_)
              go_simp
              go_at_call 6
              refine (F1 _).mono ?_
              rintro e w6 ⟨rfl, hw6⟩
              subst hw6
              go_wp2_with fail
              refine hK.out _ _ hHeld (fun hH6 => ?_)
              clear hK K
              try simp only [Act.put, nm]
              refine ts 9 rfl (fun K hK => ?_)
              go_simp
              go_at_call 6
              refine (F2 _).mono ?_
              rintro e w9 ⟨rfl, hw9⟩
              subst hw9
              go_wp2_with fail
              refine hK.out _ _ hHeld (fun hH9 => ?_)
              clear hK K
              try simp only [Act.put, nm]
              refine tk 13 rfl ?_
              refine ts 14 rfl (fun K hK => ?_)
              go_simp
              go_at_call 5
              refine (HDN.out _ hBd).mono ?_
              rintro e w3 ⟨rfl, hbt, hbl, hmid⟩
              go_wp2_with fail
              have hm3 : w3.heap[vb]? = wc.heap[vb]? := hmid vb (by rw [HVB.out]; exact Nat.le_refl _) HV.out
              refine hK.out _ _ (⟨(World.cell?_of_block hm3).trans v0, (World.cell?_of_block hm3).trans v1, (World.cell?_of_block hm3).trans v2, (World.cell?_of_block hm3).trans v3⟩) (fun hH14 => ?_)
              clear hK K
              try simp only [Act.put, nm]
              refine tk 15 rfl ?_
              refine wpAnyH_done (by kernel_rfl) ?_ _
              refine NoPanic.normal ?_
              have HB3 : Hid (Bt w.heap.size w3 p k (m + 1) ∧ Below w.heap.size w w3) := ⟨hbt, (HBC.out.2.trans (hBd.mono HBC.out.2.size)).trans hbl⟩
              clear hbt hbl hmid hm3 hHeld hH6 hH9 hH14 hBd HBC HB4 HDN F1 F2 v0 v1 v2 v3
              obtain ⟨L, n, hL, hNM⟩ := bt_names HB3.out.1 (by have := HM.out; omega)
              have HNM : Hid _ := hNM
              have HLL : Hid (L.length ≤ 1000) := hL
              clear hNM hL
              go_upto_region 13 with fail
              go_wp2_with (first
                | (go_at_call 7; refine (HNM.out _ (Below.refl _ _)).1.mono ?_; rintro e w4 ⟨ax, cx, rfl, h4⟩; have N4 := (HNM.out w4 h4.out.2).2.1)
                | (go_at_call 8; refine N4.mono ?_; rintro e w5 ⟨ay, cy, rfl, h5⟩; clear N4
                   have T5 := texts_any _ _ L w5 (h4.out.1.below h5.out.2) h5.out.1 HLL.out
                   have h5b : Hid (Below w3.heap.size w3 w5) := h4.out.2.trans (h5.out.2.mono h4.out.2.size)
                   clear h4 h5)
                | (go_at_call 9; refine T5.mono ?_; rintro e w6 ⟨rfl, h6⟩; clear T5
                   have h6b : Hid (Below w3.heap.size w3 w6) := h5b.out.trans (h6.mono h5b.out.size)
                   have S6 := (HNM.out w6 h6b.out).2.2.1
                   have k6 := (HNM.out w6 h6b.out).2.2.2
                   clear h6 h5b)
                | (go_at_call 10; refine S6.mono ?_; rintro e w7 ⟨rfl, hw7⟩; subst hw7; clear S6))
              clear HNM HLL
              have HB6 : Hid (Bt w.heap.size w7 p k (m + 1) ∧ Below w.heap.size w w7) := ⟨HB3.out.1.keep h6b.out, HB3.out.2.trans (h6b.out.mono HB3.out.2.size)⟩
              clear h6b HB3 k6
              obtain ⟨wq, hwq⟩ : ∃ x : World, x = w7 := ⟨w7, rfl⟩
              subst hwq
              go_loopw [15] (fun j wx => ∃ q : Nat, q ≤ 6 ∧ j = .int .i64 (q : Int) ∧ Hid (Below wq.heap.size wq wx)) (fun j _ => 6 - (RowKit.intOf j).toNat)
              case atStart => exact ⟨0, by omega, rfl, Below.refl _ _⟩
              case round =>
                obtain ⟨q, hq, rfl, HQ⟩ := hrel
                by_cases h6 : q < 6
                · have e1 : (q : Int) < 6 := by omega
                  have HQ6 : Hid (q < 6) := h6
                  obtain ⟨B, E, hB, hRD⟩ := bt_read HB6.out.1 (by have := HM.out; omega) (fileT (q : Int)) (fileT_64 _)
                  have FQ := file_any (q : Int)
                  generalize fileT (q : Int) = s at *
                  have R1 := (hRD wr HQ.out).1
                  have HRD : Hid _ := hRD
                  obtain ⟨BL, hBL⟩ : ∃ x, B.length = x := ⟨_, rfl⟩
                  have HBL : Hid (B.length = BL) := hBL
                  clear hRD hB h6 hq hBL
                  go_wp2_with (first
                    | (go_at_call 6; refine (FQ _).mono ?_; rintro e wf ⟨rfl, hwf⟩; subst hwf)
                    | (go_at_call 11; refine R1.mono ?_; rintro e w8 ⟨ax, cx, rfl, h8⟩; clear R1
                       have h8b : Hid (Below wq.heap.size wq w8) := HQ.out.trans (h8.out.2.mono HQ.out.size)
                       have R2 := (HRD.out w8 h8b.out).2)
                    | (go_at_call 12; refine R2.mono ?_; rintro e w9 ⟨ay, cy, rfl, h9⟩; clear R2
                       have h9b : Hid (Below wq.heap.size wq w9) := h8b.out.trans (h9.out.2.mono h8b.out.size)
                       have E9 := errorE E w9 (et_lo HET.out HU.out.2.2 (HB6.out.2.trans (h9b.out.mono HB6.out.2.size))))
                    | (go_at_call 13; refine E9.mono ?_; rintro e w10 ⟨rfl, h10⟩; clear E9
                       have h10b : Hid (Below wq.heap.size wq w10) := h9b.out.trans (h10.mono h9b.out.size)
                       have q1 := conv_at h8.out.1 (h9.out.2.trans (h10.mono h9.out.2.size))
                       have q2 := conv_at h9.out.1 h10
                       clear h10 h8 h9 h8b h9b))
                  go_roundw
                  case rel => exact ⟨q + 1, HQ6.out, by go_num, h10b.out⟩
                  case measure => have := HQ6.out; simp [RowKit.intOf]; omega
                · have e1 : ¬ (q : Int) < 6 := by omega
                  have g2 : (m : Int) < 80 := by have := HM.out; omega
                  clear h6 hq
                  go_wp2
                  go_roundw
                  case rel => exact ⟨m + 1, by have := HM.out; omega, by have := HM.out; omega, by go_num, HB6.out.1.keep HQ.out, HB6.out.2.trans (HQ.out.mono HB6.out.2.size)⟩
                  case measure => have := HM.out; simp [RowKit.intOf]; omega
      · have e2 : (m : Int) < ls.length := by omega
        have e1 : ¬ (m : Int) < 80 := by omega
        have HEND : Hid (post (.returned (.bool true)) wo) := by show post _ _; rw [HPO.out]; exact ⟨rfl, HI.out.2⟩
        clear hlt h80 hml hm80
        go_wp2
        exact HEND.out
    · have e2 : ¬ (m : Int) < ls.length := by omega
      have HEND : Hid (post (.returned (.bool true)) wo) := by show post _ _; rw [HPO.out]; exact ⟨rfl, HI.out.2⟩
      clear hlt hml hm80
      go_wp2
      exact HEND.out
end Go.Proofs.YtcdpcjafomfddaaDoor
