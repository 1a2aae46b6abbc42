/-
  What is proved: what the reference's List answers: its names, in their order.
  Conditions: as each theorem says.
-/
import Derived.Test.YtcdpcjafomfddaaDoorQLstM
namespace Go.Proofs.YtcdpcjafomfddaaDoor
open Go.RowKit Go.Maps Go.Sort Go.Shelf

theorem cell_lt {w : World} {a : Addr} {v : Value} (h : w.cell? a = some v) : a.block < w.heap.size := by
  rcases Nat.lt_or_ge a.block w.heap.size with hb | hb
  · exact hb
  · unfold World.cell? at h
    rw [Array.getElem?_eq_none hb] at h
    simp at h

def ListP (w : World) (N : List (Tx × Nat)) (e : Ending) (w' : World) : Prop := ∃ v, e = .returned v ∧ RowT v (sortT (N.map (·.1))) w' ∧ Below w.heap.size w w'

set_option maxRecDepth 100000 in
set_option maxHeartbeats 8000000 in
theorem rList_any {T : Nat → Prop} {p : Nat} {fs : List FV} {N Y : List (Tx × Nat)} {n st : Int} (w : World) (h : Rk T w p fs N Y n st) (hN : N.length ≤ 1000) :
    Calls Tryd.prog 8 #[.pointer (some ⟨p, 0, none⟩)] w fun e w' => ListP w N e w' := by
  obtain ⟨an, cn, c1, R⟩ := h.names
  have hpl : p < w.heap.size := by obtain ⟨_, _, _, hb, _⟩ := h.box; exact lt_of_heap hb
  have HR : Hid (RowN (.slice an N.length cn) N w ∧ w.cell? ⟨p, 1, none⟩ = some (.slice an N.length cn) ∧ p < w.heap.size) := ⟨R, c1, hpl⟩
  have HN : Hid (N.length ≤ 1000) := hN
  obtain ⟨post, hpost⟩ : ∃ post, post = fun e w' => ListP w N e w' := ⟨_, rfl⟩
  rw [← hpost]
  have HPO : Hid (post = _) := hpost
  clear h R hN c1 hpl hpost
  go_enter Tryd.func8, Tryd.ntmps8
  go_wp2_with fail
  go_loopw [3, 4] (fun u i wr => ∃ (j : Nat) (O : List Tx) (oa : Option Addr) (oc : Nat), j ≤ N.length ∧ i = .int .i64 j ∧ u = .slice oa O.length oc ∧ Hid (RowT (.slice oa O.length oc) O wr ∧ (∀ b, (Value.slice oa O.length oc).ownBlock = some b → w.heap.size ≤ b) ∧ Below w.heap.size w wr ∧ Rise O ∧ O.Perm ((N.take j).map (·.1)))) (fun _ i _ => N.length - (RowKit.intOf i).toNat)
  case atStart => exact ⟨0, [], none, 0, Nat.zero_le _, rfl, rfl, World.ownsRow_nil _ _ _ _, (fun b e => by cases e), Below.refl _ _, List.Pairwise.nil, by simp⟩
  case round =>
    obtain ⟨j, O, oa, oc, hj, rfl, rfl, HI⟩ := hrel
    have c1 : wr.cell? ⟨p, 1, none⟩ = some (.slice an N.length cn) := by rw [HI.out.2.2.1.cell (p := ⟨p, 1, none⟩) HR.out.2.2]; exact HR.out.2.1
    have hOl : O.length = j := by rw [HI.out.2.2.2.2.length_eq, List.length_map, List.length_take]; omega
    by_cases hlt : j < N.length
    · obtain ⟨⟨t, z⟩, hq⟩ : ∃ q, N[j]? = some q := ⟨_, List.getElem?_eq_getElem hlt⟩
      have RW : RowN (.slice an N.length cn) N wr := own_below HR.out.1 HI.out.2.2.1 (Nat.le_refl _)
      obtain ⟨bn, rfl, x0, x1⟩ := rowN_get RW hq
      have g1 : (j : Int) < (N.length : Int) := by omega
      have g2 : (j : Int) < 1000 := by have := HN.out; omega
      have HJ : Hid (j < N.length ∧ N[j]? = some (t, z) ∧ O.length = j) := ⟨hlt, hq, hOl⟩
      clear hj hlt hq hOl RW x1
      generalize wr = w0 at *
      go_upto_block 2 with fail
      go_cut [5] from 16 to 36 (fun u wx => ∃ nn : Nat, u = .int .i64 nn ∧ Hid (nn ≤ O.length ∧ (∀ i q, i < nn → O[i]? = some q → q < t) ∧ (∀ q, O[nn]? = some q → ¬ q < t) ∧ wx.heap = w0.heap ∧ Below w0.heap.size w0 wx))
      case first =>
        go_wp2_with fail
        go_loopw [5] (fun i wx => ∃ x : Nat, x ≤ O.length ∧ i = .int .i64 x ∧ Hid (∀ i q, i < x → O[i]? = some q → q < t) ∧ Hid (wx.heap = w0.heap ∧ Below w0.heap.size w0 wx)) (fun i _ => O.length - (RowKit.intOf i).toNat)
        case atStart => exact ⟨0, Nat.zero_le _, rfl, fun i q hi => absurd hi (Nat.not_lt_zero _), rfl, Below.refl _ _⟩
        case round =>
          obtain ⟨x, hx, rfl, HA, HW⟩ := hrel
          have cx1 : wr.cell? ⟨p, 1, none⟩ = some (.slice (some ⟨bn, 0, none⟩) N.length cn) := (World.cell?_of_block (w := w0) (by rw [HW.out.1])).trans c1
          have cx0 : wr.cell? ⟨bn, j * 2, none⟩ = some (.string ⟨t.toArray⟩) := (World.cell?_of_block (w := w0) (by rw [HW.out.1])).trans x0
          have g3 : (x : Int) < 1000 := by have := HJ.out; have := HN.out; omega
          have HWD : Hid (∀ nq, (wr.drewN nq).heap = w0.heap ∧ Below w0.heap.size w0 (wr.drewN nq)) := fun nq => ⟨HW.out.1, below_drew HW.out.2 nq⟩
          by_cases hxl : x < O.length
          · obtain ⟨q, hq⟩ : ∃ q, O[x]? = some q := ⟨_, List.getElem?_eq_getElem hxl⟩
            obtain ⟨bo, rfl, o0⟩ := rowT_get HI.out.1 hq
            have ox0 : wr.cell? ⟨bo, x, none⟩ = some (.string ⟨q.toArray⟩) := (World.cell?_of_block (w := w0) (by rw [HW.out.1])).trans o0
            have gd : decide (x < O.length) = true := decide_eq_true hxl
            have g4 : (x : Int) < (O.length : Int) := by omega
            have HX : Hid (x < O.length ∧ O[x]? = some q) := ⟨hxl, hq⟩
            have e0 := bytesLess_eq q t
            by_cases hlt : q < t
            · rw [decide_eq_true hlt] at e0
              have HLT : Hid (q < t) := hlt
              clear hlt hq hxl hx o0 HW
              go_wp2
              go_quiet (fail)
              go_wp2
              go_roundw
              case rel => exact ⟨x + 1, HX.out.1, by go_num, fun i q' hi hq' => by
                            rcases Nat.lt_or_ge i x with h1 | h1
                            · exact HA.out i q' h1 hq'
                            · obtain rfl : i = x := by omega
                              rw [HX.out.2] at hq'
                              obtain rfl := Option.some.inj hq'
                              exact HLT.out, HWD.out _⟩
              case measure => have := HX.out.1; simp [RowKit.intOf]; omega
            · rw [decide_eq_false hlt] at e0
              have HLT : Hid (¬ q < t) := hlt
              clear hlt hq hxl hx o0 HW
              go_wp2
              go_quiet (fail)
              go_wp2_with fail
              go_meet
              case rel => exact ⟨x, rfl, Nat.le_of_lt HX.out.1, HA.out, (fun q' hq' => by rw [HX.out.2] at hq'; obtain rfl := Option.some.inj hq'; exact HLT.out), HWD.out _⟩
          · have gd : decide (x < O.length) = false := decide_eq_false hxl
            have HX : Hid (x = O.length) := by show _ = _; omega
            clear hxl hx HW
            go_wp2
            go_quiet (fail)
            go_wp2_with fail
            go_meet
            case rel => exact ⟨x, rfl, Nat.le_of_eq HX.out, HA.out, (fun q' hq' => by rw [HX.out, List.getElem?_eq_none (Nat.le_refl _)] at hq'; cases hq'), HWD.out _⟩
      case rest =>
        obtain ⟨nn, rfl, HC⟩ := hcut
        have hbw : Below w0.heap.size w0 wc := HC.out.2.2.2.2
        have cc1 : wc.cell? ⟨p, 1, none⟩ = some (.slice (some ⟨bn, 0, none⟩) N.length cn) := (World.cell?_of_block (w := w0) (by rw [HC.out.2.2.2.1])).trans c1
        have cc0 : wc.cell? ⟨bn, j * 2, none⟩ = some (.string ⟨t.toArray⟩) := (World.cell?_of_block (w := w0) (by rw [HC.out.2.2.2.1])).trans x0
        have RO : RowT (.slice oa O.length oc) O wc := own_below HI.out.1 hbw (Nat.le_refl _)
        have bw : Below w.heap.size w wc := HI.out.2.2.1.trans (hbw.mono HI.out.2.2.1.size)
        have hOj := HJ.out.2.2
        have hNj := HN.out
        have hjl := HJ.out.1
        have hnn := HC.out.1
        have key : ∀ u1 u2, TxAt wc u1 (O.take nn) → TxAt wc u2 (O.drop nn) → ∃ a1 m1 d1 w1 a2 m2 d2 w2 a3 d3 w3, (Builtin.append_ #[37, 37] 37 #[.slice none 0 0, u1]).run Tryd.prog wc = .ok (.slice a1 m1 d1) w1 ∧ (Builtin.append_ #[37, 37] 37 #[.slice a1 m1 d1, .slice (some ⟨w1.heap.size, 0, none⟩) 1 1]).run Tryd.prog (w1.alloc (.cells #[.string ⟨t.toArray⟩] 9)) = .ok (.slice a2 m2 d2) w2 ∧ (Builtin.append_ #[37, 37] 37 #[.slice a2 m2 d2, u2]).run Tryd.prog w2 = .ok (.slice a3 (O.take nn ++ t :: O.drop nn).length d3) w3 ∧ w1.cell? ⟨p, 1, none⟩ = some (.slice (some ⟨bn, 0, none⟩) N.length cn) ∧ w1.cell? ⟨bn, j * 2, none⟩ = some (.string ⟨t.toArray⟩) ∧
            Hid (RowT (.slice a3 (O.take nn ++ t :: O.drop nn).length d3) (O.take nn ++ t :: O.drop nn) w3 ∧ (∀ b, (Value.slice a3 (O.take nn ++ t :: O.drop nn).length d3).ownBlock = some b → w.heap.size ≤ b) ∧ Below w.heap.size w w3 ∧ Rise (O.take nn ++ t :: O.drop nn) ∧ (O.take nn ++ t :: O.drop nn).Perm ((N.take (j + 1)).map (·.1))) := fun u1 u2 h1 h2 => by
          obtain ⟨v1, w1, p1, p2, p3, p4⟩ := run_appT 37 wc (.slice none 0 0) u1 [] (O.take nn) (World.ownsRow_nil _ _ _ _) h1 (by rw [List.length_take]; simp; omega)
          rw [List.nil_append] at p2
          have b1 : Below wc.heap.size wc w1 := ⟨p3.os, p3.tape, p3.output, p3.size, fun z hz => p3.block z hz (by simp [Value.ownBlock])⟩
          have ow1 : ∀ b, v1.ownBlock = some b → wc.heap.size ≤ b := fun b e => by
            rcases p4 with h | h
            · rw [e] at h; cases h
            · rw [e] at h; rw [Option.some.inj h]; exact Nat.le_refl _
          have ba : Below w1.heap.size w1 (w1.alloc (.cells #[.string ⟨t.toArray⟩] 9)) := (Below.refl _ _).alloc (Nat.le_refl _) _
          have b1a : Below wc.heap.size wc (w1.alloc (.cells #[.string ⟨t.toArray⟩] 9)) := b1.trans (ba.mono b1.size)
          obtain ⟨v2, w2, r1, r2, r3, r4⟩ := run_appT 37 (w1.alloc (.cells #[.string ⟨t.toArray⟩] 9)) v1 (.slice (some ⟨w1.heap.size, 0, none⟩) 1 1) (O.take nn) [t] (own_below p2 ba (Nat.le_refl _)) (Or.inr ⟨_, 0, 1, rfl, fun i x hx => by
            have : i = 0 := by have := (List.getElem?_eq_some_iff.1 hx).1; simpa using this
            subst this
            simp at hx
            subst hx
            exact Lib.cell_of_heap (MapKept.heap_alloc w1 (.cells #[.string ⟨t.toArray⟩] 9)).1 0⟩) (by rw [List.length_take]; simp; omega)
          have b2 : Below wc.heap.size wc w2 := b1a.grown r3 b1a.size (fun z e => ow1 z e)
          have ow2 : ∀ b, v2.ownBlock = some b → wc.heap.size ≤ b := fun b e => by
            rcases r4 with h | h
            · exact ow1 b (h.symm.trans e)
            · rw [e] at h; rw [Option.some.inj h]; exact b1a.size
          have h2' : TxAt w2 u2 (O.drop nn) := by
            rcases h2 with h | ⟨b, o, c, rfl, hc⟩
            · exact Or.inl h
            · refine Or.inr ⟨b, o, c, rfl, fun i x hx => ?_⟩
              have h3 := hc i x hx
              rw [b2.cell (p := ⟨b, o + i, none⟩) (cell_lt h3)]
              exact h3
          obtain ⟨v3, w3, s1, s2, s3, s4⟩ := run_appT 37 w2 v2 u2 (O.take nn ++ [t]) (O.drop nn) r2 h2' (by rw [List.length_append, List.length_take, List.length_drop]; simp; omega)
          rw [List.append_assoc, List.singleton_append] at s2
          have b3 : Below wc.heap.size wc w3 := b2.grown s3 b2.size (fun z e => ow2 z e)
          obtain ⟨a1, d1, e1⟩ := rowT_form p2
          obtain ⟨a2, d2, e2⟩ := rowT_form r2
          obtain ⟨a3, d3, e3⟩ := rowT_form s2
          subst e1 e2 e3
          refine ⟨a1, _, d1, w1, a2, _, d2, w2, a3, d3, w3, p1, r1, s1, by rw [b1.cell (p := ⟨p, 1, none⟩) (cell_lt cc1)]; exact cc1, by rw [b1.cell (p := ⟨bn, j * 2, none⟩) (cell_lt cc0)]; exact cc0, s2, fun b e => ?_, bw.trans (b3.mono bw.size), rise_put HI.out.2.2.2.1 hnn HC.out.2.1 HC.out.2.2.1, ?_⟩
          · rcases s4 with h | h
            · exact Nat.le_trans bw.size (ow2 b (h.symm.trans e))
            · rw [e] at h; rw [Option.some.inj h]; exact Nat.le_trans bw.size b2.size
          · rw [take_get HJ.out.2.1, List.map_append]
            exact perm_put HI.out.2.2.2.2
        rcases rowT_cut RO nn hnn with ⟨ev, el⟩ | ⟨bo, co, ev, hco, k1, k2, k3⟩
        · obtain ⟨rfl, hz, rfl⟩ := Value.slice.inj ev
          subst el
          obtain rfl : nn = 0 := by simpa using hnn
          obtain ⟨a1, m1, d1, w1, a2, m2, d2, w2, a3, d3, w3, A1, A2, A3, n1, n0, HF⟩ := key (.slice none 0 0) (.slice none 0 0) (Or.inl ⟨rfl, by simp⟩) (Or.inl ⟨rfl, by simp⟩)
          obtain ⟨m3, hm3⟩ : ∃ m3, (([] : List Tx).take 0 ++ t :: ([] : List Tx).drop 0).length = m3 := ⟨_, rfl⟩
          have HM3 : Hid (_ = m3) := hm3
          rw [hm3] at A3 HF
          clear key RO hbw bw HI HC hOj hNj hjl c1 x0 hm3 ev hz hnn
          go_wp2_with (first
            | (at_builtin; refine app_known rfl _ _ 37 rfl _ _ _ rfl rfl A1 ?_; clear A1)
            | (at_builtin; refine app_known rfl _ _ 37 rfl _ _ _ rfl rfl A2 ?_; clear A2)
            | (at_builtin; refine app_known rfl _ _ 37 rfl _ _ _ rfl rfl A3 ?_; clear A3))
          go_roundw
          case rel => exact ⟨j + 1, _, a3, d3, HJ.out.1, by go_num, by rw [HM3.out], by rw [HM3.out]; exact HF.out⟩
          case measure => have := HJ.out.1; simp [RowKit.intOf]; omega
        · obtain ⟨rfl, -, rfl⟩ := Value.slice.inj ev
          have g5 : (nn : Int) ≤ (O.length : Int) := by omega
          have g6 : (O.length : Int) ≤ (oc : Int) := by omega
          have g7 : (nn : Int) ≤ (oc : Int) := by omega
          by_cases hcn : oc = nn
          · have hno : O.length = nn := by omega
            have k2' : TxAt wc (.slice (some ⟨bo, 0, none⟩) (O.length - nn) (oc - nn)) (O.drop nn) := by
              rw [hno, hcn, Nat.sub_self, List.drop_eq_nil_of_le (Nat.le_of_eq hno)]; exact k3
            obtain ⟨a1, m1, d1, w1, a2, m2, d2, w2, a3, d3, w3, A1, A2, A3, n1, n0, HF⟩ := key _ _ k1 k2'
            obtain ⟨m3, hm3⟩ : ∃ m3, (O.take nn ++ t :: O.drop nn).length = m3 := ⟨_, rfl⟩
            have HM3 : Hid (_ = m3) := hm3
            rw [hm3] at A3 HF
            clear key RO hbw bw HI HC hOj hNj hjl c1 x0 hm3 ev k1 k2 k3 k2' hno hnn hco
            go_wp2_with (first
              | (at_builtin; refine app_known rfl _ _ 37 rfl _ _ _ rfl rfl A1 ?_; clear A1)
              | (at_builtin; refine app_known rfl _ _ 37 rfl _ _ _ rfl rfl A2 ?_; clear A2)
              | (at_builtin; refine app_known rfl _ _ 37 rfl _ _ _ rfl rfl A3 ?_; clear A3))
            go_roundw
            case rel => exact ⟨j + 1, _, a3, d3, HJ.out.1, by go_num, by rw [HM3.out], by rw [HM3.out]; exact HF.out⟩
            case measure => have := HJ.out.1; simp [RowKit.intOf]; omega
          · obtain ⟨a1, m1, d1, w1, a2, m2, d2, w2, a3, d3, w3, A1, A2, A3, n1, n0, HF⟩ := key _ _ k1 k2
            obtain ⟨m3, hm3⟩ : ∃ m3, (O.take nn ++ t :: O.drop nn).length = m3 := ⟨_, rfl⟩
            have HM3 : Hid (_ = m3) := hm3
            rw [hm3] at A3 HF
            clear key RO hbw bw HI HC hOj hNj hjl c1 x0 hm3 ev k1 k2 k3 hnn hco
            go_wp2_with (first
              | (at_builtin; refine app_known rfl _ _ 37 rfl _ _ _ rfl rfl A1 ?_; clear A1)
              | (at_builtin; refine app_known rfl _ _ 37 rfl _ _ _ rfl rfl A2 ?_; clear A2)
              | (at_builtin; refine app_known rfl _ _ 37 rfl _ _ _ rfl rfl A3 ?_; clear A3))
            go_roundw
            case rel => exact ⟨j + 1, _, a3, d3, HJ.out.1, by go_num, by rw [HM3.out], by rw [HM3.out]; exact HF.out⟩
            case measure => have := HJ.out.1; simp [RowKit.intOf]; omega
    · have hje : j = N.length := by omega
      subst hje
      have HEND : Hid (post (.returned (.slice oa O.length oc)) wr) := by
        rw [HPO.out]
        have h2 := HI.out
        rw [List.take_length] at h2
        exact ⟨_, rfl, by rw [← rise_sort h2.2.2.2.1 h2.2.2.2.2]; exact h2.1, h2.2.2.1⟩
      clear hj hlt hOl HI
      go_wp2
      exact HEND.out
end Go.Proofs.YtcdpcjafomfddaaDoor
