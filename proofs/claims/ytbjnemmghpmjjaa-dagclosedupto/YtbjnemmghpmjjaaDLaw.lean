/-
  What is proved: what the law of dag answers.
  Conditions: the list of changes lies in memory.
-/
import Derived.Test.YtbjnemmghpmjjaaGLaw
import Derived.Deep.CutBlock
namespace Go.Proofs.Ytbjnemmghpmjjaa
open Go.RowKit Go.Maps

/-- A list of changes that was handed in. -/
structure ArgC (w : World) (v : Value) (l : List CE) : Prop where
  row : IsChgs w v (l.map toCX)
  each : ∀ p ∈ l, IsChgW w p.2 p.1

theorem ArgC.keep {S : List Nat} {w w' : World} {v : Value} {l : List CE} (h : ArgC w v l) (k : Kp S w w') (hn : NoCells w S) : ArgC w' v l :=
  ⟨h.row.keep k hn, fun p hp => (h.each p hp).keep k hn⟩

theorem ArgC.below {w w' : World} {v : Value} {l : List CE} (h : ArgC w v l) (b : Below w.heap.size w w') : ArgC w' v l :=
  ⟨h.row.below b, fun p hp => (h.each p hp).below b⟩

/-- The change that the law takes first. -/
abbrev chg1 : Chg := { actor := 1, seq := 1, start := 1, deps := [], ops := [] }
abbrev val1 : Value := .agg #[.int .i64 1, .int .i64 1, .int .i64 1, .slice none 0 0, .slice none 0 0]

theorem nil_pairs (w : World) : IsPairs w (.slice none 0 0) [] := ⟨none, 0, rfl, Nat.le_refl _, by simp, by simp, fun h => absurd rfl h⟩
theorem nil_ops (w : World) : IsOps w (.slice none 0 0) [] := ⟨none, 0, rfl, Nat.le_refl _, by simp, by simp, fun h => absurd rfl h⟩
theorem val1_chg (w : World) : IsChgW w val1 chg1 :=
  ⟨_, _, [], rfl, by unfold I64; decide, nil_pairs w, nil_ops w, rfl, by unfold Wh; simp, by unfold Wh; simp, by simp⟩
theorem chk1 : chk chg1 = 0 := by decide

theorem lk_some {E : List CE} {r : Pr} (h : r ∈ E.map (·.1.ref)) : (lk (ents E) r).isSome = true := by
  rw [lk_find]
  obtain ⟨p, hp, e⟩ := List.mem_map.1 h
  cases hf : E.find? fun x => x.1.ref == r with
  | none =>
    have := List.find?_eq_none.1 hf p hp
    simp [e] at this
  | some x => rfl

set_option maxRecDepth 100000 in
set_option maxHeartbeats 8000000 in
theorem law_any (v : Value) (l : List CE) (w : World) (hv : ArgC w v l) :
    Calls Try.prog 3 #[v] w fun e w' => e = .returned (.bool true) ∧ Below w.heap.size w w' := by
  obtain ⟨a, cap, hvv, h1, h2, hz1, hz2⟩ := id hv.row
  rw [List.length_map] at hvv h2
  subst hvv
  obtain ⟨n, hn⟩ : ∃ z, l.length = z := ⟨_, rfl⟩
  rw [hn] at hv h2 ⊢
  have HA : Hid (ArgC w (.slice a n cap) l ∧ l.length = n) := ⟨hv, hn⟩
  have HZ : Hid (n ≤ 1000000) := h2
  clear h1 h2 hz1 hz2 hv hn
  have E1 := dnew_any w
  go_enter Try.func3, Try.ntmps3
  go_wp2_with fail
  go_fit E1
  rintro e w1 ⟨rfl, K1, b1⟩
  clear E1
  have E2 := take_any w1 (w.heap.size + 2) w.heap.size (w.heap.size + 1) [] [] val1 chg1 (Bk.new K1) (val1_chg w1)
  have A1 := HA.out.1.below b1
  have HK : Hid (ArgC w1 (.slice a n cap) l ∧ NoCells w1 [w.heap.size, w.heap.size + 1]) := ⟨A1, (Bk.new K1).noCells⟩
  have HL1 : Hid (Below w.heap.size w w1) := b1
  clear A1 K1 b1
  go_wp2_with fail
  go_fit E2
  rintro e w2 ⟨er, rfl, EH1, EW1, K2, _, kp2, _, hx⟩
  obtain ⟨rfl, hm⟩ := hx rfl rfl rfl rfl rfl chk1
  have E3 := has_any _ _ _ _ _ (1, 1) w2 K2.book (by unfold R64 I64; decide) K2.cvH
  rw [show (lk (ents EH1) (1, 1)).isSome = true from lk_some hm] at E3
  have HK2 : Hid (ArgC w2 (.slice a n cap) l) := HK.out.1.keep kp2 HK.out.2
  have HL2 : Hid (Below w.heap.size w w2) := HL1.out.trans (kp2.below (fun x hx => by simp at hx; omega) HL1.out.size)
  clear hx hm E2 kp2 HK K2
  go_wp2_with fail
  go_fit E3
  rintro e w3 ⟨rfl, b3⟩
  have HK3 : Hid (ArgC w3 (.slice a n cap) l) := HK2.out.below b3
  have HL3 : Hid (Below w.heap.size w w3) := HL2.out.trans (b3.mono HL2.out.size)
  clear E3 b3 HK2
  have E4 := dnew_any w3
  go_wp2_with fail
  go_fit E4
  rintro e w4 ⟨rfl, K4, b4⟩
  clear E4
  have HB : Hid (Bk w4 (w3.heap.size + 2) w3.heap.size (w3.heap.size + 1) [] [] ∧ ArgC w4 (.slice a n cap) l) := ⟨Bk.new K4, HK3.out.below b4⟩
  have HL4 : Hid (Below w.heap.size w w4) := HL3.out.trans (b4.mono HL3.out.size)
  have HLh : Hid (w.heap.size ≤ w3.heap.size ∧ w.heap.size ≤ w3.heap.size + 1) := ⟨HL3.out.size, by have := HL3.out.size; omega⟩
  obtain ⟨g, hg⟩ : ∃ z, w3.heap.size + 2 = z := ⟨_, rfl⟩
  obtain ⟨h, hh⟩ : ∃ z, w3.heap.size = z := ⟨_, rfl⟩
  obtain ⟨q, hq⟩ : ∃ z, w3.heap.size + 1 = z := ⟨_, rfl⟩
  rw [hg, hq, hh] at HB
  rw [hq, hh] at HLh
  rw [hg]
  have HKB : Hid (∀ {W W' : World}, Below w.heap.size w W → Kp [h, q] W W' → Below w.heap.size w W') := fun {W W'} bb kk => bb.trans (kk.below (fun x hx => by simp at hx; rcases hx with e | e <;> rw [e]; exact HLh.out.1; exact HLh.out.2) bb.size)
  clear K4 b4 HK3 hg hh hq HL1 HL2 HL3 HLh
  go_upto_block 0 with fail
  go_cut [7] from 33 to 48 (fun _ wx => ∃ EH EW, Hid (Bk wx g h q EH EW ∧ Below w.heap.size w wx))
  case first =>
    go_wp2_with fail
    go_loopw [7] (fun i wr => ∃ (k : Nat) (EH EW : List CE), k ≤ n ∧ k ≤ 60 ∧ i = .int .i64 k ∧ Hid ((Bk wr g h q EH EW ∧ ArgC wr (.slice a n cap) l) ∧ Below w.heap.size w wr)) (fun i _ => n - (RowKit.intOf i).toNat)
    case atStart => exact ⟨0, [], [], Nat.zero_le _, by decide, rfl, HB.out, HL4.out⟩
    case round =>
      obtain ⟨k, EH, EW, hk, hk60, rfl, hR⟩ := hrel
      have g2 : (k : Int) < 1000001 := by have := HZ.out; omega
      have g3 : (0 : Int) ≤ k := by omega
      by_cases hlt : k < n
      · have g1 : (k : Int) < n := by omega
        by_cases hl6 : k < 60
        · have g4 : (k : Int) < 60 := by omega
          have hlk : k < l.length := by rw [HA.out.2]; exact hlt
          obtain ⟨p, hp⟩ : ∃ z, l[k] = z := ⟨_, rfl⟩
          have hpm : p ∈ l := by rw [← hp]; exact List.getElem_mem _
          have hpw := hR.out.1.2.each p hpm
          obtain ⟨ca, cs, ct, da, dn, dc, oa, on, oc, hpv⟩ := hpw.cv
          have hcs : (toCX p).cells = [.int .i64 ca, .int .i64 cs, .int .i64 ct, .slice da dn dc, .slice oa on oc] := by rw [(toCX_val hpw.chg).2.2.2, hpv]; rfl
          obtain ⟨a', cap', hav, _, _, _, hrw⟩ := hR.out.1.2.row
          obtain ⟨b, off, hab, hbz, hcl⟩ := hrw (fun e => by rw [List.map_eq_nil_iff] at e; rw [e] at hlk; simp at hlk)
          have haa : a = some ⟨b, off, none⟩ := by injection hav with e1 _ _; rw [e1, hab]
          subst haa
          have hcl' : ∀ j, j < 5 → wr.cell? ⟨b, off + k * 5 + j, none⟩ = [Value.int .i64 ca, .int .i64 cs, .int .i64 ct, .slice da dn dc, .slice oa on oc][j]? := fun j hj => by
            have := hcl k (by simpa using hlk) j hj
            rw [this, List.getElem_map, hp, hcs]
          have x0 : wr.cell? ⟨b, off + k * 5, none⟩ = some (.int .i64 ca) := hcl' 0 (by decide)
          have x1 : wr.cell? ⟨b, off + k * 5 + 1, none⟩ = some (.int .i64 cs) := hcl' 1 (by decide)
          have x2 : wr.cell? ⟨b, off + k * 5 + 2, none⟩ = some (.int .i64 ct) := hcl' 2 (by decide)
          have x3 : wr.cell? ⟨b, off + k * 5 + 3, none⟩ = some (.slice da dn dc) := hcl' 3 (by decide)
          have x4 : wr.cell? ⟨b, off + k * 5 + 4, none⟩ = some (.slice oa on oc) := hcl' 4 (by decide)
          have E5 := take_any wr g h q EH EW p.2 p.1 hR.out.1.1 hpw
          rw [hpv] at E5
          have HK5 : Hid (k < n ∧ k < 60) := ⟨hlt, hl6⟩
          clear hlk hp hpm hpw hpv hcs hav hrw hab hbz hcl hcl' hk hk60 hlt hl6
          go_wp2_with fail
          go_fit E5
          rintro e w5 ⟨er, rfl, EH', EW', K5, _, kp5, _⟩
          clear E5 x0 x1 x2 x3 x4
          go_wp2_with fail
          go_roundw
          case rel => exact ⟨k + 1, EH', EW', HK5.out.1, HK5.out.2, by go_num, ⟨K5, hR.out.1.2.keep kp5 hR.out.1.1.noCells⟩, HKB.out hR.out.2 kp5⟩
          case measure => simp [RowKit.intOf]; have := HK5.out.1; omega
        · have g4 : ¬ (k : Int) < 60 := by omega
          go_wp2_with fail
          go_meet
          exact ⟨EH, EW, hR.out.1.1, hR.out.2⟩
      · have g1 : ¬ (k : Int) < n := by omega
        go_wp2_with fail
        go_meet
        exact ⟨EH, EW, hR.out.1.1, hR.out.2⟩
  case rest =>
    obtain ⟨EH, EW, hB⟩ := hcut
    have E6 := all_any _ g h q EH EW hB.out.1
    clear HB
    go_wp2_with fail
    go_fit E6
    rintro e w6 ⟨lv, rfl, ts, D, es, p1, r1, o1, ok1, e1, row1, m1, b6⟩
    clear E6
    have hm := tell_len ok1 e1
    have B6 := hB.out.1.below b6
    have HL6 : Hid (Below w.heap.size w w6) := hB.out.2.trans (b6.mono hB.out.2.size)
    have A6 : ArgC w6 lv es := ⟨rowC_chgs row1 (by have := B6.many; omega) (fun p hp => (m1 p hp).1.chg), fun p hp => (m1 p hp).1⟩
    obtain ⟨a2, c2, hl2, hy1, hy2, hy3, hy4⟩ := id A6.row
    rw [List.length_map] at hl2
    subst hl2
    clear hy1 hy2 hy3 hy4
    obtain ⟨m, hm2⟩ : ∃ z, es.length = z := ⟨_, rfl⟩
    rw [hm2] at A6 hm ⊢
    have H6 : Hid (Bk w6 g h q EH EW ∧ ArgC w6 (.slice a2 m c2) es ∧ es.length = m ∧ m = EH.length ∧ m ≤ 120) := ⟨B6, A6, hm2, hm, by have := B6.many; omega⟩
    have HT : Hid ((EH.map (·.1.ref)).Nodup ∧ ts.Perm (EH.map (·.1.ref)) ∧ Rise ts ∧ ordN EH ts ts.length = (D, []) ∧ OrdOk EH D [] ∧ es.map (·.1.ref) = D ∧ ∀ p ∈ es, chk p.1 = 0 ∧ ∃ u, (p.1, u) ∈ EH) := ⟨(nodup_ents B6).1, p1, r1, o1, ok1, e1, fun p hp => (m1 p hp).2⟩
    clear hm B6 A6 hm2 p1 r1 o1 ok1 e1 row1 m1 b6 hB HA
    go_wp2_with fail
    go_loopw [9, 10] (fun s i wr => ∃ k : Nat, k ≤ m ∧ i = .int .i64 k ∧ Hid (Kp [h, q] w6 wr ∧ MapL wr h (ents EH) ∧ MapL wr q (ents EW) ∧ RowPr 34 w6.heap.size s (seenK es k) wr)) (fun _ i _ => m - (RowKit.intOf i).toNat)
    case atStart => exact ⟨0, Nat.zero_le _, rfl, Kp.refl _ _, H6.out.1.book.has, H6.out.1.book.wait, rfl, .inl ⟨rfl, rfl⟩⟩
    case round =>
      obtain ⟨k, hk, rfl, hR⟩ := hrel
      have g2 : (k : Int) < 1000001 := by have := H6.out.2.2.2.2; omega
      have g3 : (0 : Int) ≤ k := by omega
      by_cases hlt : k < m
      · have g1 : (k : Int) < m := by omega
        have hlk : k < es.length := by rw [H6.out.2.2.1]; exact hlt
        obtain ⟨p, hp⟩ : ∃ z, es[k] = z := ⟨_, rfl⟩
        have hpm : p ∈ es := by rw [← hp]; exact List.getElem_mem _
        have tk := tell_ok HT.out.1 HT.out.2.2.2.2.1 HT.out.2.2.2.2.2.1 (fun p hp => (HT.out.2.2.2.2.2.2 p hp).2) hlk
        have sk := seenK_succ hlk
        rw [hp] at tk sk
        have hpw := H6.out.2.1.each p hpm
        obtain ⟨ud, uo, lo, hpv, hi, hdp, hop, hlo, wd, wo, wq⟩ := id hpw
        obtain ⟨da, dc, rfl, _⟩ := id hdp
        obtain ⟨oa, oc, rfl, _⟩ := id hop
        obtain ⟨on, hon⟩ : ∃ z, lo.length = z := ⟨_, rfl⟩
        obtain ⟨dn, hdn⟩ : ∃ z, p.1.deps.length = z := ⟨_, rfl⟩
        obtain ⟨ca, hca⟩ : ∃ z, p.1.actor = z := ⟨_, rfl⟩
        obtain ⟨cs, hcs⟩ : ∃ z, p.1.seq = z := ⟨_, rfl⟩
        obtain ⟨ct, hct⟩ : ∃ z, p.1.start = z := ⟨_, rfl⟩
        have hrf : p.1.ref = (ca, cs) := by unfold Chg.ref; rw [hca, hcs]
        rw [hca, hcs, hct, hon, hdn] at hpv
        rw [hdn] at hdp
        rw [hrf] at tk sk
        have hcl0 : (toCX p).cells = [.int .i64 ca, .int .i64 cs, .int .i64 ct, .slice da dn dc, .slice oa on oc] := by rw [(toCX_val hpw.chg).2.2.2, hpv]; rfl
        obtain ⟨a', cap', hav, _, _, _, hrw⟩ := H6.out.2.1.row
        obtain ⟨b, off, hab, hbz, hcl⟩ := hrw (fun e => by rw [List.map_eq_nil_iff] at e; rw [e] at hlk; simp at hlk)
        have haa : a2 = some ⟨b, off, none⟩ := by injection hav with e1 _ _; rw [e1, hab]
        subst haa
        have cells6 : ∀ W, Kp [h, q] w6 W → ∀ j, j < 5 → W.cell? ⟨b, off + k * 5 + j, none⟩ = [Value.int .i64 ca, .int .i64 cs, .int .i64 ct, .slice da dn dc, .slice oa on oc][j]? := fun W kW j hj => by
          have h7 := hcl k (by simpa using hlk) j hj
          rw [List.getElem_map, hp, hcl0] at h7
          cases hq : [Value.int .i64 ca, .int .i64 cs, .int .i64 ct, .slice da dn dc, .slice oa on oc][j]? with
          | none => rw [List.getElem?_eq_none_iff] at hq; simp at hq; omega
          | some y => rw [hq] at h7; exact kept_cell h7 kW H6.out.1.noCells
        have H5 : Hid (∀ W, Kp [h, q] w6 W → ∀ j, j < 5 → W.cell? ⟨b, off + k * 5 + j, none⟩ = [Value.int .i64 ca, .int .i64 cs, .int .i64 ct, .slice da dn dc, .slice oa on oc][j]?) := cells6
        have HP : Hid (p ∈ es ∧ IsChgW w6 p.2 p.1 ∧ p.2 = .agg #[.int .i64 ca, .int .i64 cs, .int .i64 ct, .slice da dn dc, .slice oa on oc] ∧ IsPairs w6 (.slice da dn dc) p.1.deps ∧ p.1.deps.length = dn ∧ k < m) := ⟨hpm, hpw, hpv, hdp, hdn, hlt⟩
        have HS : Hid (((ca, cs) ∉ seenK es k ∧ ∀ d ∈ p.1.deps, d ∈ seenK es k) ∧ seenK es (k + 1) = seenK es k ++ [(ca, cs)] ∧ (seenK es k).length = k) := ⟨tk, sk, by unfold seenK; rw [List.length_map, List.length_take]; omega⟩
        have HR6 : Hid (∀ d ∈ seenK es k, I64 d.1 ∧ I64 d.2) := fun d hd => by
          unfold seenK at hd
          obtain ⟨x, hx, rfl⟩ := List.mem_map.1 hd
          obtain ⟨_, _, _, _, hi', _⟩ := H6.out.2.1.each x (List.mem_of_mem_take hx)
          exact ⟨hi'.1, hi'.2.1⟩
        obtain ⟨sa, sc, hs⟩ := rowPr_len hR.out.2.2.2
        rw [HS.out.2.2] at hs
        subst hs
        have x0 : wr.cell? ⟨b, off + k * 5, none⟩ = some (.int .i64 ca) := cells6 wr hR.out.1 0 (by decide)
        have x1 : wr.cell? ⟨b, off + k * 5 + 1, none⟩ = some (.int .i64 cs) := cells6 wr hR.out.1 1 (by decide)
        have x2 : wr.cell? ⟨b, off + k * 5 + 2, none⟩ = some (.int .i64 ct) := cells6 wr hR.out.1 2 (by decide)
        have x3 : wr.cell? ⟨b, off + k * 5 + 3, none⟩ = some (.slice da dn dc) := cells6 wr hR.out.1 3 (by decide)
        have x4 : wr.cell? ⟨b, off + k * 5 + 4, none⟩ = some (.slice oa on oc) := cells6 wr hR.out.1 4 (by decide)
        have E7 := rRef_any ca cs ct da dn dc oa on oc wr
        clear hlk hp hpm tk sk hpw hpv hi hdp hop hlo wd wo wq hon hdn hca hcs hct hrf hcl0 hav hrw hab hbz hcl cells6 hk hlt
        go_wp2_with fail
        go_fit E7
        rintro e w7 ⟨rfl, b7⟩
        clear E7 x0 x1 x2 x3 x4
        have bV := b7.alloc b7.size (.cells #[.int .i64 ca, .int .i64 cs] 34)
        have RV := heap_alloc_new w7 (.cells #[.int .i64 ca, .int .i64 cs] 34)
        obtain ⟨V, hV⟩ : ∃ V, V = w7.alloc (.cells #[.int .i64 ca, .int .i64 cs] 34) := ⟨_, rfl⟩
        rw [← hV] at bV RV
        have PV : IsPairs V (.slice sa k sc) (seenK es k) := RowPr.pairs (own_below hR.out.2.2.2 bV (Nat.le_refl _)) (by rw [HS.out.2.2]; omega) HR6.out
        have E8 := rHas_any _ _ (ca, cs) V PV
        rw [decide_eq_false HS.out.1.1, hV] at E8
        have HV : Hid (_ ∧ _) := ⟨bV, RV⟩
        clear bV RV PV b7
        go_wp2_with fail
        go_fit E8
        rintro e w8 ⟨rfl, b8⟩
        rw [← hV] at b8
        have H8 : Hid (Below wr.heap.size wr w8 ∧ w8.heap[w7.heap.size]? = some (.cells #[.int .i64 ca, .int .i64 cs] 34)) := ⟨HV.out.1.trans (b8.mono HV.out.1.size), heap_below HV.out.2 b8 (Nat.le_refl _)⟩
        obtain ⟨X, hX⟩ : ∃ z, w7.heap.size = z := ⟨_, rfl⟩
        rw [hX] at H8 ⊢
        clear E8 b8 HV hV hX
        go_wp2_with fail
        go_loopw [13] (fun i wy => ∃ j : Nat, j ≤ dn ∧ i = .int .i64 j ∧ Hid (Below wr.heap.size wr wy ∧ wy.heap[X]? = some (.cells #[.int .i64 ca, .int .i64 cs] 34))) (fun i _ => dn - (RowKit.intOf i).toNat)
        case atStart => exact ⟨0, Nat.zero_le _, rfl, H8.out⟩
        case round =>
          obtain ⟨j, hj, rfl, hY⟩ := hrel
          have kY := hR.out.1.trans (Kp.of hY.out.1)
          have rowY := own_below hR.out.2.2.2 hY.out.1 (Nat.le_refl _)
          have x3 : wr.cell? ⟨b, off + k * 5 + 3, none⟩ = some (.slice da dn dc) := H5.out wr kY 3 (by decide)
          have pY := HP.out.2.2.2.1.keep kY H6.out.1.noCells
          obtain ⟨a3, c3, hv3, _, hz3, hr3, h3⟩ := id pY
          rw [HP.out.2.2.2.2.1] at hv3 hz3
          have f0 : (0 : Int) ≤ j := by omega
          have f2 : (j : Int) < 8796093022209 := by omega
          by_cases hjl : j < dn
          · have f1 : (j : Int) < dn := by omega
            have hjd : j < p.1.deps.length := by rw [HP.out.2.2.2.2.1]; exact hjl
            obtain ⟨b3, off3, hab3, hbz3, hcl3⟩ := h3 (fun e => by rw [e] at hjd; simp at hjd)
            have hda : da = some ⟨b3, off3, none⟩ := by injection hv3 with e1 _ _; rw [e1, hab3]
            subst hda
            obtain ⟨d, hd⟩ : ∃ z, p.1.deps[j] = z := ⟨_, rfl⟩
            have hdm : d ∈ p.1.deps := by rw [← hd]; exact List.getElem_mem _
            have y0 := (hcl3 j hjd).1
            have y1 := (hcl3 j hjd).2
            rw [hd] at y0 y1
            have E9 := rHas_any _ _ d wr (RowPr.pairs rowY (by rw [HS.out.2.2]; omega) HR6.out)
            rw [decide_eq_true (HS.out.1.2 d hdm)] at E9
            have HJ : Hid (j < dn) := hjl
            clear kY rowY pY hv3 hz3 hr3 h3 hjd hab3 hbz3 hcl3 hd hdm hj hjl
            go_wp2_with fail
            go_fit E9
            rintro e w9 ⟨rfl, b9⟩
            have H9 : Hid _ := b9
            clear E9 y0 y1 x3 b9
            go_wp2_with fail
            go_roundw
            case rel => exact ⟨j + 1, HJ.out, by go_num, hY.out.1.trans (H9.out.mono hY.out.1.size), heap_below hY.out.2 H9.out (Nat.le_refl _)⟩
            case measure => simp [RowKit.intOf]; have := HJ.out; omega
          · have f1 : ¬ (j : Int) < dn := by omega
            have z0 : wr.cell? ⟨X, 0, none⟩ = some (.int .i64 ca) := Lib.cell_of_heap hY.out.2 0
            have z1 : wr.cell? ⟨X, 1, none⟩ = some (.int .i64 cs) := Lib.cell_of_heap hY.out.2 1
            have zX := lt_of_heap hY.out.2
            have bA := (Below.refl wr.heap.size wr).alloc (Nat.le_refl _) (.cells #[.int .i64 ca, .int .i64 cs] 34)
            have rA := own_below rowY bA (Nat.le_refl _)
            have kA := kY.trans (Kp.of bA)
            have mh := (hR.out.2.1.below hY.out.1).below bA
            have mq := (hR.out.2.2.1.below hY.out.1).below bA
            obtain ⟨i0, hi0, hq0, hq1, hq2⟩ := info_parts infoR
            have hown : (wr.alloc (.cells #[.int .i64 ca, .int .i64 cs] 34)).ownsRow w6.heap.size 34 2 (.slice sa k sc) k (pcells (seenK es k)) := by
              have := rA
              unfold RowPr at this
              rw [HS.out.2.2] at this
              exact this
            have cN : ∀ (j : Nat) (u : Value), [Value.int .i64 ca, .int .i64 cs][j]? = some u → (wr.alloc (.cells #[.int .i64 ca, .int .i64 cs] 34)).cell? ((⟨wr.heap.size, 0, none⟩ : Addr).add j) = some u := fun j u hju => by
              have ea : (⟨wr.heap.size, 0, none⟩ : Addr).add j = ⟨wr.heap.size, j, none⟩ := by unfold Addr.add; split <;> simp_all
              rw [ea]
              have hx := heap_alloc_new wr (.cells #[.int .i64 ca, .int .i64 cs] 34)
              unfold World.cell?
              rw [hx]
              simpa using hju
            have HAp : Hid (Kp [h, q] w6 (wr.alloc (.cells #[.int .i64 ca, .int .i64 cs] 34)) ∧ RowPr 34 w6.heap.size (.slice sa k sc) (seenK es k) (wr.alloc (.cells #[.int .i64 ca, .int .i64 cs] 34)) ∧ MapL (wr.alloc (.cells #[.int .i64 ca, .int .i64 cs] 34)) h (ents EH) ∧ MapL (wr.alloc (.cells #[.int .i64 ca, .int .i64 cs] 34)) q (ents EW)) := ⟨kA, rA, mh, mq⟩
            have hBz := kA.size
            clear kY rowY pY hv3 hz3 hr3 h3 hj hjl bA rA kA mh mq
            go_upto_region 27 with (at_builtin; refine wpList_append_own _ rfl _ _ 28 rfl w6.heap.size 34 i0 (.agg #[.int .i64 0, .int .i64 0]) 2 16 Try.underlying28 hi0 hq0 hq1 hq2 rfl (by decide) _ _ _ rfl hown ⟨wr.heap.size, 0, none⟩ 1 1 [.int .i64 ca, .int .i64 cs] rfl rfl cN (by simp [Value.oneCell']) (by unfold maxLen; omega) (by omega) hBz ?_; intro nv U rowU0 hgr hnn)
            have rowU : RowPr 34 w6.heap.size nv (seenK es k ++ [(ca, cs)]) U := by
              show World.ownsRow _ _ _ _ _ _ _
              rw [pcells_append, List.length_append, HS.out.2.2]
              exact rowU0
            have kU := HAp.out.1.row (Nat.le_refl _) HAp.out.2.1 hgr
            have zh := H6.out.1.book.has.lt
            have zq := H6.out.1.book.wait.lt
            have mhU := HAp.out.2.2.1.grown hgr (fun e => by have := (HAp.out.2.1.lt h e.symm).1; omega)
            have mqU := HAp.out.2.2.2.grown hgr (fun e => by have := (HAp.out.2.1.lt q e.symm).1; omega)
            have BU := H6.out.1.back kU mhU mqU
            have t0 : U.cell? ⟨b, off + k * 5, none⟩ = some (.int .i64 ca) := H5.out U kU 0 (by decide)
            have t1 : U.cell? ⟨b, off + k * 5 + 1, none⟩ = some (.int .i64 cs) := H5.out U kU 1 (by decide)
            have t2 : U.cell? ⟨b, off + k * 5 + 2, none⟩ = some (.int .i64 ct) := H5.out U kU 2 (by decide)
            have t3 : U.cell? ⟨b, off + k * 5 + 3, none⟩ = some (.slice da dn dc) := H5.out U kU 3 (by decide)
            have t4 : U.cell? ⟨b, off + k * 5 + 4, none⟩ = some (.slice oa on oc) := H5.out U kU 4 (by decide)
            have E10 := take_any U g h q EH EW p.2 p.1 BU (HP.out.2.1.keep kU H6.out.1.noCells)
            rw [HP.out.2.2.1] at E10
            obtain ⟨na, nc, hnv⟩ := rowPr_len rowU
            rw [List.length_append, HS.out.2.2] at hnv
            subst hnv
            have HU : Hid (Kp [h, q] w6 U ∧ RowPr 34 w6.heap.size (.slice na (k + 1) nc) (seenK es k ++ [(ca, cs)]) U ∧ h < w6.heap.size ∧ q < w6.heap.size) := ⟨kU, rowU, zh, zq⟩
            clear rowU0 rowU hgr hnn kU zh zq mhU mqU BU HAp hown cN hi0 hq0 hq1 hq2 hBz
            go_wp2_with fail
            go_fit E10
            rintro e w12 ⟨er, rfl, EH', EW', K12, _, kp12, hsm, _⟩
            obtain ⟨rfl, e1, e2⟩ := hsm (HT.out.2.2.2.2.2.2 p HP.out.1).2
            rw [e1, e2] at K12
            have H12 : Hid (_ ∧ _) := ⟨K12, kp12⟩
            clear E10 K12 kp12 hsm e1 e2 t0 t1 t2 t3 t4 z0 z1 x3
            go_wp2_with fail
            go_roundw
            case rel =>
              refine ⟨k + 1, HP.out.2.2.2.2.2, by go_num, HU.out.1.trans H12.out.2, H12.out.1.book.has, H12.out.1.book.wait, ?_⟩
              rw [HS.out.2.1]
              exact rowPr_kp HU.out.2.1 H12.out.2 (fun x hx => by simp at hx; rcases hx with hx | hx <;> rw [hx]; exact HU.out.2.2.1; exact HU.out.2.2.2)
            case measure => simp [RowKit.intOf]; have := HP.out.2.2.2.2.2; omega
      · have g1 : ¬ (k : Int) < m := by omega
        obtain rfl : k = m := by omega
        clear hlt hk
        have BW := H6.out.1.back hR.out.1 hR.out.2.1 hR.out.2.2.1
        have AW := H6.out.2.1.keep hR.out.1 H6.out.1.noCells
        have E7 := all_any wr g h q EH EW BW
        have HW : Hid (_ ∧ _) := ⟨BW, AW⟩
        have HLr : Hid _ := HKB.out HL6.out hR.out.1
        clear BW AW
        go_wp2_with fail
        go_fit E7
        rintro e w7 ⟨lv7, rfl, ts7, D7, es7, p7, r7, o7, ok7, e7, row7, m7, b7⟩
        have hm7 := tell_len ok7 e7
        have B7 := HW.out.1.below b7
        have A7 : ArgC w7 lv7 es7 := ⟨rowC_chgs row7 (by have := B7.many; omega) (fun p hp => (m7 p hp).1.chg), fun p hp => (m7 p hp).1⟩
        have hsame : es.map (·.1) = es7.map (·.1) := tell_same HT.out.1 HT.out.2.1 p7 HT.out.2.2.1 r7 HT.out.2.2.2.1 o7 HT.out.2.2.2.2.2.1 e7 (fun p hp => (HT.out.2.2.2.2.2.2 p hp).2) (fun p hp => (m7 p hp).2.2)
        have cE : ∀ l : List CE, (l.map toCX).map (·.c) = l.map (·.1) := fun l => by rw [List.map_map]; rfl
        have E8 := sameC_any _ lv7 _ _ w7 (HW.out.2.below b7).row A7.row (by rw [cE, cE, hsame]) (fun x hx => by obtain ⟨p, hp, rfl⟩ := List.mem_map.1 hx; exact (HT.out.2.2.2.2.2.2 p hp).1)
        have H7 : Hid (Bk w7 g h q EH EW) := B7
        have HL7 : Hid _ := HLr.out.trans (b7.mono HLr.out.size)
        clear E7 p7 r7 o7 ok7 e7 row7 m7 hm7 B7 A7 hsame cE b7
        go_wp2_with fail
        go_fit E8
        rintro e w8 ⟨rfl, b8⟩
        have E9 := heads_any w8 g h q EH EW (H7.out.below b8)
        have HL8 : Hid _ := HL7.out.trans (b8.mono HL7.out.size)
        clear E8 b8
        go_wp2_with fail
        go_fit E9
        rintro e w9 ⟨hv, rfl, ha, hn, hc, rfl, hhe, b9⟩
        clear E9
        have hz : (k = 0) ↔ (hn = 0) := by rw [hhe, H6.out.2.2.2.1, List.length_eq_zero_iff]
        have HL9 : Hid _ := HL8.out.trans (b9.mono HL8.out.size)
        clear hhe b9
        by_cases hk0 : k = 0
        · have hn0 := hz.1 hk0
          subst hk0
          subst hn0
          go_wp2_with fail
          go_ret
          exact ⟨rfl, HL9.out⟩
        · have hn0 : ¬ hn = 0 := fun e => hk0 (hz.2 e)
          go_wp2_with fail
          go_ret
          have i0 : ((k : Int) == 0) = false := by rw [beq_eq_false_iff_ne]; omega
          have i1 : ((hn : Int) == 0) = false := by rw [beq_eq_false_iff_ne]; omega
          refine ⟨?_, HL9.out⟩
          show Ending.returned (.bool (((k : Int) == 0) == ((hn : Int) == 0))) = _
          rw [i0, i1]
          rfl
end Go.Proofs.Ytbjnemmghpmjjaa
