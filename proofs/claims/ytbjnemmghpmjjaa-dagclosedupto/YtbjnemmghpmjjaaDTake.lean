/-
  What is proved: what package dag's Take does: the book still hangs together, and has all that it had; a change that it has is taken and changes nothing.
  Conditions: the book, and the change, lie in memory.
-/
import Derived.Test.YtbjnemmghpmjjaaDWake
import Derived.Test.YtbjnemmghpmjjaaGCopy
import Derived.Test.YtbjnemmghpmjjaaGFind
namespace Go.Proofs.Ytbjnemmghpmjjaa
open Go.RowKit Go.Maps

/-- What Take does and answers. -/
def TakeP (w : World) (g h q : Nat) (EH EW : List CE) (c : Chg) (er : Value) (w' : World) : Prop :=
  ∃ EH' EW', Bk w' g h q EH' EW' ∧ EH <+: EH' ∧ Kp [h, q] w w' ∧ ((∃ u, (c, u) ∈ EH) → er = .nilIface ∧ EH' = EH ∧ EW' = EW) ∧
    (EH = [] → EW = [] → c.deps = [] → c.ops = [] → c.seq = 1 → chk c = 0 → er = .nilIface ∧ c.ref ∈ EH'.map (·.1.ref))

theorem keepT {W W' : World} {g i m rb xb dn dc on oc : Nat} {ca cs ct : Int} {da oa : Option Addr} (h : W.cell? ⟨g, i, none⟩ = some (.map (some m)) ∧ W.cell? ⟨rb, 0, none⟩ = some (.int .i64 ca) ∧ W.cell? ⟨rb, 1, none⟩ = some (.int .i64 cs) ∧ W.cell? ⟨xb, 0, none⟩ = some (.int .i64 ca) ∧ W.cell? ⟨xb, 1, none⟩ = some (.int .i64 cs) ∧ W.cell? ⟨xb, 2, none⟩ = some (.int .i64 ct) ∧ W.cell? ⟨xb, 3, none⟩ = some (.slice da dn dc) ∧ W.cell? ⟨xb, 4, none⟩ = some (.slice oa on oc)) (hb : Below W.heap.size W W') : W'.cell? ⟨g, i, none⟩ = some (.map (some m)) ∧ W'.cell? ⟨rb, 0, none⟩ = some (.int .i64 ca) ∧ W'.cell? ⟨rb, 1, none⟩ = some (.int .i64 cs) ∧ W'.cell? ⟨xb, 0, none⟩ = some (.int .i64 ca) ∧ W'.cell? ⟨xb, 1, none⟩ = some (.int .i64 cs) ∧ W'.cell? ⟨xb, 2, none⟩ = some (.int .i64 ct) ∧ W'.cell? ⟨xb, 3, none⟩ = some (.slice da dn dc) ∧ W'.cell? ⟨xb, 4, none⟩ = some (.slice oa on oc) := by
  obtain ⟨h0, h1, h2, h3, h4, h5, h6, h7⟩ := h
  exact ⟨(hb.cell (cell_in h0)).trans h0, (hb.cell (cell_in h1)).trans h1, (hb.cell (cell_in h2)).trans h2, (hb.cell (cell_in h3)).trans h3, (hb.cell (cell_in h4)).trans h4, (hb.cell (cell_in h5)).trans h5, (hb.cell (cell_in h6)).trans h6, (hb.cell (cell_in h7)).trans h7⟩

theorem kept_cell {S : List Nat} {W W' : World} {b o : Nat} {v : Value} (h : W.cell? ⟨b, o, none⟩ = some v) (kp : Kp S W W') (nc : NoCells W S) : W'.cell? ⟨b, o, none⟩ = some v :=
  (kp.cell (p := ⟨b, o, none⟩) (cell_in h) (fun e => by have := nc b e o; rw [h] at this; cases this)).trans h

theorem keepP {S : List Nat} {W W' : World} {g i m rb xb dn dc on oc : Nat} {ca cs ct : Int} {da oa : Option Addr} (h : W.cell? ⟨g, i, none⟩ = some (.map (some m)) ∧ W.cell? ⟨rb, 0, none⟩ = some (.int .i64 ca) ∧ W.cell? ⟨rb, 1, none⟩ = some (.int .i64 cs) ∧ W.cell? ⟨xb, 0, none⟩ = some (.int .i64 ca) ∧ W.cell? ⟨xb, 1, none⟩ = some (.int .i64 cs) ∧ W.cell? ⟨xb, 2, none⟩ = some (.int .i64 ct) ∧ W.cell? ⟨xb, 3, none⟩ = some (.slice da dn dc) ∧ W.cell? ⟨xb, 4, none⟩ = some (.slice oa on oc)) (kp : Kp S W W') (nc : NoCells W S) : W'.cell? ⟨g, i, none⟩ = some (.map (some m)) ∧ W'.cell? ⟨rb, 0, none⟩ = some (.int .i64 ca) ∧ W'.cell? ⟨rb, 1, none⟩ = some (.int .i64 cs) ∧ W'.cell? ⟨xb, 0, none⟩ = some (.int .i64 ca) ∧ W'.cell? ⟨xb, 1, none⟩ = some (.int .i64 cs) ∧ W'.cell? ⟨xb, 2, none⟩ = some (.int .i64 ct) ∧ W'.cell? ⟨xb, 3, none⟩ = some (.slice da dn dc) ∧ W'.cell? ⟨xb, 4, none⟩ = some (.slice oa on oc) := by
  obtain ⟨h0, h1, h2, h3, h4, h5, h6, h7⟩ := h
  exact ⟨kept_cell h0 kp nc, kept_cell h1 kp nc, kept_cell h2 kp nc, kept_cell h3 kp nc, kept_cell h4 kp nc, kept_cell h5 kp nc, kept_cell h6 kp nc, kept_cell h7 kp nc⟩

set_option maxRecDepth 100000 in
set_option maxHeartbeats 8000000 in
theorem take_any (w : World) (g h q : Nat) (EH EW : List CE) (v : Value) (c : Chg) (B : Bk w g h q EH EW) (hv : IsChgW w v c) :
    Calls Try.prog 5 #[.pointer (some ⟨g, 0, none⟩), v] w fun e w' => ∃ er, e = .returned er ∧ TakeP w g h q EH EW c er w' := by
  obtain ⟨ud, uo, lo, rfl, hi, hdp, hop, hlo, wd, wo, wq⟩ := id hv
  obtain ⟨da, dc, rfl, _⟩ := id hdp
  obtain ⟨oa, oc, rfl, _⟩ := id hop
  have b0 := (Below.refl w.heap.size w).alloc (Nat.le_refl _) (.cells #[.int .i64 c.actor, .int .i64 c.seq, .int .i64 c.start, .slice da c.deps.length dc, .slice oa lo.length oc] 31)
  have x0 := heap_alloc_new w (.cells #[.int .i64 c.actor, .int .i64 c.seq, .int .i64 c.start, .slice da c.deps.length dc, .slice oa lo.length oc] 31)
  have E1 := check_any _ c _ (hv.below b0).chg
  obtain ⟨on, hon⟩ : ∃ z, lo.length = z := ⟨_, rfl⟩
  obtain ⟨dn, hdn⟩ : ∃ z, c.deps.length = z := ⟨_, rfl⟩
  obtain ⟨ca, hca⟩ : ∃ z, c.actor = z := ⟨_, rfl⟩
  obtain ⟨cs, hcs⟩ : ∃ z, c.seq = z := ⟨_, rfl⟩
  obtain ⟨ct, hct⟩ : ∃ z, c.start = z := ⟨_, rfl⟩
  rw [hca, hcs, hct, hon, hdn] at b0 x0 E1 hv ⊢
  rw [hdn] at hdp
  have HN : Hid (c.ref = (ca, cs) ∧ c.deps.length = dn) := ⟨by unfold Chg.ref; rw [hca, hcs], hdn⟩
  have HI : Hid (R64 (ca, cs)) := ⟨by rw [← hca]; exact hi.1, by rw [← hcs]; exact hi.2.1⟩
  have HA : Hid (Bk w g h q EH EW ∧ IsChgW w (.agg #[.int .i64 ca, .int .i64 cs, .int .i64 ct, .slice da dn dc, .slice oa on oc]) c ∧ IsPairs w (.slice da dn dc) c.deps) := ⟨B, hv, hdp⟩
  have HX : Hid (_ ∧ _) := ⟨b0, x0⟩
  clear B hv hdp hop hlo wd wo wq hi b0 x0 hca hcs hct hon hdn
  have stay : ∀ {W : World} {er : Value}, Below w.heap.size w W → ((∃ u, (c, u) ∈ EH) → er = .nilIface) → (EH = [] → EW = [] → c.deps = [] → c.ops = [] → c.seq = 1 → chk c = 0 → False) → TakeP w g h q EH EW c er W := fun {W er} b e1 e2 =>
    ⟨EH, EW, HA.out.1.below b, List.prefix_refl _, Kp.of b, fun hu => ⟨e1 hu, rfl, rfl⟩, fun a1 a2 a3 a4 a5 a6 => absurd (e2 a1 a2 a3 a4 a5 a6) id⟩
  have HS : Hid (∀ {W : World} {er : Value}, Below w.heap.size w W → ((∃ u, (c, u) ∈ EH) → er = .nilIface) → (EH = [] → EW = [] → c.deps = [] → c.ops = [] → c.seq = 1 → chk c = 0 → False) → TakeP w g h q EH EW c er W) := stay
  clear stay
  obtain ⟨ce, hce⟩ : ∃ z, chk c = z := ⟨_, rfl⟩
  rw [hce] at E1
  go_enter Try.func5, Try.ntmps5
  go_wp2_with fail
  go_fit E1
  rintro e w1 ⟨rfl, b1⟩
  by_cases h0 : ce = 0
  · subst h0
    have HC : Hid (chk c = 0) := hce
    have e0 : errV 0 = .nilIface := rfl
    rw [e0]
    have X1 := heap_below HX.out.2 b1 (Nat.le_refl _)
    have B1 : Below w.heap.size w w1 := HX.out.1.trans (b1.mono HX.out.1.size)
    clear hce e0 E1 HX b1
    have x0 : w1.cell? ⟨w.heap.size, 0, none⟩ = some (.int .i64 ca) := Lib.cell_of_heap X1 0
    have x1 : w1.cell? ⟨w.heap.size, 1, none⟩ = some (.int .i64 cs) := Lib.cell_of_heap X1 1
    have x2 : w1.cell? ⟨w.heap.size, 2, none⟩ = some (.int .i64 ct) := Lib.cell_of_heap X1 2
    have x3 : w1.cell? ⟨w.heap.size, 3, none⟩ = some (.slice da dn dc) := Lib.cell_of_heap X1 3
    have x4 : w1.cell? ⟨w.heap.size, 4, none⟩ = some (.slice oa on oc) := Lib.cell_of_heap X1 4
    have zx := lt_of_heap X1
    have E4 := refOf_any ca cs ct da dn dc oa on oc w1
    have H1 : Hid (_ ∧ _) := ⟨X1, B1⟩
    clear X1 B1
    go_wp2_with fail
    go_fit E4
    rintro e w2 ⟨rfl, b2⟩
    clear E4 x0 x1 x2 x3 x4 zx
    have bR := b2.alloc b2.size (.cells #[.int .i64 ca, .int .i64 cs] 34)
    have R2 := heap_alloc_new w2 (.cells #[.int .i64 ca, .int .i64 cs] 34)
    obtain ⟨W, hW⟩ : ∃ W, W = w2.alloc (.cells #[.int .i64 ca, .int .i64 cs] 34) := ⟨_, rfl⟩
    rw [← hW] at bR R2
    have BW : Below w.heap.size w W := H1.out.2.trans (bR.mono H1.out.2.size)
    have XW := heap_below H1.out.1 bR (Nat.le_refl _)
    have E5 := find_any g h q (ents EH) (ents EW) (ca, cs) W (HA.out.1.below BW).book HI.out (HA.out.1.below BW).cvH (HA.out.1.below BW).cvW
    obtain ⟨fb, hfb⟩ : ∃ z : Bool, (fnd (ents EH) (ents EW) (ca, cs)).isSome = z := ⟨_, rfl⟩
    obtain ⟨va, vs, vt, vd, vn, vc, vo, vm, ve, hvv⟩ : CV ((fnd (ents EH) (ents EW) (ca, cs)).getD zC) := by
      unfold fnd
      cases hl : lk (ents EH) (ca, cs) with
      | none => simpa using cv_look (HA.out.1.below BW).cvW (ca, cs)
      | some u => simpa using (HA.out.1.below BW).cvH _ (lk_mem hl)
    rw [hfb, hvv] at E5
    have H2 : Hid (_ ∧ _ ∧ _) := ⟨XW, BW, R2⟩
    have HF : Hid (_ ∧ _) := ⟨hfb, hvv⟩
    rw [hW] at E5
    clear b2 bR R2 XW BW hfb hvv H1
    go_wp2_with fail
    go_fit E5
    rintro e w3 ⟨rfl, b3⟩
    rw [← hW] at b3
    clear E5
    have HWs : Hid (W = _) := hW
    clear hW
    have bO := b3.alloc b3.size (.cells #[.int .i64 va, .int .i64 vs, .int .i64 vt, .slice vd vn vc, .slice vo vm ve] 31)
    have OB := heap_alloc_new w3 (.cells #[.int .i64 va, .int .i64 vs, .int .i64 vt, .slice vd vn vc, .slice vo vm ve] 31)
    have XO := heap_below H2.out.1 bO (Nat.le_refl _)
    have RO := heap_below H2.out.2.2 bO (Nat.le_refl _)
    have BO : Below w.heap.size w _ := H2.out.2.1.trans (bO.mono H2.out.2.1.size)
    have H3 : Hid (_ ∧ _ ∧ _ ∧ _) := ⟨XO, RO, OB, BO⟩
    clear bO OB XO RO BO b3 H2
    cases fb with
    | true =>
      go_upto_region 7 with fail
      obtain ⟨XO, RO, OB, BO⟩ := H3.out
      clear H3
      generalize w3.alloc (.cells #[.int .i64 va, .int .i64 vs, .int .i64 vt, .slice vd vn vc, .slice vo vm ve] 31) = V at *
      have x0 : V.cell? ⟨w.heap.size, 0, none⟩ = some (.int .i64 ca) := Lib.cell_of_heap XO 0
      have x1 : V.cell? ⟨w.heap.size, 1, none⟩ = some (.int .i64 cs) := Lib.cell_of_heap XO 1
      have x2 : V.cell? ⟨w.heap.size, 2, none⟩ = some (.int .i64 ct) := Lib.cell_of_heap XO 2
      have x3 : V.cell? ⟨w.heap.size, 3, none⟩ = some (.slice da dn dc) := Lib.cell_of_heap XO 3
      have x4 : V.cell? ⟨w.heap.size, 4, none⟩ = some (.slice oa on oc) := Lib.cell_of_heap XO 4
      have o0 : V.cell? ⟨w3.heap.size, 0, none⟩ = some (.int .i64 va) := Lib.cell_of_heap OB 0
      have o1 : V.cell? ⟨w3.heap.size, 1, none⟩ = some (.int .i64 vs) := Lib.cell_of_heap OB 1
      have o2 : V.cell? ⟨w3.heap.size, 2, none⟩ = some (.int .i64 vt) := Lib.cell_of_heap OB 2
      have o3 : V.cell? ⟨w3.heap.size, 3, none⟩ = some (.slice vd vn vc) := Lib.cell_of_heap OB 3
      have o4 : V.cell? ⟨w3.heap.size, 4, none⟩ = some (.slice vo vm ve) := Lib.cell_of_heap OB 4
      have zx := lt_of_heap XO
      have zo := lt_of_heap OB
      obtain ⟨c', hc', hcc⟩ : ∃ c', IsChg w (.agg #[.int .i64 va, .int .i64 vs, .int .i64 vt, .slice vd vn vc, .slice vo vm ve]) c' ∧ ((∃ u, (c, u) ∈ EH) → c' = c) := by
        have h1 := HF.out.1
        have h2 := HF.out.2
        unfold fnd at h1 h2
        cases hl : lk (ents EH) (ca, cs) with
        | some u =>
          rw [hl] at h2
          simp at h2
          subst h2
          obtain ⟨c', hm, hr⟩ := lk_ents hl
          refine ⟨c', (HA.out.1.chgs _ (List.mem_append_left _ hm)).1.chg, fun ⟨u', hu'⟩ => ?_⟩
          have hnd := (nodup_ents HA.out.1).1
          obtain ⟨i, hi, ei⟩ := List.getElem_of_mem hm
          obtain ⟨j, hj, ej⟩ := List.getElem_of_mem hu'
          have hij : i = j := by
            have hh := List.pairwise_iff_getElem.1 hnd
            rcases Nat.lt_trichotomy i j with hlt | he | hlt
            · have := hh i j (by simpa using hi) (by simpa using hj) hlt
              simp only [List.getElem_map, ei, ej] at this
              exact absurd (hr.trans HN.out.1.symm) this
            · exact he
            · have := hh j i (by simpa using hj) (by simpa using hi) hlt
              simp only [List.getElem_map, ei, ej] at this
              exact absurd (hr.trans HN.out.1.symm).symm this
          subst hij
          rw [ei] at ej
          exact (Prod.mk.inj ej).1
        | none =>
          rw [hl] at h1 h2
          simp at h1 h2
          cases hl2 : lk (ents EW) (ca, cs) with
          | none => rw [hl2] at h1; simp at h1
          | some u =>
            rw [hl2] at h2
            simp at h2
            subst h2
            obtain ⟨c', hm, hr⟩ := lk_ents hl2
            refine ⟨c', (HA.out.1.chgs _ (List.mem_append_right _ hm)).1.chg, fun ⟨u', hu'⟩ => ?_⟩
            exfalso
            have h5 : (ca, cs) ∈ EH.map (·.1.ref) := by rw [← HN.out.1]; exact List.mem_map.2 ⟨_, hu', rfl⟩
            rw [mem_keys, hl] at h5
            simp at h5
      have E6 := clash_any _ _ c' c V (hc'.below BO) (HA.out.2.1.below BO).chg
      have HB : Hid (Below w.heap.size w V) := BO
      have HCC : Hid ((∃ u, (c, u) ∈ EH) → c' = c) := hcc
      clear XO RO OB BO hc' hcc
      go_wp2_with fail
      go_fit E6
      rintro e w4 ⟨⟨cb, rfl, hcb⟩, b4⟩
      have HZ : Hid (TakeP w g h q EH EW c (if cb = true then .nilIface else .iface 47 (.int .i64 8)) w4) := by
        refine HS.out (HB.out.trans (b4.mono HB.out.size)) (fun hu => by rw [if_pos (hcb (HCC.out hu))]) (fun e1 e2 _ _ _ _ => ?_)
        have h1 := HF.out.1
        subst e1 e2
        simp [fnd, ents, lk] at h1
      clear hcb b4 E6 x0 x1 x2 x3 x4 o0 o1 o2 o3 o4 zx zo
      cases cb with
      | true =>
        go_wp2
        go_ret
        exact ⟨_, rfl, HZ.out⟩
      | false =>
        go_wp2
        go_ret
        exact ⟨_, rfl, HZ.out⟩
    | false =>
      have hno : c.ref ∉ EH.map (·.1.ref) ∧ c.ref ∉ EW.map (·.1.ref) := by
        have h1 := HF.out.1
        unfold fnd at h1
        cases hl : lk (ents EH) (ca, cs) with
        | some u => rw [hl] at h1; simp at h1
        | none =>
          rw [hl] at h1
          cases hl2 : lk (ents EW) (ca, cs) with
          | some u => rw [hl2] at h1; simp at h1
          | none =>
            rw [HN.out.1]
            refine ⟨fun e => ?_, fun e => ?_⟩
            · rw [mem_keys, hl] at e; cases e
            · rw [mem_keys, hl2] at e; cases e
      have HNO : Hid (c.ref ∉ EH.map (·.1.ref) ∧ c.ref ∉ EW.map (·.1.ref)) := hno
      clear hno
      go_upto_region 8 with fail
      obtain ⟨XO, RO, OB, BO⟩ := H3.out
      clear H3
      generalize w3.alloc (.cells #[.int .i64 va, .int .i64 vs, .int .i64 vt, .slice vd vn vc, .slice vo vm ve] 31) = V at *
      have BV := HA.out.1.below BO
      have k0 : V.cell? ⟨g, 0, none⟩ = some (.map (some h)) := Lib.cell_of_heap BV.book.box 0
      have k1 : V.cell? ⟨g, 1, none⟩ = some (.map (some q)) := Lib.cell_of_heap BV.book.box 1
      have mh := BV.book.has
      have mq := BV.book.wait
      have zg := lt_of_heap BV.book.box
      have H4 : Hid (_ ∧ _ ∧ _ ∧ _) := ⟨XO, RO, BO, BV⟩
      clear XO RO OB BO BV
      refine wp_region_noPanic ?_
      refine wp_region_held_drew (S := fun W => W.cell? ⟨g, 0, none⟩ = some (.map (some h)) ∧ W.cell? ⟨g, 1, none⟩ = some (.map (some q)) ∧ MapL W h (ents EH) ∧ MapL W q (ents EW)) (by kernel_rfl) (⟨k0, k1, ⟨mh.own, mh.nd, mh.r64⟩, ⟨mq.own, mq.nd, mq.r64⟩⟩) (fun hHeld => ?_)
      refine wpAnyH_take (i := 0) (oi := { dst := some 26, op := Op.move (Operand.tmp 0), type := 23, pos := "dag.go:34", after := #[], guard := none }) (v := ?_) rfl (by kernel_rfl) (by kernel_rfl) (by kernel_rfl) (fun _ _ _ h => h) (Or.inl ⟨by rfl, ?_⟩) (by assumption) ?_
      rotate_left
      · intro wz hSw
        try dsimp only at hSw
        go_simp
        try with_reducible rfl
      try simp only [Act.put, List.setIfInBounds_toArray, List.set_cons_zero, List.set_cons_succ]
      refine wpAnyH_take (i := 1) (oi := { dst := some 27, op := Op.nilCheck (Operand.tmp 26), type := 0, pos := "dag.go:34", after := #[{ on := 0, ground := Ground.data }], guard := none }) (v := ?_) rfl (by kernel_rfl) (by kernel_rfl) (by kernel_rfl) (fun _ _ _ h => h) (Or.inl ⟨by rfl, ?_⟩) (by assumption) ?_
      rotate_left
      · intro wz hSw
        try dsimp only at hSw
        go_simp
        try with_reducible rfl
      try simp only [Act.put, List.setIfInBounds_toArray, List.set_cons_zero, List.set_cons_succ]
      refine wpAnyH_take (i := 2) (oi := { dst := some 28, op := Op.fieldAddr 43 (Operand.tmp 27) 0, type := 0, pos := "dag.go:34", after := #[{ on := 1, ground := Ground.data }], guard := none }) (v := ?_) rfl (by kernel_rfl) (by kernel_rfl) (by kernel_rfl) (fun _ _ _ h => h) (Or.inl ⟨by rfl, ?_⟩) (by assumption) ?_
      rotate_left
      · intro wz hSw
        try dsimp only at hSw
        go_simp
        try with_reducible rfl
      try simp only [Act.put, List.setIfInBounds_toArray, List.set_cons_zero, List.set_cons_succ]
      refine wpAnyH_take (i := 3) (oi := { dst := some 29, op := Op.load 41 (Operand.tmp 28), type := 41, pos := "dag.go:34", after := #[{ on := 2, ground := Ground.data }], guard := none }) (v := ?_) rfl (by kernel_rfl) (by kernel_rfl) (by kernel_rfl) (fun _ _ _ h => h) (Or.inl ⟨by rfl, ?_⟩) (by assumption) ?_
      rotate_left
      · intro wz hSw
        try dsimp only at hSw
        go_simp
        try with_reducible rfl
      try simp only [Act.put, List.setIfInBounds_toArray, List.set_cons_zero, List.set_cons_succ]
      refine wpAnyH_take (i := 4) (oi := { dst := some 30, op := Op.call { callee := Callee.builtin Builtin.len, args := #[Operand.tmp 29], argTypes := #[41] }, type := 3, pos := "dag.go:34", after := #[{ on := 3, ground := Ground.data }], guard := none }) (v := .int .i64 EH.length) rfl (by kernel_rfl) (by kernel_rfl) (by kernel_rfl) (fun _ _ _ h => h) (Or.inl ⟨by rfl, ?_⟩) (by assumption) ?_
      · intro wz hSw
        have hl := hSw.2.2.1.len Try.underlying41 3
        rw [ents_len] at hl
        simp [Act.eval, hl, go_sem]
      try simp only [Act.put, List.setIfInBounds_toArray, List.set_cons_zero, List.set_cons_succ]
      refine wpAnyH_take (i := 5) (oi := { dst := some 31, op := Op.move (Operand.tmp 0), type := 23, pos := "dag.go:34", after := #[], guard := none }) (v := ?_) rfl (by kernel_rfl) (by kernel_rfl) (by kernel_rfl) (fun _ _ _ h => h) (Or.inl ⟨by rfl, ?_⟩) (by assumption) ?_
      rotate_left
      · intro wz hSw
        try dsimp only at hSw
        go_simp
        try with_reducible rfl
      try simp only [Act.put, List.setIfInBounds_toArray, List.set_cons_zero, List.set_cons_succ]
      refine wpAnyH_take (i := 6) (oi := { dst := some 32, op := Op.nilCheck (Operand.tmp 31), type := 0, pos := "dag.go:34", after := #[{ on := 5, ground := Ground.data }], guard := none }) (v := ?_) rfl (by kernel_rfl) (by kernel_rfl) (by kernel_rfl) (fun _ _ _ h => h) (Or.inl ⟨by rfl, ?_⟩) (by assumption) ?_
      rotate_left
      · intro wz hSw
        try dsimp only at hSw
        go_simp
        try with_reducible rfl
      try simp only [Act.put, List.setIfInBounds_toArray, List.set_cons_zero, List.set_cons_succ]
      refine wpAnyH_take (i := 7) (oi := { dst := some 33, op := Op.fieldAddr 43 (Operand.tmp 32) 1, type := 0, pos := "dag.go:34", after := #[{ on := 6, ground := Ground.data }], guard := none }) (v := ?_) rfl (by kernel_rfl) (by kernel_rfl) (by kernel_rfl) (fun _ _ _ h => h) (Or.inl ⟨by rfl, ?_⟩) (by assumption) ?_
      rotate_left
      · intro wz hSw
        try dsimp only at hSw
        go_simp
        try with_reducible rfl
      try simp only [Act.put, List.setIfInBounds_toArray, List.set_cons_zero, List.set_cons_succ]
      refine wpAnyH_take (i := 8) (oi := { dst := some 34, op := Op.load 41 (Operand.tmp 33), type := 41, pos := "dag.go:34", after := #[{ on := 7, ground := Ground.data }], guard := none }) (v := ?_) rfl (by kernel_rfl) (by kernel_rfl) (by kernel_rfl) (fun _ _ _ h => h) (Or.inl ⟨by rfl, ?_⟩) (by assumption) ?_
      rotate_left
      · intro wz hSw
        try dsimp only at hSw
        go_simp
        try with_reducible rfl
      try simp only [Act.put, List.setIfInBounds_toArray, List.set_cons_zero, List.set_cons_succ]
      refine wpAnyH_take (i := 9) (oi := { dst := some 35, op := Op.call { callee := Callee.builtin Builtin.len, args := #[Operand.tmp 34], argTypes := #[41] }, type := 3, pos := "dag.go:34", after := #[{ on := 8, ground := Ground.data }, { on := 4, ground := Ground.chain }], guard := none }) (v := .int .i64 EW.length) rfl (by kernel_rfl) (by kernel_rfl) (by kernel_rfl) (fun _ _ _ h => h) (Or.inl ⟨by rfl, ?_⟩) (by assumption) ?_
      · intro wz hSw
        have hl := hSw.2.2.2.len Try.underlying41 3
        rw [ents_len] at hl
        simp [Act.eval, hl, go_sem]
      try simp only [Act.put, List.setIfInBounds_toArray, List.set_cons_zero, List.set_cons_succ]
      refine wpAnyH_take (i := 10) (oi := { dst := some 36, op := Op.binOp BinOp.add 3 (Operand.tmp 30) (Operand.tmp 35) 3, type := 3, pos := "dag.go:34", after := #[{ on := 4, ground := Ground.data }, { on := 9, ground := Ground.data }], guard := none }) (v := ?_) rfl (by kernel_rfl) (by kernel_rfl) (by kernel_rfl) (fun _ _ _ h => h) (Or.inl ⟨by rfl, ?_⟩) (by assumption) ?_
      rotate_left
      · intro wz hSw
        try dsimp only at hSw
        go_simp
        try with_reducible rfl
      try simp only [Act.put, List.setIfInBounds_toArray, List.set_cons_zero, List.set_cons_succ]
      refine wpAnyH_take (i := 11) (oi := { dst := some 37, op := Op.binOp BinOp.geq 3 (Operand.tmp 36) (Operand.const (Value.int IntKind.i64 120)) 3, type := 4, pos := "dag.go:34", after := #[{ on := 10, ground := Ground.data }], guard := none }) (v := ?_) rfl (by kernel_rfl) (by kernel_rfl) (by kernel_rfl) (fun _ _ _ h => h) (Or.inl ⟨by rfl, ?_⟩) (by assumption) ?_
      rotate_left
      · intro wz hSw
        try dsimp only at hSw
        go_simp
        try with_reducible rfl
      try simp only [Act.put, List.setIfInBounds_toArray, List.set_cons_zero, List.set_cons_succ]
      refine wpAnyH_done (by kernel_rfl) ?_ _
      refine NoPanic.normal ?_
      clear hHeld k0 k1 mh mq zg
      obtain ⟨XO, RO, BO, BV⟩ := H4.out
      have bd := drew_of (Below.refl V.heap.size V)
      have XD := heap_below XO bd (Nat.le_refl _)
      have RD := heap_below RO bd (Nat.le_refl _)
      have BD : Below w.heap.size w V.drew := drew_of BO
      have BVD := HA.out.1.below BD
      clear H4 XO RO BO BV bd
      generalize V.drew = Y at *
      have hwr : IntKind.i64.wrap ((EH.length : Int) + EW.length) = (EH.length : Int) + EW.length := IntWalk.i64_in _ (by have := BVD.many; omega)
      rw [hwr]
      clear hwr
      by_cases hfull : 120 ≤ EH.length + EW.length
      · have hf1 : (120 : Int) ≤ (EH.length : Int) + EW.length := by omega
        have HZ : Hid (TakeP w g h q EH EW c (.iface 47 (.int .i64 4)) Y) := HS.out BD (fun ⟨u, hu⟩ => absurd (List.mem_map.2 ⟨_, hu, rfl⟩) HNO.out.1) (fun e1 e2 _ _ _ _ => by subst e1 e2; simp at hfull)
        clear XD RD BD BVD hfull
        go_wp2
        go_ret
        exact ⟨_, rfl, HZ.out⟩
      · have hf1 : ¬ (120 : Int) ≤ (EH.length : Int) + EW.length := by omega
        have HFU : Hid (EH.length + EW.length < 120) := by show _ < _; omega
        clear hfull
        have x3 : Y.cell? ⟨w.heap.size, 3, none⟩ = some (.slice da dn dc) := Lib.cell_of_heap XD 3
        have zx := lt_of_heap XD
        have E7 := hasAll_any g h q (ents EH) (ents EW) _ c.deps Y BVD.book (HA.out.2.2.below BD) BVD.cvH
        obtain ⟨hb7, hhb⟩ : ∃ z : Bool, Hid (hasL (ents EH) c.deps = z) := ⟨_, rfl⟩
        rw [hhb.out] at E7
        have H4 : Hid (_ ∧ _ ∧ _ ∧ _) := ⟨XD, RD, BD, BVD⟩
        clear XD RD BD BVD
        cases hb7 with
        | false =>
          go_wp2_with fail
          go_fit E7
          rintro e w7 ⟨rfl, b7⟩
          have X7 := heap_below H4.out.1 b7 (Nat.le_refl _)
          have R7 := heap_below H4.out.2.1 b7 (Nat.le_refl _)
          have B7 : Below w.heap.size w w7 := H4.out.2.2.1.trans (b7.mono H4.out.2.2.1.size)
          have BK7 := H4.out.2.2.2.below b7
          clear E7 x3 zx b7 H4
          have few := chk_few HC.out
          have EC := copyOf_any _ c w7.drew (HA.out.2.1.below (drew_of B7)) (by omega) (by omega) (fun o ho => by have := few.2.2.1 o ho; omega)
          have k1 : w7.cell? ⟨g, 1, none⟩ = some (.map (some q)) := Lib.cell_of_heap BK7.book.box 1
          have r0 : w7.cell? ⟨w2.heap.size, 0, none⟩ = some (.int .i64 ca) := Lib.cell_of_heap R7 0
          have r1 : w7.cell? ⟨w2.heap.size, 1, none⟩ = some (.int .i64 cs) := Lib.cell_of_heap R7 1
          have x0 : w7.cell? ⟨w.heap.size, 0, none⟩ = some (.int .i64 ca) := Lib.cell_of_heap X7 0
          have x1 : w7.cell? ⟨w.heap.size, 1, none⟩ = some (.int .i64 cs) := Lib.cell_of_heap X7 1
          have x2 : w7.cell? ⟨w.heap.size, 2, none⟩ = some (.int .i64 ct) := Lib.cell_of_heap X7 2
          have x3 : w7.cell? ⟨w.heap.size, 3, none⟩ = some (.slice da dn dc) := Lib.cell_of_heap X7 3
          have x4 : w7.cell? ⟨w.heap.size, 4, none⟩ = some (.slice oa on oc) := Lib.cell_of_heap X7 4
          clear few X7 R7
          go_upto_region 11 with fail
          refine wp_region_noPanic ?_
          refine wp_region_held_drew (S := fun W => W.cell? ⟨g, 1, none⟩ = some (.map (some q)) ∧ W.cell? ⟨w2.heap.size, 0, none⟩ = some (.int .i64 ca) ∧ W.cell? ⟨w2.heap.size, 1, none⟩ = some (.int .i64 cs) ∧ W.cell? ⟨w.heap.size, 0, none⟩ = some (.int .i64 ca) ∧ W.cell? ⟨w.heap.size, 1, none⟩ = some (.int .i64 cs) ∧ W.cell? ⟨w.heap.size, 2, none⟩ = some (.int .i64 ct) ∧ W.cell? ⟨w.heap.size, 3, none⟩ = some (.slice da dn dc) ∧ W.cell? ⟨w.heap.size, 4, none⟩ = some (.slice oa on oc)) (by kernel_rfl) (⟨k1, r0, r1, x0, x1, x2, x3, x4⟩) (fun hHeld => ?_)
          refine wpAnyH_take (i := 0) (oi := { dst := some 44, op := Op.move (Operand.tmp 0), type := 23, pos := "dag.go:38", after := #[], guard := none }) (v := ?_) rfl (by kernel_rfl) (by kernel_rfl) (by kernel_rfl) (fun _ _ _ h => h) (Or.inl ⟨by rfl, ?_⟩) (by assumption) ?_
          rotate_left
          · intro wz hSw
            try dsimp only at hSw
            go_simp
            try with_reducible rfl
          try simp only [Act.put, List.setIfInBounds_toArray, List.set_cons_zero, List.set_cons_succ]
          refine wpAnyH_take (i := 1) (oi := { dst := some 45, op := Op.nilCheck (Operand.tmp 44), type := 0, pos := "dag.go:38", after := #[{ on := 0, ground := Ground.data }], guard := none }) (v := ?_) rfl (by kernel_rfl) (by kernel_rfl) (by kernel_rfl) (fun _ _ _ h => h) (Or.inl ⟨by rfl, ?_⟩) (by assumption) ?_
          rotate_left
          · intro wz hSw
            try dsimp only at hSw
            go_simp
            try with_reducible rfl
          try simp only [Act.put, List.setIfInBounds_toArray, List.set_cons_zero, List.set_cons_succ]
          refine wpAnyH_take (i := 2) (oi := { dst := some 46, op := Op.fieldAddr 43 (Operand.tmp 45) 1, type := 0, pos := "dag.go:38", after := #[{ on := 1, ground := Ground.data }], guard := none }) (v := ?_) rfl (by kernel_rfl) (by kernel_rfl) (by kernel_rfl) (fun _ _ _ h => h) (Or.inl ⟨by rfl, ?_⟩) (by assumption) ?_
          rotate_left
          · intro wz hSw
            try dsimp only at hSw
            go_simp
            try with_reducible rfl
          try simp only [Act.put, List.setIfInBounds_toArray, List.set_cons_zero, List.set_cons_succ]
          refine wpAnyH_take (i := 3) (oi := { dst := some 47, op := Op.load 41 (Operand.tmp 46), type := 41, pos := "dag.go:38", after := #[{ on := 2, ground := Ground.data }], guard := none }) (v := ?_) rfl (by kernel_rfl) (by kernel_rfl) (by kernel_rfl) (fun _ _ _ h => h) (Or.inl ⟨by rfl, ?_⟩) (by assumption) ?_
          rotate_left
          · intro wz hSw
            try dsimp only at hSw
            go_simp
            try with_reducible rfl
          try simp only [Act.put, List.setIfInBounds_toArray, List.set_cons_zero, List.set_cons_succ]
          refine wpAnyH_take (i := 4) (oi := { dst := some 48, op := Op.load 34 (Operand.tmp 6), type := 34, pos := "dag.go:38", after := #[], guard := none }) (v := ?_) rfl (by kernel_rfl) (by kernel_rfl) (by kernel_rfl) (fun _ _ _ h => h) (Or.inl ⟨by rfl, ?_⟩) (by assumption) ?_
          rotate_left
          · intro wz hSw
            try dsimp only at hSw
            go_simp
            try with_reducible rfl
          try simp only [Act.put, List.setIfInBounds_toArray, List.set_cons_zero, List.set_cons_succ]
          refine wpAnyH_take (i := 5) (oi := { dst := some 49, op := Op.load 31 (Operand.tmp 3), type := 31, pos := "dag.go:38", after := #[], guard := none }) (v := ?_) rfl (by kernel_rfl) (by kernel_rfl) (by kernel_rfl) (fun _ _ _ h => h) (Or.inl ⟨by rfl, ?_⟩) (by assumption) ?_
          rotate_left
          · intro wz hSw
            try dsimp only at hSw
            go_simp
            try with_reducible rfl
          try simp only [Act.put, List.setIfInBounds_toArray, List.set_cons_zero, List.set_cons_succ]
          refine wpAnyH_ready (rs := [6]) (by kernel_rfl) (by simp) (AllReadyH.cons (o := { dst := some 50, op := Op.call { callee := Callee.value (Operand.func 17), args := #[Operand.tmp 49], argTypes := #[31] }, type := 31, pos := "dag.go:38", after := #[{ on := 5, ground := Ground.data }], guard := none }) rfl (fun K hK => ?_) AllReadyH.nil)
          go_simp
          go_at_call 17
          refine Calls.mono EC ?_
          rintro e w6 ⟨u, rfl, hu, hb6⟩
          go_wp2_with fail
          refine hK.out _ _ (keepT (by assumption) hb6) (fun hHeld6 => ?_)
          clear hK K
          try simp only [Act.put, List.setIfInBounds_toArray, List.set_cons_zero, List.set_cons_succ]
          refine wpAnyH_ready (rs := [7]) (by kernel_rfl) (by simp) (AllReadyH.cons (o := { dst := none, op := Op.mapUpdate 41 (Operand.tmp 47) (Operand.tmp 48) (Operand.tmp 50), type := 0, pos := "dag.go:38", after := #[{ on := 3, ground := Ground.data }, { on := 4, ground := Ground.data }, { on := 6, ground := Ground.data }, { on := 6, ground := Ground.chain }, { on := 0, ground := Ground.phase }, { on := 1, ground := Ground.phase }, { on := 2, ground := Ground.phase }, { on := 3, ground := Ground.phase }, { on := 4, ground := Ground.phase }, { on := 5, ground := Ground.phase }, { on := 6, ground := Ground.phase }], guard := none }) rfl (fun K hK => ?_) AllReadyH.nil)
          have BKu := (BK7.below (drew_of (Below.refl _ w7))).below hb6
          have mY := BKu.book.wait
          obtain ⟨Z, hput, hMY, htY⟩ := mY.put Try.underlying41 HI.out (by rw [ents_len]; have := BKu.many; omega) u
          go_simp
          refine hK.out _ _ (keepP (by assumption) (Kp.turned htY) (noCells_map mY)) (fun hHeld7 => ?_)
          clear hK K
          try simp only [Act.put, List.setIfInBounds_toArray, List.set_cons_zero, List.set_cons_succ]
          refine wpAnyH_done (by kernel_rfl) ?_ _
          refine NoPanic.normal ?_
          have HZ : Hid (TakeP w g h q EH EW c .nilIface Z) := by
            refine ⟨EH, EW ++ [(c, u)], BKu.wait' c u hu HC.out HNO.out.2 HNO.out.1 HFU.out (by rw [HN.out.1]; exact hMY) htY, List.prefix_refl _, (Kp.of ((drew_of B7).trans (hb6.mono B7.size))).trans ((Kp.turned htY).mono (by simp)), fun ⟨u', hu'⟩ => absurd (List.mem_map.2 ⟨_, hu', rfl⟩) HNO.out.1, fun _ _ e3 _ _ _ => ?_⟩
            have h1 := hhb.out
            rw [e3] at h1
            simp [hasL] at h1
          clear hHeld hHeld6 hHeld7 BKu mY hput hMY htY hu hb6 EC k1 r0 r1 x0 x1 x2 x3 x4 BK7 B7
          go_wp2
          go_ret
          exact ⟨_, rfl, HZ.out⟩
        | true =>
          go_wp2_with fail
          go_fit E7
          rintro e w8 ⟨rfl, b8⟩
          have X8 := heap_below H4.out.1 b8 (Nat.le_refl _)
          have R8 := heap_below H4.out.2.1 b8 (Nat.le_refl _)
          have B8 : Below w.heap.size w w8 := H4.out.2.2.1.trans (b8.mono H4.out.2.2.1.size)
          have BK8 := H4.out.2.2.2.below b8
          clear E7 x3 zx b8 H4
          have hd : ∀ d ∈ c.deps, d ∈ EH.map (·.1.ref) := fun d hd => by
            have h1 := hhb.out
            unfold hasL at h1
            exact mem_keys.2 ((List.all_eq_true.1 h1) d hd)
          have E8 := fits_any w8 g h q EH EW _ c BK8 (HA.out.2.1.below B8) HC.out hd
          have x0 : w8.cell? ⟨w.heap.size, 0, none⟩ = some (.int .i64 ca) := Lib.cell_of_heap X8 0
          have x1 : w8.cell? ⟨w.heap.size, 1, none⟩ = some (.int .i64 cs) := Lib.cell_of_heap X8 1
          have x2 : w8.cell? ⟨w.heap.size, 2, none⟩ = some (.int .i64 ct) := Lib.cell_of_heap X8 2
          have x3 : w8.cell? ⟨w.heap.size, 3, none⟩ = some (.slice da dn dc) := Lib.cell_of_heap X8 3
          have x4 : w8.cell? ⟨w.heap.size, 4, none⟩ = some (.slice oa on oc) := Lib.cell_of_heap X8 4
          have zx := lt_of_heap X8
          have HD : Hid (∀ d ∈ c.deps, d ∈ EH.map (·.1.ref)) := hd
          have H8 : Hid (_ ∧ _ ∧ _ ∧ _) := ⟨X8, R8, B8, BK8⟩
          clear X8 R8 B8 BK8 hd
          go_wp2_with fail
          go_fit E8
          rintro e w7 ⟨⟨fb, rfl, hfb⟩, b7⟩
          have X7 := heap_below H8.out.1 b7 (Nat.le_refl _)
          have R7 := heap_below H8.out.2.1 b7 (Nat.le_refl _)
          have B7 : Below w.heap.size w w7 := H8.out.2.2.1.trans (b7.mono H8.out.2.2.1.size)
          have BK7 := H8.out.2.2.2.below b7
          have HFB : Hid (c.deps = [] → c.ops = [] → c.seq = 1 → fb = true) := hfb
          clear E8 x0 x1 x2 x3 x4 zx b7 hfb H8
          cases fb with
          | false =>
            have HZ : Hid (TakeP w g h q EH EW c (.iface 47 (.int .i64 7)) w7) := HS.out B7 (fun ⟨u, hu⟩ => absurd (List.mem_map.2 ⟨_, hu, rfl⟩) HNO.out.1) (fun _ _ e3 e4 e5 _ => by cases HFB.out e3 e4 e5)
            clear X7 R7 B7 BK7
            go_wp2
            go_ret
            exact ⟨_, rfl, HZ.out⟩
          | true =>
            have few := chk_few HC.out
            have EC := copyOf_any _ c w7.drew (HA.out.2.1.below (drew_of B7)) (by omega) (by omega) (fun o ho => by have := few.2.2.1 o ho; omega)
            have k0 : w7.cell? ⟨g, 0, none⟩ = some (.map (some h)) := Lib.cell_of_heap BK7.book.box 0
            have r0 : w7.cell? ⟨w2.heap.size, 0, none⟩ = some (.int .i64 ca) := Lib.cell_of_heap R7 0
            have r1 : w7.cell? ⟨w2.heap.size, 1, none⟩ = some (.int .i64 cs) := Lib.cell_of_heap R7 1
            have x0 : w7.cell? ⟨w.heap.size, 0, none⟩ = some (.int .i64 ca) := Lib.cell_of_heap X7 0
            have x1 : w7.cell? ⟨w.heap.size, 1, none⟩ = some (.int .i64 cs) := Lib.cell_of_heap X7 1
            have x2 : w7.cell? ⟨w.heap.size, 2, none⟩ = some (.int .i64 ct) := Lib.cell_of_heap X7 2
            have x3 : w7.cell? ⟨w.heap.size, 3, none⟩ = some (.slice da dn dc) := Lib.cell_of_heap X7 3
            have x4 : w7.cell? ⟨w.heap.size, 4, none⟩ = some (.slice oa on oc) := Lib.cell_of_heap X7 4
            clear few X7 R7
            go_upto_region 15 with fail
            refine wp_region_noPanic ?_
            refine wp_region_held_drew (S := fun W => W.cell? ⟨g, 0, none⟩ = some (.map (some h)) ∧ W.cell? ⟨w2.heap.size, 0, none⟩ = some (.int .i64 ca) ∧ W.cell? ⟨w2.heap.size, 1, none⟩ = some (.int .i64 cs) ∧ W.cell? ⟨w.heap.size, 0, none⟩ = some (.int .i64 ca) ∧ W.cell? ⟨w.heap.size, 1, none⟩ = some (.int .i64 cs) ∧ W.cell? ⟨w.heap.size, 2, none⟩ = some (.int .i64 ct) ∧ W.cell? ⟨w.heap.size, 3, none⟩ = some (.slice da dn dc) ∧ W.cell? ⟨w.heap.size, 4, none⟩ = some (.slice oa on oc)) (by kernel_rfl) (⟨k0, r0, r1, x0, x1, x2, x3, x4⟩) (fun hHeld => ?_)
            refine wpAnyH_take (i := 0) (oi := { dst := some 56, op := Op.move (Operand.tmp 0), type := 23, pos := "dag.go:44", after := #[], guard := none }) (v := ?_) rfl (by kernel_rfl) (by kernel_rfl) (by kernel_rfl) (fun _ _ _ h => h) (Or.inl ⟨by rfl, ?_⟩) (by assumption) ?_
            rotate_left
            · intro wz hSw
              try dsimp only at hSw
              go_simp
              try with_reducible rfl
            try simp only [Act.put, List.setIfInBounds_toArray, List.set_cons_zero, List.set_cons_succ]
            refine wpAnyH_take (i := 1) (oi := { dst := some 57, op := Op.nilCheck (Operand.tmp 56), type := 0, pos := "dag.go:44", after := #[{ on := 0, ground := Ground.data }], guard := none }) (v := ?_) rfl (by kernel_rfl) (by kernel_rfl) (by kernel_rfl) (fun _ _ _ h => h) (Or.inl ⟨by rfl, ?_⟩) (by assumption) ?_
            rotate_left
            · intro wz hSw
              try dsimp only at hSw
              go_simp
              try with_reducible rfl
            try simp only [Act.put, List.setIfInBounds_toArray, List.set_cons_zero, List.set_cons_succ]
            refine wpAnyH_take (i := 2) (oi := { dst := some 58, op := Op.fieldAddr 43 (Operand.tmp 57) 0, type := 0, pos := "dag.go:44", after := #[{ on := 1, ground := Ground.data }], guard := none }) (v := ?_) rfl (by kernel_rfl) (by kernel_rfl) (by kernel_rfl) (fun _ _ _ h => h) (Or.inl ⟨by rfl, ?_⟩) (by assumption) ?_
            rotate_left
            · intro wz hSw
              try dsimp only at hSw
              go_simp
              try with_reducible rfl
            try simp only [Act.put, List.setIfInBounds_toArray, List.set_cons_zero, List.set_cons_succ]
            refine wpAnyH_take (i := 3) (oi := { dst := some 59, op := Op.load 41 (Operand.tmp 58), type := 41, pos := "dag.go:44", after := #[{ on := 2, ground := Ground.data }], guard := none }) (v := ?_) rfl (by kernel_rfl) (by kernel_rfl) (by kernel_rfl) (fun _ _ _ h => h) (Or.inl ⟨by rfl, ?_⟩) (by assumption) ?_
            rotate_left
            · intro wz hSw
              try dsimp only at hSw
              go_simp
              try with_reducible rfl
            try simp only [Act.put, List.setIfInBounds_toArray, List.set_cons_zero, List.set_cons_succ]
            refine wpAnyH_take (i := 4) (oi := { dst := some 60, op := Op.load 34 (Operand.tmp 6), type := 34, pos := "dag.go:44", after := #[], guard := none }) (v := ?_) rfl (by kernel_rfl) (by kernel_rfl) (by kernel_rfl) (fun _ _ _ h => h) (Or.inl ⟨by rfl, ?_⟩) (by assumption) ?_
            rotate_left
            · intro wz hSw
              try dsimp only at hSw
              go_simp
              try with_reducible rfl
            try simp only [Act.put, List.setIfInBounds_toArray, List.set_cons_zero, List.set_cons_succ]
            refine wpAnyH_take (i := 5) (oi := { dst := some 61, op := Op.load 31 (Operand.tmp 3), type := 31, pos := "dag.go:44", after := #[], guard := none }) (v := ?_) rfl (by kernel_rfl) (by kernel_rfl) (by kernel_rfl) (fun _ _ _ h => h) (Or.inl ⟨by rfl, ?_⟩) (by assumption) ?_
            rotate_left
            · intro wz hSw
              try dsimp only at hSw
              go_simp
              try with_reducible rfl
            try simp only [Act.put, List.setIfInBounds_toArray, List.set_cons_zero, List.set_cons_succ]
            refine wpAnyH_ready (rs := [6]) (by kernel_rfl) (by simp) (AllReadyH.cons (o := { dst := some 62, op := Op.call { callee := Callee.value (Operand.func 17), args := #[Operand.tmp 61], argTypes := #[31] }, type := 31, pos := "dag.go:44", after := #[{ on := 5, ground := Ground.data }], guard := none }) rfl (fun K hK => ?_) AllReadyH.nil)
            go_simp
            go_at_call 17
            refine Calls.mono EC ?_
            rintro e w6 ⟨u, rfl, hu, hb6⟩
            go_wp2_with fail
            refine hK.out _ _ (keepT (by assumption) hb6) (fun hHeld6 => ?_)
            clear hK K
            try simp only [Act.put, List.setIfInBounds_toArray, List.set_cons_zero, List.set_cons_succ]
            refine wpAnyH_ready (rs := [7]) (by kernel_rfl) (by simp) (AllReadyH.cons (o := { dst := none, op := Op.mapUpdate 41 (Operand.tmp 59) (Operand.tmp 60) (Operand.tmp 62), type := 0, pos := "dag.go:44", after := #[{ on := 3, ground := Ground.data }, { on := 4, ground := Ground.data }, { on := 6, ground := Ground.data }, { on := 6, ground := Ground.chain }, { on := 0, ground := Ground.phase }, { on := 1, ground := Ground.phase }, { on := 2, ground := Ground.phase }, { on := 3, ground := Ground.phase }, { on := 4, ground := Ground.phase }, { on := 5, ground := Ground.phase }, { on := 6, ground := Ground.phase }], guard := none }) rfl (fun K hK => ?_) AllReadyH.nil)
            have BKu := (BK7.below (drew_of (Below.refl _ w7))).below hb6
            have mY := BKu.book.has
            obtain ⟨Z, hput, hMY, htY⟩ := mY.put Try.underlying41 HI.out (by rw [ents_len]; have := BKu.many; omega) u
            go_simp
            refine hK.out _ _ (keepP (by assumption) (Kp.turned htY) (noCells_map mY)) (fun hHeld7 => ?_)
            clear hK K
            try simp only [Act.put, List.setIfInBounds_toArray, List.set_cons_zero, List.set_cons_succ]
            refine wpAnyH_done (by kernel_rfl) ?_ _
            refine NoPanic.normal ?_
            have hBZ := BKu.come c u hu HC.out HD.out HNO.out.1 HNO.out.2 HFU.out (by rw [HN.out.1]; exact hMY) htY
            have kZ : Kp [h, q] w Z := (Kp.of ((drew_of B7).trans (hb6.mono B7.size))).trans ((Kp.turned htY).mono (by simp))
            have EW9 := wake_any Z g h q _ EW hBZ
            have HZ : Hid (Kp [h, q] w Z) := kZ
            clear hHeld hHeld6 hHeld7 BKu mY hput hMY htY hu hb6 EC k0 r0 r1 x0 x1 x2 x3 x4 BK7 B7 hBZ kZ
            go_wp2_with fail
            go_fit EW9
            rintro e w9 ⟨rfl, hwk⟩
            have HY : Hid (TakeP w g h q EH EW c .nilIface w9) := by
              obtain ⟨EH', EW', hB', hpre, hk'⟩ := hwk
              refine ⟨EH', EW', hB', (List.prefix_append _ _).trans hpre, HZ.out.trans hk', fun ⟨u', hu'⟩ => absurd (List.mem_map.2 ⟨_, hu', rfl⟩) HNO.out.1, fun _ _ _ _ _ _ => ⟨rfl, ?_⟩⟩
              obtain ⟨t, rfl⟩ := hpre
              simp
            clear EW9 hwk
            go_wp2
            go_ret
            exact ⟨_, rfl, HY.out⟩
  · have e0 : errV ce = .iface 47 (.int .i64 ce) := by unfold errV; rw [if_neg h0]
    rw [e0]
    have HZ : Hid (TakeP w g h q EH EW c (.iface 47 (.int .i64 ce)) w1) := HS.out (HX.out.1.trans (b1.mono HX.out.1.size)) (fun ⟨u, hu⟩ => absurd ((HA.out.1.chgs _ (List.mem_append_left _ hu)).2) (by rw [hce]; exact h0)) (fun _ _ _ _ _ e => h0 (by rw [← hce]; exact e))
    clear hce h0 e0 E1 HX b1
    go_wp2
    go_ret
    exact ⟨_, rfl, HZ.out⟩
end Go.Proofs.Ytbjnemmghpmjjaa
