/-
  What is proved: as each theorem says.
  Conditions: as each theorem says.
-/
import Derived.Test.YtejfemdkommfhaaGreatDoorG01
import Derived.Test.YtejfemdkommfhaaGreatDoorG26
import Derived.Test.YtejfemdkommfhaaGreatDoorG27
namespace Go.Proofs.YtejfemdkommfhaaGreatDoor
open Go.RowKit Go.Sort
def kes (c : Chg) (lo : List OV) : List KE := lo.zipIdx.map fun p => (p.1, (c.start + (p.2 : Int), c.actor))
theorem kes_len (c : Chg) (lo : List OV) : (kes c lo).length = lo.length := by unfold kes; simp
theorem kes_at (c : Chg) (lo : List OV) (k : Nat) (h : k < (kes c lo).length) : (kes c lo)[k] = (lo[k]'(by rw [kes_len] at h; exact h), (c.start + (k : Int), c.actor)) := by
 have hk : k < lo.length := by rw [kes_len] at h; exact h
 have h2 : (kes c lo)[k]? = some (lo[k], (c.start + (k : Int), c.actor)) := by
  unfold kes
  rw [List.getElem?_map, List.getElem?_zipIdx, List.getElem?_eq_getElem hk]
  simp
 exact Option.some.inj ((List.getElem?_eq_getElem h).symm.trans h2)
theorem keM_append (a b : List KE) : keM (a ++ b) = keM a ++ keM b := by unfold keM; simp
theorem keM_kes (c : Chg) (lo : List OV) (h : lo.map (·.1) = c.ops) : keM (kes c lo) = opsC c := by
 unfold keM kes opsC
 rw [← h, List.map_map, List.zipIdx_map, List.map_map]
 rfl
def kall (f : CX → List OV) (O : List Pr) (l : List CX) : List KE := (l.filter fun x => decide (x.c.ref ∈ O)).flatMap fun x => kes x.c (f x)
theorem kall_snoc (f : CX → List OV) (O : List Pr) (l : List CX) (x : CX) : kall f O (l ++ [x]) = kall f O l ++ (if x.c.ref ∈ O then kes x.c (f x) else []) := by
 unfold kall
 rw [List.filter_append, List.flatMap_append]
 by_cases h : x.c.ref ∈ O
 ·rw [if_pos h]; simp [h]
 ·rw [if_neg h]; simp [h]
theorem kall_mem {f : CX → List OV} {O : List Pr} {l : List CX} {q : KE} (h : q ∈ kall f O l) : ∃ x ∈ l, q.1 ∈ f x := by
 unfold kall at h
 obtain ⟨x, hx, hq⟩ := List.mem_flatMap.1 h
 refine ⟨x, (List.mem_filter.1 hx).1, ?_⟩
 unfold kes at hq
 obtain ⟨p, hp, rfl⟩ := List.mem_map.1 hq
 exact (List.mem_zipIdx' hp).2 ▸ List.getElem_mem _
theorem keM_kall (f : CX → List OV) (O : List Pr) : ∀ (l : List CX), (∀ x ∈ l, (f x).map (·.1) = x.c.ops) → keM (kall f O l) = opsK (subL (l.map (·.c)) O)
 | [], _ => rfl
 | x :: l, h => by
  have ih := keM_kall f O l (fun y hy => h y (List.mem_cons_of_mem _ hy))
  unfold kall subL at ih ⊢
  rw [List.map_cons, List.filter_cons, List.filter_cons]
  by_cases hx : x.c.ref ∈ O
  ·rw [if_pos (by simpa using hx), if_pos (by simpa using hx), List.flatMap_cons, keM_append, keM_kes x.c (f x) (h x (List.mem_cons_self ..)), ih]
   rfl
  ·rw [if_neg (by simpa using hx), if_neg (by simpa using hx)]
   exact ih
theorem kall_len (f : CX → List OV) (O : List Pr) : ∀ (l : List CX), (∀ x ∈ l, (f x).length ≤ 40) → (kall f O l).length ≤ 40 * l.length
 | [], _ => by simp [kall]
 | x :: l, h => by
  have ih := kall_len f O l (fun y hy => h y (List.mem_cons_of_mem _ hy))
  have h0 := h x (List.mem_cons_self ..)
  unfold kall at ih ⊢
  rw [List.filter_cons, List.length_cons]
  by_cases hx : x.c.ref ∈ O
  ·rw [if_pos (by simpa using hx), List.flatMap_cons, List.length_append, kes_len]
   omega
  ·rw [if_neg (by simpa using hx)]
   omega
set_option maxRecDepth 100000 in
set_option maxHeartbeats 16000000 in
theorem rOps_any (v vr : Value) (l : List CX) (O : List Pr) (f : CX → List OV) (w : World) (hv : IsChgs w v l) (hf : ∀ x ∈ l, IsOps w x.uo (f x) ∧ (f x).map (·.1) = x.c.ops) (hsm : ∀ x ∈ l, SmallC x.c) (hr : IsPairs w vr O) (hl : l.length ≤ 1000) :
 Calls Tryz.prog 46 #[v, vr] w fun e w' => (∃ u, e = .returned u ∧ RowK w.heap.size u (kall f O l) w') ∧ Below w.heap.size w w' := by
 obtain ⟨la, ln, lc, rfl⟩ : ∃ a n c, v = .slice a n c := by obtain ⟨a, c, e, _⟩ := hv; exact ⟨_, _, _, e⟩
 obtain ⟨qa, qn, qc, rfl⟩ : ∃ a n c, vr = .slice a n c := by obtain ⟨a, c, e, _⟩ := hr; exact ⟨_, _, _, e⟩
 have HV : Hid (IsChgs w (.slice la ln lc) l ∧ (∀ x ∈ l, IsOps w x.uo (f x) ∧ (f x).map (·.1) = x.c.ops) ∧ (∀ x ∈ l, SmallC x.c) ∧ IsPairs w (.slice qa qn qc) O ∧ l.length ≤ 1000) := ⟨hv, hf, hsm, hr, hl⟩
 obtain ⟨HLN⟩ : Nonempty (Hid (ln = l.length)) := ⟨by obtain ⟨a, c, e, _⟩ := hv; exact (Value.slice.inj e).2.1⟩
 have H40 : Hid (∀ x ∈ l, (f x).length ≤ 40) := fun x hx => by
  have h1 := congrArg List.length (hf x hx).2
  rw [List.length_map] at h1
  have := (hsm x hx).2.2
  omega
 clear hv hf hsm hr hl
 go_enter Tryz.func46, Tryz.ntmps46
 go_wp2_with fail
 go_loopw [5, 6] (fun xo xi wr => ∃ (i : Nat) (vo : Value), i ≤ l.length ∧ xi = .int .i64 i ∧ vo = xo ∧ Hid (RowK w.heap.size vo (kall f O (l.take i)) wr ∧ Below w.heap.size w wr)) (fun _ xi _ => l.length - (RowKit.intOf xi).toNat)
 case atStart => exact ⟨0, _, Nat.zero_le _, rfl, rfl, World.ownsRow_nil _ _ _ _, Below.refl _ _⟩
 case round =>
  obtain ⟨i, vo, hi, rfl, rfl, hR⟩ := hrel
  by_cases hlt : i < l.length
  ·obtain ⟨a', c', e9, _, _, hIn, h4⟩ := id HV.out.1
   obtain ⟨cb, co, ha', h5, h6⟩ := h4 (fun e => by rw [e] at hlt; simp at hlt)
   have hla : la = some ⟨cb, co, none⟩ := (Value.slice.inj e9).1.trans ha'
   obtain ⟨x, hx⟩ : ∃ z : CX, l[i] = z := ⟨_, rfl⟩
   have hxl : x ∈ l := by rw [← hx]; exact List.getElem_mem hlt
   obtain ⟨_, dd, dn, dc, uo, um, ue, eud, euo⟩ := CX.form (hIn x hxl)
   have hum : um = (f x).length := by
    obtain ⟨a8, c8, e8, _⟩ := (HV.out.2.1 x hxl).1
    rw [euo] at e8
    exact (Value.slice.inj e8).2.1
   obtain ⟨ca, hca⟩ : ∃ z : Int, x.c.actor = z := ⟨_, rfl⟩
   obtain ⟨cs, hcs⟩ : ∃ z : Int, x.c.seq = z := ⟨_, rfl⟩
   obtain ⟨ct, hct⟩ : ∃ z : Int, x.c.start = z := ⟨_, rfl⟩
   have HCC : Hid (∀ W, Below w.heap.size w W → W.cell? ⟨cb, co + i * 5, none⟩ = some (.int .i64 ca) ∧ W.cell? ⟨cb, co + i * 5 + 1, none⟩ = some (.int .i64 cs) ∧ W.cell? ⟨cb, co + i * 5 + 2, none⟩ = some (.int .i64 ct) ∧ W.cell? ⟨cb, co + i * 5 + 3, none⟩ = some (.slice dd dn dc) ∧ W.cell? ⟨cb, co + i * 5 + 4, none⟩ = some (.slice uo um ue)) := fun W hW => by
    have hc : ∀ j, j < 5 → W.cell? ⟨cb, co + i * 5 + j, none⟩ = x.cells[j]? := fun j hj => by rw [hW.cell (p := ⟨cb, co + i * 5 + j, none⟩) h5, ← hx]; exact h6 i hlt j hj
    refine ⟨?_, ?_, ?_, ?_, ?_⟩
    ·rw [← hca]; exact hc 0 (by omega)
    ·rw [← hcs]; exact hc 1 (by omega)
    ·rw [← hct]; exact hc 2 (by omega)
    ·rw [← eud]; exact hc 3 (by omega)
    ·rw [← euo]; exact hc 4 (by omega)
   subst hla
   have HX : Hid ((∃ h : i < l.length, l[i] = x) ∧ x ∈ l ∧ um = (f x).length ∧ x.c.actor = ca ∧ x.c.ref = (ca, cs) ∧ x.c.start = ct ∧ x.uo = .slice uo um ue) := ⟨⟨hlt, hx⟩, hxl, hum, hca, by unfold Chg.ref; rw [hca, hcs], hct, euo⟩
   have HR : Hid (RowK w.heap.size vo (kall f O (l.take i)) wr ∧ Below w.heap.size w wr) := hR
   obtain ⟨x0, x1, x2, x3, x4⟩ := HCC.out wr hR.out.2
   have g1 : (i : Int) < ln := by have := HLN.out; omega
   have g3 : (0 : Int) ≤ i := by omega
   have E1 := rRefC_any ca cs ct dd dn dc uo um ue wr
   clear e9 hIn h4 ha' h5 h6 hx hxl eud euo hum hca hcs hct hi hlt hR
   go_wp2_with fail
   go_fit E1
   rintro e w1 ⟨rfl, b1⟩
   clear E1 x0 x1 x2 x3 x4
   have B1 : Hid (Below w.heap.size w w1) := HR.out.2.trans (b1.mono HR.out.2.size)
   have E2 := rHas_any (.slice qa qn qc) O (ca, cs) w1 (HV.out.2.2.2.1.below B1.out)
   obtain ⟨hb, hhb⟩ : ∃ z : Bool, decide ((ca, cs) ∈ O) = z := ⟨_, rfl⟩
   rw [hhb] at E2
   have HHB : Hid (decide ((ca, cs) ∈ O) = hb) := hhb
   unfold refV at E2
   have HB1 : Hid (Below wr.heap.size wr w1) := b1
   clear b1 hhb
   go_wp2_with fail
   go_fit E2
   rintro e w2 ⟨rfl, b2⟩
   clear E2
   have HR2 : Hid (RowK w.heap.size vo (kall f O (l.take i)) w2 ∧ Below w.heap.size w w2) := ⟨own_below (own_below HR.out.1 HB1.out (Nat.le_refl _)) b2 (Nat.le_refl _), B1.out.trans (b2.mono B1.out.size)⟩
   clear b2 HR HB1 B1
   have HT : Hid (kall f O (l.take (i + 1)) = kall f O (l.take i) ++ (if (ca, cs) ∈ O then kes x.c (f x) else [])) := by
    obtain ⟨⟨h, e⟩, _, _, _, er, _⟩ := HX.out
    show _ = _
    rw [take_snocE l i h, e, kall_snoc, er]
   cases hb with
   | false =>
    have HK : Hid (RowK w.heap.size vo (kall f O (l.take (i + 1))) w2) := by
     show RowK _ _ _ _
     rw [HT.out, if_neg (of_decide_eq_false HHB.out), List.append_nil]
     exact HR2.out.1
    clear HT HHB
    go_upto_region 4 with fail
    have g2 : (i : Int) < 1000 := by obtain ⟨⟨h, _⟩, _⟩ := HX.out; have := HV.out.2.2.2.2; omega
    go_wp2
    go_roundw
    case rel => obtain ⟨⟨h, _⟩, _⟩ := HX.out; exact ⟨i + 1, vo, h, by go_num, rfl, HK.out, HR2.out.2⟩
    case measure => obtain ⟨⟨h, _⟩, _⟩ := HX.out; simp [RowKit.intOf]; omega
   | true =>
    have HT2 : Hid (kall f O (l.take (i + 1)) = kall f O (l.take i) ++ kes x.c (f x)) := by
     show _ = _
     rw [HT.out, if_pos (of_decide_eq_true HHB.out)]
    clear HT HHB
    go_wp2_with fail
    go_loopw [5, 8] (fun xo xk wr => ∃ (k : Nat) (vo : Value), k ≤ um ∧ xk = .int .i64 k ∧ vo = xo ∧ Hid (RowK w.heap.size vo (kall f O (l.take i) ++ (kes x.c (f x)).take k) wr ∧ Below w.heap.size w wr)) (fun _ xk _ => um - (RowKit.intOf xk).toNat)
    case atStart => exact ⟨0, _, Nat.zero_le _, rfl, rfl, by rw [List.take_zero, List.append_nil]; exact HR2.out⟩
    case round =>
     clear HR2
     obtain ⟨k, vo, hk, rfl, rfl, hR⟩ := hrel
     have HRB : Hid (Below w.heap.size w wr) := hR.out.2
     obtain ⟨x0, _, x2, _, x4⟩ := HCC.out wr hR.out.2
     by_cases hlt : k < um
     ·obtain ⟨hxl, hum, hac, _, hst, huo⟩ : x ∈ l ∧ um = (f x).length ∧ x.c.actor = ca ∧ True ∧ x.c.start = ct ∧ x.uo = .slice uo um ue := ⟨HX.out.2.1, HX.out.2.2.1, HX.out.2.2.2.1, trivial, HX.out.2.2.2.2.2.1, HX.out.2.2.2.2.2.2⟩
      obtain ⟨a8, c8, e8, _, _, h8, h9⟩ := (HV.out.2.1 x hxl).1
      have hkf : k < (f x).length := by omega
      obtain ⟨ob, oo, ha8, hob, hcell⟩ := h9 (fun e => by rw [e] at hkf; simp at hkf)
      have hua : uo = some ⟨ob, oo, none⟩ := by rw [huo] at e8; exact (Value.slice.inj e8).1.trans ha8
      obtain ⟨⟨o, pv⟩, hq⟩ : ∃ z : OV, (f x)[k] = z := ⟨_, rfl⟩
      obtain ⟨pa, pn, pc, rfl⟩ : ∃ a n c, pv = .slice a n c := by
       obtain ⟨a7, c7, e7, _⟩ := (h8 (f x)[k] (List.getElem_mem hkf)).1
       rw [hq] at e7
       exact ⟨_, _, _, e7⟩
      have HCL : Hid (∀ W, Below w.heap.size w W → W.cell? ⟨ob, oo + k * 13, none⟩ = some (.int .i64 o.kind) ∧ W.cell? ⟨ob, oo + k * 13 + 1, none⟩ = some (.int .i64 o.obj.1) ∧ W.cell? ⟨ob, oo + k * 13 + 2, none⟩ = some (.int .i64 o.obj.2) ∧ W.cell? ⟨ob, oo + k * 13 + 3, none⟩ = some (.string o.key) ∧ W.cell? ⟨ob, oo + k * 13 + 4, none⟩ = some (.int .i64 o.elem.1) ∧ W.cell? ⟨ob, oo + k * 13 + 5, none⟩ = some (.int .i64 o.elem.2) ∧ W.cell? ⟨ob, oo + k * 13 + 6, none⟩ = some (.bool o.ins) ∧ W.cell? ⟨ob, oo + k * 13 + 7, none⟩ = some (.int .i64 o.val.k) ∧ W.cell? ⟨ob, oo + k * 13 + 8, none⟩ = some (.int .i64 o.val.n) ∧ W.cell? ⟨ob, oo + k * 13 + 9, none⟩ = some (.string o.val.t) ∧ W.cell? ⟨ob, oo + k * 13 + 10, none⟩ = some (.int .i64 o.val.o) ∧ W.cell? ⟨ob, oo + k * 13 + 11, none⟩ = some (.int .i64 o.val.a) ∧ W.cell? ⟨ob, oo + k * 13 + 12, none⟩ = some (.slice pa pn pc) ∧ W.cell? ⟨cb, co + i * 5, none⟩ = some (.int .i64 ca) ∧ W.cell? ⟨cb, co + i * 5 + 2, none⟩ = some (.int .i64 ct) ∧ W.cell? ⟨cb, co + i * 5 + 4, none⟩ = some (.slice (some ⟨ob, oo, none⟩) um ue)) := fun W hW => by
       have hc : ∀ j, j < 13 → W.cell? ⟨ob, oo + k * 13 + j, none⟩ = (opCells o (.slice pa pn pc))[j]? := fun j hj => by rw [hW.cell (p := ⟨ob, oo + k * 13 + j, none⟩) hob, hcell k hkf j hj, hq]
       obtain ⟨r0, _, r2, _, r4⟩ := HCC.out W hW
       rw [hua] at r4
       exact ⟨hc 0 (by omega), hc 1 (by omega), hc 2 (by omega), hc 3 (by omega), hc 4 (by omega), hc 5 (by omega), hc 6 (by omega), hc 7 (by omega), hc 8 (by omega), hc 9 (by omega), hc 10 (by omega), hc 11 (by omega), hc 12 (by omega), r0, r2, r4⟩
      obtain ⟨ctk, hctk⟩ : ∃ z : Int, ct + (k : Int) = z := ⟨_, rfl⟩
      have hw : IntKind.i64.wrap (ct + (k : Int)) = ctk := by
       rw [← hctk]
       have h1 := HV.out.2.2.1 x hxl
       rw [← hst]
       exact IntWalk.i64_in _ (by have h2 := h1.1; have h3 := h1.2.1; have h4 := H40.out x hxl; omega)
      have b9 : Below wr.heap.size wr (wr.drew.alloc (.cells #[.int .i64 o.kind, .int .i64 o.obj.1, .int .i64 o.obj.2, .string o.key, .int .i64 o.elem.1, .int .i64 o.elem.2, .bool o.ins, .int .i64 o.val.k, .int .i64 o.val.n, .string o.val.t, .int .i64 o.val.o, .int .i64 o.val.a, .slice pa pn pc, .int .i64 ctk, .int .i64 ca] 87)) := ((Below.refl wr.heap.size wr).drew).alloc (Nat.le_refl _) _
      have hlen : (kall f O (l.take i) ++ (kes x.c (f x)).take k).length ≤ 1000000 := by
       have h1 := kall_len f O (l.take i) (fun y hy => H40.out y (List.mem_of_mem_take hy))
       have h2 := HV.out.2.2.2.2
       have h3 := H40.out x hxl
       rw [List.length_append, List.length_take, kes_len]
       rw [List.length_take] at h1
       omega
      obtain ⟨v9, U9, happ, row9, gr9⟩ := run_appK 84 (wr.drew.alloc (.cells #[.int .i64 o.kind, .int .i64 o.obj.1, .int .i64 o.obj.2, .string o.key, .int .i64 o.elem.1, .int .i64 o.elem.2, .bool o.ins, .int .i64 o.val.k, .int .i64 o.val.n, .string o.val.t, .int .i64 o.val.o, .int .i64 o.val.a, .slice pa pn pc, .int .i64 ctk, .int .i64 ca] 87)) w.heap.size (Nat.le_trans HRB.out.size b9.size) vo (kall f O (l.take i) ++ (kes x.c (f x)).take k) o pa pn pc (ctk, ca) (own_below hR.out.1 b9 (Nat.le_refl _)) hlen wr.heap.size (heap_alloc_new wr.drew _)
      have HRB2 : Hid (Below w.heap.size w (wr.drew.alloc (.cells #[.int .i64 o.kind, .int .i64 o.obj.1, .int .i64 o.obj.2, .string o.key, .int .i64 o.elem.1, .int .i64 o.elem.2, .bool o.ins, .int .i64 o.val.k, .int .i64 o.val.n, .string o.val.t, .int .i64 o.val.o, .int .i64 o.val.a, .slice pa pn pc, .int .i64 ctk, .int .i64 ca] 87))) := HRB.out.trans (b9.mono HRB.out.size)
      have HRB3 : Hid (Below w.heap.size w U9) := HRB2.out.grown gr9 HRB2.out.size (fun j e => (hR.out.1.lt j e).1)
      have HNX : Hid (RowK w.heap.size v9 (kall f O (l.take i) ++ (kes x.c (f x)).take (k + 1)) U9) := by
       show RowK _ _ _ _
       have hk9 : k < (kes x.c (f x)).length := by rw [kes_len]; exact hkf
       rw [take_snocE _ k hk9, ← List.append_assoc, kes_at, hst, hac, hctk, hq]
       exact row9
      have HKU : Hid (k < um) := hlt
      have g5 : (k : Int) < um := by omega
      have g6 : (0 : Int) ≤ k := by omega
      have g7 : (i : Int) < ln := by obtain ⟨⟨h, _⟩, _⟩ := HX.out; have := HLN.out; omega
      rw [hua] at x4
      clear hua hxl hum hac hst huo e8 h8 h9 ha8 hob hcell hq hkf hctk b9 hlen row9 gr9 hlt hk hR
      go_upto_region 10 with fail
      clear x0 x2 x4
      refine wp_region_noPanic ?_
      refine wp_region_held_drew (S := fun W => Below w.heap.size w W) (by kernel_rfl) (drew_of HRB.out) (fun hHeld => ?_)
      refine tk 0 rfl ?_ (by intro wz hSw; obtain ⟨z0, z1, z2, z3, z4, z5, z6, z7, z8, z9, z10, z11, z12, z13, z14, z15⟩ := HCL.out wz hSw; go_simp; try with_reducible rfl)
      refine tk 1 rfl ?_ (by intro wz hSw; obtain ⟨z0, z1, z2, z3, z4, z5, z6, z7, z8, z9, z10, z11, z12, z13, z14, z15⟩ := HCL.out wz hSw; go_simp; try with_reducible rfl)
      refine tk 2 rfl ?_ (by intro wz hSw; obtain ⟨z0, z1, z2, z3, z4, z5, z6, z7, z8, z9, z10, z11, z12, z13, z14, z15⟩ := HCL.out wz hSw; go_simp; try with_reducible rfl)
      refine tk 3 rfl ?_ (by intro wz hSw; obtain ⟨z0, z1, z2, z3, z4, z5, z6, z7, z8, z9, z10, z11, z12, z13, z14, z15⟩ := HCL.out wz hSw; go_simp; try with_reducible rfl)
      refine tk 4 rfl ?_ (by intro wz hSw; obtain ⟨z0, z1, z2, z3, z4, z5, z6, z7, z8, z9, z10, z11, z12, z13, z14, z15⟩ := HCL.out wz hSw; go_simp; try with_reducible rfl)
      refine tk 5 rfl ?_ (by intro wz hSw; obtain ⟨z0, z1, z2, z3, z4, z5, z6, z7, z8, z9, z10, z11, z12, z13, z14, z15⟩ := HCL.out wz hSw; go_simp; try with_reducible rfl)
      refine tk 6 rfl ?_ (by intro wz hSw; obtain ⟨z0, z1, z2, z3, z4, z5, z6, z7, z8, z9, z10, z11, z12, z13, z14, z15⟩ := HCL.out wz hSw; go_simp; try with_reducible rfl)
      refine tk 7 rfl ?_ (by intro wz hSw; obtain ⟨z0, z1, z2, z3, z4, z5, z6, z7, z8, z9, z10, z11, z12, z13, z14, z15⟩ := HCL.out wz hSw; go_simp; try with_reducible rfl)
      refine tk 8 rfl ?_ (by intro wz hSw; obtain ⟨z0, z1, z2, z3, z4, z5, z6, z7, z8, z9, z10, z11, z12, z13, z14, z15⟩ := HCL.out wz hSw; go_simp; try with_reducible rfl)
      refine tk 9 rfl ?_ (by intro wz hSw; obtain ⟨z0, z1, z2, z3, z4, z5, z6, z7, z8, z9, z10, z11, z12, z13, z14, z15⟩ := HCL.out wz hSw; go_simp; try with_reducible rfl)
      refine tk 10 rfl ?_ (by intro wz hSw; obtain ⟨z0, z1, z2, z3, z4, z5, z6, z7, z8, z9, z10, z11, z12, z13, z14, z15⟩ := HCL.out wz hSw; go_simp; try with_reducible rfl)
      refine tk 11 rfl ?_ (by intro wz hSw; obtain ⟨z0, z1, z2, z3, z4, z5, z6, z7, z8, z9, z10, z11, z12, z13, z14, z15⟩ := HCL.out wz hSw; go_simp; try with_reducible rfl)
      refine tk 12 rfl ?_ (by intro wz hSw; obtain ⟨z0, z1, z2, z3, z4, z5, z6, z7, z8, z9, z10, z11, z12, z13, z14, z15⟩ := HCL.out wz hSw; go_simp; try with_reducible rfl)
      refine tk 13 rfl ?_ (by intro wz hSw; obtain ⟨z0, z1, z2, z3, z4, z5, z6, z7, z8, z9, z10, z11, z12, z13, z14, z15⟩ := HCL.out wz hSw; go_simp; try with_reducible rfl)
      refine tk 14 rfl ?_ (by intro wz hSw; obtain ⟨z0, z1, z2, z3, z4, z5, z6, z7, z8, z9, z10, z11, z12, z13, z14, z15⟩ := HCL.out wz hSw; go_simp; try with_reducible rfl)
      refine tk 15 rfl ?_ (by intro wz hSw; obtain ⟨z0, z1, z2, z3, z4, z5, z6, z7, z8, z9, z10, z11, z12, z13, z14, z15⟩ := HCL.out wz hSw; go_simp; try with_reducible rfl)
      refine tk 16 rfl ?_ (by intro wz hSw; obtain ⟨z0, z1, z2, z3, z4, z5, z6, z7, z8, z9, z10, z11, z12, z13, z14, z15⟩ := HCL.out wz hSw; go_simp; try with_reducible rfl)
      refine tk 17 rfl ?_ (by intro wz hSw; obtain ⟨z0, z1, z2, z3, z4, z5, z6, z7, z8, z9, z10, z11, z12, z13, z14, z15⟩ := HCL.out wz hSw; go_simp; try with_reducible rfl)
      refine tk 18 rfl ?_ (by intro wz hSw; obtain ⟨z0, z1, z2, z3, z4, z5, z6, z7, z8, z9, z10, z11, z12, z13, z14, z15⟩ := HCL.out wz hSw; go_simp; try with_reducible rfl)
      refine tk 19 rfl ?_ (by intro wz hSw; obtain ⟨z0, z1, z2, z3, z4, z5, z6, z7, z8, z9, z10, z11, z12, z13, z14, z15⟩ := HCL.out wz hSw; go_simp; try with_reducible rfl)
      refine tk 20 rfl ?_ (by intro wz hSw; obtain ⟨z0, z1, z2, z3, z4, z5, z6, z7, z8, z9, z10, z11, z12, z13, z14, z15⟩ := HCL.out wz hSw; go_simp; try with_reducible rfl)
      refine tk 21 rfl ?_ (by intro wz hSw; obtain ⟨z0, z1, z2, z3, z4, z5, z6, z7, z8, z9, z10, z11, z12, z13, z14, z15⟩ := HCL.out wz hSw; go_simp; try with_reducible rfl)
      refine tk 22 rfl ?_ (by intro wz hSw; obtain ⟨z0, z1, z2, z3, z4, z5, z6, z7, z8, z9, z10, z11, z12, z13, z14, z15⟩ := HCL.out wz hSw; go_simp; try with_reducible rfl)
      refine wpAnyH_ready (rs := [23]) (by kernel_rfl) (by simp) (AllReadyH.cons (o := { dst := some 57, op := Op.buildSlice 84 1 #[(0, Operand.tmp 56)], type := 84, pos := "book.go:92", after := #[aD 22], guard := none }) rfl (fun K hK => ?_) AllReadyH.nil)
      go_simp
      refine hK.out _ _ (HRB2.out) (fun hHeld23 => ?_)
      clear hK K
      try simp only [Act.put, nm]
      refine wpAnyH_ready (rs := [24]) (by kernel_rfl) (by simp) (AllReadyH.cons (o := { dst := some 58, op := Op.call { callee := Callee.builtin Builtin.append, args := #[Operand.tmp 34, Operand.tmp 57], argTypes := #[84, 84] }, type := 84, pos := "book.go:92", after := #[aD 0, aD 23], guard := none }) rfl (fun K hK => ?_) AllReadyH.nil)
      refine step_append_known rfl (.tmp 34) (.tmp 57) 84 rfl vo (.slice (some ⟨wr.drew.heap.size, 0, none⟩) 1 1) v9 U9 (by simp [Act.eval]) (by simp [Act.eval]) happ ?_
      refine hK.out _ _ (HRB3.out) (fun hHeld24 => ?_)
      clear hK K
      try simp only [Act.put, nm]
      refine tk 25 rfl ?_
      refine wpAnyH_done (by kernel_rfl) ?_ _
      refine NoPanic.normal ?_
      clear hHeld hHeld23 hHeld24 happ hw g7
      go_upto_region 9 with fail
      have g8 : (k : Int) < 1000000 := by have := HX.out.2.2.1; have := H40.out x HX.out.2.1; have := HKU.out; omega
      go_wp2
      go_roundw
      case rel => exact ⟨k + 1, v9, HKU.out, by go_num, rfl, HNX.out, HRB3.out⟩
      case measure => have := HKU.out; simp [RowKit.intOf]; omega
     ·have hme : ¬ (k : Int) < um := by omega
      have HK : Hid (RowK w.heap.size vo (kall f O (l.take (i + 1))) wr ∧ Below w.heap.size w wr) := by
       have h1 := hR.out
       have h2 := HX.out.2.2.1
       rw [List.take_of_length_le (l := kes x.c (f x)) (by rw [kes_len]; omega), ← HT2.out] at h1
       exact h1
      clear hlt hk hR
      go_upto_region 4 with fail
      clear x0 x2 x4
      have g2 : (i : Int) < 1000 := by obtain ⟨⟨h, _⟩, _⟩ := HX.out; have := HV.out.2.2.2.2; omega
      go_wp2
      go_roundw
      case rel => obtain ⟨⟨h, _⟩, _⟩ := HX.out; exact ⟨i + 1, vo, h, by go_num, rfl, HK.out⟩
      case measure => obtain ⟨⟨h, _⟩, _⟩ := HX.out; simp [RowKit.intOf]; omega
  ·have hme : ¬ (i : Int) < ln := by have := HLN.out; omega
   have HE : Hid (RowK w.heap.size vo (kall f O l) wr ∧ Below w.heap.size w wr) := by
    have := hR.out
    rw [List.take_of_length_le (by omega)] at this
    exact this
   clear hlt hi hR
   go_wp2
   go_ret
   exact ⟨⟨_, rfl, HE.out.1⟩, HE.out.2⟩
end Go.Proofs.YtejfemdkommfhaaGreatDoor
