/-
  What is proved: the function Same of bookref3, called with two values that are one tree, answers that they are the same. the law JsonGets, called with any tree and path that lie in memory, returns true, and nothing that was there has turned.
  Conditions: as each theorem says.
-/
import Derived.Test.YtnmdhbejjjmdeaaGreatDoorP08
import Derived.Test.YtnmdhbejjjmdeaaGreatDoorP03
namespace Go.Proofs.YtnmdhbejjjmdeaaGreatDoor
open Go.RowKit Go.Sort

theorem keep16 {W W' : World} {p0 p1 p2 p3 p4 p5 p6 p7 p8 p9 p10 p11 p12 p13 p14 p15 : Addr} {v0 v1 v2 v3 v4 v5 v6 v7 v8 v9 v10 v11 v12 v13 v14 v15 : Value} (h : W.cell? p0 = some v0 ∧ W.cell? p1 = some v1 ∧ W.cell? p2 = some v2 ∧ W.cell? p3 = some v3 ∧ W.cell? p4 = some v4 ∧ W.cell? p5 = some v5 ∧ W.cell? p6 = some v6 ∧ W.cell? p7 = some v7 ∧ W.cell? p8 = some v8 ∧ W.cell? p9 = some v9 ∧ W.cell? p10 = some v10 ∧ W.cell? p11 = some v11 ∧ W.cell? p12 = some v12 ∧ W.cell? p13 = some v13 ∧ W.cell? p14 = some v14 ∧ W.cell? p15 = some v15) (hb : Below W.heap.size W W') : W'.cell? p0 = some v0 ∧ W'.cell? p1 = some v1 ∧ W'.cell? p2 = some v2 ∧ W'.cell? p3 = some v3 ∧ W'.cell? p4 = some v4 ∧ W'.cell? p5 = some v5 ∧ W'.cell? p6 = some v6 ∧ W'.cell? p7 = some v7 ∧ W'.cell? p8 = some v8 ∧ W'.cell? p9 = some v9 ∧ W'.cell? p10 = some v10 ∧ W'.cell? p11 = some v11 ∧ W'.cell? p12 = some v12 ∧ W'.cell? p13 = some v13 ∧ W'.cell? p14 = some v14 ∧ W'.cell? p15 = some v15 := by
  obtain ⟨h0, h1, h2, h3, h4, h5, h6, h7, h8, h9, h10, h11, h12, h13, h14, h15⟩ := h
  exact ⟨(hb.cell (cell_in h0)).trans h0, (hb.cell (cell_in h1)).trans h1, (hb.cell (cell_in h2)).trans h2, (hb.cell (cell_in h3)).trans h3, (hb.cell (cell_in h4)).trans h4, (hb.cell (cell_in h5)).trans h5, (hb.cell (cell_in h6)).trans h6, (hb.cell (cell_in h7)).trans h7, (hb.cell (cell_in h8)).trans h8, (hb.cell (cell_in h9)).trans h9, (hb.cell (cell_in h10)).trans h10, (hb.cell (cell_in h11)).trans h11, (hb.cell (cell_in h12)).trans h12, (hb.cell (cell_in h13)).trans h13, (hb.cell (cell_in h14)).trans h14, (hb.cell (cell_in h15)).trans h15⟩
theorem sameB_self (x : V) : sameB x x = true := by simp [sameB]

set_option maxRecDepth 100000 in
set_option maxHeartbeats 8000000 in
theorem same_any {w0 : World} {v : Value} {T : JT} (h : IsT w0 v T) : ∀ (w : World) (v' : Value), IsT w0 v' T → Below w0.heap.size w0 w →
    Calls Tryz.prog 12 #[v, v'] w fun e w' => e = .returned (.bool true) ∧ Below w.heap.size w w' := by
  induction h using IsTG.ind with
  | mk x ks ts uk a cap us hk hl hc hz hr hi ih =>
    intro w v' h' hb
    have HI : Hid (∀ i (h : i < us.length) (h' : i < ts.length) (w : World) (v' : Value), IsT w0 v' ts[i] → Below w0.heap.size w0 w → Calls Tryz.prog 12 #[tval us[i], v'] w fun e w' => e = .returned (.bool true) ∧ Below w.heap.size w w') := ih
    obtain ⟨T, hT⟩ : ∃ T, T = JT.node x ks ts := ⟨_, rfl⟩
    have eks : T.ks = ks := by rw [hT]; rfl
    have ets : T.ts = ts := by rw [hT]; exact node_ts x ks ts
    rw [← hT] at h'
    subst eks ets
    have hx : T.x = x := by rw [hT]; rfl
    clear hT
    obtain ⟨u', rfl⟩ := h'.of_val
    obtain ⟨N⟩ := h'.node
    obtain ⟨d1a, d1, d2a, d2, us', hu', nk, nl, nc, nz, nr, ni⟩ := N
    subst hu'
    rw [hx]
    clear hx h'
    obtain ⟨ak, ck, rfl, hk1, hk2, hk3⟩ := hk
    have HS : Hid (IsStrs w0 (.slice ak T.ks.length ck) T.ks) := ⟨ak, ck, rfl, hk1, hk2, hk3⟩
    have HS' : Hid (IsStrs w0 (.slice d1a T.ks.length d1) T.ks) := nk
    have HL : Hid (us.length = T.ts.length ∧ us'.length = T.ts.length ∧ T.ts.length ≤ 8796093022208 ∧ T.ks.length ≤ 8796093022208) := ⟨hl, nl, hz, hk2⟩
    have HR : Hid (RowT w0 a us) := hr
    have HR' : Hid (RowT w0 d2a us') := nr
    have HT : Hid (∀ i (h : i < us.length) (h' : i < T.ts.length), IsT w0 (tval us[i]) T.ts[i]) := hi
    have HT' : Hid (∀ i (h : i < us'.length) (h' : i < T.ts.length), IsT w0 (tval us'[i]) T.ts[i]) := ni
    have HB : Hid (Below w0.heap.size w0 w) := hb
    clear hk1 hk2 hk3 nk hl nl hz hr nr hi ni hb ih hc nc nz
    have q0 := eqV x x
    rw [sameB_self] at q0
    obtain ⟨k, n, t, o, c⟩ := x
    unfold V.val at q0
    unfold tval
    dsimp only at *
    obtain ⟨x0, y0, b0⟩ := two_boxes w (.cells #[.int .i64 k, .int .i64 n, .string t, .int .i64 o, .int .i64 c, .slice ak T.ks.length ck, .slice a T.ts.length cap] 29) (.cells #[.int .i64 k, .int .i64 n, .string t, .int .i64 o, .int .i64 c, .slice d1a T.ks.length d1, .slice d2a T.ts.length d2] 29)
    have HX : Hid (_ = some (Obj.cells #[.int .i64 k, .int .i64 n, .string t, .int .i64 o, .int .i64 c, .slice ak T.ks.length ck, .slice a T.ts.length cap] 29)) := x0
    have HY : Hid (_ = some (Obj.cells #[.int .i64 k, .int .i64 n, .string t, .int .i64 o, .int .i64 c, .slice d1a T.ks.length d1, .slice d2a T.ts.length d2] 29)) := y0
    have HBB : Hid (Below w.heap.size w _) := b0
    clear x0 y0 b0
    go_enter Tryz.func12, Tryz.ntmps12
    go_wp2_with fail
    go_loopw [5] (fun i wr => ∃ j : Nat, j ≤ T.ks.length ∧ i = .int .i64 j ∧ Hid (wr.heap[w.heap.size]? = some (.cells #[.int .i64 k, .int .i64 n, .string t, .int .i64 o, .int .i64 c, .slice ak T.ks.length ck, .slice a T.ts.length cap] 29)) ∧ Hid (wr.heap[w.heap.size + 1]? = some (.cells #[.int .i64 k, .int .i64 n, .string t, .int .i64 o, .int .i64 c, .slice d1a T.ks.length d1, .slice d2a T.ts.length d2] 29)) ∧ Hid (Below w.heap.size w wr)) (fun i _ => T.ks.length - (RowKit.intOf i).toNat)
    case atStart => exact ⟨0, Nat.zero_le _, rfl, HX, HY, HBB⟩
    case round =>
      clear HX HY HBB q0
      obtain ⟨j, hj, rfl, HX, HY, HBB⟩ := hrel
      have k5 : wr.cell? ⟨w.heap.size, 5, none⟩ = some (.slice ak T.ks.length ck) := Lib.cell_of_heap HX.out 5
      by_cases hlt : j < T.ks.length
      · have hb2 := HB.out.trans (HBB.out.mono HB.out.size)
        have hne : T.ks ≠ [] := fun e => by rw [e] at hlt; simp at hlt
        obtain ⟨b1, o1, rfl, hb4, hm1⟩ := HS.out.cells hb2 hne
        obtain ⟨b2, o2, rfl, hb5, hm2⟩ := HS'.out.cells hb2 hne
        have m1 := hm1 j hlt
        have m2 := hm2 j hlt
        have l5 : wr.cell? ⟨w.heap.size + 1, 5, none⟩ = some (.slice (some ⟨b2, o2, none⟩) T.ks.length d1) := Lib.cell_of_heap HY.out 5
        have g1 : (j : Int) < T.ks.length := by omega
        have g3 : (j : Int) < 8796093022208 := by have := HL.out; omega
        have HJ : Hid (j < T.ks.length) := hlt
        generalize T.ks[j] = s at *
        have e1 : (s.toList == s.toList) = true := by simp
        clear hm1 hm2 hne hlt hj hb2
        go_wp2
        go_quiet (fail)
        go_wp2
        go_roundw
        case rel => exact ⟨j + 1, HJ.out, by go_num, HX.out, HY.out, below_drew HBB.out nq⟩
        case measure => simp [RowKit.intOf]; have := HJ.out; omega
      · have g1 : ¬ (j : Int) < T.ks.length := by omega
        have k6 : wr.cell? ⟨w.heap.size, 6, none⟩ = some (.slice a T.ts.length cap) := Lib.cell_of_heap HX.out 6
        clear hlt hj
        go_wp2_with fail
        go_loopw [6, 7] (fun i _ w5 => ∃ m : Nat, m ≤ T.ts.length ∧ i = .int .i64 m ∧ Hid (w5.heap[w.heap.size]? = some (.cells #[.int .i64 k, .int .i64 n, .string t, .int .i64 o, .int .i64 c, .slice ak T.ks.length ck, .slice a T.ts.length cap] 29)) ∧ Hid (w5.heap[w.heap.size + 1]? = some (.cells #[.int .i64 k, .int .i64 n, .string t, .int .i64 o, .int .i64 c, .slice d1a T.ks.length d1, .slice d2a T.ts.length d2] 29)) ∧ Hid (Below w.heap.size w w5)) (fun i _ _ => T.ts.length - (RowKit.intOf i).toNat)
        case atStart => exact ⟨0, Nat.zero_le _, rfl, HX, HY, HBB⟩
        case round =>
          clear HX HY HBB k5 k6 g1
          obtain ⟨m, hm, rfl, HX, HY, HBB⟩ := hrel
          have k6 : wr.cell? ⟨w.heap.size, 6, none⟩ = some (.slice a T.ts.length cap) := Lib.cell_of_heap HX.out 6
          by_cases hlt : m < T.ts.length
          · have hbw := HBB.out
            have hb2 := HB.out.trans (HBB.out.mono HB.out.size)
            have hmu : m < us.length := by have := HL.out; omega
            have hmu' : m < us'.length := by have := HL.out; omega
            have t1 := HT.out m hmu hlt
            have t2 := HT'.out m hmu' hlt
            obtain ⟨⟨pk, pn, pt, po, pa⟩, pa1, pn1, pc1, pa2, pn2, pc2, hp⟩ := t1.parts
            obtain ⟨⟨qk, qn, qt, qo, qa⟩, qa1, qn1, qc1, qa2, qn2, qc2, hq⟩ := t2.parts
            obtain ⟨b1, o1, rfl, hb4, m0, m1, m2, m3, m4, m5, m6⟩ := HR.out.cells hb2 m hmu _ hp
            obtain ⟨b2, o2, rfl, hb5, n0, n1, n2, n3, n4, n5, n6⟩ := HR'.out.cells hb2 m hmu' _ hq
            have l6 : wr.cell? ⟨w.heap.size + 1, 6, none⟩ = some (.slice (some ⟨b2, o2, none⟩) T.ts.length d2) := Lib.cell_of_heap HY.out 6
            rw [hq] at t2
            have E := fun (W : World) (hb : Below w.heap.size w W) => HI.out m hmu hlt W _ t2 (HB.out.trans (hb.mono HB.out.size))
            rw [hp] at E
            have g1 : (m : Int) < T.ts.length := by omega
            have HJ : Hid (m < T.ts.length ∧ T.ts.length ≤ 8796093022208) := ⟨hlt, HL.out.2.2.1⟩
            dsimp only [tval] at E m0 m1 m2 m3 m4 m5 m6 n0 n1 n2 n3 n4 n5 n6
            clear t1 t2 hp hq hmu hmu' hlt hm hb2
            go_wp2
            refine wp_region_noPanic ?_
            refine wp_region_held_drew (S := fun W => W.cell? ⟨w.heap.size, 6, none⟩ = some (.slice (some ⟨b1, o1, none⟩) T.ts.length cap) ∧ W.cell? ⟨w.heap.size + 1, 6, none⟩ = some (.slice (some ⟨b2, o2, none⟩) T.ts.length d2) ∧ W.cell? ⟨b1, o1 + m * 7, none⟩ = some (.int .i64 pk) ∧ W.cell? ⟨b1, o1 + m * 7 + 1, none⟩ = some (.int .i64 pn) ∧ W.cell? ⟨b1, o1 + m * 7 + 2, none⟩ = some (.string pt) ∧ W.cell? ⟨b1, o1 + m * 7 + 3, none⟩ = some (.int .i64 po) ∧ W.cell? ⟨b1, o1 + m * 7 + 4, none⟩ = some (.int .i64 pa) ∧ W.cell? ⟨b1, o1 + m * 7 + 5, none⟩ = some (.slice pa1 pn1 pc1) ∧ W.cell? ⟨b1, o1 + m * 7 + 6, none⟩ = some (.slice pa2 pn2 pc2) ∧ W.cell? ⟨b2, o2 + m * 7, none⟩ = some (.int .i64 qk) ∧ W.cell? ⟨b2, o2 + m * 7 + 1, none⟩ = some (.int .i64 qn) ∧ W.cell? ⟨b2, o2 + m * 7 + 2, none⟩ = some (.string qt) ∧ W.cell? ⟨b2, o2 + m * 7 + 3, none⟩ = some (.int .i64 qo) ∧ W.cell? ⟨b2, o2 + m * 7 + 4, none⟩ = some (.int .i64 qa) ∧ W.cell? ⟨b2, o2 + m * 7 + 5, none⟩ = some (.slice qa1 qn1 qc1) ∧ W.cell? ⟨b2, o2 + m * 7 + 6, none⟩ = some (.slice qa2 qn2 qc2)) (by kernel_rfl) (⟨k6, l6, m0, m1, m2, m3, m4, m5, m6, n0, n1, n2, n3, n4, n5, n6⟩) (fun hHeld => ?_)
            refine wpAnyH_take (i := 0) (oi := { dst := some 56, op := Op.fieldAddr 29 (Operand.tmp 2) 2, type := 0, pos := "json.go:206", after := #[], guard := none }) (v := ?_) rfl (by kernel_rfl) (by kernel_rfl) (by kernel_rfl) (fun _ _ _ h => h) (Or.inl ⟨by rfl, ?_⟩) (by assumption) ?_
            rotate_left
            · intro wz hSw
              try dsimp only at hSw
              go_simp
              try with_reducible rfl
            try simp only [Act.put, List.setIfInBounds_toArray, List.set_cons_zero, List.set_cons_succ]
            refine wpAnyH_take (i := 1) (oi := { dst := some 57, op := Op.load 27 (Operand.tmp 56), type := 27, pos := "json.go:206", after := #[{ on := 0, ground := Ground.data }], guard := none }) (v := ?_) rfl (by kernel_rfl) (by kernel_rfl) (by kernel_rfl) (fun _ _ _ h => h) (Or.inl ⟨by rfl, ?_⟩) (by assumption) ?_
            rotate_left
            · intro wz hSw
              try dsimp only at hSw
              go_simp
              try with_reducible rfl
            try simp only [Act.put, List.setIfInBounds_toArray, List.set_cons_zero, List.set_cons_succ]
            refine wpAnyH_take (i := 2) (oi := { dst := some 58, op := Op.move (Operand.tmp 6), type := 3, pos := "json.go:206", after := #[], guard := none }) (v := ?_) rfl (by kernel_rfl) (by kernel_rfl) (by kernel_rfl) (fun _ _ _ h => h) (Or.inl ⟨by rfl, ?_⟩) (by assumption) ?_
            rotate_left
            · intro wz hSw
              try dsimp only at hSw
              go_simp
              try with_reducible rfl
            try simp only [Act.put, List.setIfInBounds_toArray, List.set_cons_zero, List.set_cons_succ]
            refine wpAnyH_take (i := 3) (oi := { dst := some 59, op := Op.indexAddr 27 (Operand.tmp 57) (Operand.tmp 58), type := 0, pos := "json.go:206", after := #[{ on := 1, ground := Ground.data }, { on := 2, ground := Ground.data }], guard := none }) (v := ?_) rfl (by kernel_rfl) (by kernel_rfl) (by kernel_rfl) (fun _ _ _ h => h) (Or.inl ⟨by rfl, ?_⟩) (by assumption) ?_
            rotate_left
            · intro wz hSw
              try dsimp only at hSw
              go_simp
              try with_reducible rfl
            try simp only [Act.put, List.setIfInBounds_toArray, List.set_cons_zero, List.set_cons_succ]
            refine wpAnyH_take (i := 4) (oi := { dst := some 60, op := Op.load 29 (Operand.tmp 59), type := 29, pos := "json.go:206", after := #[{ on := 3, ground := Ground.data }], guard := none }) (v := ?_) rfl (by kernel_rfl) (by kernel_rfl) (by kernel_rfl) (fun _ _ _ h => h) (Or.inl ⟨by rfl, ?_⟩) (by assumption) ?_
            rotate_left
            · intro wz hSw
              try dsimp only at hSw
              go_simp
              try with_reducible rfl
            try simp only [Act.put, List.setIfInBounds_toArray, List.set_cons_zero, List.set_cons_succ]
            refine wpAnyH_take (i := 5) (oi := { dst := some 61, op := Op.fieldAddr 29 (Operand.tmp 3) 2, type := 0, pos := "json.go:206", after := #[], guard := none }) (v := ?_) rfl (by kernel_rfl) (by kernel_rfl) (by kernel_rfl) (fun _ _ _ h => h) (Or.inl ⟨by rfl, ?_⟩) (by assumption) ?_
            rotate_left
            · intro wz hSw
              try dsimp only at hSw
              go_simp
              try with_reducible rfl
            try simp only [Act.put, List.setIfInBounds_toArray, List.set_cons_zero, List.set_cons_succ]
            refine wpAnyH_take (i := 6) (oi := { dst := some 62, op := Op.load 27 (Operand.tmp 61), type := 27, pos := "json.go:206", after := #[{ on := 5, ground := Ground.data }], guard := none }) (v := ?_) rfl (by kernel_rfl) (by kernel_rfl) (by kernel_rfl) (fun _ _ _ h => h) (Or.inl ⟨by rfl, ?_⟩) (by assumption) ?_
            rotate_left
            · intro wz hSw
              try dsimp only at hSw
              go_simp
              try with_reducible rfl
            try simp only [Act.put, List.setIfInBounds_toArray, List.set_cons_zero, List.set_cons_succ]
            refine wpAnyH_take (i := 7) (oi := { dst := some 63, op := Op.move (Operand.tmp 6), type := 3, pos := "json.go:206", after := #[], guard := none }) (v := ?_) rfl (by kernel_rfl) (by kernel_rfl) (by kernel_rfl) (fun _ _ _ h => h) (Or.inl ⟨by rfl, ?_⟩) (by assumption) ?_
            rotate_left
            · intro wz hSw
              try dsimp only at hSw
              go_simp
              try with_reducible rfl
            try simp only [Act.put, List.setIfInBounds_toArray, List.set_cons_zero, List.set_cons_succ]
            refine wpAnyH_take (i := 8) (oi := { dst := some 64, op := Op.indexAddr 27 (Operand.tmp 62) (Operand.tmp 63), type := 0, pos := "json.go:206", after := #[{ on := 6, ground := Ground.data }, { on := 7, ground := Ground.data }], guard := none }) (v := ?_) rfl (by kernel_rfl) (by kernel_rfl) (by kernel_rfl) (fun _ _ _ h => h) (Or.inl ⟨by rfl, ?_⟩) (by assumption) ?_
            rotate_left
            · intro wz hSw
              try dsimp only at hSw
              go_simp
              try with_reducible rfl
            try simp only [Act.put, List.setIfInBounds_toArray, List.set_cons_zero, List.set_cons_succ]
            refine wpAnyH_take (i := 9) (oi := { dst := some 65, op := Op.load 29 (Operand.tmp 64), type := 29, pos := "json.go:206", after := #[{ on := 8, ground := Ground.data }], guard := none }) (v := ?_) rfl (by kernel_rfl) (by kernel_rfl) (by kernel_rfl) (fun _ _ _ h => h) (Or.inl ⟨by rfl, ?_⟩) (by assumption) ?_
            rotate_left
            · intro wz hSw
              try dsimp only at hSw
              go_simp
              try with_reducible rfl
            try simp only [Act.put, List.setIfInBounds_toArray, List.set_cons_zero, List.set_cons_succ]
            refine wpAnyH_ready (rs := [10]) (by kernel_rfl) (by simp) (AllReadyH.cons (o := { dst := some 66, op := Op.call { callee := Callee.value (Operand.func 12), args := #[Operand.tmp 60, Operand.tmp 65], argTypes := #[29, 29] }, type := 4, pos := "json.go:206", after := #[{ on := 4, ground := Ground.data }, { on := 9, ground := Ground.data }], guard := none }) rfl (fun K hK => ?_) AllReadyH.nil)
            go_simp
            go_at_call 12
            refine Calls.mono (E _ (hbw.drew)) ?_
            rintro e w10 ⟨rfl, b1x⟩
            go_wp2_with fail
            refine hK.out _ _ (keep16 (by assumption) b1x) (fun hHeld10 => ?_)
            clear hK K
            try simp only [Act.put, List.setIfInBounds_toArray, List.set_cons_zero, List.set_cons_succ]
            refine wpAnyH_take (i := 11) (oi := { dst := some 7, op := Op.assign (Operand.tmp 66), type := 4, pos := "json.go:206", after := #[{ on := 10, ground := Ground.data }, { on := 10, ground := Ground.chain }, { on := 0, ground := Ground.phase }, { on := 1, ground := Ground.phase }, { on := 2, ground := Ground.phase }, { on := 3, ground := Ground.phase }, { on := 4, ground := Ground.phase }, { on := 5, ground := Ground.phase }, { on := 6, ground := Ground.phase }, { on := 7, ground := Ground.phase }, { on := 8, ground := Ground.phase }, { on := 9, ground := Ground.phase }, { on := 10, ground := Ground.phase }], guard := none }) (v := ?_) rfl (by kernel_rfl) (by kernel_rfl) (by kernel_rfl) (fun _ _ _ h => h) (Or.inl ⟨by rfl, ?_⟩) (by assumption) ?_
            rotate_left
            · intro wz hSw
              try dsimp only at hSw
              go_simp
              try with_reducible rfl
            try simp only [Act.put, List.setIfInBounds_toArray, List.set_cons_zero, List.set_cons_succ]
            refine wpAnyH_done (by kernel_rfl) ?_ _
            refine NoPanic.normal ?_
            have HB1 : Hid (Below w.heap.size w w10) := hbw.drew.trans (b1x.mono hbw.drew.size)
            have HX1 : Hid (w10.heap[w.heap.size]? = some _) := (b1x.block _ (lt_of_heap HX.out)).trans HX.out
            have HY1 : Hid (w10.heap[w.heap.size + 1]? = some _) := (b1x.block _ (lt_of_heap HY.out)).trans HY.out
            clear hHeld hHeld10 b1x E m0 m1 m2 m3 m4 m5 m6 n0 n1 n2 n3 n4 n5 n6 k6 l6 hbw
            have g3 : (m : Int) < 8796093022208 := by have := HJ.out; omega
            go_wp2
            go_roundw
            case rel => exact ⟨m + 1, HJ.out.1, by go_num, HX1, HY1, HB1⟩
            case measure => simp [RowKit.intOf]; have := HJ.out; omega
          · have g1 : ¬ (m : Int) < T.ts.length := by omega
            clear hlt hm
            go_wp2
            go_ret
            exact ⟨rfl, HBB.out⟩
end Go.Proofs.YtnmdhbejjjmdeaaGreatDoor

namespace Go.Proofs.YtnmdhbejjjmdeaaGreatDoor
open Go.RowKit Go.Sort

theorem error_any (e : Int) (w : World) (h : Et w) : Calls Tryz.prog 11 #[errV e, .int .i64 e] w fun r w' => r = .returned (.bool true) ∧ Below w.heap.size w w' := by
  unfold errV
  by_cases he : e = 0
  · subst he
    rw [if_pos rfl]
    exact error_nil w
  · rw [if_neg he]
    exact error_errno e w h

set_option maxRecDepth 100000 in
set_option maxHeartbeats 4000000 in
theorem tree_any {v v' : Value} {t : JT} (e : Int) (w : World) (h : IsT w v t) (h' : IsT w v' t) (hE : Et w) :
    Calls Tryz.prog 6 #[v, errV e, v', .int .i64 e] w fun r w' => r = .returned (.bool true) ∧ Below w.heap.size w w' := by
  obtain ⟨u, rfl⟩ := h.of_val
  obtain ⟨⟨xk, xn, xt, xo, xa⟩, a1, n1, c1, a2, n2, c2, hu⟩ := h.parts
  subst hu
  obtain ⟨u', rfl⟩ := h'.of_val
  obtain ⟨⟨yk, yn, yt, yo, ya⟩, f1, g1, h1, f2, g2, h2, hu'⟩ := h'.parts
  subst hu'
  obtain ⟨x0, y0, b0⟩ := two_boxes w (.cells #[.int .i64 xk, .int .i64 xn, .string xt, .int .i64 xo, .int .i64 xa, .slice a1 n1 c1, .slice a2 n2 c2] 29) (.cells #[.int .i64 yk, .int .i64 yn, .string yt, .int .i64 yo, .int .i64 ya, .slice f1 g1 h1, .slice f2 g2 h2] 29)
  have E1 := error_any e _ (hE.below b0)
  have HX : Hid (_ = some (Obj.cells #[.int .i64 xk, .int .i64 xn, .string xt, .int .i64 xo, .int .i64 xa, .slice a1 n1 c1, .slice a2 n2 c2] 29)) := x0
  have HY : Hid (_ = some (Obj.cells #[.int .i64 yk, .int .i64 yn, .string yt, .int .i64 yo, .int .i64 ya, .slice f1 g1 h1, .slice f2 g2 h2] 29)) := y0
  have HB : Hid (Below w.heap.size w _) := b0
  have HT : Hid (IsT w (tval (⟨xk, xn, xt, xo, xa⟩, .slice a1 n1 c1, .slice a2 n2 c2)) t ∧ IsT w (tval (⟨yk, yn, yt, yo, ya⟩, .slice f1 g1 h1, .slice f2 g2 h2)) t) := ⟨h, h'⟩
  clear h h' hE x0 y0 b0
  generalize errV e = er at *
  unfold tval
  dsimp only
  go_enter Tryz.func6, Tryz.ntmps6
  go_wp2_with fail
  go_fit E1
  rintro r w1 ⟨rfl, b1⟩
  have HX1 : Hid (w1.heap[w.heap.size]? = some _) := (b1.block _ (lt_of_heap HX.out)).trans HX.out
  have HY1 : Hid (w1.heap[w.heap.size + 1]? = some _) := (b1.block _ (lt_of_heap HY.out)).trans HY.out
  have HB1 : Hid (Below w.heap.size w w1) := HB.out.trans (b1.mono HB.out.size)
  clear b1 E1
  have E2 := same_any HT.out.1 w1 _ HT.out.2 HB1.out
  obtain ⟨k0, k1, k2, k3, k4, k5, k6⟩ := tboxed (u := (⟨xk, xn, xt, xo, xa⟩, .slice a1 n1 c1, .slice a2 n2 c2)) HX1.out
  obtain ⟨l0, l1, l2, l3, l4, l5, l6⟩ := tboxed (u := (⟨yk, yn, yt, yo, ya⟩, .slice f1 g1 h1, .slice f2 g2 h2)) HY1.out
  dsimp only [tval] at E2 k0 k1 k2 k3 k4 k5 k6 l0 l1 l2 l3 l4 l5 l6
  go_wp2_with fail
  go_fit E2
  rintro r w2 ⟨rfl, b2⟩
  have HB2 : Hid (Below w.heap.size w w2) := HB1.out.trans (b2.mono HB1.out.size)
  clear b2 E2 k0 k1 k2 k3 k4 k5 k6 l0 l1 l2 l3 l4 l5 l6
  go_wp2
  go_ret
  exact ⟨rfl, HB2.out⟩

end Go.Proofs.YtnmdhbejjjmdeaaGreatDoor
