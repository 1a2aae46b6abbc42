/-
  What is proved: the function follow of package json, called with the place of a tree and a path that lie in memory, answers the place of the tree at the path's end, or that there is none.
  Conditions: both lie in memory, and the tree is one.
-/
import Derived.Test.YtnoikdlofkcgaaaGreatDoorG07
namespace Go.Proofs.YtnoikdlofkcgaaaGreatDoor
open Go.RowKit Go.Sort

/-- A tree's own fields lie at a place. -/
def TAt (w : World) (b o : Nat) (u : TV) : Prop :=
  b < w.heap.size ∧ w.cell? ⟨b, o, none⟩ = some (.int .i64 u.1.k) ∧ w.cell? ⟨b, o + 1, none⟩ = some (.int .i64 u.1.n) ∧ w.cell? ⟨b, o + 2, none⟩ = some (.string u.1.t) ∧ w.cell? ⟨b, o + 3, none⟩ = some (.int .i64 u.1.o) ∧ w.cell? ⟨b, o + 4, none⟩ = some (.int .i64 u.1.a) ∧ w.cell? ⟨b, o + 5, none⟩ = some u.2.1 ∧ w.cell? ⟨b, o + 6, none⟩ = some u.2.2
theorem TAt.below {w w' : World} {b o : Nat} {u : TV} (h : TAt w b o u) (hb : Below w.heap.size w w') : TAt w' b o u := by
  obtain ⟨h0, h1, h2, h3, h4, h5, h6, h7⟩ := h
  exact ⟨Nat.lt_of_lt_of_le h0 hb.size, (hb.cell (p := ⟨b, o, none⟩) h0).trans h1, (hb.cell (p := ⟨b, o + 1, none⟩) h0).trans h2, (hb.cell (p := ⟨b, o + 2, none⟩) h0).trans h3, (hb.cell (p := ⟨b, o + 3, none⟩) h0).trans h4, (hb.cell (p := ⟨b, o + 4, none⟩) h0).trans h5, (hb.cell (p := ⟨b, o + 5, none⟩) h0).trans h6, (hb.cell (p := ⟨b, o + 6, none⟩) h0).trans h7⟩
/-- What follow answers. -/
def FollowP (w : World) (q : Option JT) (e : Ending) : Prop :=
  (∃ t b o u, q = some t ∧ e = .returned (.pointer (some ⟨b, o, none⟩)) ∧ TAt w b o u ∧ IsT w (tval u) t) ∨ (q = none ∧ e = .returned (.pointer none))

set_option maxRecDepth 100000 in
set_option maxHeartbeats 8000000 in
theorem follow_any {p : Value} {T : JT} {l : List Stp} {b0 o0 : Nat} {u : TV} (w : World) (hA : TAt w b0 o0 u) (h : IsT w (tval u) T) (hp : IsSteps w p l) (hf : formedB T = true) :
    Calls Tryz.prog 17 #[.pointer (some ⟨b0, o0, none⟩), p] w fun e w' => FollowP w (getT T l) e ∧ Below w.heap.size w w' := by
  have HT : Hid (TAt w b0 o0 u ∧ IsT w (tval u) T ∧ formedB T = true) := ⟨hA, h, hf⟩
  have HP : Hid (IsSteps w p l) := hp
  obtain ⟨a, cap, rfl, h1, h2, h3⟩ := hp
  have HZ : Hid (l.length ≤ cap ∧ l.length ≤ 8796093022208) := ⟨h1, h2⟩
  clear h hf h1 h2 h3 hA
  go_enter Tryz.func17, Tryz.ntmps17
  go_wp2_with fail
  go_loopw [0, 6, 7, 8, 11] (fun pt _ _ _ i wr => ∃ (j : Nat) (Tj : JT) (uj : TV) (bj oj : Nat), j ≤ l.length ∧ i = .int .i64 j ∧ pt = .pointer (some ⟨bj, oj, none⟩) ∧ Hid (getT T l = getT Tj (l.drop j)) ∧ Hid (TAt w bj oj uj ∧ IsT w (tval uj) Tj ∧ formedB Tj = true) ∧ Hid (Below w.heap.size w wr)) (fun _ _ _ _ i _ => l.length - (RowKit.intOf i).toNat)
  case atStart => exact ⟨0, T, u, b0, o0, Nat.zero_le _, rfl, rfl, rfl, HT, Below.refl _ _⟩
  case round =>
    clear HT
    obtain ⟨j, Tj, uj, bj, oj, hj, rfl, rfl, HG, HTj, HB⟩ := hrel
    by_cases hlt : j < l.length
    · have g1 : (j : Int) < l.length := by omega
      obtain ⟨b, off, rfl, hb4, hmem⟩ := HP.out.cells HB.out (show l ≠ [] from fun e => by rw [e] at hlt; simp at hlt)
      obtain ⟨yy0, yy1⟩ := hmem j hlt
      obtain ⟨N⟩ := HTj.out.2.1.node
      obtain ⟨a1, c1, a2, c2, us, hu, nk, nl, nc, nz, nr, ni⟩ := N
      subst hu
      have HFN : Hid ((Tj.x.k = 5 → Tj.ks.length = Tj.ts.length ∧ upB [] Tj.ks = true) ∧ ∀ t ∈ Tj.ts, formedB t = true) := formed_node HTj.out.2.2
      have EF := fun (W : World) (hb : Below w.heap.size w W) => find_any Tj.x Tj.ks a1 a2 Tj.ks.length c1 Tj.ts.length c2 l[j] W (nk.below hb) (fun h5 => (HFN.out.1 h5).2)
      have HD : Hid (l.drop j = l[j] :: l.drop (j + 1) ∧ j < l.length) := ⟨List.drop_eq_getElem_cons hlt, hlt⟩
      have HLT : Hid (∀ i, kidOf Tj.x Tj.ks Tj.ts.length l[j] = some i → i < Tj.ts.length) := fun i hi => kidOf_lt hi (fun h5 => (HFN.out.1 h5).1)
      have HST : Hid (step1 Tj l[j] = (kidOf Tj.x Tj.ks Tj.ts.length l[j]).bind fun i => Tj.ts[i]?) := rfl
      have HN : Hid (us.length = Tj.ts.length ∧ Tj.ts.length ≤ c2 ∧ Tj.ts.length ≤ 8796093022208) := ⟨nl, nc.1, nz⟩
      have HNR : Hid (RowT w a2 us) := nr
      have HNI : Hid (∀ i (h : i < us.length) (h' : i < Tj.ts.length), IsT w (tval us[i]) Tj.ts[i]) := ni
      clear hmem hj nk nl nc nz nr ni
      generalize l[j] = s at *
      clear hlt
      obtain ⟨sb, si⟩ := s
      generalize hq : kidOf Tj.x Tj.ks Tj.ts.length (sb, si) = q at *
      clear hq
      have hTA := HTj.out.1
      generalize hxx : Tj.x = xx at *
      have HXX : Hid (Tj.x = xx) := hxx
      clear hxx
      obtain ⟨xk, xn, xt, xo, xa⟩ := xx
      generalize Tj.ks.length = n1 at *
      have y2 := two_boxes
      clear y2
      dsimp only [tval, stpV] at EF yy0 yy1
      have hb0 := (Below.refl wr.heap.size wr).alloc (Nat.le_refl _) (.cells #[.string sb, .int .i64 si] 60)
      have hbw := HB.out.trans (hb0.mono HB.out.size)
      obtain ⟨-, k0, k1, k2, k3, k4, k5, k6⟩ := hTA.below hbw
      have hy : (wr.alloc (.cells #[.string sb, .int .i64 si] 60)).heap[wr.heap.size]? = some (.cells #[.string sb, .int .i64 si] 60) := (MapKept.heap_alloc wr _).1
      have y0 : (wr.alloc (.cells #[.string sb, .int .i64 si] 60)).cell? ⟨wr.heap.size, 0, none⟩ = some (.string sb) := Lib.cell_of_heap hy 0
      have y1 : (wr.alloc (.cells #[.string sb, .int .i64 si] 60)).cell? ⟨wr.heap.size, 1, none⟩ = some (.int .i64 si) := Lib.cell_of_heap hy 1
      dsimp only at k0 k1 k2 k3 k4 k5 k6
      clear hb0 hy hTA
      go_upto_region 4 with fail
      generalize hWq : wr.alloc (.cells #[.string sb, .int .i64 si] 60) = Wq at *
      clear hWq yy0 yy1
      cases q with
      | none =>
        have HR : Hid (getT T l = none) := by
          show getT T l = none
          rw [HG.out, HD.out.1, getT, HST.out]; rfl
        refine wp_region_noPanic ?_
        refine wp_region_held_drew (S := fun W => W.cell? ⟨bj, oj, none⟩ = some (.int .i64 xk) ∧ W.cell? ⟨bj, oj + 1, none⟩ = some (.int .i64 xn) ∧ W.cell? ⟨bj, oj + 2, none⟩ = some (.string xt) ∧ W.cell? ⟨bj, oj + 3, none⟩ = some (.int .i64 xo) ∧ W.cell? ⟨bj, oj + 4, none⟩ = some (.int .i64 xa) ∧ W.cell? ⟨bj, oj + 5, none⟩ = some (.slice a1 n1 c1) ∧ W.cell? ⟨bj, oj + 6, none⟩ = some (.slice a2 Tj.ts.length c2) ∧ W.cell? ⟨wr.heap.size, 0, none⟩ = some (.string sb) ∧ W.cell? ⟨wr.heap.size, 1, none⟩ = some (.int .i64 si)) (by kernel_rfl) (⟨k0, k1, k2, k3, k4, k5, k6, y0, y1⟩) (fun hHeld => ?_)
        refine wpAnyH_take (i := 0) (oi := { dst := some 16, op := Op.move (Operand.tmp 0), type := 62, pos := "path.go:47", after := #[], guard := none }) (v := ?_) rfl (by kernel_rfl) (by kernel_rfl) (by kernel_rfl) (fun _ _ _ h => h) (Or.inl ⟨by rfl, ?_⟩) (by assumption) ?_
        rotate_left
        · intro wz hSw
          try dsimp only at hSw
          go_simp
          try with_reducible rfl
        try simp only [Act.put, List.setIfInBounds_toArray, List.set_cons_zero, List.set_cons_succ]
        refine wpAnyH_take (i := 1) (oi := { dst := some 17, op := Op.nilCheck (Operand.tmp 16), type := 0, pos := "path.go:47", after := #[{ on := 0, ground := Ground.data }], guard := none }) (v := ?_) rfl (by kernel_rfl) (by kernel_rfl) (by kernel_rfl) (fun _ _ _ h => h) (Or.inl ⟨by rfl, ?_⟩) (by assumption) ?_
        rotate_left
        · intro wz hSw
          try dsimp only at hSw
          go_simp
          try with_reducible rfl
        try simp only [Act.put, List.setIfInBounds_toArray, List.set_cons_zero, List.set_cons_succ]
        refine wpAnyH_take (i := 2) (oi := { dst := some 18, op := Op.load 29 (Operand.tmp 17), type := 29, pos := "path.go:47", after := #[{ on := 1, ground := Ground.data }], guard := none }) (v := ?_) rfl (by kernel_rfl) (by kernel_rfl) (by kernel_rfl) (fun _ _ _ h => h) (Or.inl ⟨by rfl, ?_⟩) (by assumption) ?_
        rotate_left
        · intro wz hSw
          try dsimp only at hSw
          go_simp
          try with_reducible rfl
        try simp only [Act.put, List.setIfInBounds_toArray, List.set_cons_zero, List.set_cons_succ]
        refine wpAnyH_take (i := 3) (oi := { dst := some 19, op := Op.load 60 (Operand.tmp 6), type := 60, pos := "path.go:47", after := #[], guard := none }) (v := ?_) rfl (by kernel_rfl) (by kernel_rfl) (by kernel_rfl) (fun _ _ _ h => h) (Or.inl ⟨by rfl, ?_⟩) (by assumption) ?_
        rotate_left
        · intro wz hSw
          try dsimp only at hSw
          go_simp
          try with_reducible rfl
        try simp only [Act.put, List.setIfInBounds_toArray, List.set_cons_zero, List.set_cons_succ]
        refine wpAnyH_ready (rs := [4]) (by kernel_rfl) (by simp) (AllReadyH.cons (o := { dst := some 20, op := Op.call { callee := Callee.value (Operand.func 35), args := #[Operand.tmp 18, Operand.tmp 19], argTypes := #[29, 60] }, type := 77, pos := "path.go:47", after := #[{ on := 2, ground := Ground.data }, { on := 3, ground := Ground.data }], guard := none }) rfl (fun K hK => ?_) AllReadyH.nil)
        go_simp
        go_at_call 35
        refine Calls.mono (EF _ (hbw.drew)) ?_
        rintro e w4 ⟨⟨r, ok, rfl, hf1, hf2⟩, b1⟩
        go_wp2_with fail
        refine hK.out _ _ (keep9 (by assumption) b1) (fun hHeld4 => ?_)
        clear hK K
        try simp only [Act.put, List.setIfInBounds_toArray, List.set_cons_zero, List.set_cons_succ]
        obtain rfl : ok = false := hf2 (by first | trivial | rfl)
        refine wpAnyH_take (i := 5) (oi := { dst := some 15, op := Op.move (Operand.tmp 20), type := 77, pos := "path.go:47", after := #[{ on := 4, ground := Ground.data }], guard := none }) (v := ?_) rfl (by kernel_rfl) (by kernel_rfl) (by kernel_rfl) (fun _ _ _ h => h) (Or.inl ⟨by rfl, ?_⟩) (by assumption) ?_
        rotate_left
        · intro wz hSw
          try dsimp only at hSw
          go_simp
          try with_reducible rfl
        try simp only [Act.put, List.setIfInBounds_toArray, List.set_cons_zero, List.set_cons_succ]
        refine wpAnyH_take (i := 6) (oi := { dst := some 21, op := Op.extract (Operand.tmp 15) 0, type := 3, pos := "path.go:47", after := #[{ on := 5, ground := Ground.data }], guard := none }) (v := ?_) rfl (by kernel_rfl) (by kernel_rfl) (by kernel_rfl) (fun _ _ _ h => h) (Or.inl ⟨by rfl, ?_⟩) (by assumption) ?_
        rotate_left
        · intro wz hSw
          try dsimp only at hSw
          go_simp
          try with_reducible rfl
        try simp only [Act.put, List.setIfInBounds_toArray, List.set_cons_zero, List.set_cons_succ]
        refine wpAnyH_take (i := 7) (oi := { dst := some 22, op := Op.extract (Operand.tmp 15) 1, type := 4, pos := "path.go:47", after := #[{ on := 5, ground := Ground.data }, { on := 8, ground := Ground.gcOnly Departure.lateStores }], guard := none }) (v := ?_) rfl (by kernel_rfl) (by kernel_rfl) (by kernel_rfl) (fun _ _ _ h => h) (Or.inl ⟨by rfl, ?_⟩) (by assumption) ?_
        rotate_left
        · intro wz hSw
          try dsimp only at hSw
          go_simp
          try with_reducible rfl
        try simp only [Act.put, List.setIfInBounds_toArray, List.set_cons_zero, List.set_cons_succ]
        refine wpAnyH_take (i := 8) (oi := { dst := some 7, op := Op.assign (Operand.tmp 21), type := 3, pos := "path.go:47", after := #[{ on := 6, ground := Ground.data }, { on := 4, ground := Ground.chain }, { on := 0, ground := Ground.phase }, { on := 1, ground := Ground.phase }, { on := 2, ground := Ground.phase }, { on := 3, ground := Ground.phase }, { on := 4, ground := Ground.phase }, { on := 5, ground := Ground.phase }, { on := 6, ground := Ground.phase }, { on := 7, ground := Ground.textOnly Departure.lateStores }], guard := none }) (v := ?_) rfl (by kernel_rfl) (by kernel_rfl) (by kernel_rfl) (fun _ _ _ h => h) (Or.inl ⟨by rfl, ?_⟩) (by assumption) ?_
        rotate_left
        · intro wz hSw
          try dsimp only at hSw
          go_simp
          try with_reducible rfl
        try simp only [Act.put, List.setIfInBounds_toArray, List.set_cons_zero, List.set_cons_succ]
        refine wpAnyH_take (i := 9) (oi := { dst := some 8, op := Op.assign (Operand.tmp 22), type := 4, pos := "path.go:47", after := #[{ on := 7, ground := Ground.data }, { on := 8, ground := Ground.chain }, { on := 0, ground := Ground.phase }, { on := 1, ground := Ground.phase }, { on := 2, ground := Ground.phase }, { on := 3, ground := Ground.phase }, { on := 4, ground := Ground.phase }, { on := 5, ground := Ground.phase }, { on := 6, ground := Ground.phase }, { on := 7, ground := Ground.phase }, { on := 8, ground := Ground.phase }], guard := none }) (v := ?_) rfl (by kernel_rfl) (by kernel_rfl) (by kernel_rfl) (fun _ _ _ h => h) (Or.inl ⟨by rfl, ?_⟩) (by assumption) ?_
        rotate_left
        · intro wz hSw
          try dsimp only at hSw
          go_simp
          try with_reducible rfl
        try simp only [Act.put, List.setIfInBounds_toArray, List.set_cons_zero, List.set_cons_succ]
        refine wpAnyH_done (by kernel_rfl) ?_ _
        refine NoPanic.normal ?_
        have HB1 : Hid (Below w.heap.size w w4) := hbw.drew.trans (b1.mono hbw.drew.size)
        clear hHeld hHeld4 b1 EF k0 k1 k2 k3 k4 k5 k6 y0 y1 hbw hf1 hf2
        go_wp2
        go_ret
        exact ⟨Or.inr ⟨HR.out, rfl⟩, HB1.out⟩
      | some i =>
        have hi : i < Tj.ts.length := HLT.out i rfl
        have HR : Hid (getT T l = getT Tj.ts[i] (l.drop (j + 1))) := by
          show getT T l = _
          rw [HG.out, HD.out.1, getT, HST.out]
          simp [List.getElem?_eq_getElem hi]
        have hiu : i < us.length := by have := HN.out.1; omega
        have hTi := HNI.out i hiu hi
        have HTI : Hid (IsT w (tval us[i]) Tj.ts[i] ∧ formedB Tj.ts[i] = true) := ⟨hTi, HFN.out.2 _ (List.getElem_mem hi)⟩
        obtain ⟨z, hz⟩ : ∃ z : Int, z = i := ⟨_, rfl⟩
        clear hTi
        refine wp_region_noPanic ?_
        refine wp_region_held_drew (S := fun W => W.cell? ⟨bj, oj, none⟩ = some (.int .i64 xk) ∧ W.cell? ⟨bj, oj + 1, none⟩ = some (.int .i64 xn) ∧ W.cell? ⟨bj, oj + 2, none⟩ = some (.string xt) ∧ W.cell? ⟨bj, oj + 3, none⟩ = some (.int .i64 xo) ∧ W.cell? ⟨bj, oj + 4, none⟩ = some (.int .i64 xa) ∧ W.cell? ⟨bj, oj + 5, none⟩ = some (.slice a1 n1 c1) ∧ W.cell? ⟨bj, oj + 6, none⟩ = some (.slice a2 Tj.ts.length c2) ∧ W.cell? ⟨wr.heap.size, 0, none⟩ = some (.string sb) ∧ W.cell? ⟨wr.heap.size, 1, none⟩ = some (.int .i64 si)) (by kernel_rfl) (⟨k0, k1, k2, k3, k4, k5, k6, y0, y1⟩) (fun hHeld => ?_)
        refine wpAnyH_take (i := 0) (oi := { dst := some 16, op := Op.move (Operand.tmp 0), type := 62, pos := "path.go:47", after := #[], guard := none }) (v := ?_) rfl (by kernel_rfl) (by kernel_rfl) (by kernel_rfl) (fun _ _ _ h => h) (Or.inl ⟨by rfl, ?_⟩) (by assumption) ?_
        rotate_left
        · intro wz hSw
          try dsimp only at hSw
          go_simp
          try with_reducible rfl
        try simp only [Act.put, List.setIfInBounds_toArray, List.set_cons_zero, List.set_cons_succ]
        refine wpAnyH_take (i := 1) (oi := { dst := some 17, op := Op.nilCheck (Operand.tmp 16), type := 0, pos := "path.go:47", after := #[{ on := 0, ground := Ground.data }], guard := none }) (v := ?_) rfl (by kernel_rfl) (by kernel_rfl) (by kernel_rfl) (fun _ _ _ h => h) (Or.inl ⟨by rfl, ?_⟩) (by assumption) ?_
        rotate_left
        · intro wz hSw
          try dsimp only at hSw
          go_simp
          try with_reducible rfl
        try simp only [Act.put, List.setIfInBounds_toArray, List.set_cons_zero, List.set_cons_succ]
        refine wpAnyH_take (i := 2) (oi := { dst := some 18, op := Op.load 29 (Operand.tmp 17), type := 29, pos := "path.go:47", after := #[{ on := 1, ground := Ground.data }], guard := none }) (v := ?_) rfl (by kernel_rfl) (by kernel_rfl) (by kernel_rfl) (fun _ _ _ h => h) (Or.inl ⟨by rfl, ?_⟩) (by assumption) ?_
        rotate_left
        · intro wz hSw
          try dsimp only at hSw
          go_simp
          try with_reducible rfl
        try simp only [Act.put, List.setIfInBounds_toArray, List.set_cons_zero, List.set_cons_succ]
        refine wpAnyH_take (i := 3) (oi := { dst := some 19, op := Op.load 60 (Operand.tmp 6), type := 60, pos := "path.go:47", after := #[], guard := none }) (v := ?_) rfl (by kernel_rfl) (by kernel_rfl) (by kernel_rfl) (fun _ _ _ h => h) (Or.inl ⟨by rfl, ?_⟩) (by assumption) ?_
        rotate_left
        · intro wz hSw
          try dsimp only at hSw
          go_simp
          try with_reducible rfl
        try simp only [Act.put, List.setIfInBounds_toArray, List.set_cons_zero, List.set_cons_succ]
        refine wpAnyH_ready (rs := [4]) (by kernel_rfl) (by simp) (AllReadyH.cons (o := { dst := some 20, op := Op.call { callee := Callee.value (Operand.func 35), args := #[Operand.tmp 18, Operand.tmp 19], argTypes := #[29, 60] }, type := 77, pos := "path.go:47", after := #[{ on := 2, ground := Ground.data }, { on := 3, ground := Ground.data }], guard := none }) rfl (fun K hK => ?_) AllReadyH.nil)
        go_simp
        go_at_call 35
        refine Calls.mono (EF _ (hbw.drew)) ?_
        rintro e w4 ⟨⟨r, ok, rfl, hf1, hf2⟩, b1⟩
        go_wp2_with fail
        refine hK.out _ _ (keep9 (by assumption) b1) (fun hHeld4 => ?_)
        clear hK K
        try simp only [Act.put, List.setIfInBounds_toArray, List.set_cons_zero, List.set_cons_succ]
        obtain ⟨rfl, rfl⟩ : r = z ∧ ok = true := ⟨(hf1 i (by first | trivial | rfl)).1.trans hz.symm, (hf1 i (by first | trivial | rfl)).2⟩
        refine wpAnyH_take (i := 5) (oi := { dst := some 15, op := Op.move (Operand.tmp 20), type := 77, pos := "path.go:47", after := #[{ on := 4, ground := Ground.data }], guard := none }) (v := ?_) rfl (by kernel_rfl) (by kernel_rfl) (by kernel_rfl) (fun _ _ _ h => h) (Or.inl ⟨by rfl, ?_⟩) (by assumption) ?_
        rotate_left
        · intro wz hSw
          try dsimp only at hSw
          go_simp
          try with_reducible rfl
        try simp only [Act.put, List.setIfInBounds_toArray, List.set_cons_zero, List.set_cons_succ]
        refine wpAnyH_take (i := 6) (oi := { dst := some 21, op := Op.extract (Operand.tmp 15) 0, type := 3, pos := "path.go:47", after := #[{ on := 5, ground := Ground.data }], guard := none }) (v := ?_) rfl (by kernel_rfl) (by kernel_rfl) (by kernel_rfl) (fun _ _ _ h => h) (Or.inl ⟨by rfl, ?_⟩) (by assumption) ?_
        rotate_left
        · intro wz hSw
          try dsimp only at hSw
          go_simp
          try with_reducible rfl
        try simp only [Act.put, List.setIfInBounds_toArray, List.set_cons_zero, List.set_cons_succ]
        refine wpAnyH_take (i := 7) (oi := { dst := some 22, op := Op.extract (Operand.tmp 15) 1, type := 4, pos := "path.go:47", after := #[{ on := 5, ground := Ground.data }, { on := 8, ground := Ground.gcOnly Departure.lateStores }], guard := none }) (v := ?_) rfl (by kernel_rfl) (by kernel_rfl) (by kernel_rfl) (fun _ _ _ h => h) (Or.inl ⟨by rfl, ?_⟩) (by assumption) ?_
        rotate_left
        · intro wz hSw
          try dsimp only at hSw
          go_simp
          try with_reducible rfl
        try simp only [Act.put, List.setIfInBounds_toArray, List.set_cons_zero, List.set_cons_succ]
        refine wpAnyH_take (i := 8) (oi := { dst := some 7, op := Op.assign (Operand.tmp 21), type := 3, pos := "path.go:47", after := #[{ on := 6, ground := Ground.data }, { on := 4, ground := Ground.chain }, { on := 0, ground := Ground.phase }, { on := 1, ground := Ground.phase }, { on := 2, ground := Ground.phase }, { on := 3, ground := Ground.phase }, { on := 4, ground := Ground.phase }, { on := 5, ground := Ground.phase }, { on := 6, ground := Ground.phase }, { on := 7, ground := Ground.textOnly Departure.lateStores }], guard := none }) (v := ?_) rfl (by kernel_rfl) (by kernel_rfl) (by kernel_rfl) (fun _ _ _ h => h) (Or.inl ⟨by rfl, ?_⟩) (by assumption) ?_
        rotate_left
        · intro wz hSw
          try dsimp only at hSw
          go_simp
          try with_reducible rfl
        try simp only [Act.put, List.setIfInBounds_toArray, List.set_cons_zero, List.set_cons_succ]
        refine wpAnyH_take (i := 9) (oi := { dst := some 8, op := Op.assign (Operand.tmp 22), type := 4, pos := "path.go:47", after := #[{ on := 7, ground := Ground.data }, { on := 8, ground := Ground.chain }, { on := 0, ground := Ground.phase }, { on := 1, ground := Ground.phase }, { on := 2, ground := Ground.phase }, { on := 3, ground := Ground.phase }, { on := 4, ground := Ground.phase }, { on := 5, ground := Ground.phase }, { on := 6, ground := Ground.phase }, { on := 7, ground := Ground.phase }, { on := 8, ground := Ground.phase }], guard := none }) (v := ?_) rfl (by kernel_rfl) (by kernel_rfl) (by kernel_rfl) (fun _ _ _ h => h) (Or.inl ⟨by rfl, ?_⟩) (by assumption) ?_
        rotate_left
        · intro wz hSw
          try dsimp only at hSw
          go_simp
          try with_reducible rfl
        try simp only [Act.put, List.setIfInBounds_toArray, List.set_cons_zero, List.set_cons_succ]
        refine wpAnyH_done (by kernel_rfl) ?_ _
        refine NoPanic.normal ?_
        have HB1 : Hid (Below w.heap.size w w4) := hbw.drew.trans (b1.mono hbw.drew.size)
        have HK6 := (hHeld4).2.2.2.2.2.2.1
        obtain ⟨b2, off2, rfl, hb2, m0, m1, m2, m3, m4, m5, m6⟩ := HNR.out.cells (Below.refl _ w) i hiu _ rfl
        have HTA : Hid (TAt w b2 (off2 + i * 7) us[i]) := ⟨hb2, m0, m1, m2, m3, m4, m5, m6⟩
        clear hHeld hHeld4 b1 EF k0 k1 k2 k3 k4 k5 k6 y0 y1 hbw hf1 hf2 m0 m1 m2 m3 m4 m5 m6
        have g5 : r < Tj.ts.length := by omega
        have g8 : 0 ≤ r := by omega
        have gz : r.toNat = i := by omega
        have g3 : (j : Int) < 8796093022208 := by have := HZ.out; have := HD.out.2; omega
        generalize us[i] = ui at *
        generalize Tj.ts[i] = Ti at *
        clear hiu hi hz
        go_wp2
        go_roundw
        case rel => exact ⟨j + 1, Ti, ui, b2, off2 + i * 7, HD.out.2, by go_num, rfl, HR, ⟨HTA.out, HTI.out.1, HTI.out.2⟩, HB1⟩
        case measure => simp [RowKit.intOf]; have := HD.out.2; omega
    · have g1 : ¬ (j : Int) < l.length := by omega
      have HR : Hid (getT T l = some Tj) := by
        show getT T l = _
        rw [HG.out, List.drop_eq_nil_of_le (by omega), getT]
      clear hlt hj
      go_wp2
      go_ret
      exact ⟨Or.inl ⟨Tj, bj, oj, uj, HR.out, rfl, HTj.out.1, HTj.out.2.1⟩, HB.out⟩
end Go.Proofs.YtnoikdlofkcgaaaGreatDoor
