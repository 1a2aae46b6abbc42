/-
  What is proved: the function remove of package json, called with the place of a tree whose rows lie in blocks apart and a step, takes the kid to which it leads out, with its key, or says that there is none.
  Conditions: the tree is one; its place lies in none of its blocks.
-/
import Derived.Test.YtegbjkjeoegfbaaDoorJMid
namespace Go.Proofs.YtegbjkjeoegfbaaDoor
open Go.RowKit Go.Sort

set_option maxRecDepth 100000 in
set_option maxHeartbeats 8000000 in
theorem removeS_any {b o lo : Nat} {St : List Nat} {u : TV} {t : JT} (s : Stp) (y : V) (w : World) (hA : TAt w b o u) (hT : IsTS w lo St u t) (hnd : St.Nodup) (hf : formedB t = true) (hb : b ∉ St) (hfz : ∀ d, w.frozen? ⟨b, d, none⟩ = false) :
    Calls Tryd.prog 34 #[.pointer (some ⟨b, o, none⟩), stpV s] w fun e w' => PlaceP 2 w b o lo St t s y e w' := by
  have HND : Hid (St.Nodup ∧ b ∉ St ∧ ∀ k ∈ St, k < w.heap.size) := ⟨hnd, hb, fun k hk => (hT.low k hk).2⟩
  have HFZ : Hid (∀ d, w.frozen? ⟨b, d, none⟩ = false) := hfz
  obtain ⟨uk, ua, us, S1, rfl, hSt, hK, hU, hG⟩ := hT
  have hlen : us.length = t.ts.length := hG.to.2
  have hfk := (formed_iff t).1 hf
  have hup : t.x.k = 5 → t.ks.length = t.ts.length ∧ upB [] t.ks = true := fun h5 => ⟨((nodeB_map h5).1 hfk.1).2.1, ((nodeB_map h5).1 hfk.1).2.2⟩
  obtain ⟨ka, kc, rfl⟩ := slice_of hK.own
  obtain ⟨ta, tc, rfl⟩ := slice_of hU.own
  rw [hlen] at hA
  have EF := fun (W : World) (hb : Below w.heap.size w W) => find_any t.x t.ks ka ta t.ks.length kc t.ts.length tc s W (hK.strsH.strs.below hb) (fun h5 => (hup h5).2)
  have EK := fun (W : World) => isKeyOf_any t.x ka ta t.ks.length kc t.ts.length tc s W
  have HM : Hid (KeysS w lo (.slice ka t.ks.length kc) t.ks ∧ KidsS w lo (.slice ta us.length tc) us ∧ IsGS w lo t.kids us S1 ∧ us.length = t.ts.length ∧ TAt w b o (t.x, .slice ka t.ks.length kc, .slice ta t.ts.length tc)) := ⟨hK, hU, hG, hlen, hA⟩
  have HSt : Hid (St = blk (.slice ka t.ks.length kc) ++ (blk (.slice ta us.length tc) ++ S1)) := hSt
  have HUP : Hid (t.x.k = 5 → t.ks.length = t.ts.length ∧ upB [] t.ks = true) := hup
  have HLT : Hid (∀ i, kidOf t.x t.ks t.ts.length s = some i → i < t.ts.length) := fun i hi => kidOf_lt hi (fun h5 => (hup h5).1)
  clear hK hU hG hfk hup hb hf hnd hSt hfz
  obtain ⟨q, hq⟩ : ∃ q, kidOf t.x t.ks t.ts.length s = q := ⟨_, rfl⟩
  obtain ⟨ky, hky⟩ : ∃ ky, keyStep t.x s = ky := ⟨_, rfl⟩
  rw [hq] at EF
  rw [hky] at EK
  have HQ : Hid (kidOf t.x t.ks t.ts.length s = q) := hq
  have HKY : Hid (keyStep t.x s = ky) := hky
  clear hq hky
  obtain ⟨post, hpost⟩ : ∃ post, post = PlaceP 2 w b o lo St t s y := ⟨_, rfl⟩
  rw [← hpost]
  have HPO : Hid (post = PlaceP 2 w b o lo St t s y) := hpost
  clear hpost
  obtain ⟨sb, si⟩ := s
  obtain ⟨kn, hkn⟩ : ∃ kn, kn = t.ks.length := ⟨_, rfl⟩
  obtain ⟨tn, htn⟩ : ∃ tn, tn = t.ts.length := ⟨_, rfl⟩
  rw [← hkn, ← htn] at EF EK
  have HN : Hid (kn = t.ks.length ∧ tn = t.ts.length) := ⟨hkn, htn⟩
  have hA0 := hA
  rw [← hkn, ← htn] at hA0
  obtain ⟨xx, HXX⟩ : ∃ xx, Hid (t.x = xx) := ⟨_, rfl⟩
  rw [HXX.out] at EF EK hA0
  obtain ⟨xk, xn, xt, xo, xa⟩ := xx
  have s0 := (MapKept.heap_alloc w (.cells #[.string sb, .int .i64 si] 45)).1
  have b0 := (Below.refl w.heap.size w).alloc (Nat.le_refl _) (.cells #[.string sb, .int .i64 si] 45)
  have HA : Hid (_ ∧ _) := ⟨s0, b0⟩
  obtain ⟨-, k0, k1, k2, k3, k4, k5, k6⟩ := hA0.below b0
  have y0 : (w.alloc (.cells #[.string sb, .int .i64 si] 45)).cell? ⟨w.heap.size, 0, none⟩ = some (.string sb) := Lib.cell_of_heap s0 0
  have y1 : (w.alloc (.cells #[.string sb, .int .i64 si] 45)).cell? ⟨w.heap.size, 1, none⟩ = some (.int .i64 si) := Lib.cell_of_heap s0 1
  have HA0 : Hid (TAt w b o (⟨xk, xn, xt, xo, xa⟩, .slice ka kn kc, .slice ta tn tc)) := hA0
  dsimp only [tval, stpV] at EF EK k0 k1 k2 k3 k4 k5 k6
  clear hkn htn hA hA0 s0 b0 hlen
  unfold stpV
  dsimp only
  go_enter Tryd.func34, Tryd.ntmps34
  go_upto_region 1 with fail
  obtain ⟨s0, b0⟩ := HA.out
  clear HA
  generalize w.alloc (.cells #[.string sb, .int .i64 si] 45) = W0 at *
  refine wp_region_noPanic ?_
  refine wp_region_held_drew (S := fun W => W.cell? ⟨b, o, none⟩ = some (.int .i64 xk) ∧ W.cell? ⟨b, o + 1, none⟩ = some (.int .i64 xn) ∧ W.cell? ⟨b, o + 2, none⟩ = some (.string xt) ∧ W.cell? ⟨b, o + 3, none⟩ = some (.int .i64 xo) ∧ W.cell? ⟨b, o + 4, none⟩ = some (.int .i64 xa) ∧ W.cell? ⟨b, o + 5, none⟩ = some (.slice ka kn kc) ∧ W.cell? ⟨b, o + 6, none⟩ = some (.slice ta tn tc) ∧ W.cell? ⟨w.heap.size, 0, none⟩ = some (.string sb) ∧ W.cell? ⟨w.heap.size, 1, none⟩ = some (.int .i64 si)) (by kernel_rfl) (⟨k0, k1, k2, k3, k4, k5, k6, y0, y1⟩) (fun hHeld => ?_)
  refine wpAnyH_take (i := 0) (oi := { dst := some 8, op := Op.move (Operand.tmp 0), type := 52, pos := "patch.go:76", after := #[], guard := none }) (v := ?_) rfl (by kernel_rfl) (by kernel_rfl) (by kernel_rfl) (fun _ _ _ h => h) (Or.inl ⟨by rfl, ?_⟩) (by assumption) ?_
  rotate_left
  · intro wz hSw
    try dsimp only at hSw
    go_simp
    try with_reducible rfl
  try simp only [Act.put, List.setIfInBounds_toArray, List.set_cons_zero, List.set_cons_succ]
  refine wpAnyH_take (i := 1) (oi := { dst := some 9, op := Op.nilCheck (Operand.tmp 8), type := 0, pos := "patch.go:76", after := #[{ on := 0, ground := Ground.data }], guard := none }) (v := ?_) rfl (by kernel_rfl) (by kernel_rfl) (by kernel_rfl) (fun _ _ _ h => h) (Or.inl ⟨by rfl, ?_⟩) (by assumption) ?_
  rotate_left
  · intro wz hSw
    try dsimp only at hSw
    go_simp
    try with_reducible rfl
  try simp only [Act.put, List.setIfInBounds_toArray, List.set_cons_zero, List.set_cons_succ]
  refine wpAnyH_take (i := 2) (oi := { dst := some 10, op := Op.load 29 (Operand.tmp 9), type := 29, pos := "patch.go:76", after := #[{ on := 1, ground := Ground.data }], guard := none }) (v := ?_) rfl (by kernel_rfl) (by kernel_rfl) (by kernel_rfl) (fun _ _ _ h => h) (Or.inl ⟨by rfl, ?_⟩) (by assumption) ?_
  rotate_left
  · intro wz hSw
    try dsimp only at hSw
    go_simp
    try with_reducible rfl
  try simp only [Act.put, List.setIfInBounds_toArray, List.set_cons_zero, List.set_cons_succ]
  refine wpAnyH_take (i := 3) (oi := { dst := some 11, op := Op.load 45 (Operand.tmp 3), type := 45, pos := "patch.go:76", after := #[], guard := none }) (v := ?_) rfl (by kernel_rfl) (by kernel_rfl) (by kernel_rfl) (fun _ _ _ h => h) (Or.inl ⟨by rfl, ?_⟩) (by assumption) ?_
  rotate_left
  · intro wz hSw
    try dsimp only at hSw
    go_simp
    try with_reducible rfl
  try simp only [Act.put, List.setIfInBounds_toArray, List.set_cons_zero, List.set_cons_succ]
  refine wpAnyH_ready (rs := [4]) (by kernel_rfl) (by simp) (AllReadyH.cons (o := { dst := some 12, op := Op.call { callee := Callee.value (Operand.func 40), args := #[Operand.tmp 10, Operand.tmp 11], argTypes := #[29, 45] }, type := 74, pos := "patch.go:76", after := #[{ on := 2, ground := Ground.data }, { on := 3, ground := Ground.data }], guard := none }) rfl (fun K hK => ?_) AllReadyH.nil)
  go_simp
  go_at_call 40
  refine Calls.mono (EF _ (b0.drew)) ?_
  rintro e w4 ⟨⟨r, ok, rfl, hf1, hf2⟩, b4⟩
  go_wp2_with fail
  refine hK.out _ _ (keep9 (by assumption) b4) (fun hHeld4 => ?_)
  clear hK K
  try simp only [Act.put, List.setIfInBounds_toArray, List.set_cons_zero, List.set_cons_succ]
  have bW4 : Below w.heap.size w w4 := b0.drew.trans (b4.mono b0.drew.size)
  have s4 := (b4.block _ (lt_of_heap (w := W0.drew) s0)).trans s0
  have HW4 : Hid (Below w.heap.size w w4 ∧ w4.heap[w.heap.size]? = some (.cells #[.string sb, .int .i64 si] 45)) := ⟨bW4, s4⟩
  clear bW4 s4 b4 s0 b0
  cases q with
  | none =>
    obtain rfl := hf2 rfl
    clear hf1 hf2
    refine wpAnyH_take (i := 5) (oi := { dst := some 7, op := Op.move (Operand.tmp 12), type := 74, pos := "patch.go:76", after := #[{ on := 4, ground := Ground.data }], guard := none }) (v := ?_) rfl (by kernel_rfl) (by kernel_rfl) (by kernel_rfl) (fun _ _ _ h => h) (Or.inl ⟨by rfl, ?_⟩) (by assumption) ?_
    rotate_left
    · intro wz hSw
      try dsimp only at hSw
      go_simp
      try with_reducible rfl
    try simp only [Act.put, List.setIfInBounds_toArray, List.set_cons_zero, List.set_cons_succ]
    refine wpAnyH_take (i := 6) (oi := { dst := some 13, op := Op.extract (Operand.tmp 7) 0, type := 3, pos := "patch.go:76", after := #[{ on := 5, ground := Ground.data }], guard := none }) (v := ?_) rfl (by kernel_rfl) (by kernel_rfl) (by kernel_rfl) (fun _ _ _ h => h) (Or.inl ⟨by rfl, ?_⟩) (by assumption) ?_
    rotate_left
    · intro wz hSw
      try dsimp only at hSw
      go_simp
      try with_reducible rfl
    try simp only [Act.put, List.setIfInBounds_toArray, List.set_cons_zero, List.set_cons_succ]
    refine wpAnyH_take (i := 7) (oi := { dst := some 14, op := Op.extract (Operand.tmp 7) 1, type := 4, pos := "patch.go:76", after := #[{ on := 5, ground := Ground.data }, { on := 8, ground := Ground.gcOnly Departure.lateStores }], guard := none }) (v := ?_) rfl (by kernel_rfl) (by kernel_rfl) (by kernel_rfl) (fun _ _ _ h => h) (Or.inl ⟨by rfl, ?_⟩) (by assumption) ?_
    rotate_left
    · intro wz hSw
      try dsimp only at hSw
      go_simp
      try with_reducible rfl
    try simp only [Act.put, List.setIfInBounds_toArray, List.set_cons_zero, List.set_cons_succ]
    refine wpAnyH_take (i := 8) (oi := { dst := some 5, op := Op.assign (Operand.tmp 13), type := 3, pos := "patch.go:76", after := #[{ on := 6, ground := Ground.data }, { on := 4, ground := Ground.chain }, { on := 0, ground := Ground.phase }, { on := 1, ground := Ground.phase }, { on := 2, ground := Ground.phase }, { on := 3, ground := Ground.phase }, { on := 4, ground := Ground.phase }, { on := 5, ground := Ground.phase }, { on := 6, ground := Ground.phase }, { on := 7, ground := Ground.textOnly Departure.lateStores }], guard := none }) (v := ?_) rfl (by kernel_rfl) (by kernel_rfl) (by kernel_rfl) (fun _ _ _ h => h) (Or.inl ⟨by rfl, ?_⟩) (by assumption) ?_
    rotate_left
    · intro wz hSw
      try dsimp only at hSw
      go_simp
      try with_reducible rfl
    try simp only [Act.put, List.setIfInBounds_toArray, List.set_cons_zero, List.set_cons_succ]
    refine wpAnyH_take (i := 9) (oi := { dst := some 6, op := Op.assign (Operand.tmp 14), type := 4, pos := "patch.go:76", after := #[{ on := 7, ground := Ground.data }, { on := 8, ground := Ground.chain }, { on := 0, ground := Ground.phase }, { on := 1, ground := Ground.phase }, { on := 2, ground := Ground.phase }, { on := 3, ground := Ground.phase }, { on := 4, ground := Ground.phase }, { on := 5, ground := Ground.phase }, { on := 6, ground := Ground.phase }, { on := 7, ground := Ground.phase }, { on := 8, ground := Ground.phase }], guard := none }) (v := ?_) rfl (by kernel_rfl) (by kernel_rfl) (by kernel_rfl) (fun _ _ _ h => h) (Or.inl ⟨by rfl, ?_⟩) (by assumption) ?_
    rotate_left
    · intro wz hSw
      try dsimp only at hSw
      go_simp
      try with_reducible rfl
    try simp only [Act.put, List.setIfInBounds_toArray, List.set_cons_zero, List.set_cons_succ]
    refine wpAnyH_done (by kernel_rfl) ?_ _
    refine NoPanic.normal ?_
    clear hHeld hHeld4 k0 k1 k2 k3 k4 k5 k6 y0 y1 EF EK
    have HEND : Hid (post (.returned (.bool false)) w4) := by
      show post _ _
      rw [HPO.out]
      refine Or.inr ⟨fun t' h => ?_, rfl, HW4.out.1⟩
      rcases h with ⟨h, _⟩ | ⟨_, i, h, _⟩ | ⟨h, _⟩
      · exact absurd h (by decide)
      · rw [HQ.out] at h; cases h
      · exact absurd h (by decide)
    go_wp2
    exact HEND.out
  | some i =>
    obtain ⟨hr, rfl⟩ := hf1 i rfl
    clear hf1 hf2
    subst hr
    refine wpAnyH_take (i := 5) (oi := { dst := some 7, op := Op.move (Operand.tmp 12), type := 74, pos := "patch.go:76", after := #[{ on := 4, ground := Ground.data }], guard := none }) (v := ?_) rfl (by kernel_rfl) (by kernel_rfl) (by kernel_rfl) (fun _ _ _ h => h) (Or.inl ⟨by rfl, ?_⟩) (by assumption) ?_
    rotate_left
    · intro wz hSw
      try dsimp only at hSw
      go_simp
      try with_reducible rfl
    try simp only [Act.put, List.setIfInBounds_toArray, List.set_cons_zero, List.set_cons_succ]
    refine wpAnyH_take (i := 6) (oi := { dst := some 13, op := Op.extract (Operand.tmp 7) 0, type := 3, pos := "patch.go:76", after := #[{ on := 5, ground := Ground.data }], guard := none }) (v := ?_) rfl (by kernel_rfl) (by kernel_rfl) (by kernel_rfl) (fun _ _ _ h => h) (Or.inl ⟨by rfl, ?_⟩) (by assumption) ?_
    rotate_left
    · intro wz hSw
      try dsimp only at hSw
      go_simp
      try with_reducible rfl
    try simp only [Act.put, List.setIfInBounds_toArray, List.set_cons_zero, List.set_cons_succ]
    refine wpAnyH_take (i := 7) (oi := { dst := some 14, op := Op.extract (Operand.tmp 7) 1, type := 4, pos := "patch.go:76", after := #[{ on := 5, ground := Ground.data }, { on := 8, ground := Ground.gcOnly Departure.lateStores }], guard := none }) (v := ?_) rfl (by kernel_rfl) (by kernel_rfl) (by kernel_rfl) (fun _ _ _ h => h) (Or.inl ⟨by rfl, ?_⟩) (by assumption) ?_
    rotate_left
    · intro wz hSw
      try dsimp only at hSw
      go_simp
      try with_reducible rfl
    try simp only [Act.put, List.setIfInBounds_toArray, List.set_cons_zero, List.set_cons_succ]
    refine wpAnyH_take (i := 8) (oi := { dst := some 5, op := Op.assign (Operand.tmp 13), type := 3, pos := "patch.go:76", after := #[{ on := 6, ground := Ground.data }, { on := 4, ground := Ground.chain }, { on := 0, ground := Ground.phase }, { on := 1, ground := Ground.phase }, { on := 2, ground := Ground.phase }, { on := 3, ground := Ground.phase }, { on := 4, ground := Ground.phase }, { on := 5, ground := Ground.phase }, { on := 6, ground := Ground.phase }, { on := 7, ground := Ground.textOnly Departure.lateStores }], guard := none }) (v := ?_) rfl (by kernel_rfl) (by kernel_rfl) (by kernel_rfl) (fun _ _ _ h => h) (Or.inl ⟨by rfl, ?_⟩) (by assumption) ?_
    rotate_left
    · intro wz hSw
      try dsimp only at hSw
      go_simp
      try with_reducible rfl
    try simp only [Act.put, List.setIfInBounds_toArray, List.set_cons_zero, List.set_cons_succ]
    refine wpAnyH_take (i := 9) (oi := { dst := some 6, op := Op.assign (Operand.tmp 14), type := 4, pos := "patch.go:76", after := #[{ on := 7, ground := Ground.data }, { on := 8, ground := Ground.chain }, { on := 0, ground := Ground.phase }, { on := 1, ground := Ground.phase }, { on := 2, ground := Ground.phase }, { on := 3, ground := Ground.phase }, { on := 4, ground := Ground.phase }, { on := 5, ground := Ground.phase }, { on := 6, ground := Ground.phase }, { on := 7, ground := Ground.phase }, { on := 8, ground := Ground.phase }], guard := none }) (v := ?_) rfl (by kernel_rfl) (by kernel_rfl) (by kernel_rfl) (fun _ _ _ h => h) (Or.inl ⟨by rfl, ?_⟩) (by assumption) ?_
    rotate_left
    · intro wz hSw
      try dsimp only at hSw
      go_simp
      try with_reducible rfl
    try simp only [Act.put, List.setIfInBounds_toArray, List.set_cons_zero, List.set_cons_succ]
    refine wpAnyH_done (by kernel_rfl) ?_ _
    refine NoPanic.normal ?_
    clear hHeld hHeld4 k0 k1 k2 k3 k4 k5 k6 y0 y1 EF
    obtain ⟨bW4, s4⟩ := HW4.out
    obtain ⟨-, k0, k1, k2, k3, k4, k5, k6⟩ := HA0.out.below bW4
    dsimp only at k0 k1 k2 k3 k4 k5 k6
    have y0 : w4.cell? ⟨w.heap.size, 0, none⟩ = some (.string sb) := Lib.cell_of_heap s4 0
    have y1 : w4.cell? ⟨w.heap.size, 1, none⟩ = some (.int .i64 si) := Lib.cell_of_heap s4 1
    go_upto_region 4 with fail
    refine wp_region_noPanic ?_
    refine wp_region_held_drew (S := fun W => W.cell? ⟨b, o, none⟩ = some (.int .i64 xk) ∧ W.cell? ⟨b, o + 1, none⟩ = some (.int .i64 xn) ∧ W.cell? ⟨b, o + 2, none⟩ = some (.string xt) ∧ W.cell? ⟨b, o + 3, none⟩ = some (.int .i64 xo) ∧ W.cell? ⟨b, o + 4, none⟩ = some (.int .i64 xa) ∧ W.cell? ⟨b, o + 5, none⟩ = some (.slice ka kn kc) ∧ W.cell? ⟨b, o + 6, none⟩ = some (.slice ta tn tc) ∧ W.cell? ⟨w.heap.size, 0, none⟩ = some (.string sb) ∧ W.cell? ⟨w.heap.size, 1, none⟩ = some (.int .i64 si)) (by kernel_rfl) (⟨k0, k1, k2, k3, k4, k5, k6, y0, y1⟩) (fun hHeld => ?_)
    refine wpAnyH_take (i := 0) (oi := { dst := some 17, op := Op.move (Operand.tmp 0), type := 52, pos := "patch.go:80", after := #[], guard := none }) (v := ?_) rfl (by kernel_rfl) (by kernel_rfl) (by kernel_rfl) (fun _ _ _ h => h) (Or.inl ⟨by rfl, ?_⟩) (by assumption) ?_
    rotate_left
    · intro wz hSw
      try dsimp only at hSw
      go_simp
      try with_reducible rfl
    try simp only [Act.put, List.setIfInBounds_toArray, List.set_cons_zero, List.set_cons_succ]
    refine wpAnyH_take (i := 1) (oi := { dst := some 18, op := Op.nilCheck (Operand.tmp 17), type := 0, pos := "patch.go:80", after := #[{ on := 0, ground := Ground.data }], guard := none }) (v := ?_) rfl (by kernel_rfl) (by kernel_rfl) (by kernel_rfl) (fun _ _ _ h => h) (Or.inl ⟨by rfl, ?_⟩) (by assumption) ?_
    rotate_left
    · intro wz hSw
      try dsimp only at hSw
      go_simp
      try with_reducible rfl
    try simp only [Act.put, List.setIfInBounds_toArray, List.set_cons_zero, List.set_cons_succ]
    refine wpAnyH_take (i := 2) (oi := { dst := some 19, op := Op.load 29 (Operand.tmp 18), type := 29, pos := "patch.go:80", after := #[{ on := 1, ground := Ground.data }], guard := none }) (v := ?_) rfl (by kernel_rfl) (by kernel_rfl) (by kernel_rfl) (fun _ _ _ h => h) (Or.inl ⟨by rfl, ?_⟩) (by assumption) ?_
    rotate_left
    · intro wz hSw
      try dsimp only at hSw
      go_simp
      try with_reducible rfl
    try simp only [Act.put, List.setIfInBounds_toArray, List.set_cons_zero, List.set_cons_succ]
    refine wpAnyH_take (i := 3) (oi := { dst := some 20, op := Op.load 45 (Operand.tmp 3), type := 45, pos := "patch.go:80", after := #[], guard := none }) (v := ?_) rfl (by kernel_rfl) (by kernel_rfl) (by kernel_rfl) (fun _ _ _ h => h) (Or.inl ⟨by rfl, ?_⟩) (by assumption) ?_
    rotate_left
    · intro wz hSw
      try dsimp only at hSw
      go_simp
      try with_reducible rfl
    try simp only [Act.put, List.setIfInBounds_toArray, List.set_cons_zero, List.set_cons_succ]
    refine wpAnyH_ready (rs := [4]) (by kernel_rfl) (by simp) (AllReadyH.cons (o := { dst := some 21, op := Op.call { callee := Callee.value (Operand.func 41), args := #[Operand.tmp 19, Operand.tmp 20], argTypes := #[29, 45] }, type := 4, pos := "patch.go:80", after := #[{ on := 2, ground := Ground.data }, { on := 3, ground := Ground.data }], guard := none }) rfl (fun K hK => ?_) AllReadyH.nil)
    go_simp
    go_at_call 41
    refine Calls.mono (EK _) ?_
    rintro e w5 ⟨rfl, b5⟩
    go_wp2_with fail
    refine hK.out _ _ (keep9 (by assumption) b5) (fun hHeld4 => ?_)
    clear hK K
    try simp only [Act.put, List.setIfInBounds_toArray, List.set_cons_zero, List.set_cons_succ]
    refine wpAnyH_done (by kernel_rfl) ?_ _
    refine NoPanic.normal ?_
    have bW5 : Below w.heap.size w w5 := bW4.drew.trans (b5.mono bW4.drew.size)
    have HW5 : Hid (Below w.heap.size w w5) := bW5
    clear hHeld hHeld4 k0 k1 k2 k3 k4 k5 k6 y0 y1 EK b5 bW5 bW4 s4 HW4
    cases ky with
    | false =>
      have M10 : Hid (Mid w b o lo (.slice ka t.ks.length kc) (.slice ta us.length tc) us w5 (.slice ka t.ks.length kc) t.ks) := by
        obtain ⟨hK, hU, hG, hlen, hAA⟩ := HM.out
        rw [← hlen] at hAA
        exact (Mid.start hAA hK hU HFZ.out).below HW5.out hAA.1
      go_upto_region 6 with fail
      obtain ⟨hK, hU, hG, hlen, hAA⟩ := HM.out
      obtain ⟨hnd, hbS, hlow⟩ := HND.out
      have hbw : b < w.heap.size := hAA.1
      have k6 : w5.cell? ⟨b, o + 6, none⟩ = some (.slice ta tn tc) := by
        have := (M10.out.cell (o + 6) (by omega)).trans hAA.2.2.2.2.2.2.2
        rw [HN.out.2]
        exact this
      have qf := M10.out.fz
      have hil := HLT.out i HQ.out
      rcases hU.own.2 with ⟨e, h0⟩ | ⟨g2, cap2, cur2, e, h1, h2, h3, h4, h5⟩
      · omega
      obtain ⟨e1, e2, e3⟩ := Value.slice.inj e
      clear e2 h1 h2 h3 h4 h5
      subst e1 e3
      obtain ⟨n2, hn2⟩ : ∃ n2, us.length = n2 + 1 := ⟨us.length - 1, by omega⟩
      have hkids := M10.out.kids
      have hz10 := M10.out.size
      rw [hn2] at hkids
      have EI2 := delT_any lo g2 tc n2 (tcs us) i w5 hkids (by omega) (by have := hU.few; omega) (one_tcs hG)
      have htn1 : n2 + 1 = tn := by rw [HN.out.2]; omega
      obtain ⟨j2, hj2⟩ : ∃ j2 : Nat, j2 = i + 1 := ⟨_, rfl⟩
      have hj2i : (i : Int) + 1 = (j2 : Int) := by omega
      rw [htn1, hj2i, tcs_cut us i (by omega)] at EI2
      have hgr0 : (Value.slice (some ⟨g2, 0, none⟩) us.length tc).ownBlock = some g2 := rfl
      have hg2m : g2 ∈ St := by rw [HSt.out]; exact List.mem_append_right _ (List.mem_append_left _ (blk_mem.2 rfl))
      have hg2b : g2 ≠ b := fun e => hbS (e ▸ hg2m)
      have HU : Hid (KidsS w lo (.slice (some ⟨g2, 0, none⟩) us.length tc) us ∧ IsGS w lo t.kids us S1 ∧ us.length = t.ts.length ∧ i < t.ts.length ∧ us.length = n2 + 1 ∧ b < w.heap.size ∧ w.heap.size ≤ w5.heap.size ∧ KeysS w lo (.slice ka t.ks.length kc) t.ks) := ⟨hU, hG, hlen, hil, hn2, hbw, hz10, hK⟩
      have HAA : Hid (TAt w b o (t.x, .slice ka t.ks.length kc, .slice (some ⟨g2, 0, none⟩) us.length tc)) := by have := hAA; rw [← hlen] at this; exact this
      have HNB : Hid (g2 ≠ b ∧ j2 = i + 1 ∧ n2 + 1 = tn) := ⟨hg2b, hj2, htn1⟩
      have hif : i < 1000 := by have := hU.few; omega
      clear hK hU hG hlen hAA hnd hbS hlow hkids hz10 hil hn2 htn1 hg2m hg2b hbw hgr0 e
      have hw2' : wrap64 ((i : Int) + 1) = (j2 : Int) := by unfold wrap64; omega
      clear hj2 hj2i hif
      go_wp2_with fail
      go_fit EI2
      clear hw2'
      rintro e w7 ⟨rfl, hown2, hgr2⟩
      obtain ⟨hU, hG, hlen, hil, hn2, hbw, hz10, hK⟩ := HU.out
      have hb7 : w7.heap[b]? = w5.heap[b]? := hgr2.block b (by omega) (fun e => HNB.out.1 (Option.some.inj e).symm)
      have q6 : w7.cell? ⟨b, o + 6, none⟩ = some (.slice (some ⟨g2, 0, none⟩) tn tc) := (World.cell?_of_block hb7).trans k6
      have qf7 := frozen_block hb7 qf
      have HEND : Hid (post (.returned (.bool true)) (w7.setCell ⟨b, o + 6, none⟩ (.slice (some ⟨g2, 0, none⟩) n2 tc))) := by
        show post _ _
        rw [HPO.out]
        have hcl := cutL_len us i (by omega)
        refine mid_end (us' := cutL us i) (ts' := cutL t.ts i) HAA.out HSt.out hG HND.out.1 HND.out.2.1 HND.out.2.2 M10.out ?_ hgr2 ?_ (by have := hU.few; omega) (Or.inl rfl) (fun w' h => h.cut i (by omega)) ?_
        · have := hK.few; exact this
        · have e9 : (cutL us i).length = n2 := by omega
          rw [e9]
          exact hown2
        · refine Or.inr (Or.inl ⟨rfl, i, HQ.out, hil, ?_⟩)
          rw [if_neg (by rw [HKY.out]; decide)]
      clear hgr2 hown2 hU hG hlen hil hn2 hbw hz10 hK hb7 EI2 k6 qf M10
      go_wp2
      exact HEND.out
    | true =>
      obtain ⟨hK, hU, hG, hlen, hAA⟩ := HM.out
      have hup := HUP.out (keyStep_parts HKY.out).1
      have hil := HLT.out i HQ.out
      have hbw : b < w.heap.size := hAA.1
      have hz5 := HW5.out.size
      rcases hK.own.2 with ⟨e, h0⟩ | ⟨g1, cap1, cur1, e, h1, h2, h3, h4, h5⟩
      · omega
      obtain ⟨e1, e2, e3⟩ := Value.slice.inj e
      clear e2 h1 h2 h3 h4 h5 e
      subst e1 e3
      obtain ⟨n1, hn1⟩ : ∃ n1, t.ks.length = n1 + 1 := ⟨t.ks.length - 1, by omega⟩
      have hkeys := own_below hK.own HW5.out (Nat.le_refl _)
      rw [hn1] at hkeys
      have EI := delS_any lo g1 kc n1 (scells t.ks) i w5 hkeys (by omega) (by have := hK.few; omega) (one_scells _)
      have hkn1 : n1 + 1 = kn := by rw [HN.out.1]; omega
      obtain ⟨j1, hj1⟩ : ∃ j1 : Nat, j1 = i + 1 := ⟨_, rfl⟩
      have hj1i : (i : Int) + 1 = (j1 : Int) := by omega
      rw [hkn1, hj1i, scells_cut] at EI
      have hg1m : g1 ∈ St := by rw [HSt.out]; exact List.mem_append_left _ (blk_mem.2 rfl)
      have hg1b : g1 ≠ b := fun e => HND.out.2.1 (e ▸ hg1m)
      have k5 : w5.cell? ⟨b, o + 5, none⟩ = some (.slice (some ⟨g1, 0, none⟩) kn kc) := by
        have := (hAA.below HW5.out).2.2.2.2.2.2.1
        rw [HN.out.1]
        exact this
      have HG1 : Hid (g1 ≠ b ∧ t.ks.length = n1 + 1 ∧ b < w.heap.size ∧ w.heap.size ≤ w5.heap.size ∧ i < t.ks.length) := ⟨hg1b, hn1, hbw, hz5, by omega⟩
      have hif : i < 1000 := by have := hK.few; omega
      clear hK hU hG hlen hAA hup hil hbw hz5 hkeys hn1 hkn1 hg1m hg1b
      have hw1' : wrap64 ((i : Int) + 1) = (j1 : Int) := by unfold wrap64; omega
      clear hj1 hj1i hif
      go_wp2_with fail
      go_fit EI
      clear hw1'
      rintro e w6 ⟨rfl, hown1, hgr1⟩
      obtain ⟨hg1b, hn1, hbw, hz5, hik⟩ := HG1.out
      have hb6 : w6.heap[b]? = w5.heap[b]? := hgr1.block b (by omega) (fun e => hg1b (Option.some.inj e).symm)
      have q5 : w6.cell? ⟨b, o + 5, none⟩ = some (.slice (some ⟨g1, 0, none⟩) kn kc) := (World.cell?_of_block hb6).trans k5
      have qf6 := frozen_block hb6 (frozen_block (HW5.out.block b hbw) HFZ.out)
      have M10 : Hid (Mid w b o lo (.slice (some ⟨g1, 0, none⟩) t.ks.length kc) (.slice ta us.length tc) us (w6.setCell ⟨b, o + 5, none⟩ (.slice (some ⟨g1, 0, none⟩) n1 kc)) (.slice (some ⟨g1, 0, none⟩) n1 kc) (cutL t.ks i)) := by
        obtain ⟨hK, hU, hG, hlen, hAA⟩ := HM.out
        rw [← hlen] at hAA
        have hcl := cutL_len t.ks i hik
        have e9 : (cutL t.ks i).length = n1 := by omega
        exact Mid.store hAA ((Mid.start hAA hK hU HFZ.out).below HW5.out hAA.1) hgr1 (by rw [e9]; exact hown1) (Or.inl rfl) (fun h => HND.out.2.1 (by rw [HSt.out]; exact List.mem_append_left _ h)) (fun h => HND.out.2.1 (by rw [HSt.out]; exact List.mem_append_right _ (List.mem_append_left _ h)))
      clear hg1b hn1 hbw hz5 hik hb6 hown1 hgr1 EI
      go_upto_region 6 with fail
      clear q5 qf6 k5
      generalize w6.setCell ⟨b, o + 5, none⟩ (.slice (some ⟨g1, 0, none⟩) n1 kc) = W10 at *
      obtain ⟨hK, hU, hG, hlen, hAA⟩ := HM.out
      obtain ⟨hnd, hbS, hlow⟩ := HND.out
      have hbw : b < w.heap.size := hAA.1
      have k6 : W10.cell? ⟨b, o + 6, none⟩ = some (.slice ta tn tc) := by
        have := (M10.out.cell (o + 6) (by omega)).trans hAA.2.2.2.2.2.2.2
        rw [HN.out.2]
        exact this
      have qf := M10.out.fz
      have hil := HLT.out i HQ.out
      rcases hU.own.2 with ⟨e, h0⟩ | ⟨g2, cap2, cur2, e, h1, h2, h3, h4, h5⟩
      · omega
      obtain ⟨e1, e2, e3⟩ := Value.slice.inj e
      clear e2 h1 h2 h3 h4 h5
      subst e1 e3
      obtain ⟨n2, hn2⟩ : ∃ n2, us.length = n2 + 1 := ⟨us.length - 1, by omega⟩
      have hkids := M10.out.kids
      have hz10 := M10.out.size
      rw [hn2] at hkids
      have EI2 := delT_any lo g2 tc n2 (tcs us) i W10 hkids (by omega) (by have := hU.few; omega) (one_tcs hG)
      have htn1 : n2 + 1 = tn := by rw [HN.out.2]; omega
      obtain ⟨j2, hj2⟩ : ∃ j2 : Nat, j2 = i + 1 := ⟨_, rfl⟩
      have hj2i : (i : Int) + 1 = (j2 : Int) := by omega
      rw [htn1, hj2i, tcs_cut us i (by omega)] at EI2
      have hgr0 : (Value.slice (some ⟨g2, 0, none⟩) us.length tc).ownBlock = some g2 := rfl
      have hg2m : g2 ∈ St := by rw [HSt.out]; exact List.mem_append_right _ (List.mem_append_left _ (blk_mem.2 rfl))
      have hg2b : g2 ≠ b := fun e => hbS (e ▸ hg2m)
      have HU : Hid (KidsS w lo (.slice (some ⟨g2, 0, none⟩) us.length tc) us ∧ IsGS w lo t.kids us S1 ∧ us.length = t.ts.length ∧ i < t.ts.length ∧ us.length = n2 + 1 ∧ b < w.heap.size ∧ w.heap.size ≤ W10.heap.size ∧ KeysS w lo (.slice (some ⟨g1, 0, none⟩) t.ks.length kc) t.ks) := ⟨hU, hG, hlen, hil, hn2, hbw, hz10, hK⟩
      have HAA : Hid (TAt w b o (t.x, .slice (some ⟨g1, 0, none⟩) t.ks.length kc, .slice (some ⟨g2, 0, none⟩) us.length tc)) := by have := hAA; rw [← hlen] at this; exact this
      have HNB : Hid (g2 ≠ b ∧ j2 = i + 1 ∧ n2 + 1 = tn) := ⟨hg2b, hj2, htn1⟩
      have hif : i < 1000 := by have := hU.few; omega
      clear hK hU hG hlen hAA hnd hbS hlow hkids hz10 hil hn2 htn1 hg2m hg2b hbw hgr0 e
      have hw2' : wrap64 ((i : Int) + 1) = (j2 : Int) := by unfold wrap64; omega
      clear hj2 hj2i hif
      go_wp2_with fail
      go_fit EI2
      clear hw2'
      rintro e w7 ⟨rfl, hown2, hgr2⟩
      obtain ⟨hU, hG, hlen, hil, hn2, hbw, hz10, hK⟩ := HU.out
      have hb7 : w7.heap[b]? = W10.heap[b]? := hgr2.block b (by omega) (fun e => HNB.out.1 (Option.some.inj e).symm)
      have q6 : w7.cell? ⟨b, o + 6, none⟩ = some (.slice (some ⟨g2, 0, none⟩) tn tc) := (World.cell?_of_block hb7).trans k6
      have qf7 := frozen_block hb7 qf
      have HEND : Hid (post (.returned (.bool true)) (w7.setCell ⟨b, o + 6, none⟩ (.slice (some ⟨g2, 0, none⟩) n2 tc))) := by
        show post _ _
        rw [HPO.out]
        have hcl := cutL_len us i (by omega)
        refine mid_end (us' := cutL us i) (ts' := cutL t.ts i) HAA.out HSt.out hG HND.out.1 HND.out.2.1 HND.out.2.2 M10.out ?_ hgr2 ?_ (by have := hU.few; omega) (Or.inl rfl) (fun w' h => h.cut i (by omega)) ?_
        · have := hK.few
          have h9 := cutL_len t.ks i (by have := (HUP.out (keyStep_parts HKY.out).1).1; omega)
          omega
        · have e9 : (cutL us i).length = n2 := by omega
          rw [e9]
          exact hown2
        · refine Or.inr (Or.inl ⟨rfl, i, HQ.out, hil, ?_⟩)
          rw [if_pos HKY.out]
      clear hgr2 hown2 hU hG hlen hil hn2 hbw hz10 hK hb7 EI2 k6 qf M10
      go_wp2
      exact HEND.out
end Go.Proofs.YtegbjkjeoegfbaaDoor
