/-
  What is proved: the function set of package json, called with the place of a tree whose rows lie in blocks apart, a step and a value, sets the value in the place of a kid, or at a new key, or says that there is no such place.
  Conditions: the tree is one, and not too great; its place lies in none of its blocks.
-/
import Derived.Test.YtegbjkjeoegfbaaDoorJPlace
import Derived.Test.YtegbjkjeoegfbaaDoorJHeldE
namespace Go.Proofs.YtegbjkjeoegfbaaDoor
open Go.RowKit Go.Sort

theorem keep6o {W W' : World} {g : Nat} {p0 p1 p2 p3 p4 p5 : Addr} {v0 v1 v2 v3 v4 v5 : Value} (h : W.cell? p0 = some v0 ∧ W.cell? p1 = some v1 ∧ W.cell? p2 = some v2 ∧ W.cell? p3 = some v3 ∧ W.cell? p4 = some v4 ∧ W.cell? p5 = some v5) (hb : ∀ b, b ≠ g → W'.heap[b]? = W.heap[b]?) (hne : p0.block ≠ g ∧ p1.block ≠ g ∧ p2.block ≠ g ∧ p3.block ≠ g ∧ p4.block ≠ g ∧ p5.block ≠ g) : W'.cell? p0 = some v0 ∧ W'.cell? p1 = some v1 ∧ W'.cell? p2 = some v2 ∧ W'.cell? p3 = some v3 ∧ W'.cell? p4 = some v4 ∧ W'.cell? p5 = some v5 := by
  obtain ⟨h0, h1, h2, h3, h4, h5⟩ := h
  obtain ⟨q0, q1, q2, q3, q4, q5⟩ := hne
  have hc : ∀ p : Addr, p.block ≠ g → W'.cell? p = W.cell? p := fun p hp => by unfold World.cell?; rw [hb _ hp]
  exact ⟨(hc _ q0).trans h0, (hc _ q1).trans h1, (hc _ q2).trans h2, (hc _ q3).trans h3, (hc _ q4).trans h4, (hc _ q5).trans h5⟩
set_option maxRecDepth 100000 in
set_option maxHeartbeats 8000000 in
theorem setS_any {b o lo : Nat} {St : List Nat} {u : TV} {t : JT} (s : Stp) (y : V) (w : World) (hA : TAt w b o u) (hT : IsTS w lo St u t) (hnd : St.Nodup) (hf : formedB t = true) (hb : b ∉ St) (hlo : lo ≤ w.heap.size) (hfew : t.ks.length < 1000 ∧ t.ts.length < 1000) (hfz : ∀ d, w.frozen? ⟨b, d, none⟩ = false) :
    Calls Tryd.prog 33 #[.pointer (some ⟨b, o, none⟩), stpV s, y.val] w fun e w' => PlaceP 1 w b o lo St t s y e w' := by
  have HT0 : Hid (TAt w b o u ∧ IsTS w lo St u t ∧ (∀ d, w.frozen? ⟨b, d, none⟩ = false)) := ⟨hA, hT, hfz⟩
  have HND : Hid (St.Nodup ∧ b ∉ St ∧ lo ≤ w.heap.size ∧ t.ks.length < 1000 ∧ t.ts.length < 1000 ∧ ∀ k ∈ St, k < w.heap.size) := ⟨hnd, hb, hlo, hfew.1, hfew.2, fun k hk => (hT.low k hk).2⟩
  obtain ⟨uk, ua, us, S1, rfl, hSt, hK, hU, hG⟩ := hT
  have hlen : us.length = t.ts.length := hG.to.2
  have hfk := (formed_iff t).1 hf
  have hup : t.x.k = 5 → t.ks.length = t.ts.length ∧ upB [] t.ks = true := fun h5 => ⟨((nodeB_map h5).1 hfk.1).2.1, ((nodeB_map h5).1 hfk.1).2.2⟩
  obtain ⟨ka, kc, rfl⟩ := slice_of hK.own
  obtain ⟨ta, tc, rfl⟩ := slice_of hU.own
  rw [hlen] at hA
  have EF := fun (W : World) (hb : Below w.heap.size w W) => findI_any t.x t.ks ka ta t.ks.length kc t.ts.length tc s W (hK.strsH.strs.below hb) (fun h5 => (hup h5).2)
  have EK := fun (W : World) => isKeyOf_any t.x ka ta t.ks.length kc t.ts.length tc s W
  have HM : Hid (KeysS w lo (.slice ka t.ks.length kc) t.ks ∧ KidsS w lo (.slice ta us.length tc) us ∧ IsGS w lo t.kids us S1 ∧ us.length = t.ts.length ∧ TAt w b o (t.x, .slice ka t.ks.length kc, .slice ta t.ts.length tc)) := ⟨hK, hU, hG, hlen, hA⟩
  have HSt : Hid (St = blk (.slice ka t.ks.length kc) ++ (blk (.slice ta us.length tc) ++ S1)) := hSt
  have HFZ : Hid (∀ W : World, W.heap[b]? = w.heap[b]? → ∀ d, W.frozen? ⟨b, d, none⟩ = false) := by
    intro W hW d
    have := hfz d
    unfold World.frozen? at this ⊢
    rw [hW]
    exact this
  clear hfz
  have HUP : Hid (t.x.k = 5 → t.ks.length = t.ts.length ∧ upB [] t.ks = true) := hup
  have HLT : Hid (∀ i, kidOf t.x t.ks t.ts.length s = some i → i < t.ts.length) := fun i hi => kidOf_lt hi (fun h5 => (hup h5).1)
  clear hK hU hG hfk hup hb hf hnd hlo hfew hSt
  obtain ⟨q, hq⟩ : ∃ q, kidOf t.x t.ks t.ts.length s = q := ⟨_, rfl⟩
  obtain ⟨ky, hky⟩ : ∃ ky, keyStep t.x s = ky := ⟨_, rfl⟩
  rw [hq, hky] at EF
  rw [hky] at EK
  have HQ : Hid (kidOf t.x t.ks t.ts.length s = q) := hq
  have HKY : Hid (keyStep t.x s = ky) := hky
  clear hq hky
  obtain ⟨post, hpost⟩ : ∃ post, post = PlaceP 1 w b o lo St t s y := ⟨_, rfl⟩
  rw [← hpost]
  have HPO : Hid (post = PlaceP 1 w b o lo St t s y) := hpost
  clear hpost
  obtain ⟨yk, yn, yt, yo, ya⟩ := y
  obtain ⟨sb, si⟩ := s
  obtain ⟨kn, hkn⟩ : ∃ kn, kn = t.ks.length := ⟨_, rfl⟩
  obtain ⟨tn, htn⟩ : ∃ tn, tn = t.ts.length := ⟨_, rfl⟩
  rw [← hkn, ← htn] at EF EK
  have HN : Hid (kn = t.ks.length ∧ tn = t.ts.length) := ⟨hkn, htn⟩
  have hA0 := hA
  rw [← hkn, ← htn] at hA0
  obtain ⟨xx, HXX⟩ : ∃ xx, Hid (t.x = xx) := ⟨_, rfl⟩
  rw [HXX.out] at EF EK hA0
  obtain ⟨xk, xn, xt, xo, xa⟩ := xx
  obtain ⟨s0, v0, b0⟩ := two_boxes w (.cells #[.string sb, .int .i64 si] 45) (.cells #[.int .i64 yk, .int .i64 yn, .string yt, .int .i64 yo, .int .i64 ya] 25)
  have HA : Hid (_ ∧ _ ∧ _) := ⟨s0, v0, b0⟩
  obtain ⟨-, k0, k1, k2, k3, k4, k5, k6⟩ := hA0.below b0
  have y0 : ((w.alloc (.cells #[.string sb, .int .i64 si] 45)).alloc (.cells #[.int .i64 yk, .int .i64 yn, .string yt, .int .i64 yo, .int .i64 ya] 25)).cell? ⟨w.heap.size, 0, none⟩ = some (.string sb) := Lib.cell_of_heap s0 0
  have y1 : ((w.alloc (.cells #[.string sb, .int .i64 si] 45)).alloc (.cells #[.int .i64 yk, .int .i64 yn, .string yt, .int .i64 yo, .int .i64 ya] 25)).cell? ⟨w.heap.size, 1, none⟩ = some (.int .i64 si) := Lib.cell_of_heap s0 1
  have HA0 : Hid (TAt w b o (⟨xk, xn, xt, xo, xa⟩, .slice ka kn kc, .slice ta tn tc)) := hA0
  dsimp only [tval, stpV] at EF EK k0 k1 k2 k3 k4 k5 k6
  clear hkn htn hA hA0 s0 v0 b0 hlen
  unfold stpV V.val
  dsimp only
  go_enter Tryd.func33, Tryd.ntmps33
  go_upto_region 1 with fail
  obtain ⟨s0, v0, b0⟩ := HA.out
  clear HA
  generalize (w.alloc (.cells #[.string sb, .int .i64 si] 45)).alloc (.cells #[.int .i64 yk, .int .i64 yn, .string yt, .int .i64 yo, .int .i64 ya] 25) = W0 at *
  refine wp_region_noPanic ?_
  refine wp_region_held_drew (S := fun W => W.cell? ⟨b, o, none⟩ = some (.int .i64 xk) ∧ W.cell? ⟨b, o + 1, none⟩ = some (.int .i64 xn) ∧ W.cell? ⟨b, o + 2, none⟩ = some (.string xt) ∧ W.cell? ⟨b, o + 3, none⟩ = some (.int .i64 xo) ∧ W.cell? ⟨b, o + 4, none⟩ = some (.int .i64 xa) ∧ W.cell? ⟨b, o + 5, none⟩ = some (.slice ka kn kc) ∧ W.cell? ⟨b, o + 6, none⟩ = some (.slice ta tn tc) ∧ W.cell? ⟨w.heap.size, 0, none⟩ = some (.string sb) ∧ W.cell? ⟨w.heap.size, 1, none⟩ = some (.int .i64 si)) (by kernel_rfl) (⟨k0, k1, k2, k3, k4, k5, k6, y0, y1⟩) (fun hHeld => ?_)
  refine wpAnyH_take (i := 0) (oi := { dst := some 10, op := Op.move (Operand.tmp 0), type := 52, pos := "patch.go:62", after := #[], guard := none }) (v := ?_) rfl (by kernel_rfl) (by kernel_rfl) (by kernel_rfl) (fun _ _ _ h => h) (Or.inl ⟨by rfl, ?_⟩) (by assumption) ?_
  rotate_left
  · intro wz hSw
    try dsimp only at hSw
    go_simp
    try with_reducible rfl
  try simp only [Act.put, List.setIfInBounds_toArray, List.set_cons_zero, List.set_cons_succ]
  refine wpAnyH_take (i := 1) (oi := { dst := some 11, op := Op.nilCheck (Operand.tmp 10), type := 0, pos := "patch.go:62", after := #[{ on := 0, ground := Ground.data }], guard := none }) (v := ?_) rfl (by kernel_rfl) (by kernel_rfl) (by kernel_rfl) (fun _ _ _ h => h) (Or.inl ⟨by rfl, ?_⟩) (by assumption) ?_
  rotate_left
  · intro wz hSw
    try dsimp only at hSw
    go_simp
    try with_reducible rfl
  try simp only [Act.put, List.setIfInBounds_toArray, List.set_cons_zero, List.set_cons_succ]
  refine wpAnyH_take (i := 2) (oi := { dst := some 12, op := Op.load 29 (Operand.tmp 11), type := 29, pos := "patch.go:62", after := #[{ on := 1, ground := Ground.data }], guard := none }) (v := ?_) rfl (by kernel_rfl) (by kernel_rfl) (by kernel_rfl) (fun _ _ _ h => h) (Or.inl ⟨by rfl, ?_⟩) (by assumption) ?_
  rotate_left
  · intro wz hSw
    try dsimp only at hSw
    go_simp
    try with_reducible rfl
  try simp only [Act.put, List.setIfInBounds_toArray, List.set_cons_zero, List.set_cons_succ]
  refine wpAnyH_take (i := 3) (oi := { dst := some 13, op := Op.load 45 (Operand.tmp 4), type := 45, pos := "patch.go:62", after := #[], guard := none }) (v := ?_) rfl (by kernel_rfl) (by kernel_rfl) (by kernel_rfl) (fun _ _ _ h => h) (Or.inl ⟨by rfl, ?_⟩) (by assumption) ?_
  rotate_left
  · intro wz hSw
    try dsimp only at hSw
    go_simp
    try with_reducible rfl
  try simp only [Act.put, List.setIfInBounds_toArray, List.set_cons_zero, List.set_cons_succ]
  refine wpAnyH_ready (rs := [4]) (by kernel_rfl) (by simp) (AllReadyH.cons (o := { dst := some 14, op := Op.call { callee := Callee.value (Operand.func 40), args := #[Operand.tmp 12, Operand.tmp 13], argTypes := #[29, 45] }, type := 74, pos := "patch.go:62", after := #[{ on := 2, ground := Ground.data }, { on := 3, ground := Ground.data }], guard := none }) rfl (fun K hK => ?_) AllReadyH.nil)
  go_simp
  go_at_call 40
  refine Calls.mono (EF _ (b0.drew)) ?_
  rintro e w4 ⟨⟨r, ok, rfl, hf1, hf2⟩, b4⟩
  go_wp2_with fail
  refine hK.out _ _ (keep9 (by assumption) b4) (fun hHeld4 => ?_)
  clear hK K
  try simp only [Act.put, List.setIfInBounds_toArray, List.set_cons_zero, List.set_cons_succ]
  have bW4 : Below w.heap.size w w4 := b0.drew.trans (b4.mono b0.drew.size)
  have s4 := (b4.block _ (lt_of_heap (w := W0.drew) s0)).trans s0
  have v4 := (b4.block _ (lt_of_heap (w := W0.drew) v0)).trans v0
  have HW4 : Hid (Below w.heap.size w w4 ∧ w4.heap[w.heap.size]? = some (.cells #[.string sb, .int .i64 si] 45) ∧ w4.heap[w.heap.size + 1]? = some (.cells #[.int .i64 yk, .int .i64 yn, .string yt, .int .i64 yo, .int .i64 ya] 25)) := ⟨bW4, s4, v4⟩
  have HF2 : Hid (ky = true → ∃ j : Nat, r = j ∧ Found t.ks sb.toList j ok) := hf2
  clear hf2 bW4 s4 v4 b4 s0 v0 b0
  cases q with
  | some i =>
    obtain ⟨hr, rfl⟩ := hf1.1 i rfl
    clear hf1
    subst hr
    refine wpAnyH_take (i := 5) (oi := { dst := some 9, op := Op.move (Operand.tmp 14), type := 74, pos := "patch.go:62", after := #[{ on := 4, ground := Ground.data }], guard := none }) (v := ?_) rfl (by kernel_rfl) (by kernel_rfl) (by kernel_rfl) (fun _ _ _ h => h) (Or.inl ⟨by rfl, ?_⟩) (by assumption) ?_
    rotate_left
    · intro wz hSw
      try dsimp only at hSw
      go_simp
      try with_reducible rfl
    try simp only [Act.put, List.setIfInBounds_toArray, List.set_cons_zero, List.set_cons_succ]
    refine wpAnyH_take (i := 6) (oi := { dst := some 15, op := Op.extract (Operand.tmp 9) 0, type := 3, pos := "patch.go:62", after := #[{ on := 5, ground := Ground.data }], guard := none }) (v := ?_) rfl (by kernel_rfl) (by kernel_rfl) (by kernel_rfl) (fun _ _ _ h => h) (Or.inl ⟨by rfl, ?_⟩) (by assumption) ?_
    rotate_left
    · intro wz hSw
      try dsimp only at hSw
      go_simp
      try with_reducible rfl
    try simp only [Act.put, List.setIfInBounds_toArray, List.set_cons_zero, List.set_cons_succ]
    refine wpAnyH_take (i := 7) (oi := { dst := some 16, op := Op.extract (Operand.tmp 9) 1, type := 4, pos := "patch.go:62", after := #[{ on := 5, ground := Ground.data }, { on := 8, ground := Ground.gcOnly Departure.lateStores }], guard := none }) (v := ?_) rfl (by kernel_rfl) (by kernel_rfl) (by kernel_rfl) (fun _ _ _ h => h) (Or.inl ⟨by rfl, ?_⟩) (by assumption) ?_
    rotate_left
    · intro wz hSw
      try dsimp only at hSw
      go_simp
      try with_reducible rfl
    try simp only [Act.put, List.setIfInBounds_toArray, List.set_cons_zero, List.set_cons_succ]
    refine wpAnyH_take (i := 8) (oi := { dst := some 7, op := Op.assign (Operand.tmp 15), type := 3, pos := "patch.go:62", after := #[{ on := 6, ground := Ground.data }, { on := 4, ground := Ground.chain }, { on := 0, ground := Ground.phase }, { on := 1, ground := Ground.phase }, { on := 2, ground := Ground.phase }, { on := 3, ground := Ground.phase }, { on := 4, ground := Ground.phase }, { on := 5, ground := Ground.phase }, { on := 6, ground := Ground.phase }, { on := 7, ground := Ground.textOnly Departure.lateStores }], guard := none }) (v := ?_) rfl (by kernel_rfl) (by kernel_rfl) (by kernel_rfl) (fun _ _ _ h => h) (Or.inl ⟨by rfl, ?_⟩) (by assumption) ?_
    rotate_left
    · intro wz hSw
      try dsimp only at hSw
      go_simp
      try with_reducible rfl
    try simp only [Act.put, List.setIfInBounds_toArray, List.set_cons_zero, List.set_cons_succ]
    refine wpAnyH_take (i := 9) (oi := { dst := some 8, op := Op.assign (Operand.tmp 16), type := 4, pos := "patch.go:62", after := #[{ on := 7, ground := Ground.data }, { on := 8, ground := Ground.chain }, { on := 0, ground := Ground.phase }, { on := 1, ground := Ground.phase }, { on := 2, ground := Ground.phase }, { on := 3, ground := Ground.phase }, { on := 4, ground := Ground.phase }, { on := 5, ground := Ground.phase }, { on := 6, ground := Ground.phase }, { on := 7, ground := Ground.phase }, { on := 8, ground := Ground.phase }], guard := none }) (v := ?_) rfl (by kernel_rfl) (by kernel_rfl) (by kernel_rfl) (fun _ _ _ h => h) (Or.inl ⟨by rfl, ?_⟩) (by assumption) ?_
    rotate_left
    · intro wz hSw
      try dsimp only at hSw
      go_simp
      try with_reducible rfl
    try simp only [Act.put, List.setIfInBounds_toArray, List.set_cons_zero, List.set_cons_succ]
    refine wpAnyH_done (by kernel_rfl) ?_ _
    refine NoPanic.normal ?_
    clear hHeld hHeld4 k0 k1 k2 k3 k4 k5 k6 y0 y1 EF EK
    obtain ⟨bW4, s4, v4⟩ := HW4.out
    have hil := HLT.out i HQ.out
    have htn2 := HN.out.2
    have hU := HM.out.2.1
    have hul := HM.out.2.2.2.1
    rcases own_rowB hU.own with ⟨e1, hus⟩ | ⟨g, cap, e1, hg1, hg2, hg3, hrow⟩
    · rw [hus] at hul
      simp at hul
      omega
    · obtain ⟨rfl, _, rfl⟩ := Value.slice.inj e1
      have hgm : g ∈ St := by rw [HSt.out]; exact List.mem_append_right _ (List.mem_append_left _ (blk_mem.2 rfl))
      have hgh := HND.out.2.2.2.2.2 g hgm
      have hgb : g ≠ b := fun e => HND.out.2.1 (e ▸ hgm)
      have g5 : (i : Int) < tn := by omega
      have hiu : i < us.length := by omega
      obtain ⟨-, k0, k1, k2, k3, k4, k5, k6⟩ := HA0.out.below bW4
      dsimp only at k6
      have z0 : w4.cell? ⟨w.heap.size + 1, 0, none⟩ = some (.int .i64 yk) := Lib.cell_of_heap v4 0
      have z1 : w4.cell? ⟨w.heap.size + 1, 1, none⟩ = some (.int .i64 yn) := Lib.cell_of_heap v4 1
      have z2 : w4.cell? ⟨w.heap.size + 1, 2, none⟩ = some (.string yt) := Lib.cell_of_heap v4 2
      have z3 : w4.cell? ⟨w.heap.size + 1, 3, none⟩ = some (.int .i64 yo) := Lib.cell_of_heap v4 3
      have z4 : w4.cell? ⟨w.heap.size + 1, 4, none⟩ = some (.int .i64 ya) := Lib.cell_of_heap v4 4
      have hrb : RowB w4.drew g us := hrow.below bW4.drew
      have f0 : w4.drew.cell? ⟨g, i * 7, none⟩ = some (.int .i64 us[i].1.k) := hrb.cellAt i hiu 0 (by decide)
      have f1 : w4.drew.cell? ⟨g, i * 7 + 1, none⟩ = some (.int .i64 us[i].1.n) := hrb.cellAt i hiu 1 (by decide)
      have f2 : w4.drew.cell? ⟨g, i * 7 + 2, none⟩ = some (.string us[i].1.t) := hrb.cellAt i hiu 2 (by decide)
      have f3 : w4.drew.cell? ⟨g, i * 7 + 3, none⟩ = some (.int .i64 us[i].1.o) := hrb.cellAt i hiu 3 (by decide)
      have f4 : w4.drew.cell? ⟨g, i * 7 + 4, none⟩ = some (.int .i64 us[i].1.a) := hrb.cellAt i hiu 4 (by decide)
      have f5 : w4.drew.cell? ⟨g, i * 7 + 5, none⟩ = some us[i].2.1 := hrb.cellAt i hiu 5 (by decide)
      have f6 : w4.drew.cell? ⟨g, i * 7 + 6, none⟩ = some us[i].2.2 := hrb.cellAt i hiu 6 (by decide)
      have ff : ∀ d, w4.drew.frozen? ⟨g, d, none⟩ = false := hrb.frozen
      have HEND : Hid (post (.returned (.bool true)) (put7 w4.drew g (i * 7) (leafV ⟨yk, yn, yt, yo, ya⟩))) := by
        show post _ _
        rw [HPO.out]
        have hk := set_kid (y := ⟨yk, yn, yt, yo, ya⟩) HT0.out.1 HT0.out.2.1 HND.out.1 HND.out.2.1 HT0.out.2.2 hil HQ.out rfl bW4.drew
        rw [Nat.zero_add] at hk
        exact hk
      generalize us[i] = ui at *
      clear hul hrow hrb hU
      go_upto_region 3 with fail
      generalize hW4' : w4 = W4 at *
      refine wp_region_noPanic ?_
      refine wp_region_held_drew (S := fun W => W.cell? ⟨b, o + 6, none⟩ = some (.slice (some ⟨g, 0, none⟩) tn tc) ∧ W.cell? ⟨w.heap.size + 1, 0, none⟩ = some (.int .i64 yk) ∧ W.cell? ⟨w.heap.size + 1, 1, none⟩ = some (.int .i64 yn) ∧ W.cell? ⟨w.heap.size + 1, 2, none⟩ = some (.string yt) ∧ W.cell? ⟨w.heap.size + 1, 3, none⟩ = some (.int .i64 yo) ∧ W.cell? ⟨w.heap.size + 1, 4, none⟩ = some (.int .i64 ya)) (by kernel_rfl) (⟨k6, z0, z1, z2, z3, z4⟩) (fun hHeld => ?_)
      refine wpAnyH_take (i := 0) (oi := { dst := some 18, op := Op.move (Operand.tmp 0), type := 52, pos := "patch.go:64", after := #[], guard := none }) (v := ?_) rfl (by kernel_rfl) (by kernel_rfl) (by kernel_rfl) (fun _ _ _ h => h) (Or.inl ⟨by rfl, ?_⟩) (by assumption) ?_
      rotate_left
      · intro wz hSw
        try dsimp only at hSw
        go_simp
        try with_reducible rfl
      try simp only [Act.put, List.setIfInBounds_toArray, List.set_cons_zero, List.set_cons_succ]
      refine wpAnyH_take (i := 1) (oi := { dst := some 19, op := Op.nilCheck (Operand.tmp 18), type := 0, pos := "patch.go:64", after := #[{ on := 0, ground := Ground.data }], guard := none }) (v := ?_) rfl (by kernel_rfl) (by kernel_rfl) (by kernel_rfl) (fun _ _ _ h => h) (Or.inl ⟨by rfl, ?_⟩) (by assumption) ?_
      rotate_left
      · intro wz hSw
        try dsimp only at hSw
        go_simp
        try with_reducible rfl
      try simp only [Act.put, List.setIfInBounds_toArray, List.set_cons_zero, List.set_cons_succ]
      refine wpAnyH_take (i := 2) (oi := { dst := some 20, op := Op.fieldAddr 29 (Operand.tmp 19) 2, type := 0, pos := "patch.go:64", after := #[{ on := 1, ground := Ground.data }], guard := none }) (v := ?_) rfl (by kernel_rfl) (by kernel_rfl) (by kernel_rfl) (fun _ _ _ h => h) (Or.inl ⟨by rfl, ?_⟩) (by assumption) ?_
      rotate_left
      · intro wz hSw
        try dsimp only at hSw
        go_simp
        try with_reducible rfl
      try simp only [Act.put, List.setIfInBounds_toArray, List.set_cons_zero, List.set_cons_succ]
      refine wpAnyH_take (i := 3) (oi := { dst := some 21, op := Op.load 27 (Operand.tmp 20), type := 27, pos := "patch.go:64", after := #[{ on := 2, ground := Ground.data }], guard := none }) (v := ?_) rfl (by kernel_rfl) (by kernel_rfl) (by kernel_rfl) (fun _ _ _ h => h) (Or.inl ⟨by rfl, ?_⟩) (by assumption) ?_
      rotate_left
      · intro wz hSw
        try dsimp only at hSw
        go_simp
        try with_reducible rfl
      try simp only [Act.put, List.setIfInBounds_toArray, List.set_cons_zero, List.set_cons_succ]
      refine wpAnyH_take (i := 4) (oi := { dst := some 22, op := Op.move (Operand.tmp 7), type := 3, pos := "patch.go:64", after := #[], guard := none }) (v := ?_) rfl (by kernel_rfl) (by kernel_rfl) (by kernel_rfl) (fun _ _ _ h => h) (Or.inl ⟨by rfl, ?_⟩) (by assumption) ?_
      rotate_left
      · intro wz hSw
        try dsimp only at hSw
        go_simp
        try with_reducible rfl
      try simp only [Act.put, List.setIfInBounds_toArray, List.set_cons_zero, List.set_cons_succ]
      refine wpAnyH_take (i := 5) (oi := { dst := some 23, op := Op.load 25 (Operand.tmp 5), type := 25, pos := "patch.go:64", after := #[], guard := none }) (v := ?_) rfl (by kernel_rfl) (by kernel_rfl) (by kernel_rfl) (fun _ _ _ h => h) (Or.inl ⟨by rfl, ?_⟩) (by assumption) ?_
      rotate_left
      · intro wz hSw
        try dsimp only at hSw
        go_simp
        try with_reducible rfl
      try simp only [Act.put, List.setIfInBounds_toArray, List.set_cons_zero, List.set_cons_succ]
      refine wpAnyH_take (i := 6) (oi := { dst := some 24, op := Op.build 29 #[(0, Operand.tmp 23)], type := 29, pos := "patch.go:64", after := #[{ on := 5, ground := Ground.data }], guard := none }) (v := ?_) rfl (by kernel_rfl) (by kernel_rfl) (by kernel_rfl) (fun _ _ _ h => h) (Or.inl ⟨by rfl, ?_⟩) (by assumption) ?_
      rotate_left
      · intro wz hSw
        try dsimp only at hSw
        go_simp
        try with_reducible rfl
      try simp only [Act.put, List.setIfInBounds_toArray, List.set_cons_zero, List.set_cons_succ]
      refine wpAnyH_take (i := 7) (oi := { dst := some 25, op := Op.indexAddr 27 (Operand.tmp 21) (Operand.tmp 22), type := 0, pos := "patch.go:64", after := #[{ on := 3, ground := Ground.data }, { on := 4, ground := Ground.data }, { on := 0, ground := Ground.phase }, { on := 1, ground := Ground.phase }, { on := 2, ground := Ground.phase }, { on := 3, ground := Ground.phase }, { on := 4, ground := Ground.phase }, { on := 5, ground := Ground.phase }, { on := 6, ground := Ground.phase }], guard := none }) (v := ?_) rfl (by kernel_rfl) (by kernel_rfl) (by kernel_rfl) (fun _ _ _ h => h) (Or.inl ⟨by rfl, ?_⟩) (by assumption) ?_
      rotate_left
      · intro wz hSw
        try dsimp only at hSw
        go_simp
        try with_reducible rfl
      try simp only [Act.put, List.setIfInBounds_toArray, List.set_cons_zero, List.set_cons_succ]
      generalize W4.drew = Wd at *
      refine wpAnyH_ready (rs := [8]) (by kernel_rfl) (by simp) (AllReadyH.cons (o := { dst := none, op := Op.store 29 (Operand.tmp 25) (Operand.tmp 24), type := 0, pos := "patch.go:64", after := #[{ on := 7, ground := Ground.data }, { on := 6, ground := Ground.data }, { on := 0, ground := Ground.phase }, { on := 1, ground := Ground.phase }, { on := 2, ground := Ground.phase }, { on := 3, ground := Ground.phase }, { on := 4, ground := Ground.phase }, { on := 5, ground := Ground.phase }, { on := 6, ground := Ground.phase }], guard := none }) rfl (fun K hK => ?_) AllReadyH.nil)
      go_simp
      refine hK.out _ _ (keep6o (g := g) (W := Wd) (W' := put7 Wd g (i * 7) (⟨yk, yn, yt, yo, ya⟩, .slice none 0 0, .slice none 0 0)) (by assumption) (fun d hd => put7_other Wd g (i * 7) (⟨yk, yn, yt, yo, ya⟩, .slice none 0 0, .slice none 0 0) d hd) ⟨by simp; omega, by simp; omega, by simp; omega, by simp; omega, by simp; omega, by simp; omega⟩) (fun hHeld8 => ?_)
      clear hK K
      try simp only [Act.put, List.setIfInBounds_toArray, List.set_cons_zero, List.set_cons_succ]
      refine wpAnyH_done (by kernel_rfl) ?_ _
      refine NoPanic.normal ?_
      clear hHeld hHeld8 f0 f1 f2 f3 f4 f5 f6 ff z0 z1 z2 z3 z4 k0 k1 k2 k3 k4 k5 k6
      dsimp only [put7, leafV] at HEND
      go_wp2
      exact HEND.out
  | none =>
    obtain rfl := hf1.2 rfl
    clear hf1
    refine wpAnyH_take (i := 5) (oi := { dst := some 9, op := Op.move (Operand.tmp 14), type := 74, pos := "patch.go:62", after := #[{ on := 4, ground := Ground.data }], guard := none }) (v := ?_) rfl (by kernel_rfl) (by kernel_rfl) (by kernel_rfl) (fun _ _ _ h => h) (Or.inl ⟨by rfl, ?_⟩) (by assumption) ?_
    rotate_left
    · intro wz hSw
      try dsimp only at hSw
      go_simp
      try with_reducible rfl
    try simp only [Act.put, List.setIfInBounds_toArray, List.set_cons_zero, List.set_cons_succ]
    refine wpAnyH_take (i := 6) (oi := { dst := some 15, op := Op.extract (Operand.tmp 9) 0, type := 3, pos := "patch.go:62", after := #[{ on := 5, ground := Ground.data }], guard := none }) (v := ?_) rfl (by kernel_rfl) (by kernel_rfl) (by kernel_rfl) (fun _ _ _ h => h) (Or.inl ⟨by rfl, ?_⟩) (by assumption) ?_
    rotate_left
    · intro wz hSw
      try dsimp only at hSw
      go_simp
      try with_reducible rfl
    try simp only [Act.put, List.setIfInBounds_toArray, List.set_cons_zero, List.set_cons_succ]
    refine wpAnyH_take (i := 7) (oi := { dst := some 16, op := Op.extract (Operand.tmp 9) 1, type := 4, pos := "patch.go:62", after := #[{ on := 5, ground := Ground.data }, { on := 8, ground := Ground.gcOnly Departure.lateStores }], guard := none }) (v := ?_) rfl (by kernel_rfl) (by kernel_rfl) (by kernel_rfl) (fun _ _ _ h => h) (Or.inl ⟨by rfl, ?_⟩) (by assumption) ?_
    rotate_left
    · intro wz hSw
      try dsimp only at hSw
      go_simp
      try with_reducible rfl
    try simp only [Act.put, List.setIfInBounds_toArray, List.set_cons_zero, List.set_cons_succ]
    refine wpAnyH_take (i := 8) (oi := { dst := some 7, op := Op.assign (Operand.tmp 15), type := 3, pos := "patch.go:62", after := #[{ on := 6, ground := Ground.data }, { on := 4, ground := Ground.chain }, { on := 0, ground := Ground.phase }, { on := 1, ground := Ground.phase }, { on := 2, ground := Ground.phase }, { on := 3, ground := Ground.phase }, { on := 4, ground := Ground.phase }, { on := 5, ground := Ground.phase }, { on := 6, ground := Ground.phase }, { on := 7, ground := Ground.textOnly Departure.lateStores }], guard := none }) (v := ?_) rfl (by kernel_rfl) (by kernel_rfl) (by kernel_rfl) (fun _ _ _ h => h) (Or.inl ⟨by rfl, ?_⟩) (by assumption) ?_
    rotate_left
    · intro wz hSw
      try dsimp only at hSw
      go_simp
      try with_reducible rfl
    try simp only [Act.put, List.setIfInBounds_toArray, List.set_cons_zero, List.set_cons_succ]
    refine wpAnyH_take (i := 9) (oi := { dst := some 8, op := Op.assign (Operand.tmp 16), type := 4, pos := "patch.go:62", after := #[{ on := 7, ground := Ground.data }, { on := 8, ground := Ground.chain }, { on := 0, ground := Ground.phase }, { on := 1, ground := Ground.phase }, { on := 2, ground := Ground.phase }, { on := 3, ground := Ground.phase }, { on := 4, ground := Ground.phase }, { on := 5, ground := Ground.phase }, { on := 6, ground := Ground.phase }, { on := 7, ground := Ground.phase }, { on := 8, ground := Ground.phase }], guard := none }) (v := ?_) rfl (by kernel_rfl) (by kernel_rfl) (by kernel_rfl) (fun _ _ _ h => h) (Or.inl ⟨by rfl, ?_⟩) (by assumption) ?_
    rotate_left
    · intro wz hSw
      try dsimp only at hSw
      go_simp
      try with_reducible rfl
    try simp only [Act.put, List.setIfInBounds_toArray, List.set_cons_zero, List.set_cons_succ]
    refine wpAnyH_done (by kernel_rfl) ?_ _
    refine NoPanic.normal ?_
    clear hHeld hHeld4 k0 k1 k2 k3 k4 k5 k6 y0 y1 EF
    obtain ⟨bW4, s4, v4⟩ := HW4.out
    obtain ⟨-, k0, k1, k2, k3, k4, k5, k6⟩ := HA0.out.below bW4
    dsimp only at k0 k1 k2 k3 k4 k5 k6
    have y0 : w4.cell? ⟨w.heap.size, 0, none⟩ = some (.string sb) := Lib.cell_of_heap s4 0
    have y1 : w4.cell? ⟨w.heap.size, 1, none⟩ = some (.int .i64 si) := Lib.cell_of_heap s4 1
    go_upto_region 5 with fail
    refine wp_region_noPanic ?_
    refine wp_region_held_drew (S := fun W => W.cell? ⟨b, o, none⟩ = some (.int .i64 xk) ∧ W.cell? ⟨b, o + 1, none⟩ = some (.int .i64 xn) ∧ W.cell? ⟨b, o + 2, none⟩ = some (.string xt) ∧ W.cell? ⟨b, o + 3, none⟩ = some (.int .i64 xo) ∧ W.cell? ⟨b, o + 4, none⟩ = some (.int .i64 xa) ∧ W.cell? ⟨b, o + 5, none⟩ = some (.slice ka kn kc) ∧ W.cell? ⟨b, o + 6, none⟩ = some (.slice ta tn tc) ∧ W.cell? ⟨w.heap.size, 0, none⟩ = some (.string sb) ∧ W.cell? ⟨w.heap.size, 1, none⟩ = some (.int .i64 si)) (by kernel_rfl) (⟨k0, k1, k2, k3, k4, k5, k6, y0, y1⟩) (fun hHeld => ?_)
    refine wpAnyH_take (i := 0) (oi := { dst := some 26, op := Op.move (Operand.tmp 0), type := 52, pos := "patch.go:67", after := #[], guard := none }) (v := ?_) rfl (by kernel_rfl) (by kernel_rfl) (by kernel_rfl) (fun _ _ _ h => h) (Or.inl ⟨by rfl, ?_⟩) (by assumption) ?_
    rotate_left
    · intro wz hSw
      try dsimp only at hSw
      go_simp
      try with_reducible rfl
    try simp only [Act.put, List.setIfInBounds_toArray, List.set_cons_zero, List.set_cons_succ]
    refine wpAnyH_take (i := 1) (oi := { dst := some 27, op := Op.nilCheck (Operand.tmp 26), type := 0, pos := "patch.go:67", after := #[{ on := 0, ground := Ground.data }], guard := none }) (v := ?_) rfl (by kernel_rfl) (by kernel_rfl) (by kernel_rfl) (fun _ _ _ h => h) (Or.inl ⟨by rfl, ?_⟩) (by assumption) ?_
    rotate_left
    · intro wz hSw
      try dsimp only at hSw
      go_simp
      try with_reducible rfl
    try simp only [Act.put, List.setIfInBounds_toArray, List.set_cons_zero, List.set_cons_succ]
    refine wpAnyH_take (i := 2) (oi := { dst := some 28, op := Op.load 29 (Operand.tmp 27), type := 29, pos := "patch.go:67", after := #[{ on := 1, ground := Ground.data }], guard := none }) (v := ?_) rfl (by kernel_rfl) (by kernel_rfl) (by kernel_rfl) (fun _ _ _ h => h) (Or.inl ⟨by rfl, ?_⟩) (by assumption) ?_
    rotate_left
    · intro wz hSw
      try dsimp only at hSw
      go_simp
      try with_reducible rfl
    try simp only [Act.put, List.setIfInBounds_toArray, List.set_cons_zero, List.set_cons_succ]
    refine wpAnyH_take (i := 3) (oi := { dst := some 29, op := Op.load 45 (Operand.tmp 4), type := 45, pos := "patch.go:67", after := #[], guard := none }) (v := ?_) rfl (by kernel_rfl) (by kernel_rfl) (by kernel_rfl) (fun _ _ _ h => h) (Or.inl ⟨by rfl, ?_⟩) (by assumption) ?_
    rotate_left
    · intro wz hSw
      try dsimp only at hSw
      go_simp
      try with_reducible rfl
    try simp only [Act.put, List.setIfInBounds_toArray, List.set_cons_zero, List.set_cons_succ]
    refine wpAnyH_ready (rs := [4]) (by kernel_rfl) (by simp) (AllReadyH.cons (o := { dst := some 30, op := Op.call { callee := Callee.value (Operand.func 41), args := #[Operand.tmp 28, Operand.tmp 29], argTypes := #[29, 45] }, type := 4, pos := "patch.go:67", after := #[{ on := 2, ground := Ground.data }, { on := 3, ground := Ground.data }], guard := none }) rfl (fun K hK => ?_) AllReadyH.nil)
    go_simp
    go_at_call 41
    refine Calls.mono (EK _) ?_
    rintro e w5 ⟨rfl, b5⟩
    go_wp2_with fail
    refine hK.out _ _ (keep9 (by assumption) b5) (fun hHeld4 => ?_)
    clear hK K
    try simp only [Act.put, List.setIfInBounds_toArray, List.set_cons_zero, List.set_cons_succ]
    refine wpAnyH_take (i := 5) (oi := { dst := some 31, op := Op.unOp UnOp.not 4 (Operand.tmp 30), type := 4, pos := "patch.go:67", after := #[{ on := 4, ground := Ground.data }], guard := none }) (v := ?_) rfl (by kernel_rfl) (by kernel_rfl) (by kernel_rfl) (fun _ _ _ h => h) (Or.inl ⟨by rfl, ?_⟩) (by assumption) ?_
    rotate_left
    · intro wz hSw
      try dsimp only at hSw
      go_simp
      try with_reducible rfl
    try simp only [Act.put, List.setIfInBounds_toArray, List.set_cons_zero, List.set_cons_succ]
    refine wpAnyH_done (by kernel_rfl) ?_ _
    refine NoPanic.normal ?_
    have bW5 : Below w.heap.size w w5 := bW4.drew.trans (b5.mono bW4.drew.size)
    have s5 := (b5.block _ (lt_of_heap (w := w4.drew) s4)).trans s4
    have v5 := (b5.block _ (lt_of_heap (w := w4.drew) v4)).trans v4
    have HW5 : Hid (Below w.heap.size w w5 ∧ w5.heap[w.heap.size]? = some (.cells #[.string sb, .int .i64 si] 45) ∧ w5.heap[w.heap.size + 1]? = some (.cells #[.int .i64 yk, .int .i64 yn, .string yt, .int .i64 yo, .int .i64 ya] 25)) := ⟨bW5, s5, v5⟩
    clear hHeld hHeld4 k0 k1 k2 k3 k4 k5 k6 y0 y1 EK b5 s5 v5 bW5 bW4 s4 v4 HW4
    cases ky with
    | false =>
      have HEND : Hid (post (.returned (.bool false)) w5) := by
        show post _ _
        rw [HPO.out]
        refine Or.inr ⟨fun t' h => ?_, rfl, HW5.out.1⟩
        rcases h with ⟨_, h⟩ | ⟨h, _⟩ | ⟨h, _⟩
        · exact set_none HQ.out HKY.out h
        · exact absurd h (by decide)
        · exact absurd h (by decide)
      go_wp2
      exact HEND.out
    | true =>
      obtain ⟨j, hr, hF⟩ := HF2.out rfl
      subst hr
      have HFO : Hid (Found t.ks sb.toList j false) := hF
      clear hF HF2
      obtain ⟨bW5, s5, v5⟩ := HW5.out
      obtain ⟨hK, hU, hG, hlen, hAA⟩ := HM.out
      obtain ⟨hnd, hbS, hlo, hfk, hft, hlow⟩ := HND.out
      have hSt := HSt.out
      have hbw : b < w.heap.size := hAA.1
      have hks := HUP.out (keyStep_parts HKY.out).1
      have hkb : ∀ k, (Value.slice ka kn kc).ownBlock = some k → (k ≠ b ∧ k < w.heap.size) ∧ k ∈ blk (.slice ka t.ks.length kc) := by
        intro k hk
        have hk2 : k ∈ blk (.slice ka t.ks.length kc) := by rw [HN.out.1] at hk; exact blk_mem.2 hk
        have hk3 : k ∈ St := by rw [hSt]; exact List.mem_append_left _ hk2
        exact ⟨⟨fun e => hbS (e ▸ hk3), hlow k hk3⟩, hk2⟩
      have hub : ∀ k, (Value.slice ta tn tc).ownBlock = some k → (k ≠ b ∧ k < w.heap.size) ∧ k ∈ blk (.slice ta us.length tc) := by
        intro k hk
        have hk2 : k ∈ blk (.slice ta us.length tc) := by rw [HN.out.2, ← hlen] at hk; exact blk_mem.2 hk
        have hk3 : k ∈ St := by rw [hSt]; exact List.mem_append_right _ (List.mem_append_left _ hk2)
        exact ⟨⟨fun e => hbS (e ▸ hk3), hlow k hk3⟩, hk2⟩
      -- the key comes in
      have b6 := (bW5.drew).alloc bW5.drew.size (.cells #[.string sb] 9)
      have n6 : (w5.drew.alloc (.cells #[.string sb] 9)).heap[w5.heap.size]? = some (.cells #[.string sb] 9) := (MapKept.heap_alloc w5.drew _).1
      have c6 := (Below.refl w5.drew.heap.size w5.drew).alloc (Nat.le_refl _) (.cells #[.string sb] 9)
      have hz6 := b6.size
      have EI := insS_any lo (.slice ka t.ks.length kc) t.ks.length j w5.heap.size (scells t.ks) [.string sb] (w5.drew.alloc (.cells #[.string sb] 9)) (own_below hK.own b6 (Nat.le_refl _)) HFO.out.1 hK.few rfl n6 (fun e => by
          have := hkb w5.heap.size (by rw [HN.out.1]; exact e)
          have := bW5.size
          omega) (one_scells _) (fun u hu => by simp at hu; rw [hu]; rfl) (by omega)
      rw [scells_put, ← HN.out.1] at EI
      have hzw := bW5.size
      obtain ⟨-, -, -, -, -, -, k5, -⟩ := HA0.out.below bW5.drew
      obtain ⟨-, -, -, -, -, -, k5', -⟩ := HA0.out.below b6
      dsimp only at k5 k5'
      have y0 : w5.drew.cell? ⟨w.heap.size, 0, none⟩ = some (.string sb) := Lib.cell_of_heap (w := w5.drew) s5 0
      have s6 := (c6.block _ (lt_of_heap (w := w5.drew) s5)).trans s5
      have v6 := (c6.block _ (lt_of_heap (w := w5.drew) v5)).trans v5
      have y0' : (w5.drew.alloc (.cells #[.string sb] 9)).cell? ⟨w.heap.size, 0, none⟩ = some (.string sb) := Lib.cell_of_heap s6 0
      have hstep := lt_of_heap s6
      have hval := lt_of_heap v6
      go_upto_region 7 with fail
      refine wp_region_noPanic ?_
      refine early_begin (S := fun W => W.cell? ⟨b, o + 5, none⟩ = some (.slice ka kn kc) ∧ W.cell? ⟨w.heap.size, 0, none⟩ = some (.string sb)) (late := fun k => decide (10 ≤ k)) (by kernel_rfl) ?_
      refine early_take (i := 0) (oi := { dst := some 32, op := Op.move (Operand.tmp 0), type := 52, pos := "patch.go:70", after := #[], guard := none }) (v := ?_) rfl (by kernel_rfl) (by kernel_rfl) (by kernel_rfl) (by decide) (by kernel_rfl) (fun _ _ _ h => h) (Or.inl ⟨by rfl, ?_⟩) ⟨k5, y0⟩ ?_
      rotate_left
      · intro wz hSw
        try dsimp only at hSw
        go_simp
        try with_reducible rfl
      try simp only [Act.put, List.setIfInBounds_toArray, List.set_cons_zero, List.set_cons_succ]
      refine early_take (i := 1) (oi := { dst := some 33, op := Op.move (Operand.tmp 0), type := 52, pos := "patch.go:70", after := #[], guard := none }) (v := ?_) rfl (by kernel_rfl) (by kernel_rfl) (by kernel_rfl) (by decide) (by kernel_rfl) (fun _ _ _ h => h) (Or.inl ⟨by rfl, ?_⟩) ⟨k5, y0⟩ ?_
      rotate_left
      · intro wz hSw
        try dsimp only at hSw
        go_simp
        try with_reducible rfl
      try simp only [Act.put, List.setIfInBounds_toArray, List.set_cons_zero, List.set_cons_succ]
      refine early_take (i := 2) (oi := { dst := some 34, op := Op.nilCheck (Operand.tmp 33), type := 0, pos := "patch.go:70", after := #[{ on := 1, ground := Ground.data }], guard := none }) (v := ?_) rfl (by kernel_rfl) (by kernel_rfl) (by kernel_rfl) (by decide) (by kernel_rfl) (fun _ _ _ h => h) (Or.inl ⟨by rfl, ?_⟩) ⟨k5, y0⟩ ?_
      rotate_left
      · intro wz hSw
        try dsimp only at hSw
        go_simp
        try with_reducible rfl
      try simp only [Act.put, List.setIfInBounds_toArray, List.set_cons_zero, List.set_cons_succ]
      refine early_take (i := 3) (oi := { dst := some 35, op := Op.fieldAddr 29 (Operand.tmp 34) 1, type := 0, pos := "patch.go:70", after := #[{ on := 2, ground := Ground.data }], guard := none }) (v := ?_) rfl (by kernel_rfl) (by kernel_rfl) (by kernel_rfl) (by decide) (by kernel_rfl) (fun _ _ _ h => h) (Or.inl ⟨by rfl, ?_⟩) ⟨k5, y0⟩ ?_
      rotate_left
      · intro wz hSw
        try dsimp only at hSw
        go_simp
        try with_reducible rfl
      try simp only [Act.put, List.setIfInBounds_toArray, List.set_cons_zero, List.set_cons_succ]
      refine early_take (i := 4) (oi := { dst := some 36, op := Op.load 26 (Operand.tmp 35), type := 26, pos := "patch.go:70", after := #[{ on := 3, ground := Ground.data }], guard := none }) (v := ?_) rfl (by kernel_rfl) (by kernel_rfl) (by kernel_rfl) (by decide) (by kernel_rfl) (fun _ _ _ h => h) (Or.inl ⟨by rfl, ?_⟩) ⟨k5, y0⟩ ?_
      rotate_left
      · intro wz hSw
        try dsimp only at hSw
        go_simp
        try with_reducible rfl
      try simp only [Act.put, List.setIfInBounds_toArray, List.set_cons_zero, List.set_cons_succ]
      refine early_take (i := 5) (oi := { dst := some 37, op := Op.move (Operand.tmp 7), type := 3, pos := "patch.go:70", after := #[], guard := none }) (v := ?_) rfl (by kernel_rfl) (by kernel_rfl) (by kernel_rfl) (by decide) (by kernel_rfl) (fun _ _ _ h => h) (Or.inl ⟨by rfl, ?_⟩) ⟨k5, y0⟩ ?_
      rotate_left
      · intro wz hSw
        try dsimp only at hSw
        go_simp
        try with_reducible rfl
      try simp only [Act.put, List.setIfInBounds_toArray, List.set_cons_zero, List.set_cons_succ]
      refine early_take (i := 6) (oi := { dst := some 38, op := Op.fieldAddr 45 (Operand.tmp 4) 0, type := 0, pos := "patch.go:70", after := #[], guard := none }) (v := ?_) rfl (by kernel_rfl) (by kernel_rfl) (by kernel_rfl) (by decide) (by kernel_rfl) (fun _ _ _ h => h) (Or.inl ⟨by rfl, ?_⟩) ⟨k5, y0⟩ ?_
      rotate_left
      · intro wz hSw
        try dsimp only at hSw
        go_simp
        try with_reducible rfl
      try simp only [Act.put, List.setIfInBounds_toArray, List.set_cons_zero, List.set_cons_succ]
      refine early_take (i := 7) (oi := { dst := some 39, op := Op.load 9 (Operand.tmp 38), type := 9, pos := "patch.go:70", after := #[{ on := 6, ground := Ground.data }], guard := none }) (v := ?_) rfl (by kernel_rfl) (by kernel_rfl) (by kernel_rfl) (by decide) (by kernel_rfl) (fun _ _ _ h => h) (Or.inl ⟨by rfl, ?_⟩) ⟨k5, y0⟩ ?_
      rotate_left
      · intro wz hSw
        try dsimp only at hSw
        go_simp
        try with_reducible rfl
      try simp only [Act.put, List.setIfInBounds_toArray, List.set_cons_zero, List.set_cons_succ]
      refine early_step (i := 8) (o := { dst := some 40, op := Op.buildSlice 26 1 #[(0, Operand.tmp 39)], type := 26, pos := "patch.go:70", after := #[{ on := 7, ground := Ground.data }], guard := none }) (by kernel_rfl) rfl (fun K hK => ?_)
      go_simp
      refine hK.out _ _ (fun _ => ⟨k5', y0'⟩) ?_
      clear hK K
      try simp only [Act.put, List.setIfInBounds_toArray, List.set_cons_zero, List.set_cons_succ]
      refine early_step (i := 9) (o := { dst := some 41, op := Op.call { callee := Callee.value (Operand.func 42), args := #[Operand.tmp 36, Operand.tmp 37, Operand.tmp 40], argTypes := #[26, 3, 26] }, type := 26, pos := "patch.go:70", after := #[{ on := 4, ground := Ground.data }, { on := 5, ground := Ground.data }, { on := 8, ground := Ground.data }], guard := none }) (by kernel_rfl) rfl (fun K hK => ?_)
      go_simp
      go_at_call 42
      refine Calls.mono EI ?_
      rintro e w9 ⟨⟨vk, rfl, hown, hvb⟩, hgr⟩
      obtain ⟨va, vc, hvk⟩ := slice_of hown
      obtain ⟨kn1, hkn1⟩ : ∃ kn1, kn + 1 = kn1 := ⟨_, rfl⟩
      rw [hkn1] at hvk
      subst hvk
      go_wp2_with fail
      refine hK.out _ _ (fun _ => ⟨(World.cell?_of_block (hgr.block b (by omega) (fun e => by have := hkb b e.symm; omega))).trans k5', (World.cell?_of_block (hgr.block w.heap.size (by omega) (fun e => by have := hkb _ e.symm; omega))).trans y0'⟩) ?_
      clear hK K
      try simp only [Act.put, List.setIfInBounds_toArray, List.set_cons_zero, List.set_cons_succ]
      have hb9 : w9.heap[b]? = w.heap[b]? := (hgr.block b (by omega) (fun e => by have := hkb b e.symm; omega)).trans (b6.block b hbw)
      have q5 : w9.cell? ⟨b, o + 5, none⟩ = some (.slice ka kn kc) := (World.cell?_of_block (hgr.block b (by omega) (fun e => by have := hkb b e.symm; omega))).trans k5'
      have qf := HFZ.out w9 hb9
      refine early_step (i := 10) (o := { dst := some 42, op := Op.nilCheck (Operand.tmp 32), type := 0, pos := "patch.go:70", after := #[{ on := 0, ground := Ground.data }, { on := 0, ground := Ground.phase }, { on := 1, ground := Ground.phase }, { on := 2, ground := Ground.phase }, { on := 3, ground := Ground.phase }, { on := 4, ground := Ground.phase }, { on := 5, ground := Ground.phase }, { on := 6, ground := Ground.phase }, { on := 7, ground := Ground.phase }, { on := 8, ground := Ground.phase }, { on := 9, ground := Ground.phase }], guard := none }) (by kernel_rfl) rfl (fun K hK => ?_)
      go_simp
      refine hK.out _ _ (fun h => absurd h (by decide)) ?_
      clear hK K
      try simp only [Act.put, List.setIfInBounds_toArray, List.set_cons_zero, List.set_cons_succ]
      refine early_step (i := 11) (o := { dst := some 43, op := Op.fieldAddr 29 (Operand.tmp 42) 1, type := 0, pos := "patch.go:70", after := #[{ on := 10, ground := Ground.data }, { on := 0, ground := Ground.phase }, { on := 1, ground := Ground.phase }, { on := 2, ground := Ground.phase }, { on := 3, ground := Ground.phase }, { on := 4, ground := Ground.phase }, { on := 5, ground := Ground.phase }, { on := 6, ground := Ground.phase }, { on := 7, ground := Ground.phase }, { on := 8, ground := Ground.phase }, { on := 9, ground := Ground.phase }], guard := none }) (by kernel_rfl) rfl (fun K hK => ?_)
      go_simp
      refine hK.out _ _ (fun h => absurd h (by decide)) ?_
      clear hK K
      try simp only [Act.put, List.setIfInBounds_toArray, List.set_cons_zero, List.set_cons_succ]
      refine early_step (i := 12) (o := { dst := none, op := Op.store 26 (Operand.tmp 43) (Operand.tmp 41), type := 0, pos := "patch.go:70", after := #[{ on := 11, ground := Ground.data }, { on := 9, ground := Ground.data }, { on := 9, ground := Ground.chain }, { on := 0, ground := Ground.phase }, { on := 1, ground := Ground.phase }, { on := 2, ground := Ground.phase }, { on := 3, ground := Ground.phase }, { on := 4, ground := Ground.phase }, { on := 5, ground := Ground.phase }, { on := 6, ground := Ground.phase }, { on := 7, ground := Ground.phase }, { on := 8, ground := Ground.phase }, { on := 9, ground := Ground.phase }], guard := none }) (by kernel_rfl) rfl (fun K hK => ?_)
      go_simp
      refine hK.out _ _ (fun h => absurd h (by decide)) ?_
      clear hK K
      try simp only [Act.put, List.setIfInBounds_toArray, List.set_cons_zero, List.set_cons_succ]
      refine early_done (by kernel_rfl) ?_ _
      refine NoPanic.normal ?_
      -- what there is behind it
      have bl9 : ∀ k, k < w.heap.size → k ∉ blk (.slice ka t.ks.length kc) → w9.heap[k]? = w.heap[k]? := fun k hk hn => (hgr.block k (by omega) (fun e => hn (hkb k e.symm).2)).trans (b6.block k hk)
      have hvkb : ∀ x ∈ blk (.slice va kn1 vc), x ∈ blk (.slice ka t.ks.length kc) ∨ w.heap.size ≤ x := by
        intro x hx
        rcases hvb with e | e
        · rw [blk_mem, e] at hx
          exact Or.inl (hkb x hx).2
        · rw [blk_mem, e] at hx
          have := Option.some.inj hx
          exact Or.inr (by omega)
      have hbvk : b ∉ blk (.slice va kn1 vc) := by
        intro hx
        rcases hvkb b hx with h | h
        · exact hbS (by rw [hSt]; exact List.mem_append_left _ h)
        · omega
      have hbua : b ∉ blk (.slice ta us.length tc) := fun h => hbS (by rw [hSt]; exact List.mem_append_right _ (List.mem_append_left _ h))
      have v9 : w9.heap[w.heap.size + 1]? = some (.cells #[.int .i64 yk, .int .i64 yn, .string yt, .int .i64 yo, .int .i64 ya] 25) := (hgr.block _ hval (fun e => by have := hkb _ e.symm; omega)).trans v6
      have hU9 : w9.ownsRow lo 29 7 (.slice ta us.length tc) us.length (tcs us) := own_grown' (own_below hU.own b6 (Nat.le_refl _)) hgr (own_below (by have := hK.own; rw [← HN.out.1] at this; exact this) b6 (Nat.le_refl _)) (by decide)
      have o10 := own_set_ne (i := o + 5) (u := .slice va kn1 vc) hown hbvk
      have u10 := own_set_ne (i := o + 5) (u := .slice va kn1 vc) hU9 hbua
      have bl10 : ∀ k, k < w.heap.size → k ∉ blk (.slice ka t.ks.length kc) → k ≠ b → (w9.setCell ⟨b, o + 5, none⟩ (.slice va kn1 vc)).heap[k]? = w.heap[k]? := fun k hk hn hne => (Below.heap_setCell _ _ _ _ (by simpa using hne)).trans (bl9 k hk hn)
      have v10 : (w9.setCell ⟨b, o + 5, none⟩ (.slice va kn1 vc)).heap[w.heap.size + 1]? = some (.cells #[.int .i64 yk, .int .i64 yn, .string yt, .int .i64 yo, .int .i64 ya] 25) := heap_set_other v9 (by omega)
      have ce10 : ∀ c, c ≠ o + 5 → (w9.setCell ⟨b, o + 5, none⟩ (.slice va kn1 vc)).cell? ⟨b, c, none⟩ = w.cell? ⟨b, c, none⟩ := fun c hc => by
        rw [World.cell?_setCell_other _ _ _ _ (fun e => hc (by injection e with _ e2 _; exact e2.symm))]
        exact World.cell?_of_block (w := w) hb9
      have c510 : (w9.setCell ⟨b, o + 5, none⟩ (.slice va kn1 vc)).cell? ⟨b, o + 5, none⟩ = some (.slice va kn1 vc) := World.cell?_setCell_same _ _ _ q5
      have fz10 : ∀ d, (w9.setCell ⟨b, o + 5, none⟩ (.slice va kn1 vc)).frozen? ⟨b, d, none⟩ = false := fun d => by rw [World.frozen?_setCell]; exact qf d
      have sh10 : ∀ ty cur, w.heap[b]? = some (.cells cur ty) → ∃ cur', (w9.setCell ⟨b, o + 5, none⟩ (.slice va kn1 vc)).heap[b]? = some (.cells cur' ty) ∧ cur'.size = cur.size := fun ty cur hc => set_shape (hb9.trans hc)
      have sz10 : w9.heap.size = (w9.setCell ⟨b, o + 5, none⟩ (.slice va kn1 vc)).heap.size := by simp
      have os10 : (w9.setCell ⟨b, o + 5, none⟩ (.slice va kn1 vc)).os = w.os ∧ (w9.setCell ⟨b, o + 5, none⟩ (.slice va kn1 vc)).tape = w.tape ∧ (w9.setCell ⟨b, o + 5, none⟩ (.slice va kn1 vc)).output = w.output := ⟨hgr.os.trans b6.os, hgr.tape.trans b6.tape, hgr.output.trans b6.output⟩
      have hz9 := hgr.size
      clear EI y0 y0' k5 k5' s6 v6 c6 n6 q5 qf hb9 v9 bl9 hU9 hgr hown s5 v5 hvb
      generalize w9.setCell ⟨b, o + 5, none⟩ (.slice va kn1 vc) = W10 at *
      -- the kid comes in
      have c11 := (Below.refl W10.drew.heap.size W10.drew).alloc (Nat.le_refl _) (.cells #[.int .i64 yk, .int .i64 yn, .string yt, .int .i64 yo, .int .i64 ya, .slice none 0 0, .slice none 0 0] 29)
      have n11 : (W10.drew.alloc (.cells #[.int .i64 yk, .int .i64 yn, .string yt, .int .i64 yo, .int .i64 ya, .slice none 0 0, .slice none 0 0] 29)).heap[W10.heap.size]? = some (.cells #[.int .i64 yk, .int .i64 yn, .string yt, .int .i64 yo, .int .i64 ya, .slice none 0 0, .slice none 0 0] 29) := (MapKept.heap_alloc W10.drew _).1
      have hz11 := c11.size
      have hz10 : w.heap.size ≤ W10.heap.size := by omega
      have EI := insT_any lo (.slice ta us.length tc) us.length j W10.heap.size (tcs us) (tcells (leafV ⟨yk, yn, yt, yo, ya⟩)) (W10.drew.alloc (.cells #[.int .i64 yk, .int .i64 yn, .string yt, .int .i64 yo, .int .i64 ya, .slice none 0 0, .slice none 0 0] 29)) (own_below (w := W10.drew) u10 c11 (Nat.le_refl _)) (by have := HFO.out.1; omega) hU.few rfl n11 (fun e => by
          have := hub W10.heap.size (by rw [HN.out.2, ← hlen]; exact e)
          omega) (one_tcs hG) (fun u hu => by
          simp [tcells, leafV] at hu
          rcases hu with rfl | rfl | rfl | rfl | rfl | rfl <;> rfl) (by have : W10.drew.heap.size = W10.heap.size := rfl; omega)
      rw [tcs_put us j (by have := HFO.out.1; omega)] at EI
      have k6 : W10.drew.cell? ⟨b, o + 6, none⟩ = some (.slice ta tn tc) := (ce10 (o + 6) (by omega)).trans HA0.out.2.2.2.2.2.2.2
      have z0 : W10.drew.cell? ⟨w.heap.size + 1, 0, none⟩ = some (.int .i64 yk) := Lib.cell_of_heap (w := W10.drew) v10 0
      have z1 : W10.drew.cell? ⟨w.heap.size + 1, 1, none⟩ = some (.int .i64 yn) := Lib.cell_of_heap (w := W10.drew) v10 1
      have z2 : W10.drew.cell? ⟨w.heap.size + 1, 2, none⟩ = some (.string yt) := Lib.cell_of_heap (w := W10.drew) v10 2
      have z3 : W10.drew.cell? ⟨w.heap.size + 1, 3, none⟩ = some (.int .i64 yo) := Lib.cell_of_heap (w := W10.drew) v10 3
      have z4 : W10.drew.cell? ⟨w.heap.size + 1, 4, none⟩ = some (.int .i64 ya) := Lib.cell_of_heap (w := W10.drew) v10 4
      have hw10 := lt_of_heap v10
      have v11 := (c11.block _ (show w.heap.size + 1 < W10.drew.heap.size from hw10)).trans v10
      have b11 := c11.block b (show b < W10.drew.heap.size from by show b < W10.heap.size; omega)
      have k6' : (W10.drew.alloc (.cells #[.int .i64 yk, .int .i64 yn, .string yt, .int .i64 yo, .int .i64 ya, .slice none 0 0, .slice none 0 0] 29)).cell? ⟨b, o + 6, none⟩ = some (.slice ta tn tc) := (World.cell?_of_block b11).trans k6
      have z0' : (W10.drew.alloc (.cells #[.int .i64 yk, .int .i64 yn, .string yt, .int .i64 yo, .int .i64 ya, .slice none 0 0, .slice none 0 0] 29)).cell? ⟨w.heap.size + 1, 0, none⟩ = some (.int .i64 yk) := Lib.cell_of_heap v11 0
      have z1' : (W10.drew.alloc (.cells #[.int .i64 yk, .int .i64 yn, .string yt, .int .i64 yo, .int .i64 ya, .slice none 0 0, .slice none 0 0] 29)).cell? ⟨w.heap.size + 1, 1, none⟩ = some (.int .i64 yn) := Lib.cell_of_heap v11 1
      have z2' : (W10.drew.alloc (.cells #[.int .i64 yk, .int .i64 yn, .string yt, .int .i64 yo, .int .i64 ya, .slice none 0 0, .slice none 0 0] 29)).cell? ⟨w.heap.size + 1, 2, none⟩ = some (.string yt) := Lib.cell_of_heap v11 2
      have z3' : (W10.drew.alloc (.cells #[.int .i64 yk, .int .i64 yn, .string yt, .int .i64 yo, .int .i64 ya, .slice none 0 0, .slice none 0 0] 29)).cell? ⟨w.heap.size + 1, 3, none⟩ = some (.int .i64 yo) := Lib.cell_of_heap v11 3
      have z4' : (W10.drew.alloc (.cells #[.int .i64 yk, .int .i64 yn, .string yt, .int .i64 yo, .int .i64 ya, .slice none 0 0, .slice none 0 0] 29)).cell? ⟨w.heap.size + 1, 4, none⟩ = some (.int .i64 ya) := Lib.cell_of_heap v11 4
      have etn : us.length = tn := by rw [HN.out.2]; exact hlen
      rw [etn] at EI
      have hdr : W10.drew.heap.size = W10.heap.size := rfl
      go_upto_region 8 with fail
      refine wp_region_noPanic ?_
      refine early_begin (S := fun W => W.cell? ⟨b, o + 6, none⟩ = some (.slice ta tn tc) ∧ W.cell? ⟨w.heap.size + 1, 0, none⟩ = some (.int .i64 yk) ∧ W.cell? ⟨w.heap.size + 1, 1, none⟩ = some (.int .i64 yn) ∧ W.cell? ⟨w.heap.size + 1, 2, none⟩ = some (.string yt) ∧ W.cell? ⟨w.heap.size + 1, 3, none⟩ = some (.int .i64 yo) ∧ W.cell? ⟨w.heap.size + 1, 4, none⟩ = some (.int .i64 ya)) (late := fun k => decide (10 ≤ k)) (by kernel_rfl) ?_
      refine early_take (i := 0) (oi := { dst := some 44, op := Op.move (Operand.tmp 0), type := 52, pos := "patch.go:71", after := #[], guard := none }) (v := ?_) rfl (by kernel_rfl) (by kernel_rfl) (by kernel_rfl) (by decide) (by kernel_rfl) (fun _ _ _ h => h) (Or.inl ⟨by rfl, ?_⟩) ⟨k6, z0, z1, z2, z3, z4⟩ ?_
      rotate_left
      · intro wz hSw
        try dsimp only at hSw
        go_simp
        try with_reducible rfl
      try simp only [Act.put, List.setIfInBounds_toArray, List.set_cons_zero, List.set_cons_succ]
      refine early_take (i := 1) (oi := { dst := some 45, op := Op.move (Operand.tmp 0), type := 52, pos := "patch.go:71", after := #[], guard := none }) (v := ?_) rfl (by kernel_rfl) (by kernel_rfl) (by kernel_rfl) (by decide) (by kernel_rfl) (fun _ _ _ h => h) (Or.inl ⟨by rfl, ?_⟩) ⟨k6, z0, z1, z2, z3, z4⟩ ?_
      rotate_left
      · intro wz hSw
        try dsimp only at hSw
        go_simp
        try with_reducible rfl
      try simp only [Act.put, List.setIfInBounds_toArray, List.set_cons_zero, List.set_cons_succ]
      refine early_take (i := 2) (oi := { dst := some 46, op := Op.nilCheck (Operand.tmp 45), type := 0, pos := "patch.go:71", after := #[{ on := 1, ground := Ground.data }], guard := none }) (v := ?_) rfl (by kernel_rfl) (by kernel_rfl) (by kernel_rfl) (by decide) (by kernel_rfl) (fun _ _ _ h => h) (Or.inl ⟨by rfl, ?_⟩) ⟨k6, z0, z1, z2, z3, z4⟩ ?_
      rotate_left
      · intro wz hSw
        try dsimp only at hSw
        go_simp
        try with_reducible rfl
      try simp only [Act.put, List.setIfInBounds_toArray, List.set_cons_zero, List.set_cons_succ]
      refine early_take (i := 3) (oi := { dst := some 47, op := Op.fieldAddr 29 (Operand.tmp 46) 2, type := 0, pos := "patch.go:71", after := #[{ on := 2, ground := Ground.data }], guard := none }) (v := ?_) rfl (by kernel_rfl) (by kernel_rfl) (by kernel_rfl) (by decide) (by kernel_rfl) (fun _ _ _ h => h) (Or.inl ⟨by rfl, ?_⟩) ⟨k6, z0, z1, z2, z3, z4⟩ ?_
      rotate_left
      · intro wz hSw
        try dsimp only at hSw
        go_simp
        try with_reducible rfl
      try simp only [Act.put, List.setIfInBounds_toArray, List.set_cons_zero, List.set_cons_succ]
      refine early_take (i := 4) (oi := { dst := some 48, op := Op.load 27 (Operand.tmp 47), type := 27, pos := "patch.go:71", after := #[{ on := 3, ground := Ground.data }], guard := none }) (v := ?_) rfl (by kernel_rfl) (by kernel_rfl) (by kernel_rfl) (by decide) (by kernel_rfl) (fun _ _ _ h => h) (Or.inl ⟨by rfl, ?_⟩) ⟨k6, z0, z1, z2, z3, z4⟩ ?_
      rotate_left
      · intro wz hSw
        try dsimp only at hSw
        go_simp
        try with_reducible rfl
      try simp only [Act.put, List.setIfInBounds_toArray, List.set_cons_zero, List.set_cons_succ]
      refine early_take (i := 5) (oi := { dst := some 49, op := Op.move (Operand.tmp 7), type := 3, pos := "patch.go:71", after := #[], guard := none }) (v := ?_) rfl (by kernel_rfl) (by kernel_rfl) (by kernel_rfl) (by decide) (by kernel_rfl) (fun _ _ _ h => h) (Or.inl ⟨by rfl, ?_⟩) ⟨k6, z0, z1, z2, z3, z4⟩ ?_
      rotate_left
      · intro wz hSw
        try dsimp only at hSw
        go_simp
        try with_reducible rfl
      try simp only [Act.put, List.setIfInBounds_toArray, List.set_cons_zero, List.set_cons_succ]
      refine early_take (i := 6) (oi := { dst := some 50, op := Op.load 25 (Operand.tmp 5), type := 25, pos := "patch.go:71", after := #[], guard := none }) (v := ?_) rfl (by kernel_rfl) (by kernel_rfl) (by kernel_rfl) (by decide) (by kernel_rfl) (fun _ _ _ h => h) (Or.inl ⟨by rfl, ?_⟩) ⟨k6, z0, z1, z2, z3, z4⟩ ?_
      rotate_left
      · intro wz hSw
        try dsimp only at hSw
        go_simp
        try with_reducible rfl
      try simp only [Act.put, List.setIfInBounds_toArray, List.set_cons_zero, List.set_cons_succ]
      refine early_take (i := 7) (oi := { dst := some 51, op := Op.build 29 #[(0, Operand.tmp 50)], type := 29, pos := "patch.go:71", after := #[{ on := 6, ground := Ground.data }], guard := none }) (v := ?_) rfl (by kernel_rfl) (by kernel_rfl) (by kernel_rfl) (by decide) (by kernel_rfl) (fun _ _ _ h => h) (Or.inl ⟨by rfl, ?_⟩) ⟨k6, z0, z1, z2, z3, z4⟩ ?_
      rotate_left
      · intro wz hSw
        try dsimp only at hSw
        go_simp
        try with_reducible rfl
      try simp only [Act.put, List.setIfInBounds_toArray, List.set_cons_zero, List.set_cons_succ]
      refine early_step (i := 8) (o := { dst := some 52, op := Op.buildSlice 27 1 #[(0, Operand.tmp 51)], type := 27, pos := "patch.go:71", after := #[{ on := 7, ground := Ground.data }], guard := none }) (by kernel_rfl) rfl (fun K hK => ?_)
      go_simp
      refine hK.out _ _ (fun _ => ⟨k6', z0', z1', z2', z3', z4'⟩) ?_
      clear hK K
      try simp only [Act.put, List.setIfInBounds_toArray, List.set_cons_zero, List.set_cons_succ]
      refine early_step (i := 9) (o := { dst := some 53, op := Op.call { callee := Callee.value (Operand.func 43), args := #[Operand.tmp 48, Operand.tmp 49, Operand.tmp 52], argTypes := #[27, 3, 27] }, type := 27, pos := "patch.go:71", after := #[{ on := 4, ground := Ground.data }, { on := 5, ground := Ground.data }, { on := 8, ground := Ground.data }], guard := none }) (by kernel_rfl) rfl (fun K hK => ?_)
      go_simp
      go_at_call 43
      refine Calls.mono EI ?_
      rintro e w9 ⟨⟨vk2, rfl, hown2, hvb2⟩, hgr⟩
      obtain ⟨va2, vc2, hvk2⟩ := slice_of hown2
      obtain ⟨tn1, htn1⟩ : ∃ tn1, tn + 1 = tn1 := ⟨_, rfl⟩
      rw [htn1] at hvk2
      subst hvk2
      go_wp2_with fail
      refine hK.out _ _ (fun _ => ⟨(World.cell?_of_block (hgr.block b (by omega) (fun e => by have := hub b e.symm; omega))).trans k6', (World.cell?_of_block (hgr.block (w.heap.size + 1) (by omega) (fun e => by have := hub _ e.symm; omega))).trans z0', (World.cell?_of_block (hgr.block (w.heap.size + 1) (by omega) (fun e => by have := hub _ e.symm; omega))).trans z1', (World.cell?_of_block (hgr.block (w.heap.size + 1) (by omega) (fun e => by have := hub _ e.symm; omega))).trans z2', (World.cell?_of_block (hgr.block (w.heap.size + 1) (by omega) (fun e => by have := hub _ e.symm; omega))).trans z3', (World.cell?_of_block (hgr.block (w.heap.size + 1) (by omega) (fun e => by have := hub _ e.symm; omega))).trans z4'⟩) ?_
      clear hK K
      try simp only [Act.put, List.setIfInBounds_toArray, List.set_cons_zero, List.set_cons_succ]
      have q6 : w9.cell? ⟨b, o + 6, none⟩ = some (.slice ta tn tc) := (World.cell?_of_block (hgr.block b (by omega) (fun e => by have := hub b e.symm; omega))).trans k6'
      have qf : ∀ d, w9.frozen? ⟨b, d, none⟩ = false := fun d => by
        have h1 : w9.heap[b]? = W10.heap[b]? := (hgr.block b (by omega) (fun e => by have := hub b e.symm; omega)).trans b11
        have h2 := fz10 d
        unfold World.frozen? at h2 ⊢
        rw [h1]
        exact h2
      refine early_step (i := 10) (o := { dst := some 54, op := Op.nilCheck (Operand.tmp 44), type := 0, pos := "patch.go:71", after := #[{ on := 0, ground := Ground.data }, { on := 0, ground := Ground.phase }, { on := 1, ground := Ground.phase }, { on := 2, ground := Ground.phase }, { on := 3, ground := Ground.phase }, { on := 4, ground := Ground.phase }, { on := 5, ground := Ground.phase }, { on := 6, ground := Ground.phase }, { on := 7, ground := Ground.phase }, { on := 8, ground := Ground.phase }, { on := 9, ground := Ground.phase }], guard := none }) (by kernel_rfl) rfl (fun K hK => ?_)
      go_simp
      refine hK.out _ _ (fun h => absurd h (by decide)) ?_
      clear hK K
      try simp only [Act.put, List.setIfInBounds_toArray, List.set_cons_zero, List.set_cons_succ]
      refine early_step (i := 11) (o := { dst := some 55, op := Op.fieldAddr 29 (Operand.tmp 54) 2, type := 0, pos := "patch.go:71", after := #[{ on := 10, ground := Ground.data }, { on := 0, ground := Ground.phase }, { on := 1, ground := Ground.phase }, { on := 2, ground := Ground.phase }, { on := 3, ground := Ground.phase }, { on := 4, ground := Ground.phase }, { on := 5, ground := Ground.phase }, { on := 6, ground := Ground.phase }, { on := 7, ground := Ground.phase }, { on := 8, ground := Ground.phase }, { on := 9, ground := Ground.phase }], guard := none }) (by kernel_rfl) rfl (fun K hK => ?_)
      go_simp
      refine hK.out _ _ (fun h => absurd h (by decide)) ?_
      clear hK K
      try simp only [Act.put, List.setIfInBounds_toArray, List.set_cons_zero, List.set_cons_succ]
      refine early_step (i := 12) (o := { dst := none, op := Op.store 27 (Operand.tmp 55) (Operand.tmp 53), type := 0, pos := "patch.go:71", after := #[{ on := 11, ground := Ground.data }, { on := 9, ground := Ground.data }, { on := 9, ground := Ground.chain }, { on := 0, ground := Ground.phase }, { on := 1, ground := Ground.phase }, { on := 2, ground := Ground.phase }, { on := 3, ground := Ground.phase }, { on := 4, ground := Ground.phase }, { on := 5, ground := Ground.phase }, { on := 6, ground := Ground.phase }, { on := 7, ground := Ground.phase }, { on := 8, ground := Ground.phase }, { on := 9, ground := Ground.phase }], guard := none }) (by kernel_rfl) rfl (fun K hK => ?_)
      go_simp
      refine hK.out _ _ (fun h => absurd h (by decide)) ?_
      clear hK K
      try simp only [Act.put, List.setIfInBounds_toArray, List.set_cons_zero, List.set_cons_succ]
      refine early_done (by kernel_rfl) ?_ _
      refine NoPanic.normal ?_
      have HEND : Hid (post (.returned (.bool true)) (w9.setCell ⟨b, o + 6, none⟩ (.slice va2 tn1 vc2))) := by
        show post _ _
        rw [HPO.out]
        have bl11 : ∀ k, k < w.heap.size → k ∉ blk (.slice ta us.length tc) → w9.heap[k]? = W10.heap[k]? := fun k hk hn => (hgr.block k (by omega) (fun e => hn (hub k e.symm).2)).trans (c11.block k (by rw [hdr]; omega))
        have blE : ∀ k, k < w.heap.size → k ∉ blk (.slice ka t.ks.length kc) → k ∉ blk (.slice ta us.length tc) → k ≠ b → (w9.setCell ⟨b, o + 6, none⟩ (.slice va2 tn1 vc2)).heap[k]? = w.heap[k]? := fun k hk hn hn2 hne => (Below.heap_setCell _ _ _ _ (by simpa using hne)).trans ((bl11 k hk hn2).trans (bl10 k hk hn hne))
        have ceE : ∀ c, c ≠ o + 6 → (w9.setCell ⟨b, o + 6, none⟩ (.slice va2 tn1 vc2)).cell? ⟨b, c, none⟩ = W10.cell? ⟨b, c, none⟩ := fun c hc => by
          rw [World.cell?_setCell_other _ _ _ _ (fun e => hc (by injection e with _ e2 _; exact e2.symm))]
          exact World.cell?_of_block (w := W10) (bl11 b hbw hbua)
        have hvtb : ∀ x ∈ blk (.slice va2 tn1 vc2), x ∈ blk (.slice ta us.length tc) ∨ w.heap.size ≤ x := by
          intro x hx
          rcases hvb2 with e | e
          · rw [blk_mem, e] at hx
            exact Or.inl (hub x hx).2
          · rw [blk_mem, e] at hx
            have := Option.some.inj hx
            exact Or.inr (by omega)
        have hbvt : b ∉ blk (.slice va2 tn1 vc2) := by
          intro hx
          rcases hvtb b hx with h | h
          · exact hbua h
          · omega
        have hk13 : (w9.setCell ⟨b, o + 6, none⟩ (.slice va2 tn1 vc2)).ownsRow lo 9 1 (.slice va kn1 vc) (t.ks.length + 1) (scells (putL t.ks j sb)) := by
          have h7 := own_set_ne (i := o + 6) (u := .slice va2 tn1 vc2) (own_grown' (own_below (w := W10.drew) o10 c11 (Nat.le_refl _)) hgr (by have := own_below (w := W10.drew) u10 c11 (Nat.le_refl _); rw [etn] at this; exact this) (by decide)) hbvk
          rw [HN.out.1] at h7
          exact h7
        have ht13 : (w9.setCell ⟨b, o + 6, none⟩ (.slice va2 tn1 vc2)).ownsRow lo 29 7 (.slice va2 tn1 vc2) (us.length + 1) (tcs (putL us j (leafV ⟨yk, yn, yt, yo, ya⟩))) := by
          rw [etn]
          exact own_set_ne hown2 hbvt
        have hndS := hnd
        rw [hSt] at hndS
        have hd1 := List.nodup_append.1 hndS
        have hd2 := List.nodup_append.1 hd1.2.1
        have hg13 : IsGS (w9.setCell ⟨b, o + 6, none⟩ (.slice va2 tn1 vc2)) lo t.kids us S1 := hG.keep (fun k hk => blE k (hlow k (by rw [hSt]; simp [hk])) (fun h => hd1.2.2 k h k (List.mem_append_right _ hk) rfl) (fun h => hd2.2.2 k h k hk rfl) (fun e => hbS (by rw [hSt, ← e]; simp [hk])))
        have hap := blk_apart hk13 ht13
        have hpb := place_blocks (n := w.heap.size) (S1' := S1) hndS (fun x hx => hx) hd2.2.1 (fun x hx => hlow x (by rw [hSt]; exact hx)) hvkb hvtb hap
        have hjl : j ≤ us.length := by have := HFO.out.1; omega
        have hnew : IsTS (w9.setCell ⟨b, o + 6, none⟩ (.slice va2 tn1 vc2)) lo (blk (.slice va kn1 vc) ++ (blk (.slice va2 tn1 vc2) ++ S1)) (t.x, .slice va kn1 vc, .slice va2 tn1 vc2) (.node t.x (putL t.ks j sb) (putL t.ts j (leafT ⟨yk, yn, yt, yo, ya⟩))) := by
          refine ⟨_, _, putL us j (leafV ⟨yk, yn, yt, yo, ya⟩), S1, rfl, rfl, ⟨?_, ?_⟩, ⟨?_, ?_⟩, hg13.put _ j hjl⟩
          · show World.ownsRow _ lo 9 1 _ (putL t.ks j sb).length (scells (putL t.ks j sb))
            rw [putL_len]; exact hk13
          · show (putL t.ks j sb).length ≤ 1000
            rw [putL_len]; omega
          · rw [putL_len]; exact ht13
          · rw [putL_len]; omega
        refine Or.inl ⟨_, (t.x, .slice va kn1 vc, .slice va2 tn1 vc2), _, Or.inl ⟨rfl, Or.inr ⟨HQ.out, HKY.out, j, HFO.out, rfl⟩⟩, rfl, ⟨hgr.os.trans (c11.os.trans os10.1), hgr.tape.trans (c11.tape.trans os10.2.1), hgr.output.trans (c11.output.trans os10.2.2), ?_, fun k k1 k2 k3 => blE k k1 (fun h => k2 (by rw [hSt]; simp [h])) (fun h => k2 (by rw [hSt]; simp [h])) k3, fun c hc => (ceE c (by omega)).trans (ce10 c (by omega)), fun ty cur hc => ?_⟩, ?_, hnew, hpb.1, fun x hx => by rw [hSt]; exact hpb.2 x hx⟩
        · have := hgr.size
          simp
          omega
        · obtain ⟨cur1, f1, f2⟩ := sh10 ty cur hc
          obtain ⟨cur2, f3, f4⟩ := set_shape (i := o + 6) (v := .slice va2 tn1 vc2) ((bl11 b hbw hbua).trans f1)
          exact ⟨cur2, f3, f4.trans f2⟩
        · obtain ⟨a0, a1, a2, a3, a4, a5, a6, a7⟩ := hAA
          refine ⟨?_, ?_, ?_, ?_, ?_, ?_, ?_, ?_⟩
          · have := hgr.size
            simp
            omega
          · exact (ceE _ (by omega)).trans ((ce10 _ (by omega)).trans a1)
          · exact (ceE _ (by omega)).trans ((ce10 _ (by omega)).trans a2)
          · exact (ceE _ (by omega)).trans ((ce10 _ (by omega)).trans a3)
          · exact (ceE _ (by omega)).trans ((ce10 _ (by omega)).trans a4)
          · exact (ceE _ (by omega)).trans ((ce10 _ (by omega)).trans a5)
          · exact (ceE _ (by omega)).trans c510
          · exact World.cell?_setCell_same _ _ _ q6
      clear EI z0 z1 z2 z3 z4 z0' z1' z2' z3' z4' k6 k6' q6 qf hgr hown2
      go_wp2
      exact HEND.out
end Go.Proofs.YtegbjkjeoegfbaaDoor
