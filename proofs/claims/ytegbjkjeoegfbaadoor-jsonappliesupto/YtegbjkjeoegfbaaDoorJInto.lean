/-
  What is proved: the function insert of package json, called with the place of a tree whose rows lie in blocks apart, a step and a value, puts the value between its kids, or says that there is no such place.
  Conditions: the tree is not too great; its place lies in none of its blocks.
-/
import Derived.Test.YtegbjkjeoegfbaaDoorJMid
import Derived.Test.YtegbjkjeoegfbaaDoorJHeldE
namespace Go.Proofs.YtegbjkjeoegfbaaDoor
open Go.RowKit Go.Sort

set_option maxRecDepth 100000 in
set_option maxHeartbeats 8000000 in
theorem insertS_any {b o lo : Nat} {St : List Nat} {u : TV} {t : JT} (s : Stp) (y : V) (w : World) (hA : TAt w b o u) (hT : IsTS w lo St u t) (hnd : St.Nodup) (hb : b ∉ St) (hlo : lo ≤ w.heap.size) (hfew : t.ts.length < 1000) (hfz : ∀ d, w.frozen? ⟨b, d, none⟩ = false) :
    Calls Tryd.prog 35 #[.pointer (some ⟨b, o, none⟩), stpV s, y.val] w fun e w' => PlaceP 3 w b o lo St t s y e w' := by
  have HND : Hid (St.Nodup ∧ b ∉ St ∧ (∀ k ∈ St, k < w.heap.size) ∧ lo ≤ w.heap.size ∧ t.ts.length < 1000) := ⟨hnd, hb, fun k hk => (hT.low k hk).2, hlo, hfew⟩
  have HFZ : Hid (∀ d, w.frozen? ⟨b, d, none⟩ = false) := hfz
  obtain ⟨uk, ua, us, S1, rfl, hSt, hK, hU, hG⟩ := hT
  have hlen : us.length = t.ts.length := hG.to.2
  obtain ⟨ka, kc, rfl⟩ := slice_of hK.own
  obtain ⟨ta, tc, rfl⟩ := slice_of hU.own
  rw [hlen] at hA
  have EK := fun (W : World) => isIndexOf_any t.x ka ta t.ks.length kc t.ts.length tc s W
  have HM : Hid (KeysS w lo (.slice ka t.ks.length kc) t.ks ∧ KidsS w lo (.slice ta us.length tc) us ∧ IsGS w lo t.kids us S1 ∧ us.length = t.ts.length ∧ TAt w b o (t.x, .slice ka t.ks.length kc, .slice ta t.ts.length tc)) := ⟨hK, hU, hG, hlen, hA⟩
  have HSt : Hid (St = blk (.slice ka t.ks.length kc) ++ (blk (.slice ta us.length tc) ++ S1)) := hSt
  clear hK hU hG hb hnd hSt hfz hlo hfew
  obtain ⟨ky, hky⟩ : ∃ ky, atStep t.x t.ts.length s = ky := ⟨_, rfl⟩
  rw [hky] at EK
  have HKY : Hid (atStep t.x t.ts.length s = ky) := hky
  clear hky
  obtain ⟨post, hpost⟩ : ∃ post, post = PlaceP 3 w b o lo St t s y := ⟨_, rfl⟩
  rw [← hpost]
  have HPO : Hid (post = PlaceP 3 w b o lo St t s y) := hpost
  clear hpost
  obtain ⟨yk, yn, yt, yo, ya⟩ := y
  obtain ⟨sb, si⟩ := s
  obtain ⟨kn, hkn⟩ : ∃ kn, kn = t.ks.length := ⟨_, rfl⟩
  obtain ⟨tn, htn⟩ : ∃ tn, tn = t.ts.length := ⟨_, rfl⟩
  rw [← hkn, ← htn] at EK
  have HN : Hid (kn = t.ks.length ∧ tn = t.ts.length) := ⟨hkn, htn⟩
  have hA0 := hA
  rw [← hkn, ← htn] at hA0
  obtain ⟨xx, HXX⟩ : ∃ xx, Hid (t.x = xx) := ⟨_, rfl⟩
  rw [HXX.out] at EK hA0
  obtain ⟨xk, xn, xt, xo, xa⟩ := xx
  obtain ⟨s0, v0, b0⟩ := two_boxes w (.cells #[.string sb, .int .i64 si] 45) (.cells #[.int .i64 yk, .int .i64 yn, .string yt, .int .i64 yo, .int .i64 ya] 25)
  have HA : Hid (_ ∧ _ ∧ _) := ⟨s0, v0, b0⟩
  obtain ⟨-, k0, k1, k2, k3, k4, k5, k6⟩ := hA0.below b0
  have y0 : ((w.alloc (.cells #[.string sb, .int .i64 si] 45)).alloc (.cells #[.int .i64 yk, .int .i64 yn, .string yt, .int .i64 yo, .int .i64 ya] 25)).cell? ⟨w.heap.size, 0, none⟩ = some (.string sb) := Lib.cell_of_heap s0 0
  have y1 : ((w.alloc (.cells #[.string sb, .int .i64 si] 45)).alloc (.cells #[.int .i64 yk, .int .i64 yn, .string yt, .int .i64 yo, .int .i64 ya] 25)).cell? ⟨w.heap.size, 1, none⟩ = some (.int .i64 si) := Lib.cell_of_heap s0 1
  dsimp only [tval, stpV] at EK k0 k1 k2 k3 k4 k5 k6
  clear hkn htn hA hA0 s0 v0 b0 hlen
  unfold stpV V.val
  dsimp only
  go_enter Tryd.func35, Tryd.ntmps35
  go_upto_region 1 with fail
  obtain ⟨s0, v0, b0⟩ := HA.out
  clear HA
  generalize (w.alloc (.cells #[.string sb, .int .i64 si] 45)).alloc (.cells #[.int .i64 yk, .int .i64 yn, .string yt, .int .i64 yo, .int .i64 ya] 25) = W0 at *
  refine wp_region_noPanic ?_
  refine wp_region_held_drew (S := fun W => W.cell? ⟨b, o, none⟩ = some (.int .i64 xk) ∧ W.cell? ⟨b, o + 1, none⟩ = some (.int .i64 xn) ∧ W.cell? ⟨b, o + 2, none⟩ = some (.string xt) ∧ W.cell? ⟨b, o + 3, none⟩ = some (.int .i64 xo) ∧ W.cell? ⟨b, o + 4, none⟩ = some (.int .i64 xa) ∧ W.cell? ⟨b, o + 5, none⟩ = some (.slice ka kn kc) ∧ W.cell? ⟨b, o + 6, none⟩ = some (.slice ta tn tc) ∧ W.cell? ⟨w.heap.size, 0, none⟩ = some (.string sb) ∧ W.cell? ⟨w.heap.size, 1, none⟩ = some (.int .i64 si)) (by kernel_rfl) (⟨k0, k1, k2, k3, k4, k5, k6, y0, y1⟩) (fun hHeld => ?_)
  refine wpAnyH_take (i := 0) (oi := { dst := some 7, op := Op.move (Operand.tmp 0), type := 52, pos := "patch.go:88", after := #[], guard := none }) (v := ?_) rfl (by kernel_rfl) (by kernel_rfl) (by kernel_rfl) (fun _ _ _ h => h) (Or.inl ⟨by rfl, ?_⟩) (by assumption) ?_
  rotate_left
  · intro wz hSw
    try dsimp only at hSw
    go_simp
    try with_reducible rfl
  try simp only [Act.put, List.setIfInBounds_toArray, List.set_cons_zero, List.set_cons_succ]
  refine wpAnyH_take (i := 1) (oi := { dst := some 8, op := Op.nilCheck (Operand.tmp 7), type := 0, pos := "patch.go:88", after := #[{ on := 0, ground := Ground.data }], guard := none }) (v := ?_) rfl (by kernel_rfl) (by kernel_rfl) (by kernel_rfl) (fun _ _ _ h => h) (Or.inl ⟨by rfl, ?_⟩) (by assumption) ?_
  rotate_left
  · intro wz hSw
    try dsimp only at hSw
    go_simp
    try with_reducible rfl
  try simp only [Act.put, List.setIfInBounds_toArray, List.set_cons_zero, List.set_cons_succ]
  refine wpAnyH_take (i := 2) (oi := { dst := some 9, op := Op.load 29 (Operand.tmp 8), type := 29, pos := "patch.go:88", after := #[{ on := 1, ground := Ground.data }], guard := none }) (v := ?_) rfl (by kernel_rfl) (by kernel_rfl) (by kernel_rfl) (fun _ _ _ h => h) (Or.inl ⟨by rfl, ?_⟩) (by assumption) ?_
  rotate_left
  · intro wz hSw
    try dsimp only at hSw
    go_simp
    try with_reducible rfl
  try simp only [Act.put, List.setIfInBounds_toArray, List.set_cons_zero, List.set_cons_succ]
  refine wpAnyH_take (i := 3) (oi := { dst := some 10, op := Op.load 45 (Operand.tmp 4), type := 45, pos := "patch.go:88", after := #[], guard := none }) (v := ?_) rfl (by kernel_rfl) (by kernel_rfl) (by kernel_rfl) (fun _ _ _ h => h) (Or.inl ⟨by rfl, ?_⟩) (by assumption) ?_
  rotate_left
  · intro wz hSw
    try dsimp only at hSw
    go_simp
    try with_reducible rfl
  try simp only [Act.put, List.setIfInBounds_toArray, List.set_cons_zero, List.set_cons_succ]
  refine wpAnyH_ready (rs := [4]) (by kernel_rfl) (by simp) (AllReadyH.cons (o := { dst := some 11, op := Op.call { callee := Callee.value (Operand.func 46), args := #[Operand.tmp 9, Operand.tmp 10], argTypes := #[29, 45] }, type := 4, pos := "patch.go:88", after := #[{ on := 2, ground := Ground.data }, { on := 3, ground := Ground.data }], guard := none }) rfl (fun K hK => ?_) AllReadyH.nil)
  go_simp
  go_at_call 46
  refine Calls.mono (EK _) ?_
  rintro e w5 ⟨rfl, b5⟩
  go_wp2_with fail
  refine hK.out _ _ (keep9 (by assumption) b5) (fun hHeld4 => ?_)
  clear hK K
  try simp only [Act.put, List.setIfInBounds_toArray, List.set_cons_zero, List.set_cons_succ]
  refine wpAnyH_take (i := 5) (oi := { dst := some 12, op := Op.unOp UnOp.not 4 (Operand.tmp 11), type := 4, pos := "patch.go:88", after := #[{ on := 4, ground := Ground.data }], guard := none }) (v := ?_) rfl (by kernel_rfl) (by kernel_rfl) (by kernel_rfl) (fun _ _ _ h => h) (Or.inl ⟨by rfl, ?_⟩) (by assumption) ?_
  rotate_left
  · intro wz hSw
    try dsimp only at hSw
    go_simp
    try with_reducible rfl
  try simp only [Act.put, List.setIfInBounds_toArray, List.set_cons_zero, List.set_cons_succ]
  refine wpAnyH_done (by kernel_rfl) ?_ _
  refine NoPanic.normal ?_
  have bW5 : Below w.heap.size w w5 := b0.drew.trans (b5.mono b0.drew.size)
  have s5 := (b5.block _ (lt_of_heap (w := W0.drew) s0)).trans s0
  have v5 := (b5.block _ (lt_of_heap (w := W0.drew) v0)).trans v0
  have HW5 : Hid (Below w.heap.size w w5 ∧ w5.heap[w.heap.size]? = some (.cells #[.string sb, .int .i64 si] 45) ∧ w5.heap[w.heap.size + 1]? = some (.cells #[.int .i64 yk, .int .i64 yn, .string yt, .int .i64 yo, .int .i64 ya] 25)) := ⟨bW5, s5, v5⟩
  clear hHeld hHeld4 k0 k1 k2 k3 k4 k5 k6 y0 y1 EK b5 s5 v5 bW5 s0 v0 b0
  cases ky with
  | false =>
    have HEND : Hid (post (.returned (.bool false)) w5) := by
      show post _ _
      rw [HPO.out]
      refine Or.inr ⟨fun t' h => ?_, rfl, HW5.out.1⟩
      rcases h with ⟨h, _⟩ | ⟨h, _⟩ | ⟨_, h, _⟩
      · exact absurd h (by decide)
      · exact absurd h (by decide)
      · rw [HKY.out] at h; cases h
    go_wp2
    exact HEND.out
  | true =>
    have hat := atStep_parts HKY.out
    dsimp only at hat
    obtain ⟨j, rfl⟩ : ∃ j : Nat, si = j := ⟨si.toNat, by omega⟩
    have hjl : j ≤ t.ts.length := by omega
    have HJ : Hid (j ≤ t.ts.length) := hjl
    clear hat hjl
    obtain ⟨hK, hU, hG, hlen, hAA⟩ := HM.out
    obtain ⟨hnd, hbS, hlow, hlo, hft⟩ := HND.out
    obtain ⟨bW5, s5, v5⟩ := HW5.out
    have hSt := HSt.out
    have hbw : b < w.heap.size := hAA.1
    have hub : ∀ k, (Value.slice ta tn tc).ownBlock = some k → (k ≠ b ∧ k < w.heap.size) ∧ k ∈ blk (.slice ta us.length tc) := by
      intro k hk
      have hk2 : k ∈ blk (.slice ta us.length tc) := by rw [HN.out.2, ← hlen] at hk; exact blk_mem.2 hk
      have hk3 : k ∈ St := by rw [hSt]; exact List.mem_append_right _ (List.mem_append_left _ hk2)
      exact ⟨⟨fun e => hbS (e ▸ hk3), hlow k hk3⟩, hk2⟩
    have c11 := (Below.refl w5.drew.heap.size w5.drew).alloc (Nat.le_refl _) (.cells #[.int .i64 yk, .int .i64 yn, .string yt, .int .i64 yo, .int .i64 ya, .slice none 0 0, .slice none 0 0] 29)
    have n11 : (w5.drew.alloc (.cells #[.int .i64 yk, .int .i64 yn, .string yt, .int .i64 yo, .int .i64 ya, .slice none 0 0, .slice none 0 0] 29)).heap[w5.heap.size]? = some (.cells #[.int .i64 yk, .int .i64 yn, .string yt, .int .i64 yo, .int .i64 ya, .slice none 0 0, .slice none 0 0] 29) := (MapKept.heap_alloc w5.drew _).1
    have hz11 := c11.size
    have hz5 := bW5.size
    have hdr : w5.drew.heap.size = w5.heap.size := rfl
    have u5 := own_below hU.own bW5.drew (Nat.le_refl _)
    have EI := insT_any lo (.slice ta us.length tc) us.length j w5.heap.size (tcs us) (tcells (leafV ⟨yk, yn, yt, yo, ya⟩)) (w5.drew.alloc (.cells #[.int .i64 yk, .int .i64 yn, .string yt, .int .i64 yo, .int .i64 ya, .slice none 0 0, .slice none 0 0] 29)) (own_below (w := w5.drew) u5 c11 (Nat.le_refl _)) (by have := HJ.out; omega) hU.few rfl n11 (fun e => by
        have := hub w5.heap.size (by rw [HN.out.2, ← hlen]; exact e)
        omega) (one_tcs hG) (fun u hu => by
        simp [tcells, leafV] at hu
        rcases hu with rfl | rfl | rfl | rfl | rfl | rfl <;> rfl) (by omega)
    rw [tcs_put us j (by have := HJ.out; omega)] at EI
    have etn : us.length = tn := by rw [HN.out.2]; exact hlen
    rw [etn] at EI
    have b11 : Below w.heap.size w (w5.drew.alloc (.cells #[.int .i64 yk, .int .i64 yn, .string yt, .int .i64 yo, .int .i64 ya, .slice none 0 0, .slice none 0 0] 29)) := bW5.drew.trans (c11.mono bW5.drew.size)
    have k6 : w5.drew.cell? ⟨b, o + 6, none⟩ = some (.slice ta tn tc) := by
      have := (hAA.below bW5.drew).2.2.2.2.2.2.2
      rw [HN.out.2]
      exact this
    have k6' : (w5.drew.alloc (.cells #[.int .i64 yk, .int .i64 yn, .string yt, .int .i64 yo, .int .i64 ya, .slice none 0 0, .slice none 0 0] 29)).cell? ⟨b, o + 6, none⟩ = some (.slice ta tn tc) := by
      have := (hAA.below b11).2.2.2.2.2.2.2
      rw [HN.out.2]
      exact this
    have s11 := (c11.block _ (lt_of_heap (w := w5.drew) s5)).trans s5
    have v11 := (c11.block _ (lt_of_heap (w := w5.drew) v5)).trans v5
    have hv5 := lt_of_heap v5
    have y1 : w5.drew.cell? ⟨w.heap.size, 1, none⟩ = some (.int .i64 (j : Int)) := Lib.cell_of_heap (w := w5.drew) s5 1
    have y1' : (w5.drew.alloc (.cells #[.int .i64 yk, .int .i64 yn, .string yt, .int .i64 yo, .int .i64 ya, .slice none 0 0, .slice none 0 0] 29)).cell? ⟨w.heap.size, 1, none⟩ = some (.int .i64 (j : Int)) := Lib.cell_of_heap s11 1
    have z0 : w5.drew.cell? ⟨w.heap.size + 1, 0, none⟩ = some (.int .i64 yk) := Lib.cell_of_heap (w := w5.drew) v5 0
    have z0' : (w5.drew.alloc (.cells #[.int .i64 yk, .int .i64 yn, .string yt, .int .i64 yo, .int .i64 ya, .slice none 0 0, .slice none 0 0] 29)).cell? ⟨w.heap.size + 1, 0, none⟩ = some (.int .i64 yk) := Lib.cell_of_heap v11 0
    have z1 : w5.drew.cell? ⟨w.heap.size + 1, 1, none⟩ = some (.int .i64 yn) := Lib.cell_of_heap (w := w5.drew) v5 1
    have z1' : (w5.drew.alloc (.cells #[.int .i64 yk, .int .i64 yn, .string yt, .int .i64 yo, .int .i64 ya, .slice none 0 0, .slice none 0 0] 29)).cell? ⟨w.heap.size + 1, 1, none⟩ = some (.int .i64 yn) := Lib.cell_of_heap v11 1
    have z2 : w5.drew.cell? ⟨w.heap.size + 1, 2, none⟩ = some (.string yt) := Lib.cell_of_heap (w := w5.drew) v5 2
    have z2' : (w5.drew.alloc (.cells #[.int .i64 yk, .int .i64 yn, .string yt, .int .i64 yo, .int .i64 ya, .slice none 0 0, .slice none 0 0] 29)).cell? ⟨w.heap.size + 1, 2, none⟩ = some (.string yt) := Lib.cell_of_heap v11 2
    have z3 : w5.drew.cell? ⟨w.heap.size + 1, 3, none⟩ = some (.int .i64 yo) := Lib.cell_of_heap (w := w5.drew) v5 3
    have z3' : (w5.drew.alloc (.cells #[.int .i64 yk, .int .i64 yn, .string yt, .int .i64 yo, .int .i64 ya, .slice none 0 0, .slice none 0 0] 29)).cell? ⟨w.heap.size + 1, 3, none⟩ = some (.int .i64 yo) := Lib.cell_of_heap v11 3
    have z4 : w5.drew.cell? ⟨w.heap.size + 1, 4, none⟩ = some (.int .i64 ya) := Lib.cell_of_heap (w := w5.drew) v5 4
    have z4' : (w5.drew.alloc (.cells #[.int .i64 yk, .int .i64 yn, .string yt, .int .i64 yo, .int .i64 ya, .slice none 0 0, .slice none 0 0] 29)).cell? ⟨w.heap.size + 1, 4, none⟩ = some (.int .i64 ya) := Lib.cell_of_heap v11 4
    have HM5 : Hid (Mid w b o lo (.slice ka t.ks.length kc) (.slice ta us.length tc) us (w5.drew.alloc (.cells #[.int .i64 yk, .int .i64 yn, .string yt, .int .i64 yo, .int .i64 ya, .slice none 0 0, .slice none 0 0] 29)) (.slice ka t.ks.length kc) t.ks) := by
      have hA2 := hAA
      rw [← hlen] at hA2
      exact (Mid.start hA2 hK hU HFZ.out).below b11 hbw
    go_upto_region 3 with fail
    refine wp_region_noPanic ?_
    refine early_begin (S := fun W => W.cell? ⟨b, o + 6, none⟩ = some (.slice ta tn tc) ∧ W.cell? ⟨w.heap.size, 1, none⟩ = some (.int .i64 (j : Int)) ∧ W.cell? ⟨w.heap.size + 1, 0, none⟩ = some (.int .i64 yk) ∧ W.cell? ⟨w.heap.size + 1, 1, none⟩ = some (.int .i64 yn) ∧ W.cell? ⟨w.heap.size + 1, 2, none⟩ = some (.string yt) ∧ W.cell? ⟨w.heap.size + 1, 3, none⟩ = some (.int .i64 yo) ∧ W.cell? ⟨w.heap.size + 1, 4, none⟩ = some (.int .i64 ya)) (late := fun k => decide (11 ≤ k)) (by kernel_rfl) ?_
    refine early_take (i := 0) (oi := { dst := some 13, op := Op.move (Operand.tmp 0), type := 52, pos := "patch.go:91", after := #[], guard := none }) (v := ?_) rfl (by kernel_rfl) (by kernel_rfl) (by kernel_rfl) (by decide) (by kernel_rfl) (fun _ _ _ h => h) (Or.inl ⟨by rfl, ?_⟩) ⟨k6, y1, z0, z1, z2, z3, z4⟩ ?_
    rotate_left
    · intro wz hSw
      try dsimp only at hSw
      go_simp
      try with_reducible rfl
    try simp only [Act.put, List.setIfInBounds_toArray, List.set_cons_zero, List.set_cons_succ]
    refine early_take (i := 1) (oi := { dst := some 14, op := Op.move (Operand.tmp 0), type := 52, pos := "patch.go:91", after := #[], guard := none }) (v := ?_) rfl (by kernel_rfl) (by kernel_rfl) (by kernel_rfl) (by decide) (by kernel_rfl) (fun _ _ _ h => h) (Or.inl ⟨by rfl, ?_⟩) ⟨k6, y1, z0, z1, z2, z3, z4⟩ ?_
    rotate_left
    · intro wz hSw
      try dsimp only at hSw
      go_simp
      try with_reducible rfl
    try simp only [Act.put, List.setIfInBounds_toArray, List.set_cons_zero, List.set_cons_succ]
    refine early_take (i := 2) (oi := { dst := some 15, op := Op.nilCheck (Operand.tmp 14), type := 0, pos := "patch.go:91", after := #[{ on := 1, ground := Ground.data }], guard := none }) (v := ?_) rfl (by kernel_rfl) (by kernel_rfl) (by kernel_rfl) (by decide) (by kernel_rfl) (fun _ _ _ h => h) (Or.inl ⟨by rfl, ?_⟩) ⟨k6, y1, z0, z1, z2, z3, z4⟩ ?_
    rotate_left
    · intro wz hSw
      try dsimp only at hSw
      go_simp
      try with_reducible rfl
    try simp only [Act.put, List.setIfInBounds_toArray, List.set_cons_zero, List.set_cons_succ]
    refine early_take (i := 3) (oi := { dst := some 16, op := Op.fieldAddr 29 (Operand.tmp 15) 2, type := 0, pos := "patch.go:91", after := #[{ on := 2, ground := Ground.data }], guard := none }) (v := ?_) rfl (by kernel_rfl) (by kernel_rfl) (by kernel_rfl) (by decide) (by kernel_rfl) (fun _ _ _ h => h) (Or.inl ⟨by rfl, ?_⟩) ⟨k6, y1, z0, z1, z2, z3, z4⟩ ?_
    rotate_left
    · intro wz hSw
      try dsimp only at hSw
      go_simp
      try with_reducible rfl
    try simp only [Act.put, List.setIfInBounds_toArray, List.set_cons_zero, List.set_cons_succ]
    refine early_take (i := 4) (oi := { dst := some 17, op := Op.load 27 (Operand.tmp 16), type := 27, pos := "patch.go:91", after := #[{ on := 3, ground := Ground.data }], guard := none }) (v := ?_) rfl (by kernel_rfl) (by kernel_rfl) (by kernel_rfl) (by decide) (by kernel_rfl) (fun _ _ _ h => h) (Or.inl ⟨by rfl, ?_⟩) ⟨k6, y1, z0, z1, z2, z3, z4⟩ ?_
    rotate_left
    · intro wz hSw
      try dsimp only at hSw
      go_simp
      try with_reducible rfl
    try simp only [Act.put, List.setIfInBounds_toArray, List.set_cons_zero, List.set_cons_succ]
    refine early_take (i := 5) (oi := { dst := some 18, op := Op.fieldAddr 45 (Operand.tmp 4) 1, type := 0, pos := "patch.go:91", after := #[], guard := none }) (v := ?_) rfl (by kernel_rfl) (by kernel_rfl) (by kernel_rfl) (by decide) (by kernel_rfl) (fun _ _ _ h => h) (Or.inl ⟨by rfl, ?_⟩) ⟨k6, y1, z0, z1, z2, z3, z4⟩ ?_
    rotate_left
    · intro wz hSw
      try dsimp only at hSw
      go_simp
      try with_reducible rfl
    try simp only [Act.put, List.setIfInBounds_toArray, List.set_cons_zero, List.set_cons_succ]
    refine early_take (i := 6) (oi := { dst := some 19, op := Op.load 3 (Operand.tmp 18), type := 3, pos := "patch.go:91", after := #[{ on := 5, ground := Ground.data }], guard := none }) (v := ?_) rfl (by kernel_rfl) (by kernel_rfl) (by kernel_rfl) (by decide) (by kernel_rfl) (fun _ _ _ h => h) (Or.inl ⟨by rfl, ?_⟩) ⟨k6, y1, z0, z1, z2, z3, z4⟩ ?_
    rotate_left
    · intro wz hSw
      try dsimp only at hSw
      go_simp
      try with_reducible rfl
    try simp only [Act.put, List.setIfInBounds_toArray, List.set_cons_zero, List.set_cons_succ]
    refine early_take (i := 7) (oi := { dst := some 20, op := Op.load 25 (Operand.tmp 5), type := 25, pos := "patch.go:91", after := #[], guard := none }) (v := ?_) rfl (by kernel_rfl) (by kernel_rfl) (by kernel_rfl) (by decide) (by kernel_rfl) (fun _ _ _ h => h) (Or.inl ⟨by rfl, ?_⟩) ⟨k6, y1, z0, z1, z2, z3, z4⟩ ?_
    rotate_left
    · intro wz hSw
      try dsimp only at hSw
      go_simp
      try with_reducible rfl
    try simp only [Act.put, List.setIfInBounds_toArray, List.set_cons_zero, List.set_cons_succ]
    refine early_take (i := 8) (oi := { dst := some 21, op := Op.build 29 #[(0, Operand.tmp 20)], type := 29, pos := "patch.go:91", after := #[{ on := 7, ground := Ground.data }], guard := none }) (v := ?_) rfl (by kernel_rfl) (by kernel_rfl) (by kernel_rfl) (by decide) (by kernel_rfl) (fun _ _ _ h => h) (Or.inl ⟨by rfl, ?_⟩) ⟨k6, y1, z0, z1, z2, z3, z4⟩ ?_
    rotate_left
    · intro wz hSw
      try dsimp only at hSw
      go_simp
      try with_reducible rfl
    try simp only [Act.put, List.setIfInBounds_toArray, List.set_cons_zero, List.set_cons_succ]
    refine early_step (i := 9) (o := { dst := some 22, op := Op.buildSlice 27 1 #[(0, Operand.tmp 21)], type := 27, pos := "patch.go:91", after := #[{ on := 8, ground := Ground.data }], guard := none }) (by kernel_rfl) rfl (fun K hK => ?_)
    go_simp
    refine hK.out _ _ (fun _ => ⟨k6', y1', z0', z1', z2', z3', z4'⟩) ?_
    clear hK K
    try simp only [Act.put, List.setIfInBounds_toArray, List.set_cons_zero, List.set_cons_succ]
    refine early_step (i := 10) (o := { dst := some 23, op := Op.call { callee := Callee.value (Operand.func 43), args := #[Operand.tmp 17, Operand.tmp 19, Operand.tmp 22], argTypes := #[27, 3, 27] }, type := 27, pos := "patch.go:91", after := #[{ on := 4, ground := Ground.data }, { on := 6, ground := Ground.data }, { on := 9, ground := Ground.data }], guard := none }) (by kernel_rfl) rfl (fun K hK => ?_)
    go_simp
    go_at_call 43
    refine Calls.mono EI ?_
    rintro e w9 ⟨⟨vk2, rfl, hown2, hvb2⟩, hgr⟩
    obtain ⟨va2, vc2, hvk2⟩ := slice_of hown2
    obtain ⟨tn1, htn1⟩ : ∃ tn1, tn + 1 = tn1 := ⟨_, rfl⟩
    rw [htn1] at hvk2
    subst hvk2
    go_wp2_with fail
    refine hK.out _ _ (fun _ => ⟨(World.cell?_of_block (hgr.block b (by omega) (fun e => by have := hub b e.symm; omega))).trans k6', (World.cell?_of_block (hgr.block w.heap.size (by omega) (fun e => by have := hub _ e.symm; omega))).trans y1', (World.cell?_of_block (hgr.block (w.heap.size + 1) (by omega) (fun e => by have := hub _ e.symm; omega))).trans z0', (World.cell?_of_block (hgr.block (w.heap.size + 1) (by omega) (fun e => by have := hub _ e.symm; omega))).trans z1', (World.cell?_of_block (hgr.block (w.heap.size + 1) (by omega) (fun e => by have := hub _ e.symm; omega))).trans z2', (World.cell?_of_block (hgr.block (w.heap.size + 1) (by omega) (fun e => by have := hub _ e.symm; omega))).trans z3', (World.cell?_of_block (hgr.block (w.heap.size + 1) (by omega) (fun e => by have := hub _ e.symm; omega))).trans z4'⟩) ?_
    clear hK K
    try simp only [Act.put, List.setIfInBounds_toArray, List.set_cons_zero, List.set_cons_succ]
    have q6 : w9.cell? ⟨b, o + 6, none⟩ = some (.slice ta tn tc) := (World.cell?_of_block (hgr.block b (by omega) (fun e => by have := hub b e.symm; omega))).trans k6'
    have qf : ∀ d, w9.frozen? ⟨b, d, none⟩ = false := frozen_block ((hgr.block b (by omega) (fun e => by have := hub b e.symm; omega)).trans (c11.block b (by show b < w5.heap.size; omega))) (frozen_block (HW5.out.1.block b hbw) HFZ.out)
    refine early_step (i := 11) (o := { dst := some 24, op := Op.nilCheck (Operand.tmp 13), type := 0, pos := "patch.go:91", after := #[{ on := 0, ground := Ground.data }, { on := 0, ground := Ground.phase }, { on := 1, ground := Ground.phase }, { on := 2, ground := Ground.phase }, { on := 3, ground := Ground.phase }, { on := 4, ground := Ground.phase }, { on := 5, ground := Ground.phase }, { on := 6, ground := Ground.phase }, { on := 7, ground := Ground.phase }, { on := 8, ground := Ground.phase }, { on := 9, ground := Ground.phase }, { on := 10, ground := Ground.phase }], guard := none }) (by kernel_rfl) rfl (fun K hK => ?_)
    go_simp
    refine hK.out _ _ (fun h => absurd h (by decide)) ?_
    clear hK K
    try simp only [Act.put, List.setIfInBounds_toArray, List.set_cons_zero, List.set_cons_succ]
    refine early_step (i := 12) (o := { dst := some 25, op := Op.fieldAddr 29 (Operand.tmp 24) 2, type := 0, pos := "patch.go:91", after := #[{ on := 11, ground := Ground.data }, { on := 0, ground := Ground.phase }, { on := 1, ground := Ground.phase }, { on := 2, ground := Ground.phase }, { on := 3, ground := Ground.phase }, { on := 4, ground := Ground.phase }, { on := 5, ground := Ground.phase }, { on := 6, ground := Ground.phase }, { on := 7, ground := Ground.phase }, { on := 8, ground := Ground.phase }, { on := 9, ground := Ground.phase }, { on := 10, ground := Ground.phase }], guard := none }) (by kernel_rfl) rfl (fun K hK => ?_)
    go_simp
    refine hK.out _ _ (fun h => absurd h (by decide)) ?_
    clear hK K
    try simp only [Act.put, List.setIfInBounds_toArray, List.set_cons_zero, List.set_cons_succ]
    refine early_step (i := 13) (o := { dst := none, op := Op.store 27 (Operand.tmp 25) (Operand.tmp 23), type := 0, pos := "patch.go:91", after := #[{ on := 12, ground := Ground.data }, { on := 10, ground := Ground.data }, { on := 10, ground := Ground.chain }, { on := 0, ground := Ground.phase }, { on := 1, ground := Ground.phase }, { on := 2, ground := Ground.phase }, { on := 3, ground := Ground.phase }, { on := 4, ground := Ground.phase }, { on := 5, ground := Ground.phase }, { on := 6, ground := Ground.phase }, { on := 7, ground := Ground.phase }, { on := 8, ground := Ground.phase }, { on := 9, ground := Ground.phase }, { on := 10, ground := Ground.phase }], guard := none }) (by kernel_rfl) rfl (fun K hK => ?_)
    go_simp
    refine hK.out _ _ (fun h => absurd h (by decide)) ?_
    clear hK K
    try simp only [Act.put, List.setIfInBounds_toArray, List.set_cons_zero, List.set_cons_succ]
    refine early_done (by kernel_rfl) ?_ _
    refine NoPanic.normal ?_
    have HEND : Hid (post (.returned (.bool true)) (w9.setCell ⟨b, o + 6, none⟩ (.slice va2 tn1 vc2))) := by
      show post _ _
      rw [HPO.out]
      have hA2 := hAA
      rw [← hlen] at hA2
      have hpl := putL_len us j (leafV ⟨yk, yn, yt, yo, ya⟩)
      refine mid_end (us' := putL us j (leafV ⟨yk, yn, yt, yo, ya⟩)) (ts' := putL t.ts j (leafT ⟨yk, yn, yt, yo, ya⟩)) hA2 hSt hG hnd hbS hlow HM5.out hK.few ?_ ?_ (by omega) ?_ (fun w' h => ⟨S1, h.put _ j (by have := HJ.out; omega), List.Sublist.refl _⟩) ?_
      · rw [etn]; exact hgr
      · rw [hpl, etn]; exact hown2
      · rw [etn]; exact hvb2
      · exact Or.inr (Or.inr ⟨rfl, HKY.out, rfl⟩)
    clear EI y1 y1' z0 z1 z2 z3 z4 z0' z1' z2' z3' z4' k6 k6' q6 qf hgr hown2 hvb2 HM5
    go_wp2
    exact HEND.out
end Go.Proofs.YtegbjkjeoegfbaaDoor
