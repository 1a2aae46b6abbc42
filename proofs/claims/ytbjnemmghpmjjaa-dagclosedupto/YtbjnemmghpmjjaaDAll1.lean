/-
  What is proved: what the two functions within package dag's All answer.
  Conditions: the book, and what they look at, lie in memory.
-/
import Derived.Test.YtbjnemmghpmjjaaDTake
namespace Go.Proofs.Ytbjnemmghpmjjaa
open Go.RowKit Go.Maps

set_option maxRecDepth 100000 in
set_option maxHeartbeats 4000000 in
theorem untold_any (m t : Nat) (D : List Pr) (r : Pr) (w : World) (M : MapL w m (D.map fun r => (r, (.int .i64 1 : Value)))) (ht : w.heap[t]? = some (.cells #[.map (some m)] 51)) (hr : R64 r) :
    Calls Try.prog 20 #[refV r, .pointer (some ⟨t, 0, none⟩)] w fun e w' => e = .returned (.bool (!decide (r ∈ D))) ∧ Below w.heap.size w w' := by
  have b0 := (Below.refl w.heap.size w).alloc (Nat.le_refl _) (.cells #[.int .i64 r.1, .int .i64 r.2] 34)
  have hl := (M.below b0).look1 Try.underlying51 (zeroI _) hr
  rw [lk_ones] at hl
  have c0 : w.cell? ⟨t, 0, none⟩ = some (.map (some m)) := Lib.cell_of_heap ht 0
  have z0 := lt_of_heap ht
  have HB : Hid _ := b0
  clear b0 M ht
  by_cases hm : r ∈ D
  · rw [if_pos hm] at hl
    simp only [Option.getD_some] at hl
    have HM : Hid (decide (r ∈ D) = true) := by show _ = _; simp [hm]
    rw [HM.out]
    clear hm
    go_enter Try.func20, Try.ntmps20
    go_wp2
    go_ret
    exact ⟨rfl, HB.out⟩
  · rw [if_neg hm] at hl
    simp only [Option.getD_none] at hl
    have HM : Hid (decide (r ∈ D) = false) := by show _ = _; simp [hm]
    rw [HM.out]
    clear hm
    go_enter Try.func20, Try.ntmps20
    go_wp2
    go_ret
    exact ⟨rfl, HB.out⟩

/-- May a change be next, once some are told? -/
def nextB (EH : List CE) (D : List Pr) (r : Pr) : Bool := !((depE EH r).any fun d => !decide (d ∈ D))

/-- What lies about while All goes on. -/
structure AllIn (w : World) (g h q x t m f : Nat) (EH EW : List CE) (D : List Pr) : Prop where
  bk : Bk w g h q EH EW
  bx : w.heap[x]? = some (.cells #[.pointer (some ⟨g, 0, none⟩)] 23)
  tb : w.heap[t]? = some (.cells #[.map (some m)] 51)
  mp : MapL w m (D.map fun r => (r, (.int .i64 1 : Value)))
  fb : w.heap[f]? = some (.cells #[.func (Fn.func 20) #[] #[.pointer (some ⟨t, 0, none⟩)]] 32)

theorem AllIn.below {w w' : World} {g h q x t m f : Nat} {EH EW : List CE} {D : List Pr} (A : AllIn w g h q x t m f EH EW D) (b : Below w.heap.size w w') : AllIn w' g h q x t m f EH EW D :=
  ⟨A.bk.below b, heap_below A.bx b (Nat.le_refl _), heap_below A.tb b (Nat.le_refl _), A.mp.below b, heap_below A.fb b (Nat.le_refl _)⟩

theorem keepA {W W' : World} {g h x z f t : Nat} {r : Pr} {L : List (Pr × Value)} (hh : W.cell? ⟨x, 0, none⟩ = some (.pointer (some ⟨g, 0, none⟩)) ∧ W.cell? ⟨g, 0, none⟩ = some (.map (some h)) ∧ W.cell? ⟨z, 0, none⟩ = some (.int .i64 r.1) ∧ W.cell? ⟨z, 1, none⟩ = some (.int .i64 r.2) ∧ W.cell? ⟨f, 0, none⟩ = some (.func (Fn.func 20) #[] #[.pointer (some ⟨t, 0, none⟩)]) ∧ MapL W h L) (hb : Below W.heap.size W W') : W'.cell? ⟨x, 0, none⟩ = some (.pointer (some ⟨g, 0, none⟩)) ∧ W'.cell? ⟨g, 0, none⟩ = some (.map (some h)) ∧ W'.cell? ⟨z, 0, none⟩ = some (.int .i64 r.1) ∧ W'.cell? ⟨z, 1, none⟩ = some (.int .i64 r.2) ∧ W'.cell? ⟨f, 0, none⟩ = some (.func (Fn.func 20) #[] #[.pointer (some ⟨t, 0, none⟩)]) ∧ MapL W' h L := by
  obtain ⟨h0, h1, h2, h3, h4, h5⟩ := hh
  exact ⟨(hb.cell (cell_in h0)).trans h0, (hb.cell (cell_in h1)).trans h1, (hb.cell (cell_in h2)).trans h2, (hb.cell (cell_in h3)).trans h3, (hb.cell (cell_in h4)).trans h4, h5.below hb⟩

set_option maxRecDepth 100000 in
set_option maxHeartbeats 8000000 in
theorem mayBe_any (w : World) (g h q x t m f : Nat) (EH EW : List CE) (D : List Pr) (r : Pr) (A : AllIn w g h q x t m f EH EW D) (hr : r ∈ EH.map (·.1.ref)) :
    Calls Try.prog 21 #[refV r, .pointer (some ⟨x, 0, none⟩), .pointer (some ⟨f, 0, none⟩)] w fun e w' => e = .returned (.bool (nextB EH D r)) ∧ Below w.heap.size w w' := by
  obtain ⟨p, hp, hpr, hpv, hpd⟩ := ent_of hr
  have h64 : R64 r := by
    rw [← ents_keys] at hr
    obtain ⟨y, hy, rfl⟩ := List.mem_map.1 hr
    exact A.bk.book.has.r64 y hy
  obtain ⟨ud, uo, lo, e1, _, hdp, _⟩ := (A.bk.chgs p (List.mem_append_left _ hp)).1
  have hcv := (A.bk.chgs p (List.mem_append_left _ hp)).1.cv
  obtain ⟨ca, cs, ct, da, dn, dc, oa, on, oc, hpe⟩ := hcv
  rw [hpe] at e1
  simp at e1
  obtain ⟨q1, q2, q3, hud, q5⟩ := e1
  subst hud
  clear q1 q2 q3 q5
  have b0 := (Below.refl w.heap.size w).alloc (Nat.le_refl _) (.cells #[.int .i64 r.1, .int .i64 r.2] 34)
  have n0 := heap_alloc_new w (.cells #[.int .i64 r.1, .int .i64 r.2] 34)
  have A0 := A.below b0
  have hent : (lk (ents EH) r).getD zC = .agg #[.int .i64 ca, .int .i64 cs, .int .i64 ct, .slice da dn dc, .slice oa on oc] := by
    have : entV (ents EH) r = p.2 := hpv
    unfold entV at this
    rw [this, hpe]
  have eg : ∀ args w, (callFunc 20 args).run Try.prog w = .ok (.enter 20 args) w := enters_of Try.func20 (by kernel_rfl) rfl
  obtain ⟨nb, hnb⟩ : ∃ z : Bool, (p.1.deps.any fun d => !decide (d ∈ D)) = z := ⟨_, rfl⟩
  have e2 : nextB EH D r = !nb := by unfold nextB; rw [hpd, hnb]
  rw [e2]
  have HA : Hid (AllIn _ g h q x t m f EH EW D ∧ _ ∧ _ ∧ _ ∧ _) := ⟨A0, n0, b0, hdp.below b0, hnb⟩
  have HE : Hid _ := hent
  clear A A0 n0 b0 hdp hnb e2 hp hpr hpv hpd hpe hr hent
  go_enter Try.func21, Try.ntmps21
  go_wp2
  obtain ⟨A0, n0, b0, hdp, hnb⟩ := HA.out
  clear HA
  generalize w.alloc (.cells #[.int .i64 r.1, .int .i64 r.2] 34) = Y at *
  have hent := HE.out
  have k0 : Y.cell? ⟨x, 0, none⟩ = some (.pointer (some ⟨g, 0, none⟩)) := Lib.cell_of_heap A0.bx 0
  have k1 : Y.cell? ⟨g, 0, none⟩ = some (.map (some h)) := Lib.cell_of_heap A0.bk.book.box 0
  have k2 : Y.cell? ⟨w.heap.size, 0, none⟩ = some (.int .i64 r.1) := Lib.cell_of_heap n0 0
  have k3 : Y.cell? ⟨w.heap.size, 1, none⟩ = some (.int .i64 r.2) := Lib.cell_of_heap n0 1
  have k4 : Y.cell? ⟨f, 0, none⟩ = some (.func (Fn.func 20) #[] #[.pointer (some ⟨t, 0, none⟩)]) := Lib.cell_of_heap A0.fb 0
  have mh := A0.bk.book.has
  have AD := A0.below (drew_of (Below.refl Y.heap.size Y))
  have hdr : ∀ d ∈ p.1.deps, R64 d := by obtain ⟨_, _, _, _, _, hr, _⟩ := hdp; exact hr
  have EC := contains_any 20 eg (.pointer (some ⟨t, 0, none⟩)) (fun d => !decide (d ∈ D)) _ p.1.deps Y.drew (hdp.below (drew_of (Below.refl Y.heap.size Y))) (fun d hd W hb => untold_any m t D d W (AD.below hb).mp (AD.below hb).tb (hdr d hd))
  rw [hnb] at EC
  have HB : Hid (Below w.heap.size w Y) := b0
  clear A0 n0 b0 hdp hnb AD hdr
  refine wp_region_noPanic ?_
  refine wp_region_held_drew (S := fun W => W.cell? ⟨x, 0, none⟩ = some (.pointer (some ⟨g, 0, none⟩)) ∧ W.cell? ⟨g, 0, none⟩ = some (.map (some h)) ∧ W.cell? ⟨w.heap.size, 0, none⟩ = some (.int .i64 r.1) ∧ W.cell? ⟨w.heap.size, 1, none⟩ = some (.int .i64 r.2) ∧ W.cell? ⟨f, 0, none⟩ = some (.func (Fn.func 20) #[] #[.pointer (some ⟨t, 0, none⟩)]) ∧ MapL W h (ents EH)) (by kernel_rfl) (⟨k0, k1, k2, k3, k4, ⟨mh.own, mh.nd, mh.r64⟩⟩) (fun hHeld => ?_)
  refine wpAnyH_take (i := 0) (oi := { dst := some 5, op := Op.load 23 (Operand.tmp 1), type := 23, pos := "dag.go:54", after := #[], guard := none }) (v := ?_) rfl (by kernel_rfl) (by kernel_rfl) (by kernel_rfl) (fun _ _ _ h => h) (Or.inl ⟨by rfl, ?_⟩) (by assumption) ?_
  rotate_left
  · intro wz hSw
    try dsimp only at hSw
    go_simp
    try with_reducible rfl
  try simp only [Act.put, List.setIfInBounds_toArray, List.set_cons_zero, List.set_cons_succ]
  refine wpAnyH_take (i := 1) (oi := { dst := some 6, op := Op.nilCheck (Operand.tmp 5), type := 0, pos := "dag.go:54", after := #[{ on := 0, ground := Ground.data }], guard := none }) (v := ?_) rfl (by kernel_rfl) (by kernel_rfl) (by kernel_rfl) (fun _ _ _ h => h) (Or.inl ⟨by rfl, ?_⟩) (by assumption) ?_
  rotate_left
  · intro wz hSw
    try dsimp only at hSw
    go_simp
    try with_reducible rfl
  try simp only [Act.put, List.setIfInBounds_toArray, List.set_cons_zero, List.set_cons_succ]
  refine wpAnyH_take (i := 2) (oi := { dst := some 7, op := Op.fieldAddr 43 (Operand.tmp 6) 0, type := 0, pos := "dag.go:54", after := #[{ on := 1, ground := Ground.data }], guard := none }) (v := ?_) rfl (by kernel_rfl) (by kernel_rfl) (by kernel_rfl) (fun _ _ _ h => h) (Or.inl ⟨by rfl, ?_⟩) (by assumption) ?_
  rotate_left
  · intro wz hSw
    try dsimp only at hSw
    go_simp
    try with_reducible rfl
  try simp only [Act.put, List.setIfInBounds_toArray, List.set_cons_zero, List.set_cons_succ]
  refine wpAnyH_take (i := 3) (oi := { dst := some 8, op := Op.load 41 (Operand.tmp 7), type := 41, pos := "dag.go:54", after := #[{ on := 2, ground := Ground.data }], guard := none }) (v := ?_) rfl (by kernel_rfl) (by kernel_rfl) (by kernel_rfl) (fun _ _ _ h => h) (Or.inl ⟨by rfl, ?_⟩) (by assumption) ?_
  rotate_left
  · intro wz hSw
    try dsimp only at hSw
    go_simp
    try with_reducible rfl
  try simp only [Act.put, List.setIfInBounds_toArray, List.set_cons_zero, List.set_cons_succ]
  refine wpAnyH_take (i := 4) (oi := { dst := some 9, op := Op.load 34 (Operand.tmp 3), type := 34, pos := "dag.go:54", after := #[], guard := none }) (v := ?_) rfl (by kernel_rfl) (by kernel_rfl) (by kernel_rfl) (fun _ _ _ h => h) (Or.inl ⟨by rfl, ?_⟩) (by assumption) ?_
  rotate_left
  · intro wz hSw
    try dsimp only at hSw
    go_simp
    try with_reducible rfl
  try simp only [Act.put, List.setIfInBounds_toArray, List.set_cons_zero, List.set_cons_succ]
  refine wpAnyH_take (i := 5) (oi := { dst := some 10, op := Op.lookup 41 (Operand.tmp 8) (Operand.tmp 9) false, type := 31, pos := "dag.go:54", after := #[{ on := 3, ground := Ground.data }, { on := 4, ground := Ground.data }], guard := none }) (v := .agg #[.int .i64 ca, .int .i64 cs, .int .i64 ct, .slice da dn dc, .slice oa on oc]) rfl (by kernel_rfl) (by kernel_rfl) (by kernel_rfl) (fun _ _ _ h => h) (Or.inl ⟨by rfl, ?_⟩) (by assumption) ?_
  · intro wz hSw
    have hl := hSw.2.2.2.2.2.look1 Try.underlying41 (zeroC _) h64
    rw [hent] at hl
    simp [Act.eval, hl, go_sem]
  try simp only [Act.put, List.setIfInBounds_toArray, List.set_cons_zero, List.set_cons_succ]
  refine wpAnyH_take (i := 6) (oi := { dst := some 11, op := Op.field 31 (Operand.tmp 10) 3, type := 28, pos := "dag.go:54", after := #[{ on := 5, ground := Ground.data }], guard := none }) (v := .slice da dn dc) rfl (by kernel_rfl) (by kernel_rfl) (by kernel_rfl) (fun _ _ _ h => h) (Or.inl ⟨by rfl, ?_⟩) (by assumption) ?_
  · intro wz hSw
    kernel_rfl
  try simp only [Act.put, List.setIfInBounds_toArray, List.set_cons_zero, List.set_cons_succ]
  refine wpAnyH_take (i := 7) (oi := { dst := some 12, op := Op.load 32 (Operand.tmp 2), type := 32, pos := "dag.go:54", after := #[], guard := none }) (v := ?_) rfl (by kernel_rfl) (by kernel_rfl) (by kernel_rfl) (fun _ _ _ h => h) (Or.inl ⟨by rfl, ?_⟩) (by assumption) ?_
  rotate_left
  · intro wz hSw
    try dsimp only at hSw
    go_simp
    try with_reducible rfl
  try simp only [Act.put, List.setIfInBounds_toArray, List.set_cons_zero, List.set_cons_succ]
  refine wpAnyH_ready (rs := [8]) (by kernel_rfl) (by simp) (AllReadyH.cons (o := { dst := some 13, op := Op.call { callee := Callee.value (Operand.func 22), args := #[Operand.tmp 11, Operand.tmp 12], argTypes := #[28, 32] }, type := 4, pos := "dag.go:54", after := #[{ on := 6, ground := Ground.data }, { on := 7, ground := Ground.data }], guard := none }) rfl (fun K hK => ?_) AllReadyH.nil)
  go_simp
  go_at_call 22
  refine Calls.mono EC ?_
  rintro e w8 ⟨rfl, hb8⟩
  go_wp2_with fail
  refine hK.out _ _ (keepA (by assumption) hb8) (fun hHeld8 => ?_)
  clear hK K
  try simp only [Act.put, List.setIfInBounds_toArray, List.set_cons_zero, List.set_cons_succ]
  refine wpAnyH_take (i := 9) (oi := { dst := some 14, op := Op.unOp UnOp.not 4 (Operand.tmp 13), type := 4, pos := "dag.go:54", after := #[{ on := 8, ground := Ground.data }], guard := none }) (v := ?_) rfl (by kernel_rfl) (by kernel_rfl) (by kernel_rfl) (fun _ _ _ h => h) (Or.inl ⟨by rfl, ?_⟩) (by assumption) ?_
  rotate_left
  · intro wz hSw
    try dsimp only at hSw
    go_simp
    try with_reducible rfl
  try simp only [Act.put, List.setIfInBounds_toArray, List.set_cons_zero, List.set_cons_succ]
  refine wpAnyH_take (i := 10) (oi := { dst := some 4, op := Op.assign (Operand.tmp 14), type := 4, pos := "dag.go:54", after := #[{ on := 9, ground := Ground.data }, { on := 8, ground := Ground.chain }, { on := 0, ground := Ground.phase }, { on := 1, ground := Ground.phase }, { on := 2, ground := Ground.phase }, { on := 3, ground := Ground.phase }, { on := 4, ground := Ground.phase }, { on := 5, ground := Ground.phase }, { on := 6, ground := Ground.phase }, { on := 7, ground := Ground.phase }, { on := 8, ground := Ground.phase }, { on := 9, ground := Ground.phase }], guard := none }) (v := ?_) rfl (by kernel_rfl) (by kernel_rfl) (by kernel_rfl) (fun _ _ _ h => h) (Or.inl ⟨by rfl, ?_⟩) (by assumption) ?_
  rotate_left
  · intro wz hSw
    try dsimp only at hSw
    go_simp
    try with_reducible rfl
  try simp only [Act.put, List.setIfInBounds_toArray, List.set_cons_zero, List.set_cons_succ]
  refine wpAnyH_done (by kernel_rfl) ?_ _
  refine NoPanic.normal ?_
  have HZ : Hid (Below w.heap.size w w8) := (drew_of HB.out).trans (hb8.mono HB.out.size)
  clear hHeld hHeld8 hb8 EC k0 k1 k2 k3 k4 mh hent
  go_wp2
  go_ret
  exact ⟨rfl, HZ.out⟩
end Go.Proofs.Ytbjnemmghpmjjaa
