/-
  What is proved: the function that reads one thing of a list keeps to what json's reader asks of it.
  Conditions: trees that stand farther on are read, or a fault is thrown.
-/
import Derived.Test.YtnmdhbejjjmdeaaGreatDoorP20
import Derived.Test.YtnmdhbejjjmdeaaGreatDoorP13
namespace Go.Proofs.YtnmdhbejjjmdeaaGreatDoor
open Go.RowKit Go.Sort

/-- Few trees. -/
structure FewX (m : Nat) (T : JT) : Prop where
  few : m + T.size ≤ 400
/-- A tree was read. -/
structure FX (n : Nat) (s : ByteArray) (k m : Nat) (T : JT) (k' : Nat) : Prop where
  ok : rdT n s k m = .ok (T, k')
  gd : FewX m T
/-- None was. -/
def NoX (n : Nat) (s : ByteArray) (k m : Nat) (v : Value) : Prop := ∃ (kf : Nat) (fe : Int), v = faultV kf fe ∧ rdT n s k m = .error (kf, fe)
/-- What tree leaves. -/
def TreeP (n p : Nat) (s : ByteArray) (k m : Nat) (w : World) (e : Ending) (w' : World) : Prop :=
  (∃ u T k', e = .returned (tval u) ∧ IsTP (fun b => w.heap.size ≤ b) w' (tval u) T ∧ FX n s k m T k' ∧ k < k' ∧ k' ≤ s.size ∧ RB w' p s k' (m + T.size) ∧ Rk p w w') ∨
  (∃ v, e = .panicked [{ v := v, recovered := false }] ∧ True ∧ NoX n s k m v ∧ Rk p w w')
/-- Trees are read, where less than so much is left. -/
def TreeC (wv : World) (p : Nat) (s : ByteArray) (n : Nat) : Prop :=
  ∀ k m w, s.size - k < n → RB w p s k m → k ≤ s.size → m ≤ 400 → Below wv.heap.size wv w → Calls Tryz.prog 10 #[.pointer (some ⟨p, 0, none⟩)] w fun e w' => TreeP n p s k m w e w'
theorem one_list_ok {R : Nat → Nat → Rs (JT × Nat)} {s : ByteArray} {ks : List ByteArray} {k m k' : Nat} {T : JT} (h : R k m = .ok (T, k')) : rdOne R false s ks k m = .ok (⟨#[]⟩, T, k') := by
  unfold rdOne
  rw [if_neg (by decide), h]
  rfl
theorem one_list_bad {R : Nat → Nat → Rs (JT × Nat)} {s : ByteArray} {ks : List ByteArray} {k m : Nat} {x : Nat × Int} (h : R k m = .error x) : rdOne R false s ks k m = .error x := by
  unfold rdOne
  rw [if_neg (by decide), h]
  rfl
theorem Rk.low {p : Nat} {wv w w' : World} (h : Rk p w w') (hp : wv.heap.size ≤ p) (hb : Below wv.heap.size wv w) : Below wv.heap.size wv w' :=
  ⟨h.os.trans hb.os, h.tape.trans hb.tape, h.output.trans hb.output, Nat.le_trans hb.size h.size, fun b hlt => (h.block b (Nat.lt_of_lt_of_le hlt hb.size) (by omega)).trans (hb.block b hlt)⟩
theorem Rk.undrew {p : Nat} {w w' : World} (h : Rk p w.drew w') : Rk p w w' := ⟨h.os, h.tape, h.output, h.size, h.block⟩
theorem Bo.drw {mp : Bool} {s : ByteArray} {p bt br B : Nat} {w0 : World} {k0 : Nat} {x : Sg} {k m : Nat} {vk vt : Value} {us : List TV} {w : World} (h : Bo mp s p bt br B w0 k0 x k m vk vt us w) : Bo mp s p bt br B w0 k0 x k m vk vt us w.drew :=
  ⟨h.rb, h.ge, h.le, h.few, h.sz, h.kl, ⟨h.rk.os, h.rk.tape, h.rk.output, h.rk.size, h.rk.block⟩, h.bz, h.hr, h.ht, h.ks.drew, h.ts.drew, h.al.stay (Nat.le_refl _) (fun _ hb _ => ⟨rfl, hb⟩)⟩
/-- Only those from the sixth on are left. -/
theorem late6 {i : Nat} {a : Array Bool} (h : a.getD i true = false) (ha : ∀ q : Fin 6, a.getD q.val true = true := by decide +kernel) : decide (6 ≤ i) = true := by
  rcases Nat.lt_or_ge i 6 with h6 | h6
  · have h8 := ha ⟨i, h6⟩
    simp only at h8
    rw [h] at h8
    cases h8
  · simpa using h6
/-- What holds between two things. -/
def Jx (mp : Bool) (s : ByteArray) (p bt br B : Nat) (w0 : World) (k0 : Nat) (x : Sg) (k m : Nat) (w : World) : Prop :=
  x.1.length ≤ x.2.length ∧ ∃ vk vt us, Bo mp s p bt br B w0 k0 x k m vk vt us w
/-- What reading one thing leaves. -/
def OneP (n : Nat) (mp : Bool) (s : ByteArray) (p bt br B : Nat) (w0 : World) (k0 : Nat) (x : Sg) (k m : Nat) (e : Ending) (w' : World) : Prop :=
  (∃ x' k' m', e = .returned (.tuple #[]) ∧ NxX (rdT n s) mp s x k m x' k' m' ∧ k < k' ∧ Jx mp s p bt br B w0 k0 x' k' m' w') ∨ (∃ v, e = .panicked [{ v := v, recovered := false }] ∧ BxX (rdT n s) mp s x k m v ∧ Rk p w0 w')

set_option maxRecDepth 100000 in
set_option maxHeartbeats 8000000 in
theorem list1_any {s : ByteArray} {p bt br B : Nat} {wv w0 : World} {k0 n : Nat} (hp : Pl p bt br B w0) (hT : TreeC wv p s n) (hn : s.size - k0 < n) (hwv : wv.heap.size ≤ p) (hb0 : Below wv.heap.size wv w0) (x : Sg) (k m : Nat) (w : World) (hJ : Jx false s p bt br B w0 k0 x k m w) :
    Calls Tryz.prog 43 #[.pointer (some ⟨bt, 0, none⟩), .pointer (some ⟨br, 0, none⟩)] w fun e w' => OneP n false s p bt br B w0 k0 x k m e w' := by
  obtain ⟨hkl, vk, vt, us, hBo⟩ := hJ
  obtain ⟨ta, tc, rfl⟩ : ∃ ta tc, vt = .slice ta us.length tc := by
    rcases own_rowB hBo.ts with ⟨e, h0⟩ | ⟨g, cap, e, _⟩
    · exact ⟨none, 0, by rw [e, h0]; rfl⟩
    · exact ⟨_, _, e⟩
  obtain ⟨nl, hnl⟩ : ∃ nl, us.length = nl := ⟨_, rfl⟩
  rw [hnl] at hBo
  have HUL : Hid (us.length = nl) := hnl
  obtain ⟨post, hpost⟩ : ∃ post, post = OneP n false s p bt br B w0 k0 x k m := ⟨_, rfl⟩
  rw [← hpost]
  have HPO : Hid (post = OneP n false s p bt br B w0 k0 x k m) := hpost
  have HPL : Hid (Pl p bt br B w0) := hp
  have HBO : Hid (Bo false s p bt br B w0 k0 x k m vk (.slice ta nl tc) us w) := hBo
  have HET : Hid (∀ W, Bo false s p bt br B w0 k0 x k m vk (.slice ta nl tc) us W → Calls Tryz.prog 10 #[.pointer (some ⟨p, 0, none⟩)] W fun e w' => TreeP n p s k m W e w') := fun W h => hT k m W (by have := h.ge; omega) h.rb h.le h.few (h.rk.low hwv hb0)
  have HBAD : Hid (∀ v W, True → NoX n s k m v → Rk p w W → post (.panicked [{ v := v, recovered := false }]) W) := by
    intro v W _ h2 h3
    rw [HPO.out]
    obtain ⟨kf, fe, rfl, hr⟩ := h2
    exact Or.inr ⟨_, rfl, ⟨kf, fe, rfl, one_list_bad hr⟩, hBo.rk.trans h3⟩
  have HGOOD : Hid (∀ (k' : Nat) (T : JT) (Wb : World) (u : TV) (W : World) (g c : Nat), FX n s k m T k' → k < k' → k' ≤ s.size → Bo false s p bt br B w0 k0 x k' (m + T.size) vk (.slice ta nl tc) us Wb → IsTP (fun b => w.heap.size ≤ b) Wb (tval u) T → W.ownsRow B 29 7 (.slice (some ⟨g, 0, none⟩) (nl + 1) c) (nl + 1) (tcs (us ++ [zU])) → Wb.grownBy W (Value.slice ta nl tc).ownBlock → ((Value.slice ta nl tc).ownBlock = some g ∨ g = Wb.heap.size) → post (.returned (.tuple #[])) ((put7 W g (nl * 7) u).setCell ⟨bt, 6, none⟩ (.slice (some ⟨g, 0, none⟩) (nl + 1) c))) := by
    intro k' T Wb u W g c h1 h2 h3 h4 h5 h6 h7 h8
    rw [HPO.out]
    have hsz := hBo.sz
    have e := HUL.out
    have h9 := h4.addT (u := u) (T := T) (N := w.heap.size) HPL.out (by rw [e]; exact h6) h7 h8 h5 ⟨hBo.bz, fun b hb => (ownR_blk hBo.ks hb).2.1, fun b hb => (ownR_blk hBo.ts hb).2.1⟩ (by omega)
    rw [e] at h9
    refine Or.inl ⟨(x.1, x.2 ++ [T]), k', m + T.size, rfl, ⟨⟨#[]⟩, T, one_list_ok h1.ok, h2, h3, rfl, rfl⟩, h2, ?_, _, _, _, h9⟩
    simp
    omega
  have c6 : w.cell? ⟨bt, 6, none⟩ = some (.slice ta nl tc) := Lib.cell_of_heap hBo.ht 6
  have cr : w.cell? ⟨br, 0, none⟩ = some (.pointer (some ⟨p, 0, none⟩)) := Lib.cell_of_heap hBo.hr 0
  have ET := HET.out
  clear hpost hp hT hn hwv hb0 hkl hBo hnl HET
  go_enter Tryz.func43, Tryz.ntmps43
  go_wp2_with fail
  refine wp_region_pan post (fun _ _ _ h => h) ?_
  refine early_begin (S := fun W => W.cell? ⟨bt, 6, none⟩ = some (.slice ta nl tc) ∧ W.cell? ⟨br, 0, none⟩ = some (.pointer (some ⟨p, 0, none⟩))) (late := fun k => decide (6 ≤ k)) (by kernel_rfl) ?_
  refine early_take (i := 0) (oi := { dst := some 2, op := Op.fieldAddr 29 (Operand.tmp 0) 2, type := 0, pos := "parse.go:92", after := #[], guard := none }) (v := ?_) rfl (by kernel_rfl) (by kernel_rfl) (by kernel_rfl) (by decide) (by kernel_rfl) (fun _ _ _ h => h) (Or.inl ⟨by rfl, ?_⟩) ⟨c6, cr⟩ ?_
  rotate_left
  · intro wz hSw
    try dsimp only at hSw
    go_simp
    try with_reducible rfl
  try simp only [Act.put, List.setIfInBounds_toArray, List.set_cons_zero, List.set_cons_succ]
  refine early_take (i := 1) (oi := { dst := some 3, op := Op.load 27 (Operand.tmp 2), type := 27, pos := "parse.go:92", after := #[{ on := 0, ground := Ground.data }], guard := none }) (v := ?_) rfl (by kernel_rfl) (by kernel_rfl) (by kernel_rfl) (by decide) (by kernel_rfl) (fun _ _ _ h => h) (Or.inl ⟨by rfl, ?_⟩) ⟨c6, cr⟩ ?_
  rotate_left
  · intro wz hSw
    try dsimp only at hSw
    go_simp
    try with_reducible rfl
  try simp only [Act.put, List.setIfInBounds_toArray, List.set_cons_zero, List.set_cons_succ]
  refine early_take (i := 2) (oi := { dst := some 4, op := Op.load 61 (Operand.tmp 1), type := 61, pos := "parse.go:92", after := #[], guard := none }) (v := ?_) rfl (by kernel_rfl) (by kernel_rfl) (by kernel_rfl) (by decide) (by kernel_rfl) (fun _ _ _ h => h) (Or.inl ⟨by rfl, ?_⟩) ⟨c6, cr⟩ ?_
  rotate_left
  · intro wz hSw
    try dsimp only at hSw
    go_simp
    try with_reducible rfl
  try simp only [Act.put, List.setIfInBounds_toArray, List.set_cons_zero, List.set_cons_succ]
  refine early_take (i := 4) (oi := { dst := some 6, op := Op.call { callee := Callee.builtin Builtin.len, args := #[Operand.tmp 3], argTypes := #[27] }, type := 3, pos := "parse.go:92", after := #[{ on := 1, ground := Ground.data }], guard := none }) (v := ?_) rfl (by kernel_rfl) (by kernel_rfl) (by kernel_rfl) (by decide) (by kernel_rfl) (fun _ _ _ h => h) (Or.inl ⟨by rfl, ?_⟩) ⟨c6, cr⟩ ?_
  rotate_left
  · intro wz hSw
    try dsimp only at hSw
    go_simp
    try with_reducible rfl
  try simp only [Act.put, List.setIfInBounds_toArray, List.set_cons_zero, List.set_cons_succ]
  refine early_two (i := 3) (j := 5) (o := { dst := some 5, op := Op.call { callee := Callee.value (Operand.func 10), args := #[Operand.tmp 4], argTypes := #[61] }, type := 29, pos := "parse.go:92", after := #[{ on := 2, ground := Ground.data }], guard := none }) (o' := { dst := some 7, op := Op.buildSlice 27 1 #[(0, Operand.const (Value.agg #[Value.int IntKind.i64 0, Value.int IntKind.i64 0, Value.string { data := #[] }, Value.int IntKind.i64 0, Value.int IntKind.i64 0, Value.slice none 0 0, Value.slice none 0 0]))], type := 27, pos := "parse.go:92", after := #[], guard := none }) (by kernel_rfl) rfl rfl (fun K hK => ?_) (fun K hK => ?_)
  · go_simp
    go_at_call 10
    refine Calls.mono (ET w.drew HBO.out.drw) ?_
    rintro e w3 hT3
    rcases hT3 with ⟨u, T, k', rfl, hI, hF, hlt, hle, hrb, hrk⟩ | ⟨v, rfl, hIF, hno, hrk⟩
    rotate_left
    · go_wp2_with fail
      exact ⟨rfl, HBAD.out v w3 hIF hno (hrk.undrew)⟩
    obtain ⟨⟨yk, yn, yt, yo, ya⟩, a1, n1, c1, a2, n2, c2, hu⟩ := hI.plain.parts
    subst hu
    have hv3 : tval (⟨yk, yn, yt, yo, ya⟩, .slice a1 n1 c1, .slice a2 n2 c2) = .agg #[.int .i64 yk, .int .i64 yn, .string yt, .int .i64 yo, .int .i64 ya, .slice a1 n1 c1, .slice a2 n2 c2] := rfl
    rw [hv3]
    clear hv3
    go_wp2_with fail
    have hB3 := HBO.out.move HPL.out hrb (Nat.le_of_lt hlt) hle (Nat.le_add_right _ _) hF.gd.few hrk.undrew
    have c6' : w3.cell? ⟨bt, 6, none⟩ = some (.slice ta nl tc) := Lib.cell_of_heap hB3.ht 6
    have cr' : w3.cell? ⟨br, 0, none⟩ = some (.pointer (some ⟨p, 0, none⟩)) := Lib.cell_of_heap hB3.hr 0
    refine hK.out _ _ (fun _ => ⟨c6', cr'⟩) ?_
    clear hK K
    try simp only [Act.put, List.setIfInBounds_toArray, List.set_cons_zero, List.set_cons_succ]
    have hB4 := hB3.below HPL.out ((Below.refl w3.heap.size w3).alloc (Nat.le_refl _) zO)
    have c6'' : (w3.alloc zO).cell? ⟨bt, 6, none⟩ = some (.slice ta nl tc) := Lib.cell_of_heap hB4.ht 6
    have cr'' : (w3.alloc zO).cell? ⟨br, 0, none⟩ = some (.pointer (some ⟨p, 0, none⟩)) := Lib.cell_of_heap hB4.hr 0
    have hI4 : IsTP (fun b => w.heap.size ≤ b) (w3.alloc zO) (tval (⟨yk, yn, yt, yo, ya⟩, .slice a1 n1 c1, .slice a2 n2 c2)) T := hI.move (by rw [sz_new]; omega) (fun b _ hlt => ((Below.refl w3.heap.size w3).alloc (Nat.le_refl _) zO).block b hlt) (fun _ h => h)
    have hz4 : (w3.alloc zO).heap[w3.heap.size]? = some zO := one_new w3 zO
    clear hB3 c6' cr' hI hrb
    refine early_step (i := 5) (o := { dst := some 7, op := Op.buildSlice 27 1 #[(0, Operand.const (Value.agg #[Value.int IntKind.i64 0, Value.int IntKind.i64 0, Value.string { data := #[] }, Value.int IntKind.i64 0, Value.int IntKind.i64 0, Value.slice none 0 0, Value.slice none 0 0]))], type := 27, pos := "parse.go:92", after := #[], guard := none }) (by kernel_rfl) rfl (fun K hK => ?_)
    go_simp
    refine hK.out _ _ (fun _ => ⟨c6'', cr''⟩) ?_
    clear hK K
    try simp only [Act.put, List.setIfInBounds_toArray, List.set_cons_zero, List.set_cons_succ]
    change wpAnyE _ _ _ _ _ _ _ _ _ (w3.alloc zO)
    generalize w3.alloc zO = Wb at *
    obtain ⟨gz, hgz⟩ : ∃ gz, w3.heap.size = gz := ⟨_, rfl⟩
    rw [hgz] at hz4 ⊢
    clear hgz
    have HGO : Hid (∀ W g c, W.ownsRow B 29 7 (.slice (some ⟨g, 0, none⟩) (nl + 1) c) (nl + 1) (tcs (us ++ [zU])) → Wb.grownBy W (Value.slice ta nl tc).ownBlock → ((Value.slice ta nl tc).ownBlock = some g ∨ g = Wb.heap.size) → post (.returned (.tuple #[])) ((put7 W g (nl * 7) (⟨yk, yn, yt, yo, ya⟩, .slice a1 n1 c1, .slice a2 n2 c2)).setCell ⟨bt, 6, none⟩ (.slice (some ⟨g, 0, none⟩) (nl + 1) c))) := fun W g c h1 h2 h3 => HGOOD.out k' T Wb (⟨yk, yn, yt, yo, ya⟩, .slice a1 n1 c1, .slice a2 n2 c2) W g c hF hlt hle hB4 hI4 h1 h2 h3
    obtain ⟨g, c, W7, hrun, hown, hgr, hat⟩ := appZ 27 Wb B hB4.bz (.slice ta nl tc) us hB4.ts gz hz4 (by have := hB4.lens; omega)
    have hul := HUL.out
    rw [hul] at hrun hown
    have HEND : Hid (post (.returned (.tuple #[])) ((put7 W7 g (nl * 7) (⟨yk, yn, yt, yo, ya⟩, .slice a1 n1 c1, .slice a2 n2 c2)).setCell ⟨bt, 6, none⟩ (.slice (some ⟨g, 0, none⟩) (nl + 1) c))) := HGO.out W7 g c hown hgr hat
    have hbt7 : W7.heap[bt]? = some (.cells #[.int .i64 (cx false).k, .int .i64 0, .string ⟨#[]⟩, .int .i64 0, .int .i64 0, vk, .slice ta nl tc] 29) := ((grown_belowJ hgr hB4.ts hB4.bz).block bt HPL.out.lbt.2).trans hB4.ht
    have f6 : W7.cell? ⟨bt, 6, none⟩ = some (.slice ta nl tc) := Lib.cell_of_heap hbt7 6
    have ff := Lib.frozen_of_heap hbt7
    have gf : ∀ j, W7.frozen? ⟨g, j, none⟩ = false := fun j => World.ownsRow.frozenAt hown j
    have hzc : ∀ j, j < 7 → W7.cell? ⟨g, nl * 7 + j, none⟩ = (tcells zU)[j]? := fun j hj => by
      rw [World.ownsRow.cellAt hown (nl * 7 + j) (by omega)]
      have h9 := tcs_at (us ++ [zU]) nl (by rw [List.length_append, hul]; simp) j hj
      rw [h9]
      have e9 : (us ++ [zU])[nl]'(by rw [List.length_append, hul]; simp) = zU := by
        rw [List.getElem_append_right (by omega)]
        simp
      rw [e9]
    have z0 : W7.cell? ⟨g, nl * 7, none⟩ = some (.int .i64 0) := hzc 0 (by omega)
    have z1 : W7.cell? ⟨g, nl * 7 + 1, none⟩ = some (.int .i64 0) := hzc 1 (by omega)
    have z2 : W7.cell? ⟨g, nl * 7 + 2, none⟩ = some (.string ⟨#[]⟩) := hzc 2 (by omega)
    have z3 : W7.cell? ⟨g, nl * 7 + 3, none⟩ = some (.int .i64 0) := hzc 3 (by omega)
    have z4 : W7.cell? ⟨g, nl * 7 + 4, none⟩ = some (.int .i64 0) := hzc 4 (by omega)
    have z5 : W7.cell? ⟨g, nl * 7 + 5, none⟩ = some (.slice none 0 0) := hzc 5 (by omega)
    have z6 : W7.cell? ⟨g, nl * 7 + 6, none⟩ = some (.slice none 0 0) := hzc 6 (by omega)
    have hgb : g ≠ bt := by
      have h9 := (ownR_blk (g := g) hown rfl).1
      have := HPL.out.lbt
      omega
    have HGB : Hid (g ≠ bt) := hgb
    have HN : Hid (nl ≤ 400) := by
      have := hB4.lens
      have := HUL.out
      show nl ≤ 400
      omega
    clear hgb hzc hown hgr hat hbt7 hI4 hz4 hB4 hF hlt hle HGO
    refine early_late _ _ _ _ (fun i hi => late6 hi) ?_
    refine wpAnyH_ready (rs := [6]) (by kernel_rfl) (by simp) (AllReadyH.cons (o := { dst := some 8, op := Op.call { callee := Callee.builtin Builtin.append, args := #[Operand.tmp 3, Operand.tmp 7], argTypes := #[27, 27] }, type := 27, pos := "parse.go:92", after := #[{ on := 1, ground := Ground.data }, { on := 5, ground := Ground.data }, { on := 3, ground := Ground.chain }, { on := 0, ground := Ground.phase }, { on := 1, ground := Ground.phase }, { on := 2, ground := Ground.phase }, { on := 3, ground := Ground.phase }, { on := 4, ground := Ground.phase }, { on := 5, ground := Ground.phase }], guard := none }) rfl (fun K hK => ?_) AllReadyH.nil)
    refine step_append_known rfl (.tmp 3) (.tmp 7) 27 rfl (.slice ta nl tc) (.slice (some ⟨gz, 0, none⟩) 1 1) (.slice (some ⟨g, 0, none⟩) (nl + 1) c) W7 (by simp [Act.eval]) (by simp [Act.eval]) hrun ?_
    refine hK.out _ _ trivial (fun _ => ?_)
    clear hK K
    try simp only [Act.put, List.setIfInBounds_toArray, List.set_cons_zero, List.set_cons_succ]
    clear hrun
    have hn1 : (0 : Int) ≤ (nl : Int) := by omega
    have hn2 : (nl : Int) < (nl : Int) + 1 := by omega
    refine wpAnyH_take (i := 7) (oi := { dst := some 9, op := Op.indexAddr 27 (Operand.tmp 8) (Operand.tmp 6), type := 0, pos := "parse.go:92", after := #[{ on := 6, ground := Ground.data }, { on := 4, ground := Ground.data }, { on := 0, ground := Ground.phase }, { on := 1, ground := Ground.phase }, { on := 2, ground := Ground.phase }, { on := 3, ground := Ground.phase }, { on := 4, ground := Ground.phase }, { on := 5, ground := Ground.phase }, { on := 6, ground := Ground.phase }, { on := 10, ground := Ground.gcOnly Departure.appendInPlace }], guard := none }) (v := ?_) rfl (by kernel_rfl) (by kernel_rfl) (by kernel_rfl) (fun _ _ _ h => h) (Or.inl ⟨by rfl, ?_⟩) trivial ?_
    rotate_left
    · intro wz _
      go_simp
      try with_reducible rfl
    try simp only [Act.put, List.setIfInBounds_toArray, List.set_cons_zero, List.set_cons_succ]
    refine wpAnyH_take (i := 9) (oi := { dst := some 10, op := Op.fieldAddr 29 (Operand.tmp 0) 2, type := 0, pos := "parse.go:92", after := #[{ on := 0, ground := Ground.phase }, { on := 1, ground := Ground.phase }, { on := 2, ground := Ground.phase }, { on := 3, ground := Ground.phase }, { on := 4, ground := Ground.phase }, { on := 5, ground := Ground.phase }, { on := 6, ground := Ground.phase }, { on := 7, ground := Ground.textOnly Departure.appendInPlace }, { on := 8, ground := Ground.textOnly Departure.appendInPlace }], guard := none }) (v := ?_) rfl (by kernel_rfl) (by kernel_rfl) (by kernel_rfl) (fun _ _ _ h => h) (Or.inl ⟨by rfl, ?_⟩) trivial ?_
    rotate_left
    · intro wz _
      go_simp
      try with_reducible rfl
    try simp only [Act.put, List.setIfInBounds_toArray, List.set_cons_zero, List.set_cons_succ]
    refine wpAnyH_ready (rs := [8, 10]) (by kernel_rfl) (by simp) (AllReadyH.cons (o := { dst := none, op := Op.store 29 (Operand.tmp 9) (Operand.tmp 5), type := 0, pos := "parse.go:92", after := #[{ on := 7, ground := Ground.data }, { on := 3, ground := Ground.data }, { on := 6, ground := Ground.chain }, { on := 0, ground := Ground.phase }, { on := 1, ground := Ground.phase }, { on := 2, ground := Ground.phase }, { on := 3, ground := Ground.phase }, { on := 4, ground := Ground.phase }, { on := 5, ground := Ground.phase }, { on := 6, ground := Ground.phase }, { on := 10, ground := Ground.gcOnly Departure.appendInPlace }], guard := none }) rfl (fun K hK => ?_) (AllReadyH.cons (o := { dst := none, op := Op.store 27 (Operand.tmp 10) (Operand.tmp 8), type := 0, pos := "parse.go:92", after := #[{ on := 9, ground := Ground.data }, { on := 6, ground := Ground.data }, { on := 6, ground := Ground.chain }, { on := 8, ground := Ground.textOnly Departure.appendInPlace }, { on := 0, ground := Ground.phase }, { on := 1, ground := Ground.phase }, { on := 2, ground := Ground.phase }, { on := 3, ground := Ground.phase }, { on := 4, ground := Ground.phase }, { on := 5, ground := Ground.phase }, { on := 6, ground := Ground.phase }, { on := 7, ground := Ground.textOnly Departure.appendInPlace }, { on := 8, ground := Ground.textOnly Departure.appendInPlace }], guard := none }) rfl (fun K hK => ?_) AllReadyH.nil))
    · go_simp
      refine hK.out _ _ trivial (fun _ => ?_)
      clear hK K
      try simp only [Act.put, List.setIfInBounds_toArray, List.set_cons_zero, List.set_cons_succ]
      have f6x : (put7 W7 g (nl * 7) (⟨yk, yn, yt, yo, ya⟩, .slice a1 n1 c1, .slice a2 n2 c2)).cell? ⟨bt, 6, none⟩ = some (.slice ta nl tc) := (World.cell?_of_block (put7_other _ _ _ _ _ (fun e => HGB.out e.symm))).trans f6
      have ffx : ∀ j, (put7 W7 g (nl * 7) (⟨yk, yn, yt, yo, ya⟩, .slice a1 n1 c1, .slice a2 n2 c2)).frozen? ⟨bt, j, none⟩ = false := fun j => (World.frozen?_of_block (a := ⟨bt, j, none⟩) (put7_other _ _ _ _ _ (fun e => HGB.out e.symm))).trans (ff j)
      clear f6 ff gf z0 z1 z2 z3 z4 z5 z6
      dsimp only [put7] at f6x ffx HEND
      generalize (((((((W7.setCell ⟨g, nl * 7, none⟩ (.int .i64 yk)).setCell ⟨g, nl * 7 + 1, none⟩ (.int .i64 yn)).setCell ⟨g, nl * 7 + 2, none⟩ (.string yt)).setCell ⟨g, nl * 7 + 3, none⟩ (.int .i64 yo)).setCell ⟨g, nl * 7 + 4, none⟩ (.int .i64 ya)).setCell ⟨g, nl * 7 + 5, none⟩ (.slice a1 n1 c1)).setCell ⟨g, nl * 7 + 6, none⟩ (.slice a2 n2 c2)) = X at f6x ffx HEND ⊢
      refine wpAnyH_ready (rs := [10]) (by kernel_rfl) (by simp) (AllReadyH.cons (o := { dst := none, op := Op.store 27 (Operand.tmp 10) (Operand.tmp 8), type := 0, pos := "parse.go:92", after := #[{ on := 9, ground := Ground.data }, { on := 6, ground := Ground.data }, { on := 6, ground := Ground.chain }, { on := 8, ground := Ground.textOnly Departure.appendInPlace }, { on := 0, ground := Ground.phase }, { on := 1, ground := Ground.phase }, { on := 2, ground := Ground.phase }, { on := 3, ground := Ground.phase }, { on := 4, ground := Ground.phase }, { on := 5, ground := Ground.phase }, { on := 6, ground := Ground.phase }, { on := 7, ground := Ground.textOnly Departure.appendInPlace }, { on := 8, ground := Ground.textOnly Departure.appendInPlace }], guard := none }) rfl (fun K hK => ?_) AllReadyH.nil)
      go_simp
      refine hK.out _ _ trivial (fun _ => ?_)
      clear hK K
      try simp only [Act.put, List.setIfInBounds_toArray, List.set_cons_zero, List.set_cons_succ]
      refine wpAnyH_done (by kernel_rfl) ?_ _
      refine PanQ.normal ?_
      go_wp2
      go_end0
      exact HEND.out
    · go_simp
      refine hK.out _ _ trivial (fun _ => ?_)
      clear hK K
      try simp only [Act.put, List.setIfInBounds_toArray, List.set_cons_zero, List.set_cons_succ]
      have y0 : (W7.setCell ⟨bt, 6, none⟩ (.slice (some ⟨g, 0, none⟩) (nl + 1) c)).cell? ⟨g, nl * 7, none⟩ = some (.int .i64 0) := (World.cell?_of_block (Below.heap_setCell _ _ _ _ (by simpa using HGB.out))).trans z0
      have y1 : (W7.setCell ⟨bt, 6, none⟩ (.slice (some ⟨g, 0, none⟩) (nl + 1) c)).cell? ⟨g, nl * 7 + 1, none⟩ = some (.int .i64 0) := (World.cell?_of_block (Below.heap_setCell _ _ _ _ (by simpa using HGB.out))).trans z1
      have y2 : (W7.setCell ⟨bt, 6, none⟩ (.slice (some ⟨g, 0, none⟩) (nl + 1) c)).cell? ⟨g, nl * 7 + 2, none⟩ = some (.string ⟨#[]⟩) := (World.cell?_of_block (Below.heap_setCell _ _ _ _ (by simpa using HGB.out))).trans z2
      have y3 : (W7.setCell ⟨bt, 6, none⟩ (.slice (some ⟨g, 0, none⟩) (nl + 1) c)).cell? ⟨g, nl * 7 + 3, none⟩ = some (.int .i64 0) := (World.cell?_of_block (Below.heap_setCell _ _ _ _ (by simpa using HGB.out))).trans z3
      have y4 : (W7.setCell ⟨bt, 6, none⟩ (.slice (some ⟨g, 0, none⟩) (nl + 1) c)).cell? ⟨g, nl * 7 + 4, none⟩ = some (.int .i64 0) := (World.cell?_of_block (Below.heap_setCell _ _ _ _ (by simpa using HGB.out))).trans z4
      have y5 : (W7.setCell ⟨bt, 6, none⟩ (.slice (some ⟨g, 0, none⟩) (nl + 1) c)).cell? ⟨g, nl * 7 + 5, none⟩ = some (.slice none 0 0) := (World.cell?_of_block (Below.heap_setCell _ _ _ _ (by simpa using HGB.out))).trans z5
      have y6 : (W7.setCell ⟨bt, 6, none⟩ (.slice (some ⟨g, 0, none⟩) (nl + 1) c)).cell? ⟨g, nl * 7 + 6, none⟩ = some (.slice none 0 0) := (World.cell?_of_block (Below.heap_setCell _ _ _ _ (by simpa using HGB.out))).trans z6
      have gfx : ∀ j, (W7.setCell ⟨bt, 6, none⟩ (.slice (some ⟨g, 0, none⟩) (nl + 1) c)).frozen? ⟨g, j, none⟩ = false := fun j => (World.frozen?_of_block (a := ⟨g, j, none⟩) (Below.heap_setCell _ _ _ _ (by simpa using HGB.out))).trans (gf j)
      rw [← put7_comm _ _ _ _ _ _ _ HGB.out] at HEND
      clear f6 ff gf z0 z1 z2 z3 z4 z5 z6
      generalize W7.setCell ⟨bt, 6, none⟩ (.slice (some ⟨g, 0, none⟩) (nl + 1) c) = Y at *
      refine wpAnyH_ready (rs := [8]) (by kernel_rfl) (by simp) (AllReadyH.cons (o := { dst := none, op := Op.store 29 (Operand.tmp 9) (Operand.tmp 5), type := 0, pos := "parse.go:92", after := #[{ on := 7, ground := Ground.data }, { on := 3, ground := Ground.data }, { on := 6, ground := Ground.chain }, { on := 0, ground := Ground.phase }, { on := 1, ground := Ground.phase }, { on := 2, ground := Ground.phase }, { on := 3, ground := Ground.phase }, { on := 4, ground := Ground.phase }, { on := 5, ground := Ground.phase }, { on := 6, ground := Ground.phase }, { on := 10, ground := Ground.gcOnly Departure.appendInPlace }], guard := none }) rfl (fun K hK => ?_) AllReadyH.nil)
      go_simp
      refine hK.out _ _ trivial (fun _ => ?_)
      clear hK K
      try simp only [Act.put, List.setIfInBounds_toArray, List.set_cons_zero, List.set_cons_succ]
      refine wpAnyH_done (by kernel_rfl) ?_ _
      refine PanQ.normal ?_
      dsimp only [put7] at HEND
      go_wp2
      go_end0
      exact HEND.out
  · go_simp
    have hB1 := HBO.out.below HPL.out (((Below.refl w.heap.size w).drew).alloc (Nat.le_refl _) zO)
    have c6' : (w.drew.alloc zO).cell? ⟨bt, 6, none⟩ = some (.slice ta nl tc) := Lib.cell_of_heap hB1.ht 6
    have cr' : (w.drew.alloc zO).cell? ⟨br, 0, none⟩ = some (.pointer (some ⟨p, 0, none⟩)) := Lib.cell_of_heap hB1.hr 0
    have hz1 : (w.drew.alloc zO).heap[w.heap.size]? = some zO := one_new w.drew zO
    have hlw : w.heap.size ≤ (w.drew.alloc zO).heap.size := by rw [sz_new]; exact Nat.le_succ _
    have hrw : Rk p w (w.drew.alloc zO) := Rk.of (((Below.refl w.heap.size w).drew).alloc (Nat.le_refl _) zO)
    have hgl : w.heap.size < (w.drew.alloc zO).heap.size := by rw [sz_new]; exact Nat.lt_succ_self _
    refine hK.out _ _ (fun _ => ⟨c6', cr'⟩) ?_
    clear hK K
    try simp only [Act.put, List.setIfInBounds_toArray, List.set_cons_zero, List.set_cons_succ]
    change wpAnyE _ _ _ _ _ _ _ _ _ (w.drew.alloc zO)
    generalize w.drew.alloc zO = Wa at *
    obtain ⟨gz, hgz⟩ : ∃ gz, w.heap.size = gz := ⟨_, rfl⟩
    rw [hgz] at hz1 hgl ⊢
    have HGZ : Hid (w.heap.size = gz) := hgz
    clear hgz
    refine early_step (i := 3) (o := { dst := some 5, op := Op.call { callee := Callee.value (Operand.func 10), args := #[Operand.tmp 4], argTypes := #[61] }, type := 29, pos := "parse.go:92", after := #[{ on := 2, ground := Ground.data }], guard := none }) (by kernel_rfl) rfl (fun K hK => ?_)
    go_simp
    go_at_call 10
    refine Calls.mono (ET Wa hB1) ?_
    rintro e w3 hT3
    rcases hT3 with ⟨u, T, k', rfl, hI, hF, hlt, hle, hrb, hrk⟩ | ⟨v, rfl, hIF, hno, hrk⟩
    rotate_left
    · go_wp2_with fail
      exact ⟨rfl, HBAD.out v w3 hIF hno (hrw.trans hrk)⟩
    obtain ⟨⟨yk, yn, yt, yo, ya⟩, a1, n1, c1, a2, n2, c2, hu⟩ := hI.plain.parts
    subst hu
    have hv3 : tval (⟨yk, yn, yt, yo, ya⟩, .slice a1 n1 c1, .slice a2 n2 c2) = .agg #[.int .i64 yk, .int .i64 yn, .string yt, .int .i64 yo, .int .i64 ya, .slice a1 n1 c1, .slice a2 n2 c2] := rfl
    rw [hv3]
    clear hv3
    go_wp2_with fail
    have hB4 := hB1.move HPL.out hrb (Nat.le_of_lt hlt) hle (Nat.le_add_right _ _) hF.gd.few hrk
    have c6'' : w3.cell? ⟨bt, 6, none⟩ = some (.slice ta nl tc) := Lib.cell_of_heap hB4.ht 6
    have cr'' : w3.cell? ⟨br, 0, none⟩ = some (.pointer (some ⟨p, 0, none⟩)) := Lib.cell_of_heap hB4.hr 0
    have hI4 : IsTP (fun b => w.heap.size ≤ b) w3 (tval (⟨yk, yn, yt, yo, ya⟩, .slice a1 n1 c1, .slice a2 n2 c2)) T := hI.move (Nat.le_refl _) (fun _ _ _ => rfl) (fun b h => Nat.le_trans hlw h)
    have hz4 : w3.heap[gz]? = some zO := by
      rw [hrk.block gz hgl (by have := HPL.out.lp; have := HBO.out.rk.size; have := HGZ.out; omega)]
      exact hz1
    refine hK.out _ _ (fun _ => ⟨c6'', cr''⟩) ?_
    clear hK K
    try simp only [Act.put, List.setIfInBounds_toArray, List.set_cons_zero, List.set_cons_succ]
    clear hB1 c6' cr' hz1 hlw hrw hgl HGZ hI hrb hrk
    generalize w3 = Wb at *
    have HGO : Hid (∀ W g c, W.ownsRow B 29 7 (.slice (some ⟨g, 0, none⟩) (nl + 1) c) (nl + 1) (tcs (us ++ [zU])) → Wb.grownBy W (Value.slice ta nl tc).ownBlock → ((Value.slice ta nl tc).ownBlock = some g ∨ g = Wb.heap.size) → post (.returned (.tuple #[])) ((put7 W g (nl * 7) (⟨yk, yn, yt, yo, ya⟩, .slice a1 n1 c1, .slice a2 n2 c2)).setCell ⟨bt, 6, none⟩ (.slice (some ⟨g, 0, none⟩) (nl + 1) c))) := fun W g c h1 h2 h3 => HGOOD.out k' T Wb (⟨yk, yn, yt, yo, ya⟩, .slice a1 n1 c1, .slice a2 n2 c2) W g c hF hlt hle hB4 hI4 h1 h2 h3
    obtain ⟨g, c, W7, hrun, hown, hgr, hat⟩ := appZ 27 Wb B hB4.bz (.slice ta nl tc) us hB4.ts gz hz4 (by have := hB4.lens; omega)
    have hul := HUL.out
    rw [hul] at hrun hown
    have HEND : Hid (post (.returned (.tuple #[])) ((put7 W7 g (nl * 7) (⟨yk, yn, yt, yo, ya⟩, .slice a1 n1 c1, .slice a2 n2 c2)).setCell ⟨bt, 6, none⟩ (.slice (some ⟨g, 0, none⟩) (nl + 1) c))) := HGO.out W7 g c hown hgr hat
    have hbt7 : W7.heap[bt]? = some (.cells #[.int .i64 (cx false).k, .int .i64 0, .string ⟨#[]⟩, .int .i64 0, .int .i64 0, vk, .slice ta nl tc] 29) := ((grown_belowJ hgr hB4.ts hB4.bz).block bt HPL.out.lbt.2).trans hB4.ht
    have f6 : W7.cell? ⟨bt, 6, none⟩ = some (.slice ta nl tc) := Lib.cell_of_heap hbt7 6
    have ff := Lib.frozen_of_heap hbt7
    have gf : ∀ j, W7.frozen? ⟨g, j, none⟩ = false := fun j => World.ownsRow.frozenAt hown j
    have hzc : ∀ j, j < 7 → W7.cell? ⟨g, nl * 7 + j, none⟩ = (tcells zU)[j]? := fun j hj => by
      rw [World.ownsRow.cellAt hown (nl * 7 + j) (by omega)]
      have h9 := tcs_at (us ++ [zU]) nl (by rw [List.length_append, hul]; simp) j hj
      rw [h9]
      have e9 : (us ++ [zU])[nl]'(by rw [List.length_append, hul]; simp) = zU := by
        rw [List.getElem_append_right (by omega)]
        simp
      rw [e9]
    have z0 : W7.cell? ⟨g, nl * 7, none⟩ = some (.int .i64 0) := hzc 0 (by omega)
    have z1 : W7.cell? ⟨g, nl * 7 + 1, none⟩ = some (.int .i64 0) := hzc 1 (by omega)
    have z2 : W7.cell? ⟨g, nl * 7 + 2, none⟩ = some (.string ⟨#[]⟩) := hzc 2 (by omega)
    have z3 : W7.cell? ⟨g, nl * 7 + 3, none⟩ = some (.int .i64 0) := hzc 3 (by omega)
    have z4 : W7.cell? ⟨g, nl * 7 + 4, none⟩ = some (.int .i64 0) := hzc 4 (by omega)
    have z5 : W7.cell? ⟨g, nl * 7 + 5, none⟩ = some (.slice none 0 0) := hzc 5 (by omega)
    have z6 : W7.cell? ⟨g, nl * 7 + 6, none⟩ = some (.slice none 0 0) := hzc 6 (by omega)
    have hgb : g ≠ bt := by
      have h9 := (ownR_blk (g := g) hown rfl).1
      have := HPL.out.lbt
      omega
    have HGB : Hid (g ≠ bt) := hgb
    have HN : Hid (nl ≤ 400) := by
      have := hB4.lens
      have := HUL.out
      show nl ≤ 400
      omega
    clear hgb hzc hown hgr hat hbt7 hI4 hz4 hB4 hF hlt hle HGO
    refine early_late _ _ _ _ (fun i hi => late6 hi) ?_
    refine wpAnyH_ready (rs := [6]) (by kernel_rfl) (by simp) (AllReadyH.cons (o := { dst := some 8, op := Op.call { callee := Callee.builtin Builtin.append, args := #[Operand.tmp 3, Operand.tmp 7], argTypes := #[27, 27] }, type := 27, pos := "parse.go:92", after := #[{ on := 1, ground := Ground.data }, { on := 5, ground := Ground.data }, { on := 3, ground := Ground.chain }, { on := 0, ground := Ground.phase }, { on := 1, ground := Ground.phase }, { on := 2, ground := Ground.phase }, { on := 3, ground := Ground.phase }, { on := 4, ground := Ground.phase }, { on := 5, ground := Ground.phase }], guard := none }) rfl (fun K hK => ?_) AllReadyH.nil)
    refine step_append_known rfl (.tmp 3) (.tmp 7) 27 rfl (.slice ta nl tc) (.slice (some ⟨gz, 0, none⟩) 1 1) (.slice (some ⟨g, 0, none⟩) (nl + 1) c) W7 (by simp [Act.eval]) (by simp [Act.eval]) hrun ?_
    refine hK.out _ _ trivial (fun _ => ?_)
    clear hK K
    try simp only [Act.put, List.setIfInBounds_toArray, List.set_cons_zero, List.set_cons_succ]
    clear hrun
    have hn1 : (0 : Int) ≤ (nl : Int) := by omega
    have hn2 : (nl : Int) < (nl : Int) + 1 := by omega
    refine wpAnyH_take (i := 7) (oi := { dst := some 9, op := Op.indexAddr 27 (Operand.tmp 8) (Operand.tmp 6), type := 0, pos := "parse.go:92", after := #[{ on := 6, ground := Ground.data }, { on := 4, ground := Ground.data }, { on := 0, ground := Ground.phase }, { on := 1, ground := Ground.phase }, { on := 2, ground := Ground.phase }, { on := 3, ground := Ground.phase }, { on := 4, ground := Ground.phase }, { on := 5, ground := Ground.phase }, { on := 6, ground := Ground.phase }, { on := 10, ground := Ground.gcOnly Departure.appendInPlace }], guard := none }) (v := ?_) rfl (by kernel_rfl) (by kernel_rfl) (by kernel_rfl) (fun _ _ _ h => h) (Or.inl ⟨by rfl, ?_⟩) trivial ?_
    rotate_left
    · intro wz _
      go_simp
      try with_reducible rfl
    try simp only [Act.put, List.setIfInBounds_toArray, List.set_cons_zero, List.set_cons_succ]
    refine wpAnyH_take (i := 9) (oi := { dst := some 10, op := Op.fieldAddr 29 (Operand.tmp 0) 2, type := 0, pos := "parse.go:92", after := #[{ on := 0, ground := Ground.phase }, { on := 1, ground := Ground.phase }, { on := 2, ground := Ground.phase }, { on := 3, ground := Ground.phase }, { on := 4, ground := Ground.phase }, { on := 5, ground := Ground.phase }, { on := 6, ground := Ground.phase }, { on := 7, ground := Ground.textOnly Departure.appendInPlace }, { on := 8, ground := Ground.textOnly Departure.appendInPlace }], guard := none }) (v := ?_) rfl (by kernel_rfl) (by kernel_rfl) (by kernel_rfl) (fun _ _ _ h => h) (Or.inl ⟨by rfl, ?_⟩) trivial ?_
    rotate_left
    · intro wz _
      go_simp
      try with_reducible rfl
    try simp only [Act.put, List.setIfInBounds_toArray, List.set_cons_zero, List.set_cons_succ]
    refine wpAnyH_ready (rs := [8, 10]) (by kernel_rfl) (by simp) (AllReadyH.cons (o := { dst := none, op := Op.store 29 (Operand.tmp 9) (Operand.tmp 5), type := 0, pos := "parse.go:92", after := #[{ on := 7, ground := Ground.data }, { on := 3, ground := Ground.data }, { on := 6, ground := Ground.chain }, { on := 0, ground := Ground.phase }, { on := 1, ground := Ground.phase }, { on := 2, ground := Ground.phase }, { on := 3, ground := Ground.phase }, { on := 4, ground := Ground.phase }, { on := 5, ground := Ground.phase }, { on := 6, ground := Ground.phase }, { on := 10, ground := Ground.gcOnly Departure.appendInPlace }], guard := none }) rfl (fun K hK => ?_) (AllReadyH.cons (o := { dst := none, op := Op.store 27 (Operand.tmp 10) (Operand.tmp 8), type := 0, pos := "parse.go:92", after := #[{ on := 9, ground := Ground.data }, { on := 6, ground := Ground.data }, { on := 6, ground := Ground.chain }, { on := 8, ground := Ground.textOnly Departure.appendInPlace }, { on := 0, ground := Ground.phase }, { on := 1, ground := Ground.phase }, { on := 2, ground := Ground.phase }, { on := 3, ground := Ground.phase }, { on := 4, ground := Ground.phase }, { on := 5, ground := Ground.phase }, { on := 6, ground := Ground.phase }, { on := 7, ground := Ground.textOnly Departure.appendInPlace }, { on := 8, ground := Ground.textOnly Departure.appendInPlace }], guard := none }) rfl (fun K hK => ?_) AllReadyH.nil))
    · go_simp
      refine hK.out _ _ trivial (fun _ => ?_)
      clear hK K
      try simp only [Act.put, List.setIfInBounds_toArray, List.set_cons_zero, List.set_cons_succ]
      have f6x : (put7 W7 g (nl * 7) (⟨yk, yn, yt, yo, ya⟩, .slice a1 n1 c1, .slice a2 n2 c2)).cell? ⟨bt, 6, none⟩ = some (.slice ta nl tc) := (World.cell?_of_block (put7_other _ _ _ _ _ (fun e => HGB.out e.symm))).trans f6
      have ffx : ∀ j, (put7 W7 g (nl * 7) (⟨yk, yn, yt, yo, ya⟩, .slice a1 n1 c1, .slice a2 n2 c2)).frozen? ⟨bt, j, none⟩ = false := fun j => (World.frozen?_of_block (a := ⟨bt, j, none⟩) (put7_other _ _ _ _ _ (fun e => HGB.out e.symm))).trans (ff j)
      clear f6 ff gf z0 z1 z2 z3 z4 z5 z6
      dsimp only [put7] at f6x ffx HEND
      generalize (((((((W7.setCell ⟨g, nl * 7, none⟩ (.int .i64 yk)).setCell ⟨g, nl * 7 + 1, none⟩ (.int .i64 yn)).setCell ⟨g, nl * 7 + 2, none⟩ (.string yt)).setCell ⟨g, nl * 7 + 3, none⟩ (.int .i64 yo)).setCell ⟨g, nl * 7 + 4, none⟩ (.int .i64 ya)).setCell ⟨g, nl * 7 + 5, none⟩ (.slice a1 n1 c1)).setCell ⟨g, nl * 7 + 6, none⟩ (.slice a2 n2 c2)) = X at f6x ffx HEND ⊢
      refine wpAnyH_ready (rs := [10]) (by kernel_rfl) (by simp) (AllReadyH.cons (o := { dst := none, op := Op.store 27 (Operand.tmp 10) (Operand.tmp 8), type := 0, pos := "parse.go:92", after := #[{ on := 9, ground := Ground.data }, { on := 6, ground := Ground.data }, { on := 6, ground := Ground.chain }, { on := 8, ground := Ground.textOnly Departure.appendInPlace }, { on := 0, ground := Ground.phase }, { on := 1, ground := Ground.phase }, { on := 2, ground := Ground.phase }, { on := 3, ground := Ground.phase }, { on := 4, ground := Ground.phase }, { on := 5, ground := Ground.phase }, { on := 6, ground := Ground.phase }, { on := 7, ground := Ground.textOnly Departure.appendInPlace }, { on := 8, ground := Ground.textOnly Departure.appendInPlace }], guard := none }) rfl (fun K hK => ?_) AllReadyH.nil)
      go_simp
      refine hK.out _ _ trivial (fun _ => ?_)
      clear hK K
      try simp only [Act.put, List.setIfInBounds_toArray, List.set_cons_zero, List.set_cons_succ]
      refine wpAnyH_done (by kernel_rfl) ?_ _
      refine PanQ.normal ?_
      go_wp2
      go_end0
      exact HEND.out
    · go_simp
      refine hK.out _ _ trivial (fun _ => ?_)
      clear hK K
      try simp only [Act.put, List.setIfInBounds_toArray, List.set_cons_zero, List.set_cons_succ]
      have y0 : (W7.setCell ⟨bt, 6, none⟩ (.slice (some ⟨g, 0, none⟩) (nl + 1) c)).cell? ⟨g, nl * 7, none⟩ = some (.int .i64 0) := (World.cell?_of_block (Below.heap_setCell _ _ _ _ (by simpa using HGB.out))).trans z0
      have y1 : (W7.setCell ⟨bt, 6, none⟩ (.slice (some ⟨g, 0, none⟩) (nl + 1) c)).cell? ⟨g, nl * 7 + 1, none⟩ = some (.int .i64 0) := (World.cell?_of_block (Below.heap_setCell _ _ _ _ (by simpa using HGB.out))).trans z1
      have y2 : (W7.setCell ⟨bt, 6, none⟩ (.slice (some ⟨g, 0, none⟩) (nl + 1) c)).cell? ⟨g, nl * 7 + 2, none⟩ = some (.string ⟨#[]⟩) := (World.cell?_of_block (Below.heap_setCell _ _ _ _ (by simpa using HGB.out))).trans z2
      have y3 : (W7.setCell ⟨bt, 6, none⟩ (.slice (some ⟨g, 0, none⟩) (nl + 1) c)).cell? ⟨g, nl * 7 + 3, none⟩ = some (.int .i64 0) := (World.cell?_of_block (Below.heap_setCell _ _ _ _ (by simpa using HGB.out))).trans z3
      have y4 : (W7.setCell ⟨bt, 6, none⟩ (.slice (some ⟨g, 0, none⟩) (nl + 1) c)).cell? ⟨g, nl * 7 + 4, none⟩ = some (.int .i64 0) := (World.cell?_of_block (Below.heap_setCell _ _ _ _ (by simpa using HGB.out))).trans z4
      have y5 : (W7.setCell ⟨bt, 6, none⟩ (.slice (some ⟨g, 0, none⟩) (nl + 1) c)).cell? ⟨g, nl * 7 + 5, none⟩ = some (.slice none 0 0) := (World.cell?_of_block (Below.heap_setCell _ _ _ _ (by simpa using HGB.out))).trans z5
      have y6 : (W7.setCell ⟨bt, 6, none⟩ (.slice (some ⟨g, 0, none⟩) (nl + 1) c)).cell? ⟨g, nl * 7 + 6, none⟩ = some (.slice none 0 0) := (World.cell?_of_block (Below.heap_setCell _ _ _ _ (by simpa using HGB.out))).trans z6
      have gfx : ∀ j, (W7.setCell ⟨bt, 6, none⟩ (.slice (some ⟨g, 0, none⟩) (nl + 1) c)).frozen? ⟨g, j, none⟩ = false := fun j => (World.frozen?_of_block (a := ⟨g, j, none⟩) (Below.heap_setCell _ _ _ _ (by simpa using HGB.out))).trans (gf j)
      rw [← put7_comm _ _ _ _ _ _ _ HGB.out] at HEND
      clear f6 ff gf z0 z1 z2 z3 z4 z5 z6
      generalize W7.setCell ⟨bt, 6, none⟩ (.slice (some ⟨g, 0, none⟩) (nl + 1) c) = Y at *
      refine wpAnyH_ready (rs := [8]) (by kernel_rfl) (by simp) (AllReadyH.cons (o := { dst := none, op := Op.store 29 (Operand.tmp 9) (Operand.tmp 5), type := 0, pos := "parse.go:92", after := #[{ on := 7, ground := Ground.data }, { on := 3, ground := Ground.data }, { on := 6, ground := Ground.chain }, { on := 0, ground := Ground.phase }, { on := 1, ground := Ground.phase }, { on := 2, ground := Ground.phase }, { on := 3, ground := Ground.phase }, { on := 4, ground := Ground.phase }, { on := 5, ground := Ground.phase }, { on := 6, ground := Ground.phase }, { on := 10, ground := Ground.gcOnly Departure.appendInPlace }], guard := none }) rfl (fun K hK => ?_) AllReadyH.nil)
      go_simp
      refine hK.out _ _ trivial (fun _ => ?_)
      clear hK K
      try simp only [Act.put, List.setIfInBounds_toArray, List.set_cons_zero, List.set_cons_succ]
      refine wpAnyH_done (by kernel_rfl) ?_ _
      refine PanQ.normal ?_
      dsimp only [put7] at HEND
      go_wp2
      go_end0
      exact HEND.out
end Go.Proofs.YtnmdhbejjjmdeaaGreatDoor
