/-
  What is proved: the function that reads one thing of a map keeps to what json's reader asks of it.
  Conditions: trees that stand farther on are read, or a fault is thrown.
-/
import Derived.Test.YtnmdhbejjjmdeaaGreatDoorJXC2
namespace Go.Proofs.YtnmdhbejjjmdeaaGreatDoor
open Go.RowKit Go.Sort

/-- Only those from the eighth on are left. -/
theorem late8 {i : Nat} {a : Array Bool} (h : a.getD i true = false) (ha : ∀ q : Fin 8, a.getD q.val true = true := by decide +kernel) : decide (8 ≤ i) = true := by
  rcases Nat.lt_or_ge i 8 with h6 | h6
  · have h8 := ha ⟨i, h6⟩
    simp only at h8
    rw [h] at h8
    cases h8
  · simpa using h6
theorem lft_add (s : ByteArray) (k n : Nat) : lft s (k + n) = (lft s k).drop n := by
  unfold lft
  rw [List.drop_drop]
theorem qtd_lft {s : ByteArray} {k n : Nat} {t : List UInt8} (h : qtd 20 (lft s k) = some (t, n)) : lft s k = quote t ++ lft s (k + n) ∧ t.length ≤ 20 := by
  obtain ⟨h1, rest, h2, h3⟩ := qtd_back h
  refine ⟨?_, h1⟩
  rw [lft_add, h2, h3, List.drop_left' rfl]
theorem no_key {R : Nat → Nat → Rs (JT × Nat)} {s : ByteArray} {ks : List ByteArray} {k m : Nat} (h : ∀ t n, qtd 20 (lft s k) = some (t, n) → ¬ keyOk ks t) : rdOne R true s ks k m = .error (k, 2) := by
  unfold rdOne
  rw [if_pos rfl]
  cases hq : qtd 20 (lft s k) with
  | none => rfl
  | some x =>
    obtain ⟨t, n⟩ := x
    simp only
    rw [if_neg (fun e => h t n hq ((keyOkB_iff ks t).1 e))]
theorem no_sign {R : Nat → Nat → Rs (JT × Nat)} {s : ByteArray} {ks : List ByteArray} {k m n : Nat} {t : List UInt8} (hq : qtd 20 (lft s k) = some (t, n)) (hok : keyOk ks t) (hno : preB s (k + n) ⟨#[58]⟩ = false) : rdOne R true s ks k m = .error (k + n, 2) := by
  unfold rdOne
  rw [if_pos rfl, hq]
  simp only
  rw [if_pos ((keyOkB_iff ks t).2 hok), if_neg (by rw [hno]; decide)]
theorem no_tree {R : Nat → Nat → Rs (JT × Nat)} {s : ByteArray} {ks : List ByteArray} {k m n : Nat} {t : List UInt8} {x : Nat × Int} (hq : qtd 20 (lft s k) = some (t, n)) (hok : keyOk ks t) (hc : preB s (k + n) ⟨#[58]⟩ = true) (hr : R (k + n + 1) m = .error x) : rdOne R true s ks k m = .error x := by
  unfold rdOne
  rw [if_pos rfl, hq]
  simp only
  rw [if_pos ((keyOkB_iff ks t).2 hok), if_pos hc, hr]
  rfl
theorem key_one {R : Nat → Nat → Rs (JT × Nat)} {s : ByteArray} {ks : List ByteArray} {k m n k' : Nat} {t : List UInt8} {T : JT} (hq : qtd 20 (lft s k) = some (t, n)) (hok : keyOk ks t) (hc : preB s (k + n) ⟨#[58]⟩ = true) (hr : R (k + n + 1) m = .ok (T, k')) : rdOne R true s ks k m = .ok (⟨t.toArray⟩, T, k') := by
  unfold rdOne
  rw [if_pos rfl, hq]
  simp only
  rw [if_pos ((keyOkB_iff ks t).2 hok), if_pos hc, hr]
  rfl

set_option maxRecDepth 100000 in
set_option maxHeartbeats 8000000 in
theorem map1_any {s : ByteArray} {p bt br B : Nat} {wv w0 : World} {k0 n : Nat} (hp : Pl p bt br B w0) (hT : TreeC wv p s n) (hn : s.size - k0 < n) (hwv : wv.heap.size ≤ p) (hb0 : Below wv.heap.size wv w0) (hs : s.size ≤ 60000) (x : Sg) (k m : Nat) (w : World) (hJ : Jx true s p bt br B w0 k0 x k m w) :
    Calls Tryz.prog 40 #[.pointer (some ⟨bt, 0, none⟩), .pointer (some ⟨br, 0, none⟩)] w fun e w' => OneP n true s p bt br B w0 k0 x k m e w' := by
  obtain ⟨hkl, vk, vt, us, hBo⟩ := hJ
  obtain ⟨ta, tc, rfl⟩ : ∃ ta tc, vt = .slice ta us.length tc := by
    rcases own_rowB hBo.ts with ⟨e, h0⟩ | ⟨g, cap, e, _⟩
    · exact ⟨none, 0, by rw [e, h0]; rfl⟩
    · exact ⟨_, _, e⟩
  obtain ⟨ka, kc, rfl⟩ : ∃ ka kc, vk = .slice ka x.1.length kc := by
    rcases hBo.ks.2 with ⟨e, h0⟩ | ⟨g, cap, cur, e, _⟩
    · exact ⟨none, 0, by rw [e, h0]⟩
    · exact ⟨_, _, e⟩
  obtain ⟨post, hpost⟩ : ∃ post, post = OneP n true s p bt br B w0 k0 x k m := ⟨_, rfl⟩
  rw [← hpost]
  have HPO : Hid (post = OneP n true s p bt br B w0 k0 x k m) := hpost
  have HPL : Hid (Pl p bt br B w0) := hp
  have HLK : Hid (x.1.length ≤ x.2.length ∧ s.size ≤ 60000 ∧ s.size - k0 < n ∧ wv.heap.size ≤ p ∧ Below wv.heap.size wv w0 ∧ TreeC wv p s n) := ⟨hkl, hs, hn, hwv, hb0, hT⟩
  have HAP : Hid (∀ b off, ka = some ⟨b, off, none⟩ → b ≠ p) := fun b off e => by
    subst e
    rcases hBo.ks.2 with ⟨e, h0⟩ | ⟨g, cap, cur, e, hg, _⟩
    · cases e
    · have e2 := (Value.slice.inj e).1
      have e3 : b = g := by injection e2 with e2; injection e2
      have := hp.lp
      have := hp.lbt
      omega
  have HEK : Hid (∀ W, Bo true s p bt br B w0 k0 x k m (.slice ka x.1.length kc) (.slice ta us.length tc) us W → Calls Tryz.prog 41 #[.pointer (some ⟨p, 0, none⟩), .slice ka x.1.length kc] W fun e w' => KeyP W p s k m x.1 e w') := fun W h =>
    key_any p s k m ka kc x.1 W h.rb h.le hs (by
      obtain ⟨a, cap, e, g1, g2, g3⟩ := own_strs h.ks (by have := h.lens; omega)
      exact ⟨a, cap, e, g1, g2, fun hl => by obtain ⟨b, off, e1, h4, _, h5⟩ := g3 hl; exact ⟨b, off, e1, h4, h5⟩⟩) HAP.out (by have := h.lens; omega)
  obtain ⟨kn, hkn⟩ : ∃ kn, x.1.length = kn := ⟨_, rfl⟩
  rw [hkn] at HEK
  have HKN : Hid (x.1.length = kn) := hkn
  obtain ⟨nl, hnl⟩ : ∃ nl, us.length = nl := ⟨_, rfl⟩
  rw [hnl] at HEK hBo
  rw [hkn] at hBo
  have HUL : Hid (us.length = nl) := hnl
  have HBO : Hid (Bo true s p bt br B w0 k0 x k m (.slice ka kn kc) (.slice ta nl tc) us w) := hBo
  have HBADK : Hid (∀ W, (∀ t n, qtd 20 (lft s k) = some (t, n) → ¬ keyOk x.1 t) → Rk p w W → post (.panicked [{ v := faultV k 2, recovered := false }]) W) := by
    intro W h1 h2
    rw [HPO.out]
    exact Or.inr ⟨_, rfl, ⟨k, 2, rfl, no_key h1⟩, hBo.rk.trans h2⟩
  have c5 : w.cell? ⟨bt, 5, none⟩ = some (.slice ka kn kc) := Lib.cell_of_heap hBo.ht 5
  have cr : w.cell? ⟨br, 0, none⟩ = some (.pointer (some ⟨p, 0, none⟩)) := Lib.cell_of_heap hBo.hr 0
  have EK := HEK.out
  clear hpost hp hT hn hwv hb0 hkl hBo hnl hkn HEK hs
  go_enter Tryz.func40, Tryz.ntmps40
  go_wp2_with fail
  refine wp_region_pan post (fun _ _ _ h => h) ?_
  refine early_begin (S := fun W => W.cell? ⟨bt, 5, none⟩ = some (.slice ka kn kc) ∧ W.cell? ⟨br, 0, none⟩ = some (.pointer (some ⟨p, 0, none⟩))) (late := fun k => decide (8 ≤ k)) (by kernel_rfl) ?_
  refine early_take (i := 0) (oi := { dst := some 2, op := Op.fieldAddr 29 (Operand.tmp 0) 1, type := 0, pos := "parse.go:83", after := #[], guard := none }) (v := ?_) rfl (by kernel_rfl) (by kernel_rfl) (by kernel_rfl) (by decide) (by kernel_rfl) (fun _ _ _ h => h) (Or.inl ⟨by rfl, ?_⟩) ⟨c5, cr⟩ ?_
  rotate_left
  · intro wz hSw
    try dsimp only at hSw
    go_simp
    try with_reducible rfl
  try simp only [Act.put, List.setIfInBounds_toArray, List.set_cons_zero, List.set_cons_succ]
  refine early_take (i := 1) (oi := { dst := some 3, op := Op.load 26 (Operand.tmp 2), type := 26, pos := "parse.go:83", after := #[{ on := 0, ground := Ground.data }], guard := none }) (v := ?_) rfl (by kernel_rfl) (by kernel_rfl) (by kernel_rfl) (by decide) (by kernel_rfl) (fun _ _ _ h => h) (Or.inl ⟨by rfl, ?_⟩) ⟨c5, cr⟩ ?_
  rotate_left
  · intro wz hSw
    try dsimp only at hSw
    go_simp
    try with_reducible rfl
  try simp only [Act.put, List.setIfInBounds_toArray, List.set_cons_zero, List.set_cons_succ]
  refine early_take (i := 2) (oi := { dst := some 4, op := Op.load 61 (Operand.tmp 1), type := 61, pos := "parse.go:83", after := #[], guard := none }) (v := ?_) rfl (by kernel_rfl) (by kernel_rfl) (by kernel_rfl) (by decide) (by kernel_rfl) (fun _ _ _ h => h) (Or.inl ⟨by rfl, ?_⟩) ⟨c5, cr⟩ ?_
  rotate_left
  · intro wz hSw
    try dsimp only at hSw
    go_simp
    try with_reducible rfl
  try simp only [Act.put, List.setIfInBounds_toArray, List.set_cons_zero, List.set_cons_succ]
  refine early_take (i := 3) (oi := { dst := some 5, op := Op.fieldAddr 29 (Operand.tmp 0) 1, type := 0, pos := "parse.go:83", after := #[], guard := none }) (v := ?_) rfl (by kernel_rfl) (by kernel_rfl) (by kernel_rfl) (by decide) (by kernel_rfl) (fun _ _ _ h => h) (Or.inl ⟨by rfl, ?_⟩) ⟨c5, cr⟩ ?_
  rotate_left
  · intro wz hSw
    try dsimp only at hSw
    go_simp
    try with_reducible rfl
  try simp only [Act.put, List.setIfInBounds_toArray, List.set_cons_zero, List.set_cons_succ]
  refine early_take (i := 4) (oi := { dst := some 6, op := Op.load 26 (Operand.tmp 5), type := 26, pos := "parse.go:83", after := #[{ on := 3, ground := Ground.data }], guard := none }) (v := ?_) rfl (by kernel_rfl) (by kernel_rfl) (by kernel_rfl) (by decide) (by kernel_rfl) (fun _ _ _ h => h) (Or.inl ⟨by rfl, ?_⟩) ⟨c5, cr⟩ ?_
  rotate_left
  · intro wz hSw
    try dsimp only at hSw
    go_simp
    try with_reducible rfl
  try simp only [Act.put, List.setIfInBounds_toArray, List.set_cons_zero, List.set_cons_succ]
  refine early_step (i := 5) (o := { dst := some 7, op := Op.call { callee := Callee.value (Operand.func 41), args := #[Operand.tmp 4, Operand.tmp 6], argTypes := #[61, 26] }, type := 9, pos := "parse.go:83", after := #[{ on := 2, ground := Ground.data }, { on := 4, ground := Ground.data }], guard := none }) (by kernel_rfl) rfl (fun K hK => ?_)
  go_simp
  go_at_call 41
  refine Calls.mono (EK w.drew HBO.out.drw) ?_
  rintro e w3 hK3
  rcases hK3 with ⟨t, n5, hq, hok, rfl, hrb, hle, hrk⟩ | ⟨hno, rfl, hrk⟩
  rotate_left
  · go_wp2_with fail
    exact ⟨rfl, HBADK.out w3 hno hrk.undrew⟩
  obtain ⟨key, hkey⟩ : ∃ key : ByteArray, key = ⟨t.toArray⟩ := ⟨_, rfl⟩
  rw [← hkey]
  have HKY : Hid (key = ⟨t.toArray⟩ ∧ qtd 20 (lft s k) = some (t, n5) ∧ keyOk x.1 t ∧ k + n5 ≤ s.size) := ⟨hkey, hq, hok, hle⟩
  clear hkey hq hok
  go_wp2_with fail
  have hB3 := HBO.out.move HPL.out hrb (Nat.le_add_right _ _) hle (Nat.le_refl _) HBO.out.few hrk.undrew
  have c5' : w3.cell? ⟨bt, 5, none⟩ = some (.slice ka kn kc) := Lib.cell_of_heap hB3.ht 5
  have cr' : w3.cell? ⟨br, 0, none⟩ = some (.pointer (some ⟨p, 0, none⟩)) := Lib.cell_of_heap hB3.hr 0
  refine hK.out _ _ (fun _ => ⟨c5', cr'⟩) ?_
  clear hK K
  try simp only [Act.put, List.setIfInBounds_toArray, List.set_cons_zero, List.set_cons_succ]
  have hB4 := hB3.below HPL.out ((Below.refl w3.heap.size w3).alloc (Nat.le_refl _) (.cells #[.string key] 9))
  have hz4 : (w3.alloc (.cells #[.string key] 9)).heap[w3.heap.size]? = some (.cells #[.string key] 9) := one_new w3 _
  have c5'' : (w3.alloc (.cells #[.string key] 9)).cell? ⟨bt, 5, none⟩ = some (.slice ka kn kc) := Lib.cell_of_heap hB4.ht 5
  have cr'' : (w3.alloc (.cells #[.string key] 9)).cell? ⟨br, 0, none⟩ = some (.pointer (some ⟨p, 0, none⟩)) := Lib.cell_of_heap hB4.hr 0
  clear hB3 c5' cr' hrb hrk hle
  refine early_step (i := 6) (o := { dst := some 8, op := Op.buildSlice 26 1 #[(0, Operand.tmp 7)], type := 26, pos := "parse.go:83", after := #[{ on := 5, ground := Ground.data }], guard := none }) (by kernel_rfl) rfl (fun K hK => ?_)
  go_simp
  refine hK.out _ _ (fun _ => ⟨c5'', cr''⟩) ?_
  clear hK K
  try simp only [Act.put, List.setIfInBounds_toArray, List.set_cons_zero, List.set_cons_succ]
  generalize w3.alloc (.cells #[.string key] 9) = Wb at *
  obtain ⟨gz, hgz⟩ : ∃ gz, w3.heap.size = gz := ⟨_, rfl⟩
  rw [hgz] at hz4 ⊢
  clear hgz
  have hkl4 := HKN.out
  obtain ⟨g5, cc5, W5, hrun, hown, hgr, hat⟩ := appK 26 Wb B hB4.bz (.slice ka kn kc) x.1 hB4.ks gz key hz4 (by have := hB4.lens; omega)
  have hB5 := hB4.addK HPL.out HLK.out.1 hown hgr hat
  rw [hkl4] at hrun hB5
  have hbt7 : W5.heap[bt]? = some (.cells #[.int .i64 (cx true).k, .int .i64 0, .string ⟨#[]⟩, .int .i64 0, .int .i64 0, .slice ka kn kc, .slice ta nl tc] 29) := ((grown_belowJ hgr hB4.ks hB4.bz).block bt HPL.out.lbt.2).trans hB4.ht
  have f5 : W5.cell? ⟨bt, 5, none⟩ = some (.slice ka kn kc) := Lib.cell_of_heap hbt7 5
  have ff := Lib.frozen_of_heap hbt7
  have cr5 : W5.cell? ⟨br, 0, none⟩ = some (.pointer (some ⟨p, 0, none⟩)) := Lib.cell_of_heap (((grown_belowJ hgr hB4.ks hB4.bz).block br HPL.out.lbr.2).trans hB4.hr) 0
  have HB5 : Hid (Bo true s p bt br B w0 k0 (x.1 ++ [key], x.2) (k + n5) m (.slice (some ⟨g5, 0, none⟩) (kn + 1) cc5) (.slice ta nl tc) us (W5.setCell ⟨bt, 5, none⟩ (.slice (some ⟨g5, 0, none⟩) (kn + 1) cc5))) := hB5
  clear hB5 hbt7 hown hgr hat hB4 hz4 hkl4
  refine early_step (i := 7) (o := { dst := some 9, op := Op.call { callee := Callee.builtin Builtin.append, args := #[Operand.tmp 3, Operand.tmp 8], argTypes := #[26, 26] }, type := 26, pos := "parse.go:83", after := #[{ on := 1, ground := Ground.data }, { on := 6, ground := Ground.data }, { on := 5, ground := Ground.chain }], guard := none }) (by kernel_rfl) rfl (fun K hK => ?_)
  refine step_append_known rfl (.tmp 3) (.tmp 8) 26 rfl (.slice ka kn kc) (.slice (some ⟨gz, 0, none⟩) 1 1) (.slice (some ⟨g5, 0, none⟩) (kn + 1) cc5) W5 (by simp [Act.eval]) (by simp [Act.eval]) hrun ?_
  refine hK.out _ _ (fun _ => ⟨f5, cr5⟩) ?_
  clear hK K
  try simp only [Act.put, List.setIfInBounds_toArray, List.set_cons_zero, List.set_cons_succ]
  clear hrun
  refine early_late _ _ _ _ (fun i hi => late8 hi) ?_
  refine wpAnyH_take (i := 8) (oi := { dst := some 10, op := Op.fieldAddr 29 (Operand.tmp 0) 1, type := 0, pos := "parse.go:83", after := #[{ on := 0, ground := Ground.phase }, { on := 1, ground := Ground.phase }, { on := 2, ground := Ground.phase }, { on := 3, ground := Ground.phase }, { on := 4, ground := Ground.phase }, { on := 5, ground := Ground.phase }, { on := 6, ground := Ground.phase }, { on := 7, ground := Ground.phase }], guard := none }) (v := ?_) rfl (by kernel_rfl) (by kernel_rfl) (by kernel_rfl) (fun _ _ _ h => h) (Or.inl ⟨by rfl, ?_⟩) trivial ?_
  rotate_left
  · intro wz _
    go_simp
    try with_reducible rfl
  try simp only [Act.put, List.setIfInBounds_toArray, List.set_cons_zero, List.set_cons_succ]
  refine wpAnyH_ready (rs := [9]) (by kernel_rfl) (by simp) (AllReadyH.cons (o := { dst := none, op := Op.store 26 (Operand.tmp 10) (Operand.tmp 9), type := 0, pos := "parse.go:83", after := #[{ on := 8, ground := Ground.data }, { on := 7, ground := Ground.data }, { on := 7, ground := Ground.chain }, { on := 0, ground := Ground.phase }, { on := 1, ground := Ground.phase }, { on := 2, ground := Ground.phase }, { on := 3, ground := Ground.phase }, { on := 4, ground := Ground.phase }, { on := 5, ground := Ground.phase }, { on := 6, ground := Ground.phase }, { on := 7, ground := Ground.phase }], guard := none }) rfl (fun K hK => ?_) AllReadyH.nil)
  go_simp
  refine hK.out _ _ trivial (fun _ => ?_)
  clear hK K
  try simp only [Act.put, List.setIfInBounds_toArray, List.set_cons_zero, List.set_cons_succ]
  refine wpAnyH_done (by kernel_rfl) ?_ _
  refine PanQ.normal ?_
  clear c5 cr f5 ff EK HBADK cr5 c5'' cr''
  generalize W5.setCell ⟨bt, 5, none⟩ (.slice (some ⟨g5, 0, none⟩) (kn + 1) cc5) = Wk at *
  have cr : Wk.cell? ⟨br, 0, none⟩ = some (.pointer (some ⟨p, 0, none⟩)) := Lib.cell_of_heap HB5.out.hr 0
  have EN := need_any p s (k + n5) m ⟨#[58]⟩ Wk HB5.out.rb HB5.out.le HLK.out.2.1 (by decide)
  go_wp2_with fail
  go_fit EN
  rintro e wn hN
  clear EN cr
  rcases hN with ⟨hc, rfl, hrb, hrk⟩ | ⟨hc, rfl, hrk⟩
  rotate_left
  · have HEND : Hid (post (.panicked [{ v := faultV (k + n5) 2, recovered := false }]) wn) := by
      show post _ _
      rw [HPO.out]
      exact Or.inr ⟨_, rfl, ⟨k + n5, 2, rfl, no_sign HKY.out.2.1 HKY.out.2.2.1 hc⟩, HB5.out.rk.trans hrk⟩
    clear hc hrk
    go_wp2
    exact ⟨rfl, HEND.out⟩
  obtain ⟨k2, hk2⟩ : ∃ k2, k + n5 + 1 = k2 := ⟨_, rfl⟩
  have hBn : Bo true s p bt br B w0 k0 (x.1 ++ [key], x.2) k2 m (.slice (some ⟨g5, 0, none⟩) (kn + 1) cc5) (.slice ta nl tc) us wn := by
    rw [← hk2]
    exact HB5.out.move HPL.out hrb (Nat.le_add_right _ _) (pre_room hc rfl) (Nat.le_refl _) HB5.out.few hrk
  have HBN : Hid (Bo true s p bt br B w0 k0 (x.1 ++ [key], x.2) k2 m (.slice (some ⟨g5, 0, none⟩) (kn + 1) cc5) (.slice ta nl tc) us wn) := hBn
  have HET : Hid (∀ W, Bo true s p bt br B w0 k0 (x.1 ++ [key], x.2) k2 m (.slice (some ⟨g5, 0, none⟩) (kn + 1) cc5) (.slice ta nl tc) us W → Calls Tryz.prog 10 #[.pointer (some ⟨p, 0, none⟩)] W fun e w' => TreeP n p s k2 m W e w') := fun W h => HLK.out.2.2.2.2.2 k2 m W (by have := h.ge; have := HLK.out.2.2.1; omega) h.rb h.le h.few (h.rk.low HLK.out.2.2.2.1 HLK.out.2.2.2.2.1)
  have HBAD : Hid (∀ v W, True → NoX n s k2 m v → Rk p wn W → post (.panicked [{ v := v, recovered := false }]) W) := by
    intro v W _ h2 h3
    rw [HPO.out]
    rw [← hk2] at h2
    obtain ⟨kf, fe, rfl, hrr⟩ := h2
    exact Or.inr ⟨_, rfl, ⟨kf, fe, rfl, no_tree HKY.out.2.1 HKY.out.2.2.1 hc hrr⟩, hBn.rk.trans h3⟩
  have HGOOD : Hid (∀ (k' : Nat) (T : JT) (Wb : World) (u : TV) (W : World) (g c : Nat), FX n s k2 m T k' → k2 < k' → k' ≤ s.size → Bo true s p bt br B w0 k0 (x.1 ++ [key], x.2) k' (m + T.size) (.slice (some ⟨g5, 0, none⟩) (kn + 1) cc5) (.slice ta nl tc) us Wb → IsTP (fun b => wn.heap.size ≤ b) Wb (tval u) T → W.ownsRow B 29 7 (.slice (some ⟨g, 0, none⟩) (nl + 1) c) (nl + 1) (tcs (us ++ [zU])) → Wb.grownBy W (Value.slice ta nl tc).ownBlock → ((Value.slice ta nl tc).ownBlock = some g ∨ g = Wb.heap.size) → post (.returned (.tuple #[])) ((put7 W g (nl * 7) u).setCell ⟨bt, 6, none⟩ (.slice (some ⟨g, 0, none⟩) (nl + 1) c))) := by
    intro k' T Wb u W g c h1 h2 h3 h4 h5 h6 h7 h8
    rw [HPO.out]
    have hsz := hBn.sz
    have e := HUL.out
    have h9 := h4.addT (u := u) (T := T) (N := wn.heap.size) HPL.out (by rw [e]; exact h6) h7 h8 h5 ⟨hBn.bz, fun b hb => (ownR_blk hBn.ks hb).2.1, fun b hb => (ownR_blk hBn.ts hb).2.1⟩ (by simp only at hsz ⊢; omega)
    rw [e] at h9
    rw [← hk2] at h1
    have hf := key_one (R := rdT n s) HKY.out.2.1 HKY.out.2.2.1 hc h1.ok
    rw [← HKY.out.1] at hf
    refine Or.inl ⟨(x.1 ++ [key], x.2 ++ [T]), k', m + T.size, rfl, ⟨key, T, hf, by omega, h3, rfl, rfl⟩, by omega, ?_, _, _, _, h9⟩
    have := HLK.out.1
    simp
    omega
  have c6 : wn.cell? ⟨bt, 6, none⟩ = some (.slice ta nl tc) := Lib.cell_of_heap hBn.ht 6
  have cr : wn.cell? ⟨br, 0, none⟩ = some (.pointer (some ⟨p, 0, none⟩)) := Lib.cell_of_heap hBn.hr 0
  have ET := HET.out
  clear hBn HET hc hrb hrk hk2 HB5 HBO
  have HBO := HBN
  clear HBN
  go_wp2_with fail
  refine wp_region_pan post (fun _ _ _ h => h) ?_
  refine early_begin (S := fun W => W.cell? ⟨bt, 6, none⟩ = some (.slice ta nl tc) ∧ W.cell? ⟨br, 0, none⟩ = some (.pointer (some ⟨p, 0, none⟩))) (late := fun k => decide (6 ≤ k)) (by kernel_rfl) ?_
  refine early_take (i := 0) (oi := { dst := some 13, op := Op.fieldAddr 29 (Operand.tmp 0) 2, type := 0, pos := "parse.go:85", after := #[], guard := none }) (v := ?_) rfl (by kernel_rfl) (by kernel_rfl) (by kernel_rfl) (by decide) (by kernel_rfl) (fun _ _ _ h => h) (Or.inl ⟨by rfl, ?_⟩) ⟨c6, cr⟩ ?_
  rotate_left
  · intro wz hSw
    try dsimp only at hSw
    go_simp
    try with_reducible rfl
  try simp only [Act.put, List.setIfInBounds_toArray, List.set_cons_zero, List.set_cons_succ]
  refine early_take (i := 1) (oi := { dst := some 14, op := Op.load 27 (Operand.tmp 13), type := 27, pos := "parse.go:85", after := #[{ on := 0, ground := Ground.data }], guard := none }) (v := ?_) rfl (by kernel_rfl) (by kernel_rfl) (by kernel_rfl) (by decide) (by kernel_rfl) (fun _ _ _ h => h) (Or.inl ⟨by rfl, ?_⟩) ⟨c6, cr⟩ ?_
  rotate_left
  · intro wz hSw
    try dsimp only at hSw
    go_simp
    try with_reducible rfl
  try simp only [Act.put, List.setIfInBounds_toArray, List.set_cons_zero, List.set_cons_succ]
  refine early_take (i := 2) (oi := { dst := some 15, op := Op.load 61 (Operand.tmp 1), type := 61, pos := "parse.go:85", after := #[], guard := none }) (v := ?_) rfl (by kernel_rfl) (by kernel_rfl) (by kernel_rfl) (by decide) (by kernel_rfl) (fun _ _ _ h => h) (Or.inl ⟨by rfl, ?_⟩) ⟨c6, cr⟩ ?_
  rotate_left
  · intro wz hSw
    try dsimp only at hSw
    go_simp
    try with_reducible rfl
  try simp only [Act.put, List.setIfInBounds_toArray, List.set_cons_zero, List.set_cons_succ]
  refine early_take (i := 4) (oi := { dst := some 17, op := Op.call { callee := Callee.builtin Builtin.len, args := #[Operand.tmp 14], argTypes := #[27] }, type := 3, pos := "parse.go:85", after := #[{ on := 1, ground := Ground.data }], guard := none }) (v := ?_) rfl (by kernel_rfl) (by kernel_rfl) (by kernel_rfl) (by decide) (by kernel_rfl) (fun _ _ _ h => h) (Or.inl ⟨by rfl, ?_⟩) ⟨c6, cr⟩ ?_
  rotate_left
  · intro wz hSw
    try dsimp only at hSw
    go_simp
    try with_reducible rfl
  try simp only [Act.put, List.setIfInBounds_toArray, List.set_cons_zero, List.set_cons_succ]
  refine early_two (i := 3) (j := 5) (o := { dst := some 16, op := Op.call { callee := Callee.value (Operand.func 10), args := #[Operand.tmp 15], argTypes := #[61] }, type := 29, pos := "parse.go:85", after := #[{ on := 2, ground := Ground.data }], guard := none }) (o' := { dst := some 18, op := Op.buildSlice 27 1 #[(0, Operand.const (Value.agg #[Value.int IntKind.i64 0, Value.int IntKind.i64 0, Value.string { data := #[] }, Value.int IntKind.i64 0, Value.int IntKind.i64 0, Value.slice none 0 0, Value.slice none 0 0]))], type := 27, pos := "parse.go:85", after := #[], guard := none }) (by kernel_rfl) rfl rfl (fun K hK => ?_) (fun K hK => ?_)
  · go_simp
    go_at_call 10
    refine Calls.mono (ET wn.drew HBO.out.drw) ?_
    rintro e w3 hT3
    rcases hT3 with ⟨u, T, k', rfl, hI, hF, hlt, hle, hrb, hrk⟩ | ⟨v, rfl, hIF, hno, hrk⟩
    rotate_left
    · go_wp2_with fail
      exact ⟨rfl, HBAD.out v w3 hIF hno (hrk.undrew)⟩
    obtain ⟨⟨yk, yn, yt, yo, ya⟩, a1, n1, c1, a2, n2, c2, hu⟩ := hI.plain.parts
    subst hu
    have hv3 : tval (⟨yk, yn, yt, yo, ya⟩, .slice a1 n1 c1, .slice a2 n2 c2) = .agg #[.int .i64 yk, .int .i64 yn, .string yt, .int .i64 yo, .int .i64 ya, .slice a1 n1 c1, .slice a2 n2 c2] := rfl
    rw [hv3]
    clear hv3
    go_wp2_with fail
    have hB3 := HBO.out.move HPL.out hrb (Nat.le_of_lt hlt) hle (Nat.le_add_right _ _) hF.gd.few hrk.undrew
    have c6' : w3.cell? ⟨bt, 6, none⟩ = some (.slice ta nl tc) := Lib.cell_of_heap hB3.ht 6
    have cr' : w3.cell? ⟨br, 0, none⟩ = some (.pointer (some ⟨p, 0, none⟩)) := Lib.cell_of_heap hB3.hr 0
    refine hK.out _ _ (fun _ => ⟨c6', cr'⟩) ?_
    clear hK K
    try simp only [Act.put, List.setIfInBounds_toArray, List.set_cons_zero, List.set_cons_succ]
    have hB4 := hB3.below HPL.out ((Below.refl w3.heap.size w3).alloc (Nat.le_refl _) zO)
    have c6'' : (w3.alloc zO).cell? ⟨bt, 6, none⟩ = some (.slice ta nl tc) := Lib.cell_of_heap hB4.ht 6
    have cr'' : (w3.alloc zO).cell? ⟨br, 0, none⟩ = some (.pointer (some ⟨p, 0, none⟩)) := Lib.cell_of_heap hB4.hr 0
    have hI4 : IsTP (fun b => wn.heap.size ≤ b) (w3.alloc zO) (tval (⟨yk, yn, yt, yo, ya⟩, .slice a1 n1 c1, .slice a2 n2 c2)) T := hI.move (by rw [sz_new]; omega) (fun b _ hlt => ((Below.refl w3.heap.size w3).alloc (Nat.le_refl _) zO).block b hlt) (fun _ h => h)
    have hz4 : (w3.alloc zO).heap[w3.heap.size]? = some zO := one_new w3 zO
    clear hB3 c6' cr' hI hrb
    refine early_step (i := 5) (o := { dst := some 18, op := Op.buildSlice 27 1 #[(0, Operand.const (Value.agg #[Value.int IntKind.i64 0, Value.int IntKind.i64 0, Value.string { data := #[] }, Value.int IntKind.i64 0, Value.int IntKind.i64 0, Value.slice none 0 0, Value.slice none 0 0]))], type := 27, pos := "parse.go:85", after := #[], guard := none }) (by kernel_rfl) rfl (fun K hK => ?_)
    go_simp
    refine hK.out _ _ (fun _ => ⟨c6'', cr''⟩) ?_
    clear hK K
    try simp only [Act.put, List.setIfInBounds_toArray, List.set_cons_zero, List.set_cons_succ]
    change wpAnyE _ _ _ _ _ _ _ _ _ (w3.alloc zO)
    generalize w3.alloc zO = Wb at *
    obtain ⟨gz, hgz⟩ : ∃ gz, w3.heap.size = gz := ⟨_, rfl⟩
    rw [hgz] at hz4 ⊢
    clear hgz
    have HGO : Hid (∀ W g c, W.ownsRow B 29 7 (.slice (some ⟨g, 0, none⟩) (nl + 1) c) (nl + 1) (tcs (us ++ [zU])) → Wb.grownBy W (Value.slice ta nl tc).ownBlock → ((Value.slice ta nl tc).ownBlock = some g ∨ g = Wb.heap.size) → post (.returned (.tuple #[])) ((put7 W g (nl * 7) (⟨yk, yn, yt, yo, ya⟩, .slice a1 n1 c1, .slice a2 n2 c2)).setCell ⟨bt, 6, none⟩ (.slice (some ⟨g, 0, none⟩) (nl + 1) c))) := fun W g c h1 h2 h3 => HGOOD.out k' T Wb (⟨yk, yn, yt, yo, ya⟩, .slice a1 n1 c1, .slice a2 n2 c2) W g c hF hlt hle hB4 hI4 h1 h2 h3
    obtain ⟨g, c, W7, hrun, hown, hgr, hat⟩ := appZ 27 Wb B hB4.bz (.slice ta nl tc) us hB4.ts gz hz4 (by have := hB4.lens; omega)
    have hul := HUL.out
    rw [hul] at hrun hown
    have HEND : Hid (post (.returned (.tuple #[])) ((put7 W7 g (nl * 7) (⟨yk, yn, yt, yo, ya⟩, .slice a1 n1 c1, .slice a2 n2 c2)).setCell ⟨bt, 6, none⟩ (.slice (some ⟨g, 0, none⟩) (nl + 1) c))) := HGO.out W7 g c hown hgr hat
    have hbt7 : W7.heap[bt]? = some (.cells #[.int .i64 (cx true).k, .int .i64 0, .string ⟨#[]⟩, .int .i64 0, .int .i64 0, .slice (some ⟨g5, 0, none⟩) (kn + 1) cc5, .slice ta nl tc] 29) := ((grown_belowJ hgr hB4.ts hB4.bz).block bt HPL.out.lbt.2).trans hB4.ht
    have f6 : W7.cell? ⟨bt, 6, none⟩ = some (.slice ta nl tc) := Lib.cell_of_heap hbt7 6
    have ff := Lib.frozen_of_heap hbt7
    have gf : ∀ j, W7.frozen? ⟨g, j, none⟩ = false := fun j => World.ownsRow.frozenAt hown j
    have hzc : ∀ j, j < 7 → W7.cell? ⟨g, nl * 7 + j, none⟩ = (tcells zU)[j]? := fun j hj => by
      rw [World.ownsRow.cellAt hown (nl * 7 + j) (by omega)]
      have h9 := tcs_at (us ++ [zU]) nl (by rw [List.length_append, hul]; simp) j hj
      rw [h9]
      have e9 : (us ++ [zU])[nl]'(by rw [List.length_append, hul]; simp) = zU := by
        rw [List.getElem_append_right (by omega)]
        simp
      rw [e9]
    have z0 : W7.cell? ⟨g, nl * 7, none⟩ = some (.int .i64 0) := hzc 0 (by omega)
    have z1 : W7.cell? ⟨g, nl * 7 + 1, none⟩ = some (.int .i64 0) := hzc 1 (by omega)
    have z2 : W7.cell? ⟨g, nl * 7 + 2, none⟩ = some (.string ⟨#[]⟩) := hzc 2 (by omega)
    have z3 : W7.cell? ⟨g, nl * 7 + 3, none⟩ = some (.int .i64 0) := hzc 3 (by omega)
    have z4 : W7.cell? ⟨g, nl * 7 + 4, none⟩ = some (.int .i64 0) := hzc 4 (by omega)
    have z5 : W7.cell? ⟨g, nl * 7 + 5, none⟩ = some (.slice none 0 0) := hzc 5 (by omega)
    have z6 : W7.cell? ⟨g, nl * 7 + 6, none⟩ = some (.slice none 0 0) := hzc 6 (by omega)
    have hgb : g ≠ bt := by
      have h9 := (ownR_blk (g := g) hown rfl).1
      have := HPL.out.lbt
      omega
    have HGB : Hid (g ≠ bt) := hgb
    have HN : Hid (nl ≤ 400) := by
      have := hB4.lens
      have := HUL.out
      show nl ≤ 400
      omega
    clear hgb hzc hown hgr hat hbt7 hI4 hz4 hB4 hF hlt hle HGO
    refine early_late _ _ _ _ (fun i hi => late6 hi) ?_
    refine wpAnyH_ready (rs := [6]) (by kernel_rfl) (by simp) (AllReadyH.cons (o := { dst := some 19, op := Op.call { callee := Callee.builtin Builtin.append, args := #[Operand.tmp 14, Operand.tmp 18], argTypes := #[27, 27] }, type := 27, pos := "parse.go:85", after := #[{ on := 1, ground := Ground.data }, { on := 5, ground := Ground.data }, { on := 3, ground := Ground.chain }, { on := 0, ground := Ground.phase }, { on := 1, ground := Ground.phase }, { on := 2, ground := Ground.phase }, { on := 3, ground := Ground.phase }, { on := 4, ground := Ground.phase }, { on := 5, ground := Ground.phase }], guard := none }) rfl (fun K hK => ?_) AllReadyH.nil)
    refine step_append_known rfl (.tmp 14) (.tmp 18) 27 rfl (.slice ta nl tc) (.slice (some ⟨gz, 0, none⟩) 1 1) (.slice (some ⟨g, 0, none⟩) (nl + 1) c) W7 (by simp [Act.eval]) (by simp [Act.eval]) hrun ?_
    refine hK.out _ _ trivial (fun _ => ?_)
    clear hK K
    try simp only [Act.put, List.setIfInBounds_toArray, List.set_cons_zero, List.set_cons_succ]
    clear hrun
    have hn1 : (0 : Int) ≤ (nl : Int) := by omega
    have hn2 : (nl : Int) < (nl : Int) + 1 := by omega
    refine wpAnyH_take (i := 7) (oi := { dst := some 20, op := Op.indexAddr 27 (Operand.tmp 19) (Operand.tmp 17), type := 0, pos := "parse.go:85", after := #[{ on := 6, ground := Ground.data }, { on := 4, ground := Ground.data }, { on := 0, ground := Ground.phase }, { on := 1, ground := Ground.phase }, { on := 2, ground := Ground.phase }, { on := 3, ground := Ground.phase }, { on := 4, ground := Ground.phase }, { on := 5, ground := Ground.phase }, { on := 6, ground := Ground.phase }, { on := 10, ground := Ground.gcOnly Departure.appendInPlace }], guard := none }) (v := ?_) rfl (by kernel_rfl) (by kernel_rfl) (by kernel_rfl) (fun _ _ _ h => h) (Or.inl ⟨by rfl, ?_⟩) trivial ?_
    rotate_left
    · intro wz _
      go_simp
      try with_reducible rfl
    try simp only [Act.put, List.setIfInBounds_toArray, List.set_cons_zero, List.set_cons_succ]
    refine wpAnyH_take (i := 9) (oi := { dst := some 21, op := Op.fieldAddr 29 (Operand.tmp 0) 2, type := 0, pos := "parse.go:85", after := #[{ on := 0, ground := Ground.phase }, { on := 1, ground := Ground.phase }, { on := 2, ground := Ground.phase }, { on := 3, ground := Ground.phase }, { on := 4, ground := Ground.phase }, { on := 5, ground := Ground.phase }, { on := 6, ground := Ground.phase }, { on := 7, ground := Ground.textOnly Departure.appendInPlace }, { on := 8, ground := Ground.textOnly Departure.appendInPlace }], guard := none }) (v := ?_) rfl (by kernel_rfl) (by kernel_rfl) (by kernel_rfl) (fun _ _ _ h => h) (Or.inl ⟨by rfl, ?_⟩) trivial ?_
    rotate_left
    · intro wz _
      go_simp
      try with_reducible rfl
    try simp only [Act.put, List.setIfInBounds_toArray, List.set_cons_zero, List.set_cons_succ]
    refine wpAnyH_ready (rs := [8, 10]) (by kernel_rfl) (by simp) (AllReadyH.cons (o := { dst := none, op := Op.store 29 (Operand.tmp 20) (Operand.tmp 16), type := 0, pos := "parse.go:85", after := #[{ on := 7, ground := Ground.data }, { on := 3, ground := Ground.data }, { on := 6, ground := Ground.chain }, { on := 0, ground := Ground.phase }, { on := 1, ground := Ground.phase }, { on := 2, ground := Ground.phase }, { on := 3, ground := Ground.phase }, { on := 4, ground := Ground.phase }, { on := 5, ground := Ground.phase }, { on := 6, ground := Ground.phase }, { on := 10, ground := Ground.gcOnly Departure.appendInPlace }], guard := none }) rfl (fun K hK => ?_) (AllReadyH.cons (o := { dst := none, op := Op.store 27 (Operand.tmp 21) (Operand.tmp 19), type := 0, pos := "parse.go:85", after := #[{ on := 9, ground := Ground.data }, { on := 6, ground := Ground.data }, { on := 6, ground := Ground.chain }, { on := 8, ground := Ground.textOnly Departure.appendInPlace }, { on := 0, ground := Ground.phase }, { on := 1, ground := Ground.phase }, { on := 2, ground := Ground.phase }, { on := 3, ground := Ground.phase }, { on := 4, ground := Ground.phase }, { on := 5, ground := Ground.phase }, { on := 6, ground := Ground.phase }, { on := 7, ground := Ground.textOnly Departure.appendInPlace }, { on := 8, ground := Ground.textOnly Departure.appendInPlace }], guard := none }) rfl (fun K hK => ?_) AllReadyH.nil))
    · go_simp
      refine hK.out _ _ trivial (fun _ => ?_)
      clear hK K
      try simp only [Act.put, List.setIfInBounds_toArray, List.set_cons_zero, List.set_cons_succ]
      have f6x : (put7 W7 g (nl * 7) (⟨yk, yn, yt, yo, ya⟩, .slice a1 n1 c1, .slice a2 n2 c2)).cell? ⟨bt, 6, none⟩ = some (.slice ta nl tc) := (World.cell?_of_block (put7_other _ _ _ _ _ (fun e => HGB.out e.symm))).trans f6
      have ffx : ∀ j, (put7 W7 g (nl * 7) (⟨yk, yn, yt, yo, ya⟩, .slice a1 n1 c1, .slice a2 n2 c2)).frozen? ⟨bt, j, none⟩ = false := fun j => (World.frozen?_of_block (a := ⟨bt, j, none⟩) (put7_other _ _ _ _ _ (fun e => HGB.out e.symm))).trans (ff j)
      clear f6 ff gf z0 z1 z2 z3 z4 z5 z6
      dsimp only [put7] at f6x ffx HEND
      generalize (((((((W7.setCell ⟨g, nl * 7, none⟩ (.int .i64 yk)).setCell ⟨g, nl * 7 + 1, none⟩ (.int .i64 yn)).setCell ⟨g, nl * 7 + 2, none⟩ (.string yt)).setCell ⟨g, nl * 7 + 3, none⟩ (.int .i64 yo)).setCell ⟨g, nl * 7 + 4, none⟩ (.int .i64 ya)).setCell ⟨g, nl * 7 + 5, none⟩ (.slice a1 n1 c1)).setCell ⟨g, nl * 7 + 6, none⟩ (.slice a2 n2 c2)) = X at f6x ffx HEND ⊢
      refine wpAnyH_ready (rs := [10]) (by kernel_rfl) (by simp) (AllReadyH.cons (o := { dst := none, op := Op.store 27 (Operand.tmp 21) (Operand.tmp 19), type := 0, pos := "parse.go:85", after := #[{ on := 9, ground := Ground.data }, { on := 6, ground := Ground.data }, { on := 6, ground := Ground.chain }, { on := 8, ground := Ground.textOnly Departure.appendInPlace }, { on := 0, ground := Ground.phase }, { on := 1, ground := Ground.phase }, { on := 2, ground := Ground.phase }, { on := 3, ground := Ground.phase }, { on := 4, ground := Ground.phase }, { on := 5, ground := Ground.phase }, { on := 6, ground := Ground.phase }, { on := 7, ground := Ground.textOnly Departure.appendInPlace }, { on := 8, ground := Ground.textOnly Departure.appendInPlace }], guard := none }) rfl (fun K hK => ?_) AllReadyH.nil)
      go_simp
      refine hK.out _ _ trivial (fun _ => ?_)
      clear hK K
      try simp only [Act.put, List.setIfInBounds_toArray, List.set_cons_zero, List.set_cons_succ]
      refine wpAnyH_done (by kernel_rfl) ?_ _
      refine PanQ.normal ?_
      go_wp2
      go_end0
      exact HEND.out
    · go_simp
      refine hK.out _ _ trivial (fun _ => ?_)
      clear hK K
      try simp only [Act.put, List.setIfInBounds_toArray, List.set_cons_zero, List.set_cons_succ]
      have y0 : (W7.setCell ⟨bt, 6, none⟩ (.slice (some ⟨g, 0, none⟩) (nl + 1) c)).cell? ⟨g, nl * 7, none⟩ = some (.int .i64 0) := (World.cell?_of_block (Below.heap_setCell _ _ _ _ (by simpa using HGB.out))).trans z0
      have y1 : (W7.setCell ⟨bt, 6, none⟩ (.slice (some ⟨g, 0, none⟩) (nl + 1) c)).cell? ⟨g, nl * 7 + 1, none⟩ = some (.int .i64 0) := (World.cell?_of_block (Below.heap_setCell _ _ _ _ (by simpa using HGB.out))).trans z1
      have y2 : (W7.setCell ⟨bt, 6, none⟩ (.slice (some ⟨g, 0, none⟩) (nl + 1) c)).cell? ⟨g, nl * 7 + 2, none⟩ = some (.string ⟨#[]⟩) := (World.cell?_of_block (Below.heap_setCell _ _ _ _ (by simpa using HGB.out))).trans z2
      have y3 : (W7.setCell ⟨bt, 6, none⟩ (.slice (some ⟨g, 0, none⟩) (nl + 1) c)).cell? ⟨g, nl * 7 + 3, none⟩ = some (.int .i64 0) := (World.cell?_of_block (Below.heap_setCell _ _ _ _ (by simpa using HGB.out))).trans z3
      have y4 : (W7.setCell ⟨bt, 6, none⟩ (.slice (some ⟨g, 0, none⟩) (nl + 1) c)).cell? ⟨g, nl * 7 + 4, none⟩ = some (.int .i64 0) := (World.cell?_of_block (Below.heap_setCell _ _ _ _ (by simpa using HGB.out))).trans z4
      have y5 : (W7.setCell ⟨bt, 6, none⟩ (.slice (some ⟨g, 0, none⟩) (nl + 1) c)).cell? ⟨g, nl * 7 + 5, none⟩ = some (.slice none 0 0) := (World.cell?_of_block (Below.heap_setCell _ _ _ _ (by simpa using HGB.out))).trans z5
      have y6 : (W7.setCell ⟨bt, 6, none⟩ (.slice (some ⟨g, 0, none⟩) (nl + 1) c)).cell? ⟨g, nl * 7 + 6, none⟩ = some (.slice none 0 0) := (World.cell?_of_block (Below.heap_setCell _ _ _ _ (by simpa using HGB.out))).trans z6
      have gfx : ∀ j, (W7.setCell ⟨bt, 6, none⟩ (.slice (some ⟨g, 0, none⟩) (nl + 1) c)).frozen? ⟨g, j, none⟩ = false := fun j => (World.frozen?_of_block (a := ⟨g, j, none⟩) (Below.heap_setCell _ _ _ _ (by simpa using HGB.out))).trans (gf j)
      rw [← put7_comm _ _ _ _ _ _ _ HGB.out] at HEND
      clear f6 ff gf z0 z1 z2 z3 z4 z5 z6
      generalize W7.setCell ⟨bt, 6, none⟩ (.slice (some ⟨g, 0, none⟩) (nl + 1) c) = Y at *
      refine wpAnyH_ready (rs := [8]) (by kernel_rfl) (by simp) (AllReadyH.cons (o := { dst := none, op := Op.store 29 (Operand.tmp 20) (Operand.tmp 16), type := 0, pos := "parse.go:85", after := #[{ on := 7, ground := Ground.data }, { on := 3, ground := Ground.data }, { on := 6, ground := Ground.chain }, { on := 0, ground := Ground.phase }, { on := 1, ground := Ground.phase }, { on := 2, ground := Ground.phase }, { on := 3, ground := Ground.phase }, { on := 4, ground := Ground.phase }, { on := 5, ground := Ground.phase }, { on := 6, ground := Ground.phase }, { on := 10, ground := Ground.gcOnly Departure.appendInPlace }], guard := none }) rfl (fun K hK => ?_) AllReadyH.nil)
      go_simp
      refine hK.out _ _ trivial (fun _ => ?_)
      clear hK K
      try simp only [Act.put, List.setIfInBounds_toArray, List.set_cons_zero, List.set_cons_succ]
      refine wpAnyH_done (by kernel_rfl) ?_ _
      refine PanQ.normal ?_
      dsimp only [put7] at HEND
      go_wp2
      go_end0
      exact HEND.out
  · go_simp
    have hB1 := HBO.out.below HPL.out (((Below.refl wn.heap.size wn).drew).alloc (Nat.le_refl _) zO)
    have c6' : (wn.drew.alloc zO).cell? ⟨bt, 6, none⟩ = some (.slice ta nl tc) := Lib.cell_of_heap hB1.ht 6
    have cr' : (wn.drew.alloc zO).cell? ⟨br, 0, none⟩ = some (.pointer (some ⟨p, 0, none⟩)) := Lib.cell_of_heap hB1.hr 0
    have hz1 : (wn.drew.alloc zO).heap[wn.heap.size]? = some zO := one_new wn.drew zO
    have hlw : wn.heap.size ≤ (wn.drew.alloc zO).heap.size := by rw [sz_new]; exact Nat.le_succ _
    have hrw : Rk p wn (wn.drew.alloc zO) := Rk.of (((Below.refl wn.heap.size wn).drew).alloc (Nat.le_refl _) zO)
    have hgl : wn.heap.size < (wn.drew.alloc zO).heap.size := by rw [sz_new]; exact Nat.lt_succ_self _
    refine hK.out _ _ (fun _ => ⟨c6', cr'⟩) ?_
    clear hK K
    try simp only [Act.put, List.setIfInBounds_toArray, List.set_cons_zero, List.set_cons_succ]
    change wpAnyE _ _ _ _ _ _ _ _ _ (wn.drew.alloc zO)
    generalize wn.drew.alloc zO = Wa at *
    obtain ⟨gz, hgz⟩ : ∃ gz, wn.heap.size = gz := ⟨_, rfl⟩
    rw [hgz] at hz1 hgl ⊢
    have HGZ : Hid (wn.heap.size = gz) := hgz
    clear hgz
    refine early_step (i := 3) (o := { dst := some 16, op := Op.call { callee := Callee.value (Operand.func 10), args := #[Operand.tmp 15], argTypes := #[61] }, type := 29, pos := "parse.go:85", after := #[{ on := 2, ground := Ground.data }], guard := none }) (by kernel_rfl) rfl (fun K hK => ?_)
    go_simp
    go_at_call 10
    refine Calls.mono (ET Wa hB1) ?_
    rintro e w3 hT3
    rcases hT3 with ⟨u, T, k', rfl, hI, hF, hlt, hle, hrb, hrk⟩ | ⟨v, rfl, hIF, hno, hrk⟩
    rotate_left
    · go_wp2_with fail
      exact ⟨rfl, HBAD.out v w3 hIF hno (hrw.trans hrk)⟩
    obtain ⟨⟨yk, yn, yt, yo, ya⟩, a1, n1, c1, a2, n2, c2, hu⟩ := hI.plain.parts
    subst hu
    have hv3 : tval (⟨yk, yn, yt, yo, ya⟩, .slice a1 n1 c1, .slice a2 n2 c2) = .agg #[.int .i64 yk, .int .i64 yn, .string yt, .int .i64 yo, .int .i64 ya, .slice a1 n1 c1, .slice a2 n2 c2] := rfl
    rw [hv3]
    clear hv3
    go_wp2_with fail
    have hB4 := hB1.move HPL.out hrb (Nat.le_of_lt hlt) hle (Nat.le_add_right _ _) hF.gd.few hrk
    have c6'' : w3.cell? ⟨bt, 6, none⟩ = some (.slice ta nl tc) := Lib.cell_of_heap hB4.ht 6
    have cr'' : w3.cell? ⟨br, 0, none⟩ = some (.pointer (some ⟨p, 0, none⟩)) := Lib.cell_of_heap hB4.hr 0
    have hI4 : IsTP (fun b => wn.heap.size ≤ b) w3 (tval (⟨yk, yn, yt, yo, ya⟩, .slice a1 n1 c1, .slice a2 n2 c2)) T := hI.move (Nat.le_refl _) (fun _ _ _ => rfl) (fun b h => Nat.le_trans hlw h)
    have hz4 : w3.heap[gz]? = some zO := by
      rw [hrk.block gz hgl (by have := HPL.out.lp; have := HBO.out.rk.size; have := HGZ.out; omega)]
      exact hz1
    refine hK.out _ _ (fun _ => ⟨c6'', cr''⟩) ?_
    clear hK K
    try simp only [Act.put, List.setIfInBounds_toArray, List.set_cons_zero, List.set_cons_succ]
    clear hB1 c6' cr' hz1 hlw hrw hgl HGZ hI hrb hrk
    generalize w3 = Wb at *
    have HGO : Hid (∀ W g c, W.ownsRow B 29 7 (.slice (some ⟨g, 0, none⟩) (nl + 1) c) (nl + 1) (tcs (us ++ [zU])) → Wb.grownBy W (Value.slice ta nl tc).ownBlock → ((Value.slice ta nl tc).ownBlock = some g ∨ g = Wb.heap.size) → post (.returned (.tuple #[])) ((put7 W g (nl * 7) (⟨yk, yn, yt, yo, ya⟩, .slice a1 n1 c1, .slice a2 n2 c2)).setCell ⟨bt, 6, none⟩ (.slice (some ⟨g, 0, none⟩) (nl + 1) c))) := fun W g c h1 h2 h3 => HGOOD.out k' T Wb (⟨yk, yn, yt, yo, ya⟩, .slice a1 n1 c1, .slice a2 n2 c2) W g c hF hlt hle hB4 hI4 h1 h2 h3
    obtain ⟨g, c, W7, hrun, hown, hgr, hat⟩ := appZ 27 Wb B hB4.bz (.slice ta nl tc) us hB4.ts gz hz4 (by have := hB4.lens; omega)
    have hul := HUL.out
    rw [hul] at hrun hown
    have HEND : Hid (post (.returned (.tuple #[])) ((put7 W7 g (nl * 7) (⟨yk, yn, yt, yo, ya⟩, .slice a1 n1 c1, .slice a2 n2 c2)).setCell ⟨bt, 6, none⟩ (.slice (some ⟨g, 0, none⟩) (nl + 1) c))) := HGO.out W7 g c hown hgr hat
    have hbt7 : W7.heap[bt]? = some (.cells #[.int .i64 (cx true).k, .int .i64 0, .string ⟨#[]⟩, .int .i64 0, .int .i64 0, .slice (some ⟨g5, 0, none⟩) (kn + 1) cc5, .slice ta nl tc] 29) := ((grown_belowJ hgr hB4.ts hB4.bz).block bt HPL.out.lbt.2).trans hB4.ht
    have f6 : W7.cell? ⟨bt, 6, none⟩ = some (.slice ta nl tc) := Lib.cell_of_heap hbt7 6
    have ff := Lib.frozen_of_heap hbt7
    have gf : ∀ j, W7.frozen? ⟨g, j, none⟩ = false := fun j => World.ownsRow.frozenAt hown j
    have hzc : ∀ j, j < 7 → W7.cell? ⟨g, nl * 7 + j, none⟩ = (tcells zU)[j]? := fun j hj => by
      rw [World.ownsRow.cellAt hown (nl * 7 + j) (by omega)]
      have h9 := tcs_at (us ++ [zU]) nl (by rw [List.length_append, hul]; simp) j hj
      rw [h9]
      have e9 : (us ++ [zU])[nl]'(by rw [List.length_append, hul]; simp) = zU := by
        rw [List.getElem_append_right (by omega)]
        simp
      rw [e9]
    have z0 : W7.cell? ⟨g, nl * 7, none⟩ = some (.int .i64 0) := hzc 0 (by omega)
    have z1 : W7.cell? ⟨g, nl * 7 + 1, none⟩ = some (.int .i64 0) := hzc 1 (by omega)
    have z2 : W7.cell? ⟨g, nl * 7 + 2, none⟩ = some (.string ⟨#[]⟩) := hzc 2 (by omega)
    have z3 : W7.cell? ⟨g, nl * 7 + 3, none⟩ = some (.int .i64 0) := hzc 3 (by omega)
    have z4 : W7.cell? ⟨g, nl * 7 + 4, none⟩ = some (.int .i64 0) := hzc 4 (by omega)
    have z5 : W7.cell? ⟨g, nl * 7 + 5, none⟩ = some (.slice none 0 0) := hzc 5 (by omega)
    have z6 : W7.cell? ⟨g, nl * 7 + 6, none⟩ = some (.slice none 0 0) := hzc 6 (by omega)
    have hgb : g ≠ bt := by
      have h9 := (ownR_blk (g := g) hown rfl).1
      have := HPL.out.lbt
      omega
    have HGB : Hid (g ≠ bt) := hgb
    have HN : Hid (nl ≤ 400) := by
      have := hB4.lens
      have := HUL.out
      show nl ≤ 400
      omega
    clear hgb hzc hown hgr hat hbt7 hI4 hz4 hB4 hF hlt hle HGO
    refine early_late _ _ _ _ (fun i hi => late6 hi) ?_
    refine wpAnyH_ready (rs := [6]) (by kernel_rfl) (by simp) (AllReadyH.cons (o := { dst := some 19, op := Op.call { callee := Callee.builtin Builtin.append, args := #[Operand.tmp 14, Operand.tmp 18], argTypes := #[27, 27] }, type := 27, pos := "parse.go:85", after := #[{ on := 1, ground := Ground.data }, { on := 5, ground := Ground.data }, { on := 3, ground := Ground.chain }, { on := 0, ground := Ground.phase }, { on := 1, ground := Ground.phase }, { on := 2, ground := Ground.phase }, { on := 3, ground := Ground.phase }, { on := 4, ground := Ground.phase }, { on := 5, ground := Ground.phase }], guard := none }) rfl (fun K hK => ?_) AllReadyH.nil)
    refine step_append_known rfl (.tmp 14) (.tmp 18) 27 rfl (.slice ta nl tc) (.slice (some ⟨gz, 0, none⟩) 1 1) (.slice (some ⟨g, 0, none⟩) (nl + 1) c) W7 (by simp [Act.eval]) (by simp [Act.eval]) hrun ?_
    refine hK.out _ _ trivial (fun _ => ?_)
    clear hK K
    try simp only [Act.put, List.setIfInBounds_toArray, List.set_cons_zero, List.set_cons_succ]
    clear hrun
    have hn1 : (0 : Int) ≤ (nl : Int) := by omega
    have hn2 : (nl : Int) < (nl : Int) + 1 := by omega
    refine wpAnyH_take (i := 7) (oi := { dst := some 20, op := Op.indexAddr 27 (Operand.tmp 19) (Operand.tmp 17), type := 0, pos := "parse.go:85", after := #[{ on := 6, ground := Ground.data }, { on := 4, ground := Ground.data }, { on := 0, ground := Ground.phase }, { on := 1, ground := Ground.phase }, { on := 2, ground := Ground.phase }, { on := 3, ground := Ground.phase }, { on := 4, ground := Ground.phase }, { on := 5, ground := Ground.phase }, { on := 6, ground := Ground.phase }, { on := 10, ground := Ground.gcOnly Departure.appendInPlace }], guard := none }) (v := ?_) rfl (by kernel_rfl) (by kernel_rfl) (by kernel_rfl) (fun _ _ _ h => h) (Or.inl ⟨by rfl, ?_⟩) trivial ?_
    rotate_left
    · intro wz _
      go_simp
      try with_reducible rfl
    try simp only [Act.put, List.setIfInBounds_toArray, List.set_cons_zero, List.set_cons_succ]
    refine wpAnyH_take (i := 9) (oi := { dst := some 21, op := Op.fieldAddr 29 (Operand.tmp 0) 2, type := 0, pos := "parse.go:85", after := #[{ on := 0, ground := Ground.phase }, { on := 1, ground := Ground.phase }, { on := 2, ground := Ground.phase }, { on := 3, ground := Ground.phase }, { on := 4, ground := Ground.phase }, { on := 5, ground := Ground.phase }, { on := 6, ground := Ground.phase }, { on := 7, ground := Ground.textOnly Departure.appendInPlace }, { on := 8, ground := Ground.textOnly Departure.appendInPlace }], guard := none }) (v := ?_) rfl (by kernel_rfl) (by kernel_rfl) (by kernel_rfl) (fun _ _ _ h => h) (Or.inl ⟨by rfl, ?_⟩) trivial ?_
    rotate_left
    · intro wz _
      go_simp
      try with_reducible rfl
    try simp only [Act.put, List.setIfInBounds_toArray, List.set_cons_zero, List.set_cons_succ]
    refine wpAnyH_ready (rs := [8, 10]) (by kernel_rfl) (by simp) (AllReadyH.cons (o := { dst := none, op := Op.store 29 (Operand.tmp 20) (Operand.tmp 16), type := 0, pos := "parse.go:85", after := #[{ on := 7, ground := Ground.data }, { on := 3, ground := Ground.data }, { on := 6, ground := Ground.chain }, { on := 0, ground := Ground.phase }, { on := 1, ground := Ground.phase }, { on := 2, ground := Ground.phase }, { on := 3, ground := Ground.phase }, { on := 4, ground := Ground.phase }, { on := 5, ground := Ground.phase }, { on := 6, ground := Ground.phase }, { on := 10, ground := Ground.gcOnly Departure.appendInPlace }], guard := none }) rfl (fun K hK => ?_) (AllReadyH.cons (o := { dst := none, op := Op.store 27 (Operand.tmp 21) (Operand.tmp 19), type := 0, pos := "parse.go:85", after := #[{ on := 9, ground := Ground.data }, { on := 6, ground := Ground.data }, { on := 6, ground := Ground.chain }, { on := 8, ground := Ground.textOnly Departure.appendInPlace }, { on := 0, ground := Ground.phase }, { on := 1, ground := Ground.phase }, { on := 2, ground := Ground.phase }, { on := 3, ground := Ground.phase }, { on := 4, ground := Ground.phase }, { on := 5, ground := Ground.phase }, { on := 6, ground := Ground.phase }, { on := 7, ground := Ground.textOnly Departure.appendInPlace }, { on := 8, ground := Ground.textOnly Departure.appendInPlace }], guard := none }) rfl (fun K hK => ?_) AllReadyH.nil))
    · go_simp
      refine hK.out _ _ trivial (fun _ => ?_)
      clear hK K
      try simp only [Act.put, List.setIfInBounds_toArray, List.set_cons_zero, List.set_cons_succ]
      have f6x : (put7 W7 g (nl * 7) (⟨yk, yn, yt, yo, ya⟩, .slice a1 n1 c1, .slice a2 n2 c2)).cell? ⟨bt, 6, none⟩ = some (.slice ta nl tc) := (World.cell?_of_block (put7_other _ _ _ _ _ (fun e => HGB.out e.symm))).trans f6
      have ffx : ∀ j, (put7 W7 g (nl * 7) (⟨yk, yn, yt, yo, ya⟩, .slice a1 n1 c1, .slice a2 n2 c2)).frozen? ⟨bt, j, none⟩ = false := fun j => (World.frozen?_of_block (a := ⟨bt, j, none⟩) (put7_other _ _ _ _ _ (fun e => HGB.out e.symm))).trans (ff j)
      clear f6 ff gf z0 z1 z2 z3 z4 z5 z6
      dsimp only [put7] at f6x ffx HEND
      generalize (((((((W7.setCell ⟨g, nl * 7, none⟩ (.int .i64 yk)).setCell ⟨g, nl * 7 + 1, none⟩ (.int .i64 yn)).setCell ⟨g, nl * 7 + 2, none⟩ (.string yt)).setCell ⟨g, nl * 7 + 3, none⟩ (.int .i64 yo)).setCell ⟨g, nl * 7 + 4, none⟩ (.int .i64 ya)).setCell ⟨g, nl * 7 + 5, none⟩ (.slice a1 n1 c1)).setCell ⟨g, nl * 7 + 6, none⟩ (.slice a2 n2 c2)) = X at f6x ffx HEND ⊢
      refine wpAnyH_ready (rs := [10]) (by kernel_rfl) (by simp) (AllReadyH.cons (o := { dst := none, op := Op.store 27 (Operand.tmp 21) (Operand.tmp 19), type := 0, pos := "parse.go:85", after := #[{ on := 9, ground := Ground.data }, { on := 6, ground := Ground.data }, { on := 6, ground := Ground.chain }, { on := 8, ground := Ground.textOnly Departure.appendInPlace }, { on := 0, ground := Ground.phase }, { on := 1, ground := Ground.phase }, { on := 2, ground := Ground.phase }, { on := 3, ground := Ground.phase }, { on := 4, ground := Ground.phase }, { on := 5, ground := Ground.phase }, { on := 6, ground := Ground.phase }, { on := 7, ground := Ground.textOnly Departure.appendInPlace }, { on := 8, ground := Ground.textOnly Departure.appendInPlace }], guard := none }) rfl (fun K hK => ?_) AllReadyH.nil)
      go_simp
      refine hK.out _ _ trivial (fun _ => ?_)
      clear hK K
      try simp only [Act.put, List.setIfInBounds_toArray, List.set_cons_zero, List.set_cons_succ]
      refine wpAnyH_done (by kernel_rfl) ?_ _
      refine PanQ.normal ?_
      go_wp2
      go_end0
      exact HEND.out
    · go_simp
      refine hK.out _ _ trivial (fun _ => ?_)
      clear hK K
      try simp only [Act.put, List.setIfInBounds_toArray, List.set_cons_zero, List.set_cons_succ]
      have y0 : (W7.setCell ⟨bt, 6, none⟩ (.slice (some ⟨g, 0, none⟩) (nl + 1) c)).cell? ⟨g, nl * 7, none⟩ = some (.int .i64 0) := (World.cell?_of_block (Below.heap_setCell _ _ _ _ (by simpa using HGB.out))).trans z0
      have y1 : (W7.setCell ⟨bt, 6, none⟩ (.slice (some ⟨g, 0, none⟩) (nl + 1) c)).cell? ⟨g, nl * 7 + 1, none⟩ = some (.int .i64 0) := (World.cell?_of_block (Below.heap_setCell _ _ _ _ (by simpa using HGB.out))).trans z1
      have y2 : (W7.setCell ⟨bt, 6, none⟩ (.slice (some ⟨g, 0, none⟩) (nl + 1) c)).cell? ⟨g, nl * 7 + 2, none⟩ = some (.string ⟨#[]⟩) := (World.cell?_of_block (Below.heap_setCell _ _ _ _ (by simpa using HGB.out))).trans z2
      have y3 : (W7.setCell ⟨bt, 6, none⟩ (.slice (some ⟨g, 0, none⟩) (nl + 1) c)).cell? ⟨g, nl * 7 + 3, none⟩ = some (.int .i64 0) := (World.cell?_of_block (Below.heap_setCell _ _ _ _ (by simpa using HGB.out))).trans z3
      have y4 : (W7.setCell ⟨bt, 6, none⟩ (.slice (some ⟨g, 0, none⟩) (nl + 1) c)).cell? ⟨g, nl * 7 + 4, none⟩ = some (.int .i64 0) := (World.cell?_of_block (Below.heap_setCell _ _ _ _ (by simpa using HGB.out))).trans z4
      have y5 : (W7.setCell ⟨bt, 6, none⟩ (.slice (some ⟨g, 0, none⟩) (nl + 1) c)).cell? ⟨g, nl * 7 + 5, none⟩ = some (.slice none 0 0) := (World.cell?_of_block (Below.heap_setCell _ _ _ _ (by simpa using HGB.out))).trans z5
      have y6 : (W7.setCell ⟨bt, 6, none⟩ (.slice (some ⟨g, 0, none⟩) (nl + 1) c)).cell? ⟨g, nl * 7 + 6, none⟩ = some (.slice none 0 0) := (World.cell?_of_block (Below.heap_setCell _ _ _ _ (by simpa using HGB.out))).trans z6
      have gfx : ∀ j, (W7.setCell ⟨bt, 6, none⟩ (.slice (some ⟨g, 0, none⟩) (nl + 1) c)).frozen? ⟨g, j, none⟩ = false := fun j => (World.frozen?_of_block (a := ⟨g, j, none⟩) (Below.heap_setCell _ _ _ _ (by simpa using HGB.out))).trans (gf j)
      rw [← put7_comm _ _ _ _ _ _ _ HGB.out] at HEND
      clear f6 ff gf z0 z1 z2 z3 z4 z5 z6
      generalize W7.setCell ⟨bt, 6, none⟩ (.slice (some ⟨g, 0, none⟩) (nl + 1) c) = Y at *
      refine wpAnyH_ready (rs := [8]) (by kernel_rfl) (by simp) (AllReadyH.cons (o := { dst := none, op := Op.store 29 (Operand.tmp 20) (Operand.tmp 16), type := 0, pos := "parse.go:85", after := #[{ on := 7, ground := Ground.data }, { on := 3, ground := Ground.data }, { on := 6, ground := Ground.chain }, { on := 0, ground := Ground.phase }, { on := 1, ground := Ground.phase }, { on := 2, ground := Ground.phase }, { on := 3, ground := Ground.phase }, { on := 4, ground := Ground.phase }, { on := 5, ground := Ground.phase }, { on := 6, ground := Ground.phase }, { on := 10, ground := Ground.gcOnly Departure.appendInPlace }], guard := none }) rfl (fun K hK => ?_) AllReadyH.nil)
      go_simp
      refine hK.out _ _ trivial (fun _ => ?_)
      clear hK K
      try simp only [Act.put, List.setIfInBounds_toArray, List.set_cons_zero, List.set_cons_succ]
      refine wpAnyH_done (by kernel_rfl) ?_ _
      refine PanQ.normal ?_
      dsimp only [put7] at HEND
      go_wp2
      go_end0
      exact HEND.out
end Go.Proofs.YtnmdhbejjjmdeaaGreatDoor
