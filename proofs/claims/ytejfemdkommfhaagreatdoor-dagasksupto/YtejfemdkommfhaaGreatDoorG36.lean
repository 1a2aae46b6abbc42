/-
  What is proved: as each theorem says.
  Conditions: as each theorem says.
-/
import Derived.Test.YtejfemdkommfhaaGreatDoorG29
import Derived.Test.YtejfemdkommfhaaGreatDoorG34
import Derived.Test.YtejfemdkommfhaaGreatDoorG35
import Derived.Maps.AppendAt
namespace Go.Proofs.YtejfemdkommfhaaGreatDoor
open Go.RowKit Go.Sort
structure RI (L W : List Chg) : Prop where
 inv : Inv L
 nd : (refsOf W).Nodup
 dis : ∀ r ∈ refsOf W, r ∉ refsOf L
 few : L.length + W.length ≤ 120
 ok : ∀ x ∈ W, chk x = 0
theorem RI.nil : RI [] [] := ⟨Inv.nil, List.nodup_nil, (fun _ h => by cases h), by simp, (fun _ h => by cases h)⟩
theorem refs_append (a b : List Chg) : refsOf (a ++ b) = refsOf a ++ refsOf b := List.map_append
theorem RI.wait {L W : List Chg} {c : Chg} (h : RI L W) (hc : chk c = 0) (hn : ¬ (c.ref ∈ refsOf L ∨ c.ref ∈ refsOf W)) (hl : L.length + W.length < 120) : RI L (W ++ [c]) := by
 refine ⟨h.inv, ?_, fun r hr => ?_, by rw [List.length_append]; simp; omega, fun x hx => ?_⟩
 ·rw [refs_append, List.nodup_append]
  refine ⟨h.nd, by simp [refsOf], fun a ha b hb e => ?_⟩
  subst e
  have e2 : a = c.ref := by simpa [refsOf] using hb
  exact hn (Or.inr (by rw [← e2]; exact ha))
 ·rw [refs_append] at hr
  rcases List.mem_append.1 hr with hr | hr
  ·exact h.dis r hr
  ·have e2 : r = c.ref := by simpa [refsOf] using hr
   rw [e2]
   exact fun e => hn (Or.inl e)
 ·rcases List.mem_append.1 hx with hx | hx
  ·exact h.ok x hx
  ·rw [List.mem_singleton.1 hx]; exact hc
theorem RI.come {L W : List Chg} {c : Chg} (h : RI L W) (hc : chk c = 0) (hn : ¬ (c.ref ∈ refsOf L ∨ c.ref ∈ refsOf W)) (hl : L.length + W.length < 120) (hr : Ready L c) (hf : FitC L c) : RI (L ++ [c]) W := by
 refine ⟨h.inv.more hc (fun e => hn (Or.inl e)) hr hf, h.nd, fun r hr => ?_, by rw [List.length_append]; simp; omega, h.ok⟩
 rw [refs_append]
 intro e
 rcases List.mem_append.1 e with e | e
 ·exact h.dis r hr e
 ·have e2 : r = c.ref := by simpa [refsOf] using e
  exact hn (Or.inr (by rw [← e2]; exact hr))
theorem filter_cut {W : List Chg} (hn : (refsOf W).Nodup) (k : Nat) (hk : k < W.length) : W.filter (fun x => decide (x.ref ≠ W[k].ref)) = W.take k ++ W.drop (k + 1) := by
 induction W generalizing k with
 | nil => simp at hk
 | cons a l ih =>
  have h2 := List.nodup_cons.1 (show (a.ref :: refsOf l).Nodup from hn)
  cases k with
  | zero =>
   rw [List.filter_cons]
   simp only [List.getElem_cons_zero, ne_eq, not_true_eq_false, decide_false, Bool.false_eq_true, if_false, List.take_zero, List.nil_append, Nat.zero_add, List.drop_succ_cons, List.drop_zero]
   rw [List.filter_eq_self.2]
   intro x hx
   refine decide_eq_true fun e => h2.1 ?_
   rw [← e]
   exact mem_refs.2 ⟨x, hx, rfl⟩
  | succ k =>
   rw [List.filter_cons]
   have hk' : k < l.length := by simpa using hk
   simp only [List.getElem_cons_succ, List.take_succ_cons, List.drop_succ_cons, List.cons_append]
   have hd : decide (a.ref ≠ l[k].ref) = true := decide_eq_true (fun e => h2.1 (by rw [e]; exact mem_refs.2 ⟨_, List.getElem_mem hk', rfl⟩))
   rw [if_pos hd, ih h2.2 k hk']
theorem RI.step {L W L' W' : List Chg} (h : RI L W) (hs : WStep L W L' W') : RI L' W' := by
 obtain ⟨c, hc, h1, rfl⟩ := hs
 have sub : ∀ r, r ∈ refsOf (W.filter fun x => decide (x.ref ≠ c.ref)) → r ∈ refsOf W ∧ r ≠ c.ref := fun r hr => by
  obtain ⟨x, hx, rfl⟩ := mem_refs.1 hr
  have := List.mem_filter.1 hx
  exact ⟨mem_refs.2 ⟨x, this.1, rfl⟩, of_decide_eq_true this.2⟩
 have hlen : (W.filter fun x => decide (x.ref ≠ c.ref)).length < W.length := by
  refine Nat.lt_of_le_of_ne (List.length_filter_le _ _) (fun e => ?_)
  have h9 := List.length_filter_eq_length_iff.1 e c hc.1
  simp at h9
 have hnd : (refsOf (W.filter fun x => decide (x.ref ≠ c.ref))).Nodup := by unfold refsOf; exact h.nd.sublist (List.filter_sublist.map _)
 have hfew := h.few
 rcases h1 with ⟨hf, rfl⟩ | ⟨_, rfl⟩
 ·refine ⟨h.inv.more (h.ok c hc.1) (h.dis _ (mem_refs.2 ⟨c, hc.1, rfl⟩)) hc.2.1 hf, hnd, fun r hr e => ?_, by rw [List.length_append]; simp only [List.length_singleton]; omega, fun x hx => h.ok x (List.mem_filter.1 hx).1⟩
  rw [refs_append] at e
  rcases List.mem_append.1 e with e | e
  ·exact h.dis r (sub r hr).1 e
  ·have e2 : r = c.ref := by simpa [refsOf] using e
   exact (sub r hr).2 e2
 ·exact ⟨h.inv, hnd, fun r hr => h.dis r (sub r hr).1, by omega, fun x hx => h.ok x (List.mem_filter.1 hx).1⟩
structure KpT (N : Nat) (w w' : World) : Prop where
 os : w'.os = w.os
 tape : w'.tape = w.tape
 output : w'.output = w.output
 size : w.heap.size ≤ w'.heap.size
 block : ∀ k, k < w.heap.size → (k < N ∨ ∀ cur z, w.heap[k]? ≠ some (.cells cur 34 z) ∧ w.heap[k]? ≠ some (.cells cur 30 z)) → w'.heap[k]? = w.heap[k]?
theorem KpT.refl (N : Nat) (w : World) : KpT N w w := ⟨rfl, rfl, rfl, Nat.le_refl _, fun _ _ _ => rfl⟩
theorem KpT.trans {N : Nat} {w w1 w2 : World} (h : KpT N w w1) (k : KpT N w1 w2) : KpT N w w2 :=
 ⟨k.os.trans h.os, k.tape.trans h.tape, k.output.trans h.output, Nat.le_trans h.size k.size, fun b hb hS => by
  have e := h.block b hb hS
  rw [k.block b (Nat.lt_of_lt_of_le hb h.size) (hS.imp id fun hS cur z => by rw [e]; exact hS cur z)]
  exact e⟩
theorem KpT.of {N : Nat} {w w' : World} (h : Below w.heap.size w w') : KpT N w w' := ⟨h.os, h.tape, h.output, h.size, fun k hk _ => h.block k hk⟩
theorem KpT.below {N : Nat} {w w' : World} (h : KpT N w w') (hz : N ≤ w.heap.size) : Below N w w' :=
 ⟨h.os, h.tape, h.output, h.size, fun k hk => h.block k (by omega) (Or.inl hk)⟩
theorem KpT.heap {N : Nat} {w w' : World} {b : Nat} {o : Obj} (h : KpT N w w') (hb : w.heap[b]? = some o) (hS : b < N ∨ ∀ cur z, o ≠ .cells cur 34 z ∧ o ≠ .cells cur 30 z) : w'.heap[b]? = some o := by
 rw [h.block b (lt_of_heap hb) (hS.imp id fun hS cur z => by rw [hb]; exact ⟨fun e => (hS cur z).1 (Option.some.inj e), fun e => (hS cur z).2 (Option.some.inj e)⟩)]
 exact hb
theorem own_type {w : World} {B e s n b : Nat} {v : Value} {xs : List Value} (h : w.ownsRow B e s v n xs) (hb : v.ownBlock = some b) : ∃ cur, w.heap[b]? = some (.cells cur e) := by
 rcases h.2 with ⟨rfl, _⟩ | ⟨g, cap, cur, rfl, _, hg, _⟩
 ·simp [Value.ownBlock] at hb
 ·simp [Value.ownBlock] at hb
  subst hb
  exact ⟨cur, hg⟩
theorem KpT.grown {N : Nat} {w w' : World} {v : Value} {n s : Nat} {xs : List Value} (h : w.ownsRow N 34 s v n xs) (hg : w.grownBy w' v.ownBlock) : KpT N w w' :=
 ⟨hg.os, hg.tape, hg.output, hg.size, fun k hk hS => hg.block k hk (fun e => by
  obtain ⟨cur, h2⟩ := own_type h e.symm
  rcases hS with hS | hS
  ·have := (h.lt k e.symm).1; omega
  ·exact (hS cur (0, 0)).1 h2)⟩
theorem KpT.set {N g i : Nat} {w : World} {cur : Array Value} (u : Value) (h : w.heap[g]? = some (.cells cur 30)) (hN : N ≤ g) : KpT N w (w.setCell ⟨g, i, none⟩ u) :=
 have b := (Below.refl g w).setCell (p := ⟨g, i, none⟩) (Nat.le_refl _) u
 ⟨b.os, b.tape, b.output, b.size, fun k hk hS => by
  rw [Below.heap_setCell _ _ _ _ (by
   intro e
   have e : k = g := by simpa using e
   subst e
   rcases hS with hS | hS
   ·omega
   ·exact (hS cur (0, 0)).2 h)]⟩
theorem run_appC_at (ty : TypeId) (W : World) (B : Nat) (hB : B ≤ W.heap.size) (v u : Value) (us : List Value) (hu : CV u) (h : RowC B v us W) (hl : us.length ≤ 1000000) (x : Nat) (hx : W.heap[x]? = some (.cells (vcells u).toArray 34)) :
 ∃ v' W', (Builtin.append_ #[22, 22] ty #[v, .slice (some ⟨x, 0, none⟩) 1 1]).run Tryz.prog W = .ok v' W' ∧ RowC B v' (us ++ [u]) W' ∧ W.grownBy W' v.ownBlock ∧ (v'.ownBlock = v.ownBlock ∨ v'.ownBlock = some W.heap.size) := by
 obtain ⟨i0, hi0, hz0, hz1, hz2⟩ := info_parts infoC
 obtain ⟨v', W', h1, h2, h3, _, h5⟩ := run_append_own_at (P := Tryz.prog) W B 22 ty 34 i0 _ 5 _ Tryz.underlying22 hi0 hz0 hz1 hz2 rfl (by decide) v us.length _ h ⟨x, 0, none⟩ 1 1 (vcells u) (by rw [(cv_cells hu).1]) (fun j y hj => by
  have ea : (⟨x, 0, none⟩ : Addr).add j = ⟨x, j, none⟩ := by unfold Addr.add; split <;> simp_all
  rw [ea]
  simp [World.cell?, hx, hj]) (cv_cells hu).2 (by unfold maxLen; omega) (by omega) hB
 refine ⟨v', W', h1, ?_, h3, h5⟩
 show World.ownsRow _ _ _ _ _ _ _
 rw [List.flatMap_append, List.length_append]
 simpa using h2
theorem run_appCs (ty : TypeId) (W : World) (B : Nat) (hB : B ≤ W.heap.size) (v : Value) (us xs : List Value) (hx : ∀ u ∈ xs, CV u) (h : RowC B v us W) (hl : us.length + xs.length ≤ 1000000) (b o c : Nat) (hc : ∀ j y, (xs.flatMap vcells)[j]? = some y → W.cell? ⟨b, o + j, none⟩ = some y) :
 ∃ v' W', (Builtin.append_ #[22, 22] ty #[v, .slice (some ⟨b, o, none⟩) xs.length c]).run Tryz.prog W = .ok v' W' ∧ RowC B v' (us ++ xs) W' ∧ W.grownBy W' v.ownBlock ∧ (v'.ownBlock = v.ownBlock ∨ v'.ownBlock = some W.heap.size) := by
 obtain ⟨i0, hi0, hz0, hz1, hz2⟩ := info_parts infoC
 obtain ⟨v', W', h1, h2, h3, _, h5⟩ := run_append_own_at (P := Tryz.prog) W B 22 ty 34 i0 _ 5 _ Tryz.underlying22 hi0 hz0 hz1 hz2 rfl (by decide) v us.length _ h ⟨b, o, none⟩ xs.length c (xs.flatMap vcells) (flat_len hx) (fun j y hj => by
  have ea : (⟨b, o, none⟩ : Addr).add j = ⟨b, o + j, none⟩ := by unfold Addr.add; split <;> simp_all
  rw [ea]
  exact hc j y hj) (fun u hu => by
   obtain ⟨x, hx1, hx2⟩ := List.mem_flatMap.1 hu
   exact (cv_cells (hx x hx1)).2 u hx2) (by unfold maxLen; omega) (by omega) hB
 refine ⟨v', W', h1, ?_, h3, h5⟩
 show World.ownsRow _ _ _ _ _ _ _
 rw [List.flatMap_append, List.length_append]
 exact h2
structure RB (w0 : World) (g : Nat) (EL EW : List CE) (vl vw : Value) (w : World) : Prop where
 low : w0.heap.size ≤ g
 bel : Below w0.heap.size w0 w
 box : w.heap[g]? = some (.cells #[vl, vw] 30)
 rowL : RowC w0.heap.size vl (EL.map (·.2)) w
 rowW : RowC w0.heap.size vw (EW.map (·.2)) w
 ne : ∀ b, vl.ownBlock = some b → vw.ownBlock ≠ some b
 chgs : ∀ p ∈ EL ++ EW, IsChgW w0 p.2 p.1
theorem map_toCX (E : List CE) : (E.map toCX).map (·.c) = chgsOf E := by unfold chgsOf; rw [List.map_map]; rfl
section
variable {w0 w w' : World} {g : Nat} {EL EW : List CE} {vl vw : Value}
theorem RB.below (R : RB w0 g EL EW vl vw w) (b : Below w.heap.size w w') : RB w0 g EL EW vl vw w' :=
 ⟨R.low, R.bel.trans (b.mono R.bel.size), heap_below R.box b (Nat.le_refl _), own_below R.rowL b (Nat.le_refl _), own_below R.rowW b (Nat.le_refl _), R.ne, R.chgs⟩
theorem slice_row {B e s n : Nat} {v : Value} {xs : List Value} (h : w.ownsRow B e s v n xs) : ∃ a c, v = .slice a n c := by
 rcases h.2 with ⟨rfl, e⟩ | ⟨g, cap, cur, rfl, _⟩
 ·exact ⟨_, _, by rw [e]⟩
 ·exact ⟨_, _, rfl⟩
theorem RB.cv (R : RB w0 g EL EW vl vw w) : ∀ p ∈ EL ++ EW, CV p.2 := fun p hp => (toCX_val (R.chgs p hp).chg).2.2.1
theorem RB.isL (R : RB w0 g EL EW vl vw w) (hl : EL.length + EW.length ≤ 120) : IsChgs w vl (EL.map toCX) :=
 rowC_chgs R.rowL (by omega) fun p hp => (R.chgs p (List.mem_append_left _ hp)).chg.below R.bel
theorem RB.isW (R : RB w0 g EL EW vl vw w) (hl : EL.length + EW.length ≤ 120) : IsChgs w vw (EW.map toCX) :=
 rowC_chgs R.rowW (by omega) fun p hp => (R.chgs p (List.mem_append_right _ hp)).chg.below R.bel
theorem wh_toCX {w : World} {p : CE} (h : IsChgW w p.2 p.1) : Wh (toCX p).ud := by
 obtain ⟨ud, uo, l, h1, _, _, _, _, h5, _⟩ := h
 unfold toCX
 rw [h1]
 exact h5
theorem RB.whL (R : RB w0 g EL EW vl vw w) : ∀ x ∈ EL.map toCX, Wh x.ud := fun x hx => by
 obtain ⟨p, hp, rfl⟩ := List.mem_map.1 hx
 exact wh_toCX (R.chgs p (List.mem_append_left _ hp))
theorem own_ne_box {B e s n b t : Nat} {v : Value} {xs : List Value} {cur : Array Value} (h : w.ownsRow B e s v n xs) (hb : w.heap[b]? = some (.cells cur t)) (ht : t ≠ e) : v.ownBlock ≠ some b := fun e => by
 obtain ⟨cur', h2⟩ := own_type h e
 rw [hb] at h2
 have := Option.some.inj h2
 injection this with _ h5
 exact ht h5
theorem RB.addL {v' u : Value} {c : Chg} (R : RB w0 g EL EW vl vw w) (gr : w.grownBy w' vl.ownBlock) (row : RowC w0.heap.size v' (EL.map (·.2) ++ [u]) w') (hv : v'.ownBlock = vl.ownBlock ∨ v'.ownBlock = some w.heap.size) (hc : IsChgW w0 u c) :
 RB w0 g (EL ++ [(c, u)]) EW v' vw (w'.setCell ⟨g, 0, none⟩ v') ∧ KpT w0.heap.size w (w'.setCell ⟨g, 0, none⟩ v') := by
 have hne := own_ne_box R.rowL R.box (by decide)
 have hbx : w'.heap[g]? = some (.cells #[vl, vw] 30) := (gr.block g (lt_of_heap R.box) (fun e => hne e.symm)).trans R.box
 have hW := R.rowW.kept gr (by
  rcases h : vw.ownBlock with _ | b
  ·exact Or.inl rfl
  ·exact Or.inr (fun e => R.ne b e.symm h))
 have hbel := (R.bel.grown gr R.bel.size (fun k e => (R.rowL.lt k e).1))
 refine ⟨⟨R.low, hbel.setCell (p := ⟨g, 0, none⟩) R.low v', ?_, ?_, own_set_other hW hbx (by decide), fun b hb => ?_, fun p hp => ?_⟩, (KpT.grown R.rowL gr).trans (KpT.set v' hbx R.low)⟩
 ·rw [set_at hbx 0 v']; rfl
 ·rw [List.map_append]
  exact own_set_other row hbx (by decide)
 ·rcases hv with e | e
  ·exact R.ne b (by rw [← e]; exact hb)
  ·intro e2
   have := (R.rowW.lt b e2).2
   rw [e] at hb
   have := Option.some.inj hb
   omega
 ·rcases List.mem_append.1 hp with hp | hp
  ·rcases List.mem_append.1 hp with hp | hp
   ·exact R.chgs p (List.mem_append_left _ hp)
   ·rw [List.mem_singleton.1 hp]; exact hc
  ·exact R.chgs p (List.mem_append_right _ hp)
theorem RB.addW {v' u : Value} {c : Chg} (R : RB w0 g EL EW vl vw w) (gr : w.grownBy w' vw.ownBlock) (row : RowC w0.heap.size v' (EW.map (·.2) ++ [u]) w') (hv : v'.ownBlock = vw.ownBlock ∨ v'.ownBlock = some w.heap.size) (hc : IsChgW w0 u c) :
 RB w0 g EL (EW ++ [(c, u)]) vl v' (w'.setCell ⟨g, 1, none⟩ v') ∧ KpT w0.heap.size w (w'.setCell ⟨g, 1, none⟩ v') := by
 have hne := own_ne_box R.rowW R.box (by decide)
 have hbx : w'.heap[g]? = some (.cells #[vl, vw] 30) := (gr.block g (lt_of_heap R.box) (fun e => hne e.symm)).trans R.box
 have hL := R.rowL.kept gr (by
  rcases h : vl.ownBlock with _ | b
  ·exact Or.inl rfl
  ·exact Or.inr (fun e => R.ne b h e.symm))
 have hbel := (R.bel.grown gr R.bel.size (fun k e => (R.rowW.lt k e).1))
 refine ⟨⟨R.low, hbel.setCell (p := ⟨g, 1, none⟩) R.low v', ?_, own_set_other hL hbx (by decide), ?_, fun b hb => ?_, fun p hp => ?_⟩, (KpT.grown R.rowW gr).trans (KpT.set v' hbx R.low)⟩
 ·rw [set_at hbx 1 v']; rfl
 ·rw [List.map_append]
  exact own_set_other row hbx (by decide)
 ·rcases hv with e | e
  ·rw [e]; exact R.ne b hb
  ·intro e2
   have := (R.rowL.lt b hb).2
   rw [e] at e2
   have := Option.some.inj e2
   omega
 ·rcases List.mem_append.1 hp with hp | hp
  ·exact R.chgs p (List.mem_append_left _ hp)
  ·rcases List.mem_append.1 hp with hp | hp
   ·exact R.chgs p (List.mem_append_right _ hp)
   ·rw [List.mem_singleton.1 hp]; exact hc
theorem RB.setW {EV : List CE} {v' : Value} (R : RB w0 g EL EW vl vw w) (row : RowC w0.heap.size v' (EV.map (·.2)) w) (hv : ∀ b, vl.ownBlock = some b → v'.ownBlock ≠ some b) (hc : ∀ p ∈ EV, p ∈ EW) :
 RB w0 g EL EV vl v' (w.setCell ⟨g, 1, none⟩ v') ∧ KpT w0.heap.size w (w.setCell ⟨g, 1, none⟩ v') := by
 refine ⟨⟨R.low, R.bel.setCell (p := ⟨g, 1, none⟩) R.low v', ?_, own_set_other R.rowL R.box (by decide), own_set_other row R.box (by decide), hv, fun p hp => ?_⟩, KpT.set v' R.box R.low⟩
 ·rw [set_at R.box 1 v']; rfl
 ·rcases List.mem_append.1 hp with hp | hp
  ·exact R.chgs p (List.mem_append_left _ hp)
  ·exact R.chgs p (List.mem_append_right _ (hc p hp))
end
end Go.Proofs.YtejfemdkommfhaaGreatDoor
