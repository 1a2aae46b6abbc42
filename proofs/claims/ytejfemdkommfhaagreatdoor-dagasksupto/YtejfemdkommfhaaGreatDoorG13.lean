/-
  What is proved: as each theorem says.
  Conditions: as each theorem says.
-/
import Derived.Test.YtejfemdkommfhaaGreatDoorG09
import Derived.Test.YtejfemdkommfhaaGreatDoorG11
import Derived.Test.YtejfemdkommfhaaGreatDoorG12
import Derived.Deep.RegionLaw
namespace Go.Proofs.YtejfemdkommfhaaGreatDoor
open Go.RowKit Go.Maps
def NoCells (w : World) (S : List Nat) : Prop := ∀ b ∈ S, ∀ o, w.cell? ⟨b, o, none⟩ = none
theorem noCells_map {w : World} {b : Nat} {L : List (Pr × Value)} (h : MapL w b L) : NoCells w [b] := fun x hx o => by
 obtain ⟨D, ⟨es, clock, hb, _⟩, _⟩ := h.own
 rw [List.mem_singleton.1 hx]
 simp [World.cell?, hb]
theorem Kp.cell {S : List Nat} {w w' : World} (k : Kp S w w') {p : Addr} (hp : p.block < w.heap.size) (hS : p.block ∉ S) : w'.cell? p = w.cell? p := by
 unfold World.cell?
 rw [k.block _ hp hS]
theorem IsPairs.keep {S : List Nat} {w w' : World} {v : Value} {p : List Pr} (h : IsPairs w v p) (k : Kp S w w') (hn : NoCells w S) : IsPairs w' v p := by
 obtain ⟨a, cap, rfl, h1, h2, hr, h3⟩ := h
 refine ⟨a, cap, rfl, h1, h2, hr, fun hl => ?_⟩
 obtain ⟨b, off, rfl, h4, h5⟩ := h3 hl
 have hS : b ∉ S := fun e => by
  have h0 := (h5 0 (by cases p with | nil => exact absurd rfl hl | cons _ _ => simp)).1
  rw [hn b e] at h0
  cases h0
 exact ⟨b, off, rfl, Nat.lt_of_lt_of_le h4 k.size, fun i hi => ⟨by rw [k.cell (p := ⟨b, off + i * 2, none⟩) h4 hS]; exact (h5 i hi).1, by rw [k.cell (p := ⟨b, off + i * 2 + 1, none⟩) h4 hS]; exact (h5 i hi).2⟩⟩
theorem IsOps.keep {S : List Nat} {w w' : World} {v : Value} {l : List OV} (h : IsOps w v l) (k : Kp S w w') (hn : NoCells w S) : IsOps w' v l := by
 obtain ⟨a, cap, rfl, h1, h2, hr, h3⟩ := h
 refine ⟨a, cap, rfl, h1, h2, fun q hq => ⟨(hr q hq).1.keep k hn, (hr q hq).2⟩, fun hl => ?_⟩
 obtain ⟨b, off, rfl, h4, h5⟩ := h3 hl
 have hS : b ∉ S := fun e => by
  have h0 := h5 0 (by cases l with | nil => exact absurd rfl hl | cons _ _ => simp) 0 (by omega)
  rw [hn b e] at h0
  simp [opCells] at h0
 exact ⟨b, off, rfl, Nat.lt_of_lt_of_le h4 k.size, fun i hi j hj => by rw [k.cell (p := ⟨b, off + i * 13 + j, none⟩) h4 hS]; exact h5 i hi j hj⟩
theorem IsChgW.keep {S : List Nat} {w w' : World} {v : Value} {c : Chg} (h : IsChgW w v c) (k : Kp S w w') (hn : NoCells w S) : IsChgW w' v c := by
 obtain ⟨ud, uo, l, h1, h2, h3, h4, h5, h6⟩ := h
 exact ⟨ud, uo, l, h1, h2, h3.keep k hn, h4.keep k hn, h5, h6⟩
theorem IsChgW.below {w w' : World} {v : Value} {c : Chg} (h : IsChgW w v c) (hb : Below w.heap.size w w') : IsChgW w' v c := by
 obtain ⟨ud, uo, l, h1, h2, h3, h4, h5, h6⟩ := h
 exact ⟨ud, uo, l, h1, h2, h3.below hb, h4.below hb, h5, h6⟩
theorem IsChgW.cv {w : World} {v : Value} {c : Chg} (h : IsChgW w v c) : CV v := by
 obtain ⟨ud, uo, l, rfl, _, ⟨a, k, rfl, _⟩, ⟨a', k', rfl, _⟩, _⟩ := h
 exact ⟨_, _, _, _, _, _, _, _, _, rfl⟩
def Chg.ref (c : Chg) : Pr := (c.actor, c.seq)
theorem chkOps_every {l : List OpM} (h : chkOps l = 0) : ∀ o ∈ l, chkOp o = 0 := by
 induction l with
 | nil => simp
 | cons o r ih =>
  rw [chkOps] at h
  split at h
  ·rename_i h0
   intro x hx
   rcases List.mem_cons.1 hx with rfl | hx
   ·exact h0
   ·exact ih h x hx
  ·rename_i h0
   exact absurd h h0
theorem chk_few {c : Chg} (h : chk c = 0) : c.deps.length ≤ 12 ∧ c.ops.length ≤ 40 ∧ (∀ o ∈ c.ops, o.preds.length ≤ 12) ∧ (1 ≤ c.actor ∧ c.actor ≤ 99) ∧ (1 ≤ c.seq ∧ c.seq ≤ 1000000) ∧ (1 ≤ c.start ∧ c.start ≤ 1000000) := by
 unfold chk at h
 split at h
 ·rename_i h0
  unfold chkHead at h0
  split at h0
  ·rename_i h1
   simp only [fromB, Bool.and_eq_true, decide_eq_true_eq] at h1
   split at h0
   ·cases h0
   ·split at h0
    ·split at h0
     ·cases h0
     ·refine ⟨by omega, by omega, fun o ho => ?_, by omega, by omega, by omega⟩
      have h2 := chkOps_every h o ho
      unfold chkOp at h2
      split at h2
      ·cases h2
      ·split at h2
       ·cases h2
       ·rename_i h3
        omega
    ·rename_i h2
     exact absurd h0 h2
  ·cases h0
 ·rename_i h0
  exact absurd h h0
abbrev CE : Type := Chg × Value
def ents (E : List CE) : List (Pr × Value) := E.map fun p => (p.1.ref, p.2)
theorem ents_len (E : List CE) : (ents E).length = E.length := by simp [ents]
theorem ents_keys (E : List CE) : (ents E).map (·.1) = E.map (·.1.ref) := by simp [ents, Function.comp_def]
theorem ents_append (E F : List CE) : ents (E ++ F) = ents E ++ ents F := by simp [ents]
def Clo (E : List CE) : Prop := ∀ pre p post, E = pre ++ p :: post → ∀ d ∈ p.1.deps, d ∈ pre.map (·.1.ref)
structure Bk (w : World) (g h q : Nat) (EH EW : List CE) : Prop where
 book : BookAt w g h q (ents EH) (ents EW)
 chgs : ∀ p ∈ EH ++ EW, IsChgW w p.2 p.1 ∧ chk p.1 = 0
 clo : Clo EH
 many : EH.length + EW.length ≤ 120
 dis : ∀ r ∈ EW.map (·.1.ref), r ∉ EH.map (·.1.ref)
theorem Bk.below {w w' : World} {g h q : Nat} {EH EW : List CE} (B : Bk w g h q EH EW) (b : Below w.heap.size w w') : Bk w' g h q EH EW :=
 ⟨B.book.below b, fun p hp => ⟨(B.chgs p hp).1.below b, (B.chgs p hp).2⟩, B.clo, B.many, B.dis⟩
theorem Bk.cvH {w : World} {g h q : Nat} {EH EW : List CE} (B : Bk w g h q EH EW) : ∀ x ∈ ents EH, CV x.2 := fun x hx => by
 obtain ⟨p, hp, rfl⟩ := List.mem_map.1 hx
 exact (B.chgs p (List.mem_append_left _ hp)).1.cv
theorem Bk.cvW {w : World} {g h q : Nat} {EH EW : List CE} (B : Bk w g h q EH EW) : ∀ x ∈ ents EW, CV x.2 := fun x hx => by
 obtain ⟨p, hp, rfl⟩ := List.mem_map.1 hx
 exact (B.chgs p (List.mem_append_right _ hp)).1.cv
theorem clo_snoc {E : List CE} {p : CE} (hE : Clo E) (hp : ∀ d ∈ p.1.deps, d ∈ E.map (·.1.ref)) : Clo (E ++ [p]) := by
 intro pre x post he d hd
 rcases List.append_eq_append_iff.1 he with ⟨a, h1, h2⟩ | ⟨a, h1, h2⟩
 ·cases a with
  | nil =>
   simp at h1 h2
   obtain ⟨rfl, _⟩ := h2
   subst h1
   exact hp d hd
  | cons y a =>
   simp at h2
 ·cases a with
  | nil =>
   simp at h1 h2
   obtain ⟨rfl, _⟩ := h2
   subst h1
   exact hp d hd
  | cons y a =>
   simp at h2
   obtain ⟨rfl, _⟩ := h2
   exact hE pre x a h1 d hd
theorem clo_all {E : List CE} (hE : Clo E) : ∀ p ∈ E, ∀ d ∈ p.1.deps, d ∈ E.map (·.1.ref) := fun p hp d hd => by
 obtain ⟨pre, post, rfl⟩ := List.append_of_mem hp
 have := hE pre p post rfl d hd
 rw [List.map_append]
 exact List.mem_append_left _ this
theorem mem_keys {E : List CE} {r : Pr} : r ∈ E.map (·.1.ref) ↔ (lk (ents E) r).isSome = true := by
 rw [← ents_keys]
 cases h : lk (ents E) r with
 | none => simp only [Option.isSome_none]; have := lk_none.1 h; simp [this]
 | some v => simp only [Option.isSome_some, iff_true]; exact List.mem_map.2 ⟨_, lk_mem h, rfl⟩
theorem lk_ents {E : List CE} {r : Pr} {v : Value} (h : lk (ents E) r = some v) : ∃ c, (c, v) ∈ E ∧ c.ref = r := by
 obtain ⟨p, hp, e⟩ := List.mem_map.1 (lk_mem h)
 simp at e
 exact ⟨p.1, by rw [← e.2]; exact hp, e.1⟩
end Go.Proofs.YtejfemdkommfhaaGreatDoor
namespace Go.Proofs.YtejfemdkommfhaaGreatDoor
open Go.RowKit Go.Maps
def vcells : Value → List Value
 | .agg a => a.toList
 | _ => []
theorem cv_cells {u : Value} (h : CV u) : (vcells u).length = 5 ∧ ∀ x ∈ vcells u, x.oneCell' = true := by
 obtain ⟨a, s, t, d, n, c, o, m, e, rfl⟩ := h
 refine ⟨rfl, fun x hx => ?_⟩
 simp [vcells] at hx
 rcases hx with rfl | rfl | rfl | rfl | rfl <;> rfl
theorem flat_len {us : List Value} (h : ∀ u ∈ us, CV u) : (us.flatMap vcells).length = us.length * 5 := by
 induction us with
 | nil => rfl
 | cons u us ih =>
  rw [List.flatMap_cons, List.length_append, ih (fun x hx => h x (List.mem_cons_of_mem _ hx)), (cv_cells (h u (List.mem_cons_self ..))).1, List.length_cons]
  omega
abbrev RowC (B : Nat) (v : Value) (us : List Value) (w : World) : Prop := w.ownsRow B 34 5 v us.length (us.flatMap vcells)
theorem infoC : (Tryz.prog.info? 34).map (fun i => (i.zero, i.size, i.bytes)) = some (some zC, 5, 72) := by kernel_rfl
theorem run_appC (ty : TypeId) (W : World) (B : Nat) (hB : B ≤ W.heap.size) (v u : Value) (us : List Value) (hu : CV u) (h : RowC B v us W) (hl : us.length ≤ 1000000) (x : Nat) (hx : W.heap[x]? = some (.cells (vcells u).toArray 34)) :
 ∃ v' W', (Builtin.append_ #[22, 22] ty #[v, .slice (some ⟨x, 0, none⟩) 1 1]).run Tryz.prog W = .ok v' W' ∧ RowC B v' (us ++ [u]) W' ∧ W.grownBy W' v.ownBlock := by
 obtain ⟨i0, hi0, hz0, hz1, hz2⟩ := info_parts infoC
 obtain ⟨v', W', h1, h2, h3, _⟩ := run_append_own (P := Tryz.prog) W B 22 ty 34 i0 _ 5 _ Tryz.underlying22 hi0 hz0 hz1 hz2 rfl (by decide) v us.length _ h ⟨x, 0, none⟩ 1 1 (vcells u) (by rw [(cv_cells hu).1]) (fun j y hj => by
  have ea : (⟨x, 0, none⟩ : Addr).add j = ⟨x, j, none⟩ := by unfold Addr.add; split <;> simp_all
  rw [ea]
  simp [World.cell?, hx, hj]) (cv_cells hu).2 (by unfold maxLen; omega) (by omega) hB
 refine ⟨v', W', h1, ?_, h3⟩
 show World.ownsRow _ _ _ _ _ _ _
 rw [List.flatMap_append, List.length_append]
 simpa using h2
def entV (L : List (Pr × Value)) (r : Pr) : Value := (lk L r).getD zC
def addR (D rs : List Pr) : List Pr := rs.foldl (fun D r => if r ∈ D then D else D ++ [r]) D
theorem addR_snoc (D rs : List Pr) (r : Pr) : addR D (rs ++ [r]) = if r ∈ addR D rs then addR D rs else addR D rs ++ [r] := by
 unfold addR
 rw [List.foldl_append]
 rfl
theorem addR_len (D rs : List Pr) : (addR D rs).length ≤ D.length + rs.length := by
 induction rs generalizing D with
 | nil => simp [addR]
 | cons r rs ih =>
  have h := ih (if r ∈ D then D else D ++ [r])
  have e : addR D (r :: rs) = addR (if r ∈ D then D else D ++ [r]) rs := rfl
  rw [e]
  by_cases hm : r ∈ D
  ·rw [if_pos hm] at h ⊢
   simp only [List.length_cons]
   omega
  ·rw [if_neg hm] at h ⊢
   simp only [List.length_cons, List.length_append, List.length_nil] at h ⊢
   omega
theorem lk_ones (D : List Pr) (r : Pr) : lk (D.map fun r => (r, (.int .i64 1 : Value))) r = if r ∈ D then some (.int .i64 1) else none := by
 split
 ·rename_i h
  cases hk : lk (D.map fun r => (r, (.int .i64 1 : Value))) r with
  | none => exact absurd (by simpa [Function.comp_def] using h) (lk_none.1 hk)
  | some v =>
   obtain ⟨x, _, e⟩ := List.mem_map.1 (lk_mem hk)
   simp at e
   rw [e.2]
 ·rename_i h
  exact lk_none.2 (by simpa [Function.comp_def] using h)
structure Bh (w : World) (g : Nat) (L : List (Pr × Value)) (D : List Pr) (lv : Value) (wr : World) : Prop where
 b : wr.heap[w.heap.size]? = some (.cells #[.pointer (some ⟨g, 0, none⟩)] 26)
 l : wr.heap[w.heap.size + 1]? = some (.cells #[lv] 22)
 m : MapL wr (w.heap.size + 2) (D.map fun r => (r, (.int .i64 1 : Value)))
 s : wr.heap[w.heap.size + 3]? = some (.cells #[.map (some (w.heap.size + 2))] 102)
 row : RowC (w.heap.size + 4) lv (D.map (entV L)) wr
 bel : Below w.heap.size w wr
 z : w.heap.size + 4 ≤ wr.heap.size
theorem Bh.below {w : World} {g : Nat} {L : List (Pr × Value)} {D : List Pr} {lv : Value} {wr V : World} (h : Bh w g L D lv wr) (hb : Below wr.heap.size wr V) : Bh w g L D lv V :=
 ⟨heap_below h.b hb (Nat.le_refl _), heap_below h.l hb (Nat.le_refl _), h.m.below hb, heap_below h.s hb (Nat.le_refl _), own_below h.row hb (Nat.le_refl _), h.bel.trans (hb.mono (by have := h.z; omega)), Nat.le_trans h.z hb.size⟩
theorem grown_heap {W W' : World} {row : Option Nat} {k : Nat} {o : Obj} (h : W.heap[k]? = some o) (hg : W.grownBy W' row) (hne : some k ≠ row) : W'.heap[k]? = some o := by
 rw [hg.block k (lt_of_heap h) hne]; exact h
theorem Bh.app {w : World} {g : Nat} {L : List (Pr × Value)} {D : List Pr} {lv nv : Value} {r : Pr} {wr V : World}
 (hb : wr.heap[w.heap.size]? = some (.cells #[.pointer (some ⟨g, 0, none⟩)] 26)) (hl : wr.heap[w.heap.size + 1]? = some (.cells #[lv] 22)) (hm : MapL wr (w.heap.size + 2) ((D ++ [r]).map fun r => (r, (.int .i64 1 : Value)))) (hs : wr.heap[w.heap.size + 3]? = some (.cells #[.map (some (w.heap.size + 2))] 102))
 (hrow : RowC (w.heap.size + 4) lv (D.map (entV L)) wr) (hbel : Below w.heap.size w wr) (hz : w.heap.size + 4 ≤ wr.heap.size) (hg : wr.grownBy V lv.ownBlock) (hn : RowC (w.heap.size + 4) nv (D.map (entV L) ++ [entV L r]) V) :
 Bh w g L (D ++ [r]) nv (V.setCell ⟨w.heap.size + 1, 0, none⟩ nv) := by
 have low : ∀ k, k < w.heap.size + 4 → some k ≠ lv.ownBlock := fun k hk e => by
  have := (hrow.lt k e.symm).1
  omega
 have bV : Below w.heap.size w V := hbel.grown hg hbel.size (fun k e => by have := (hrow.lt k e).1; omega)
 have zV : w.heap.size + 4 ≤ V.heap.size := Nat.le_trans hz hg.size
 have lV := grown_heap hl hg (low _ (by omega))
 have sz := ((Below.refl w.heap.size V).setCell (p := ⟨w.heap.size + 1, 0, none⟩) (show w.heap.size ≤ w.heap.size + 1 by omega) nv).size
 refine ⟨heap_set_other (grown_heap hb hg (low _ (by omega))) (by omega), ?_, ?_, heap_set_other (grown_heap hs hg (low _ (by omega))) (by omega), ?_, bV.setCell (p := ⟨w.heap.size + 1, 0, none⟩) (show w.heap.size ≤ w.heap.size + 1 by omega) nv, by omega⟩
 ·exact set_at lV 0 nv
 ·have := (hm.grown hg (low _ (by omega)))
  obtain ⟨D', ⟨es, clock, h0, h1⟩, h2⟩ := this.own
  exact ⟨⟨D', ⟨es, clock, heap_set_other h0 (by omega), h1⟩, h2⟩, this.nd, this.r64⟩
 ·rw [List.map_append]
  exact ownsRow_setCell_below hn (a := ⟨w.heap.size + 1, 0, none⟩) (by show w.heap.size + 1 < w.heap.size + 4; omega) nv
theorem zeroI (w : World) : (zeroValue 3).run Tryz.prog w = .ok (.int .i64 0) w := by kernel_rfl
set_option maxRecDepth 100000 in
set_option maxHeartbeats 8000000 in
theorem add_any (w : World) (g h q : Nat) (LH LW : List (Pr × Value)) (D : List Pr) (lv v : Value) (rs : List Pr) (W : World) (Bw : BookAt w g h q LH LW) (hC : ∀ q ∈ LH, CV q.2) (hv : IsPairs w v rs) (B : Bh w g LH D lv W) (hn : D.length + rs.length ≤ 100000) :
 Calls Tryz.prog 62 #[v, .pointer (some ⟨w.heap.size + 3, 0, none⟩), .pointer (some ⟨w.heap.size + 1, 0, none⟩), .pointer (some ⟨w.heap.size, 0, none⟩)] W fun e w' => e = .returned (.tuple #[]) ∧ ∃ nv, Bh w g LH (addR D rs) nv w' := by
 obtain ⟨a, cap, rfl, h1, h2, hr, h3⟩ := hv
 have H3 : Hid (rs ≠ [] → ∃ b off, a = some ⟨b, off, none⟩ ∧ _) := h3
 have HA : Hid (BookAt w g h q LH LW ∧ (∀ q ∈ LH, CV q.2) ∧ Bh w g LH D lv W ∧ D.length + rs.length ≤ 100000 ∧ (∀ q ∈ rs, R64 q)) := ⟨Bw, hC, B, hn, hr⟩
 clear h3 h1 h2 Bw hC B hn hr
 go_enter Tryz.func62, Tryz.ntmps62
 go_wp2_with fail
 go_loopw [9] (fun i wr => ∃ (k : Nat) (nv : Value), k ≤ rs.length ∧ i = .int .i64 k ∧ Hid (Bh w g LH (addR D (rs.take k)) nv wr)) (fun i _ => rs.length - (RowKit.intOf i).toNat)
 case atStart => exact ⟨0, lv, Nat.zero_le _, rfl, HA.out.2.2.1⟩
 case round =>
  obtain ⟨k, nv, hk, rfl, hB⟩ := hrel
  by_cases hlt : k < rs.length
  ·obtain ⟨b, off, rfl, h4, h5⟩ := H3.out (fun e => by rw [e] at hlt; simp at hlt)
   have hbel := hB.out.bel
   have x0 : wr.cell? ⟨b, off + k * 2, none⟩ = some (.int .i64 rs[k].1) := by rw [hbel.cell (p := ⟨b, off + k * 2, none⟩) h4]; exact (h5 k hlt).1
   have x1 : wr.cell? ⟨b, off + k * 2 + 1, none⟩ = some (.int .i64 rs[k].2) := by rw [hbel.cell (p := ⟨b, off + k * 2 + 1, none⟩) h4]; exact (h5 k hlt).2
   have g1 : (k : Int) < rs.length := by omega
   have g2 : (k : Int) < 100000 := by have := HA.out.2.2.2.1; omega
   have h64 : R64 rs[k] := HA.out.2.2.2.2 _ (List.getElem_mem hlt)
   have hlen := addR_len D (rs.take k)
   rw [List.length_take] at hlen
   have hD1 : addR D (rs.take (k + 1)) = if rs[k] ∈ addR D (rs.take k) then addR D (rs.take k) else addR D (rs.take k) ++ [rs[k]] := by
    rw [List.take_succ_eq_append_getElem hlt, addR_snoc]
   obtain ⟨r, hq⟩ : ∃ q : Pr, rs[k] = q := ⟨_, rfl⟩
   obtain ⟨D', hD'⟩ : ∃ D', addR D (rs.take k) = D' := ⟨_, rfl⟩
   rw [hD'] at hB hD1 hlen
   rw [hq] at x0 x1 h64 hD1
   have HK : Hid (k < rs.length ∧ D'.length ≤ 100000) := ⟨hlt, by have := HA.out.2.2.2.1; omega⟩
   have HD : Hid (addR D (rs.take (k + 1)) = _) := hD1
   have bA := (Below.refl wr.heap.size wr).alloc (Nat.le_refl _) (.cells #[.int .i64 r.1, .int .i64 r.2] 25)
   have hB1 := hB.out.below bA
   have N := heap_alloc_new wr (.cells #[.int .i64 r.1, .int .i64 r.2] 25)
   have hlk := hB1.m.look1 Tryz.underlying102 (zeroI _) h64
   rw [lk_ones] at hlk
   have c1 : (wr.alloc (.cells #[.int .i64 r.1, .int .i64 r.2] 25)).cell? ⟨w.heap.size + 3, 0, none⟩ = some (.map (some (w.heap.size + 2))) := Lib.cell_of_heap hB1.s 0
   have hne : w.heap.size + 3 < wr.heap.size := by have := hB.out.z; omega
   have HB1 : Hid (_ ∧ _) := ⟨hB1, N⟩
   have Hk : Hid (k ≤ rs.length) := hk
   clear h5 hk hlt hD1 hlen hbel hB hq bA hB1 N
   by_cases hm : r ∈ D'
   ·rw [if_pos hm] at hlk HD
    simp only [Option.getD_some] at hlk
    have HM : Hid (r ∈ D') := hm
    clear hm
    go_wp2
    go_roundw
    case rel => exact ⟨k + 1, nv, HK.out.1, by go_num, by rw [HD.out]; exact HB1.out.1⟩
    case measure => simp [RowKit.intOf]; have := HK.out; omega
   ·rw [if_neg hm] at hlk HD
    simp only [Option.getD_none] at hlk
    have hput := HB1.out.1.m.put Tryz.underlying102 h64 (by simp; have := HK.out; omega) (.int .i64 1)
    obtain ⟨V, hrun, hM, ht⟩ := hput
    have HV : Hid (_ ∧ _) := ⟨hM, ht⟩
    have HM : Hid (r ∉ D') := hm
    clear hm hM ht
    go_upto_region 5 with fail
    have kp := Kp.turned HV.out.2
    have z0 := HB1.out.1.z
    have vb := kp.heap HB1.out.1.b (by simp)
    have vl := kp.heap HB1.out.1.l (by simp)
    have vs := kp.heap HB1.out.1.s (by simp)
    have vN := kp.heap HB1.out.2 (by simp; omega)
    have vbook := HA.out.1.below ((HB1.out.1.bel).trans (kp.below (B := w.heap.size) (by simp) HB1.out.1.bel.size))
    have vbel : Below w.heap.size w V := (HB1.out.1.bel).trans (kp.below (B := w.heap.size) (by simp) HB1.out.1.bel.size)
    have vrow : RowC (w.heap.size + 4) nv (D'.map (entV LH)) V := HB1.out.1.row.kept HV.out.2.grown (Or.inr (fun e => by have := (HB1.out.1.row.lt _ e).1; omega))
    have vz : w.heap.size + 4 ≤ V.heap.size := Nat.le_trans z0 kp.size
    have vM : MapL V (w.heap.size + 2) ((D' ++ [r]).map fun r => (r, (.int .i64 1 : Value))) := by
     have := HV.out.1
     rw [putL_new (by rw [lk_ones, if_neg HM.out])] at this
     simpa using this
    have c2 : V.cell? ⟨w.heap.size + 1, 0, none⟩ = some nv := Lib.cell_of_heap vl 0
    have c3 : V.cell? ⟨w.heap.size, 0, none⟩ = some (.pointer (some ⟨g, 0, none⟩)) := Lib.cell_of_heap vb 0
    have c4 : V.cell? ⟨g, 0, none⟩ = some (.map (some h)) := Lib.cell_of_heap vbook.box 0
    have c5 : V.cell? ⟨wr.heap.size, 0, none⟩ = some (.int .i64 r.1) := Lib.cell_of_heap vN 0
    have c6 : V.cell? ⟨wr.heap.size, 1, none⟩ = some (.int .i64 r.2) := Lib.cell_of_heap vN 1
    have s1 := lt_of_heap vl
    have s2 := lt_of_heap vb
    have s3 := lt_of_heap vbook.box
    have s4 := lt_of_heap vN
    have hlk2 := MapL.look1 (w := V.drew) ⟨vbook.has.own, vbook.has.nd, vbook.has.r64⟩ Tryz.underlying53 (zeroC _) h64
    have hcv := cv_look HA.out.2.1 r
    have hent : entV LH r = (lk LH r).getD zC := rfl
    rw [← hent] at hlk2 hcv
    have bD : Below V.heap.size V (V.drew.alloc (.cells (vcells (entV LH r)).toArray 34)) := (drew_of (Below.refl _ V)).alloc (Nat.le_refl _) _
    have x5 : (V.drew.alloc (.cells (vcells (entV LH r)).toArray 34)).heap[V.heap.size]? = some (.cells (vcells (entV LH r)).toArray 34) := heap_alloc_new V.drew _
    obtain ⟨nv', U, happ, hrow', hgr⟩ := run_appC 22 (V.drew.alloc (.cells (vcells (entV LH r)).toArray 34)) (w.heap.size + 4) (Nat.le_trans vz bD.size) nv (entV LH r) (D'.map (entV LH)) hcv (own_below vrow bD (Nat.le_refl _)) (by simp; have := HK.out; omega) V.heap.size x5
    obtain ⟨na, nn, nc, rfl⟩ : ∃ a n c, nv' = .slice a n c := by
     rcases hrow'.2 with ⟨e, _⟩ | ⟨_, _, _, e, _⟩
     ·exact ⟨_, _, _, e⟩
     ·exact ⟨_, _, _, e⟩
    have low : ∀ k, k < w.heap.size + 4 → some k ≠ nv.ownBlock := fun k hk e => by
     have := (vrow.lt k e.symm).1
     omega
    have ul := grown_heap (heap_below vl bD (Nat.le_refl _)) hgr (low _ (by omega))
    have c7 : U.cell? ⟨w.heap.size + 1, 0, none⟩ = some nv := Lib.cell_of_heap ul 0
    have uf := Lib.frozen_of_heap ul
    have s5 := lt_of_heap ul
    have HX : Hid (Bh w g LH (D' ++ [r]) (.slice na nn nc) (U.setCell ⟨w.heap.size + 1, 0, none⟩ (.slice na nn nc))) := Bh.app (heap_below vb bD (Nat.le_refl _)) (heap_below vl bD (Nat.le_refl _)) (vM.below bD) (heap_below vs bD (Nat.le_refl _)) (own_below vrow bD (Nat.le_refl _)) (vbel.trans (bD.mono vbel.size)) (Nat.le_trans vz bD.size) hgr hrow'
    obtain ⟨ea, es, et, ed, en, ec, eo, em, ee, hev⟩ := hcv
    rw [hev] at hlk2 happ hgr
    simp only [vcells] at happ hgr
    clear kp z0 vb vl vs vN vbook vbel vrow vz vM hent bD x5 hrow' low ul hgr hlk hrun c1 x0 x1
    go_region_law (refine step_append_known rfl (.tmp 19) (.tmp 26) 22 rfl nv (.slice (some ⟨V.heap.size, 0, none⟩) 1 1) (.slice na nn nc) U (by simp [Act.eval]) (by simp [Act.eval]) happ ?_)
    all_goals
     have hX := HX.out
     clear c2 c3 c4 c5 c6 c7 uf hlk2 happ s1 s2 s3 s4 s5 hev
     generalize U.setCell ⟨w.heap.size + 1, 0, none⟩ (.slice na nn nc) = U2 at *
     have HY : Hid _ := hX
     clear hX
     go_wp2
     go_roundw
     case rel => exact ⟨k + 1, _, HK.out.1, by go_num, by rw [HD.out]; exact HY.out⟩
     case measure => simp [RowKit.intOf]; have := HK.out; omega
  ·have hke : k = rs.length := by omega
   subst hke
   rw [List.take_length] at hB
   clear hlt hk
   go_wp2
   go_end0
   exact ⟨rfl, nv, hB.out⟩
end Go.Proofs.YtejfemdkommfhaaGreatDoor
