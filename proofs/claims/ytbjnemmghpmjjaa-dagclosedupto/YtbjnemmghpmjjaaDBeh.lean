/-
  What is proved: what the function within package dag's behind does: it adds changes of a book, each once.
  Conditions: the book lies in memory.
-/
import Derived.Test.YtbjnemmghpmjjaaDBook
import Derived.Deep.RegionLaw
namespace Go.Proofs.Ytbjnemmghpmjjaa
open Go.RowKit Go.Maps

/-- The cells of a value of many. -/
def vcells : Value → List Value
  | .agg a => a.toList
  | _ => []

theorem cv_cells {u : Value} (h : CV u) : (vcells u).length = 5 ∧ ∀ x ∈ vcells u, x.oneCell' = true := by
  obtain ⟨a, s, t, d, n, c, o, m, e, rfl⟩ := h
  refine ⟨rfl, fun x hx => ?_⟩
  simp [vcells] at hx
  rcases hx with rfl | rfl | rfl | rfl | rfl <;> rfl

theorem flat_len {us : List Value} (h : ∀ u ∈ us, CV u) : (us.flatMap vcells).length = us.length * 5 := by
  induction us with
  | nil => rfl
  | cons u us ih =>
    rw [List.flatMap_cons, List.length_append, ih (fun x hx => h x (List.mem_cons_of_mem _ hx)), (cv_cells (h u (List.mem_cons_self ..))).1, List.length_cons]
    omega

/-- A row of changes of the call's own. -/
abbrev RowC (B : Nat) (v : Value) (us : List Value) (w : World) : Prop := w.ownsRow B 31 5 v us.length (us.flatMap vcells)

theorem infoC : (Try.prog.info? 31).map (fun i => (i.zero, i.size, i.bytes)) = some (some zC, 5, 72) := by kernel_rfl

theorem run_appC (ty : TypeId) (W : World) (B : Nat) (hB : B ≤ W.heap.size) (v u : Value) (us : List Value) (hu : CV u) (h : RowC B v us W) (hl : us.length ≤ 1000000) (x : Nat) (hx : W.heap[x]? = some (.cells (vcells u).toArray 31)) :
    ∃ v' W', (Builtin.append_ #[22, 22] ty #[v, .slice (some ⟨x, 0, none⟩) 1 1]).run Try.prog W = .ok v' W' ∧ RowC B v' (us ++ [u]) W' ∧ W.grownBy W' v.ownBlock := by
  obtain ⟨i0, hi0, hz0, hz1, hz2⟩ := info_parts infoC
  obtain ⟨v', W', h1, h2, h3, _⟩ := run_append_own (P := Try.prog) W B 22 ty 31 i0 _ 5 _ Try.underlying22 hi0 hz0 hz1 hz2 rfl (by decide) v us.length _ h ⟨x, 0, none⟩ 1 1 (vcells u) (by rw [(cv_cells hu).1]) (fun j y hj => by
    have ea : (⟨x, 0, none⟩ : Addr).add j = ⟨x, j, none⟩ := by unfold Addr.add; split <;> simp_all
    rw [ea]
    simp [World.cell?, hx, hj]) (cv_cells hu).2 (by unfold maxLen; omega) (by omega) hB
  refine ⟨v', W', h1, ?_, h3⟩
  show World.ownsRow _ _ _ _ _ _ _
  rw [List.flatMap_append, List.length_append]
  simpa using h2

/-- What stands at a ref. -/
def entV (L : List (Pr × Value)) (r : Pr) : Value := (lk L r).getD zC

/-- Refs, each once, behind some. -/
def addR (D rs : List Pr) : List Pr := rs.foldl (fun D r => if r ∈ D then D else D ++ [r]) D

theorem addR_snoc (D rs : List Pr) (r : Pr) : addR D (rs ++ [r]) = if r ∈ addR D rs then addR D rs else addR D rs ++ [r] := by
  unfold addR
  rw [List.foldl_append]
  rfl
theorem addR_len (D rs : List Pr) : (addR D rs).length ≤ D.length + rs.length := by
  induction rs generalizing D with
  | nil => simp [addR]
  | cons r rs ih =>
    have h := ih (if r ∈ D then D else D ++ [r])
    have e : addR D (r :: rs) = addR (if r ∈ D then D else D ++ [r]) rs := rfl
    rw [e]
    by_cases hm : r ∈ D
    · rw [if_pos hm] at h ⊢
      simp only [List.length_cons]
      omega
    · rw [if_neg hm] at h ⊢
      simp only [List.length_cons, List.length_append, List.length_nil] at h ⊢
      omega

theorem lk_ones (D : List Pr) (r : Pr) : lk (D.map fun r => (r, (.int .i64 1 : Value))) r = if r ∈ D then some (.int .i64 1) else none := by
  split
  · rename_i h
    cases hk : lk (D.map fun r => (r, (.int .i64 1 : Value))) r with
    | none => exact absurd (by simpa [Function.comp_def] using h) (lk_none.1 hk)
    | some v =>
      obtain ⟨x, _, e⟩ := List.mem_map.1 (lk_mem hk)
      simp at e
      rw [e.2]
  · rename_i h
    exact lk_none.2 (by simpa [Function.comp_def] using h)

/-- What holds while behind goes on. -/
structure Bh (w : World) (g : Nat) (L : List (Pr × Value)) (D : List Pr) (lv : Value) (wr : World) : Prop where
  b : wr.heap[w.heap.size]? = some (.cells #[.pointer (some ⟨g, 0, none⟩)] 23)
  l : wr.heap[w.heap.size + 1]? = some (.cells #[lv] 22)
  m : MapL wr (w.heap.size + 2) (D.map fun r => (r, (.int .i64 1 : Value)))
  s : wr.heap[w.heap.size + 3]? = some (.cells #[.map (some (w.heap.size + 2))] 51)
  row : RowC (w.heap.size + 4) lv (D.map (entV L)) wr
  bel : Below w.heap.size w wr
  z : w.heap.size + 4 ≤ wr.heap.size

theorem Bh.below {w : World} {g : Nat} {L : List (Pr × Value)} {D : List Pr} {lv : Value} {wr V : World} (h : Bh w g L D lv wr) (hb : Below wr.heap.size wr V) : Bh w g L D lv V :=
  ⟨heap_below h.b hb (Nat.le_refl _), heap_below h.l hb (Nat.le_refl _), h.m.below hb, heap_below h.s hb (Nat.le_refl _), own_below h.row hb (Nat.le_refl _), h.bel.trans (hb.mono (by have := h.z; omega)), Nat.le_trans h.z hb.size⟩

theorem grown_heap {W W' : World} {row : Option Nat} {k : Nat} {o : Obj} (h : W.heap[k]? = some o) (hg : W.grownBy W' row) (hne : some k ≠ row) : W'.heap[k]? = some o := by
  rw [hg.block k (lt_of_heap h) hne]; exact h

/-- A change more, behind an append and a store. -/
theorem Bh.app {w : World} {g : Nat} {L : List (Pr × Value)} {D : List Pr} {lv nv : Value} {r : Pr} {wr V : World}
    (hb : wr.heap[w.heap.size]? = some (.cells #[.pointer (some ⟨g, 0, none⟩)] 23)) (hl : wr.heap[w.heap.size + 1]? = some (.cells #[lv] 22)) (hm : MapL wr (w.heap.size + 2) ((D ++ [r]).map fun r => (r, (.int .i64 1 : Value)))) (hs : wr.heap[w.heap.size + 3]? = some (.cells #[.map (some (w.heap.size + 2))] 51))
    (hrow : RowC (w.heap.size + 4) lv (D.map (entV L)) wr) (hbel : Below w.heap.size w wr) (hz : w.heap.size + 4 ≤ wr.heap.size) (hg : wr.grownBy V lv.ownBlock) (hn : RowC (w.heap.size + 4) nv (D.map (entV L) ++ [entV L r]) V) :
    Bh w g L (D ++ [r]) nv (V.setCell ⟨w.heap.size + 1, 0, none⟩ nv) := by
  have low : ∀ k, k < w.heap.size + 4 → some k ≠ lv.ownBlock := fun k hk e => by
    have := (hrow.lt k e.symm).1
    omega
  have bV : Below w.heap.size w V := hbel.grown hg hbel.size (fun k e => by have := (hrow.lt k e).1; omega)
  have zV : w.heap.size + 4 ≤ V.heap.size := Nat.le_trans hz hg.size
  have lV := grown_heap hl hg (low _ (by omega))
  have sz := ((Below.refl w.heap.size V).setCell (p := ⟨w.heap.size + 1, 0, none⟩) (show w.heap.size ≤ w.heap.size + 1 by omega) nv).size
  refine ⟨heap_set_other (grown_heap hb hg (low _ (by omega))) (by omega), ?_, ?_, heap_set_other (grown_heap hs hg (low _ (by omega))) (by omega), ?_, bV.setCell (p := ⟨w.heap.size + 1, 0, none⟩) (show w.heap.size ≤ w.heap.size + 1 by omega) nv, by omega⟩
  · exact set_at lV 0 nv
  · have := (hm.grown hg (low _ (by omega)))
    obtain ⟨D', ⟨es, clock, h0, h1⟩, h2⟩ := this.own
    exact ⟨⟨D', ⟨es, clock, heap_set_other h0 (by omega), h1⟩, h2⟩, this.nd, this.r64⟩
  · rw [List.map_append]
    exact ownsRow_setCell_below hn (a := ⟨w.heap.size + 1, 0, none⟩) (by show w.heap.size + 1 < w.heap.size + 4; omega) nv

theorem zeroI (w : World) : (zeroValue 3).run Try.prog w = .ok (.int .i64 0) w := by kernel_rfl

set_option maxRecDepth 100000 in
set_option maxHeartbeats 8000000 in
theorem add_any (w : World) (g h q : Nat) (LH LW : List (Pr × Value)) (D : List Pr) (lv v : Value) (rs : List Pr) (W : World) (Bw : BookAt w g h q LH LW) (hC : ∀ q ∈ LH, CV q.2) (hv : IsPairs w v rs) (B : Bh w g LH D lv W) (hn : D.length + rs.length ≤ 100000) :
    Calls Try.prog 54 #[v, .pointer (some ⟨w.heap.size + 3, 0, none⟩), .pointer (some ⟨w.heap.size + 1, 0, none⟩), .pointer (some ⟨w.heap.size, 0, none⟩)] W fun e w' => e = .returned (.tuple #[]) ∧ ∃ nv, Bh w g LH (addR D rs) nv w' := by
  obtain ⟨a, cap, rfl, h1, h2, hr, h3⟩ := hv
  have H3 : Hid (rs ≠ [] → ∃ b off, a = some ⟨b, off, none⟩ ∧ _) := h3
  have HA : Hid (BookAt w g h q LH LW ∧ (∀ q ∈ LH, CV q.2) ∧ Bh w g LH D lv W ∧ D.length + rs.length ≤ 100000 ∧ (∀ q ∈ rs, R64 q)) := ⟨Bw, hC, B, hn, hr⟩
  clear h3 h1 h2 Bw hC B hn hr
  go_enter Try.func54, Try.ntmps54
  go_wp2_with fail
  go_loopw [9] (fun i wr => ∃ (k : Nat) (nv : Value), k ≤ rs.length ∧ i = .int .i64 k ∧ Hid (Bh w g LH (addR D (rs.take k)) nv wr)) (fun i _ => rs.length - (RowKit.intOf i).toNat)
  case atStart => exact ⟨0, lv, Nat.zero_le _, rfl, HA.out.2.2.1⟩
  case round =>
    obtain ⟨k, nv, hk, rfl, hB⟩ := hrel
    by_cases hlt : k < rs.length
    · obtain ⟨b, off, rfl, h4, h5⟩ := H3.out (fun e => by rw [e] at hlt; simp at hlt)
      have hbel := hB.out.bel
      have x0 : wr.cell? ⟨b, off + k * 2, none⟩ = some (.int .i64 rs[k].1) := by rw [hbel.cell (p := ⟨b, off + k * 2, none⟩) h4]; exact (h5 k hlt).1
      have x1 : wr.cell? ⟨b, off + k * 2 + 1, none⟩ = some (.int .i64 rs[k].2) := by rw [hbel.cell (p := ⟨b, off + k * 2 + 1, none⟩) h4]; exact (h5 k hlt).2
      have g1 : (k : Int) < rs.length := by omega
      have g2 : (k : Int) < 100000 := by have := HA.out.2.2.2.1; omega
      have h64 : R64 rs[k] := HA.out.2.2.2.2 _ (List.getElem_mem hlt)
      have hlen := addR_len D (rs.take k)
      rw [List.length_take] at hlen
      have hD1 : addR D (rs.take (k + 1)) = if rs[k] ∈ addR D (rs.take k) then addR D (rs.take k) else addR D (rs.take k) ++ [rs[k]] := by
        rw [List.take_succ_eq_append_getElem hlt, addR_snoc]
      obtain ⟨r, hq⟩ : ∃ q : Pr, rs[k] = q := ⟨_, rfl⟩
      obtain ⟨D', hD'⟩ : ∃ D', addR D (rs.take k) = D' := ⟨_, rfl⟩
      rw [hD'] at hB hD1 hlen
      rw [hq] at x0 x1 h64 hD1
      have HK : Hid (k < rs.length ∧ D'.length ≤ 100000) := ⟨hlt, by have := HA.out.2.2.2.1; omega⟩
      have HD : Hid (addR D (rs.take (k + 1)) = _) := hD1
      have bA := (Below.refl wr.heap.size wr).alloc (Nat.le_refl _) (.cells #[.int .i64 r.1, .int .i64 r.2] 34)
      have hB1 := hB.out.below bA
      have N := heap_alloc_new wr (.cells #[.int .i64 r.1, .int .i64 r.2] 34)
      have hlk := hB1.m.look1 Try.underlying51 (zeroI _) h64
      rw [lk_ones] at hlk
      have c1 : (wr.alloc (.cells #[.int .i64 r.1, .int .i64 r.2] 34)).cell? ⟨w.heap.size + 3, 0, none⟩ = some (.map (some (w.heap.size + 2))) := Lib.cell_of_heap hB1.s 0
      have hne : w.heap.size + 3 < wr.heap.size := by have := hB.out.z; omega
      have HB1 : Hid (_ ∧ _) := ⟨hB1, N⟩
      have Hk : Hid (k ≤ rs.length) := hk
      clear h5 hk hlt hD1 hlen hbel hB hq bA hB1 N
      by_cases hm : r ∈ D'
      · rw [if_pos hm] at hlk HD
        simp only [Option.getD_some] at hlk
        have HM : Hid (r ∈ D') := hm
        clear hm
        go_wp2
        go_roundw
        case rel => exact ⟨k + 1, nv, HK.out.1, by go_num, by rw [HD.out]; exact HB1.out.1⟩
        case measure => simp [RowKit.intOf]; have := HK.out; omega
      · rw [if_neg hm] at hlk HD
        simp only [Option.getD_none] at hlk
        have hput := HB1.out.1.m.put Try.underlying51 h64 (by simp; have := HK.out; omega) (.int .i64 1)
        obtain ⟨V, hrun, hM, ht⟩ := hput
        have HV : Hid (_ ∧ _) := ⟨hM, ht⟩
        have HM : Hid (r ∉ D') := hm
        clear hm hM ht
        go_upto_region 5 with fail
        have kp := Kp.turned HV.out.2
        have z0 := HB1.out.1.z
        have vb := kp.heap HB1.out.1.b (by simp)
        have vl := kp.heap HB1.out.1.l (by simp)
        have vs := kp.heap HB1.out.1.s (by simp)
        have vN := kp.heap HB1.out.2 (by simp; omega)
        have vbook := HA.out.1.below ((HB1.out.1.bel).trans (kp.below (B := w.heap.size) (by simp) HB1.out.1.bel.size))
        have vbel : Below w.heap.size w V := (HB1.out.1.bel).trans (kp.below (B := w.heap.size) (by simp) HB1.out.1.bel.size)
        have vrow : RowC (w.heap.size + 4) nv (D'.map (entV LH)) V := HB1.out.1.row.kept HV.out.2.grown (Or.inr (fun e => by have := (HB1.out.1.row.lt _ e).1; omega))
        have vz : w.heap.size + 4 ≤ V.heap.size := Nat.le_trans z0 kp.size
        have vM : MapL V (w.heap.size + 2) ((D' ++ [r]).map fun r => (r, (.int .i64 1 : Value))) := by
          have := HV.out.1
          rw [putL_new (by rw [lk_ones, if_neg HM.out])] at this
          simpa using this
        have c2 : V.cell? ⟨w.heap.size + 1, 0, none⟩ = some nv := Lib.cell_of_heap vl 0
        have c3 : V.cell? ⟨w.heap.size, 0, none⟩ = some (.pointer (some ⟨g, 0, none⟩)) := Lib.cell_of_heap vb 0
        have c4 : V.cell? ⟨g, 0, none⟩ = some (.map (some h)) := Lib.cell_of_heap vbook.box 0
        have c5 : V.cell? ⟨wr.heap.size, 0, none⟩ = some (.int .i64 r.1) := Lib.cell_of_heap vN 0
        have c6 : V.cell? ⟨wr.heap.size, 1, none⟩ = some (.int .i64 r.2) := Lib.cell_of_heap vN 1
        have s1 := lt_of_heap vl
        have s2 := lt_of_heap vb
        have s3 := lt_of_heap vbook.box
        have s4 := lt_of_heap vN
        have hlk2 := MapL.look1 (w := V.drew) ⟨vbook.has.own, vbook.has.nd, vbook.has.r64⟩ Try.underlying41 (zeroC _) h64
        have hcv := cv_look HA.out.2.1 r
        have hent : entV LH r = (lk LH r).getD zC := rfl
        rw [← hent] at hlk2 hcv
        have bD : Below V.heap.size V (V.drew.alloc (.cells (vcells (entV LH r)).toArray 31)) := (drew_of (Below.refl _ V)).alloc (Nat.le_refl _) _
        have x5 : (V.drew.alloc (.cells (vcells (entV LH r)).toArray 31)).heap[V.heap.size]? = some (.cells (vcells (entV LH r)).toArray 31) := heap_alloc_new V.drew _
        obtain ⟨nv', U, happ, hrow', hgr⟩ := run_appC 22 (V.drew.alloc (.cells (vcells (entV LH r)).toArray 31)) (w.heap.size + 4) (Nat.le_trans vz bD.size) nv (entV LH r) (D'.map (entV LH)) hcv (own_below vrow bD (Nat.le_refl _)) (by simp; have := HK.out; omega) V.heap.size x5
        obtain ⟨na, nn, nc, rfl⟩ : ∃ a n c, nv' = .slice a n c := by
          rcases hrow'.2 with ⟨e, _⟩ | ⟨_, _, _, e, _⟩
          · exact ⟨_, _, _, e⟩
          · exact ⟨_, _, _, e⟩
        have low : ∀ k, k < w.heap.size + 4 → some k ≠ nv.ownBlock := fun k hk e => by
          have := (vrow.lt k e.symm).1
          omega
        have ul := grown_heap (heap_below vl bD (Nat.le_refl _)) hgr (low _ (by omega))
        have c7 : U.cell? ⟨w.heap.size + 1, 0, none⟩ = some nv := Lib.cell_of_heap ul 0
        have uf := Lib.frozen_of_heap ul
        have s5 := lt_of_heap ul
        have HX : Hid (Bh w g LH (D' ++ [r]) (.slice na nn nc) (U.setCell ⟨w.heap.size + 1, 0, none⟩ (.slice na nn nc))) := Bh.app (heap_below vb bD (Nat.le_refl _)) (heap_below vl bD (Nat.le_refl _)) (vM.below bD) (heap_below vs bD (Nat.le_refl _)) (own_below vrow bD (Nat.le_refl _)) (vbel.trans (bD.mono vbel.size)) (Nat.le_trans vz bD.size) hgr hrow'
        obtain ⟨ea, es, et, ed, en, ec, eo, em, ee, hev⟩ := hcv
        rw [hev] at hlk2 happ hgr
        simp only [vcells] at happ hgr
        clear kp z0 vb vl vs vN vbook vbel vrow vz vM hent bD x5 hrow' low ul hgr hlk hrun c1 x0 x1
        go_region_law (refine step_append_known rfl (.tmp 19) (.tmp 26) 22 rfl nv (.slice (some ⟨V.heap.size, 0, none⟩) 1 1) (.slice na nn nc) U (by simp [Act.eval]) (by simp [Act.eval]) happ ?_)
        all_goals
          have hX := HX.out
          clear c2 c3 c4 c5 c6 c7 uf hlk2 happ s1 s2 s3 s4 s5 hev
          generalize U.setCell ⟨w.heap.size + 1, 0, none⟩ (.slice na nn nc) = U2 at *
          have HY : Hid _ := hX
          clear hX
          go_wp2
          go_roundw
          case rel => exact ⟨k + 1, _, HK.out.1, by go_num, by rw [HD.out]; exact HY.out⟩
          case measure => simp [RowKit.intOf]; have := HK.out; omega
    · have hke : k = rs.length := by omega
      subst hke
      rw [List.take_length] at hB
      clear hlt hk
      go_wp2
      go_end0
      exact ⟨rfl, nv, hB.out⟩
end Go.Proofs.Ytbjnemmghpmjjaa
