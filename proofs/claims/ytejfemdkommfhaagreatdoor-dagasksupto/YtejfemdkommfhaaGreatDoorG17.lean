/-
  What is proved: as each theorem says.
  Conditions: as each theorem says.
-/
import Derived.Test.YtejfemdkommfhaaGreatDoorG16
import Derived.Deep.LoopGhost
import Derived.Deep.RegionLaw
import Derived.Test.YtejfemdkommfhaaGreatDoorG10
import Derived.Test.YtejfemdkommfhaaGreatDoorG06
import Derived.Test.YtejfemdkommfhaaGreatDoorG07
import Derived.Test.YtejfemdkommfhaaGreatDoorG14
namespace Go.Proofs.YtejfemdkommfhaaGreatDoor
open Go.RowKit Go.Maps
theorem nodup_ents {w : World} {g h q : Nat} {EH EW : List CE} (B : Bk w g h q EH EW) : (EH.map (·.1.ref)).Nodup ∧ (EW.map (·.1.ref)).Nodup := by
 have h1 := B.book.has.nd
 have h2 := B.book.wait.nd
 rw [ents_keys] at h1 h2
 exact ⟨h1, h2⟩
def dropE (E : List CE) (r : Pr) : List CE := E.filter fun p => p.1.ref != r
theorem ents_drop (E : List CE) (r : Pr) : ents (dropE E r) = (ents E).filter fun q => q.1 != r := by
 unfold ents dropE
 rw [List.filter_map]
 rfl
theorem dropE_len (E : List CE) (r : Pr) (h : r ∈ E.map (·.1.ref)) : (dropE E r).length < E.length := by
 have : ∃ p ∈ E, ¬ (p.1.ref != r) = true := by
  obtain ⟨p, hp, e⟩ := List.mem_map.1 h
  exact ⟨p, hp, by simp [e]⟩
 rcases Nat.lt_or_ge (dropE E r).length E.length with h1 | h1
 ·exact h1
 ·have h2 := List.length_filter_le (fun p : CE => p.1.ref != r) E
  have h3 : (E.filter fun p : CE => p.1.ref != r).length = E.length := Nat.le_antisymm h2 h1
  obtain ⟨p, hp, hn⟩ := this
  exact absurd ((List.length_filter_eq_length_iff.1 h3) p hp) hn
theorem Bk.drop {w w' : World} {g h q : Nat} {EH EW : List CE} (B : Bk w g h q EH EW) (r : Pr) (hM : MapL w' q ((ents EW).filter fun x => x.1 != r)) (ht : w.mapTurned w' q) : Bk w' g h q EH (dropE EW r) := by
 have kp := Kp.turned ht
 have nc : NoCells w [q] := noCells_map B.book.wait
 refine ⟨⟨kp.heap B.book.box ?_, B.book.has.kp kp (by simpa using B.book.ne), by rw [ents_drop]; exact hM, B.book.ne⟩, fun p hp => ?_, B.clo, ?_, ?_⟩
 ·intro e
  simp at e
  have h1 := nc g (by simp [e]) 0
  rw [Lib.cell_of_heap B.book.box 0] at h1
  cases h1
 ·have hp' : p ∈ EH ++ EW := by
   rcases List.mem_append.1 hp with e | e
   ·exact List.mem_append_left _ e
   ·exact List.mem_append_right _ (List.mem_filter.1 e).1
  exact ⟨(B.chgs p hp').1.keep kp nc, (B.chgs p hp').2⟩
 ·have := List.length_filter_le (fun p : CE => p.1.ref != r) EW
  have := B.many
  unfold dropE
  omega
 ·intro x hx
  obtain ⟨p, hp, rfl⟩ := List.mem_map.1 hx
  exact B.dis _ (List.mem_map.2 ⟨p, (List.mem_filter.1 hp).1, rfl⟩)
theorem Bk.come {w w' : World} {g h q : Nat} {EH EW : List CE} (B : Bk w g h q EH EW) (c : Chg) (v : Value) (hv : IsChgW w v c) (hc : chk c = 0) (hd : ∀ d ∈ c.deps, d ∈ EH.map (·.1.ref)) (hn : c.ref ∉ EH.map (·.1.ref)) (hn' : c.ref ∉ EW.map (·.1.ref)) (hm : EH.length + EW.length < 120) (hM : MapL w' h (putL (ents EH) c.ref v)) (ht : w.mapTurned w' h) : Bk w' g h q (EH ++ [(c, v)]) EW := by
 have kp := Kp.turned ht
 have nc : NoCells w [h] := noCells_map B.book.has
 have hl : lk (ents EH) c.ref = none := by
  cases hk : lk (ents EH) c.ref with
  | none => rfl
  | some u => exact absurd (mem_keys.2 (by rw [hk]; rfl)) hn
 refine ⟨⟨kp.heap B.book.box ?_, ?_, B.book.wait.kp kp (by simpa using B.book.ne.symm), B.book.ne⟩, fun p hp => ?_, clo_snoc B.clo hd, ?_, ?_⟩
 ·intro e
  simp at e
  have h1 := nc g (by simp [e]) 0
  rw [Lib.cell_of_heap B.book.box 0] at h1
  cases h1
 ·rw [ents_append]
  rw [putL_new hl] at hM
  exact hM
 ·have hp' : p ∈ EH ++ EW ∨ p = (c, v) := by
   rcases List.mem_append.1 hp with e | e
   ·rcases List.mem_append.1 e with e | e
    ·exact Or.inl (List.mem_append_left _ e)
    ·exact Or.inr (List.mem_singleton.1 e)
   ·exact Or.inl (List.mem_append_right _ e)
  rcases hp' with e | rfl
  ·exact ⟨(B.chgs p e).1.keep kp nc, (B.chgs p e).2⟩
  ·exact ⟨hv.keep kp nc, hc⟩
 ·simp
  omega
 ·intro x hx e
  rw [List.map_append] at e
  rcases List.mem_append.1 e with e | e
  ·exact B.dis x hx e
  ·simp at e
   exact hn' (by rw [← e]; exact hx)
theorem Bk.wait' {w w' : World} {g h q : Nat} {EH EW : List CE} (B : Bk w g h q EH EW) (c : Chg) (v : Value) (hv : IsChgW w v c) (hc : chk c = 0) (hn : c.ref ∉ EW.map (·.1.ref)) (hn' : c.ref ∉ EH.map (·.1.ref)) (hm : EH.length + EW.length < 120) (hM : MapL w' q (putL (ents EW) c.ref v)) (ht : w.mapTurned w' q) : Bk w' g h q EH (EW ++ [(c, v)]) := by
 have kp := Kp.turned ht
 have nc : NoCells w [q] := noCells_map B.book.wait
 have hl : lk (ents EW) c.ref = none := by
  cases hk : lk (ents EW) c.ref with
  | none => rfl
  | some u => exact absurd (mem_keys.2 (by rw [hk]; rfl)) hn
 refine ⟨⟨kp.heap B.book.box ?_, B.book.has.kp kp (by simpa using B.book.ne), ?_, B.book.ne⟩, fun p hp => ?_, B.clo, ?_, ?_⟩
 ·intro e
  simp at e
  have h1 := nc g (by simp [e]) 0
  rw [Lib.cell_of_heap B.book.box 0] at h1
  cases h1
 ·rw [ents_append]
  rw [putL_new hl] at hM
  exact hM
 ·have hp' : p ∈ EH ++ EW ∨ p = (c, v) := by
   rcases List.mem_append.1 hp with e | e
   ·exact Or.inl (List.mem_append_left _ e)
   ·rcases List.mem_append.1 e with e | e
    ·exact Or.inl (List.mem_append_right _ e)
    ·exact Or.inr (List.mem_singleton.1 e)
  rcases hp' with e | rfl
  ·exact ⟨(B.chgs p e).1.keep kp nc, (B.chgs p e).2⟩
  ·exact ⟨hv.keep kp nc, hc⟩
 ·simp
  omega
 ·intro x hx e
  rw [List.map_append] at hx
  rcases List.mem_append.1 hx with hx | hx
  ·exact B.dis x hx e
  ·simp at hx
   exact hn' (by rw [← hx]; exact e)
theorem step_delete_known {ops : Array Oper} {o : Oper} {a : Act} {w : World} {K : Act → World → Prop} {Q : Exit → Act → World → Prop} {E : Prop} (hgd : o.guard = none) (s x : Operand) (T k : TypeId)
 (ho : o.op = .call { callee := .builtin .delete, args := #[s, x], argTypes := #[T, k] }) (v u r : Value) (w' : World) (hs : a.eval s = v) (hx : a.eval x = u)
 (hrun : (Builtin.delete_ #[T, k] o.type #[v, u]).run Tryz.prog w = .ok r w') (hK : K (a.put o.dst r) w') : if Region.wanted o (yielded ops a.tmps) = true then Oper.wp Tryz.prog o a w K Q else E := by
 have hw : Region.wanted o (yielded ops a.tmps) = true := by simp [Region.wanted, hgd]
 rw [if_pos hw]
 unfold Oper.wp
 simp [execOp, ho, resolve, invoke, builtin, hs, hx, hrun, Result.andThen]
 exact hK
end Go.Proofs.YtejfemdkommfhaaGreatDoor
namespace Go.Proofs.YtejfemdkommfhaaGreatDoor
open Go.RowKit Go.Maps
theorem keepT {W W' : World} {g i m rb xb dn dc on oc : Nat} {ca cs ct : Int} {da oa : Option Addr} (h : W.cell? ⟨g, i, none⟩ = some (.map (some m)) ∧ W.cell? ⟨rb, 0, none⟩ = some (.int .i64 ca) ∧ W.cell? ⟨rb, 1, none⟩ = some (.int .i64 cs) ∧ W.cell? ⟨xb, 0, none⟩ = some (.int .i64 ca) ∧ W.cell? ⟨xb, 1, none⟩ = some (.int .i64 cs) ∧ W.cell? ⟨xb, 2, none⟩ = some (.int .i64 ct) ∧ W.cell? ⟨xb, 3, none⟩ = some (.slice da dn dc) ∧ W.cell? ⟨xb, 4, none⟩ = some (.slice oa on oc)) (hb : Below W.heap.size W W') : W'.cell? ⟨g, i, none⟩ = some (.map (some m)) ∧ W'.cell? ⟨rb, 0, none⟩ = some (.int .i64 ca) ∧ W'.cell? ⟨rb, 1, none⟩ = some (.int .i64 cs) ∧ W'.cell? ⟨xb, 0, none⟩ = some (.int .i64 ca) ∧ W'.cell? ⟨xb, 1, none⟩ = some (.int .i64 cs) ∧ W'.cell? ⟨xb, 2, none⟩ = some (.int .i64 ct) ∧ W'.cell? ⟨xb, 3, none⟩ = some (.slice da dn dc) ∧ W'.cell? ⟨xb, 4, none⟩ = some (.slice oa on oc) := by
 obtain ⟨h0, h1, h2, h3, h4, h5, h6, h7⟩ := h
 exact ⟨(hb.cell (cell_in h0)).trans h0, (hb.cell (cell_in h1)).trans h1, (hb.cell (cell_in h2)).trans h2, (hb.cell (cell_in h3)).trans h3, (hb.cell (cell_in h4)).trans h4, (hb.cell (cell_in h5)).trans h5, (hb.cell (cell_in h6)).trans h6, (hb.cell (cell_in h7)).trans h7⟩
theorem kept_cell {S : List Nat} {W W' : World} {b o : Nat} {v : Value} (h : W.cell? ⟨b, o, none⟩ = some v) (kp : Kp S W W') (nc : NoCells W S) : W'.cell? ⟨b, o, none⟩ = some v :=
 (kp.cell (p := ⟨b, o, none⟩) (cell_in h) (fun e => by have := nc b e o; rw [h] at this; cases this)).trans h
theorem keepP {S : List Nat} {W W' : World} {g i m rb xb dn dc on oc : Nat} {ca cs ct : Int} {da oa : Option Addr} (h : W.cell? ⟨g, i, none⟩ = some (.map (some m)) ∧ W.cell? ⟨rb, 0, none⟩ = some (.int .i64 ca) ∧ W.cell? ⟨rb, 1, none⟩ = some (.int .i64 cs) ∧ W.cell? ⟨xb, 0, none⟩ = some (.int .i64 ca) ∧ W.cell? ⟨xb, 1, none⟩ = some (.int .i64 cs) ∧ W.cell? ⟨xb, 2, none⟩ = some (.int .i64 ct) ∧ W.cell? ⟨xb, 3, none⟩ = some (.slice da dn dc) ∧ W.cell? ⟨xb, 4, none⟩ = some (.slice oa on oc)) (kp : Kp S W W') (nc : NoCells W S) : W'.cell? ⟨g, i, none⟩ = some (.map (some m)) ∧ W'.cell? ⟨rb, 0, none⟩ = some (.int .i64 ca) ∧ W'.cell? ⟨rb, 1, none⟩ = some (.int .i64 cs) ∧ W'.cell? ⟨xb, 0, none⟩ = some (.int .i64 ca) ∧ W'.cell? ⟨xb, 1, none⟩ = some (.int .i64 cs) ∧ W'.cell? ⟨xb, 2, none⟩ = some (.int .i64 ct) ∧ W'.cell? ⟨xb, 3, none⟩ = some (.slice da dn dc) ∧ W'.cell? ⟨xb, 4, none⟩ = some (.slice oa on oc) := by
 obtain ⟨h0, h1, h2, h3, h4, h5, h6, h7⟩ := h
 exact ⟨kept_cell h0 kp nc, kept_cell h1 kp nc, kept_cell h2 kp nc, kept_cell h3 kp nc, kept_cell h4 kp nc, kept_cell h5 kp nc, kept_cell h6 kp nc, kept_cell h7 kp nc⟩
end Go.Proofs.YtejfemdkommfhaaGreatDoor
namespace Go.Proofs.YtejfemdkommfhaaGreatDoor
open Go.RowKit Go.Maps
set_option maxRecDepth 100000 in
set_option maxHeartbeats 2000000 in
theorem rRefC_any (a s t : Int) (d : Option Addr) (n c : Nat) (o : Option Addr) (m e : Nat) (w : World) :
 Calls Tryz.prog 11 #[.agg #[.int .i64 a, .int .i64 s, .int .i64 t, .slice d n c, .slice o m e]] w fun x w' => x = .returned (refV (a, s)) ∧ Below w.heap.size w w' := by
 go_enter Tryz.func11, Tryz.ntmps11
 go_wp2
 go_returns
 exact ⟨rfl, ((Below.refl _ _).alloc (Nat.le_refl _) _).alloc (by simp) _⟩
set_option maxRecDepth 100000 in
set_option maxHeartbeats 4000000 in
theorem rHas_any (v : Value) (l : List Pr) (r : Pr) (w : World) (hv : IsPairs w v l) :
 Calls Tryz.prog 9 #[v, refV r] w fun e w' => e = .returned (.bool (decide (r ∈ l))) ∧ Below w.heap.size w w' := by
 obtain ⟨a, cap, rfl, h1, h2, hr, h3⟩ := hv
 have H3 : Hid (l ≠ [] → ∃ b off, a = some ⟨b, off, none⟩ ∧ _) := h3
 have HZ : Hid (l.length ≤ 8796093022208) := h2
 have b0 := (Below.refl w.heap.size w).alloc (Nat.le_refl _) (.cells #[.int .i64 r.1, .int .i64 r.2] 25)
 have n0 := heap_alloc_new w (.cells #[.int .i64 r.1, .int .i64 r.2] 25)
 have HA : Hid (_ ∧ _) := ⟨b0, n0⟩
 clear h3 hr h1 h2 b0 n0
 have HE := eqR
 obtain ⟨rb, hrb⟩ : ∃ z : Bool, decide (r ∈ l) = z := ⟨_, rfl⟩
 rw [hrb]
 have HR : Hid (decide (r ∈ l) = rb) := hrb
 clear hrb
 go_enter Tryz.func9, Tryz.ntmps9
 go_wp2_with fail
 go_loopw [5] (fun i wr => ∃ k : Nat, k ≤ l.length ∧ i = .int .i64 k ∧ Hid ((∀ j (hj : j < l.length), j < k → l[j] ≠ r) ∧ Below w.heap.size w wr ∧ wr.heap[w.heap.size]? = some (.cells #[.int .i64 r.1, .int .i64 r.2] 25))) (fun i _ => l.length - (RowKit.intOf i).toNat)
 case atStart => exact ⟨0, Nat.zero_le _, rfl, fun j _ hj => absurd hj (Nat.not_lt_zero _), HA.out⟩
 case round =>
  obtain ⟨k, hk, rfl, hR⟩ := hrel
  by_cases hlt : k < l.length
  ·obtain ⟨b, off, rfl, h4, h5⟩ := H3.out (fun e => by rw [e] at hlt; simp at hlt)
   have x0 : wr.cell? ⟨b, off + k * 2, none⟩ = some (.int .i64 l[k].1) := by rw [hR.out.2.1.cell (p := ⟨b, off + k * 2, none⟩) h4]; exact (h5 k hlt).1
   have x1 : wr.cell? ⟨b, off + k * 2 + 1, none⟩ = some (.int .i64 l[k].2) := by rw [hR.out.2.1.cell (p := ⟨b, off + k * 2 + 1, none⟩) h4]; exact (h5 k hlt).2
   have y0 : wr.cell? ⟨w.heap.size, 0, none⟩ = some (.int .i64 r.1) := Lib.cell_of_heap hR.out.2.2 0
   have y1 : wr.cell? ⟨w.heap.size, 1, none⟩ = some (.int .i64 r.2) := Lib.cell_of_heap hR.out.2.2 1
   have g1 : (k : Int) < l.length := by omega
   have g2 : (k : Int) < 8796093022208 := by have := HZ.out; omega
   have g3 : (0 : Int) ≤ k := by omega
   obtain ⟨p, hp⟩ : ∃ q : Pr, l[k] = q := ⟨_, rfl⟩
   have HP : Hid (∀ h : k < l.length, l[k] = p) := fun _ => hp
   rw [hp] at x0 x1
   have EQ := HE p r
   obtain ⟨sb, hsb⟩ : ∃ s : Bool, samePr p r = s := ⟨_, rfl⟩
   rw [hsb] at EQ
   have HS : Hid (samePr p r = sb) := hsb
   have HK : Hid (k < l.length) := hlt
   clear h5 hk hlt hp hsb HE
   cases sb with
   | true =>
    have HZ2 : Hid (rb = true) := by
     show _ = _
     rw [← HR.out]
     have h1 := (samePr_iff p r).1 HS.out
     have h2 := HP.out HK.out
     rw [decide_eq_true_iff, ← h1, ← h2]
     exact List.getElem_mem _
    go_wp2
    go_quiet (fail)
    go_wp2
    go_ret
    exact ⟨by rw [HZ2.out]; rfl, below_drew hR.out.2.1 nq⟩
   | false =>
    go_wp2
    go_quiet (fail)
    go_wp2
    go_roundw
    case rel =>
     refine ⟨k + 1, HK.out, by go_num, fun j hj hjk => ?_, below_drew hR.out.2.1 nq, hR.out.2.2⟩
     rcases Nat.lt_or_ge j k with e | e
     ·exact hR.out.1 j hj e
     ·obtain rfl : j = k := by omega
      rw [HP.out HK.out]
      exact samePr_no HS.out
    case measure => simp [RowKit.intOf]; have := HK.out; omega
  ·have hke : k = l.length := by omega
   have HZ2 : Hid (rb = false) := by
    show _ = _
    rw [← HR.out, decide_eq_false_iff_not]
    intro e
    obtain ⟨j, hj, ej⟩ := List.getElem_of_mem e
    exact hR.out.1 j hj (by omega) ej
   clear hlt hk
   subst hke
   go_wp2
   go_ret
   exact ⟨by rw [HZ2.out]; rfl, hR.out.2.1⟩
end Go.Proofs.YtejfemdkommfhaaGreatDoor
namespace Go.Proofs.YtejfemdkommfhaaGreatDoor
open Go.RowKit Go.Sort
def refsOf (L : List Chg) : List Pr := L.map (·.ref)
theorem mem_refs {L : List Chg} {r : Pr} : r ∈ refsOf L ↔ ∃ c ∈ L, c.ref = r := by unfold refsOf; simp
def Closed (L : List Chg) (hs D : List Pr) : Prop :=
 (∀ x ∈ hs, x ∈ refsOf L → x ∈ D) ∧ ∀ c ∈ L, c.ref ∈ D → ∀ d ∈ c.deps, d ∈ refsOf L → d ∈ D
structure IsBeh (L : List Chg) (hs D : List Pr) : Prop where
 cl : Closed L hs D
 least : ∀ D', Closed L hs D' → ∀ x ∈ D, x ∈ D'
theorem IsBeh.same {L : List Chg} {hs D E : List Pr} (h : IsBeh L hs D) (g : IsBeh L hs E) (x : Pr) : x ∈ D ↔ x ∈ E := ⟨h.least _ g.cl x, g.least _ h.cl x⟩
theorem IsBeh.there {L : List Chg} {hs D : List Pr} (h : IsBeh L hs D) : ∀ x ∈ D, x ∈ refsOf L :=
 h.least (refsOf L) ⟨fun _ _ h => h, fun _ _ _ _ _ h => h⟩
def SeqOk (D : List Pr) (c : Chg) : Prop := (∀ s, (c.actor, s) ∈ D → s < c.seq) ∧ (1 < c.seq → (c.actor, c.seq - 1) ∈ D)
def NumOk (L : List Chg) (D : List Pr) (c : Chg) : Prop := ∀ x ∈ L, x.ref ∈ D → x.ops ≠ [] → x.start + (x.ops.length : Int) - 1 < c.start
structure Inv (L : List Chg) : Prop where
 nd : (refsOf L).Nodup
 ok : ∀ c ∈ L, chk c = 0
 fit : ∀ pre c post, L = pre ++ c :: post → (∀ d ∈ c.deps, d ∈ refsOf pre) ∧ ∃ D, IsBeh pre c.deps D ∧ SeqOk D c ∧ NumOk pre D c
theorem refs_inj {L : List Chg} (h : (refsOf L).Nodup) {x y : Chg} (hx : x ∈ L) (hy : y ∈ L) (e : x.ref = y.ref) : x = y := by
 induction L with
 | nil => cases hx
 | cons a l ih =>
  have h2 := List.nodup_cons.1 (show (a.ref :: refsOf l).Nodup from h)
  rcases List.mem_cons.1 hx with hx1 | hx1
  ·rcases List.mem_cons.1 hy with hy1 | hy1
   ·exact hx1.trans hy1.symm
   ·exact absurd ((mem_refs (L := l)).2 ⟨y, hy1, e.symm.trans (by rw [hx1])⟩) h2.1
  ·rcases List.mem_cons.1 hy with hy1 | hy1
   ·exact absurd ((mem_refs (L := l)).2 ⟨x, hx1, e.trans (by rw [hy1])⟩) h2.1
   ·exact ih h2.2 hx1 hy1
theorem Inv.chain {L : List Chg} (I : Inv L) : ∀ (n : Nat) (pre : List Chg) (y : Chg) (post : List Chg), pre.length ≤ n → L = pre ++ y :: post → ∀ x ∈ L, x.actor = y.actor → x.seq < y.seq → x ∈ pre ∧ ∀ D, IsBeh pre y.deps D → x.ref ∈ D
 | 0, pre, y, post, hn, hL, x, hx, ha, hs => by
  have hp : pre = [] := List.eq_nil_of_length_eq_zero (by omega)
  subst hp
  obtain ⟨_, D, hD, hS, _⟩ := I.fit [] y post hL
  have hx1 := (chk_few (I.ok x hx)).2.2.2.2.1.1
  have := hD.there _ (hS.2 (by omega))
  simp [refsOf] at this
 | n + 1, pre, y, post, hn, hL, x, hx, ha, hs => by
  obtain ⟨_, D, hD, hS, _⟩ := I.fit pre y post hL
  have hx1 := (chk_few (I.ok x hx)).2.2.2.2.1.1
  have hz := hS.2 (by omega)
  obtain ⟨z, hzp, hzr⟩ := mem_refs.1 (hD.there _ hz)
  have hzL : z ∈ L := by rw [hL]; exact List.mem_append_left _ hzp
  have ez1 : z.actor = y.actor := congrArg Prod.fst hzr
  have ez2 : z.seq = y.seq - 1 := congrArg Prod.snd hzr
  by_cases he : x.seq = y.seq - 1
  ·have e : x = z := refs_inj I.nd hx hzL (by
    show (x.actor, x.seq) = (z.actor, z.seq)
    rw [ha, ez1, he, ez2])
   subst e
   exact ⟨hzp, fun E hE => (hD.same hE _).1 (by rw [hzr]; exact hz)⟩
  ·obtain ⟨p1, p2, hp⟩ := List.append_of_mem hzp
   have hL2 : L = p1 ++ z :: (p2 ++ y :: post) := by rw [hL, hp]; simp
   have hl : p1.length ≤ n := by rw [hp] at hn; simp at hn; omega
   obtain ⟨h1, h2⟩ := Inv.chain I n p1 z _ hl hL2 x hx (ha.trans ez1.symm) (by omega)
   refine ⟨by rw [hp]; exact List.mem_append_left _ h1, fun E hE => ?_⟩
   obtain ⟨_, Dz, hDz, _, _⟩ := I.fit p1 z _ hL2
   have sub : ∀ r, r ∈ refsOf p1 → r ∈ refsOf pre := fun r hr => by
    obtain ⟨c, hc, e⟩ := mem_refs.1 hr
    exact mem_refs.2 ⟨c, by rw [hp]; exact List.mem_append_left _ hc, e⟩
   have hzE : z.ref ∈ E := (hD.same hE _).1 (by rw [hzr]; exact hz)
   refine hDz.least E ⟨fun d hd hr => hE.cl.2 z hzp hzE d hd (sub _ hr), fun c hc hcE d hd hr => hE.cl.2 c (by rw [hp]; exact List.mem_append_left _ hc) hcE d hd (sub _ hr)⟩ _ (h2 Dz hDz)
def hasId (c : Chg) (a : Pr) : Bool := decide (a.2 = c.actor ∧ c.start ≤ a.1 ∧ a.1 < c.start + (c.ops.length : Int))
def UniqI (S : List Chg) : Prop := ∀ x ∈ S, ∀ y ∈ S, ∀ a, hasId x a = true → hasId y a = true → x = y
theorem Inv.below {L : List Chg} (I : Inv L) {x y : Chg} (hx : x ∈ L) (hy : y ∈ L) (ha : x.actor = y.actor) (hs : x.seq < y.seq) (ho : x.ops ≠ []) : x.start + (x.ops.length : Int) - 1 < y.start := by
 obtain ⟨pre, post, hL⟩ := List.append_of_mem hy
 obtain ⟨_, D, hD, _, hN⟩ := I.fit pre y post hL
 obtain ⟨h1, h2⟩ := I.chain _ pre y post (Nat.le_refl _) hL x hx ha hs
 exact hN x h1 (h2 D hD) ho
theorem Inv.uniq {L : List Chg} (I : Inv L) : UniqI L := fun x hx y hy a h1 h2 => by
 have g1 := of_decide_eq_true h1
 have g2 := of_decide_eq_true h2
 have ha : x.actor = y.actor := g1.1.symm.trans g2.1
 have o1 : x.ops ≠ [] := fun e => by rw [e] at g1; simp at g1; omega
 have o2 : y.ops ≠ [] := fun e => by rw [e] at g2; simp at g2; omega
 rcases Int.lt_trichotomy x.seq y.seq with h | h | h
 ·have := I.below hx hy ha h o1
  omega
 ·exact refs_inj I.nd hx hy (by show (x.actor, x.seq) = (y.actor, y.seq); rw [ha, h])
 ·have := I.below hy hx ha.symm h o2
  omega
theorem UniqI.sub {S T : List Chg} (h : UniqI S) (hs : ∀ x ∈ T, x ∈ S) : UniqI T := fun x hx y hy a h1 h2 => h x (hs x hx) y (hs y hy) a h1 h2
def lkc (S : List Chg) (a : Pr) : Option OpM := (S.find? (hasId · a)).map fun c => c.ops.getD (a.1 - c.start).toNat noOp
theorem lkc_same {S T : List Chg} (hm : ∀ x, x ∈ S ↔ x ∈ T) (hu : UniqI S) (a : Pr) : lkc S a = lkc T a := by
 unfold lkc
 cases h1 : S.find? (hasId · a) with
 | none =>
  have h2 : T.find? (hasId · a) = none := List.find?_eq_none.2 fun x hx => List.find?_eq_none.1 h1 x ((hm x).2 hx)
  rw [h2]
 | some c =>
  cases h2 : T.find? (hasId · a) with
  | none => exact absurd (List.find?_some (p := (hasId · a)) h1) (List.find?_eq_none.1 h2 c ((hm c).1 (List.mem_of_find?_eq_some h1)))
  | some d =>
   have : c = d := hu c (List.mem_of_find?_eq_some h1) d ((hm d).2 (List.mem_of_find?_eq_some h2)) a (List.find?_some (p := (hasId · a)) h1) (List.find?_some (p := (hasId · a)) h2)
   rw [this]
theorem lkc_cons (c : Chg) (S : List Chg) (a : Pr) : lkc (c :: S) a = if hasId c a = true then some (c.ops.getD (a.1 - c.start).toNat noOp) else lkc S a := by
 unfold lkc
 rw [List.find?_cons]
 cases hasId c a <;> simp
def SmallC (c : Chg) : Prop := 1 ≤ c.start ∧ c.start ≤ 1000000 ∧ c.ops.length ≤ 40
theorem lookM_lkc : ∀ (cs : List Chg) (a : Pr), (∀ c ∈ cs, SmallC c) → 0 ≤ a.1 → a.1 ≤ 1000000 → lookM cs a = match lkc cs a with | some o => (o, a) | none => (noOp, (0, 0))
 | [], a, _, _, _ => rfl
 | c :: l, a, hc, h0, h1 => by
  obtain ⟨g1, g2, g3⟩ := hc c (List.mem_cons_self ..)
  have e : wrap64 (a.1 - c.start) = a.1 - c.start := by
   unfold wrap64
   omega
  rw [lkc_cons]
  unfold lookM
  rw [e]
  by_cases h : a.2 = c.actor ∧ 0 ≤ a.1 - c.start ∧ a.1 - c.start < c.ops.length
  ·rw [if_pos h, if_pos (by unfold hasId; exact decide_eq_true ⟨h.1, by omega, by omega⟩)]
  ·rw [if_neg h, if_neg (by unfold hasId; simp only [decide_eq_true_eq]; intro g; exact h ⟨g.1, by omega, by omega⟩)]
   exact lookM_lkc l a (fun x hx => hc x (List.mem_cons_of_mem _ hx)) h0 h1
def opsC (c : Chg) : List (OpM × Pr) := c.ops.zipIdx.map fun p => (p.1, (c.start + (p.2 : Int), c.actor))
def opsK (S : List Chg) : List (OpM × Pr) := S.flatMap opsC
def lkK (K : List (OpM × Pr)) (a : Pr) : Option OpM := (K.find? (fun p => p.2 == a)).map (·.1)
theorem lkK_append (K J : List (OpM × Pr)) (a : Pr) : lkK (K ++ J) a = (lkK K a).or (lkK J a) := by
 unfold lkK
 rw [List.find?_append]
 cases K.find? (fun p => p.2 == a) <;> simp
theorem lkK_zip (act : Int) (a : Pr) : ∀ (ops : List OpM) (st : Int) (n : Nat), Option.map (·.1) (List.find? (fun p => p.2 == a) ((ops.zipIdx n).map fun p => (p.1, ((st + (p.2 : Int), act) : Pr)))) = if a.2 = act ∧ st + n ≤ a.1 ∧ a.1 < st + n + (ops.length : Int) then some (ops.getD (a.1 - (st + n)).toNat noOp) else none
 | [], st, n => by
  rw [if_neg (by simp)]
  rfl
 | o :: r, st, n => by
  have ih := lkK_zip act a r st (n + 1)
  rw [List.zipIdx_cons, List.map_cons, List.find?_cons]
  by_cases h : ((st + (n : Int), act) : Pr) = a
  ·have e : (((o, ((st + (n : Int), act) : Pr)).2 == a) = true) := by simpa using h
   rw [e]
   subst h
   rw [if_pos (by simp; omega)]
   simp
  ·have e : (((o, ((st + (n : Int), act) : Pr)).2 == a) = false) := by simpa using h
   rw [e]
   simp only
   rw [ih]
   have hne : ¬ (a.2 = act ∧ a.1 = st + n) := fun g => h (by rw [← g.1, ← g.2])
   by_cases h2 : a.2 = act ∧ st + (n : Int) ≤ a.1 ∧ a.1 < st + n + ((o :: r).length : Int)
   ·have h3 : a.2 = act ∧ st + ((n + 1 : Nat) : Int) ≤ a.1 ∧ a.1 < st + ((n + 1 : Nat) : Int) + (r.length : Int) := by
     simp at h2 ⊢
     refine ⟨h2.1, ?_, by omega⟩
     have : a.1 ≠ st + n := fun g => hne ⟨h2.1, g⟩
     omega
    rw [if_pos h2, if_pos h3]
    have e2 : (a.1 - (st + n)).toNat = (a.1 - (st + ((n + 1 : Nat) : Int))).toNat + 1 := by omega
    rw [e2]
    rfl
   ·rw [if_neg h2, if_neg (fun g => h2 ⟨g.1, by omega, by simp; omega⟩)]
theorem lkK_opsC (c : Chg) (a : Pr) : lkK (opsC c) a = if hasId c a = true then some (c.ops.getD (a.1 - c.start).toNat noOp) else none := by
 have h := lkK_zip c.actor a c.ops c.start 0
 unfold lkK opsC
 unfold hasId
 simp only [Int.ofNat_zero, Int.add_zero, decide_eq_true_eq] at h ⊢
 exact h
theorem lkK_opsK : ∀ (S : List Chg) (a : Pr), lkK (opsK S) a = lkc S a
 | [], a => rfl
 | c :: S, a => by
  rw [show opsK (c :: S) = opsC c ++ opsK S from rfl, lkK_append, lkK_opsC, lkc_cons, lkK_opsK S a]
  cases hasId c a <;> simp
end Go.Proofs.YtejfemdkommfhaaGreatDoor
