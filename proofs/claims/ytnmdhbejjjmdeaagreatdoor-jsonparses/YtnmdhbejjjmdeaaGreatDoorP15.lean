/-
  What is proved: a place in a tree whose rows lie in blocks apart: what is turned there is turned in the whole, whatever new blocks it takes. what becomes of a tree by a patch (a value set, something taken out, something put in) at the end of a path: at most one tree, and it is one. what lies in a row behind an element that is put between, in its place or in a new row; copies between rows of elements of several cells. slices.Insert at texts and at trees, called with a row of one's own and one element in a row of its own, answers the row with that element between; all blocks but that row's are as they were.
  Conditions: as each theorem says.
-/
import Derived.Test.YtnmdhbejjjmdeaaGreatDoorP14
import Derived.Test.YtnmdhbejjjmdeaaGreatDoorP08
import Derived.Laws.CopyRow
import Derived.Lib.Overlaps
import Derived.Lib.AppendZerosOnto
import Derived.Laws.IdiomCopy
import Derived.Maps.AppendAt
namespace Go.Proofs.YtnmdhbejjjmdeaaGreatDoor
open Go.RowKit Go.Sort

theorem IsGS.to {w : World} {lo : Nat} {f : JF} {us : List TV} {S : List Nat} (h : IsGS w lo f us S) : f = ofL (toL f) ∧ us.length = (toL f).length := ⟨(isG_to _ _ h.forestH).1, (isG_to _ _ h.forestH).2.1⟩
/-- One of several: its own blocks, and what becomes of all when it is another. -/
theorem IsGS.at {w : World} {lo : Nat} : ∀ {f : JF} {us : List TV} {S : List Nat}, IsGS w lo f us S → ∀ (i : Nat) (hi : i < us.length), ∃ Sa Si Sb, S = Sa ++ (Si ++ Sb) ∧ (∀ h2 : i < (toL f).length, IsTS w lo Si us[i] (toL f)[i]) ∧
    ∀ (w' : World) (u' : TV) (t' : JT) (Si' : List Nat), (∀ k ∈ Sa, w'.heap[k]? = w.heap[k]?) → (∀ k ∈ Sb, w'.heap[k]? = w.heap[k]?) → IsTS w' lo Si' u' t' → IsGS w' lo (ofL ((toL f).set i t')) (us.set i u') (Sa ++ (Si' ++ Sb))
  | .nil, us, _, h, i, hi => by rw [h.1] at hi; cases hi
  | .node _ _ x l r, us, S, h, i, hi => by
    obtain ⟨e, uk, ua, us', rest, S1, S2, rfl, rfl, ⟨h1, h2, h3⟩, h4⟩ := h
    cases i with
    | zero =>
      refine ⟨[], blk uk ++ (blk ua ++ S1), S2, rfl, fun _ => ⟨uk, ua, us', S1, rfl, rfl, h1, h2, h3⟩, fun w' u' t' Si' _ hb ht => ?_⟩
      obtain ⟨uk', ua', us'', S1', rfl, rfl, g1, g2, g3⟩ := ht
      show IsGS w' lo (.node 0 0 t'.lab t'.kids (ofL (toL r))) ((t'.x, uk', ua') :: rest) _
      rw [← h4.to.1]
      exact ⟨⟨rfl, rfl⟩, uk', ua', us'', rest, S1', S2, rfl, rfl, ⟨g1, g2, g3⟩, h4.keep hb⟩
    | succ i =>
      obtain ⟨Sa, Si, Sb, e1, e2, e3⟩ := h4.at i (by simpa using hi)
      subst e1
      refine ⟨(blk uk ++ (blk ua ++ S1)) ++ Sa, Si, Sb, by simp [List.append_assoc], fun h6 => ?_, fun w' u' t' Si' ha hb ht => ?_⟩
      · have := e2 (by simpa [toL] using h6)
        simpa [toL] using this
      · simp only [List.mem_append] at ha
        have g4 := e3 w' u' t' Si' (fun k hk => ha k (Or.inr hk)) hb ht
        show IsGS w' lo (.node 0 0 x l (ofL ((toL r).set i t'))) ((x.1, uk, ua) :: rest.set i u') _
        exact ⟨⟨rfl, rfl⟩, uk, ua, us', rest.set i u', S1, _, rfl, by rw [List.append_assoc], ⟨⟨own_keep h1.own (fun b hb => ha b (Or.inl (Or.inl hb))), h1.few⟩, ⟨own_keep h2.own (fun b hb => ha b (Or.inl (Or.inr (Or.inl hb)))), h2.few⟩, h3.keep (fun b hb => ha b (Or.inl (Or.inr (Or.inr hb))))⟩, g4⟩

/-- What is kept of a place on follow's way: its blocks, and that what is turned there is turned in the whole. -/
structure HoleS (w : World) (b0 o0 lo : Nat) (T0 : JT) (S0 : List Nat) (l0 : List Stp) (b o : Nat) (Sa St Sb : List Nat) (u : TV) (t : JT) (l : List Stp) : Prop where
  at' : TAt w b o u
  tree : IsTS w lo St u t
  sets : S0 = Sa ++ (St ++ Sb)
  nodup : S0.Nodup
  fz : ∀ d, w.frozen? ⟨b, d, none⟩ = false
  out : b0 ∉ S0
  place : (b = b0 ∧ o = o0) ∨ b ∈ Sa
  getT : getT T0 l0 = Go.Proofs.YtnmdhbejjjmdeaaGreatDoor.getT t l
  back : ∀ (w' : World) (t' : JT) (St' : List Nat) (u1 : TV), w.heap.size ≤ w'.heap.size → (∀ k, k ∈ Sa ∨ k ∈ Sb ∨ k = b0 → k ≠ b → w'.heap[k]? = w.heap[k]?) → (∀ c, c < o ∨ o + 7 ≤ c → w'.cell? ⟨b, c, none⟩ = w.cell? ⟨b, c, none⟩) → (∀ ty cur, w.heap[b]? = some (.cells cur ty) → ∃ cur', w'.heap[b]? = some (.cells cur' ty) ∧ cur'.size = cur.size) →
    TAt w' b o u1 → IsTS w' lo St' u1 t' → ∃ (d : List Stp) (u2 : TV), l0 = d ++ l ∧ Go.Proofs.YtnmdhbejjjmdeaaGreatDoor.getT T0 d = some t ∧ TAt w' b0 o0 u2 ∧ IsTS w' lo (Sa ++ (St' ++ Sb)) u2 (repT T0 d t')
theorem HoleS.start {w : World} {b o lo : Nat} {S : List Nat} {u : TV} {T : JT} (l : List Stp) (hA : TAt w b o u) (h : IsTS w lo S u T) (hn : S.Nodup) (hb : b ∉ S) (hfz : ∀ d, w.frozen? ⟨b, d, none⟩ = false) : HoleS w b o lo T S l b o [] S [] u T l :=
  ⟨hA, h, by rw [List.append_nil]; rfl, hn, hfz, hb, Or.inl ⟨rfl, rfl⟩, rfl, fun w' t' St' u1 _ _ _ _ h1 h2 => ⟨[], u1, rfl, rfl, h1, by rw [List.append_nil]; exact h2⟩⟩
theorem HoleS.next {w : World} {b0 o0 lo : Nat} {T0 : JT} {S0 : List Nat} {l0 : List Stp} {b o : Nat} {Sa St Sb : List Nat} {u : TV} {t : JT} {s : Stp} {l : List Stp} (h : HoleS w b0 o0 lo T0 S0 l0 b o Sa St Sb u t (s :: l)) {i : Nat} (hi' : i < t.ts.length) (hk : kidOf t.x t.ks t.ts.length s = some i) {g off n c : Nat} (hu : u.2.2 = .slice (some ⟨g, off, none⟩) n c) :
    ∃ Sa' St' Sb' u', HoleS w b0 o0 lo T0 S0 l0 g (off + i * 7) Sa' St' Sb' u' t.ts[i] l := by
  obtain ⟨uk, ua, us', S1, e, eS, h1, h2, h4⟩ := h.tree
  have hua : ua = .slice (some ⟨g, off, none⟩) n c := by rw [e] at hu; exact hu
  have hlen : us'.length = t.ts.length := h4.to.2
  have hiu : i < us'.length := by omega
  have hst : step1 t s = some t.ts[i] := by unfold step1; rw [hk]; exact List.getElem?_eq_getElem hi'
  have hcapm : ∃ g' cap cur, ua = .slice (some ⟨g', 0, none⟩) us'.length cap ∧ lo ≤ g' ∧ w.heap[g']? = some (.cells cur 29) ∧ us'.length ≤ cap ∧ cap ≤ maxLen ∧ cur.size = cap * 7 := by
    rcases h2.own.2 with ⟨e1, _⟩ | ⟨g', cap, cur, e1, a1, a2, a3, a4, a5, _⟩
    · rw [hua] at e1; cases e1
    · exact ⟨g', cap, cur, e1, a1, a2, a3, a4, a5⟩
  obtain ⟨gx, cap, cur, ex, hlg, hcur, hcc, hcm, hcz⟩ := hcapm
  rcases own_rowB h2.own with ⟨e1, hus⟩ | ⟨g', cap', e1, hg1, hg2, hg3, hr⟩
  · rw [hua] at e1; cases e1
  · have e2 := Value.slice.inj (hua.symm.trans e1)
    have e3 := Option.some.inj e2.1
    injection e3 with e4 e5 _
    subst e4 e5
    have e6 := Value.slice.inj (ex.symm.trans e1)
    have e7 := Option.some.inj e6.1
    injection e7 with e8 _ _
    subst e8
    have hbg : blk ua = [gx] := by rw [e1]; rfl
    obtain ⟨S1a, Si, S1b, q1, q2, q3⟩ := h4.at i hiu
    subst q1
    have hnd := h.nodup
    have hset := h.sets
    rw [eS, hbg] at hset
    have hset' : S0 = (Sa ++ (blk uk ++ (gx :: S1a))) ++ (Si ++ (S1b ++ Sb)) := by rw [hset]; simp [List.append_assoc]
    have hTi : TAt w gx (0 + i * 7) us'[i] := by
      rw [Nat.zero_add]
      exact ⟨hg2, hr.cellAt i hiu 0 (by decide), hr.cellAt i hiu 1 (by decide), hr.cellAt i hiu 2 (by decide), hr.cellAt i hiu 3 (by decide), hr.cellAt i hiu 4 (by decide), hr.cellAt i hiu 5 (by decide), hr.cellAt i hiu 6 (by decide)⟩
    refine ⟨Sa ++ (blk uk ++ (gx :: S1a)), Si, S1b ++ Sb, us'[i], ⟨hTi, q2 hi', hset', hnd, hr.frozen, h.out, Or.inr (by simp), ?_, ?_⟩⟩
    · rw [h.getT, Go.Proofs.YtnmdhbejjjmdeaaGreatDoor.getT, hst]; rfl
    · intro w' t' St' u1 hz hkeep hcell hshape n1 n2
      rw [Nat.zero_add] at n1 hcell
      rw [hset] at hnd
      have hgSa : gx ∉ Sa := fun hx => by
        have := (List.nodup_append.1 hnd).2.2 gx hx gx (by simp)
        exact this rfl
      have hgb0 : gx ≠ b0 := fun e => h.out (by rw [hset', ← e]; simp)
      have hndT := (List.nodup_append.1 hnd).2.1
      have hndT2 := (List.nodup_append.1 hndT).1
      have hndT3 := (List.nodup_append.1 hndT2).2.1
      have hgS1 : gx ∉ S1a ++ (Si ++ S1b) := (List.nodup_cons.1 hndT3).1
      have hgSb : gx ∉ Sb := fun hx => (List.nodup_append.1 hndT).2.2 gx (by simp) gx hx rfl
      have hguk : ∀ k ∈ blk uk, k ≠ gx := fun k hk e => (List.nodup_append.1 hndT2).2.2 k hk gx (by simp) e
      have hbne : b ≠ gx := by
        rcases h.place with ⟨e9, _⟩ | e9
        · rw [e9]; exact hgb0.symm
        · exact fun e => hgSa (e ▸ e9)
      have hbk : w'.heap[b]? = w.heap[b]? := by
        refine hkeep b ?_ hbne
        rcases h.place with ⟨e9, _⟩ | e9
        · exact Or.inr (Or.inr e9)
        · exact Or.inl (List.mem_append_left _ e9)
      have hTA : TAt w' b o u := by
        obtain ⟨c0, c1, c2, c3, c4, c5, c6, c7⟩ := h.at'
        have hc : ∀ d, w'.cell? ⟨b, d, none⟩ = w.cell? ⟨b, d, none⟩ := fun d => World.cell?_of_block (w := w) hbk
        exact ⟨by omega, (hc _).trans c1, (hc _).trans c2, (hc _).trans c3, (hc _).trans c4, (hc _).trans c5, (hc _).trans c6, (hc _).trans c7⟩
      have hu1l : (us'.set i u1).length = us'.length := List.length_set
      obtain ⟨cur', f1, f2⟩ := hshape _ _ hcur
      have hrow : RowB w' gx (us'.set i u1) := by
        refine ⟨cur', f1, by rw [hu1l, f2, hcz]; omega, fun k hk6 j hj => ?_⟩
        have hcc2 : ∀ d, w'.cell? ⟨gx, d, none⟩ = cur'[d]? := fun d => Lib.cell_of_heap f1 d
        rw [hu1l] at hk6
        rw [← hcc2]
        by_cases e6 : k = i
        · subst e6
          rw [List.getElem_set_self]
          obtain ⟨_, c1, c2, c3, c4, c5, c6, c7⟩ := n1
          obtain rfl | rfl | rfl | rfl | rfl | rfl | rfl : j = 0 ∨ j = 1 ∨ j = 2 ∨ j = 3 ∨ j = 4 ∨ j = 5 ∨ j = 6 := by omega
          · exact c1
          · exact c2
          · exact c3
          · exact c4
          · exact c5
          · exact c6
          · exact c7
        · rw [List.getElem_set_ne (fun e7 => e6 e7.symm), hcell (k * 7 + j) (by omega)]
          exact hr.cellAt k hk6 j hj
      have hown := row_own hrow ⟨cur', f1, f2.trans hcz⟩ (by rw [hu1l]; exact hcc) hcm hlg
      have hG := q3 w' u1 t' St' (fun k hk => hkeep k (Or.inl (by simp [hk])) (fun e => hgS1 (e ▸ List.mem_append_left _ hk))) (fun k hk => hkeep k (Or.inr (Or.inl (by simp [hk]))) (fun e => hgS1 (e ▸ List.mem_append_right _ (List.mem_append_right _ hk)))) n2
      have hIs : IsTS w' lo (blk uk ++ (gx :: (S1a ++ (St' ++ S1b)))) u (.node t.x t.ks (t.ts.set i t')) := by
        refine ⟨uk, ua, us'.set i u1, S1a ++ (St' ++ S1b), e, by rw [hbg]; rfl, ⟨own_keep h1.own (fun k hk => hkeep k (Or.inl (by simp [hk])) (hguk k hk)), h1.few⟩, ⟨?_, by rw [hu1l]; exact h2.few⟩, hG⟩
        rw [ex]
        rw [hu1l] at hown ⊢
        exact hown
      obtain ⟨d, u2, r1, r2, r3, r4⟩ := h.back w' (.node t.x t.ks (t.ts.set i t')) _ u hz (fun k k1 k2 => by
        by_cases hkg : k = gx
        · exfalso
          rcases k1 with k1 | k1 | k1
          · exact hgSa (hkg ▸ k1)
          · exact hgSb (hkg ▸ k1)
          · exact hgb0 (hkg.symm.trans k1)
        · refine hkeep k ?_ hkg
          rcases k1 with k1 | k1 | k1
          · exact Or.inl (List.mem_append_left _ k1)
          · exact Or.inr (Or.inl (List.mem_append_right _ k1))
          · exact Or.inr (Or.inr k1)) (fun c6 _ => World.cell?_of_block (w := w) hbk) (fun ty c9 h9 => ⟨c9, hbk.trans h9, rfl⟩) hTA hIs
      refine ⟨d ++ [s], u2, by rw [r1, List.append_assoc]; rfl, getT_snoc d T0 r2 hst, r3, ?_⟩
      rw [repT_snoc d T0 t' r2 hk]
      have e11 : (Sa ++ (blk uk ++ (gx :: S1a))) ++ (St' ++ (S1b ++ Sb)) = Sa ++ ((blk uk ++ (gx :: (S1a ++ (St' ++ S1b)))) ++ Sb) := by simp [List.append_assoc]
      rw [e11]
      exact r4
end Go.Proofs.YtnmdhbejjjmdeaaGreatDoor

namespace Go.Proofs.YtnmdhbejjjmdeaaGreatDoor
open Go.RowKit Go.Sort

/-- A list without one of its elements. -/
def cutL {α : Type} (l : List α) (i : Nat) : List α := l.take i ++ l.drop (i + 1)
theorem cutL_len {α : Type} (l : List α) (i : Nat) (h : i < l.length) : (cutL l i).length + 1 = l.length := by
  unfold cutL
  rw [List.length_append, List.length_take, List.length_drop]
  omega
theorem cutL_mem {α : Type} {l : List α} {i : Nat} {b : α} (h : b ∈ cutL l i) : b ∈ l := by
  unfold cutL at h
  rcases List.mem_append.1 h with h | h
  · exact List.mem_of_mem_take h
  · exact List.mem_of_mem_drop h
/-- Something taken out by one step. -/
def GoneR (T : JT) (s : Stp) (T' : JT) : Prop :=
  ∃ i, kidOf T.x T.ks T.ts.length s = some i ∧ i < T.ts.length ∧ T' = .node T.x (if keyStep T.x s = true then cutL T.ks i else T.ks) (cutL T.ts i)
/-- Something put in by one step. -/
def InsR (T : JT) (s : Stp) (y : V) (T' : JT) : Prop :=
  atStep T.x T.ts.length s = true ∧ T' = .node T.x T.ks (putL T.ts s.2.toNat (leafT y))
/-- What a patch of a kind does by one step. -/
def OneR (k : Int) (T : JT) (s : Stp) (y : V) (T' : JT) : Prop :=
  (k = 1 ∧ SetR T s y T') ∨ (k = 2 ∧ GoneR T s T') ∨ (k = 3 ∧ InsR T s y T')
/-- What it does at the end of a path. -/
def UpdK (k : Int) : JT → List Stp → V → JT → Prop
  | _, [], _, _ => False
  | T, [s], y, T' => OneR k T s y T'
  | T, s :: q :: r, y, T' => ∃ i t t', kidOf T.x T.ks T.ts.length s = some i ∧ T.ts[i]? = some t ∧ UpdK k t (q :: r) y t' ∧ T' = .node T.x T.ks (T.ts.set i t')

theorem up_less : ∀ (ks : List ByteArray) (p q : List UInt8), upB q ks = true → p < q → upB p ks = true
  | [], _, _, _, _ => rfl
  | k :: r, p, q, h, hp => by
    rw [upB_cons] at h ⊢
    simp only [Bool.and_eq_true, decide_eq_true_eq] at h ⊢
    exact ⟨List.lt_trans hp h.1, h.2⟩
theorem up_cut : ∀ (ks : List ByteArray) (p : List UInt8) (i : Nat), upB p ks = true → upB p (cutL ks i) = true
  | [], p, i, _ => by simp [cutL, upB]
  | k :: r, p, 0, h => by
    have e : cutL (k :: r) 0 = r := rfl
    rw [e]
    rw [upB_cons] at h
    simp only [Bool.and_eq_true, decide_eq_true_eq] at h
    exact up_less r p k.toList h.2.2 h.1
  | k :: r, p, i + 1, h => by
    have e : cutL (k :: r) (i + 1) = k :: cutL r i := rfl
    rw [e]
    rw [upB_cons] at h ⊢
    simp only [Bool.and_eq_true, decide_eq_true_eq] at h ⊢
    exact ⟨h.1, h.2.1, up_cut r k.toList i h.2.2⟩
theorem atStep_parts {x : V} {n : Nat} {s : Stp} (h : atStep x n s = true) : x.k = 6 ∧ s.1.toList = [] ∧ 0 ≤ s.2 ∧ s.2 ≤ n := by
  unfold atStep at h
  simp only [Bool.and_eq_true, decide_eq_true_eq, List.isEmpty_iff] at h
  exact h
theorem nodeB_list {x : V} {ks : List ByteArray} {n : Nat} (h6 : x.k = 6) : nodeB x ks n = true ↔ valB x = true ∧ ks = [] := by
  unfold nodeB
  rw [if_neg (by omega), if_pos h6]
  simp [Bool.and_eq_true]
/-- A step that leads to a kid is a key's, or an index. -/
theorem kid_case {x : V} {ks : List ByteArray} {n i : Nat} {s : Stp} (h : kidOf x ks n s = some i) : (keyStep x s = true ∧ lookK ks s.1.toList = some i) ∨ (keyStep x s = false ∧ atStep x n s = true ∧ s.2 = i ∧ i < n) := by
  unfold kidOf at h
  by_cases e : keyStep x s = true
  · rw [if_pos e] at h
    exact Or.inl ⟨e, h⟩
  · rw [if_neg e] at h
    by_cases e2 : atStep x n s = true ∧ s.2 < n
    · rw [if_pos e2] at h
      have h3 := Option.some.inj h
      have := (atStep_parts e2.1).2.2.1
      exact Or.inr ⟨by simpa using e, e2.1, by omega, by omega⟩
    · rw [if_neg e2] at h; cases h
theorem gone_formed {T T' : JT} {s : Stp} (h : GoneR T s T') (hf : formedB T = true) : formedB T' = true := by
  obtain ⟨hn, hk⟩ := (formed_iff T).1 hf
  obtain ⟨i, h0, hi, rfl⟩ := h
  rw [formed_iff, node_x, node_ks, node_ts]
  refine ⟨?_, fun t ht => hk t (cutL_mem ht)⟩
  have hcl := cutL_len T.ts i hi
  rcases kid_case h0 with ⟨e, h1⟩ | ⟨e, h1, _⟩
  · rw [if_pos e]
    have h5 := (keyStep_parts e).1
    obtain ⟨n1, n2, n3⟩ := (nodeB_map h5).1 hn
    obtain ⟨hil, _⟩ := lookK_some h1
    have hck := cutL_len T.ks i hil
    exact (nodeB_map h5).2 ⟨n1, by omega, up_cut _ _ _ n3⟩
  · rw [if_neg (by rw [e]; decide)]
    have h6 := (atStep_parts h1).1
    exact (nodeB_list h6).2 ((nodeB_list h6).1 hn)
theorem ins_formed {T T' : JT} {s : Stp} {y : V} (h : InsR T s y T') (hf : formedB T = true) (hv : valB y = true) : formedB T' = true := by
  obtain ⟨hn, hk⟩ := (formed_iff T).1 hf
  obtain ⟨h0, rfl⟩ := h
  rw [formed_iff, node_x, node_ks, node_ts]
  have h6 := (atStep_parts h0).1
  refine ⟨(nodeB_list h6).2 ((nodeB_list h6).1 hn), fun t ht => ?_⟩
  rcases putL_mem ht with e | e
  · rw [e]; exact leaf_formed hv
  · exact hk t e
theorem one_formed {k : Int} {T T' : JT} {s : Stp} {y : V} (h : OneR k T s y T') (hf : formedB T = true) (hv : valB y = true) (hs : s.1.size ≤ 20) : formedB T' = true := by
  rcases h with ⟨_, h⟩ | ⟨_, h⟩ | ⟨_, h⟩
  · exact set_formed h hf hv hs
  · exact gone_formed h hf
  · exact ins_formed h hf hv
theorem updk_formed {k : Int} {y : V} (hv : valB y = true) : ∀ (l : List Stp) (T T' : JT), UpdK k T l y T' → formedB T = true → (∀ s ∈ l, s.1.size ≤ 20) → formedB T' = true
  | [], T, T', h, _, _ => absurd h (by simp [UpdK])
  | [s], T, T', h, hf, hl => one_formed (by simpa [UpdK] using h) hf hv (hl s (by simp))
  | s :: q :: r, T, T', h, hf, hl => by
    rw [UpdK] at h
    obtain ⟨i, t, t', h1, h2, h3, rfl⟩ := h
    obtain ⟨hn, hk⟩ := (formed_iff T).1 hf
    rw [formed_iff, node_x, node_ks, node_ts, List.length_set]
    refine ⟨hn, fun u hu => ?_⟩
    rcases mem_set_or hu with e | e
    · rw [e]; exact updk_formed hv (q :: r) t t' h3 (hk t (List.mem_of_getElem? h2)) (fun s hs => hl s (List.mem_cons_of_mem _ hs))
    · exact hk u e
theorem one_one {k : Int} {T A B : JT} {s : Stp} {y : V} (h : OneR k T s y A) (h' : OneR k T s y B) : A = B := by
  rcases h with ⟨e, h⟩ | ⟨e, h⟩ | ⟨e, h⟩ <;> rcases h' with ⟨e', h'⟩ | ⟨e', h'⟩ | ⟨e', h'⟩
  · exact set_one h h'
  · omega
  · omega
  · omega
  · obtain ⟨i, h1, _, rfl⟩ := h
    obtain ⟨j, h2, _, rfl⟩ := h'
    rw [h1] at h2
    rw [Option.some.inj h2]
  · omega
  · omega
  · omega
  · rw [h.2, h'.2]
theorem updk_one {k : Int} {y : V} : ∀ (l : List Stp) (T A B : JT), UpdK k T l y A → UpdK k T l y B → A = B
  | [], _, _, _, h, _ => absurd h (by simp [UpdK])
  | [s], T, A, B, h, h' => one_one (by simpa [UpdK] using h) (by simpa [UpdK] using h')
  | s :: q :: r, T, A, B, h, h' => by
    rw [UpdK] at h h'
    obtain ⟨i, t, t', h1, h2, h3, rfl⟩ := h
    obtain ⟨j, u, u', g1, g2, g3, rfl⟩ := h'
    rw [h1] at g1
    obtain rfl := Option.some.inj g1
    rw [h2] at g2
    obtain rfl := Option.some.inj g2
    rw [updk_one (q :: r) t t' u' h3 g3]
theorem updk_rep {k : Int} {y : V} {t t' : JT} {s : Stp} : ∀ (d : List Stp) (T : JT), getT T d = some t → OneR k t s y t' → UpdK k T (d ++ [s]) y (repT T d t')
  | [], T, hg, hs => by
    rw [getT] at hg
    obtain rfl := Option.some.inj hg
    show UpdK k T [s] y (repT T [] t')
    rw [UpdK, repT]
    exact hs
  | a :: d, T, hg, hs => by
    rw [getT] at hg
    obtain ⟨u, h1, h2⟩ := Option.bind_eq_some_iff.1 hg
    unfold step1 at h1
    obtain ⟨j, h3, h4⟩ := Option.bind_eq_some_iff.1 h1
    have ih := updk_rep d u h2 hs
    have e : repT T (a :: d) t' = .node T.x T.ks (T.ts.set j (repT u d t')) := by
      rw [repT, h3]
      simp only
      rw [h4]
      rfl
    rw [e]
    cases d with
    | nil =>
      show UpdK k T [a, s] y _
      rw [UpdK]
      exact ⟨j, u, _, h3, h4, ih, rfl⟩
    | cons c d =>
      show UpdK k T (a :: c :: (d ++ [s])) y _
      rw [UpdK]
      exact ⟨j, u, _, h3, h4, ih, rfl⟩
theorem updk_split {k : Int} {y : V} {s : Stp} : ∀ (d : List Stp) (T T' : JT), UpdK k T (d ++ [s]) y T' → ∃ t t', getT T d = some t ∧ OneR k t s y t'
  | [], T, T', h => by
    have h1 : UpdK k T [s] y T' := h
    rw [UpdK] at h1
    exact ⟨T, T', by rw [getT], h1⟩
  | [a], T, T', h => by
    have h1 : UpdK k T [a, s] y T' := h
    rw [UpdK] at h1
    obtain ⟨i, t, t', e1, e2, e3, _⟩ := h1
    rw [UpdK] at e3
    refine ⟨t, t', ?_, e3⟩
    rw [getT, step1, e1]
    show (T.ts[i]?).bind _ = _
    rw [e2]
    rfl
  | a :: c :: d, T, T', h => by
    have h1 : UpdK k T (a :: c :: (d ++ [s])) y T' := h
    rw [UpdK] at h1
    obtain ⟨i, t, t', e1, e2, e3, _⟩ := h1
    obtain ⟨t1, t2, g1, g2⟩ := updk_split (c :: d) t t' e3
    refine ⟨t1, t2, ?_, g2⟩
    rw [getT, step1, e1]
    show (T.ts[i]?).bind _ = _
    rw [e2]
    exact g1
end Go.Proofs.YtnmdhbejjjmdeaaGreatDoor

namespace Go.Proofs.YtnmdhbejjjmdeaaGreatDoor
open Go.RowKit

/-- Elements go over from one row into another, or into their own. -/
theorem copy_rows {P : Program} (w : World) (dT sT ty e : TypeId) (i : TypeInfo) (size g o dLen dCap : Nat) (a : Addr) (sLen sCap : Nat) (cur : Array Value) (t : TypeId) (cs : List Value)
    (hu : P.underlying dT = some (.slice e)) (hi : P.info? e = some i) (hz : i.size = size) (hg : w.heap[g]? = some (.cells cur t)) (k : Nat) (hk : Nat.min sLen dLen = k) (hn : cs.length = k * size)
    (hsrc : ∀ j v, cs[j]? = some v → w.cell? (a.add j) = some v) (hfit : o + cs.length ≤ cur.size) (h1 : ∀ v ∈ cs, v.oneCell' = true) :
    (Builtin.copy_ #[dT, sT] ty #[.slice (some ⟨g, o, none⟩) dLen dCap, .slice (some a) sLen sCap]).run P w = .ok (goInt k) (w.setRow g (cur.toList.take o ++ cs ++ cur.toList.drop (o + cs.length)).toArray) := by
  have hl := run_firstCells_some (P := P) w size k a sLen sCap cs hn hsrc
  have hst := run_storeCells_at P g o t cs 0 cur w hg (by simpa using hfit) h1
  simp only [Nat.add_zero] at hst
  simp [Builtin.copy_, run_underlying hu, Builtin.lenOf, sizeOf, typeInfo, hi, hz, hk, hl, hst]

/-- A list with something put between. -/
def put1 (a : Nat) (xs ys : List Value) : List Value := xs.take a ++ (ys ++ xs.drop a)
theorem put1_len (a : Nat) (xs ys : List Value) : (put1 a xs ys).length = xs.length + ys.length := by
  unfold put1
  simp only [List.length_append, List.length_take, List.length_drop]
  omega
/-- In its place: what stands from there on goes first. -/
theorem put_in {c xs ys : List Value} {a n s : Nat} (hx : c.take n = xs) (hxl : xs.length = n) (hys : ys.length = s) (ha : a ≤ n) (hc : n + s ≤ c.length) :
    ∃ r, ((c.take (a + s) ++ xs.drop a ++ c.drop (a + s + (xs.drop a).length)).take a ++ ys ++ (c.take (a + s) ++ xs.drop a ++ c.drop (a + s + (xs.drop a).length)).drop (a + ys.length)) = put1 a xs ys ++ r ∧ r.length = c.length - (n + s) := by
  have e1 : (c.take (a + s)).length = a + s := by rw [List.length_take]; omega
  have e2 : (c.take (a + s) ++ xs.drop a ++ c.drop (a + s + (xs.drop a).length)).take a = xs.take a := by
    rw [List.append_assoc, List.take_append_of_le_length (by omega), List.take_take, Nat.min_eq_left (by omega), ← hx, List.take_take, Nat.min_eq_left ha]
  have e3 : (c.take (a + s) ++ xs.drop a ++ c.drop (a + s + (xs.drop a).length)).drop (a + ys.length) = xs.drop a ++ c.drop (a + s + (xs.drop a).length) := by
    rw [List.append_assoc, hys]
    exact List.drop_left' e1
  refine ⟨c.drop (a + s + (xs.drop a).length), ?_, ?_⟩
  · rw [e2, e3]
    unfold put1
    simp only [List.append_assoc]
  · rw [List.length_drop, List.length_drop, hxl]
    omega
/-- In a new row: what is put between goes first. -/
theorem put_new {c xs ys : List Value} {a n s : Nat} (hx : c.take a = xs.take a) (hxl : xs.length = n) (hys : ys.length = s) (ha : a ≤ n) (hc : n + s ≤ c.length) :
    ∃ r, ((c.take a ++ ys ++ c.drop (a + ys.length)).take (a + s) ++ xs.drop a ++ (c.take a ++ ys ++ c.drop (a + ys.length)).drop (a + s + (xs.drop a).length)) = put1 a xs ys ++ r ∧ r.length = c.length - (n + s) := by
  have e1 : (c.take a ++ ys).length = a + s := by rw [List.length_append, List.length_take]; omega
  have e2 : (c.take a ++ ys ++ c.drop (a + ys.length)).take (a + s) = xs.take a ++ ys := by
    rw [List.take_left' e1, hx]
  refine ⟨(c.take a ++ ys ++ c.drop (a + ys.length)).drop (a + s + (xs.drop a).length), ?_, ?_⟩
  · rw [e2]
    unfold put1
    simp only [List.append_assoc]
  · rw [List.length_drop, List.length_append, e1, List.length_drop, List.length_drop, hxl, hys]
    omega
end Go.Proofs.YtnmdhbejjjmdeaaGreatDoor

namespace Go.Proofs.YtnmdhbejjjmdeaaGreatDoor
open Go.RowKit Go.Sort

/-- A copy whose end is known. -/
theorem wp_copyI {w : World} {ops : Array Oper} {rest : List Oper} {o : Oper} {a : Act} {Q : Exit → Act → World → Prop} (hgd : o.guard = none) (d s : Operand) (t t' : TypeId)
    (ho : o.op = .call { callee := .builtin .copy, args := #[d, s], argTypes := #[t, t'] }) (v u : Value) (hd : a.eval d = v) (hs : a.eval s = u) {r : Value} {w' : World}
    (hrun : (Builtin.copy_ #[t, t'] o.type #[v, u]).run Tryz.prog w = .ok r w') (h : wpList Tryz.prog ops Q rest (a.put o.dst r) w') : wpList Tryz.prog ops Q (o :: rest) a w := by
  refine wpList_plain hgd fun K hK => ?_
  unfold Oper.wp
  simp [execOp, ho, resolve, invoke, builtin, hd, hs, hrun, Result.andThen]
  exact hK _ _ h
/-- An append of noughts whose end is known. -/
theorem wp_append' {w : World} {ops : Array Oper} {rest : List Oper} {o : Oper} {a : Act} {Q : Exit → Act → World → Prop} (hgd : o.guard = none) (s x : Operand) (T T' : TypeId)
    (ho : o.op = .call { callee := .builtin .append, args := #[s, x], argTypes := #[T, T'] }) (v u r : Value) (w' : World) (hs : a.eval s = v) (hx : a.eval x = u)
    (hrun : (Builtin.append_ #[T, T'] o.type #[v, u]).run Tryz.prog w = .ok r w') (h : wpList Tryz.prog ops Q rest (a.put o.dst r) w') : wpList Tryz.prog ops Q (o :: rest) a w := by
  refine wpList_plain hgd fun K hK => ?_
  unfold Oper.wp
  simp [execOp, ho, resolve, invoke, builtin, hs, hx, hrun, Result.andThen]
  exact hK _ _ h
theorem step_copy_known {ops : Array Oper} {o : Oper} {a : Act} {w : World} {K : Act → World → Prop} {Q : Exit → Act → World → Prop} {E : Prop} (hgd : o.guard = none) (d s : Operand) (t t' : TypeId)
    (ho : o.op = .call { callee := .builtin .copy, args := #[d, s], argTypes := #[t, t'] }) (v u r : Value) (w' : World) (hd : a.eval d = v) (hs : a.eval s = u)
    (hrun : (Builtin.copy_ #[t, t'] o.type #[v, u]).run Tryz.prog w = .ok r w') (hK : K (a.put o.dst r) w') : if Region.wanted o (yielded ops a.tmps) = true then Oper.wp Tryz.prog o a w K Q else E := by
  have hw : Region.wanted o (yielded ops a.tmps) = true := by simp [Region.wanted, hgd]
  rw [if_pos hw]
  unfold Oper.wp
  simp [execOp, ho, resolve, invoke, builtin, hd, hs, hrun, Result.andThen]
  exact hK

end Go.Proofs.YtnmdhbejjjmdeaaGreatDoor
