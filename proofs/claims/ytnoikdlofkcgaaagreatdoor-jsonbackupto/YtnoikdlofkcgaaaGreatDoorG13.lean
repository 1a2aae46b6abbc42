/-
  What is proved: trees whose rows are their own, told by the list of the blocks in which they lie: what is turned in none of them leaves the tree as it was; a tree in stretches of its own is such a one. a place in a tree whose rows lie in blocks apart: what is turned there is turned in the whole, whatever new blocks it takes.
  Conditions: as each theorem says.
-/
import Derived.Test.YtnoikdlofkcgaaaGreatDoorJIv
namespace Go.Proofs.YtnoikdlofkcgaaaGreatDoor
open Go.RowKit Go.Sort

/-- The block of a row, if it has one. -/
def blk (v : Value) : List Nat := v.ownBlock.toList
/-- A row of keys of its own. -/
structure KeysS (w : World) (lo : Nat) (v : Value) (ks : List ByteArray) : Prop where
  own : w.ownsRow lo 9 1 v ks.length (scells ks)
  few : ks.length ≤ 1000
/-- A row of kids of its own. -/
structure KidsS (w : World) (lo : Nat) (v : Value) (us : List TV) : Prop where
  own : w.ownsRow lo 29 7 v us.length (tcs us)
  few : us.length ≤ 1000
/-- Trees, one after the other, and the blocks of their rows. -/
def IsGS (w : World) (lo : Nat) : JF → List TV → List Nat → Prop
  | .nil, us, S => us = [] ∧ S = []
  | .node b o x l r, us, S => (b = 0 ∧ o = 0) ∧ ∃ uk ua us' rest S1 S2, us = (x.1, uk, ua) :: rest ∧ S = (blk uk ++ (blk ua ++ S1)) ++ S2 ∧ (KeysS w lo uk x.2 ∧ KidsS w lo ua us' ∧ IsGS w lo l us' S1) ∧ IsGS w lo r rest S2
/-- A tree, and the blocks of its rows. -/
def IsTS (w : World) (lo : Nat) (S : List Nat) (u : TV) (T : JT) : Prop :=
  ∃ uk ua us' S1, u = (T.x, uk, ua) ∧ S = blk uk ++ (blk ua ++ S1) ∧ KeysS w lo uk T.ks ∧ KidsS w lo ua us' ∧ IsGS w lo T.kids us' S1

theorem own_keep {w w' : World} {lo k n : Nat} {ty : TypeId} {v : Value} {cs : List Value} (h : w.ownsRow lo ty k v n cs) (hk : ∀ b ∈ blk v, w'.heap[b]? = w.heap[b]?) : w'.ownsRow lo ty k v n cs := by
  refine ⟨h.1, ?_⟩
  rcases h.2 with h0 | ⟨g, cap, cur, e, h1, h2, h3⟩
  · exact Or.inl h0
  · exact Or.inr ⟨g, cap, cur, e, h1, (hk g (by rw [e]; exact List.mem_singleton.2 rfl)).trans h2, h3⟩
theorem own_blk {w : World} {lo k n : Nat} {ty : TypeId} {v : Value} {cs : List Value} (h : w.ownsRow lo ty k v n cs) {b : Nat} (hb : b ∈ blk v) : lo ≤ b ∧ ∃ cur, w.heap[b]? = some (.cells cur ty) := by
  rcases h.2 with ⟨e, _⟩ | ⟨g, cap, cur, e, h1, h2, _⟩
  · rw [e] at hb; cases hb
  · rw [e] at hb
    obtain rfl := List.mem_singleton.1 hb
    exact ⟨h1, cur, h2⟩
theorem blk_one (v : Value) : (blk v).Nodup := by
  unfold blk
  cases v.ownBlock with
  | none => exact List.nodup_nil
  | some g => exact List.nodup_cons.2 ⟨fun h => (by cases h), List.nodup_nil⟩
theorem IsGS.keep {w w' : World} {lo : Nat} : ∀ {f : JF} {us : List TV} {S : List Nat}, IsGS w lo f us S → (∀ k ∈ S, w'.heap[k]? = w.heap[k]?) → IsGS w' lo f us S
  | .nil, _, _, h, _ => h
  | .node _ _ _ _ _, _, _, h, hk => by
    obtain ⟨e, uk, ua, us', rest, S1, S2, e1, rfl, ⟨h1, h2, h3⟩, h4⟩ := h
    simp only [List.mem_append] at hk
    exact ⟨e, uk, ua, us', rest, S1, S2, e1, rfl, ⟨⟨own_keep h1.own (fun b hb => hk b (Or.inl (Or.inl hb))), h1.few⟩, ⟨own_keep h2.own (fun b hb => hk b (Or.inl (Or.inr (Or.inl hb)))), h2.few⟩, h3.keep (fun b hb => hk b (Or.inl (Or.inr (Or.inr hb))))⟩, h4.keep (fun b hb => hk b (Or.inr hb))⟩
theorem IsTS.keep {w w' : World} {lo : Nat} {S : List Nat} {u : TV} {T : JT} (h : IsTS w lo S u T) (hk : ∀ k ∈ S, w'.heap[k]? = w.heap[k]?) : IsTS w' lo S u T := by
  obtain ⟨uk, ua, us', S1, e, rfl, h1, h2, h3⟩ := h
  simp only [List.mem_append] at hk
  exact ⟨uk, ua, us', S1, e, rfl, ⟨own_keep h1.own (fun b hb => hk b (Or.inl hb)), h1.few⟩, ⟨own_keep h2.own (fun b hb => hk b (Or.inr (Or.inl hb))), h2.few⟩, h3.keep (fun b hb => hk b (Or.inr (Or.inr hb)))⟩
theorem KidsS.rowH {w : World} {lo : Nat} {v : Value} {us : List TV} (h : KidsS w lo v us) : ∃ a cap, v = .slice a us.length cap ∧ (us.length ≤ cap ∧ (a = none → cap = 0)) ∧ RowTH lo w a us := by
  rcases own_rowB h.own with ⟨e, hus⟩ | ⟨g, cap, e, h0, hg, hc, hr⟩
  · exact ⟨none, 0, by rw [e, hus]; rfl, ⟨by rw [hus]; exact Nat.le_refl _, fun _ => rfl⟩, fun hu => absurd hus hu⟩
  · exact ⟨_, cap, e, ⟨hc, fun e => by cases e⟩, fun _ => ⟨g, 0, rfl, hg, h0, fun i hi j hj => by rw [Nat.zero_add]; exact hr.cellAt i hi j hj⟩⟩
theorem KeysS.strsH {w : World} {lo : Nat} {v : Value} {ks : List ByteArray} (h : KeysS w lo v ks) : IsStrsH lo w v ks := own_strs h.own (by have := h.few; omega)
theorem IsGS.forestH {w : World} {lo : Nat} : ∀ {f : JF} {us : List TV} {S : List Nat}, IsGS w lo f us S → IsG (IsStrsH lo w) (RowTH lo w) f us
  | .nil, _, _, h => h.1
  | .node _ _ _ _ _, _, _, h => by
    obtain ⟨e, uk, ua, us', rest, S1, S2, e1, rfl, ⟨h1, h2, h3⟩, h4⟩ := h
    obtain ⟨a, cap, ea, hc, hr⟩ := h2.rowH
    exact ⟨e, uk, a, cap, us', rest, by rw [e1, ea], h1.strsH, hc, by have := h2.few; omega, hr, h3.forestH, h4.forestH⟩
theorem IsTS.high {w : World} {lo : Nat} {S : List Nat} {u : TV} {T : JT} (h : IsTS w lo S u T) : IsTH lo w (tval u) T := by
  obtain ⟨uk, ua, us', S1, e, rfl, h1, h2, h3⟩ := h
  obtain ⟨a, cap, ea, hc, hr⟩ := h2.rowH
  exact ⟨uk, a, cap, us', by rw [e, ea], h1.strsH, hc, by have := h2.few; omega, hr, h3.forestH⟩
theorem IsGS.low {w : World} {lo : Nat} : ∀ {f : JF} {us : List TV} {S : List Nat}, IsGS w lo f us S → ∀ k ∈ S, lo ≤ k ∧ k < w.heap.size
  | .nil, _, _, h, k, hk => by rw [h.2] at hk; cases hk
  | .node _ _ _ _ _, _, _, h, k, hk => by
    obtain ⟨e, uk, ua, us', rest, S1, S2, e1, rfl, ⟨h1, h2, h3⟩, h4⟩ := h
    simp only [List.mem_append] at hk
    rcases hk with (hk | hk | hk) | hk
    · obtain ⟨a, _, b⟩ := own_blk h1.own hk
      exact ⟨a, lt_of_heap b⟩
    · obtain ⟨a, _, b⟩ := own_blk h2.own hk
      exact ⟨a, lt_of_heap b⟩
    · exact h3.low k hk
    · exact h4.low k hk

theorem own_low {w : World} {lo lo' k n : Nat} {ty : TypeId} {v : Value} {cs : List Value} (h : w.ownsRow lo ty k v n cs) (hl : lo' ≤ lo) : w.ownsRow lo' ty k v n cs := by
  refine ⟨h.1, ?_⟩
  rcases h.2 with h0 | ⟨g, cap, cur, e, h1, h2⟩
  · exact Or.inl h0
  · exact Or.inr ⟨g, cap, cur, e, Nat.le_trans hl h1, h2⟩
theorem blk_apart {w : World} {lo n m : Nat} {uk ua : Value} {c1 c2 : List Value} (h1 : w.ownsRow lo 9 1 uk n c1) (h2 : w.ownsRow lo 29 7 ua m c2) : ∀ k ∈ blk uk, k ∉ blk ua := by
  intro k hk hk2
  obtain ⟨_, c, e1⟩ := own_blk h1 hk
  obtain ⟨_, d, e2⟩ := own_blk h2 hk2
  rw [e1] at e2
  have e3 := Option.some.inj e2
  injection e3 with _ e4
  exact absurd e4 (by decide)
/-- Trees in stretches of their own lie in blocks apart. -/
theorem IsGI.blocks {w : World} {B : Nat} : ∀ {f : JF} {us : List TV} {lo hi : Nat}, IsGI w f us lo hi → B ≤ lo → ∃ S, IsGS w B f us S ∧ S.Nodup ∧ ∀ k ∈ S, lo ≤ k ∧ k < hi
  | .nil, _, _, _, h, _ => ⟨[], ⟨h.1, rfl⟩, List.nodup_nil, fun k hk => by cases hk⟩
  | .node _ _ _ _ _, _, lo, hi, h, hB => by
    obtain ⟨e, uk, ua, us', rest, m1, m2, e1, ⟨h1, h2, h3, h4⟩, h5⟩ := h
    obtain ⟨S1, a1, a2, a3⟩ := h4.blocks (B := B) (by omega)
    have l4 := h4.le
    have l5 := h5.le
    obtain ⟨S2, b1, b2, b3⟩ := h5.blocks (B := B) (by omega)
    have hk : ∀ k ∈ blk uk, lo ≤ k ∧ k < m1 := fun k hk => ⟨(own_blk h1.own hk).1, h1.high k (Option.mem_toList.1 hk)⟩
    have ha : ∀ k ∈ blk ua, lo ≤ k ∧ k < m1 := fun k hk => ⟨(own_blk h2.own hk).1, h2.high k (Option.mem_toList.1 hk)⟩
    refine ⟨(blk uk ++ (blk ua ++ S1)) ++ S2, ⟨e, uk, ua, us', rest, S1, S2, e1, rfl, ⟨⟨own_low h1.own hB, h1.few⟩, ⟨own_low h2.own hB, h2.few⟩, a1⟩, b1⟩, ?_, ?_⟩
    · refine List.nodup_append.2 ⟨List.nodup_append.2 ⟨blk_one uk, List.nodup_append.2 ⟨blk_one ua, a2, ?_⟩, ?_⟩, b2, ?_⟩
      · intro x hx y hy exy
        have := ha x hx
        have := a3 y hy
        omega
      · intro x hx y hy exy
        rcases List.mem_append.1 hy with hy | hy
        · exact blk_apart h1.own h2.own x hx (exy ▸ hy)
        · have := hk x hx
          have := a3 y hy
          omega
      · intro x hx y hy exy
        have hy' := b3 y hy
        simp only [List.mem_append] at hx
        rcases hx with hx | hx | hx
        · have := hk x hx; omega
        · have := ha x hx; omega
        · have := a3 x hx; omega
    · intro k hx
      simp only [List.mem_append] at hx
      rcases hx with (hx | hx | hx) | hx
      · have := hk k hx; omega
      · have := ha k hx; omega
      · have := a3 k hx; omega
      · have := b3 k hx; omega
theorem IsTI.blocks {w : World} {lo hi B : Nat} {u : TV} {T : JT} (h : IsTI w lo hi u T) (hB : B ≤ lo) : ∃ S, IsTS w B S u T ∧ S.Nodup ∧ ∀ k ∈ S, lo ≤ k ∧ k < hi := by
  obtain ⟨uk, ua, us', m1, e, h1, h2, h3, h4⟩ := h
  obtain ⟨S1, a1, a2, a3⟩ := h4.blocks (B := B) (by omega)
  have l4 := h4.le
  have hk : ∀ k ∈ blk uk, lo ≤ k ∧ k < m1 := fun k hk => ⟨(own_blk h1.own hk).1, h1.high k (Option.mem_toList.1 hk)⟩
  have ha : ∀ k ∈ blk ua, lo ≤ k ∧ k < m1 := fun k hk => ⟨(own_blk h2.own hk).1, h2.high k (Option.mem_toList.1 hk)⟩
  refine ⟨blk uk ++ (blk ua ++ S1), ⟨uk, ua, us', S1, e, rfl, ⟨own_low h1.own hB, h1.few⟩, ⟨own_low h2.own hB, h2.few⟩, a1⟩, ?_, ?_⟩
  · refine List.nodup_append.2 ⟨blk_one uk, List.nodup_append.2 ⟨blk_one ua, a2, ?_⟩, ?_⟩
    · intro x hx y hy exy
      have := ha x hx
      have := a3 y hy
      omega
    · intro x hx y hy exy
      rcases List.mem_append.1 hy with hy | hy
      · exact blk_apart h1.own h2.own x hx (exy ▸ hy)
      · have := hk x hx
        have := a3 y hy
        omega
  · intro k hx
    simp only [List.mem_append] at hx
    rcases hx with hx | hx | hx
    · have := hk k hx; omega
    · have := ha k hx; omega
    · have := a3 k hx; omega
end Go.Proofs.YtnoikdlofkcgaaaGreatDoor

namespace Go.Proofs.YtnoikdlofkcgaaaGreatDoor
open Go.RowKit Go.Sort

theorem IsGS.to {w : World} {lo : Nat} {f : JF} {us : List TV} {S : List Nat} (h : IsGS w lo f us S) : f = ofL (toL f) ∧ us.length = (toL f).length := ⟨(isG_to _ _ h.forestH).1, (isG_to _ _ h.forestH).2.1⟩
/-- One of several: its own blocks, and what becomes of all when it is another. -/
theorem IsGS.at {w : World} {lo : Nat} : ∀ {f : JF} {us : List TV} {S : List Nat}, IsGS w lo f us S → ∀ (i : Nat) (hi : i < us.length), ∃ Sa Si Sb, S = Sa ++ (Si ++ Sb) ∧ (∀ h2 : i < (toL f).length, IsTS w lo Si us[i] (toL f)[i]) ∧
    ∀ (w' : World) (u' : TV) (t' : JT) (Si' : List Nat), (∀ k ∈ Sa, w'.heap[k]? = w.heap[k]?) → (∀ k ∈ Sb, w'.heap[k]? = w.heap[k]?) → IsTS w' lo Si' u' t' → IsGS w' lo (ofL ((toL f).set i t')) (us.set i u') (Sa ++ (Si' ++ Sb))
  | .nil, us, _, h, i, hi => by rw [h.1] at hi; cases hi
  | .node _ _ x l r, us, S, h, i, hi => by
    obtain ⟨e, uk, ua, us', rest, S1, S2, rfl, rfl, ⟨h1, h2, h3⟩, h4⟩ := h
    cases i with
    | zero =>
      refine ⟨[], blk uk ++ (blk ua ++ S1), S2, rfl, fun _ => ⟨uk, ua, us', S1, rfl, rfl, h1, h2, h3⟩, fun w' u' t' Si' _ hb ht => ?_⟩
      obtain ⟨uk', ua', us'', S1', rfl, rfl, g1, g2, g3⟩ := ht
      show IsGS w' lo (.node 0 0 t'.lab t'.kids (ofL (toL r))) ((t'.x, uk', ua') :: rest) _
      rw [← h4.to.1]
      exact ⟨⟨rfl, rfl⟩, uk', ua', us'', rest, S1', S2, rfl, rfl, ⟨g1, g2, g3⟩, h4.keep hb⟩
    | succ i =>
      obtain ⟨Sa, Si, Sb, e1, e2, e3⟩ := h4.at i (by simpa using hi)
      subst e1
      refine ⟨(blk uk ++ (blk ua ++ S1)) ++ Sa, Si, Sb, by simp [List.append_assoc], fun h6 => ?_, fun w' u' t' Si' ha hb ht => ?_⟩
      · have := e2 (by simpa [toL] using h6)
        simpa [toL] using this
      · simp only [List.mem_append] at ha
        have g4 := e3 w' u' t' Si' (fun k hk => ha k (Or.inr hk)) hb ht
        show IsGS w' lo (.node 0 0 x l (ofL ((toL r).set i t'))) ((x.1, uk, ua) :: rest.set i u') _
        exact ⟨⟨rfl, rfl⟩, uk, ua, us', rest.set i u', S1, _, rfl, by rw [List.append_assoc], ⟨⟨own_keep h1.own (fun b hb => ha b (Or.inl (Or.inl hb))), h1.few⟩, ⟨own_keep h2.own (fun b hb => ha b (Or.inl (Or.inr (Or.inl hb)))), h2.few⟩, h3.keep (fun b hb => ha b (Or.inl (Or.inr (Or.inr hb))))⟩, g4⟩

/-- What is kept of a place on follow's way: its blocks, and that what is turned there is turned in the whole. -/
structure HoleS (w : World) (b0 o0 lo : Nat) (T0 : JT) (S0 : List Nat) (l0 : List Stp) (b o : Nat) (Sa St Sb : List Nat) (u : TV) (t : JT) (l : List Stp) : Prop where
  at' : TAt w b o u
  tree : IsTS w lo St u t
  sets : S0 = Sa ++ (St ++ Sb)
  nodup : S0.Nodup
  fz : ∀ d, w.frozen? ⟨b, d, none⟩ = false
  out : b0 ∉ S0
  place : (b = b0 ∧ o = o0) ∨ b ∈ Sa
  getT : getT T0 l0 = Go.Proofs.YtnoikdlofkcgaaaGreatDoor.getT t l
  back : ∀ (w' : World) (t' : JT) (St' : List Nat) (u1 : TV), w.heap.size ≤ w'.heap.size → (∀ k, k ∈ Sa ∨ k ∈ Sb ∨ k = b0 → k ≠ b → w'.heap[k]? = w.heap[k]?) → (∀ c, c < o ∨ o + 7 ≤ c → w'.cell? ⟨b, c, none⟩ = w.cell? ⟨b, c, none⟩) → (∀ ty cur, w.heap[b]? = some (.cells cur ty) → ∃ cur', w'.heap[b]? = some (.cells cur' ty) ∧ cur'.size = cur.size) →
    TAt w' b o u1 → IsTS w' lo St' u1 t' → ∃ (d : List Stp) (u2 : TV), l0 = d ++ l ∧ Go.Proofs.YtnoikdlofkcgaaaGreatDoor.getT T0 d = some t ∧ TAt w' b0 o0 u2 ∧ IsTS w' lo (Sa ++ (St' ++ Sb)) u2 (repT T0 d t')
theorem HoleS.start {w : World} {b o lo : Nat} {S : List Nat} {u : TV} {T : JT} (l : List Stp) (hA : TAt w b o u) (h : IsTS w lo S u T) (hn : S.Nodup) (hb : b ∉ S) (hfz : ∀ d, w.frozen? ⟨b, d, none⟩ = false) : HoleS w b o lo T S l b o [] S [] u T l :=
  ⟨hA, h, by rw [List.append_nil]; rfl, hn, hfz, hb, Or.inl ⟨rfl, rfl⟩, rfl, fun w' t' St' u1 _ _ _ _ h1 h2 => ⟨[], u1, rfl, rfl, h1, by rw [List.append_nil]; exact h2⟩⟩
theorem HoleS.next {w : World} {b0 o0 lo : Nat} {T0 : JT} {S0 : List Nat} {l0 : List Stp} {b o : Nat} {Sa St Sb : List Nat} {u : TV} {t : JT} {s : Stp} {l : List Stp} (h : HoleS w b0 o0 lo T0 S0 l0 b o Sa St Sb u t (s :: l)) {i : Nat} (hi' : i < t.ts.length) (hk : kidOf t.x t.ks t.ts.length s = some i) {g off n c : Nat} (hu : u.2.2 = .slice (some ⟨g, off, none⟩) n c) :
    ∃ Sa' St' Sb' u', HoleS w b0 o0 lo T0 S0 l0 g (off + i * 7) Sa' St' Sb' u' t.ts[i] l := by
  obtain ⟨uk, ua, us', S1, e, eS, h1, h2, h4⟩ := h.tree
  have hua : ua = .slice (some ⟨g, off, none⟩) n c := by rw [e] at hu; exact hu
  have hlen : us'.length = t.ts.length := h4.to.2
  have hiu : i < us'.length := by omega
  have hst : step1 t s = some t.ts[i] := by unfold step1; rw [hk]; exact List.getElem?_eq_getElem hi'
  have hcapm : ∃ g' cap cur, ua = .slice (some ⟨g', 0, none⟩) us'.length cap ∧ lo ≤ g' ∧ w.heap[g']? = some (.cells cur 29) ∧ us'.length ≤ cap ∧ cap ≤ maxLen ∧ cur.size = cap * 7 := by
    rcases h2.own.2 with ⟨e1, _⟩ | ⟨g', cap, cur, e1, a1, a2, a3, a4, a5, _⟩
    · rw [hua] at e1; cases e1
    · exact ⟨g', cap, cur, e1, a1, a2, a3, a4, a5⟩
  obtain ⟨gx, cap, cur, ex, hlg, hcur, hcc, hcm, hcz⟩ := hcapm
  rcases own_rowB h2.own with ⟨e1, hus⟩ | ⟨g', cap', e1, hg1, hg2, hg3, hr⟩
  · rw [hua] at e1; cases e1
  · have e2 := Value.slice.inj (hua.symm.trans e1)
    have e3 := Option.some.inj e2.1
    injection e3 with e4 e5 _
    subst e4 e5
    have e6 := Value.slice.inj (ex.symm.trans e1)
    have e7 := Option.some.inj e6.1
    injection e7 with e8 _ _
    subst e8
    have hbg : blk ua = [gx] := by rw [e1]; rfl
    obtain ⟨S1a, Si, S1b, q1, q2, q3⟩ := h4.at i hiu
    subst q1
    have hnd := h.nodup
    have hset := h.sets
    rw [eS, hbg] at hset
    have hset' : S0 = (Sa ++ (blk uk ++ (gx :: S1a))) ++ (Si ++ (S1b ++ Sb)) := by rw [hset]; simp [List.append_assoc]
    have hTi : TAt w gx (0 + i * 7) us'[i] := by
      rw [Nat.zero_add]
      exact ⟨hg2, hr.cellAt i hiu 0 (by decide), hr.cellAt i hiu 1 (by decide), hr.cellAt i hiu 2 (by decide), hr.cellAt i hiu 3 (by decide), hr.cellAt i hiu 4 (by decide), hr.cellAt i hiu 5 (by decide), hr.cellAt i hiu 6 (by decide)⟩
    refine ⟨Sa ++ (blk uk ++ (gx :: S1a)), Si, S1b ++ Sb, us'[i], ⟨hTi, q2 hi', hset', hnd, hr.frozen, h.out, Or.inr (by simp), ?_, ?_⟩⟩
    · rw [h.getT, Go.Proofs.YtnoikdlofkcgaaaGreatDoor.getT, hst]; rfl
    · intro w' t' St' u1 hz hkeep hcell hshape n1 n2
      rw [Nat.zero_add] at n1 hcell
      rw [hset] at hnd
      have hgSa : gx ∉ Sa := fun hx => by
        have := (List.nodup_append.1 hnd).2.2 gx hx gx (by simp)
        exact this rfl
      have hgb0 : gx ≠ b0 := fun e => h.out (by rw [hset', ← e]; simp)
      have hndT := (List.nodup_append.1 hnd).2.1
      have hndT2 := (List.nodup_append.1 hndT).1
      have hndT3 := (List.nodup_append.1 hndT2).2.1
      have hgS1 : gx ∉ S1a ++ (Si ++ S1b) := (List.nodup_cons.1 hndT3).1
      have hgSb : gx ∉ Sb := fun hx => (List.nodup_append.1 hndT).2.2 gx (by simp) gx hx rfl
      have hguk : ∀ k ∈ blk uk, k ≠ gx := fun k hk e => (List.nodup_append.1 hndT2).2.2 k hk gx (by simp) e
      have hbne : b ≠ gx := by
        rcases h.place with ⟨e9, _⟩ | e9
        · rw [e9]; exact hgb0.symm
        · exact fun e => hgSa (e ▸ e9)
      have hbk : w'.heap[b]? = w.heap[b]? := by
        refine hkeep b ?_ hbne
        rcases h.place with ⟨e9, _⟩ | e9
        · exact Or.inr (Or.inr e9)
        · exact Or.inl (List.mem_append_left _ e9)
      have hTA : TAt w' b o u := by
        obtain ⟨c0, c1, c2, c3, c4, c5, c6, c7⟩ := h.at'
        have hc : ∀ d, w'.cell? ⟨b, d, none⟩ = w.cell? ⟨b, d, none⟩ := fun d => World.cell?_of_block (w := w) hbk
        exact ⟨by omega, (hc _).trans c1, (hc _).trans c2, (hc _).trans c3, (hc _).trans c4, (hc _).trans c5, (hc _).trans c6, (hc _).trans c7⟩
      have hu1l : (us'.set i u1).length = us'.length := List.length_set
      obtain ⟨cur', f1, f2⟩ := hshape _ _ hcur
      have hrow : RowB w' gx (us'.set i u1) := by
        refine ⟨cur', f1, by rw [hu1l, f2, hcz]; omega, fun k hk6 j hj => ?_⟩
        have hcc2 : ∀ d, w'.cell? ⟨gx, d, none⟩ = cur'[d]? := fun d => Lib.cell_of_heap f1 d
        rw [hu1l] at hk6
        rw [← hcc2]
        by_cases e6 : k = i
        · subst e6
          rw [List.getElem_set_self]
          obtain ⟨_, c1, c2, c3, c4, c5, c6, c7⟩ := n1
          obtain rfl | rfl | rfl | rfl | rfl | rfl | rfl : j = 0 ∨ j = 1 ∨ j = 2 ∨ j = 3 ∨ j = 4 ∨ j = 5 ∨ j = 6 := by omega
          · exact c1
          · exact c2
          · exact c3
          · exact c4
          · exact c5
          · exact c6
          · exact c7
        · rw [List.getElem_set_ne (fun e7 => e6 e7.symm), hcell (k * 7 + j) (by omega)]
          exact hr.cellAt k hk6 j hj
      have hown := row_own hrow ⟨cur', f1, f2.trans hcz⟩ (by rw [hu1l]; exact hcc) hcm hlg
      have hG := q3 w' u1 t' St' (fun k hk => hkeep k (Or.inl (by simp [hk])) (fun e => hgS1 (e ▸ List.mem_append_left _ hk))) (fun k hk => hkeep k (Or.inr (Or.inl (by simp [hk]))) (fun e => hgS1 (e ▸ List.mem_append_right _ (List.mem_append_right _ hk)))) n2
      have hIs : IsTS w' lo (blk uk ++ (gx :: (S1a ++ (St' ++ S1b)))) u (.node t.x t.ks (t.ts.set i t')) := by
        refine ⟨uk, ua, us'.set i u1, S1a ++ (St' ++ S1b), e, by rw [hbg]; rfl, ⟨own_keep h1.own (fun k hk => hkeep k (Or.inl (by simp [hk])) (hguk k hk)), h1.few⟩, ⟨?_, by rw [hu1l]; exact h2.few⟩, hG⟩
        rw [ex]
        rw [hu1l] at hown ⊢
        exact hown
      obtain ⟨d, u2, r1, r2, r3, r4⟩ := h.back w' (.node t.x t.ks (t.ts.set i t')) _ u hz (fun k k1 k2 => by
        by_cases hkg : k = gx
        · exfalso
          rcases k1 with k1 | k1 | k1
          · exact hgSa (hkg ▸ k1)
          · exact hgSb (hkg ▸ k1)
          · exact hgb0 (hkg.symm.trans k1)
        · refine hkeep k ?_ hkg
          rcases k1 with k1 | k1 | k1
          · exact Or.inl (List.mem_append_left _ k1)
          · exact Or.inr (Or.inl (List.mem_append_right _ k1))
          · exact Or.inr (Or.inr k1)) (fun c6 _ => World.cell?_of_block (w := w) hbk) (fun ty c9 h9 => ⟨c9, hbk.trans h9, rfl⟩) hTA hIs
      refine ⟨d ++ [s], u2, by rw [r1, List.append_assoc]; rfl, getT_snoc d T0 r2 hst, r3, ?_⟩
      rw [repT_snoc d T0 t' r2 hk]
      have e11 : (Sa ++ (blk uk ++ (gx :: S1a))) ++ (St' ++ (S1b ++ Sb)) = Sa ++ ((blk uk ++ (gx :: (S1a ++ (St' ++ S1b)))) ++ Sb) := by simp [List.append_assoc]
      rw [e11]
      exact r4
end Go.Proofs.YtnoikdlofkcgaaaGreatDoor
