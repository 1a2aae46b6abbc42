/-
  What is proved: what a patch's step leaves in memory at a place of a tree whose rows lie in blocks apart.
  Conditions: as each theorem says.
-/
import Derived.Test.YtnoikdlofkcgaaaGreatDoorG14
import Derived.Test.YtnoikdlofkcgaaaGreatDoorG15
namespace Go.Proofs.YtnoikdlofkcgaaaGreatDoor
open Go.RowKit Go.Sort

/-- The fields of a tree of a value alone. -/
def leafV (y : V) : TV := (y, .slice none 0 0, .slice none 0 0)
/-- What has turned: at most a place's own cells, and what lies in its blocks. -/
structure TurnS (b o : Nat) (S : List Nat) (w w' : World) : Prop where
  os : w'.os = w.os
  tape : w'.tape = w.tape
  output : w'.output = w.output
  size : w.heap.size ≤ w'.heap.size
  block : ∀ k, k < w.heap.size → k ∉ S → k ≠ b → w'.heap[k]? = w.heap[k]?
  cell : ∀ c, c < o ∨ o + 7 ≤ c → w'.cell? ⟨b, c, none⟩ = w.cell? ⟨b, c, none⟩
  shape : ∀ ty cur, w.heap[b]? = some (.cells cur ty) → ∃ cur', w'.heap[b]? = some (.cells cur' ty) ∧ cur'.size = cur.size
/-- What a patch's step leaves at a place. -/
def PlaceP (k : Int) (w : World) (b o lo : Nat) (St : List Nat) (t : JT) (s : Stp) (y : V) (e : Ending) (w' : World) : Prop :=
  (∃ t' u' St', OneR k t s y t' ∧ e = .returned (.bool true) ∧ TurnS b o St w w' ∧ TAt w' b o u' ∧ IsTS w' lo St' u' t' ∧ St'.Nodup ∧ (∀ x ∈ St', x ∈ St ∨ w.heap.size ≤ x)) ∨
  ((∀ t', ¬ OneR k t s y t') ∧ e = .returned (.bool false) ∧ Below w.heap.size w w')

theorem TurnS.of {b o : Nat} {S : List Nat} {w w1 w2 w3 : World} (h1 : Below w.heap.size w w1) (h2 : TurnS b o S w1 w2) (h3 : Below w2.heap.size w2 w3) (hb : b < w.heap.size) : TurnS b o S w w3 := by
  have s1 := h1.size
  have s2 := h2.size
  have s3 := h3.size
  refine ⟨h3.os.trans (h2.os.trans h1.os), h3.tape.trans (h2.tape.trans h1.tape), h3.output.trans (h2.output.trans h1.output), by omega, fun k k1 k2 k3 => (h3.block k (by omega)).trans ((h2.block k (by omega) k2 k3).trans (h1.block k k1)), fun c hc => (h3.cell (p := ⟨b, c, none⟩) (show b < _ by omega)).trans ((h2.cell c hc).trans (h1.cell (p := ⟨b, c, none⟩) hb)), fun ty cur hc => ?_⟩
  obtain ⟨cur', e1, e2⟩ := h2.shape ty cur ((h1.block b hb).trans hc)
  exact ⟨cur', (h3.block b (by omega)).trans e1, e2⟩
theorem TurnS.refl (b o : Nat) (S : List Nat) (w : World) : TurnS b o S w w := ⟨rfl, rfl, rfl, Nat.le_refl _, fun _ _ _ _ => rfl, fun _ _ => rfl, fun _ cur h => ⟨cur, h, rfl⟩⟩
theorem TurnS.below {b o : Nat} {S : List Nat} {w w' : World} (h : Below w.heap.size w w') (hb : b < w.heap.size) : TurnS b o S w w' := TurnS.of h (TurnS.refl b o S w') (Below.refl _ _) hb

theorem IsTS.low {w : World} {lo : Nat} {S : List Nat} {u : TV} {T : JT} (h : IsTS w lo S u T) : ∀ k ∈ S, lo ≤ k ∧ k < w.heap.size := by
  obtain ⟨uk, ua, us', S1, e, rfl, h1, h2, h3⟩ := h
  intro k hk
  simp only [List.mem_append] at hk
  rcases hk with hk | hk | hk
  · obtain ⟨a, _, b⟩ := own_blk h1.own hk
    exact ⟨a, lt_of_heap b⟩
  · obtain ⟨a, _, b⟩ := own_blk h2.own hk
    exact ⟨a, lt_of_heap b⟩
  · exact h3.low k hk
theorem leafS (w : World) (lo : Nat) (y : V) : IsTS w lo [] (leafV y) (leafT y) :=
  ⟨.slice none 0 0, .slice none 0 0, [], [], rfl, rfl, ⟨⟨rfl, Or.inl ⟨rfl, rfl⟩⟩, Nat.zero_le _⟩, ⟨⟨rfl, Or.inl ⟨rfl, rfl⟩⟩, Nat.zero_le _⟩, rfl, rfl⟩
/-- A value alone put between takes no block. -/
theorem IsGS.put {w : World} {lo : Nat} (y : V) : ∀ {f : JF} {us : List TV} {S : List Nat}, IsGS w lo f us S → ∀ (j : Nat), j ≤ us.length → IsGS w lo (ofL (putL (toL f) j (leafT y))) (putL us j (leafV y)) S
  | .nil, us, S, h, j, hj => by
    obtain ⟨rfl, rfl⟩ := h
    obtain rfl : j = 0 := by simpa using hj
    exact ⟨⟨rfl, rfl⟩, .slice none 0 0, .slice none 0 0, [], [], [], [], rfl, rfl, ⟨⟨⟨rfl, Or.inl ⟨rfl, rfl⟩⟩, Nat.zero_le _⟩, ⟨⟨rfl, Or.inl ⟨rfl, rfl⟩⟩, Nat.zero_le _⟩, rfl, rfl⟩, rfl, rfl⟩
  | .node _ _ x l r, us, S, h, j, hj => by
    cases j with
    | zero =>
      have e := h.to.1
      have h' := h
      rw [e] at h'
      exact ⟨⟨rfl, rfl⟩, .slice none 0 0, .slice none 0 0, [], us, [], S, rfl, rfl, ⟨⟨⟨rfl, Or.inl ⟨rfl, rfl⟩⟩, Nat.zero_le _⟩, ⟨⟨rfl, Or.inl ⟨rfl, rfl⟩⟩, Nat.zero_le _⟩, rfl, rfl⟩, h'⟩
    | succ j =>
      obtain ⟨e, uk, ua, us', rest, S1, S2, rfl, rfl, h1, h4⟩ := h
      exact ⟨⟨rfl, rfl⟩, uk, ua, us', putL rest j (leafV y), S1, S2, rfl, rfl, h1, h4.put y j (by simpa using hj)⟩
/-- One taken out takes its blocks along. -/
theorem IsGS.cut {w : World} {lo : Nat} : ∀ {f : JF} {us : List TV} {S : List Nat}, IsGS w lo f us S → ∀ (i : Nat), i < us.length → ∃ S', IsGS w lo (ofL (cutL (toL f) i)) (cutL us i) S' ∧ S'.Sublist S
  | .nil, us, S, h, i, hi => by rw [h.1] at hi; cases hi
  | .node _ _ x l r, us, S, h, i, hi => by
    obtain ⟨e, uk, ua, us', rest, S1, S2, rfl, rfl, h1, h4⟩ := h
    cases i with
    | zero =>
      refine ⟨S2, ?_, List.sublist_append_right _ _⟩
      show IsGS w lo (ofL (toL r)) rest S2
      rw [← h4.to.1]
      exact h4
    | succ i =>
      obtain ⟨S', q1, q2⟩ := h4.cut i (by simpa using hi)
      exact ⟨(blk uk ++ (blk ua ++ S1)) ++ S', ⟨⟨rfl, rfl⟩, uk, ua, us', cutL rest i, S1, S', rfl, rfl, h1, q1⟩, List.Sublist.append (List.Sublist.refl _) q2⟩
/-- The blocks of what was made at a place. -/
theorem place_blocks {n : Nat} {S1 S1' : List Nat} {uk ua vk vt : Value} (hnd : (blk uk ++ (blk ua ++ S1)).Nodup) (hS : ∀ x ∈ S1', x ∈ S1) (hnd' : S1'.Nodup) (hlow : ∀ x ∈ blk uk ++ (blk ua ++ S1), x < n) (hk : ∀ x ∈ blk vk, x ∈ blk uk ∨ n ≤ x) (ht : ∀ x ∈ blk vt, x ∈ blk ua ∨ n ≤ x) (hap : ∀ x ∈ blk vk, x ∉ blk vt) :
    (blk vk ++ (blk vt ++ S1')).Nodup ∧ ∀ x ∈ blk vk ++ (blk vt ++ S1'), x ∈ blk uk ++ (blk ua ++ S1) ∨ n ≤ x := by
  have a1 := List.nodup_append.1 hnd
  have a2 := List.nodup_append.1 a1.2.1
  refine ⟨List.nodup_append.2 ⟨blk_one vk, List.nodup_append.2 ⟨blk_one vt, hnd', fun x hx y hy e => ?_⟩, fun x hx y hy e => ?_⟩, fun x hx => ?_⟩
  · rcases ht x hx with h | h
    · exact a2.2.2 x h y (hS y hy) e
    · have := hlow y (by simp [hS y hy])
      omega
  · rcases List.mem_append.1 hy with hy | hy
    · exact hap x hx (e ▸ hy)
    · rcases hk x hx with h | h
      · exact a1.2.2 x h y (List.mem_append_right _ (hS y hy)) e
      · have := hlow y (by simp [hS y hy])
        omega
  · simp only [List.mem_append] at hx ⊢
    rcases hx with hx | hx | hx
    · rcases hk x hx with h | h
      · exact Or.inl (Or.inl h)
      · exact Or.inr h
    · rcases ht x hx with h | h
      · exact Or.inl (Or.inr (Or.inl h))
      · exact Or.inr h
    · exact Or.inl (Or.inr (Or.inr (hS x hx)))
theorem own_set_ne {w : World} {B e z n b i : Nat} {v u : Value} {xs : List Value} (h : w.ownsRow B e z v n xs) (hb : b ∉ blk v) : (w.setCell ⟨b, i, none⟩ u).ownsRow B e z v n xs :=
  own_keep h (fun k hk => Below.heap_setCell _ _ _ _ (by have h9 : k ≠ b := fun e => hb (e ▸ hk); simpa using h9))
theorem slice_of {w : World} {B e z n : Nat} {v : Value} {xs : List Value} (h : w.ownsRow B e z v n xs) : ∃ a c, v = .slice a n c := by
  rcases h.2 with ⟨e, h0⟩ | ⟨_, _, _, e, _⟩
  · exact ⟨none, 0, by rw [e, h0]⟩
  · exact ⟨_, _, e⟩
theorem blk_mem {v : Value} {k : Nat} : k ∈ blk v ↔ v.ownBlock = some k := by
  unfold blk
  exact Option.mem_toList
theorem own_grown' {B e s n : Nat} {w w' : World} {v o : Value} {xs : List Value} {B' e' s' n' : Nat} {xs' : List Value} (h : w.ownsRow B e s v n xs) (hg : w.grownBy w' o.ownBlock) (ho : w.ownsRow B' e' s' o n' xs') (hne : e' ≠ e) : w'.ownsRow B e s v n xs := by
  refine ⟨h.1, ?_⟩
  rcases h.2 with h0 | ⟨g, cap, cur, h1, h2, h3, h4⟩
  · exact Or.inl h0
  · refine Or.inr ⟨g, cap, cur, h1, h2, ?_, h4⟩
    rw [hg.block g (lt_of_heap h3) (fun eo => ?_)]
    · exact h3
    · rcases ho.2 with ⟨rfl, _⟩ | ⟨g', cap', cur', rfl, _, hh, _⟩
      · simp [Value.ownBlock] at eo
      · simp [Value.ownBlock] at eo
        subst eo
        rw [h3] at hh
        have h5 := Option.some.inj hh
        injection h5 with _ h6
        exact hne h6.symm
theorem scells_put (ks : List ByteArray) (j : Nat) (key : ByteArray) : put1 (j * 1) (scells ks) [.string key] = scells (putL ks j key) := by
  unfold put1 scells putL
  simp [List.map_take, List.map_drop]
theorem tcs_app (a b : List TV) : tcs (a ++ b) = tcs a ++ tcs b := by unfold tcs; rw [List.flatMap_append]
theorem tcs_put (us : List TV) (j : Nat) (hj : j ≤ us.length) (u : TV) : put1 (j * 7) (tcs us) (tcells u) = tcs (putL us j u) := by
  have e1 : tcs us = tcs (us.take j) ++ tcs (us.drop j) := by rw [← tcs_app, List.take_append_drop]
  have hl : (tcs (us.take j)).length = j * 7 := by rw [tcs_len, List.length_take, Nat.min_eq_left hj]
  have e2 : tcs (putL us j u) = tcs (us.take j) ++ (tcells u ++ tcs (us.drop j)) := by
    unfold putL
    rw [tcs_app]
    rfl
  unfold put1
  rw [e1, e2, List.take_left' hl, List.drop_left' hl]
theorem scells_cut (ks : List ByteArray) (i : Nat) : cut1 (i * 1) ((i + 1) * 1) (scells ks) = scells (cutL ks i) := by
  unfold cut1 scells cutL
  simp [List.map_take, List.map_drop]
theorem tcs_cut (us : List TV) (i : Nat) (hi : i < us.length) : cut1 (i * 7) ((i + 1) * 7) (tcs us) = tcs (cutL us i) := by
  have e1 : tcs us = tcs (us.take i) ++ tcs (us.drop i) := by rw [← tcs_app, List.take_append_drop]
  have e3 : tcs us = tcs (us.take (i + 1)) ++ tcs (us.drop (i + 1)) := by rw [← tcs_app, List.take_append_drop]
  have hl : (tcs (us.take i)).length = i * 7 := by rw [tcs_len, List.length_take, Nat.min_eq_left (by omega)]
  have hl2 : (tcs (us.take (i + 1))).length = (i + 1) * 7 := by rw [tcs_len, List.length_take, Nat.min_eq_left (by omega)]
  unfold cut1 cutL
  rw [tcs_app]
  congr 1
  · rw [e1, List.take_left' hl]
  · rw [e3, List.drop_left' hl2]
theorem one_scells (ks : List ByteArray) : ∀ u ∈ scells ks, u.oneCell' = true := by
  intro u hu
  obtain ⟨x, _, rfl⟩ := List.mem_map.1 hu
  rfl
theorem one_tcs {w : World} {f : JF} {us : List TV} {lo : Nat} {S : List Nat} (h : IsGS w lo f us S) : ∀ u ∈ tcs us, u.oneCell' = true := by
  intro u hu
  obtain ⟨x, hx, hu⟩ := List.mem_flatMap.1 hu
  obtain ⟨i, hi, rfl⟩ := List.getElem_of_mem hx
  have h1 := isG_to _ _ h.forestH
  obtain ⟨y, a1, n1, c1, a2, n2, c2, e⟩ := ((h1.2.2 i hi (by rw [← h1.2.1]; exact hi)).tree).parts
  unfold tcells at hu
  rw [e] at hu
  simp at hu
  rcases hu with rfl | rfl | rfl | rfl | rfl | rfl | rfl <;> rfl
theorem TAt.cells {w w' : World} {b o : Nat} {u : TV} (h : TAt w b o u) (hz : w.heap.size ≤ w'.heap.size) (hc : w'.heap[b]? = w.heap[b]?) : TAt w' b o u := by
  obtain ⟨c0, c1, c2, c3, c4, c5, c6, c7⟩ := h
  have hc : ∀ d, w'.cell? ⟨b, d, none⟩ = w.cell? ⟨b, d, none⟩ := fun d => World.cell?_of_block (w := w) hc
  exact ⟨by omega, (hc _).trans c1, (hc _).trans c2, (hc _).trans c3, (hc _).trans c4, (hc _).trans c5, (hc _).trans c6, (hc _).trans c7⟩
theorem put7_cells (w : World) (g o : Nat) (u : TV) (c : Nat) (hc : c < o ∨ o + 7 ≤ c) : (put7 w g o u).cell? ⟨g, c, none⟩ = w.cell? ⟨g, c, none⟩ := by
  unfold put7
  have ne : ∀ d, d < 7 → (⟨g, o + d, none⟩ : Addr) ≠ ⟨g, c, none⟩ := fun d hd e => by
    injection e with _ e2 _
    omega
  rw [World.cell?_setCell_other _ _ _ _ (ne 6 (by omega)), World.cell?_setCell_other _ _ _ _ (ne 5 (by omega)), World.cell?_setCell_other _ _ _ _ (ne 4 (by omega)), World.cell?_setCell_other _ _ _ _ (ne 3 (by omega)), World.cell?_setCell_other _ _ _ _ (ne 2 (by omega)), World.cell?_setCell_other _ _ _ _ (ne 1 (by omega)), World.cell?_setCell_other _ _ _ _ (show (⟨g, o, none⟩ : Addr) ≠ ⟨g, c, none⟩ from ne 0 (by omega))]
theorem put7_at {w : World} {g o : Nat} {u u0 : TV} (h : TAt w g o u0) : TAt (put7 w g o u) g o u := by
  obtain ⟨c0, c1, c2, c3, c4, c5, c6, c7⟩ := h
  have hz : w.heap.size ≤ (put7 w g o u).heap.size := (put7_below (Below.refl 0 w) g o u (Nat.zero_le _)).size
  have ne : ∀ d e : Nat, d ≠ e → (⟨g, o + d, none⟩ : Addr) ≠ ⟨g, o + e, none⟩ := fun d e hd h9 => by
    injection h9 with _ e2 _
    omega
  refine ⟨by omega, ?_, ?_, ?_, ?_, ?_, ?_, ?_⟩
  all_goals unfold put7
  all_goals simp [World.cell?_setCell_same', World.cell?_setCell_other, c1, c2, c3, c4, c5, c6, c7]
theorem set_none {t t' : JT} {s : Stp} {y : V} (h0 : kidOf t.x t.ks t.ts.length s = none) (h1 : keyStep t.x s = false) : ¬ SetR t s y t' := by
  rintro (⟨i, e, _⟩ | ⟨_, e, _⟩)
  · rw [h0] at e; cases e
  · rw [h1] at e; cases e
theorem set_shape {w : World} {b i : Nat} {v : Value} {ty : TypeId} {cur : Array Value} (h : w.heap[b]? = some (.cells cur ty)) : ∃ cur', (w.setCell ⟨b, i, none⟩ v).heap[b]? = some (.cells cur' ty) ∧ cur'.size = cur.size := ⟨_, set_at h i v, by simp⟩

/-- A value in the place of a kid. -/
theorem set_kid {w W : World} {b o lo : Nat} {St : List Nat} {u : TV} {t : JT} {s : Stp} {y : V} {i g off n c : Nat} (hA : TAt w b o u) (hT : IsTS w lo St u t) (hnd : St.Nodup) (hb : b ∉ St) (hfz : ∀ d, w.frozen? ⟨b, d, none⟩ = false) (hi : i < t.ts.length) (hk : kidOf t.x t.ks t.ts.length s = some i) (hu : u.2.2 = .slice (some ⟨g, off, none⟩) n c) (hW : Below w.heap.size w W) :
    PlaceP 1 w b o lo St t s y (.returned (.bool true)) (put7 W g (off + i * 7) (leafV y)) := by
  have H0 := HoleS.start (l := [s]) hA hT hnd hb hfz
  obtain ⟨Sa, Si, Sb, u', H1⟩ := H0.next hi hk hu
  have hgS : g ∈ St := by
    obtain ⟨uk, ua, us', S1, e, rfl, _⟩ := hT
    rw [e] at hu
    have : blk ua = [g] := by rw [show ua = _ from hu]; rfl
    simp [this]
  have hgw : g < w.heap.size := (hT.low g hgS).2
  have hgb : g ≠ b := fun e => hb (e ▸ hgS)
  have hWz := hW.size
  have hWg : W.heap[g]? = w.heap[g]? := hW.block g hgw
  have hsz : W.heap.size ≤ (put7 W g (off + i * 7) (leafV y)).heap.size := (put7_below (Below.refl 0 W) g _ _ (Nat.zero_le _)).size
  have hblk : ∀ k, k < w.heap.size → k ≠ g → (put7 W g (off + i * 7) (leafV y)).heap[k]? = w.heap[k]? := fun k hk hne => (put7_other W g _ _ k hne).trans (hW.block k hk)
  have hbw : b < w.heap.size := hA.1
  have hset := H1.sets
  have hlowS : ∀ k, k ∈ Sa ∨ k ∈ Sb → k < w.heap.size := fun k hk => (hT.low k (by rw [hset]; simp; rcases hk with h | h <;> simp [h])).2
  obtain ⟨d, u2, e1, e2, e3, e4⟩ := H1.back (put7 W g (off + i * 7) (leafV y)) (leafT y) [] (leafV y) (by omega) (fun k k1 k2 => hblk k (by
      rcases k1 with h | h | h
      · exact hlowS k (Or.inl h)
      · exact hlowS k (Or.inr h)
      · rw [h]; exact hbw) k2) (fun c hc => (put7_cells W g _ _ c hc).trans (World.cell?_of_block (w := w) hWg)) (fun ty cur hc => by
      have h1 : W.heap[g]? = some (.cells cur ty) := hWg.trans hc
      exact ⟨_, set_at (set_at (set_at (set_at (set_at (set_at (set_at h1 _ _) _ _) _ _) _ _) _ _) _ _) _ _, by simp⟩) (put7_at (H1.at'.cells hWz hWg)) (leafS _ _ y)
  rw [List.append_nil] at e1
  subst e1
  have er : repT t [s] (leafT y) = .node t.x t.ks (t.ts.set i (leafT y)) := by simp only [repT, hk]
  rw [er] at e4
  rw [hset] at hnd
  have sub : (Sa ++ ([] ++ Sb)).Sublist (Sa ++ (Si ++ Sb)) := List.Sublist.append (List.Sublist.refl _) (List.Sublist.append (List.nil_sublist _) (List.Sublist.refl _))
  refine Or.inl ⟨_, u2, Sa ++ ([] ++ Sb), Or.inl ⟨rfl, Or.inl ⟨i, hk, hi, rfl⟩⟩, rfl, ⟨?_, ?_, ?_, by omega, fun k k1 k2 k3 => hblk k k1 (fun e => k2 (e ▸ hgS)), fun c _ => World.cell?_of_block (w := w) (hblk b hbw hgb.symm), fun ty cur hc => ⟨cur, (hblk b hbw hgb.symm).trans hc, rfl⟩⟩, e3, e4, sub.nodup hnd, fun x hx => Or.inl (by rw [hset]; exact sub.subset hx)⟩
  · exact (put7_below (hW.mono (Nat.zero_le _)) g _ _ (Nat.zero_le _)).os
  · exact (put7_below (hW.mono (Nat.zero_le _)) g _ _ (Nat.zero_le _)).tape
  · exact (put7_below (hW.mono (Nat.zero_le _)) g _ _ (Nat.zero_le _)).output
end Go.Proofs.YtnoikdlofkcgaaaGreatDoor
