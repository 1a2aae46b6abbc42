/-
  What is proved: what becomes of a whole tree, whose rows lie in blocks apart, when a patch's step was done at a place in it.
  Conditions: as each theorem says.
-/
import Derived.Test.YtegbjkjeoegfbaaDoorJSetS
import Derived.Test.YtegbjkjeoegfbaaDoorJGone
import Derived.Test.YtegbjkjeoegfbaaDoorJInto
import Derived.Test.YtegbjkjeoegfbaaDoorJFollowS
namespace Go.Proofs.YtegbjkjeoegfbaaDoor
open Go.RowKit Go.Sort

theorem mem_sizes {t : JT} : ∀ {l : List JT}, t ∈ l → t.size ≤ sizes l
  | [], h => by cases h
  | a :: r, h => by
    rw [sizes]
    rcases List.mem_cons.1 h with e | e
    · rw [e]; omega
    · have := mem_sizes e
      omega
theorem getT_size : ∀ (l : List Stp) {T t : JT}, getT T l = some t → t.size ≤ T.size
  | [], T, t, h => by
    rw [getT] at h
    rw [Option.some.inj h]
    exact Nat.le_refl _
  | s :: r, T, t, h => by
    rw [getT] at h
    obtain ⟨u, h1, h2⟩ := Option.bind_eq_some_iff.1 h
    unfold step1 at h1
    obtain ⟨i, _, h4⟩ := Option.bind_eq_some_iff.1 h1
    have h5 := mem_sizes (List.mem_of_getElem? h4)
    have h6 := getT_size r h2
    have h7 := size_eq T
    omega
/-- What change leaves. -/
def ChgS (k : Int) (w : World) (b0 o0 lo : Nat) (S0 : List Nat) (T : JT) (l : List Stp) (y : V) (e : Ending) (w' : World) : Prop :=
  (∃ T' u' S', e = .returned (.bool true) ∧ UpdK k T l y T' ∧ TurnS b0 o0 S0 w w' ∧ TAt w' b0 o0 u' ∧ IsTS w' lo S' u' T' ∧ S'.Nodup ∧ (∀ x ∈ S', x ∈ S0 ∨ w.heap.size ≤ x)) ∨
  (e = .returned (.bool false) ∧ (∀ T', ¬ UpdK k T l y T') ∧ Below w.heap.size w w')

theorem changeS_end {k : Int} {w wc w' : World} {b0 o0 lo : Nat} {T0 : JT} {S0 : List Nat} {d : List Stp} {b o : Nat} {Sa St Sb : List Nat} {u : TV} {t : JT} {s : Stp} {y : V} {e : Ending} (h : HoleS w b0 o0 lo T0 S0 d b o Sa St Sb u t []) (hc : Below w.heap.size w wc) (hbw : b0 < w.heap.size) (hlow : ∀ k ∈ S0, k < w.heap.size)
    (hs : PlaceP k wc b o lo St t s y e w') : ChgS k w b0 o0 lo S0 T0 (d ++ [s]) y e w' := by
  have hd : getT T0 d = some t := by rw [h.getT, getT]
  have hz := hc.size
  rcases hs with ⟨t', u', St', q1, rfl, q3, q4, q5, q6, q7⟩ | ⟨q1, rfl, q3⟩
  · have hset := h.sets
    have hnd := h.nodup
    rw [hset] at hnd
    have n1 := List.nodup_append.1 hnd
    have n2 := List.nodup_append.1 n1.2.1
    have hbl : b < w.heap.size := h.at'.1
    have hz2 := q3.size
    have hb0S : b0 ∉ S0 := h.out
    have inA : ∀ k ∈ Sa, k ∈ S0 := fun k hk => by rw [hset]; simp [hk]
    have inT : ∀ k ∈ St, k ∈ S0 := fun k hk => by rw [hset]; simp [hk]
    have inB : ∀ k ∈ Sb, k ∈ S0 := fun k hk => by rw [hset]; simp [hk]
    have aT : ∀ k ∈ Sa, k ∉ St := fun k hk h2 => n1.2.2 k hk k (List.mem_append_left _ h2) rfl
    have bT : ∀ k ∈ Sb, k ∉ St := fun k hk h2 => n2.2.2 k h2 k hk rfl
    have hblk : ∀ k, k < w.heap.size → k ∉ St → k ≠ b → w'.heap[k]? = w.heap[k]? := fun k k1 k2 k3 => (q3.block k (by omega) k2 k3).trans (hc.block k k1)
    obtain ⟨d', u2, e1, e2, e3, e4⟩ := h.back w' t' St' u' (by omega) (fun k k1 k2 => by
        rcases k1 with k1 | k1 | k1
        · exact hblk k (hlow k (inA k k1)) (aT k k1) k2
        · exact hblk k (hlow k (inB k k1)) (bT k k1) k2
        · exact hblk k (by omega) (fun h9 => hb0S (inT b0 (k1 ▸ h9))) k2) (fun c hcc => (q3.cell c hcc).trans (hc.cell (p := ⟨b, c, none⟩) hbl)) (fun ty cur h9 => q3.shape ty cur ((hc.block b hbl).trans h9)) q4 q5
    rw [List.append_nil] at e1
    subst e1
    have hpl := h.place
    have fresh : ∀ x ∈ St', ∀ z ∈ S0, z ∉ St → x ≠ z := fun x hx z hz1 hz3 e9 => by
      rcases q7 x hx with h9 | h9
      · exact hz3 (e9 ▸ h9)
      · have := hlow z hz1
        omega
    refine Or.inl ⟨_, u2, Sa ++ (St' ++ Sb), rfl, updk_rep d T0 hd q1, ⟨q3.os.trans hc.os, q3.tape.trans hc.tape, q3.output.trans hc.output, by omega, fun k k1 k2 k3 => hblk k k1 (fun h9 => k2 (inT k h9)) (fun e9 => ?_), fun c hcc => ?_, fun ty cur h9 => ?_⟩, e3, e4, ?_, fun x hx => ?_⟩
    · rcases hpl with ⟨e5, _⟩ | e5
      · exact k3 (e9.trans e5)
      · exact k2 (e9 ▸ inA b e5)
    · rcases hpl with ⟨e5, e6⟩ | e5
      · subst e5 e6
        exact (q3.cell c hcc).trans (hc.cell (p := ⟨b, c, none⟩) hbl)
      · exact World.cell?_of_block (w := w) (hblk b0 hbw (fun h9 => hb0S (inT b0 h9)) (fun e9 => hb0S (e9 ▸ inA b e5)))
    · rcases hpl with ⟨e5, e6⟩ | e5
      · subst e5 e6
        exact q3.shape ty cur ((hc.block b hbl).trans h9)
      · exact ⟨cur, (hblk b0 hbw (fun h9 => hb0S (inT b0 h9)) (fun e9 => hb0S (e9 ▸ inA b e5))).trans h9, rfl⟩
    · refine List.nodup_append.2 ⟨n1.1, List.nodup_append.2 ⟨q6, n2.2.1, fun x hx z hz1 => fresh x hx z (inB z hz1) (bT z hz1)⟩, fun x hx z hz1 => ?_⟩
      rcases List.mem_append.1 hz1 with h9 | h9
      · exact fun e9 => fresh z h9 x (inA x hx) (aT x hx) e9.symm
      · exact n1.2.2 x hx z (List.mem_append_right _ h9)
    · simp only [List.mem_append] at hx
      rcases hx with hx | hx | hx
      · exact Or.inl (inA x hx)
      · rcases q7 x hx with h9 | h9
        · exact Or.inl (inT x h9)
        · exact Or.inr (by omega)
      · exact Or.inl (inB x hx)
  · refine Or.inr ⟨rfl, fun T' hT' => ?_, hc.trans (q3.mono hz)⟩
    obtain ⟨t1, t2, g1, g2⟩ := updk_split d T0 T' hT'
    rw [hd] at g1
    obtain rfl := Option.some.inj g1
    exact q1 _ g2
end Go.Proofs.YtegbjkjeoegfbaaDoor
