/-
  What is proved: the function follow of package json, called with the place of a tree whose rows are its own and a path, answers the place of the tree at the path's end, with its blocks, or that there is none. what becomes of a whole tree, whose rows lie in blocks apart, when a patch's step was done at a place in it. the function change of package json, called with the place of a tree whose rows lie in blocks apart and a patch of a kind that there is, does what the patch says at the end of its path, or says that there is no such place. what IndexFunc and ContainsFunc of package slices answer of a path, whatever function without variables of its own is handed to them; and isPatch of package json.
  Conditions: as each theorem says.
-/
import Derived.Test.YtnmdhbejjjmdeaaGreatDoorP15
import Derived.Test.YtnmdhbejjjmdeaaGreatDoorP17
namespace Go.Proofs.YtnmdhbejjjmdeaaGreatDoor
open Go.RowKit Go.Sort

/-- What follow answers. -/
def FollowS (w : World) (b0 o0 lo : Nat) (T : JT) (S0 : List Nat) (l : List Stp) (e : Ending) : Prop :=
  (∃ t b o sa st sb u, e = .returned (.pointer (some ⟨b, o, none⟩)) ∧ formedB t = true ∧ HoleS w b0 o0 lo T S0 l b o sa st sb u t []) ∨ (getT T l = none ∧ e = .returned (.pointer none))

end Go.Proofs.YtnmdhbejjjmdeaaGreatDoor

namespace Go.Proofs.YtnmdhbejjjmdeaaGreatDoor
open Go.RowKit Go.Sort

theorem mem_sizes {t : JT} : ∀ {l : List JT}, t ∈ l → t.size ≤ sizes l
  | [], h => by cases h
  | a :: r, h => by
    rw [sizes]
    rcases List.mem_cons.1 h with e | e
    · rw [e]; omega
    · have := mem_sizes e
      omega
theorem getT_size : ∀ (l : List Stp) {T t : JT}, getT T l = some t → t.size ≤ T.size
  | [], T, t, h => by
    rw [getT] at h
    rw [Option.some.inj h]
    exact Nat.le_refl _
  | s :: r, T, t, h => by
    rw [getT] at h
    obtain ⟨u, h1, h2⟩ := Option.bind_eq_some_iff.1 h
    unfold step1 at h1
    obtain ⟨i, _, h4⟩ := Option.bind_eq_some_iff.1 h1
    have h5 := mem_sizes (List.mem_of_getElem? h4)
    have h6 := getT_size r h2
    have h7 := size_eq T
    omega
/-- What change leaves. -/
def ChgS (k : Int) (w : World) (b0 o0 lo : Nat) (S0 : List Nat) (T : JT) (l : List Stp) (y : V) (e : Ending) (w' : World) : Prop :=
  (∃ T' u' S', e = .returned (.bool true) ∧ UpdK k T l y T' ∧ TurnS b0 o0 S0 w w' ∧ TAt w' b0 o0 u' ∧ IsTS w' lo S' u' T' ∧ S'.Nodup ∧ (∀ x ∈ S', x ∈ S0 ∨ w.heap.size ≤ x)) ∨
  (e = .returned (.bool false) ∧ (∀ T', ¬ UpdK k T l y T') ∧ Below w.heap.size w w')

theorem changeS_end {k : Int} {w wc w' : World} {b0 o0 lo : Nat} {T0 : JT} {S0 : List Nat} {d : List Stp} {b o : Nat} {Sa St Sb : List Nat} {u : TV} {t : JT} {s : Stp} {y : V} {e : Ending} (h : HoleS w b0 o0 lo T0 S0 d b o Sa St Sb u t []) (hc : Below w.heap.size w wc) (hbw : b0 < w.heap.size) (hlow : ∀ k ∈ S0, k < w.heap.size)
    (hs : PlaceP k wc b o lo St t s y e w') : ChgS k w b0 o0 lo S0 T0 (d ++ [s]) y e w' := by
  have hd : getT T0 d = some t := by rw [h.getT, getT]
  have hz := hc.size
  rcases hs with ⟨t', u', St', q1, rfl, q3, q4, q5, q6, q7⟩ | ⟨q1, rfl, q3⟩
  · have hset := h.sets
    have hnd := h.nodup
    rw [hset] at hnd
    have n1 := List.nodup_append.1 hnd
    have n2 := List.nodup_append.1 n1.2.1
    have hbl : b < w.heap.size := h.at'.1
    have hz2 := q3.size
    have hb0S : b0 ∉ S0 := h.out
    have inA : ∀ k ∈ Sa, k ∈ S0 := fun k hk => by rw [hset]; simp [hk]
    have inT : ∀ k ∈ St, k ∈ S0 := fun k hk => by rw [hset]; simp [hk]
    have inB : ∀ k ∈ Sb, k ∈ S0 := fun k hk => by rw [hset]; simp [hk]
    have aT : ∀ k ∈ Sa, k ∉ St := fun k hk h2 => n1.2.2 k hk k (List.mem_append_left _ h2) rfl
    have bT : ∀ k ∈ Sb, k ∉ St := fun k hk h2 => n2.2.2 k h2 k hk rfl
    have hblk : ∀ k, k < w.heap.size → k ∉ St → k ≠ b → w'.heap[k]? = w.heap[k]? := fun k k1 k2 k3 => (q3.block k (by omega) k2 k3).trans (hc.block k k1)
    obtain ⟨d', u2, e1, e2, e3, e4⟩ := h.back w' t' St' u' (by omega) (fun k k1 k2 => by
        rcases k1 with k1 | k1 | k1
        · exact hblk k (hlow k (inA k k1)) (aT k k1) k2
        · exact hblk k (hlow k (inB k k1)) (bT k k1) k2
        · exact hblk k (by omega) (fun h9 => hb0S (inT b0 (k1 ▸ h9))) k2) (fun c hcc => (q3.cell c hcc).trans (hc.cell (p := ⟨b, c, none⟩) hbl)) (fun ty cur h9 => q3.shape ty cur ((hc.block b hbl).trans h9)) q4 q5
    rw [List.append_nil] at e1
    subst e1
    have hpl := h.place
    have fresh : ∀ x ∈ St', ∀ z ∈ S0, z ∉ St → x ≠ z := fun x hx z hz1 hz3 e9 => by
      rcases q7 x hx with h9 | h9
      · exact hz3 (e9 ▸ h9)
      · have := hlow z hz1
        omega
    refine Or.inl ⟨_, u2, Sa ++ (St' ++ Sb), rfl, updk_rep d T0 hd q1, ⟨q3.os.trans hc.os, q3.tape.trans hc.tape, q3.output.trans hc.output, by omega, fun k k1 k2 k3 => hblk k k1 (fun h9 => k2 (inT k h9)) (fun e9 => ?_), fun c hcc => ?_, fun ty cur h9 => ?_⟩, e3, e4, ?_, fun x hx => ?_⟩
    · rcases hpl with ⟨e5, _⟩ | e5
      · exact k3 (e9.trans e5)
      · exact k2 (e9 ▸ inA b e5)
    · rcases hpl with ⟨e5, e6⟩ | e5
      · subst e5 e6
        exact (q3.cell c hcc).trans (hc.cell (p := ⟨b, c, none⟩) hbl)
      · exact World.cell?_of_block (w := w) (hblk b0 hbw (fun h9 => hb0S (inT b0 h9)) (fun e9 => hb0S (e9 ▸ inA b e5)))
    · rcases hpl with ⟨e5, e6⟩ | e5
      · subst e5 e6
        exact q3.shape ty cur ((hc.block b hbl).trans h9)
      · exact ⟨cur, (hblk b0 hbw (fun h9 => hb0S (inT b0 h9)) (fun e9 => hb0S (e9 ▸ inA b e5))).trans h9, rfl⟩
    · refine List.nodup_append.2 ⟨n1.1, List.nodup_append.2 ⟨q6, n2.2.1, fun x hx z hz1 => fresh x hx z (inB z hz1) (bT z hz1)⟩, fun x hx z hz1 => ?_⟩
      rcases List.mem_append.1 hz1 with h9 | h9
      · exact fun e9 => fresh z h9 x (inA x hx) (aT x hx) e9.symm
      · exact n1.2.2 x hx z (List.mem_append_right _ h9)
    · simp only [List.mem_append] at hx
      rcases hx with hx | hx | hx
      · exact Or.inl (inA x hx)
      · rcases q7 x hx with h9 | h9
        · exact Or.inl (inT x h9)
        · exact Or.inr (by omega)
      · exact Or.inl (inB x hx)
  · refine Or.inr ⟨rfl, fun T' hT' => ?_, hc.trans (q3.mono hz)⟩
    obtain ⟨t1, t2, g1, g2⟩ := updk_split d T0 T' hT'
    rw [hd] at g1
    obtain rfl := Option.some.inj g1
    exact q1 _ g2
end Go.Proofs.YtnmdhbejjjmdeaaGreatDoor

namespace Go.Proofs.YtnmdhbejjjmdeaaGreatDoor
open Go.RowKit Go.Sort

theorem keep8b {W W' : World} {p0 p1 p2 p3 p4 p5 p6 p7 : Addr} {v0 v1 v2 v3 v4 v5 v6 v7 : Value} (h : W.cell? p0 = some v0 ∧ W.cell? p1 = some v1 ∧ W.cell? p2 = some v2 ∧ W.cell? p3 = some v3 ∧ W.cell? p4 = some v4 ∧ W.cell? p5 = some v5 ∧ W.cell? p6 = some v6 ∧ W.cell? p7 = some v7) (hne : W'.heap[p0.block]? = W.heap[p0.block]? ∧ W'.heap[p1.block]? = W.heap[p1.block]? ∧ W'.heap[p2.block]? = W.heap[p2.block]? ∧ W'.heap[p3.block]? = W.heap[p3.block]? ∧ W'.heap[p4.block]? = W.heap[p4.block]? ∧ W'.heap[p5.block]? = W.heap[p5.block]? ∧ W'.heap[p6.block]? = W.heap[p6.block]? ∧ W'.heap[p7.block]? = W.heap[p7.block]?) : W'.cell? p0 = some v0 ∧ W'.cell? p1 = some v1 ∧ W'.cell? p2 = some v2 ∧ W'.cell? p3 = some v3 ∧ W'.cell? p4 = some v4 ∧ W'.cell? p5 = some v5 ∧ W'.cell? p6 = some v6 ∧ W'.cell? p7 = some v7 := by
  obtain ⟨h0, h1, h2, h3, h4, h5, h6, h7⟩ := h
  obtain ⟨q0, q1, q2, q3, q4, q5, q6, q7⟩ := hne
  exact ⟨(World.cell?_of_block q0).trans h0, (World.cell?_of_block q1).trans h1, (World.cell?_of_block q2).trans h2, (World.cell?_of_block q3).trans h3, (World.cell?_of_block q4).trans h4, (World.cell?_of_block q5).trans h5, (World.cell?_of_block q6).trans h6, (World.cell?_of_block q7).trans h7⟩
theorem IsSteps.init {w : World} {a : Option Addr} {n c : Nat} {l : List Stp} (h : IsSteps w (.slice a n c) l) (m : Nat) (hm : m ≤ l.length) : IsSteps w (.slice a m c) (l.take m) := by
  obtain ⟨a', c', e, h1, h2, h3⟩ := h
  obtain ⟨rfl, rfl, rfl⟩ := Value.slice.inj e
  have hl : (l.take m).length = m := by rw [List.length_take]; omega
  refine ⟨a, c, by rw [hl], by omega, by omega, fun hne => ?_⟩
  have hl0 : l ≠ [] := fun e => hne (by rw [e]; simp)
  obtain ⟨b, off, e1, h4, h5⟩ := h3 hl0
  exact ⟨b, off, e1, h4, fun i hi => by
    rw [hl] at hi
    have := h5 i (by omega)
    simpa using this⟩
/-- A patch. -/
abbrev pchK (k : Int) (p : Value) (y : V) : Value := .agg #[.int .i64 k, p, .int .i64 y.k, .int .i64 y.n, .string y.t, .int .i64 y.o, .int .i64 y.a]

end Go.Proofs.YtnmdhbejjjmdeaaGreatDoor

namespace Go.Proofs.YtnmdhbejjjmdeaaGreatDoor
open Go.RowKit Go.Maps

/-- The first index of which something holds; -1, if there is none. -/
def idxQ (p : Stp → Bool) : List Stp → Int
  | [] => -1
  | x :: l => if p x then 0 else if idxQ p l = -1 then -1 else idxQ p l + 1

/-- A function that answers of each step, and turns nothing that was there. -/
def PredQ (f : FuncId) (lb : Array Value) (p : Stp → Bool) (l : List Stp) (w : World) : Prop :=
  ∀ r ∈ l, ∀ W, Below w.heap.size w W → Calls Tryz.prog f (#[stpV r] ++ lb) W fun e W' => e = .returned (.bool (p r)) ∧ Below W.heap.size W W'

theorem idxQ_range (p : Stp → Bool) (l : List Stp) : -1 ≤ idxQ p l ∧ idxQ p l < l.length := by
  induction l with
  | nil => simp [idxQ]
  | cons x l ih =>
    simp only [idxQ, List.length_cons]
    split
    · omega
    · split <;> omega
theorem idxQ_none {p : Stp → Bool} {l : List Stp} : idxQ p l = -1 ↔ ∀ x ∈ l, p x = false := by
  induction l with
  | nil => simp [idxQ]
  | cons x l ih =>
    have h1 := idxQ_range p l
    simp only [idxQ]
    split
    · rename_i h; simp [h]
    · rename_i h
      split
      · rename_i e
        simp only [List.mem_cons, forall_eq_or_imp, true_iff]
        exact ⟨by simpa using h, ih.1 e⟩
      · rename_i e
        simp only [List.mem_cons, forall_eq_or_imp]
        refine ⟨fun e2 => by omega, fun e2 => absurd (ih.2 e2.2) e⟩
theorem idxQ_at (p : Stp → Bool) (l : List Stp) (k : Nat) (hk : k < l.length) (hno : ∀ j (hj : j < k), p (l[j]'(by omega)) = false) (hy : p l[k] = true) : idxQ p l = k := by
  induction l generalizing k with
  | nil => simp at hk
  | cons x l ih =>
    cases k with
    | zero => simp only [List.getElem_cons_zero] at hy; simp [idxQ, hy]
    | succ k =>
      have h0 := hno 0 (by omega)
      simp only [List.getElem_cons_zero] at h0
      have := ih k (by simpa using hk) (fun j hj => by have := hno (j + 1) (by omega); simpa using this) (by simpa using hy)
      simp only [idxQ, h0]
      rw [this]
      rw [if_neg (by simp), if_neg (by omega)]
      omega

/-- Is a step's key too long? -/
def longB (s : Stp) : Bool := decide (20 < s.1.size)
/-- Is a patch one that may be done? -/
def patK (k : Int) (l : List Stp) (y : V) : Bool := decide (1 ≤ k ∧ k ≤ 3) && (valB y && !l.any longB)
end Go.Proofs.YtnmdhbejjjmdeaaGreatDoor
