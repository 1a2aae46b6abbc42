/-
  What is proved: books that lie in memory with the changes that they have: what stays while their maps turn.
  Conditions: as each theorem says.
-/
import Derived.Test.YtbjnemmghpmjjaaDSort
import Derived.Test.YtbjnemmghpmjjaaDCopy3
import Derived.Test.YtbjnemmghpmjjaaDLook
namespace Go.Proofs.Ytbjnemmghpmjjaa
open Go.RowKit Go.Maps

/-- Blocks that have no cells. -/
def NoCells (w : World) (S : List Nat) : Prop := ∀ b ∈ S, ∀ o, w.cell? ⟨b, o, none⟩ = none

theorem noCells_map {w : World} {b : Nat} {L : List (Pr × Value)} (h : MapL w b L) : NoCells w [b] := fun x hx o => by
  obtain ⟨D, ⟨es, clock, hb, _⟩, _⟩ := h.own
  rw [List.mem_singleton.1 hx]
  simp [World.cell?, hb]

theorem Kp.cell {S : List Nat} {w w' : World} (k : Kp S w w') {p : Addr} (hp : p.block < w.heap.size) (hS : p.block ∉ S) : w'.cell? p = w.cell? p := by
  unfold World.cell?
  rw [k.block _ hp hS]

theorem IsPairs.keep {S : List Nat} {w w' : World} {v : Value} {p : List Pr} (h : IsPairs w v p) (k : Kp S w w') (hn : NoCells w S) : IsPairs w' v p := by
  obtain ⟨a, cap, rfl, h1, h2, hr, h3⟩ := h
  refine ⟨a, cap, rfl, h1, h2, hr, fun hl => ?_⟩
  obtain ⟨b, off, rfl, h4, h5⟩ := h3 hl
  have hS : b ∉ S := fun e => by
    have h0 := (h5 0 (by cases p with | nil => exact absurd rfl hl | cons _ _ => simp)).1
    rw [hn b e] at h0
    cases h0
  exact ⟨b, off, rfl, Nat.lt_of_lt_of_le h4 k.size, fun i hi => ⟨by rw [k.cell (p := ⟨b, off + i * 2, none⟩) h4 hS]; exact (h5 i hi).1, by rw [k.cell (p := ⟨b, off + i * 2 + 1, none⟩) h4 hS]; exact (h5 i hi).2⟩⟩

theorem IsOps.keep {S : List Nat} {w w' : World} {v : Value} {l : List OV} (h : IsOps w v l) (k : Kp S w w') (hn : NoCells w S) : IsOps w' v l := by
  obtain ⟨a, cap, rfl, h1, h2, hr, h3⟩ := h
  refine ⟨a, cap, rfl, h1, h2, fun q hq => ⟨(hr q hq).1.keep k hn, (hr q hq).2⟩, fun hl => ?_⟩
  obtain ⟨b, off, rfl, h4, h5⟩ := h3 hl
  have hS : b ∉ S := fun e => by
    have h0 := h5 0 (by cases l with | nil => exact absurd rfl hl | cons _ _ => simp) 0 (by omega)
    rw [hn b e] at h0
    simp [opCells] at h0
  exact ⟨b, off, rfl, Nat.lt_of_lt_of_le h4 k.size, fun i hi j hj => by rw [k.cell (p := ⟨b, off + i * 13 + j, none⟩) h4 hS]; exact h5 i hi j hj⟩

theorem IsChgW.keep {S : List Nat} {w w' : World} {v : Value} {c : Chg} (h : IsChgW w v c) (k : Kp S w w') (hn : NoCells w S) : IsChgW w' v c := by
  obtain ⟨ud, uo, l, h1, h2, h3, h4, h5, h6⟩ := h
  exact ⟨ud, uo, l, h1, h2, h3.keep k hn, h4.keep k hn, h5, h6⟩
theorem IsChgW.below {w w' : World} {v : Value} {c : Chg} (h : IsChgW w v c) (hb : Below w.heap.size w w') : IsChgW w' v c := by
  obtain ⟨ud, uo, l, h1, h2, h3, h4, h5, h6⟩ := h
  exact ⟨ud, uo, l, h1, h2, h3.below hb, h4.below hb, h5, h6⟩
theorem IsChgW.cv {w : World} {v : Value} {c : Chg} (h : IsChgW w v c) : CV v := by
  obtain ⟨ud, uo, l, rfl, _, ⟨a, k, rfl, _⟩, ⟨a', k', rfl, _⟩, _⟩ := h
  exact ⟨_, _, _, _, _, _, _, _, _, rfl⟩

/-- A change's ref. -/
def Chg.ref (c : Chg) : Pr := (c.actor, c.seq)

theorem chkOps_every {l : List OpM} (h : chkOps l = 0) : ∀ o ∈ l, chkOp o = 0 := by
  induction l with
  | nil => simp
  | cons o r ih =>
    rw [chkOps] at h
    split at h
    · rename_i h0
      intro x hx
      rcases List.mem_cons.1 hx with rfl | hx
      · exact h0
      · exact ih h x hx
    · rename_i h0
      exact absurd h h0

theorem chk_few {c : Chg} (h : chk c = 0) : c.deps.length ≤ 12 ∧ c.ops.length ≤ 40 ∧ (∀ o ∈ c.ops, o.preds.length ≤ 12) ∧ (1 ≤ c.actor ∧ c.actor ≤ 99) ∧ (1 ≤ c.seq ∧ c.seq ≤ 1000000) ∧ (1 ≤ c.start ∧ c.start ≤ 1000000) := by
  unfold chk at h
  split at h
  · rename_i h0
    unfold chkHead at h0
    split at h0
    · rename_i h1
      simp only [fromB, Bool.and_eq_true, decide_eq_true_eq] at h1
      split at h0
      · cases h0
      · split at h0
        · split at h0
          · cases h0
          · refine ⟨by omega, by omega, fun o ho => ?_, by omega, by omega, by omega⟩
            have h2 := chkOps_every h o ho
            unfold chkOp at h2
            split at h2
            · cases h2
            · split at h2
              · cases h2
              · rename_i h3
                omega
        · rename_i h2
          exact absurd h0 h2
    · cases h0
  · rename_i h0
    exact absurd h h0

/-- A change with its value. -/
abbrev CE : Type := Chg × Value
/-- The entries of changes. -/
def ents (E : List CE) : List (Pr × Value) := E.map fun p => (p.1.ref, p.2)

theorem ents_len (E : List CE) : (ents E).length = E.length := by simp [ents]
theorem ents_keys (E : List CE) : (ents E).map (·.1) = E.map (·.1.ref) := by simp [ents, Function.comp_def]
theorem ents_append (E F : List CE) : ents (E ++ F) = ents E ++ ents F := by simp [ents]

/-- Each stands behind all that it hangs on. -/
def Clo (E : List CE) : Prop := ∀ pre p post, E = pre ++ p :: post → ∀ d ∈ p.1.deps, d ∈ pre.map (·.1.ref)

/-- A book that lies in memory, with its changes. -/
structure Bk (w : World) (g h q : Nat) (EH EW : List CE) : Prop where
  book : BookAt w g h q (ents EH) (ents EW)
  chgs : ∀ p ∈ EH ++ EW, IsChgW w p.2 p.1 ∧ chk p.1 = 0
  clo : Clo EH
  many : EH.length + EW.length ≤ 120
  dis : ∀ r ∈ EW.map (·.1.ref), r ∉ EH.map (·.1.ref)

theorem Bk.noCells {w : World} {g h q : Nat} {EH EW : List CE} (B : Bk w g h q EH EW) : NoCells w [h, q] := fun x hx o => by
  simp only [List.mem_cons, List.not_mem_nil, or_false] at hx
  rcases hx with rfl | rfl
  · exact noCells_map B.book.has _ (by simp) o
  · exact noCells_map B.book.wait _ (by simp) o

theorem Bk.below {w w' : World} {g h q : Nat} {EH EW : List CE} (B : Bk w g h q EH EW) (b : Below w.heap.size w w') : Bk w' g h q EH EW :=
  ⟨B.book.below b, fun p hp => ⟨(B.chgs p hp).1.below b, (B.chgs p hp).2⟩, B.clo, B.many, B.dis⟩

theorem Bk.cvH {w : World} {g h q : Nat} {EH EW : List CE} (B : Bk w g h q EH EW) : ∀ x ∈ ents EH, CV x.2 := fun x hx => by
  obtain ⟨p, hp, rfl⟩ := List.mem_map.1 hx
  exact (B.chgs p (List.mem_append_left _ hp)).1.cv
theorem Bk.cvW {w : World} {g h q : Nat} {EH EW : List CE} (B : Bk w g h q EH EW) : ∀ x ∈ ents EW, CV x.2 := fun x hx => by
  obtain ⟨p, hp, rfl⟩ := List.mem_map.1 hx
  exact (B.chgs p (List.mem_append_right _ hp)).1.cv

theorem clo_snoc {E : List CE} {p : CE} (hE : Clo E) (hp : ∀ d ∈ p.1.deps, d ∈ E.map (·.1.ref)) : Clo (E ++ [p]) := by
  intro pre x post he d hd
  rcases List.append_eq_append_iff.1 he with ⟨a, h1, h2⟩ | ⟨a, h1, h2⟩
  · cases a with
    | nil =>
      simp at h1 h2
      obtain ⟨rfl, _⟩ := h2
      subst h1
      exact hp d hd
    | cons y a =>
      simp at h2
  · cases a with
    | nil =>
      simp at h1 h2
      obtain ⟨rfl, _⟩ := h2
      subst h1
      exact hp d hd
    | cons y a =>
      simp at h2
      obtain ⟨rfl, _⟩ := h2
      exact hE pre x a h1 d hd

theorem clo_all {E : List CE} (hE : Clo E) : ∀ p ∈ E, ∀ d ∈ p.1.deps, d ∈ E.map (·.1.ref) := fun p hp d hd => by
  obtain ⟨pre, post, rfl⟩ := List.append_of_mem hp
  have := hE pre p post rfl d hd
  rw [List.map_append]
  exact List.mem_append_left _ this

theorem mem_keys {E : List CE} {r : Pr} : r ∈ E.map (·.1.ref) ↔ (lk (ents E) r).isSome = true := by
  rw [← ents_keys]
  cases h : lk (ents E) r with
  | none => simp only [Option.isSome_none]; have := lk_none.1 h; simp [this]
  | some v => simp only [Option.isSome_some, iff_true]; exact List.mem_map.2 ⟨_, lk_mem h, rfl⟩

/-- What a book has at a ref, with its change. -/
theorem lk_ents {E : List CE} {r : Pr} {v : Value} (h : lk (ents E) r = some v) : ∃ c, (c, v) ∈ E ∧ c.ref = r := by
  obtain ⟨p, hp, e⟩ := List.mem_map.1 (lk_mem h)
  simp at e
  exact ⟨p.1, by rw [← e.2]; exact hp, e.1⟩
end Go.Proofs.Ytbjnemmghpmjjaa
