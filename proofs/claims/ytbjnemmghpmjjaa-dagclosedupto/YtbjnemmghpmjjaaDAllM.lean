/-
  What is proved: the order in which package dag's All tells changes: there is always one that may be next; each stands behind all that it hangs on.
  Conditions: as each theorem says.
-/
import Derived.Test.YtbjnemmghpmjjaaDAll1
namespace Go.Proofs.Ytbjnemmghpmjjaa
open Go.RowKit Go.Maps

theorem idxP_true {p : Pr → Bool} {l : List Pr} {k : Nat} (h : idxP p l = k) : ∃ hk : k < l.length, p l[k] = true := by
  induction l generalizing k with
  | nil => simp [idxP] at h
  | cons x l ih =>
    simp only [idxP] at h
    split at h
    · rename_i hx
      have : k = 0 := by omega
      subst this
      exact ⟨by simp, by simpa using hx⟩
    · split at h
      · omega
      · cases k with
        | zero => have := idxP_range p l; omega
        | succ k =>
          obtain ⟨hk, hp⟩ := ih (k := k) (by omega)
          exact ⟨by simpa using hk, by simpa using hp⟩

theorem nextB_iff {EH : List CE} {D : List Pr} {r : Pr} : nextB EH D r = true ↔ ∀ d ∈ depE EH r, d ∈ D := by
  unfold nextB
  rw [Bool.not_eq_true', List.any_eq_false]
  constructor
  · intro h d hd
    have := h d hd
    simpa using this
  · intro h d hd
    simpa using h d hd

theorem perm_erase (l : List Pr) (i : Nat) (hi : i < l.length) : (l[i] :: l.eraseIdx i).Perm l := by
  induction l generalizing i with
  | nil => simp at hi
  | cons x l ih =>
    cases i with
    | zero => simp
    | succ i =>
      simp only [List.getElem_cons_succ, List.eraseIdx_cons_succ]
      exact (List.Perm.swap x _ _).trans ((ih i (by simpa using hi)).cons x)

/-- A step of the telling. -/
def ordStep (EH : List CE) (s : List Pr × List Pr) : List Pr × List Pr := (s.1 ++ [s.2.getD (idxP (nextB EH s.1) s.2).toNat (0, 0)], s.2.eraseIdx (idxP (nextB EH s.1) s.2).toNat)
/-- What is told, and what is left, after some steps. -/
def ordN (EH : List CE) (ts : List Pr) : Nat → List Pr × List Pr
  | 0 => ([], ts)
  | k + 1 => ordStep EH (ordN EH ts k)

structure OrdOk (EH : List CE) (D rest : List Pr) : Prop where
  perm : (D ++ rest).Perm (EH.map (·.1.ref))
  dep : ∀ pre r post, D = pre ++ r :: post → ∀ d ∈ depE EH r, d ∈ pre

theorem OrdOk.next {EH : List CE} {D rest : List Pr} (h : OrdOk EH D rest) (hc : Clo EH) (hr : rest ≠ []) :
    ∃ i : Nat, idxP (nextB EH D) rest = i ∧ ∃ hi : i < rest.length, nextB EH D rest[i] = true := by
  have hsome : ∃ r ∈ rest, nextB EH D r = true := by
    obtain ⟨x, hx⟩ : ∃ x, x ∈ rest := by cases rest with | nil => exact absurd rfl hr | cons x _ => exact ⟨x, by simp⟩
    have hxk : x ∈ EH.map (·.1.ref) := h.perm.mem_iff.1 (List.mem_append_right _ hx)
    obtain ⟨p0, hp0, e0⟩ := List.mem_map.1 hxk
    cases hf : EH.find? fun p => decide (p.1.ref ∈ rest) with
    | none =>
      have := List.find?_eq_none.1 hf p0 hp0
      simp [e0, hx] at this
    | some p =>
      obtain ⟨hp, pre, post, he, hpre⟩ := List.find?_eq_some_iff_append.1 hf
      have hpr : p.1.ref ∈ rest := by simpa using hp
      refine ⟨p.1.ref, hpr, ?_⟩
      have hd : depE EH p.1.ref = p.1.deps := by
        unfold depE
        have : (EH.find? fun y => y.1.ref == p.1.ref) = some p := by
          rw [List.find?_eq_some_iff_append]
          refine ⟨by simp, pre, post, he, fun y hy => ?_⟩
          have hy1 := hpre y hy
          simp at hy1 ⊢
          exact fun e => hy1 (by rw [e]; exact hpr)
        rw [this]; rfl
      rw [nextB_iff, hd]
      intro d hdd
      have h1 := hc pre p post he d hdd
      obtain ⟨y, hy, ey⟩ := List.mem_map.1 h1
      have h2 : d ∉ rest := fun e => by have := hpre y hy; simp [ey, e] at this
      have h3 : d ∈ EH.map (·.1.ref) := by rw [he, List.map_append]; exact List.mem_append_left _ h1
      rcases List.mem_append.1 (h.perm.mem_iff.2 h3) with e | e
      · exact e
      · exact absurd e h2
  obtain ⟨r, hr1, hr2⟩ := hsome
  have h1 := idxP_range (nextB EH D) rest
  have h2 : idxP (nextB EH D) rest ≠ -1 := fun e => by rw [idxP_none.1 e r hr1] at hr2; cases hr2
  refine ⟨(idxP (nextB EH D) rest).toNat, by omega, idxP_true (by omega)⟩

theorem OrdOk.step {EH : List CE} {D rest : List Pr} (h : OrdOk EH D rest) (i : Nat) (hi : i < rest.length) (hb : nextB EH D rest[i] = true) : OrdOk EH (D ++ [rest[i]]) (rest.eraseIdx i) := by
  refine ⟨?_, ?_⟩
  · rw [List.append_assoc]
    exact (List.Perm.append_left D (perm_erase rest i hi)).trans h.perm
  · intro pre r post he d hd
    rcases List.append_eq_append_iff.1 he with ⟨a, h1, h2⟩ | ⟨a, h1, h2⟩
    · cases a with
      | nil =>
        simp at h1 h2
        obtain ⟨rfl, _⟩ := h2
        subst h1
        exact nextB_iff.1 hb d hd
      | cons y a => simp at h2
    · cases a with
      | nil =>
        simp at h1 h2
        obtain ⟨rfl, _⟩ := h2
        subst h1
        exact nextB_iff.1 hb d hd
      | cons y a =>
        simp at h2
        obtain ⟨rfl, _⟩ := h2
        exact h.dep pre r a h1 d hd
end Go.Proofs.Ytbjnemmghpmjjaa
