/-
  What is proved: the function Get of package json, called with a tree and a path that lie in memory, answers a copy of the tree at the path's end, or which error there is.
  Conditions: both lie in memory.
-/
import Derived.Test.YtegbjkjeoegfbaaDoorJCopy
namespace Go.Proofs.YtegbjkjeoegfbaaDoor
open Go.RowKit Go.Sort

/-- The zero tree. -/
def zJ : JT := .node ⟨0, 0, ⟨#[]⟩, 0, 0⟩ [] []
/-- Which error there is. -/
def resE (T : JT) (l : List Stp) : Int := if chkT T = 0 then (if (getT T l).isSome = true then 0 else 6) else chkT T
/-- Which tree is answered. -/
def resT (T : JT) (l : List Stp) : JT := if chkT T = 0 then (getT T l).getD zJ else zJ
/-- An error. -/
def errV (e : Int) : Value := if e = 0 then .nilIface else .iface 59 (.int .i64 e)
theorem zJ_at (w : World) : IsT w zT zJ :=
  IsTG.mk ⟨0, 0, ⟨#[]⟩, 0, 0⟩ [] [] (.slice none 0 0) none 0 [] ⟨none, 0, rfl, ⟨Nat.le_refl _, fun _ => rfl⟩, Nat.zero_le _, fun h => absurd rfl h⟩ rfl ⟨Nat.le_refl _, fun _ => rfl⟩ (Nat.zero_le _) (fun h => absurd rfl h) (fun _ hi => absurd hi (Nat.not_lt_zero _))
theorem chkT_zero {T : JT} (h : chkT T = 0) : formedB T = true ∧ T.size ≤ 400 := by
  unfold chkT at h
  by_cases h1 : 400 < T.size
  · rw [if_pos h1] at h; omega
  · rw [if_neg h1] at h
    by_cases h2 : formedB T = true
    · exact ⟨h2, by omega⟩
    · rw [if_neg h2] at h; omega
theorem getT_ok {T t : JT} {l : List Stp} (h : getT T l = some t) (hf : formedB T = true) (hs : T.size ≤ 400) : formedB t = true ∧ t.size ≤ 400 := by
  induction l generalizing T with
  | nil => rw [getT] at h; obtain rfl := Option.some.inj h; exact ⟨hf, hs⟩
  | cons s r ih =>
    rw [getT] at h
    obtain ⟨u, h1, h2⟩ := Option.bind_eq_some_iff.1 h
    unfold step1 at h1
    obtain ⟨i, _, h4⟩ := Option.bind_eq_some_iff.1 h1
    have hm := List.mem_of_getElem? h4
    exact ih h2 ((formed_node hf).2 u hm) ((few_kids hf hs).2.2 u hm)
/-- What Get answers. -/
def GetJP (w : World) (T : JT) (l : List Stp) (e : Ending) : Prop := ∃ v, e = .returned (.tuple #[v, errV (resE T l)]) ∧ IsT w v (resT T l)

end Go.Proofs.YtegbjkjeoegfbaaDoor
