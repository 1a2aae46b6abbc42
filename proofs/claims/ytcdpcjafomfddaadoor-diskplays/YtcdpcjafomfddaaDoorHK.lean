/-
  What is proved: the steps of a region that draws its order, in shorter words.
  Conditions: none.
-/
import Derived.Test.YtcdpcjafomfddaaDoorProg
import Derived.Deep.RegionHeld3
import Derived.Handy
namespace Go.Proofs.YtcdpcjafomfddaaDoor
open Go

section
variable {P : Program} {ops : Array Oper} {Q : Exit → Act → World → Prop} {md : Region.Mode} {S : World → Prop}
abbrev aD (n : Nat) : Edge := { on := n, ground := Ground.data }
abbrev aP (n : Nat) : Edge := { on := n, ground := Ground.phase }
abbrev aC (n : Nat) : Edge := { on := n, ground := Ground.chain }
abbrev aG (n : Nat) : Edge := { on := n, ground := Ground.guard }
def nth {α : Type} : List α → Nat → Option α
  | [], _ => none
  | x :: _, 0 => some x
  | _ :: l, n + 1 => nth l n
theorem nth_eq {α : Type} : ∀ (l : List α) (i : Nat), nth l i = l[i]?
  | [], _ => by simp [nth]
  | _ :: _, 0 => by simp [nth]
  | _ :: l, n + 1 => by simp [nth, nth_eq l n]
theorem nm {α : Type} : (∀ (l : List α) (i : Nat) (a : α), l.toArray.setIfInBounds i a = (l.set i a).toArray) ∧ (∀ (x : α) (l : List α) (a : α), (x :: l).set 0 a = a :: l) ∧ (∀ (x : α) (l : List α) (i : Nat) (a : α), (x :: l).set (i + 1) a = x :: l.set i a) :=
  ⟨fun _ _ _ => List.setIfInBounds_toArray .., fun _ _ _ => rfl, fun _ _ _ _ => rfl⟩
/-- One that reads is taken first. -/
theorem tk (i : Nat) {oi : Oper} {v : Value} {fuel : Nat} {listed l' : Array Bool} {a a' : Act} {w : World} (hi : nth ops.toList i = some oi)
    (h : wpAnyH P md ops Q S fuel l' a' w) (hy : ∀ w, S w → (execOp a.eval oi).run P w = .ok (.value v) w := by intro wz hSw; (try dsimp only at hSw); go_simp; try with_reducible rfl)
    (ha : a.put oi.dst v = a' := by first | (simp only [Act.put, nm]; done) | (simp only [Act.put, nm]; rfl) | rfl) (hl : listed.setIfInBounds i true = l' := by first | (simp only [nm]; done) | (simp only [nm]; rfl) | rfl)
    (hs : Region.noSelect ops = true := by kernel_rfl) (hf : Region.free md ops listed i = true := by kernel_rfl) (hr : (Region.ready md ops listed).contains i = true := by kernel_rfl)
    (hQ : ∀ c a w, Q (.panic c) (a.put oi.dst v) w → Q (.panic c) a w := by exact fun _ _ _ h => h) (hw : Region.wanted oi (yielded ops a.tmps) = true := by rfl) (hS : S w := by assumption) : wpAnyH P md ops Q S (fuel + 1) listed a w := by
  subst ha hl
  exact wpAnyH_take (by rw [← Array.getElem?_toList, ← nth_eq]; exact hi) hs hf hr hQ (Or.inl ⟨hw, hy⟩) hS h
/-- One that its guard leaves out. -/
theorem sk (i : Nat) {oi : Oper} {fuel : Nat} {listed l' : Array Bool} {a a' : Act} {w : World} (hi : nth ops.toList i = some oi)
    (h : wpAnyH P md ops Q S fuel l' a' w)
    (ha : a.put oi.dst undef = a' := by first | (simp only [Act.put, nm]; done) | (simp only [Act.put, nm]; rfl) | rfl) (hl : listed.setIfInBounds i true = l' := by first | (simp only [nm]; done) | (simp only [nm]; rfl) | rfl)
    (hs : Region.noSelect ops = true := by kernel_rfl) (hf : Region.free md ops listed i = true := by kernel_rfl) (hr : (Region.ready md ops listed).contains i = true := by kernel_rfl)
    (hQ : ∀ c a w, Q (.panic c) (a.put oi.dst undef) w → Q (.panic c) a w := by exact fun _ _ _ h => h) (hw : Region.wanted oi (yielded ops a.tmps) = false := by rfl) (hS : S w := by assumption) : wpAnyH P md ops Q S (fuel + 1) listed a w := by
  subst ha hl
  exact wpAnyH_take (by rw [← Array.getElem?_toList, ← nth_eq]; exact hi) hs hf hr hQ (Or.inr ⟨hw, rfl⟩) hS h
theorem nm1 {α : Type} (l : List α) (i : Nat) (a : α) : l.toArray.setIfInBounds i a = (l.set i a).toArray := List.setIfInBounds_toArray ..
theorem nm2 {α : Type} (x : α) (l : List α) (a : α) : (x :: l).set 0 a = a :: l := rfl
theorem nm3 {α : Type} (x : α) (l : List α) (i : Nat) (a : α) : (x :: l).set (i + 1) a = x :: l.set i a := rfl
end
end Go.Proofs.YtcdpcjafomfddaaDoor
