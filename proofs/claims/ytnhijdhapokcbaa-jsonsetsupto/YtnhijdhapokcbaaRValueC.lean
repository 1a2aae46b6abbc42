/-
  What is proved: the function Value of package bookref1, called with whatever fields, tells just as package value's Check whether it is a value; and nothing that was there has turned.
  Conditions: none.
-/
import Derived.Test.YtnhijdhapokcbaaCheckA
import Derived.Test.YtnhijdhapokcbaaToldC
namespace Go.Proofs.Ytnhijdhapokcbaa
open Go.RowKit Go.Sort

theorem bcell {W w1 : World} (hb : Below W.heap.size W w1) : (∀ b o, b < W.heap.size → w1.cell? ⟨b, o, none⟩ = W.cell? ⟨b, o, none⟩) ∧ (∀ b o, b < W.heap.size → w1.frozen? ⟨b, o, none⟩ = W.frozen? ⟨b, o, none⟩) :=
  ⟨fun b o h => hb.cell (p := ⟨b, o, none⟩) h, fun b o h => hb.frozen (p := ⟨b, o, none⟩) h⟩

theorem one_box {w w1 : World} {c0 c1 : Value} (hb : Below (w.alloc (.cells #[c0, c1] 23)).heap.size (w.alloc (.cells #[c0, c1] 23)) w1) :
    w1.cell? ⟨w.heap.size, 0, none⟩ = some c0 ∧ w1.cell? ⟨w.heap.size, 1, none⟩ = some c1 ∧ Below w.heap.size w w1 ∧ w.heap.size < w1.heap.size := by
  obtain ⟨hc, _⟩ := bcell hb
  refine ⟨by rw [hc _ _ (by simp)]; simp, by rw [hc _ _ (by simp)]; simp, ((Below.refl _ _).alloc (Nat.le_refl _) _).trans (hb.mono (by simp)), ?_⟩
  have := hb.size
  simp at this
  omega

/-- A value's text is empty; its object is the root. -/
def teB (v : V) : Bool := v.t.toList.isEmpty
def roB (v : V) : Bool := decide (v.o = 0 ∧ v.a = 0)

/-- As bookref1 tells it. -/
def okR (v : V) : Bool :=
  if v.k = 0 then teB v && roB v && decide (v.n = 0)
  else if v.k = 1 then teB v && roB v && (decide (v.n = 0) || decide (v.n = 1))
  else if v.k = 2 ∨ v.k = 4 then teB v && roB v
  else if v.k = 3 then decide (v.n = 0) && roB v && decide ((v.t.size : Int) ≤ 60)
  else if v.k = 5 ∨ v.k = 6 then decide (v.n = 0) && teB v && idOkB v.o v.a
  else false

theorem okR_eq (v : V) : okB v = okR v := by
  obtain ⟨k, n, t, o, a⟩ := v
  have hb : (o == 0 && a == 0) = decide (o = 0 ∧ a = 0) := by
    by_cases h1 : o = 0 <;> by_cases h2 : a = 0 <;> simp [h1, h2]
  have hn : (n == 0) = decide (n = 0) := by by_cases h : n = 0 <;> simp [h]
  unfold okB okR usedB onlyV sameB teB roB
  dsimp only
  by_cases h0 : k = 0
  · subst h0
    simp [hb, hn, Bool.and_comm, Bool.and_left_comm]
  by_cases h1 : k = 1
  · subst h1
    simp [hb, Bool.and_comm, Bool.and_assoc]
  by_cases h2 : k = 2
  · subst h2
    simp [hb]
  by_cases h4 : k = 4
  · subst h4
    simp [hb]
  by_cases h3 : k = 3
  · subst h3
    simp [hb, hn, Bool.and_comm, Bool.and_assoc]
  by_cases h5 : k = 5
  · subst h5
    simp [hn, Bool.and_comm, Bool.and_assoc]
  by_cases h6 : k = 6
  · subst h6
    simp [hn, Bool.and_comm, Bool.and_assoc]
  simp [h0, h1, h2, h3, h4, h5, h6]

theorem five5 {w w1 : World} {c0 c1 c2 c3 c4 : Value} (hb : Below (w.alloc (.cells #[c0, c1, c2, c3, c4] 25)).heap.size (w.alloc (.cells #[c0, c1, c2, c3, c4] 25)) w1) :
    w1.cell? ⟨w.heap.size, 0, none⟩ = some c0 ∧ w1.cell? ⟨w.heap.size, 1, none⟩ = some c1 ∧ w1.cell? ⟨w.heap.size, 2, none⟩ = some c2 ∧ w1.cell? ⟨w.heap.size, 3, none⟩ = some c3 ∧ w1.cell? ⟨w.heap.size, 4, none⟩ = some c4 := by
  obtain ⟨hc, _⟩ := bcell hb
  refine ⟨?_, ?_, ?_, ?_, ?_⟩ <;> (rw [hc _ _ (by simp)]; simp)

theorem one_boxV {w w1 : World} {o : Obj} (hb : Below (w.alloc o).heap.size (w.alloc o) w1) : Below w.heap.size w w1 := ((Below.refl _ _).alloc (Nat.le_refl _) _).trans (hb.mono (by simp))

end Go.Proofs.Ytnhijdhapokcbaa
