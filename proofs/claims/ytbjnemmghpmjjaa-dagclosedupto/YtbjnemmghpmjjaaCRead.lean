/-
  What is proved: the methods of package change's reader, called with any bytes, read as the mathematics says, and turn nothing but the reader.
  Conditions: the bytes lie in memory, and so does the reader.
-/
import Derived.Test.YtbjnemmghpmjjaaGCm
import Derived.Lib.BufferRead
namespace Go.Proofs.Ytbjnemmghpmjjaa
open Go.RowKit

/-- A slice value that is nil, or somewhere. -/
def Wh (v : Value) : Prop := v = .slice none 0 0 ∨ ∃ ad n c, v = .slice (some ad) n c

/-- The reader's box, set. -/
theorem set_box {w : World} {g : Nat} {a b : Value} {T : TypeId} (h : w.heap[g]? = some (.cells #[a, b] T)) (u : Value) : (w.setCell ⟨g, 0, none⟩ u).heap[g]? = some (.cells #[u, b] T) := by
  rw [heap_setCell_same w g 0 _ _ u h]
  rfl

theorem set_box1 {w : World} {g : Nat} {a b : Value} {T : TypeId} (h : w.heap[g]? = some (.cells #[a, b] T)) (u : Value) : (w.setCell ⟨g, 1, none⟩ u).heap[g]? = some (.cells #[a, u] T) := by
  rw [heap_setCell_same w g 1 _ _ u h]
  rfl

theorem set_at {w : World} {g : Nat} {cs : Array Value} {T : TypeId} (h : w.heap[g]? = some (.cells cs T)) (i : Nat) (u : Value) : (w.setCell ⟨g, i, none⟩ u).heap[g]? = some (.cells (cs.setIfInBounds i u) T) :=
  heap_setCell_same w g i _ _ u h

theorem Off.setNew {g b : Nat} {w w' : World} (h : Off g w w') (hb : w.heap.size ≤ b) (o : Nat) (v : Value) : Off g w (w'.setCell ⟨b, o, none⟩ v) := by
  have h1 : Below b w' (w'.setCell ⟨b, o, none⟩ v) := (Below.refl b w').setCell (Nat.le_refl _) v
  refine ⟨h1.os.trans h.os, h1.tape.trans h.tape, h1.output.trans h.output, Nat.le_trans h.size h1.size, fun k hk hg => ?_⟩
  rw [Below.heap_setCell _ _ _ _ (by simp; omega)]
  exact h.block k hk hg

/-- All but one block is as it was, seen from ahead of a new block. -/
theorem Off.ahead {g : Nat} {w w' : World} {o : Obj} (h : Off g (w.alloc o) w') : Off g w w' := (Off.of ((Below.refl _ w).alloc (Nat.le_refl _) o)).trans h

/-- A part of bytes, from a place on. -/
theorem bytes_from {w0 : World} {a : Option Addr} {l : List UInt8} {cap : Nat} (h : IsBytes w0 (.slice a l.length cap) l) (k : Nat) (hk : k ≤ l.length) (h1 : 1 ≤ l.length) :
    ∃ b off, a = some ⟨b, off, none⟩ ∧ (k < cap → IsBytes w0 (.slice (some ⟨b, off + k, none⟩) (l.length - k) (cap - k)) (l.drop k)) ∧ (¬ k < cap → IsBytes w0 (.slice (some ⟨b, off, none⟩) 0 0) (l.drop k) ∧ l.length - k = 0 ∧ cap - k = 0 ∧ k = cap) := by
  obtain ⟨a', cap', e, h2, h3, h4⟩ := id h
  injection e with e1 e2 e3
  subst e1 e3
  obtain ⟨b, off, rfl, _⟩ := h4 (fun e => by rw [e] at h1; simp at h1)
  refine ⟨b, off, rfl, fun _ => h.drop k hk, fun hc => ?_⟩
  have e : l.drop k = [] := List.drop_eq_nil_of_le (by omega)
  rw [e]
  exact ⟨isBytes_nil _ _ _, by omega, by omega, by omega⟩

/-- A part of bytes that are somewhere. -/
theorem bytes_from2 {w0 : World} {ad : Addr} {l : List UInt8} {cap : Nat} (h : IsBytes w0 (.slice (some ad) l.length cap) l) (k : Nat) (hk : k ≤ l.length) :
    (k < cap → IsBytes w0 (.slice (some (ad.add k)) (l.length - k) (cap - k)) (l.drop k)) ∧ (¬ k < cap → IsBytes w0 (.slice (some ad) 0 0) (l.drop k) ∧ l.length - k = 0 ∧ cap - k = 0 ∧ k = cap) ∧ (∀ w, Below w0.heap.size w0 w → ∀ t (ht : t < (l.take k).length), w.cell? (ad.add t) = some (.int .u8 (l.take k)[t].toNat)) := by
  obtain ⟨a', cap', e, h2, h3, h4⟩ := id h
  injection e with e1 e2 e3
  subst e1 e3
  refine ⟨fun hc => ?_, fun hc => ?_, fun w hw t ht => ?_⟩
  · by_cases h0 : l = []
    · subst h0
      simp only [List.length_nil, List.drop_nil, Nat.zero_sub]
      exact isBytes_nil _ _ _
    · obtain ⟨b, off, e, _⟩ := h4 h0
      obtain rfl : ad = ⟨b, off, none⟩ := Option.some.inj e
      have e : (⟨b, off, none⟩ : Addr).add k = ⟨b, off + k, none⟩ := by unfold Addr.add; split <;> simp_all
      rw [e]
      exact h.drop k hk
  · have e : l.drop k = [] := List.drop_eq_nil_of_le (by omega)
    rw [e]
    exact ⟨isBytes_nil _ _ _, by omega, by omega, by omega⟩
  · rw [List.length_take] at ht
    obtain ⟨b, off, e, h5, h6⟩ := h4 (fun e => by rw [e] at ht; simp at ht)
    obtain rfl : ad = ⟨b, off, none⟩ := Option.some.inj e
    have e : (⟨b, off, none⟩ : Addr).add t = ⟨b, off + t, none⟩ := by unfold Addr.add; split <;> simp_all
    rw [e, hw.cell (p := ⟨b, off + t, none⟩) h5, h6 t (by omega), List.getElem_take]

end Go.Proofs.Ytbjnemmghpmjjaa
