/-
  What is proved: what a disk's find and open answer.
  Conditions: as each theorem says.
-/
import Derived.Test.YtcdpcjafomfddaaDoorKDisk
namespace Go.Proofs.YtcdpcjafomfddaaDoor
open Go.RowKit Go.Maps

theorem zeroF (w : World) : (zeroValue 62).run Tryd.prog w = .ok (.pointer none) w := by simp [zeroValue, go_sem, Tryd.t62]

theorem Dk.look {S : Nat → Prop} {w : World} {p fb sb : Nat} {F Z : List (Tx × Nat)} {n st : Int} {G : List Fi} (h : Dk S w p fb sb F Z n st G) {s : Tx} (hs : T64 s) :
    (Instr.lookup 49 (.map (some fb)) (.string ⟨s.toArray⟩) true).run Tryd.prog w = .ok (.tuple #[pN (fk F s), .bool (fk F s).isSome]) w := by
  have := h.mf.look (T := 49) (E := 62) Tryd.underlying49 (zeroF w) hs
  rw [lk_ptrs] at this
  show (Instr.lookup _ _ (txV s) _).run _ _ = _
  rw [this]
  cases fk F s <;> rfl

set_option maxRecDepth 100000 in
set_option maxHeartbeats 2000000 in
theorem find_any {S : Nat → Prop} {p fb sb : Nat} {F Z : List (Tx × Nat)} {n st : Int} {G : List Fi} (s : Tx) (w : World) (hd : Dk S w p fb sb F Z n st G) (hs : T64 s) :
    Calls Tryd.prog 26 #[ptrV p, txV s] w fun e w' => e = .returned (.tuple #[pN (fk F s), errV (if (fk F s).isSome then 0 else 6)]) ∧ Below w.heap.size w w' := by
  have hl := hd.look hs
  have c0 : w.cell? ⟨p, 0, none⟩ = some (.map (some fb)) := Lib.cell_of_heap hd.box 0
  clear hd
  unfold ptrV txV
  go_enter Tryd.func26, Tryd.ntmps26
  cases hg : fk F s with
  | none =>
    rw [hg] at hl
    unfold pN at hl ⊢
    dsimp only at hl
    go_wp2
    go_returns
    exact ⟨rfl, Below.refl _ _⟩
  | some g =>
    rw [hg] at hl
    unfold pN ptrV at hl ⊢
    dsimp only at hl
    go_wp2
    go_returns
    exact ⟨rfl, Below.refl _ _⟩

/-- What is wrong with opening a file; the file. -/
def opE (F : List (Tx × Nat)) (st n : Int) (s : Tx) : Int := if rdy st n [s] = 0 then (if (fk F s).isSome then 0 else 6) else rdy st n [s]
def opG (F : List (Tx × Nat)) (st n : Int) (s : Tx) : Option Nat := if rdy st n [s] = 0 then fk F s else none

set_option maxRecDepth 100000 in
set_option maxHeartbeats 2000000 in
theorem open_any {S : Nat → Prop} {p fb sb : Nat} {F Z : List (Tx × Nat)} {n st : Int} {G : List Fi} (s : Tx) (w : World) (hd : Dk S w p fb sb F Z n st G) (hs : T64 s) :
    Calls Tryd.prog 32 #[ptrV p, txV s] w fun e w' => e = .returned (.tuple #[pN (opG F st n s), errV (opE F st n s)]) ∧ Below w.heap.size w w' := by
  have b1 : Below w.heap.size w (w.alloc (.cells #[.string ⟨s.toArray⟩] 9)) := (Below.refl _ _).alloc (Nat.le_refl _) _
  have R := ready_any (.slice (some ⟨w.heap.size, 0, none⟩) 1 1) [s] _ (hd.below b1) ⟨_, _, rfl, by simp, fun _ => ⟨_, rfl, fun i hi => by
    have : i = 0 := by simp at hi; exact hi
    subst this
    exact Lib.cell_of_heap (MapKept.heap_alloc w (.cells #[.string ⟨s.toArray⟩] 9)).1 0⟩⟩
  have FF := fun w' (hb : Below w.heap.size w w') => find_any s w' (hd.below hb) hs
  have HF : Hid (∀ w', Below w.heap.size w w' → _) := FF
  have HB : Hid (Below w.heap.size w (w.alloc (.cells #[.string ⟨s.toArray⟩] 9)) ∧ w.heap.size ≤ (w.alloc (.cells #[.string ⟨s.toArray⟩] 9)).heap.size) := ⟨b1, b1.size⟩
  clear hd b1 FF
  unfold opG opE
  unfold ptrV txV at *
  generalize rdy st n [s] = r at *
  generalize (if (fk F s).isSome = true then (0 : Int) else 6) = z at *
  go_enter Tryd.func32, Tryd.ntmps32
  by_cases hr : r = 0
  · subst hr
    simp only [errV, if_true] at R
    simp only [if_true]
    go_wp2_with (first
      | (go_at_call 31; refine R.mono ?_; rintro e w1 ⟨rfl, hb1⟩
         have HB1 : Hid (Below w.heap.size w w1) := HB.out.1.trans (hb1.mono HB.out.2)
         have F1 := HF.out w1 HB1.out
         clear hb1 HF)
      | (go_at_call 26; refine F1.mono ?_; rintro e w2 ⟨rfl, hb2⟩
         have HB2 : Hid (Below w.heap.size w w2) := HB1.out.trans (hb2.mono HB1.out.size)
         clear hb2))
    go_returns
    exact ⟨rfl, HB2.out⟩
  · rw [if_neg hr, if_neg hr]
    have he : errV r = .iface 66 (.int .i64 r) := by unfold errV; rw [if_neg hr]
    rw [he] at R ⊢
    unfold pN
    clear he HF hr
    go_wp2_with (go_at_call 31; refine R.mono ?_; rintro e w1 ⟨rfl, hb1⟩
                 have HB1 : Hid (Below w.heap.size w w1) := HB.out.1.trans (hb1.mono HB.out.2)
                 clear hb1)
    go_returns
    exact ⟨rfl, HB1.out⟩
end Go.Proofs.YtcdpcjafomfddaaDoor
