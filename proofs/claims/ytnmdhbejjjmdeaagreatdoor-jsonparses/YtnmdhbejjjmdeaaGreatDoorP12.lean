/-
  What is proved: json's reader reads one of the three words, or throws a fault. json's reader tells all digits and signs that stand where it stands. what Itoa writes Atoi reads, whatever number of 64 bits it is; json's reader reads a number, or throws a fault.
  Conditions: as each theorem says.
-/
import Derived.Test.YtnmdhbejjjmdeaaGreatDoorP11
import Derived.Test.YtnmdhbejjjmdeaaGreatDoorP10
import Derived.Test.YtnmdhbejjjmdeaaGreatDoorShelf2
import Derived.Test.YtnmdhbejjjmdeaaGreatDoorJFitM
import Derived.Test.YtnmdhbejjjmdeaaGreatDoorP07
import Derived.Lib.AtoiAll
namespace Go.Proofs.YtnmdhbejjjmdeaaGreatDoor
open Go.RowKit Go.Sort

/-- The three words' values. -/
def wv (k n : Int) : Value := V.val ⟨k, n, ⟨#[]⟩, 0, 0⟩
def wNil : ByteArray := ⟨#[110, 117, 108, 108]⟩
def wNo : ByteArray := ⟨#[102, 97, 108, 115, 101]⟩
def wYes : ByteArray := ⟨#[116, 114, 117, 101]⟩
theorem show_nil (w : World) : Calls Tryz.prog 49 #[wv 0 0] w fun e w' => e = .returned (.string wNil) ∧ Below w.heap.size w w' := by
  unfold wv V.val wNil
  go_enter Tryz.func49, Tryz.ntmps49
  go_wp2
  go_ret
  exact ⟨rfl, (Below.refl _ _).alloc (Nat.le_refl _) _⟩
theorem show_no (w : World) : Calls Tryz.prog 49 #[wv 1 0] w fun e w' => e = .returned (.string wNo) ∧ Below w.heap.size w w' := by
  unfold wv V.val wNo
  go_enter Tryz.func49, Tryz.ntmps49
  go_wp2
  go_ret
  exact ⟨rfl, (Below.refl _ _).alloc (Nat.le_refl _) _⟩
theorem show_yes (w : World) : Calls Tryz.prog 49 #[wv 1 1] w fun e w' => e = .returned (.string wYes) ∧ Below w.heap.size w w' := by
  unfold wv V.val wYes
  go_enter Tryz.func49, Tryz.ntmps49
  go_wp2
  go_ret
  exact ⟨rfl, (Below.refl _ _).alloc (Nat.le_refl _) _⟩
/-- The three, in their row. -/
def wRow : Array Value := #[.int .i64 0, .int .i64 0, .string ⟨#[]⟩, .int .i64 0, .int .i64 0, .int .i64 1, .int .i64 0, .string ⟨#[]⟩, .int .i64 0, .int .i64 0, .int .i64 1, .int .i64 1, .string ⟨#[]⟩, .int .i64 0, .int .i64 0]
/-- What word leaves. -/
def WordP (w : World) (p : Nat) (s : ByteArray) (k m : Nat) (e : Ending) (w' : World) : Prop :=
  (preB s k wNil = true ∧ e = .returned (wv 0 0) ∧ RB w' p s (k + 4) m ∧ Rk p w w') ∨
  (preB s k wNil = false ∧ preB s k wNo = true ∧ e = .returned (wv 1 0) ∧ RB w' p s (k + 5) m ∧ Rk p w w') ∨
  (preB s k wNil = false ∧ preB s k wNo = false ∧ preB s k wYes = true ∧ e = .returned (wv 1 1) ∧ RB w' p s (k + 4) m ∧ Rk p w w') ∨
  (preB s k wNil = false ∧ preB s k wNo = false ∧ preB s k wYes = false ∧ e = .panicked [{ v := faultV k 2, recovered := false }] ∧ Rk p w w')
/-- What holds while word looks: the reader, the row, the answer's box. -/
structure Wd (w : World) (p : Nat) (s : ByteArray) (k m : Nat) (wr : World) : Prop where
  rb : RB wr p s k m
  row : wr.heap[w.heap.size + 1]? = some (.cells wRow 25)
  box : wr.heap[w.heap.size]? = some (.cells #[.int .i64 0, .int .i64 0, .string ⟨#[]⟩, .int .i64 0, .int .i64 0] 25)
  rk : Rk p w wr
theorem two_new (w : World) (a b : Obj) : ((w.alloc a).alloc b).heap[w.heap.size + 1]? = some b ∧ ((w.alloc a).alloc b).heap[w.heap.size]? = some a := by
  constructor
  · show ((w.heap.push a).push b)[w.heap.size + 1]? = some b
    rw [Array.getElem?_push, if_pos (by rw [Array.size_push])]
  · show ((w.heap.push a).push b)[w.heap.size]? = some a
    rw [Array.getElem?_push, if_neg (by rw [Array.size_push]; omega), Array.getElem?_push, if_pos rfl]
theorem one_new (w : World) (a : Obj) : (w.alloc a).heap[w.heap.size]? = some a := by
  show (w.heap.push a)[w.heap.size]? = some a
  rw [Array.getElem?_push, if_pos rfl]
theorem sz_new (w : World) (a : Obj) : (w.alloc a).heap.size = w.heap.size + 1 := Array.size_push a
/-- Below some block all is as it was, and the reader's box, the row and the answer's box lie there. -/
theorem Wd.below {w : World} {p : Nat} {s : ByteArray} {k m : Nat} {wr w' : World} (h : Wd w p s k m wr) (hb : Below wr.heap.size wr w') : Wd w p s k m w' := by
  refine ⟨h.rb.below hb, ?_, ?_, h.rk.trans (Rk.of hb)⟩
  · rw [hb.block _ (Array.getElem?_eq_some_iff.1 h.row).1]; exact h.row
  · rw [hb.block _ (Array.getElem?_eq_some_iff.1 h.box).1]; exact h.box
theorem Wd.move {w : World} {p : Nat} {s : ByteArray} {k m : Nat} {wr w' : World} (h : Wd w p s k m wr) (hp : p < w.heap.size) (hr : RB w' p s k m) (hb : Rk p wr w') : Wd w p s k m w' := by
  refine ⟨hr, ?_, ?_, h.rk.trans hb⟩
  · rw [hb.block _ (Array.getElem?_eq_some_iff.1 h.row).1 (by omega)]; exact h.row
  · rw [hb.block _ (Array.getElem?_eq_some_iff.1 h.box).1 (by omega)]; exact h.box
/-- What is so behind the answer's store. -/
theorem set5 {w : World} {g : Nat} {T : TypeId} {u0 u1 u2 u3 u4 : Value} (h : w.heap[g]? = some (.cells #[u0, u1, u2, u3, u4] T)) (v0 v1 v2 v3 v4 : Value) :
    (((((w.setCell ⟨g, 0, none⟩ v0).setCell ⟨g, 1, none⟩ v1).setCell ⟨g, 2, none⟩ v2).setCell ⟨g, 3, none⟩ v3).setCell ⟨g, 4, none⟩ v4).heap[g]? = some (.cells #[v0, v1, v2, v3, v4] T) := by
  have h0 := set_atR h 0 v0
  have h1 := set_atR h0 1 v1
  have h2 := set_atR h1 2 v2
  have h3 := set_atR h2 3 v3
  have h4 := set_atR h3 4 v4
  rw [h4]
  simp
theorem set5_below {w w' : World} {g B : Nat} (h : Below B w w') (hB : B ≤ g) (v0 v1 v2 v3 v4 : Value) : Below B w (((((w'.setCell ⟨g, 0, none⟩ v0).setCell ⟨g, 1, none⟩ v1).setCell ⟨g, 2, none⟩ v2).setCell ⟨g, 3, none⟩ v3).setCell ⟨g, 4, none⟩ v4) :=
  ((((h.setCell hB v0).setCell hB v1).setCell hB v2).setCell hB v3).setCell hB v4
theorem set5_rk {w w2 : World} {p g : Nat} {s : ByteArray} {k m : Nat} (hp : p < w.heap.size) (hg : w.heap.size ≤ g) (h : RB w2 p s k m) (hr : Rk p w w2) (v0 v1 v2 v3 v4 : Value) :
    RB (((((w2.setCell ⟨g, 0, none⟩ v0).setCell ⟨g, 1, none⟩ v1).setCell ⟨g, 2, none⟩ v2).setCell ⟨g, 3, none⟩ v3).setCell ⟨g, 4, none⟩ v4) p s k m ∧ Rk p w (((((w2.setCell ⟨g, 0, none⟩ v0).setCell ⟨g, 1, none⟩ v1).setCell ⟨g, 2, none⟩ v2).setCell ⟨g, 3, none⟩ v3).setCell ⟨g, 4, none⟩ v4) := by
  have hb := set5_below (Below.refl w.heap.size w2) hg v0 v1 v2 v3 v4
  exact ⟨(hb.block p hp).trans h, hb.os.trans hr.os, hb.tape.trans hr.tape, hb.output.trans hr.output, Nat.le_trans hr.size hb.size, fun b h1 h2 => (hb.block b h1).trans (hr.block b h1 h2)⟩
set_option maxRecDepth 100000 in
set_option maxHeartbeats 4000000 in
theorem word_any (p : Nat) (s : ByteArray) (k m : Nat) (w : World) (h : RB w p s k m) (hk : k ≤ s.size) (hs : s.size ≤ 60000) :
    Calls Tryz.prog 28 #[.pointer (some ⟨p, 0, none⟩)] w fun e w' => WordP w p s k m e w' := by
  obtain ⟨post, hpost⟩ : ∃ post, post = WordP w p s k m := ⟨_, rfl⟩
  rw [← hpost]
  have HPO : Hid (post = WordP w p s k m) := hpost
  have HH : Hid (RB w p s k m ∧ k ≤ s.size ∧ s.size ≤ 60000) := ⟨h, hk, hs⟩
  clear hpost h hk hs
  go_enter Tryz.func28, Tryz.ntmps28
  go_wp2_with fail
  go_loopg [10] 3 (fun gk t wr => ∃ i : Nat, i + gk = 3 ∧ t = .int .i64 (i : Int) ∧ Hid (Wd w p s k m wr ∧ (1 ≤ i → preB s k wNil = false) ∧ (2 ≤ i → preB s k wNo = false) ∧ (3 ≤ i → preB s k wYes = false)))
  case atStart =>
    refine ⟨0, rfl, rfl, ⟨?_, ?_, ?_, ?_⟩, by omega, by omega, by omega⟩
    · exact HH.out.1.below (((Below.refl _ _).alloc (Nat.le_refl _) _).alloc (by simp) _)
    · exact (two_new w _ _).1
    · exact (two_new w _ _).2
    · exact Rk.of (((Below.refl _ _).alloc (Nat.le_refl _) _).alloc (by simp) _)
  case round =>
    obtain ⟨i, hi, rfl, HW⟩ := hrel
    have hi3 : i = 0 ∨ i = 1 ∨ i = 2 ∨ i = 3 := by omega
    rcases hi3 with rfl | rfl | rfl | rfl
    · have HG : Hid (gk = 3) := by show gk = _; omega
      clear hi
      have c0 : wr.cell? ⟨w.heap.size + 1, 0, none⟩ = some (.int .i64 0) := Lib.cell_of_heap HW.out.1.row 0
      have c1 : wr.cell? ⟨w.heap.size + 1, 1, none⟩ = some (.int .i64 0) := Lib.cell_of_heap HW.out.1.row 1
      have c2 : wr.cell? ⟨w.heap.size + 1, 2, none⟩ = some (.string ⟨#[]⟩) := Lib.cell_of_heap HW.out.1.row 2
      have c3 : wr.cell? ⟨w.heap.size + 1, 3, none⟩ = some (.int .i64 0) := Lib.cell_of_heap HW.out.1.row 3
      have c4 : wr.cell? ⟨w.heap.size + 1, 4, none⟩ = some (.int .i64 0) := Lib.cell_of_heap HW.out.1.row 4
      have E1 := show_nil (wr.alloc (.cells #[.int .i64 0, .int .i64 0, .string ⟨#[]⟩, .int .i64 0, .int .i64 0] 25))
      unfold wv V.val at E1
      dsimp only at E1
      go_wp2_with fail
      go_fit E1
      rintro e w1 ⟨rfl, b1⟩
      clear E1 c0 c1 c2 c3 c4
      have HX : Hid (Wd w p s k m w1 ∧ w1.heap[wr.heap.size]? = some (.cells #[.int .i64 0, .int .i64 0, .string ⟨#[]⟩, .int .i64 0, .int .i64 0] 25) ∧ p < w.heap.size ∧ w.heap.size + 1 < wr.heap.size) := by
        refine ⟨HW.out.1.below (((Below.refl _ _).alloc (Nat.le_refl _) _).trans (b1.mono (by rw [sz_new]; omega))), ?_, HH.out.1.lt, (Array.getElem?_eq_some_iff.1 HW.out.1.row).1⟩
        rw [b1.block _ (by rw [sz_new]; omega)]
        exact one_new wr _
      clear b1
      have E2 := skip_any p s k m wNil w1 HX.out.1.rb HH.out.2.1 HH.out.2.2 (by decide)
      go_wp2_with fail
      go_fit E2
      rintro e w2 hS
      clear E2
      rcases hS with ⟨a1, rfl, a3, a4⟩ | ⟨a1, rfl, a3, a4⟩
      · have HY : Hid (preB s k wNil = true ∧ RB w2 p s (k + 4) m ∧ Rk p w w2) := ⟨a1, a3, HX.out.1.rk.trans a4⟩
        have hbx : w2.heap[wr.heap.size]? = some (.cells #[.int .i64 0, .int .i64 0, .string ⟨#[]⟩, .int .i64 0, .int .i64 0] 25) := by
          rw [a4.block _ (Array.getElem?_eq_some_iff.1 HX.out.2.1).1 (by have := HX.out.2.2; omega)]
          exact HX.out.2.1
        have hrs : w2.heap[w.heap.size]? = some (.cells #[.int .i64 0, .int .i64 0, .string ⟨#[]⟩, .int .i64 0, .int .i64 0] 25) := by
          rw [a4.block _ (Array.getElem?_eq_some_iff.1 HX.out.1.box).1 (by have := HX.out.2.2; omega)]
          exact HX.out.1.box
        have d0 : w2.cell? ⟨wr.heap.size, 0, none⟩ = some (.int .i64 0) := Lib.cell_of_heap hbx 0
        have d1 : w2.cell? ⟨wr.heap.size, 1, none⟩ = some (.int .i64 0) := Lib.cell_of_heap hbx 1
        have d2 : w2.cell? ⟨wr.heap.size, 2, none⟩ = some (.string ⟨#[]⟩) := Lib.cell_of_heap hbx 2
        have d3 : w2.cell? ⟨wr.heap.size, 3, none⟩ = some (.int .i64 0) := Lib.cell_of_heap hbx 3
        have d4 : w2.cell? ⟨wr.heap.size, 4, none⟩ = some (.int .i64 0) := Lib.cell_of_heap hbx 4
        have r0 : w2.cell? ⟨w.heap.size, 0, none⟩ = some (.int .i64 0) := Lib.cell_of_heap hrs 0
        have r1 : w2.cell? ⟨w.heap.size, 1, none⟩ = some (.int .i64 0) := Lib.cell_of_heap hrs 1
        have r2 : w2.cell? ⟨w.heap.size, 2, none⟩ = some (.string ⟨#[]⟩) := Lib.cell_of_heap hrs 2
        have r3 : w2.cell? ⟨w.heap.size, 3, none⟩ = some (.int .i64 0) := Lib.cell_of_heap hrs 3
        have r4 : w2.cell? ⟨w.heap.size, 4, none⟩ = some (.int .i64 0) := Lib.cell_of_heap hrs 4
        have zf := Lib.frozen_of_heap hrs
        clear a1 a3 a4 hbx
        have HF : Hid (_ = some _) := set5 hrs (.int .i64 0) (.int .i64 0) (.string ⟨#[]⟩) (.int .i64 0) (.int .i64 0)
        have HE := set5_rk HH.out.1.lt (Nat.le_refl _) HY.out.2.1 HY.out.2.2 (.int .i64 0) (.int .i64 0) (.string ⟨#[]⟩) (.int .i64 0) (.int .i64 0)
        have HEND : Hid (post (.returned (wv 0 0)) (((((w2.setCell ⟨w.heap.size, 0, none⟩ (.int .i64 0)).setCell ⟨w.heap.size, 1, none⟩ (.int .i64 0)).setCell ⟨w.heap.size, 2, none⟩ (.string ⟨#[]⟩)).setCell ⟨w.heap.size, 3, none⟩ (.int .i64 0)).setCell ⟨w.heap.size, 4, none⟩ (.int .i64 0))) := by
          show post _ _
          rw [HPO.out]
          exact Or.inl ⟨HY.out.1, rfl, HE.1, HE.2⟩
        clear hrs HE
        go_wp2_with fail
        clear d0 d1 d2 d3 d4 r0 r1 r2 r3 r4 zf
        generalize (((((w2.setCell ⟨w.heap.size, 0, none⟩ (.int .i64 0)).setCell ⟨w.heap.size, 1, none⟩ (.int .i64 0)).setCell ⟨w.heap.size, 2, none⟩ (.string ⟨#[]⟩)).setCell ⟨w.heap.size, 3, none⟩ (.int .i64 0)).setCell ⟨w.heap.size, 4, none⟩ (.int .i64 0)) = W at *
        have q0 : W.cell? ⟨w.heap.size, 0, none⟩ = some (.int .i64 0) := Lib.cell_of_heap HF.out 0
        have q1 : W.cell? ⟨w.heap.size, 1, none⟩ = some (.int .i64 0) := Lib.cell_of_heap HF.out 1
        have q2 : W.cell? ⟨w.heap.size, 2, none⟩ = some (.string ⟨#[]⟩) := Lib.cell_of_heap HF.out 2
        have q3 : W.cell? ⟨w.heap.size, 3, none⟩ = some (.int .i64 0) := Lib.cell_of_heap HF.out 3
        have q4 : W.cell? ⟨w.heap.size, 4, none⟩ = some (.int .i64 0) := Lib.cell_of_heap HF.out 4
        exact bodyPost_ret (v := wv 0 0) (by simp [wv, V.val, results, Tryz.results28, go_sem, q0, q1, q2, q3, q4]) rfl HEND.out
      · have HR : Hid (Wd w p s k m w2 ∧ preB s k wNil = false) := ⟨HX.out.1.move HX.out.2.2.1 a3 a4, a1⟩
        clear a1 a3 a4
        go_wp2_with fail
        go_roundg (gk - 1)
        case measure => have := HG.out; omega
        case rel => exact ⟨1, by have := HG.out; omega, rfl, HR.out.1, fun _ => HR.out.2, by omega, by omega⟩
    · have HG : Hid (gk = 2) := by show gk = _; omega
      clear hi
      have c0 : wr.cell? ⟨w.heap.size + 1, 5, none⟩ = some (.int .i64 1) := Lib.cell_of_heap HW.out.1.row 5
      have c1 : wr.cell? ⟨w.heap.size + 1, 6, none⟩ = some (.int .i64 0) := Lib.cell_of_heap HW.out.1.row 6
      have c2 : wr.cell? ⟨w.heap.size + 1, 7, none⟩ = some (.string ⟨#[]⟩) := Lib.cell_of_heap HW.out.1.row 7
      have c3 : wr.cell? ⟨w.heap.size + 1, 8, none⟩ = some (.int .i64 0) := Lib.cell_of_heap HW.out.1.row 8
      have c4 : wr.cell? ⟨w.heap.size + 1, 9, none⟩ = some (.int .i64 0) := Lib.cell_of_heap HW.out.1.row 9
      have E1 := show_no (wr.alloc (.cells #[.int .i64 1, .int .i64 0, .string ⟨#[]⟩, .int .i64 0, .int .i64 0] 25))
      unfold wv V.val at E1
      dsimp only at E1
      go_wp2_with fail
      go_fit E1
      rintro e w1 ⟨rfl, b1⟩
      clear E1 c0 c1 c2 c3 c4
      have HX : Hid (Wd w p s k m w1 ∧ w1.heap[wr.heap.size]? = some (.cells #[.int .i64 1, .int .i64 0, .string ⟨#[]⟩, .int .i64 0, .int .i64 0] 25) ∧ p < w.heap.size ∧ w.heap.size + 1 < wr.heap.size) := by
        refine ⟨HW.out.1.below (((Below.refl _ _).alloc (Nat.le_refl _) _).trans (b1.mono (by rw [sz_new]; omega))), ?_, HH.out.1.lt, (Array.getElem?_eq_some_iff.1 HW.out.1.row).1⟩
        rw [b1.block _ (by rw [sz_new]; omega)]
        exact one_new wr _
      clear b1
      have E2 := skip_any p s k m wNo w1 HX.out.1.rb HH.out.2.1 HH.out.2.2 (by decide)
      go_wp2_with fail
      go_fit E2
      rintro e w2 hS
      clear E2
      rcases hS with ⟨a1, rfl, a3, a4⟩ | ⟨a1, rfl, a3, a4⟩
      · have HY : Hid (preB s k wNo = true ∧ RB w2 p s (k + 5) m ∧ Rk p w w2) := ⟨a1, a3, HX.out.1.rk.trans a4⟩
        have hbx : w2.heap[wr.heap.size]? = some (.cells #[.int .i64 1, .int .i64 0, .string ⟨#[]⟩, .int .i64 0, .int .i64 0] 25) := by
          rw [a4.block _ (Array.getElem?_eq_some_iff.1 HX.out.2.1).1 (by have := HX.out.2.2; omega)]
          exact HX.out.2.1
        have hrs : w2.heap[w.heap.size]? = some (.cells #[.int .i64 0, .int .i64 0, .string ⟨#[]⟩, .int .i64 0, .int .i64 0] 25) := by
          rw [a4.block _ (Array.getElem?_eq_some_iff.1 HX.out.1.box).1 (by have := HX.out.2.2; omega)]
          exact HX.out.1.box
        have d0 : w2.cell? ⟨wr.heap.size, 0, none⟩ = some (.int .i64 1) := Lib.cell_of_heap hbx 0
        have d1 : w2.cell? ⟨wr.heap.size, 1, none⟩ = some (.int .i64 0) := Lib.cell_of_heap hbx 1
        have d2 : w2.cell? ⟨wr.heap.size, 2, none⟩ = some (.string ⟨#[]⟩) := Lib.cell_of_heap hbx 2
        have d3 : w2.cell? ⟨wr.heap.size, 3, none⟩ = some (.int .i64 0) := Lib.cell_of_heap hbx 3
        have d4 : w2.cell? ⟨wr.heap.size, 4, none⟩ = some (.int .i64 0) := Lib.cell_of_heap hbx 4
        have r0 : w2.cell? ⟨w.heap.size, 0, none⟩ = some (.int .i64 0) := Lib.cell_of_heap hrs 0
        have r1 : w2.cell? ⟨w.heap.size, 1, none⟩ = some (.int .i64 0) := Lib.cell_of_heap hrs 1
        have r2 : w2.cell? ⟨w.heap.size, 2, none⟩ = some (.string ⟨#[]⟩) := Lib.cell_of_heap hrs 2
        have r3 : w2.cell? ⟨w.heap.size, 3, none⟩ = some (.int .i64 0) := Lib.cell_of_heap hrs 3
        have r4 : w2.cell? ⟨w.heap.size, 4, none⟩ = some (.int .i64 0) := Lib.cell_of_heap hrs 4
        have zf := Lib.frozen_of_heap hrs
        clear a1 a3 a4 hbx
        have HF : Hid (_ = some _) := set5 hrs (.int .i64 1) (.int .i64 0) (.string ⟨#[]⟩) (.int .i64 0) (.int .i64 0)
        have HE := set5_rk HH.out.1.lt (Nat.le_refl _) HY.out.2.1 HY.out.2.2 (.int .i64 1) (.int .i64 0) (.string ⟨#[]⟩) (.int .i64 0) (.int .i64 0)
        have HEND : Hid (post (.returned (wv 1 0)) (((((w2.setCell ⟨w.heap.size, 0, none⟩ (.int .i64 1)).setCell ⟨w.heap.size, 1, none⟩ (.int .i64 0)).setCell ⟨w.heap.size, 2, none⟩ (.string ⟨#[]⟩)).setCell ⟨w.heap.size, 3, none⟩ (.int .i64 0)).setCell ⟨w.heap.size, 4, none⟩ (.int .i64 0))) := by
          show post _ _
          rw [HPO.out]
          exact Or.inr (Or.inl ⟨HW.out.2.1 (by omega), HY.out.1, rfl, HE.1, HE.2⟩)
        clear hrs HE
        go_wp2_with fail
        clear d0 d1 d2 d3 d4 r0 r1 r2 r3 r4 zf
        generalize (((((w2.setCell ⟨w.heap.size, 0, none⟩ (.int .i64 1)).setCell ⟨w.heap.size, 1, none⟩ (.int .i64 0)).setCell ⟨w.heap.size, 2, none⟩ (.string ⟨#[]⟩)).setCell ⟨w.heap.size, 3, none⟩ (.int .i64 0)).setCell ⟨w.heap.size, 4, none⟩ (.int .i64 0)) = W at *
        have q0 : W.cell? ⟨w.heap.size, 0, none⟩ = some (.int .i64 1) := Lib.cell_of_heap HF.out 0
        have q1 : W.cell? ⟨w.heap.size, 1, none⟩ = some (.int .i64 0) := Lib.cell_of_heap HF.out 1
        have q2 : W.cell? ⟨w.heap.size, 2, none⟩ = some (.string ⟨#[]⟩) := Lib.cell_of_heap HF.out 2
        have q3 : W.cell? ⟨w.heap.size, 3, none⟩ = some (.int .i64 0) := Lib.cell_of_heap HF.out 3
        have q4 : W.cell? ⟨w.heap.size, 4, none⟩ = some (.int .i64 0) := Lib.cell_of_heap HF.out 4
        exact bodyPost_ret (v := wv 1 0) (by simp [wv, V.val, results, Tryz.results28, go_sem, q0, q1, q2, q3, q4]) rfl HEND.out
      · have HR : Hid (Wd w p s k m w2 ∧ preB s k wNo = false) := ⟨HX.out.1.move HX.out.2.2.1 a3 a4, a1⟩
        clear a1 a3 a4
        go_wp2_with fail
        go_roundg (gk - 1)
        case measure => have := HG.out; omega
        case rel => exact ⟨2, by have := HG.out; omega, rfl, HR.out.1, fun _ => HW.out.2.1 (by omega), fun _ => HR.out.2, by omega⟩
    · have HG : Hid (gk = 1) := by show gk = _; omega
      clear hi
      have c0 : wr.cell? ⟨w.heap.size + 1, 10, none⟩ = some (.int .i64 1) := Lib.cell_of_heap HW.out.1.row 10
      have c1 : wr.cell? ⟨w.heap.size + 1, 11, none⟩ = some (.int .i64 1) := Lib.cell_of_heap HW.out.1.row 11
      have c2 : wr.cell? ⟨w.heap.size + 1, 12, none⟩ = some (.string ⟨#[]⟩) := Lib.cell_of_heap HW.out.1.row 12
      have c3 : wr.cell? ⟨w.heap.size + 1, 13, none⟩ = some (.int .i64 0) := Lib.cell_of_heap HW.out.1.row 13
      have c4 : wr.cell? ⟨w.heap.size + 1, 14, none⟩ = some (.int .i64 0) := Lib.cell_of_heap HW.out.1.row 14
      have E1 := show_yes (wr.alloc (.cells #[.int .i64 1, .int .i64 1, .string ⟨#[]⟩, .int .i64 0, .int .i64 0] 25))
      unfold wv V.val at E1
      dsimp only at E1
      go_wp2_with fail
      go_fit E1
      rintro e w1 ⟨rfl, b1⟩
      clear E1 c0 c1 c2 c3 c4
      have HX : Hid (Wd w p s k m w1 ∧ w1.heap[wr.heap.size]? = some (.cells #[.int .i64 1, .int .i64 1, .string ⟨#[]⟩, .int .i64 0, .int .i64 0] 25) ∧ p < w.heap.size ∧ w.heap.size + 1 < wr.heap.size) := by
        refine ⟨HW.out.1.below (((Below.refl _ _).alloc (Nat.le_refl _) _).trans (b1.mono (by rw [sz_new]; omega))), ?_, HH.out.1.lt, (Array.getElem?_eq_some_iff.1 HW.out.1.row).1⟩
        rw [b1.block _ (by rw [sz_new]; omega)]
        exact one_new wr _
      clear b1
      have E2 := skip_any p s k m wYes w1 HX.out.1.rb HH.out.2.1 HH.out.2.2 (by decide)
      go_wp2_with fail
      go_fit E2
      rintro e w2 hS
      clear E2
      rcases hS with ⟨a1, rfl, a3, a4⟩ | ⟨a1, rfl, a3, a4⟩
      · have HY : Hid (preB s k wYes = true ∧ RB w2 p s (k + 4) m ∧ Rk p w w2) := ⟨a1, a3, HX.out.1.rk.trans a4⟩
        have hbx : w2.heap[wr.heap.size]? = some (.cells #[.int .i64 1, .int .i64 1, .string ⟨#[]⟩, .int .i64 0, .int .i64 0] 25) := by
          rw [a4.block _ (Array.getElem?_eq_some_iff.1 HX.out.2.1).1 (by have := HX.out.2.2; omega)]
          exact HX.out.2.1
        have hrs : w2.heap[w.heap.size]? = some (.cells #[.int .i64 0, .int .i64 0, .string ⟨#[]⟩, .int .i64 0, .int .i64 0] 25) := by
          rw [a4.block _ (Array.getElem?_eq_some_iff.1 HX.out.1.box).1 (by have := HX.out.2.2; omega)]
          exact HX.out.1.box
        have d0 : w2.cell? ⟨wr.heap.size, 0, none⟩ = some (.int .i64 1) := Lib.cell_of_heap hbx 0
        have d1 : w2.cell? ⟨wr.heap.size, 1, none⟩ = some (.int .i64 1) := Lib.cell_of_heap hbx 1
        have d2 : w2.cell? ⟨wr.heap.size, 2, none⟩ = some (.string ⟨#[]⟩) := Lib.cell_of_heap hbx 2
        have d3 : w2.cell? ⟨wr.heap.size, 3, none⟩ = some (.int .i64 0) := Lib.cell_of_heap hbx 3
        have d4 : w2.cell? ⟨wr.heap.size, 4, none⟩ = some (.int .i64 0) := Lib.cell_of_heap hbx 4
        have r0 : w2.cell? ⟨w.heap.size, 0, none⟩ = some (.int .i64 0) := Lib.cell_of_heap hrs 0
        have r1 : w2.cell? ⟨w.heap.size, 1, none⟩ = some (.int .i64 0) := Lib.cell_of_heap hrs 1
        have r2 : w2.cell? ⟨w.heap.size, 2, none⟩ = some (.string ⟨#[]⟩) := Lib.cell_of_heap hrs 2
        have r3 : w2.cell? ⟨w.heap.size, 3, none⟩ = some (.int .i64 0) := Lib.cell_of_heap hrs 3
        have r4 : w2.cell? ⟨w.heap.size, 4, none⟩ = some (.int .i64 0) := Lib.cell_of_heap hrs 4
        have zf := Lib.frozen_of_heap hrs
        clear a1 a3 a4 hbx
        have HF : Hid (_ = some _) := set5 hrs (.int .i64 1) (.int .i64 1) (.string ⟨#[]⟩) (.int .i64 0) (.int .i64 0)
        have HE := set5_rk HH.out.1.lt (Nat.le_refl _) HY.out.2.1 HY.out.2.2 (.int .i64 1) (.int .i64 1) (.string ⟨#[]⟩) (.int .i64 0) (.int .i64 0)
        have HEND : Hid (post (.returned (wv 1 1)) (((((w2.setCell ⟨w.heap.size, 0, none⟩ (.int .i64 1)).setCell ⟨w.heap.size, 1, none⟩ (.int .i64 1)).setCell ⟨w.heap.size, 2, none⟩ (.string ⟨#[]⟩)).setCell ⟨w.heap.size, 3, none⟩ (.int .i64 0)).setCell ⟨w.heap.size, 4, none⟩ (.int .i64 0))) := by
          show post _ _
          rw [HPO.out]
          exact Or.inr (Or.inr (Or.inl ⟨HW.out.2.1 (by omega), HW.out.2.2.1 (by omega), HY.out.1, rfl, HE.1, HE.2⟩))
        clear hrs HE
        go_wp2_with fail
        clear d0 d1 d2 d3 d4 r0 r1 r2 r3 r4 zf
        generalize (((((w2.setCell ⟨w.heap.size, 0, none⟩ (.int .i64 1)).setCell ⟨w.heap.size, 1, none⟩ (.int .i64 1)).setCell ⟨w.heap.size, 2, none⟩ (.string ⟨#[]⟩)).setCell ⟨w.heap.size, 3, none⟩ (.int .i64 0)).setCell ⟨w.heap.size, 4, none⟩ (.int .i64 0)) = W at *
        have q0 : W.cell? ⟨w.heap.size, 0, none⟩ = some (.int .i64 1) := Lib.cell_of_heap HF.out 0
        have q1 : W.cell? ⟨w.heap.size, 1, none⟩ = some (.int .i64 1) := Lib.cell_of_heap HF.out 1
        have q2 : W.cell? ⟨w.heap.size, 2, none⟩ = some (.string ⟨#[]⟩) := Lib.cell_of_heap HF.out 2
        have q3 : W.cell? ⟨w.heap.size, 3, none⟩ = some (.int .i64 0) := Lib.cell_of_heap HF.out 3
        have q4 : W.cell? ⟨w.heap.size, 4, none⟩ = some (.int .i64 0) := Lib.cell_of_heap HF.out 4
        exact bodyPost_ret (v := wv 1 1) (by simp [wv, V.val, results, Tryz.results28, go_sem, q0, q1, q2, q3, q4]) rfl HEND.out
      · have HR : Hid (Wd w p s k m w2 ∧ preB s k wYes = false) := ⟨HX.out.1.move HX.out.2.2.1 a3 a4, a1⟩
        clear a1 a3 a4
        go_wp2_with fail
        go_roundg (gk - 1)
        case measure => have := HG.out; omega
        case rel => exact ⟨3, by have := HG.out; omega, rfl, HR.out.1, fun _ => HW.out.2.1 (by omega), fun _ => HW.out.2.2.1 (by omega), fun _ => HR.out.2⟩
    · have c1 : wr.cell? ⟨p, 1, none⟩ = some (.int .i64 (k : Int)) := Lib.cell_of_heap HW.out.1.rb 1
      have HEND : Hid (post (.panicked [{ v := faultV k 2, recovered := false }]) wr) := by
        show post _ _
        rw [HPO.out]
        exact Or.inr (Or.inr (Or.inr ⟨HW.out.2.1 (by omega), HW.out.2.2.1 (by omega), HW.out.2.2.2 (by omega), rfl, HW.out.1.rk⟩))
      clear hi
      go_wp2
      exact ⟨rfl, HEND.out⟩
end Go.Proofs.YtnmdhbejjjmdeaaGreatDoor

namespace Go.Proofs.YtnmdhbejjjmdeaaGreatDoor
open Go.RowKit

/-- Digits and the sign. -/
def digS : ByteArray := ⟨#[45, 48, 49, 50, 51, 52, 53, 54, 55, 56, 57]⟩
/-- All that stand there. -/
def dgs (l : List UInt8) : List UInt8 := l.takeWhile (digS.data.toList.contains ·)
theorem dgs_split (l : List UInt8) : dgs l ++ Lib.trimLeftS l digS.data.toList = l := List.takeWhile_append_dropWhile
theorem ex_take (s : ByteArray) (k hi : Nat) : (s.extract k hi).data.toList = (lft s k).take (hi - k) := by
  unfold lft
  rw [ByteArray.data_extract, Array.toList_extract, List.extract_eq_take_drop]
theorem ba_back (a : ByteArray) : (⟨a.data.toList.toArray⟩ : ByteArray) = a := by
  cases a
  rfl
set_option maxRecDepth 100000 in
set_option maxHeartbeats 2000000 in
theorem digitsR_any (p : Nat) (s : ByteArray) (k m : Nat) (w : World) (h : RB w p s k m) (hk : k ≤ s.size) (hs : s.size ≤ 60000) :
    Calls Tryz.prog 26 #[.pointer (some ⟨p, 0, none⟩)] w fun e w' => e = .returned (.string ⟨(dgs (lft s k)).toArray⟩) ∧ Below w.heap.size w w' := by
  have E1 := rest_any p s k m w h hk
  have E2 := fun W => Tryz.trimLeft (s.extract k s.size) digS W (by decide) (fun j b hj => by
    have hm : b ∈ digS.data.toList := List.mem_of_getElem? hj
    have hall : ∀ x ∈ digS.data.toList, x.toNat < 128 := by decide
    exact hall b hm)
  rw [lft_ex] at E2
  have HSP : Hid (dgs (lft s k) ++ Lib.trimLeftS (lft s k) digS.data.toList = lft s k) := dgs_split _
  obtain ⟨bl, hbl⟩ : ∃ bl, Lib.trimLeftS (lft s k) digS.data.toList = bl := ⟨_, rfl⟩
  rw [hbl] at E2 HSP
  clear hbl
  have hll : (lft s k).length = s.size - k := by
    unfold lft
    rw [List.length_drop, Array.length_toList]
    rfl
  have hsum : (dgs (lft s k)).length + bl.length = s.size - k := by
    have := congrArg List.length HSP.out
    rw [List.length_append] at this
    omega
  obtain ⟨hi, hhi⟩ : ∃ hi, hi = k + (dgs (lft s k)).length := ⟨_, rfl⟩
  have HRES : Hid (s.extract k hi = ⟨(dgs (lft s k)).toArray⟩) := by
    show _ = _
    rw [← ba_back (s.extract k hi), ex_take s k hi]
    have e1 : (lft s k).take (hi - k) = dgs (lft s k) := by
      have e2 : hi - k = (dgs (lft s k)).length := by omega
      have e3 := List.take_left' (l₁ := dgs (lft s k)) (l₂ := bl) rfl
      rw [HSP.out] at e3
      rw [e2]
      exact e3
    rw [e1]
  obtain ⟨bs, hbs⟩ : ∃ bs : ByteArray, bs = ⟨bl.toArray⟩ := ⟨_, rfl⟩
  have hbz : bs.size = bl.length := by rw [hbs]; simp [ByteArray.size]
  rw [← hbs] at E2
  have g0 : (s.size : Int) - (bs.size : Int) = (hi : Int) := by omega
  have g1 : (k : Int) ≤ hi := by omega
  have g2 : (hi : Int) ≤ s.size := by omega
  have hw : wrap64 ((s.size : Int) - (bs.size : Int)) = (hi : Int) := by rw [g0]; unfold wrap64; omega
  have hw' : IntKind.i64.wrap ((s.size : Int) - (bs.size : Int)) = (hi : Int) := by rw [g0, IntKind.wrap_i64]; omega
  have g4 : (0 : Int) ≤ (k : Int) := by omega
  have HR : Hid (RB w p s k m) := h
  rw [← HRES.out]
  generalize s.extract k s.size = sx at *
  have ed : (⟨#[45, 48, 49, 50, 51, 52, 53, 54, 55, 56, 57]⟩ : ByteArray) = digS := rfl
  unfold digS at E2
  clear h hk hs HSP hll hsum hhi hbs hbz HRES g0 ed
  go_enter Tryz.func26, Tryz.ntmps26
  go_wp2_with fail
  go_fit E1
  rintro e w1 ⟨rfl, b1⟩
  clear E1
  have E3 := E2 w1
  clear E2
  go_wp2_with fail
  go_fit E3
  rintro e w2 ⟨rfl, b2⟩
  clear E3
  have HB2 : Hid (Below w.heap.size w w2) := b1.trans (b2.mono b1.size)
  have c0 : w2.cell? ⟨p, 0, none⟩ = some (.string s) := Lib.cell_of_heap (HR.out.below HB2.out) 0
  have c1 : w2.cell? ⟨p, 1, none⟩ = some (.int .i64 (k : Int)) := Lib.cell_of_heap (HR.out.below HB2.out) 1
  clear b1 b2
  go_upto_region 2 with fail
  go_quiet (fail)
  go_wp2
  go_ret
  exact ⟨rfl, below_drewR HB2.out _⟩
end Go.Proofs.YtnmdhbejjjmdeaaGreatDoor

namespace Go.Proofs.YtnmdhbejjjmdeaaGreatDoor
open Go.RowKit Go.Sort

theorem pu_step (acc : Nat) (d : Nat) (r : List UInt8) (hd : d < 10) (h : acc * 10 + d < 18446744073709551616) : Lib.parseUint10 acc (UInt8.ofNat (48 + d) :: r) = Lib.parseUint10 (acc * 10 + d) r := by
  have e : (UInt8.ofNat (48 + d)).toNat = 48 + d := by
    rw [UInt8.toNat_ofNat']
    omega
  rw [Lib.parseUint10]
  simp only [e]
  rw [if_pos (by omega), if_neg (by omega), if_neg (by omega)]
  rw [show 48 + d - 48 = d by omega]
theorem pu_dec (u : Nat) (hu : u < 18446744073709551616) (r : List UInt8) : Lib.parseUint10 0 (Lib.decDigits u ++ r) = Lib.parseUint10 u r := by
  induction u using Nat.strongRecOn generalizing r with
  | _ u ih =>
    rw [Lib.decDigits]
    by_cases h : u < 10
    · rw [dif_pos h, List.singleton_append, pu_step 0 u r h (by omega), Nat.zero_mul, Nat.zero_add]
    · rw [dif_neg h, List.append_assoc, ih (u / 10) (by omega) (by omega), List.singleton_append, pu_step _ _ _ (by omega) (by omega)]
      rw [show u / 10 * 10 + u % 10 = u by omega]
theorem mag_dec (u : Nat) (hu : u < 18446744073709551616) : Lib.parseMag (Lib.decDigits u) = .ok u := by
  unfold Lib.parseMag
  rw [if_neg (decR_ne u)]
  have h := pu_dec u hu []
  rw [List.append_nil] at h
  rw [h]
  rfl
theorem atoi_back (n : Int) (h0 : -9223372036854775808 ≤ n) (h1 : n ≤ 9223372036854775807) : Lib.atoiAll (Lib.itoa n) = .ok n := by
  unfold Lib.itoa
  by_cases hn : n < 0
  · rw [if_pos hn]
    unfold Lib.atoiAll
    simp only
    rw [show (45 : UInt8).toNat = 45 from rfl]
    simp only [or_true, if_true]
    rw [mag_dec _ (by omega)]
    simp only [not_true_eq_false, false_and, if_false, true_and]
    rw [if_neg (by omega)]
    congr 1
    omega
  · rw [if_neg hn]
    cases hd : Lib.decDigits n.toNat with
    | nil => exact absurd hd (decR_ne _)
    | cons c t =>
      have hc : 48 ≤ c.toNat ∧ c.toNat ≤ 57 := by
        have := dec_dig n.toNat c (by rw [hd]; exact List.mem_cons_self)
        unfold digB at this
        have h45 : c.toNat ≠ 45 := fun e => dec_sign n.toNat t (by
          rw [hd]
          congr 1
          exact UInt8.toNat_inj.1 e)
        simp at this
        omega
      unfold Lib.atoiAll
      simp only
      rw [if_neg (by omega), ← hd, mag_dec _ (by omega)]
      simp only
      rw [if_neg (by omega), if_neg (by omega), if_neg (by omega)]
      congr 1
      omega
theorem atoi_rng {l : List UInt8} {v : Int} (h : Lib.atoiAll l = .ok v) : -9223372036854775808 ≤ v ∧ v ≤ 9223372036854775807 := by
  unfold Lib.atoiAll at h
  split at h
  · cases h
  · simp only at h
    split at h
    · cases h
    · cases h
    · split at h
      · cases h
      · split at h
        · cases h
        · injection h with h
          subst h
          split <;> omega
/-- The two errors of package strconv lie as the text lays them: values of some type. -/
def Errs (w : World) : Prop := (∃ t p, w.var? Tryz.prog "strconv.ErrSyntax" = some #[.iface t p]) ∧ ∃ t p, w.var? Tryz.prog "strconv.ErrRange" = some #[.iface t p]
theorem syn_g : ∃ g, Tryz.prog.globalNamed "strconv.ErrSyntax" = some g := Option.isSome_iff_exists.1 (by kernel_rfl)
theorem ran_g : ∃ g, Tryz.prog.globalNamed "strconv.ErrRange" = some g := Option.isSome_iff_exists.1 (by kernel_rfl)
theorem Errs.below {w w' : World} (h : Errs w) (hb : Below w.heap.size w w') : Errs w' := by
  obtain ⟨⟨t, p, h1⟩, ⟨t2, p2, h2⟩⟩ := h
  obtain ⟨g1, e1⟩ := syn_g
  obtain ⟨g2, e2⟩ := ran_g
  exact ⟨⟨t, p, var?_below hb e1 (lt_of_var e1 h1) h1⟩, ⟨t2, p2, var?_below hb e2 (lt_of_var e2 h2) h2⟩⟩
/-- What the reader asks of package variables. -/
def Vr (w : World) : Prop := Tab w ∧ Errs w
theorem Vr.below {w w' : World} (h : Vr w) (hb : Below w.heap.size w w') : Vr w' := ⟨h.1.below hb, h.2.below hb⟩
theorem below_bytes (w : World) (e : TypeId) (s : ByteArray) : Below w.heap.size w (Lib.bytesWorld w e s) :=
  ⟨rfl, rfl, rfl, by rw [Lib.bytesWorld_size]; omega, fun k hk => Lib.bytesWorld_at_old w e s k hk⟩
/-- What Atoi leaves. -/
def AtoiP (w : World) (s : ByteArray) (e : Ending) (w' : World) : Prop :=
  ((∃ v, Lib.atoiAll s.data.toList = .ok v ∧ e = .returned (.tuple #[.int .i64 v, .nilIface])) ∨ ((∀ v, Lib.atoiAll s.data.toList ≠ .ok v) ∧ ∃ v T N, e = .returned (.tuple #[.int .i64 v, .iface T (.pointer (some N))]))) ∧ Below w.heap.size w w'
theorem atoi_any (s : ByteArray) (w : World) (hs : s.size ≤ 60000) (hE : Errs w) : Calls Tryz.prog 47 #[.string s] w fun e w' => AtoiP w s e w' := by
  obtain ⟨⟨t, p, h1⟩, ⟨t2, p2, h2⟩⟩ := hE
  cases hat : Lib.atoiAll s.data.toList with
  | ok v =>
    refine (Tryz.strconv_Atoi_ok s (by omega) v hat w).mono ?_
    rintro e w' ⟨rfl, rfl | ⟨t, rfl⟩⟩
    · exact ⟨Or.inl ⟨v, hat, rfl⟩, Below.refl _ _⟩
    · exact ⟨Or.inl ⟨v, hat, rfl⟩, below_bytes _ _ _⟩
  | range =>
    refine (Any.strconv_Atoi_range_var Tryz.laysC172 s (by omega) hat t2 p2 w h2).mono ?_
    rintro e w' ⟨N, rfl, _, _, hb⟩
    exact ⟨Or.inr ⟨fun v h => (by rw [hat] at h; cases h), _, _, _, rfl⟩, hb⟩
  | _ =>
    refine (Any.strconv_Atoi_syntax_var Tryz.laysC172 s (by omega) hat t p w h1).mono ?_
    rintro e w' ⟨N, rfl, _, _, hb⟩
    exact ⟨Or.inr ⟨fun v h => (by rw [hat] at h; cases h), _, _, _, rfl⟩, hb⟩
end Go.Proofs.YtnmdhbejjjmdeaaGreatDoor
