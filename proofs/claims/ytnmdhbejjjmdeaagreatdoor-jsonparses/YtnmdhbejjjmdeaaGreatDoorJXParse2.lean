/-
  What is proved: json's Parse reads the tree whose text it is given, or tells that there is none.
  Conditions: package variables lie as the text lays them.
-/
import Derived.Test.YtnmdhbejjjmdeaaGreatDoorJXParse
namespace Go.Proofs.YtnmdhbejjjmdeaaGreatDoor
open Go.RowKit Go.Sort

/-- What a text is read as. -/
def prs (s : ByteArray) : Rs JT :=
  if 60000 < s.size then .error (0, 4)
  else match rdT (s.size + 1) s 0 0 with
    | .error x => .error x
    | .ok (T, k) => if k < s.size then .error (k, 2) else .ok T
/-- What Parse leaves. -/
def ParseP (w : World) (s : ByteArray) (e : Ending) (w' : World) : Prop :=
  ((∃ (k : Nat) (x : Int), e = .returned (.tuple #[tval zU, .int .i64 (k : Int), .iface 43 (.int .i64 x)]) ∧ prs s = .error (k, x)) ∨
   (∃ u T, e = .returned (.tuple #[tval u, .int .i64 0, .nilIface]) ∧ IsTP (fun b => w.heap.size ≤ b) w' (tval u) T ∧ T.size ≤ 400 ∧ prs s = .ok T)) ∧ Below w.heap.size w w'
theorem prs_bad {s : ByteArray} {x : Nat × Int} (hs : s.size ≤ 60000) (h : rdT (s.size + 1) s 0 0 = .error x) : prs s = .error x := by
  unfold prs
  rw [if_neg (by omega), h]
theorem prs_more {s : ByteArray} {T : JT} {k : Nat} (hs : s.size ≤ 60000) (h : rdT (s.size + 1) s 0 0 = .ok (T, k)) (hk : k < s.size) : prs s = .error (k, 2) := by
  unfold prs
  rw [if_neg (by omega), h]
  simp only
  rw [if_pos hk]
theorem prs_ok {s : ByteArray} {T : JT} {k : Nat} (hs : s.size ≤ 60000) (h : rdT (s.size + 1) s 0 0 = .ok (T, k)) (hk : ¬ k < s.size) : prs s = .ok T := by
  unfold prs
  rw [if_neg (by omega), h]
  simp only
  rw [if_neg hk]
theorem four_new (w : World) (s : ByteArray) : RB ((((w.alloc zO).alloc (.cells #[.int .i64 0] 3)).alloc (.cells #[.nilIface] 33)).alloc (.cells #[.string s, .int .i64 0, .int .i64 0] 47)) (w.heap.size + 3) s 0 0 ∧ Below w.heap.size w ((((w.alloc zO).alloc (.cells #[.int .i64 0] 3)).alloc (.cells #[.nilIface] 33)).alloc (.cells #[.string s, .int .i64 0, .int .i64 0] 47)) ∧ ((((w.alloc zO).alloc (.cells #[.int .i64 0] 3)).alloc (.cells #[.nilIface] 33)).alloc (.cells #[.string s, .int .i64 0, .int .i64 0] 47)).heap[w.heap.size]? = some zO ∧ ((((w.alloc zO).alloc (.cells #[.int .i64 0] 3)).alloc (.cells #[.nilIface] 33)).alloc (.cells #[.string s, .int .i64 0, .int .i64 0] 47)).heap[w.heap.size + 1]? = some (.cells #[.int .i64 0] 3) ∧ ((((w.alloc zO).alloc (.cells #[.int .i64 0] 3)).alloc (.cells #[.nilIface] 33)).alloc (.cells #[.string s, .int .i64 0, .int .i64 0] 47)).heap[w.heap.size + 2]? = some (.cells #[.nilIface] 33) ∧ ((((w.alloc zO).alloc (.cells #[.int .i64 0] 3)).alloc (.cells #[.nilIface] 33)).alloc (.cells #[.string s, .int .i64 0, .int .i64 0] 47)).heap.size = w.heap.size + 4 := by
  have b1 := (Below.refl w.heap.size w).alloc (Nat.le_refl _) zO
  have b2 : Below (w.heap.size + 1) (w.alloc zO) ((w.alloc zO).alloc (.cells #[.int .i64 0] 3)) := (Below.refl _ _).alloc (by rw [sz_new]; omega) _
  have b3 : Below (w.heap.size + 2) ((w.alloc zO).alloc (.cells #[.int .i64 0] 3)) (((w.alloc zO).alloc (.cells #[.int .i64 0] 3)).alloc (.cells #[.nilIface] 33)) := (Below.refl _ _).alloc (by rw [sz_new, sz_new]; omega) _
  have b4 : Below (w.heap.size + 3) (((w.alloc zO).alloc (.cells #[.int .i64 0] 3)).alloc (.cells #[.nilIface] 33)) ((((w.alloc zO).alloc (.cells #[.int .i64 0] 3)).alloc (.cells #[.nilIface] 33)).alloc (.cells #[.string s, .int .i64 0, .int .i64 0] 47)) := (Below.refl _ _).alloc (by rw [sz_new, sz_new, sz_new]; omega) _
  have e0 := one_new w zO
  have e1 := one_new (w.alloc zO) (.cells #[.int .i64 0] 3)
  have e2 := one_new ((w.alloc zO).alloc (.cells #[.int .i64 0] 3)) (.cells #[.nilIface] 33)
  have e3 := one_new (((w.alloc zO).alloc (.cells #[.int .i64 0] 3)).alloc (.cells #[.nilIface] 33)) (.cells #[.string s, .int .i64 0, .int .i64 0] 47)
  rw [sz_new] at e1
  rw [sz_new, sz_new] at e2
  rw [sz_new, sz_new, sz_new] at e3
  refine ⟨e3, ((b1.trans (b2.mono (by omega))).trans (b3.mono (by omega))).trans (b4.mono (by omega)), ?_, ?_, ?_, by rw [sz_new, sz_new, sz_new, sz_new]⟩
  · rw [b4.block _ (by omega), b3.block _ (by omega), b2.block _ (by omega)]; exact e0
  · rw [b4.block _ (by omega), b3.block _ (by omega)]; exact e1
  · rw [b4.block _ (by omega)]; exact e2
set_option maxRecDepth 100000 in
set_option maxHeartbeats 8000000 in
theorem parse_any (s : ByteArray) (w : World) (hV : Vr w) :
    Calls Tryz.prog 5 #[.string s] w fun e w' => ParseP w s e w' := by
  obtain ⟨post, hpost⟩ : ∃ post, post = ParseP w s := ⟨_, rfl⟩
  rw [← hpost]
  have HPO : Hid (post = ParseP w s) := hpost
  clear hpost
  have HVR : Hid (Vr w) := hV
  clear hV
  have hmf : ∀ (fn : Fn) (first cap : Array Value) (w : World), (Instr.makeFunc fn first cap).run Tryz.prog w = .ok (.func fn first cap) w := fun _ _ _ _ => rfl
  by_cases hs : 60000 < s.size
  · have g1 : (60000 : Int) < s.size := by omega
    go_enter_defers Tryz.func5, Tryz.ntmps5
    go_wp2
    have HEND : Hid (post (.returned (.tuple #[tval zU, .int .i64 (0 : Nat), .iface 43 (.int .i64 4)])) (((w.alloc zO).alloc (.cells #[.int .i64 0] 3)).alloc (.cells #[.iface 43 (.int .i64 4)] 33))) := by
      show post _ _
      rw [HPO.out]
      exact ⟨Or.inl ⟨0, 4, rfl, by unfold prs; rw [if_pos hs]⟩, (((Below.refl _ _).alloc (Nat.le_refl _) _).alloc (by rw [sz_new]; omega) _).alloc (by rw [sz_new, sz_new]; omega) _⟩
    simp [bodyPostD, Leaves, results, Tryz.results5, go_sem]
    exact HEND.out
  · have g1 : (s.size : Int) ≤ 60000 := by omega
    have HS : Hid (s.size ≤ 60000) := by show _ ≤ _; omega
    clear hs
    have HW0 : Hid (RB ((((w.alloc zO).alloc (.cells #[.int .i64 0] 3)).alloc (.cells #[.nilIface] 33)).alloc (.cells #[.string s, .int .i64 0, .int .i64 0] 47)) (w.heap.size + 3) s 0 0 ∧ Below w.heap.size w ((((w.alloc zO).alloc (.cells #[.int .i64 0] 3)).alloc (.cells #[.nilIface] 33)).alloc (.cells #[.string s, .int .i64 0, .int .i64 0] 47)) ∧ ((((w.alloc zO).alloc (.cells #[.int .i64 0] 3)).alloc (.cells #[.nilIface] 33)).alloc (.cells #[.string s, .int .i64 0, .int .i64 0] 47)).heap[w.heap.size]? = some zO ∧ ((((w.alloc zO).alloc (.cells #[.int .i64 0] 3)).alloc (.cells #[.nilIface] 33)).alloc (.cells #[.string s, .int .i64 0, .int .i64 0] 47)).heap[w.heap.size + 1]? = some (.cells #[.int .i64 0] 3) ∧ ((((w.alloc zO).alloc (.cells #[.int .i64 0] 3)).alloc (.cells #[.nilIface] 33)).alloc (.cells #[.string s, .int .i64 0, .int .i64 0] 47)).heap[w.heap.size + 2]? = some (.cells #[.nilIface] 33) ∧ ((((w.alloc zO).alloc (.cells #[.int .i64 0] 3)).alloc (.cells #[.nilIface] 33)).alloc (.cells #[.string s, .int .i64 0, .int .i64 0] 47)).heap.size = w.heap.size + 4) := four_new w s
    have ET := tree_all (p := w.heap.size + 3) HVR.out (by omega) HS.out (s.size + 1) 0 0 ((((w.alloc zO).alloc (.cells #[.int .i64 0] 3)).alloc (.cells #[.nilIface] 33)).alloc (.cells #[.string s, .int .i64 0, .int .i64 0] 47)) (by omega) HW0.out.1 (Nat.zero_le _) (by omega) HW0.out.2.1
    unfold zO at ET
    go_enter_defers Tryz.func5, Tryz.ntmps5
    go_wp2_with fail
    refine Calls.mono ET ?_
    rintro e w3 hT
    clear ET
    rcases hT with ⟨u, T, k', rfl, hI, hF, hlt, hle, hrb, hrk⟩ | ⟨v, rfl, _, ⟨fk, fx, rfl, hno⟩, hrk⟩
    rotate_left
    · have P0 : Hid (w3.heap[w.heap.size]? = some (.cells #[.int .i64 0, .int .i64 0, .string ⟨#[]⟩, .int .i64 0, .int .i64 0, .slice none 0 0, .slice none 0 0] 29)) := (hrk.block _ (by have := HW0.out; unfold zO at this; omega) (by omega)).trans HW0.out.2.2.1
      have P1 : Hid (w3.heap[w.heap.size + 1]? = some (.cells #[.int .i64 0] 3)) := (hrk.block _ (by have := HW0.out; unfold zO at this; omega) (by omega)).trans HW0.out.2.2.2.1
      have P2 : Hid (w3.heap[w.heap.size + 2]? = some (.cells #[.nilIface] 33)) := (hrk.block _ (by have := HW0.out; unfold zO at this; omega) (by omega)).trans HW0.out.2.2.2.2.1
      have PB : Hid (Below w.heap.size w w3) := hrk.low (by omega) HW0.out.2.1
      have PN : Hid (prs s = .error (fk, fx)) := prs_bad HS.out hno
      clear hno hrk
      go_wp2_with fail
      refine leaves_cons (f := 9) (args := #[.pointer (some ⟨w.heap.size, 0, none⟩), .pointer (some ⟨w.heap.size + 1, 0, none⟩), .pointer (some ⟨w.heap.size + 2, 0, none⟩)]) (by simp) (by simp [go_sem]) ?_
      refine (catch_fault w.heap.size fk fx (.int .i64 0) (.int .i64 0) (.string ⟨#[]⟩) (.int .i64 0) (.int .i64 0) (.slice none 0 0) (.slice none 0 0) (.int .i64 0) .nilIface w3 P0.out P1.out P2.out).mono ?_
      rintro e u' W ⟨rfl, rfl, hB, z0, z1, z2⟩
      have HEND : Hid (post (.returned (.tuple #[tval zU, .int .i64 (fk : Nat), .iface 43 (.int .i64 fx)])) W) := by
        show post _ _
        rw [HPO.out]
        exact ⟨Or.inl ⟨fk, fx, rfl, PN.out⟩, PB.out.trans (hB)⟩
      unfold zO at z0
      have q0 : W.cell? ⟨w.heap.size, 0, none⟩ = some (.int .i64 0) := Lib.cell_of_heap z0 0
      have q1 : W.cell? ⟨w.heap.size, 1, none⟩ = some (.int .i64 0) := Lib.cell_of_heap z0 1
      have q2 : W.cell? ⟨w.heap.size, 2, none⟩ = some (.string ⟨#[]⟩) := Lib.cell_of_heap z0 2
      have q3 : W.cell? ⟨w.heap.size, 3, none⟩ = some (.int .i64 0) := Lib.cell_of_heap z0 3
      have q4 : W.cell? ⟨w.heap.size, 4, none⟩ = some (.int .i64 0) := Lib.cell_of_heap z0 4
      have q5 : W.cell? ⟨w.heap.size, 5, none⟩ = some (.slice none 0 0) := Lib.cell_of_heap z0 5
      have q6 : W.cell? ⟨w.heap.size, 6, none⟩ = some (.slice none 0 0) := Lib.cell_of_heap z0 6
      have q7 : W.cell? ⟨w.heap.size + 1, 0, none⟩ = some (.int .i64 (fk : Nat)) := Lib.cell_of_heap z1 0
      have q8 : W.cell? ⟨w.heap.size + 2, 0, none⟩ = some (.iface 43 (.int .i64 fx)) := Lib.cell_of_heap z2 0
      clear z0 z1 z2 hB
      simp [Leaves, settle, results, Tryz.results5, go_sem, q0, q1, q2, q3, q4, q5, q6, q7, q8]
      exact HEND.out
    obtain ⟨⟨yk, yn, yt, yo, ya⟩, a1, n1, c1, a2, n2, c2, hu⟩ := hI.plain.parts
    subst hu
    have Q0 : w3.heap[w.heap.size]? = some (.cells #[.int .i64 0, .int .i64 0, .string ⟨#[]⟩, .int .i64 0, .int .i64 0, .slice none 0 0, .slice none 0 0] 29) := (hrk.block _ (by have := HW0.out; unfold zO at this; omega) (by omega)).trans HW0.out.2.2.1
    have Q1 : w3.heap[w.heap.size + 1]? = some (.cells #[.int .i64 0] 3) := (hrk.block _ (by have := HW0.out; unfold zO at this; omega) (by omega)).trans HW0.out.2.2.2.1
    have Q2 : w3.heap[w.heap.size + 2]? = some (.cells #[.nilIface] 33) := (hrk.block _ (by have := HW0.out; unfold zO at this; omega) (by omega)).trans HW0.out.2.2.2.2.1
    have QB : Below w.heap.size w w3 := hrk.low (by omega) HW0.out.2.1
    have hI3 : IsTP (fun b => w.heap.size + 4 ≤ b) w3 (tval (⟨yk, yn, yt, yo, ya⟩, .slice a1 n1 c1, .slice a2 n2 c2)) T := hI.move (Nat.le_refl _) (fun _ _ _ => rfl) (fun b hb => by have := HW0.out.2.2.2.2.2; unfold zO at this; rw [this] at hb; exact hb)
    have P0 : Hid (((((((((w3.setCell ⟨w.heap.size, 0, none⟩ (.int .i64 yk)).setCell ⟨w.heap.size, 1, none⟩ (.int .i64 yn)).setCell ⟨w.heap.size, 2, none⟩ (.string yt)).setCell ⟨w.heap.size, 3, none⟩ (.int .i64 yo)).setCell ⟨w.heap.size, 4, none⟩ (.int .i64 ya)).setCell ⟨w.heap.size, 5, none⟩ (.slice a1 n1 c1)).setCell ⟨w.heap.size, 6, none⟩ (.slice a2 n2 c2))).heap[w.heap.size]? = some (.cells #[.int .i64 yk, .int .i64 yn, .string yt, .int .i64 yo, .int .i64 ya, .slice a1 n1 c1, .slice a2 n2 c2] 29)) := set7 Q0 (.int .i64 yk) (.int .i64 yn) (.string yt) (.int .i64 yo) (.int .i64 ya) (.slice a1 n1 c1) (.slice a2 n2 c2)
    have P1 : Hid (((((((((w3.setCell ⟨w.heap.size, 0, none⟩ (.int .i64 yk)).setCell ⟨w.heap.size, 1, none⟩ (.int .i64 yn)).setCell ⟨w.heap.size, 2, none⟩ (.string yt)).setCell ⟨w.heap.size, 3, none⟩ (.int .i64 yo)).setCell ⟨w.heap.size, 4, none⟩ (.int .i64 ya)).setCell ⟨w.heap.size, 5, none⟩ (.slice a1 n1 c1)).setCell ⟨w.heap.size, 6, none⟩ (.slice a2 n2 c2))).heap[w.heap.size + 1]? = some (.cells #[.int .i64 0] 3)) := set7_other Q1 (by omega) (.int .i64 yk) (.int .i64 yn) (.string yt) (.int .i64 yo) (.int .i64 ya) (.slice a1 n1 c1) (.slice a2 n2 c2)
    have P2 : Hid (((((((((w3.setCell ⟨w.heap.size, 0, none⟩ (.int .i64 yk)).setCell ⟨w.heap.size, 1, none⟩ (.int .i64 yn)).setCell ⟨w.heap.size, 2, none⟩ (.string yt)).setCell ⟨w.heap.size, 3, none⟩ (.int .i64 yo)).setCell ⟨w.heap.size, 4, none⟩ (.int .i64 ya)).setCell ⟨w.heap.size, 5, none⟩ (.slice a1 n1 c1)).setCell ⟨w.heap.size, 6, none⟩ (.slice a2 n2 c2))).heap[w.heap.size + 2]? = some (.cells #[.nilIface] 33)) := set7_other Q2 (by omega) (.int .i64 yk) (.int .i64 yn) (.string yt) (.int .i64 yo) (.int .i64 ya) (.slice a1 n1 c1) (.slice a2 n2 c2)
    have P3 : Hid (((((((((w3.setCell ⟨w.heap.size, 0, none⟩ (.int .i64 yk)).setCell ⟨w.heap.size, 1, none⟩ (.int .i64 yn)).setCell ⟨w.heap.size, 2, none⟩ (.string yt)).setCell ⟨w.heap.size, 3, none⟩ (.int .i64 yo)).setCell ⟨w.heap.size, 4, none⟩ (.int .i64 ya)).setCell ⟨w.heap.size, 5, none⟩ (.slice a1 n1 c1)).setCell ⟨w.heap.size, 6, none⟩ (.slice a2 n2 c2))).heap[w.heap.size + 3]? = some _) := set7_other hrb (by omega) (.int .i64 yk) (.int .i64 yn) (.string yt) (.int .i64 yo) (.int .i64 ya) (.slice a1 n1 c1) (.slice a2 n2 c2)
    have PB : Hid (Below w.heap.size w (((((((w3.setCell ⟨w.heap.size, 0, none⟩ (.int .i64 yk)).setCell ⟨w.heap.size, 1, none⟩ (.int .i64 yn)).setCell ⟨w.heap.size, 2, none⟩ (.string yt)).setCell ⟨w.heap.size, 3, none⟩ (.int .i64 yo)).setCell ⟨w.heap.size, 4, none⟩ (.int .i64 ya)).setCell ⟨w.heap.size, 5, none⟩ (.slice a1 n1 c1)).setCell ⟨w.heap.size, 6, none⟩ (.slice a2 n2 c2))) := set7_below QB (Nat.le_refl _) (.int .i64 yk) (.int .i64 yn) (.string yt) (.int .i64 yo) (.int .i64 ya) (.slice a1 n1 c1) (.slice a2 n2 c2)
    have PI : Hid (IsTP (fun b => w.heap.size + 4 ≤ b) (((((((w3.setCell ⟨w.heap.size, 0, none⟩ (.int .i64 yk)).setCell ⟨w.heap.size, 1, none⟩ (.int .i64 yn)).setCell ⟨w.heap.size, 2, none⟩ (.string yt)).setCell ⟨w.heap.size, 3, none⟩ (.int .i64 yo)).setCell ⟨w.heap.size, 4, none⟩ (.int .i64 ya)).setCell ⟨w.heap.size, 5, none⟩ (.slice a1 n1 c1)).setCell ⟨w.heap.size, 6, none⟩ (.slice a2 n2 c2)) (tval (⟨yk, yn, yt, yo, ya⟩, .slice a1 n1 c1, .slice a2 n2 c2)) T) := by
      have h7 : Below w.heap.size w3 (((((((w3.setCell ⟨w.heap.size, 0, none⟩ (.int .i64 yk)).setCell ⟨w.heap.size, 1, none⟩ (.int .i64 yn)).setCell ⟨w.heap.size, 2, none⟩ (.string yt)).setCell ⟨w.heap.size, 3, none⟩ (.int .i64 yo)).setCell ⟨w.heap.size, 4, none⟩ (.int .i64 ya)).setCell ⟨w.heap.size, 5, none⟩ (.slice a1 n1 c1)).setCell ⟨w.heap.size, 6, none⟩ (.slice a2 n2 c2)) := set7_below (Below.refl _ _) (Nat.le_refl _) (.int .i64 yk) (.int .i64 yn) (.string yt) (.int .i64 yo) (.int .i64 ya) (.slice a1 n1 c1) (.slice a2 n2 c2)
      refine hI3.move h7.size (fun b hb hlt => ?_) (fun _ h => h)
      have h9 : w3.heap[b]? = some w3.heap[b] := Array.getElem?_eq_getElem hlt
      rw [h9]
      exact set7_other h9 (by omega) (.int .i64 yk) (.int .i64 yn) (.string yt) (.int .i64 yo) (.int .i64 ya) (.slice a1 n1 c1) (.slice a2 n2 c2)
    have HF : Hid (FX (s.size + 1) s 0 0 T k' ∧ k' ≤ s.size) := ⟨hF, hle⟩
    have r0 : w3.cell? ⟨w.heap.size, 0, none⟩ = some (.int .i64 0) := Lib.cell_of_heap Q0 0
    have r1 : w3.cell? ⟨w.heap.size, 1, none⟩ = some (.int .i64 0) := Lib.cell_of_heap Q0 1
    have r2 : w3.cell? ⟨w.heap.size, 2, none⟩ = some (.string ⟨#[]⟩) := Lib.cell_of_heap Q0 2
    have r3 : w3.cell? ⟨w.heap.size, 3, none⟩ = some (.int .i64 0) := Lib.cell_of_heap Q0 3
    have r4 : w3.cell? ⟨w.heap.size, 4, none⟩ = some (.int .i64 0) := Lib.cell_of_heap Q0 4
    have r5 : w3.cell? ⟨w.heap.size, 5, none⟩ = some (.slice none 0 0) := Lib.cell_of_heap Q0 5
    have r6 : w3.cell? ⟨w.heap.size, 6, none⟩ = some (.slice none 0 0) := Lib.cell_of_heap Q0 6
    have zf := Lib.frozen_of_heap Q0
    clear hI hI3 hF hlt hle hrb hrk Q0 Q1 Q2 QB HW0 HVR
    unfold tval
    dsimp only
    go_upto_region 6 with fail
    clear r0 r1 r2 r3 r4 r5 r6 zf
    generalize (((((((w3.setCell ⟨w.heap.size, 0, none⟩ (.int .i64 yk)).setCell ⟨w.heap.size, 1, none⟩ (.int .i64 yn)).setCell ⟨w.heap.size, 2, none⟩ (.string yt)).setCell ⟨w.heap.size, 3, none⟩ (.int .i64 yo)).setCell ⟨w.heap.size, 4, none⟩ (.int .i64 ya)).setCell ⟨w.heap.size, 5, none⟩ (.slice a1 n1 c1)).setCell ⟨w.heap.size, 6, none⟩ (.slice a2 n2 c2)) = W5 at *
    have d1 : W5.cell? ⟨w.heap.size + 3, 1, none⟩ = some (.int .i64 (k' : Int)) := Lib.cell_of_heap P3.out 1
    by_cases hlt : k' < s.size
    · have g2 : (k' : Int) < s.size := by omega
      have PN : Hid (prs s = .error (k', 2)) := prs_more HS.out HF.out.1.ok hlt
      clear hlt
      go_wp2
      refine leaves_cons (f := 9) (args := #[.pointer (some ⟨w.heap.size, 0, none⟩), .pointer (some ⟨w.heap.size + 1, 0, none⟩), .pointer (some ⟨w.heap.size + 2, 0, none⟩)]) (by simp) (by simp [go_sem]) ?_
      refine (catch_fault w.heap.size k' 2 (.int .i64 yk) (.int .i64 yn) (.string yt) (.int .i64 yo) (.int .i64 ya) (.slice a1 n1 c1) (.slice a2 n2 c2) (.int .i64 0) .nilIface W5 P0.out P1.out P2.out).mono ?_
      rintro e u' W ⟨rfl, rfl, hB, z0, z1, z2⟩
      have HEND : Hid (post (.returned (.tuple #[tval zU, .int .i64 (k' : Nat), .iface 43 (.int .i64 2)])) W) := by
        show post _ _
        rw [HPO.out]
        exact ⟨Or.inl ⟨k', 2, rfl, PN.out⟩, PB.out.trans hB⟩
      unfold zO at z0
      have q0 : W.cell? ⟨w.heap.size, 0, none⟩ = some (.int .i64 0) := Lib.cell_of_heap z0 0
      have q1 : W.cell? ⟨w.heap.size, 1, none⟩ = some (.int .i64 0) := Lib.cell_of_heap z0 1
      have q2 : W.cell? ⟨w.heap.size, 2, none⟩ = some (.string ⟨#[]⟩) := Lib.cell_of_heap z0 2
      have q3 : W.cell? ⟨w.heap.size, 3, none⟩ = some (.int .i64 0) := Lib.cell_of_heap z0 3
      have q4 : W.cell? ⟨w.heap.size, 4, none⟩ = some (.int .i64 0) := Lib.cell_of_heap z0 4
      have q5 : W.cell? ⟨w.heap.size, 5, none⟩ = some (.slice none 0 0) := Lib.cell_of_heap z0 5
      have q6 : W.cell? ⟨w.heap.size, 6, none⟩ = some (.slice none 0 0) := Lib.cell_of_heap z0 6
      have q7 : W.cell? ⟨w.heap.size + 1, 0, none⟩ = some (.int .i64 (k' : Nat)) := Lib.cell_of_heap z1 0
      have q8 : W.cell? ⟨w.heap.size + 2, 0, none⟩ = some (.iface 43 (.int .i64 2)) := Lib.cell_of_heap z2 0
      clear z0 z1 z2 hB
      simp [Leaves, settle, results, Tryz.results5, go_sem, q0, q1, q2, q3, q4, q5, q6, q7, q8]
      exact HEND.out
    · have g2 : ¬ (k' : Int) < s.size := by omega
      have PT : Hid (T.size ≤ 400 ∧ prs s = .ok T) := ⟨by have := HF.out.1.gd.few; omega, prs_ok HS.out HF.out.1.ok hlt⟩
      clear hlt
      have b0 : W5.cell? ⟨w.heap.size, 0, none⟩ = some (.int .i64 yk) := Lib.cell_of_heap P0.out 0
      have b1 : W5.cell? ⟨w.heap.size, 1, none⟩ = some (.int .i64 yn) := Lib.cell_of_heap P0.out 1
      have b2 : W5.cell? ⟨w.heap.size, 2, none⟩ = some (.string yt) := Lib.cell_of_heap P0.out 2
      have b3 : W5.cell? ⟨w.heap.size, 3, none⟩ = some (.int .i64 yo) := Lib.cell_of_heap P0.out 3
      have b4 : W5.cell? ⟨w.heap.size, 4, none⟩ = some (.int .i64 ya) := Lib.cell_of_heap P0.out 4
      have b5 : W5.cell? ⟨w.heap.size, 5, none⟩ = some (.slice a1 n1 c1) := Lib.cell_of_heap P0.out 5
      have b6 : W5.cell? ⟨w.heap.size, 6, none⟩ = some (.slice a2 n2 c2) := Lib.cell_of_heap P0.out 6
      have zf := Lib.frozen_of_heap P0.out
      have y1 : W5.cell? ⟨w.heap.size + 1, 0, none⟩ = some (.int .i64 0) := Lib.cell_of_heap P1.out 0
      have yf := Lib.frozen_of_heap P1.out
      have y2 : W5.cell? ⟨w.heap.size + 2, 0, none⟩ = some .nilIface := Lib.cell_of_heap P2.out 0
      have xf := Lib.frozen_of_heap P2.out
      go_wp2_with fail
      clear b0 b1 b2 b3 b4 b5 b6 zf y1 yf y2 xf d1
      have R0 : ((((((((W5.setCell ⟨w.heap.size, 0, none⟩ (.int .i64 yk)).setCell ⟨w.heap.size, 1, none⟩ (.int .i64 yn)).setCell ⟨w.heap.size, 2, none⟩ (.string yt)).setCell ⟨w.heap.size, 3, none⟩ (.int .i64 yo)).setCell ⟨w.heap.size, 4, none⟩ (.int .i64 ya)).setCell ⟨w.heap.size, 5, none⟩ (.slice a1 n1 c1)).setCell ⟨w.heap.size, 6, none⟩ (.slice a2 n2 c2))).heap[w.heap.size]? = some (.cells #[.int .i64 yk, .int .i64 yn, .string yt, .int .i64 yo, .int .i64 ya, .slice a1 n1 c1, .slice a2 n2 c2] 29) := set7 P0.out (.int .i64 yk) (.int .i64 yn) (.string yt) (.int .i64 yo) (.int .i64 ya) (.slice a1 n1 c1) (.slice a2 n2 c2)
      have R1 : ((((((((W5.setCell ⟨w.heap.size, 0, none⟩ (.int .i64 yk)).setCell ⟨w.heap.size, 1, none⟩ (.int .i64 yn)).setCell ⟨w.heap.size, 2, none⟩ (.string yt)).setCell ⟨w.heap.size, 3, none⟩ (.int .i64 yo)).setCell ⟨w.heap.size, 4, none⟩ (.int .i64 ya)).setCell ⟨w.heap.size, 5, none⟩ (.slice a1 n1 c1)).setCell ⟨w.heap.size, 6, none⟩ (.slice a2 n2 c2))).heap[w.heap.size + 1]? = some (.cells #[.int .i64 0] 3) := set7_other P1.out (by omega) (.int .i64 yk) (.int .i64 yn) (.string yt) (.int .i64 yo) (.int .i64 ya) (.slice a1 n1 c1) (.slice a2 n2 c2)
      have R2 : ((((((((W5.setCell ⟨w.heap.size, 0, none⟩ (.int .i64 yk)).setCell ⟨w.heap.size, 1, none⟩ (.int .i64 yn)).setCell ⟨w.heap.size, 2, none⟩ (.string yt)).setCell ⟨w.heap.size, 3, none⟩ (.int .i64 yo)).setCell ⟨w.heap.size, 4, none⟩ (.int .i64 ya)).setCell ⟨w.heap.size, 5, none⟩ (.slice a1 n1 c1)).setCell ⟨w.heap.size, 6, none⟩ (.slice a2 n2 c2))).heap[w.heap.size + 2]? = some (.cells #[.nilIface] 33) := set7_other P2.out (by omega) (.int .i64 yk) (.int .i64 yn) (.string yt) (.int .i64 yo) (.int .i64 ya) (.slice a1 n1 c1) (.slice a2 n2 c2)
      have RB7 : Below w.heap.size w (((((((W5.setCell ⟨w.heap.size, 0, none⟩ (.int .i64 yk)).setCell ⟨w.heap.size, 1, none⟩ (.int .i64 yn)).setCell ⟨w.heap.size, 2, none⟩ (.string yt)).setCell ⟨w.heap.size, 3, none⟩ (.int .i64 yo)).setCell ⟨w.heap.size, 4, none⟩ (.int .i64 ya)).setCell ⟨w.heap.size, 5, none⟩ (.slice a1 n1 c1)).setCell ⟨w.heap.size, 6, none⟩ (.slice a2 n2 c2)) := set7_below PB.out (Nat.le_refl _) (.int .i64 yk) (.int .i64 yn) (.string yt) (.int .i64 yo) (.int .i64 ya) (.slice a1 n1 c1) (.slice a2 n2 c2)
      have RI : IsTP (fun b => w.heap.size + 4 ≤ b) (((((((W5.setCell ⟨w.heap.size, 0, none⟩ (.int .i64 yk)).setCell ⟨w.heap.size, 1, none⟩ (.int .i64 yn)).setCell ⟨w.heap.size, 2, none⟩ (.string yt)).setCell ⟨w.heap.size, 3, none⟩ (.int .i64 yo)).setCell ⟨w.heap.size, 4, none⟩ (.int .i64 ya)).setCell ⟨w.heap.size, 5, none⟩ (.slice a1 n1 c1)).setCell ⟨w.heap.size, 6, none⟩ (.slice a2 n2 c2)) (tval (⟨yk, yn, yt, yo, ya⟩, .slice a1 n1 c1, .slice a2 n2 c2)) T := by
        have h7 : Below w.heap.size W5 (((((((W5.setCell ⟨w.heap.size, 0, none⟩ (.int .i64 yk)).setCell ⟨w.heap.size, 1, none⟩ (.int .i64 yn)).setCell ⟨w.heap.size, 2, none⟩ (.string yt)).setCell ⟨w.heap.size, 3, none⟩ (.int .i64 yo)).setCell ⟨w.heap.size, 4, none⟩ (.int .i64 ya)).setCell ⟨w.heap.size, 5, none⟩ (.slice a1 n1 c1)).setCell ⟨w.heap.size, 6, none⟩ (.slice a2 n2 c2)) := set7_below (Below.refl _ _) (Nat.le_refl _) (.int .i64 yk) (.int .i64 yn) (.string yt) (.int .i64 yo) (.int .i64 ya) (.slice a1 n1 c1) (.slice a2 n2 c2)
        refine PI.out.move h7.size (fun b hb hlt => ?_) (fun _ h => h)
        have h9 : W5.heap[b]? = some W5.heap[b] := Array.getElem?_eq_getElem hlt
        rw [h9]
        exact set7_other h9 (by omega) (.int .i64 yk) (.int .i64 yn) (.string yt) (.int .i64 yo) (.int .i64 ya) (.slice a1 n1 c1) (.slice a2 n2 c2)
      generalize (((((((W5.setCell ⟨w.heap.size, 0, none⟩ (.int .i64 yk)).setCell ⟨w.heap.size, 1, none⟩ (.int .i64 yn)).setCell ⟨w.heap.size, 2, none⟩ (.string yt)).setCell ⟨w.heap.size, 3, none⟩ (.int .i64 yo)).setCell ⟨w.heap.size, 4, none⟩ (.int .i64 ya)).setCell ⟨w.heap.size, 5, none⟩ (.slice a1 n1 c1)).setCell ⟨w.heap.size, 6, none⟩ (.slice a2 n2 c2)) = W6 at R0 R1 R2 RB7 RI ⊢
      have S0 : ((W6.setCell ⟨w.heap.size + 1, 0, none⟩ (.int .i64 0)).setCell ⟨w.heap.size + 2, 0, none⟩ .nilIface).heap[w.heap.size]? = some (.cells #[.int .i64 yk, .int .i64 yn, .string yt, .int .i64 yo, .int .i64 ya, .slice a1 n1 c1, .slice a2 n2 c2] 29) := by
        rw [Below.heap_setCell _ _ _ _ (by simp), Below.heap_setCell _ _ _ _ (by simp)]
        exact R0
      have S1 : ((W6.setCell ⟨w.heap.size + 1, 0, none⟩ (.int .i64 0)).setCell ⟨w.heap.size + 2, 0, none⟩ .nilIface).heap[w.heap.size + 1]? = some (.cells #[.int .i64 0] 3) := by
        rw [Below.heap_setCell _ _ _ _ (by simp), set_atR R1 0 _]
        rfl
      have S2 : ((W6.setCell ⟨w.heap.size + 1, 0, none⟩ (.int .i64 0)).setCell ⟨w.heap.size + 2, 0, none⟩ .nilIface).heap[w.heap.size + 2]? = some (.cells #[.nilIface] 33) := by
        have h9 : (W6.setCell ⟨w.heap.size + 1, 0, none⟩ (.int .i64 0)).heap[w.heap.size + 2]? = some (.cells #[.nilIface] 33) := by
          rw [Below.heap_setCell _ _ _ _ (by simp)]
          exact R2
        rw [set_atR h9 0 _]
        rfl
      have SB : Below w.heap.size w ((W6.setCell ⟨w.heap.size + 1, 0, none⟩ (.int .i64 0)).setCell ⟨w.heap.size + 2, 0, none⟩ .nilIface) := (RB7.setCell (by simp) _).setCell (by simp) _
      have SI : IsTP (fun b => w.heap.size ≤ b) ((W6.setCell ⟨w.heap.size + 1, 0, none⟩ (.int .i64 0)).setCell ⟨w.heap.size + 2, 0, none⟩ .nilIface) (tval (⟨yk, yn, yt, yo, ya⟩, .slice a1 n1 c1, .slice a2 n2 c2)) T := by
        refine RI.move (by simp) (fun b hb hlt => ?_) (fun b hb => by omega)
        rw [Below.heap_setCell _ _ _ _ (by simp; omega), Below.heap_setCell _ _ _ _ (by simp; omega)]
      refine leaves_cons (f := 9) (args := #[.pointer (some ⟨w.heap.size, 0, none⟩), .pointer (some ⟨w.heap.size + 1, 0, none⟩), .pointer (some ⟨w.heap.size + 2, 0, none⟩)]) (by simp) (by simp [go_sem]) ?_
      refine (catch_idle _ _ _ _).mono ?_
      rintro e u' W ⟨rfl, rfl, rfl⟩
      generalize (W6.setCell ⟨w.heap.size + 1, 0, none⟩ (.int .i64 0)).setCell ⟨w.heap.size + 2, 0, none⟩ .nilIface = W at *
      have HEND : Hid (post (.returned (.tuple #[tval (⟨yk, yn, yt, yo, ya⟩, .slice a1 n1 c1, .slice a2 n2 c2), .int .i64 0, .nilIface])) W) := by
        show post _ _
        rw [HPO.out]
        exact ⟨Or.inr ⟨_, T, rfl, SI, PT.out.1, PT.out.2⟩, SB⟩
      have q0 : W.cell? ⟨w.heap.size, 0, none⟩ = some (.int .i64 yk) := Lib.cell_of_heap S0 0
      have q1 : W.cell? ⟨w.heap.size, 1, none⟩ = some (.int .i64 yn) := Lib.cell_of_heap S0 1
      have q2 : W.cell? ⟨w.heap.size, 2, none⟩ = some (.string yt) := Lib.cell_of_heap S0 2
      have q3 : W.cell? ⟨w.heap.size, 3, none⟩ = some (.int .i64 yo) := Lib.cell_of_heap S0 3
      have q4 : W.cell? ⟨w.heap.size, 4, none⟩ = some (.int .i64 ya) := Lib.cell_of_heap S0 4
      have q5 : W.cell? ⟨w.heap.size, 5, none⟩ = some (.slice a1 n1 c1) := Lib.cell_of_heap S0 5
      have q6 : W.cell? ⟨w.heap.size, 6, none⟩ = some (.slice a2 n2 c2) := Lib.cell_of_heap S0 6
      have q7 : W.cell? ⟨w.heap.size + 1, 0, none⟩ = some (.int .i64 0) := Lib.cell_of_heap S1 0
      have q8 : W.cell? ⟨w.heap.size + 2, 0, none⟩ = some .nilIface := Lib.cell_of_heap S2 0
      clear S0 S1 S2 SB SI
      simp [Leaves, settle, results, Tryz.results5, go_sem, q0, q1, q2, q3, q4, q5, q6, q7, q8]
      exact HEND.out
end Go.Proofs.YtnmdhbejjjmdeaaGreatDoor
