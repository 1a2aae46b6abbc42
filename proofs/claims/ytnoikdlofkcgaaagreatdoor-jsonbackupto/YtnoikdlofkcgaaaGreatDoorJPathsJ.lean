/-
  What is proved: the function Paths of package json, called with a tree and a value that lie in memory, answers the paths of all trees in it with that value, or what is wrong.
  Conditions: the tree lies in memory.
-/
import Derived.Test.YtnoikdlofkcgaaaGreatDoorJWalk
import Derived.Test.YtnoikdlofkcgaaaGreatDoorJGetJ
import Derived.Laws.EntriesVeiled
namespace Go.Proofs.YtnoikdlofkcgaaaGreatDoor
open Go.RowKit Go.Sort

/-- What is wrong with a tree, or else with a value. -/
def pathE (T : JT) (y : V) : Int := if chkT T = 0 then (if valB y = true then 0 else 1) else chkT T
/-- The paths, where nothing is wrong. -/
def pathR (T : JT) (y : V) : List (List Stp) := if pathE T y = 0 then pathsT y T [] else []
/-- What Paths answers. -/
def PathsJP (B : Nat) (w : World) (T : JT) (y : V) (e : Ending) : Prop := ∃ r, e = .returned (.tuple #[r, errV (pathE T y)]) ∧ RP B w r (pathR T y)

set_option maxRecDepth 100000 in
set_option maxHeartbeats 8000000 in
theorem pathsJ_any {v : Value} {T : JT} (y : V) (w : World) (h : IsT w v T) :
    Calls Tryz.prog 7 #[v, y.val] w fun e w' => PathsJP w.heap.size w' T y e ∧ Below w.heap.size w w' := by
  obtain ⟨u, rfl⟩ := h.of_val
  obtain ⟨N⟩ := h.node
  obtain ⟨a1, c1, a2, c2, us, hu, -, -, -, -, -, -⟩ := N
  subst hu
  have hvv := fun W => isValue_any y W
  obtain ⟨yk, yn, yt, yo, ya⟩ := y
  obtain ⟨x0, y0, b0⟩ := two_boxes w (.cells #[.int .i64 T.x.k, .int .i64 T.x.n, .string T.x.t, .int .i64 T.x.o, .int .i64 T.x.a, .slice a1 T.ks.length c1, .slice a2 T.ts.length c2] 29) (.cells #[.int .i64 yk, .int .i64 yn, .string yt, .int .i64 yo, .int .i64 ya] 25)
  have E1 := checkT_any _ (h.stay b0)
  have HT : Hid (IsT w (tval (T.x, .slice a1 T.ks.length c1, .slice a2 T.ts.length c2)) T) := h
  have HE : Hid (pathE T ⟨yk, yn, yt, yo, ya⟩ = if chkT T = 0 then (if valB ⟨yk, yn, yt, yo, ya⟩ = true then 0 else 1) else chkT T) := rfl
  have HR : Hid (pathR T ⟨yk, yn, yt, yo, ya⟩ = if pathE T ⟨yk, yn, yt, yo, ya⟩ = 0 then pathsT ⟨yk, yn, yt, yo, ya⟩ T [] else []) := rfl
  have HZ : Hid (chkT T = 0 → formedB T = true ∧ T.size ≤ 400) := chkT_zero
  have HX : Hid (_ = some (Obj.cells #[.int .i64 T.x.k, .int .i64 T.x.n, .string T.x.t, .int .i64 T.x.o, .int .i64 T.x.a, .slice a1 T.ks.length c1, .slice a2 T.ts.length c2] 29)) := x0
  have HY : Hid (_ = some (Obj.cells #[.int .i64 yk, .int .i64 yn, .string yt, .int .i64 yo, .int .i64 ya] 25)) := y0
  have HB : Hid (Below w.heap.size w _) := b0
  have HV : Hid (∀ W, Calls Tryz.prog 14 #[V.val ⟨yk, yn, yt, yo, ya⟩] W fun e w' => e = .returned (.bool (valB ⟨yk, yn, yt, yo, ya⟩)) ∧ Below W.heap.size W w') := hvv
  clear h x0 y0 b0 hvv
  unfold tval V.val at *
  dsimp only at *
  by_cases hc : chkT T = 0
  · rw [if_pos hc] at E1
    have HC : Hid (chkT T = 0) := hc
    clear hc
    go_enter Tryz.func7, Tryz.ntmps7
    go_wp2_with fail
    go_fit E1
    rintro e w1 ⟨rfl, b1⟩
    have HX1 : Hid (w1.heap[w.heap.size]? = some _) := (b1.block _ (lt_of_heap HX.out)).trans HX.out
    have HY1 : Hid (w1.heap[w.heap.size + 1]? = some _) := (b1.block _ (lt_of_heap HY.out)).trans HY.out
    have HB1 : Hid (Below w.heap.size w w1) := HB.out.trans (b1.mono HB.out.size)
    clear b1 E1 HX HY HB
    have l0 : w1.cell? ⟨w.heap.size + 1, 0, none⟩ = some (.int .i64 yk) := Lib.cell_of_heap HY1.out 0
    have l1 : w1.cell? ⟨w.heap.size + 1, 1, none⟩ = some (.int .i64 yn) := Lib.cell_of_heap HY1.out 1
    have l2 : w1.cell? ⟨w.heap.size + 1, 2, none⟩ = some (.string yt) := Lib.cell_of_heap HY1.out 2
    have l3 : w1.cell? ⟨w.heap.size + 1, 3, none⟩ = some (.int .i64 yo) := Lib.cell_of_heap HY1.out 3
    have l4 : w1.cell? ⟨w.heap.size + 1, 4, none⟩ = some (.int .i64 ya) := Lib.cell_of_heap HY1.out 4
    have E2 := HV.out w1
    clear HV
    obtain ⟨vb, HVB⟩ : ∃ vb, Hid (valB ⟨yk, yn, yt, yo, ya⟩ = vb) := ⟨_, rfl⟩
    rw [HVB.out] at E2
    go_wp2_with fail
    go_fit E2
    rintro e w2 ⟨rfl, b2⟩
    have HX2 : Hid (w2.heap[w.heap.size]? = some _) := (b2.block _ (lt_of_heap HX1.out)).trans HX1.out
    have HY2 : Hid (w2.heap[w.heap.size + 1]? = some _) := (b2.block _ (lt_of_heap HY1.out)).trans HY1.out
    have HB2 : Hid (Below w.heap.size w w2) := HB1.out.trans (b2.mono HB1.out.size)
    clear b2 E2 HX1 HY1 HB1 l0 l1 l2 l3 l4
    cases vb with
    | false =>
      have HRE : Hid (pathE T ⟨yk, yn, yt, yo, ya⟩ = 1) := by show pathE _ _ = 1; rw [HE.out, if_pos HC.out, HVB.out]; rfl
      have HRR : Hid (pathR T ⟨yk, yn, yt, yo, ya⟩ = []) := by show pathR _ _ = []; rw [HR.out, HRE.out]; rfl
      go_wp2
      go_returns
      exact ⟨⟨_, by rw [HRE.out]; rfl, by rw [HRR.out]; exact RP.nil _ _⟩, HB2.out⟩
    | true =>
      have HRE : Hid (pathE T ⟨yk, yn, yt, yo, ya⟩ = 0) := by show pathE _ _ = 0; rw [HE.out, if_pos HC.out, HVB.out]; rfl
      have HRR : Hid (pathR T ⟨yk, yn, yt, yo, ya⟩ = pathsT ⟨yk, yn, yt, yo, ya⟩ T []) := by show pathR _ _ = _; rw [HR.out, HRE.out]; rfl
      -- the list's box and the function's
      obtain ⟨z0, z1, b3⟩ := two_boxes w2 (.cells #[.slice none 0 0] 37) (.cells #[(.func (Fn.func 15) #[] #[.pointer (some ⟨w.heap.size + 1, 0, none⟩), .pointer (some ⟨w2.heap.size, 0, none⟩), .pointer (some ⟨w2.heap.size + 1, 0, none⟩)])] 58)
      have hlt := lt_of_heap HY2.out
      have HF4 : Hid (_ = some (Obj.cells #[(.func (Fn.func 15) #[] #[.pointer (some ⟨w.heap.size + 1, 0, none⟩), .pointer (some ⟨w2.heap.size, 0, none⟩), .pointer (some ⟨w2.heap.size + 1, 0, none⟩)])] 58)) := z1
      have HL4 : Hid (_ = some (Obj.cells #[.slice none 0 0] 37)) := z0
      have HY4 : Hid (((w2.alloc (.cells #[.slice none 0 0] 37)).alloc (.cells #[(.func (Fn.func 15) #[] #[.pointer (some ⟨w.heap.size + 1, 0, none⟩), .pointer (some ⟨w2.heap.size, 0, none⟩), .pointer (some ⟨w2.heap.size + 1, 0, none⟩)])] 58)).heap[w.heap.size + 1]? = some _) := (b3.block _ (lt_of_heap HY2.out)).trans HY2.out
      have HX4 : Hid (((w2.alloc (.cells #[.slice none 0 0] 37)).alloc (.cells #[(.func (Fn.func 15) #[] #[.pointer (some ⟨w.heap.size + 1, 0, none⟩), .pointer (some ⟨w2.heap.size, 0, none⟩), .pointer (some ⟨w2.heap.size + 1, 0, none⟩)])] 58)).heap[w.heap.size]? = some _) := (b3.block _ (lt_of_heap HX2.out)).trans HX2.out
      have HB4 : Hid (Below w.heap.size w ((w2.alloc (.cells #[.slice none 0 0] 37)).alloc (.cells #[(.func (Fn.func 15) #[] #[.pointer (some ⟨w.heap.size + 1, 0, none⟩), .pointer (some ⟨w2.heap.size, 0, none⟩), .pointer (some ⟨w2.heap.size + 1, 0, none⟩)])] 58))) := HB2.out.trans (b3.mono HB2.out.size)
      have HLT : Hid (w.heap.size + 1 < w2.heap.size) := hlt
      clear z0 z1 b3 hlt HX2 HY2 HB2
      go_upto_region 9 with fail
      generalize ((w2.alloc (.cells #[.slice none 0 0] 37)).alloc (.cells #[(.func (Fn.func 15) #[] #[.pointer (some ⟨w.heap.size + 1, 0, none⟩), .pointer (some ⟨w2.heap.size, 0, none⟩), .pointer (some ⟨w2.heap.size + 1, 0, none⟩)])] 58)) = W4 at *
      have PS4 : PS w.heap.size (w.heap.size + 1) w2.heap.size (w2.heap.size + 1) ⟨yk, yn, yt, yo, ya⟩ [] W4 := ⟨HY4.out, HF4.out, none, 0, 0, HL4.out, RP.nil _ _⟩
      have hz := HZ.out HC.out
      have E3 := walk_any HT.out ⟨yk, yn, yt, yo, ya⟩ (w.heap.size + 1) w2.heap.size (w2.heap.size + 1) (by have := HLT.out; omega) W4 [] (.slice none 0 0) [] HB4.out PS4 (RS.nil _ _) hz.1 hz.2 (by simp; omega) (by simp; omega)
      have f0 : W4.cell? ⟨w2.heap.size + 1, 0, none⟩ = some (.func (Fn.func 15) #[] #[.pointer (some ⟨w.heap.size + 1, 0, none⟩), .pointer (some ⟨w2.heap.size, 0, none⟩), .pointer (some ⟨w2.heap.size + 1, 0, none⟩)]) := Lib.cell_of_heap HF4.out 0
      obtain ⟨k0, k1, k2, k3, k4, k5, k6⟩ := tboxed (u := (T.x, .slice a1 T.ks.length c1, .slice a2 T.ts.length c2)) HX4.out
      dsimp only at k0 k1 k2 k3 k4 k5 k6
      clear PS4 hz HF4 HL4 HY4 HX4
      go_wp2_with fail
      go_fit E3
      rintro e w5 ⟨rfl, P5, F5⟩
      obtain ⟨la, ln, lc, hl5, hr5⟩ := P5.l
      have c5 : w5.cell? ⟨w2.heap.size, 0, none⟩ = some (.slice la ln lc) := Lib.cell_of_heap hl5 0
      have HR5 : Hid (RP w.heap.size w5 (.slice la ln lc) (pathsT ⟨yk, yn, yt, yo, ya⟩ T [])) := by show RP _ _ _ _; simpa using hr5
      have HB5 : Hid (Below w.heap.size w w5) := HB4.out.trans F5.below
      clear P5 F5 hl5 hr5 E3 f0 k0 k1 k2 k3 k4 k5 k6
      go_wp2
      go_returns
      exact ⟨⟨_, by rw [HRE.out]; rfl, by rw [HRR.out]; exact HR5.out⟩, HB5.out⟩
  · rw [if_neg hc] at E1
    have HRE : Hid (pathE T ⟨yk, yn, yt, yo, ya⟩ = chkT T ∧ chkT T ≠ 0) := ⟨by rw [HE.out, if_neg hc], hc⟩
    have HRR : Hid (pathR T ⟨yk, yn, yt, yo, ya⟩ = []) := by show pathR _ _ = []; rw [HR.out, HRE.out.1, if_neg HRE.out.2]
    clear hc HE HR HZ
    generalize chkT T = ct at *
    go_enter Tryz.func7, Tryz.ntmps7
    go_wp2_with fail
    go_fit E1
    rintro e w2 ⟨rfl, b1⟩
    have HB2 : Hid (Below w.heap.size w w2) := HB.out.trans (b1.mono HB.out.size)
    clear b1 E1 HX HY HB
    go_wp2
    go_returns
    exact ⟨⟨_, by rw [HRE.out.1]; unfold errV; rw [if_neg HRE.out.2]; rfl, by rw [HRR.out]; exact RP.nil _ _⟩, HB2.out⟩
end Go.Proofs.YtnoikdlofkcgaaaGreatDoor
