/-
  What is proved: the function apply of package json, called with the place of a tree whose rows are its own and a patch that sets.
  Conditions: the tree is one; the path lies ahead of it.
-/
import Derived.Test.YtnhijdhapokcbaaJLong
namespace Go.Proofs.Ytnhijdhapokcbaa
open Go.RowKit Go.Sort

theorem Turn.of {b o lo hi : Nat} {w w1 w2 w3 : World} (h1 : Below w.heap.size w w1) (h2 : Turn b o lo hi w1 w2) (h3 : Below w2.heap.size w2 w3) (hb : b < w.heap.size) : Turn b o lo hi w w3 := by
  have s1 := h1.size
  have s2 := h2.size
  have s3 := h3.size
  exact ⟨h3.os.trans (h2.os.trans h1.os), h3.tape.trans (h2.tape.trans h1.tape), h3.output.trans (h2.output.trans h1.output), by omega, fun k k1 k2 k3 => (h3.block k (by omega)).trans ((h2.block k (by omega) k2 k3).trans (h1.block k k1)), fun c hc => (h3.cell (p := ⟨b, c, none⟩) (show b < _ by omega)).trans ((h2.cell c hc).trans (h1.cell (p := ⟨b, c, none⟩) hb))⟩
theorem Turn.refl (b o lo hi : Nat) (w : World) : Turn b o lo hi w w := ⟨rfl, rfl, rfl, Nat.le_refl _, fun _ _ _ _ => rfl, fun _ _ => rfl⟩
theorem Turn.below {b o lo hi : Nat} {w w' : World} (h : Below w.heap.size w w') (hb : b < w.heap.size) : Turn b o lo hi w w' := Turn.of h (Turn.refl b o lo hi w') (Below.refl _ _) hb
/-- Why a patch is not done. -/
def NoApp (T : JT) (l : List Stp) (y : V) : Prop := patB l y = false ∨ (∀ T', ¬ UpdR T l y T') ∨ ∃ T', UpdR T l y T' ∧ 400 < T'.size
/-- What apply leaves. -/
def AppP (w : World) (b0 o0 lo hi : Nat) (T : JT) (l : List Stp) (y : V) (e : Ending) (w' : World) : Prop :=
  (∃ T' u', e = .returned .nilIface ∧ patB l y = true ∧ UpdR T l y T' ∧ T'.size ≤ 400 ∧ Turn b0 o0 lo hi w w' ∧ TAt w' b0 o0 u' ∧ IsTH lo w' (tval u') T') ∨ (∃ c : Int, e = .returned (.iface 48 (.int .i64 c)) ∧ NoApp T l y ∧ Turn b0 o0 lo hi w w')

set_option maxRecDepth 100000 in
set_option maxHeartbeats 8000000 in
theorem apply_any {wp : World} {p : Value} {l : List Stp} {b0 o0 lo hi : Nat} {u : TV} {T : JT} (y : V) (w : World) (hp : IsSteps wp p l) (hbp : Below wp.heap.size wp w) (hA : TAt w b0 o0 u) (hT : IsTI w lo hi u T) (hf : formedB T = true) (hb : b0 < lo) (hz : hi ≤ w.heap.size) (hfz : ∀ d, w.frozen? ⟨b0, d, none⟩ = false) (hpl : wp.heap.size ≤ lo) (hpb : wp.heap.size ≤ b0) :
    Calls Try.prog 9 #[.pointer (some ⟨b0, o0, none⟩), pchV p y] w fun e w' => AppP w b0 o0 lo hi T l y e w' := by
  have hpf : ∃ pa pn pc, p = .slice pa pn pc := by obtain ⟨a, c, e, _⟩ := hp; exact ⟨_, _, _, e⟩
  obtain ⟨pa, pn, pc, rfl⟩ := hpf
  have x0 := (MapKept.heap_alloc w (.cells #[.int .i64 1, .slice pa pn pc, .int .i64 y.k, .int .i64 y.n, .string y.t, .int .i64 y.o, .int .i64 y.a] 38)).1
  have b1 := (Below.refl w.heap.size w).alloc (Nat.le_refl _) (.cells #[.int .i64 1, .slice pa pn pc, .int .i64 y.k, .int .i64 y.n, .string y.t, .int .i64 y.o, .int .i64 y.a] 38)
  have E1 := isPatch_any y (w.alloc (.cells #[.int .i64 1, .slice pa pn pc, .int .i64 y.k, .int .i64 y.n, .string y.t, .int .i64 y.o, .int .i64 y.a] 38)) ((hp.below hbp).below b1)
  have HX : Hid (_ = some _) := x0
  have HB : Hid (Below w.heap.size w _) := b1
  have hbw : b0 < w.heap.size := hA.1
  have HEC : Hid (∀ W, Below w.heap.size w W → Calls Try.prog 15 #[.pointer (some ⟨b0, o0, none⟩), pchV (.slice pa pn pc) y] W fun e w' => ChgP W b0 o0 lo hi T l y e w') := fun W hbW =>
    change_any y W hp (hbp.trans (hbW.mono hbp.size)) (hA.below hbW) (hT.keep (fun k _ k2 => hbW.block k (by omega))) hf hb (by have := hbW.size; omega) (fun d => by
      have h9 := hfz d
      unfold World.frozen? at h9 ⊢
      rw [hbW.block b0 hbw]
      exact h9) hpl hpb
  obtain ⟨post, hpost⟩ : ∃ post, post = AppP w b0 o0 lo hi T l y := ⟨_, rfl⟩
  rw [← hpost]
  have HPO : Hid (post = AppP w b0 o0 lo hi T l y) := hpost
  have HBW : Hid (b0 < w.heap.size) := hbw
  clear hpost hp hbp hA hT hf hb hz hfz hpl hpb x0 b1 hbw
  obtain ⟨pb, HPB⟩ : ∃ pb, Hid (patB l y = pb) := ⟨_, rfl⟩
  rw [HPB.out] at E1
  have HYY : Hid (∃ y', y' = y) := ⟨y, rfl⟩
  obtain ⟨y', hy'⟩ := HYY.out
  clear HYY
  rw [← hy'] at HPO HPB
  have HEC' : Hid (∀ W, Below w.heap.size w W → Calls Try.prog 15 #[.pointer (some ⟨b0, o0, none⟩), pchV (.slice pa pn pc) y] W fun e w' => ChgP W b0 o0 lo hi T l y' e w') := by rw [hy']; exact HEC
  clear HEC hy'
  obtain ⟨yk, yn, yt, yo, ya⟩ := y
  dsimp only [pchV] at *
  go_enter Try.func9, Try.ntmps9
  go_wp2_with fail
  go_fit E1
  rintro e w1 ⟨rfl, b1⟩
  have HX1 : Hid (w1.heap[w.heap.size]? = some _) := (b1.block _ (lt_of_heap HX.out)).trans HX.out
  have HB1 : Hid (Below w.heap.size w w1) := HB.out.trans (b1.mono HB.out.size)
  clear b1 E1 HX HB
  cases pb with
  | false =>
    have HEND : Hid (∀ c : Int, post (.returned (.iface 48 (.int .i64 c))) w1) := by
      intro c
      rw [HPO.out]
      exact Or.inr ⟨c, rfl, Or.inl HPB.out, Turn.below HB1.out HBW.out⟩
    go_wp2
    exact HEND.out _
  | true =>
    have c0 : w1.cell? ⟨w.heap.size, 0, none⟩ = some (.int .i64 1) := Lib.cell_of_heap HX1.out 0
    have c1 : w1.cell? ⟨w.heap.size, 1, none⟩ = some (.slice pa pn pc) := Lib.cell_of_heap HX1.out 1
    have c2 : w1.cell? ⟨w.heap.size, 2, none⟩ = some (.int .i64 yk) := Lib.cell_of_heap HX1.out 2
    have c3 : w1.cell? ⟨w.heap.size, 3, none⟩ = some (.int .i64 yn) := Lib.cell_of_heap HX1.out 3
    have c4 : w1.cell? ⟨w.heap.size, 4, none⟩ = some (.string yt) := Lib.cell_of_heap HX1.out 4
    have c5 : w1.cell? ⟨w.heap.size, 5, none⟩ = some (.int .i64 yo) := Lib.cell_of_heap HX1.out 5
    have c6 : w1.cell? ⟨w.heap.size, 6, none⟩ = some (.int .i64 ya) := Lib.cell_of_heap HX1.out 6
    have E2 := HEC'.out w1 HB1.out
    clear HEC' HX1
    go_wp2_with fail
    go_fit E2
    rintro e w2 hC
    clear E2 c0 c1 c2 c3 c4 c5 c6
    rcases hC with ⟨T', u', rfl, hU, hT, hA, hI⟩ | ⟨rfl, hU, hB⟩
    · have E3 := isFull_any w2 hI.tree
      have HSZ : Hid (T'.size = T'.size) := rfl
      have HT : Hid (Turn b0 o0 lo hi w1 w2) := hT
      have HU : Hid (UpdR T l y' T') := hU
      have HA : Hid (TAt w2 b0 o0 u') := hA
      have HI : Hid (IsTH lo w2 (tval u') T') := hI
      obtain ⟨k0, k1, k2, k3, k4, k5, k6, k7⟩ := hA
      obtain ⟨⟨uk, un, ut, uo, ua⟩, a1, n1, q1, a2, n2, q2, rfl⟩ := hI.tree.parts
      unfold tval at E3
      dsimp only at k1 k2 k3 k4 k5 k6 k7 E3
      clear hT hU hI k0 HSZ
      obtain ⟨fb, HFB⟩ : ∃ fb, Hid (decide (400 < T'.size) = fb) := ⟨_, rfl⟩
      rw [HFB.out] at E3
      go_wp2_with fail
      go_fit E3
      rintro e w3 ⟨rfl, b3⟩
      have HB3 : Hid (Below w2.heap.size w2 w3) := b3
      clear E3 k1 k2 k3 k4 k5 k6 k7 b3
      have HTT : Hid (Turn b0 o0 lo hi w w3) := Turn.of HB1.out HT.out HB3.out HBW.out
      cases fb with
      | true =>
        have HEND : Hid (∀ c : Int, post (.returned (.iface 48 (.int .i64 c))) w3) := by
          intro c
          rw [HPO.out]
          exact Or.inr ⟨c, rfl, Or.inr (Or.inr ⟨T', HU.out, of_decide_eq_true HFB.out⟩), HTT.out⟩
        go_wp2
        exact HEND.out _
      | false =>
        have HEND : Hid (post (.returned .nilIface) w3) := by
          show post _ _
          rw [HPO.out]
          exact Or.inl ⟨T', _, rfl, HPB.out, HU.out, by have := of_decide_eq_false HFB.out; omega, HTT.out, HA.out.below HB3.out, IsTG.keep HI.out (From.of HB3.out)⟩
        go_wp2
        exact HEND.out
    · have HEND : Hid (∀ c : Int, post (.returned (.iface 48 (.int .i64 c))) w2) := by
        intro c
        rw [HPO.out]
        exact Or.inr ⟨c, rfl, Or.inr (Or.inl hU), Turn.below (HB1.out.trans (hB.mono HB1.out.size)) HBW.out⟩
      clear hU hB
      go_wp2
      exact HEND.out _
end Go.Proofs.Ytnhijdhapokcbaa
