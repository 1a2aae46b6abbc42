/-
  What is proved: the function apply of package json, called with the place of a tree whose rows lie in blocks apart and a patch.
  Conditions: the tree is one, and not too great; the path lies ahead of it.
-/
import Derived.Test.YtegbjkjeoegfbaaDoorJLongK
namespace Go.Proofs.YtegbjkjeoegfbaaDoor
open Go.RowKit Go.Sort

/-- Why a patch is not done, and by which error. -/
def NoK (k : Int) (T : JT) (l : List Stp) (y : V) (c : Int) : Prop :=
  (c = 1 ∧ patK k l y = false) ∨ (c = 6 ∧ patK k l y = true ∧ ∀ T', ¬ UpdK k T l y T') ∨ (c = 4 ∧ patK k l y = true ∧ ∃ T', UpdK k T l y T' ∧ 400 < T'.size)
/-- What apply leaves. -/
def AppS (k : Int) (w : World) (b0 o0 lo : Nat) (S0 : List Nat) (T : JT) (l : List Stp) (y : V) (e : Ending) (w' : World) : Prop :=
  (∃ T' u' S', e = .returned .nilIface ∧ patK k l y = true ∧ UpdK k T l y T' ∧ T'.size ≤ 400 ∧ TurnS b0 o0 S0 w w' ∧ TAt w' b0 o0 u' ∧ IsTS w' lo S' u' T' ∧ S'.Nodup ∧ (∀ x ∈ S', x ∈ S0 ∨ w.heap.size ≤ x)) ∨
  (∃ c : Int, e = .returned (.iface 59 (.int .i64 c)) ∧ NoK k T l y c ∧ TurnS b0 o0 S0 w w')

set_option maxRecDepth 100000 in
set_option maxHeartbeats 8000000 in
theorem applyK_any {wp : World} {p : Value} {l : List Stp} {b0 o0 lo : Nat} {S0 : List Nat} {u : TV} {T : JT} (k : Int) (y : V) (w : World) (hp : IsSteps wp p l) (hbp : Below wp.heap.size wp w) (hA : TAt w b0 o0 u) (hT : IsTS w lo S0 u T) (hnd : S0.Nodup) (hf : formedB T = true) (hsz : T.size ≤ 400) (hb : b0 ∉ S0) (hz : lo ≤ w.heap.size) (hfz : ∀ d, w.frozen? ⟨b0, d, none⟩ = false) (hpl : wp.heap.size ≤ lo) (hpb : wp.heap.size ≤ b0) :
    Calls Tryd.prog 13 #[.pointer (some ⟨b0, o0, none⟩), pchK k p y] w fun e w' => AppS k w b0 o0 lo S0 T l y e w' := by
  have hpf : ∃ pa pn pc, p = .slice pa pn pc := by obtain ⟨a, c, e, _⟩ := hp; exact ⟨_, _, _, e⟩
  obtain ⟨pa, pn, pc, rfl⟩ := hpf
  have x0 := (MapKept.heap_alloc w (.cells #[.int .i64 k, .slice pa pn pc, .int .i64 y.k, .int .i64 y.n, .string y.t, .int .i64 y.o, .int .i64 y.a] 43)).1
  have b1 := (Below.refl w.heap.size w).alloc (Nat.le_refl _) (.cells #[.int .i64 k, .slice pa pn pc, .int .i64 y.k, .int .i64 y.n, .string y.t, .int .i64 y.o, .int .i64 y.a] 43)
  have E1 := isPatchK_any k y (w.alloc (.cells #[.int .i64 k, .slice pa pn pc, .int .i64 y.k, .int .i64 y.n, .string y.t, .int .i64 y.o, .int .i64 y.a] 43)) ((hp.below hbp).below b1)
  have HX : Hid (_ = some _) := x0
  have HB : Hid (Below w.heap.size w _) := b1
  have hbw : b0 < w.heap.size := hA.1
  have HEC : Hid (1 ≤ k ∧ k ≤ 3 → ∀ W, Below w.heap.size w W → Calls Tryd.prog 24 #[.pointer (some ⟨b0, o0, none⟩), pchK k (.slice pa pn pc) y] W fun e w' => ChgS k W b0 o0 lo S0 T l y e w') := fun hk W hbW =>
    changeK_any k y W hk hp (hbp.trans (hbW.mono hbp.size)) (hA.below hbW) (hT.keep (fun k k2 => hbW.block k (hT.low k k2).2)) hnd hf hsz hb (by have := hbW.size; omega) (fun d => by
      have h9 := hfz d
      unfold World.frozen? at h9 ⊢
      rw [hbW.block b0 hbw]
      exact h9) hpl hpb
  obtain ⟨post, hpost⟩ : ∃ post, post = AppS k w b0 o0 lo S0 T l y := ⟨_, rfl⟩
  rw [← hpost]
  have HPO : Hid (post = AppS k w b0 o0 lo S0 T l y) := hpost
  have HBW : Hid (b0 < w.heap.size) := hbw
  clear hpost hp hbp hA hT hnd hf hsz hb hz hfz hpl hpb x0 b1 hbw
  obtain ⟨pb, HPB⟩ : ∃ pb, Hid (patK k l y = pb) := ⟨_, rfl⟩
  rw [HPB.out] at E1
  have HYY : Hid (∃ y', y' = y) := ⟨y, rfl⟩
  obtain ⟨y', hy'⟩ := HYY.out
  clear HYY
  rw [← hy'] at HPO HPB
  have HEC' : Hid (1 ≤ k ∧ k ≤ 3 → ∀ W, Below w.heap.size w W → Calls Tryd.prog 24 #[.pointer (some ⟨b0, o0, none⟩), pchK k (.slice pa pn pc) y] W fun e w' => ChgS k W b0 o0 lo S0 T l y' e w') := by rw [hy']; exact HEC
  clear HEC hy'
  obtain ⟨yk, yn, yt, yo, ya⟩ := y
  dsimp only [pchK] at *
  go_enter Tryd.func13, Tryd.ntmps13
  go_wp2_with fail
  go_fit E1
  rintro e w1 ⟨rfl, b1⟩
  have HX1 : Hid (w1.heap[w.heap.size]? = some _) := (b1.block _ (lt_of_heap HX.out)).trans HX.out
  have HB1 : Hid (Below w.heap.size w w1) := HB.out.trans (b1.mono HB.out.size)
  clear b1 E1 HX HB
  cases pb with
  | false =>
    have HEND : Hid (post (.returned (.iface 59 (.int .i64 1))) w1) := by
      show post _ _
      rw [HPO.out]
      exact Or.inr ⟨1, rfl, Or.inl ⟨rfl, HPB.out⟩, TurnS.below HB1.out HBW.out⟩
    clear HEC' HX1
    go_wp2
    exact HEND.out
  | true =>
    have c0 : w1.cell? ⟨w.heap.size, 0, none⟩ = some (.int .i64 k) := Lib.cell_of_heap HX1.out 0
    have c1 : w1.cell? ⟨w.heap.size, 1, none⟩ = some (.slice pa pn pc) := Lib.cell_of_heap HX1.out 1
    have c2 : w1.cell? ⟨w.heap.size, 2, none⟩ = some (.int .i64 yk) := Lib.cell_of_heap HX1.out 2
    have c3 : w1.cell? ⟨w.heap.size, 3, none⟩ = some (.int .i64 yn) := Lib.cell_of_heap HX1.out 3
    have c4 : w1.cell? ⟨w.heap.size, 4, none⟩ = some (.string yt) := Lib.cell_of_heap HX1.out 4
    have c5 : w1.cell? ⟨w.heap.size, 5, none⟩ = some (.int .i64 yo) := Lib.cell_of_heap HX1.out 5
    have c6 : w1.cell? ⟨w.heap.size, 6, none⟩ = some (.int .i64 ya) := Lib.cell_of_heap HX1.out 6
    have hk13 : 1 ≤ k ∧ k ≤ 3 := by
      have h9 := HPB.out
      unfold patK at h9
      rw [Bool.and_eq_true, decide_eq_true_eq] at h9
      exact h9.1
    have E2 := HEC'.out hk13 w1 HB1.out
    clear hk13
    clear HEC' HX1
    go_wp2_with fail
    go_fit E2
    rintro e w2 hC
    clear E2 c0 c1 c2 c3 c4 c5 c6
    rcases hC with ⟨T', u', S', rfl, hU, hT, hA, hI, hN, hX⟩ | ⟨rfl, hU, hB⟩
    · have E3 := isFull_any w2 hI.high.tree
      have HSZ : Hid (T'.size = T'.size) := rfl
      have HT : Hid (TurnS b0 o0 S0 w1 w2) := hT
      have HU : Hid (UpdK k T l y' T') := hU
      have HA : Hid (TAt w2 b0 o0 u') := hA
      have HI : Hid (IsTS w2 lo S' u' T' ∧ S'.Nodup ∧ (∀ x ∈ S', x ∈ S0 ∨ w1.heap.size ≤ x)) := ⟨hI, hN, hX⟩
      obtain ⟨k0, k1, k2, k3, k4, k5, k6, k7⟩ := hA
      obtain ⟨⟨uk, un, ut, uo, ua⟩, a1, n1, q1, a2, n2, q2, rfl⟩ := hI.high.tree.parts
      unfold tval at E3
      dsimp only at k1 k2 k3 k4 k5 k6 k7 E3
      clear hT hU hI hN hX k0 HSZ
      obtain ⟨fb, HFB⟩ : ∃ fb, Hid (decide (400 < T'.size) = fb) := ⟨_, rfl⟩
      rw [HFB.out] at E3
      go_wp2_with fail
      go_fit E3
      rintro e w3 ⟨rfl, b3⟩
      have HB3 : Hid (Below w2.heap.size w2 w3) := b3
      clear E3 k1 k2 k3 k4 k5 k6 k7 b3
      have HTT : Hid (TurnS b0 o0 S0 w w3) := TurnS.of HB1.out HT.out HB3.out HBW.out
      cases fb with
      | true =>
        have HEND : Hid (post (.returned (.iface 59 (.int .i64 4))) w3) := by
          show post _ _
          rw [HPO.out]
          exact Or.inr ⟨4, rfl, Or.inr (Or.inr ⟨rfl, HPB.out, T', HU.out, of_decide_eq_true HFB.out⟩), HTT.out⟩
        go_wp2
        exact HEND.out
      | false =>
        have HEND : Hid (post (.returned .nilIface) w3) := by
          show post _ _
          rw [HPO.out]
          exact Or.inl ⟨T', _, S', rfl, HPB.out, HU.out, by have := of_decide_eq_false HFB.out; omega, HTT.out, HA.out.below HB3.out, HI.out.1.keep (fun k k2 => HB3.out.block k (HI.out.1.low k k2).2), HI.out.2.1, fun x hx => by
            rcases HI.out.2.2 x hx with h9 | h9
            · exact Or.inl h9
            · have := HB1.out.size
              exact Or.inr (by omega)⟩
        go_wp2
        exact HEND.out
    · have HEND : Hid (post (.returned (.iface 59 (.int .i64 6))) w2) := by
        show post _ _
        rw [HPO.out]
        exact Or.inr ⟨6, rfl, Or.inr (Or.inl ⟨rfl, HPB.out, hU⟩), TurnS.below (HB1.out.trans (hB.mono HB1.out.size)) HBW.out⟩
      clear hU hB
      go_wp2
      exact HEND.out
end Go.Proofs.YtegbjkjeoegfbaaDoor
