/-
  What is proved: the function Print of package json, called with a tree that lies in memory, answers its text, or what is wrong; and the law JsonChecks, called with any tree that lies in memory, returns true, and nothing that was there has turned.
  Conditions: the tree lies in memory, its numbers are of 64 bits; the table of powers of ten and the package variable errorType of package errors lie as the text lays them.
-/
import Derived.Test.YtnbbamonmmlaeaaDoorJWrite
import Derived.Test.YtnbbamonmmlaeaaDoorToldC
namespace Go.Proofs.YtnbbamonmmlaeaaDoor
open Go.RowKit Go.Sort

/-- An error, as Go has it. -/
def errT (e : Int) : Value := if e = 0 then .nilIface else .iface 40 (.int .i64 e)
theorem errorT_any (e : Int) (w : World) (h : Et w) : Calls Tryd.prog 6 #[errT e, .int .i64 e] w fun r w' => r = .returned (.bool true) ∧ Below w.heap.size w w' := by
  unfold errT
  by_cases he : e = 0
  · subst he
    rw [if_pos rfl]
    exact error_nil w
  · rw [if_neg he]
    exact error_errno e w h
theorem chk_zero {T : JT} (h : chkT T = 0) : formedB T = true ∧ T.size ≤ 400 := by
  unfold chkT at h
  by_cases h1 : 400 < T.size
  · rw [if_pos h1] at h; omega
  · rw [if_neg h1] at h
    by_cases h2 : formedB T = true
    · exact ⟨h2, by omega⟩
    · rw [if_neg h2] at h; omega
/-- What Print writes. -/
def prT (T : JT) : List UInt8 := if chkT T = 0 then txtT T else []

set_option maxRecDepth 100000 in
set_option maxHeartbeats 8000000 in
theorem printJ_any {v : Value} {T : JT} (w : World) (h : IsT w v T) (hr : rngT T) (ht : Tab w) :
    Calls Tryd.prog 8 #[v] w fun e w' => e = .returned (.tuple #[.string (ba (prT T)), errT (chkT T)]) ∧ Below w.heap.size w w' := by
  obtain ⟨u, rfl⟩ := h.of_val
  obtain ⟨⟨xk, xn, xt, xo, xa⟩, a1, n1, c1, a2, n2, c2, hu⟩ := h.parts
  subst hu
  have b0 := (Below.refl w.heap.size w).alloc (Nat.le_refl _) (.cells #[.int .i64 xk, .int .i64 xn, .string xt, .int .i64 xo, .int .i64 xa, .slice a1 n1 c1, .slice a2 n2 c2] 29)
  have x0 : (w.alloc (.cells #[.int .i64 xk, .int .i64 xn, .string xt, .int .i64 xo, .int .i64 xa, .slice a1 n1 c1, .slice a2 n2 c2] 29)).heap[w.heap.size]? = some (.cells #[.int .i64 xk, .int .i64 xn, .string xt, .int .i64 xo, .int .i64 xa, .slice a1 n1 c1, .slice a2 n2 c2] 29) := (MapKept.heap_alloc w _).1
  have E1 := checkT_any _ (h.stay b0)
  have EW := fun (B b : Nat) (hB : w.heap.size ≤ B) (hc : chkT T = 0) (W : World) (hb : Below w.heap.size w W) (hBW : B ≤ W.heap.size) (hh : HoldF B b [] W) => writeJ_any h ht B b hB (chk_zero hc).1 (chk_zero hc).2 hr W [] hb hBW hh (by have := (chk_zero hc).2; simp; omega)
  have HP : Hid (prT T = if chkT T = 0 then txtT T else []) := rfl
  have HX : Hid (_ = some (Obj.cells #[.int .i64 xk, .int .i64 xn, .string xt, .int .i64 xo, .int .i64 xa, .slice a1 n1 c1, .slice a2 n2 c2] 29)) := x0
  have HB : Hid (Below w.heap.size w _) := b0
  clear h hr ht x0 b0
  generalize prT T = pr at *
  unfold tval at *
  dsimp only at *
  by_cases hc : chkT T = 0
  · have HEW : Hid (∀ (B b : Nat), w.heap.size ≤ B → ∀ (W : World), Below w.heap.size w W → B ≤ W.heap.size → HoldF B b [] W → Calls Tryd.prog 17 #[.pointer (some ⟨b, 0, none⟩), .agg #[.int .i64 xk, .int .i64 xn, .string xt, .int .i64 xo, .int .i64 xa, .slice a1 n1 c1, .slice a2 n2 c2]] W fun e w' => e = .returned (.tuple #[]) ∧ HoldF B b ([] ++ txtT T) w' ∧ Fw B b W w') := fun B b hB W hb hBW hh => EW B b hB hc W hb hBW hh
    have hp : pr = txtT T := by rw [HP.out, if_pos hc]
    rw [if_pos hc] at E1
    rw [hc]
    subst hp
    clear hc EW HP
    go_enter Tryd.func8, Tryd.ntmps8
    go_wp2_with fail
    go_fit E1
    rintro e w1 ⟨rfl, b1⟩
    have HX1 : Hid (w1.heap[w.heap.size]? = some _) := (b1.block _ (lt_of_heap HX.out)).trans HX.out
    have HB1 : Hid (Below w.heap.size w w1) := HB.out.trans (b1.mono HB.out.size)
    clear b1 E1 HX HB
    have hf : HoldF w1.heap.size w1.heap.size [] (w1.alloc (.cells #[.pointer none, .slice none 0 0] 48)) := Lib.IsBuilderF.of (Lib.fresh_isBuilder 48 5 w1)
    have b2 := (Below.refl w1.heap.size w1).alloc (Nat.le_refl _) (.cells #[.pointer none, .slice none 0 0] 48)
    have hx2 := (b2.block _ (lt_of_heap HX1.out)).trans HX1.out
    have hb2 := HB1.out.trans (b2.mono HB1.out.size)
    have E2 := HEW.out w1.heap.size w1.heap.size HB1.out.size _ hb2 b2.size hf
    obtain ⟨k0, k1, k2, k3, k4, k5, k6⟩ := tboxed (u := (⟨xk, xn, xt, xo, xa⟩, .slice a1 n1 c1, .slice a2 n2 c2)) hx2
    dsimp only at k0 k1 k2 k3 k4 k5 k6
    have HB2 : Hid (Below w.heap.size w (w1.alloc (.cells #[.pointer none, .slice none 0 0] 48)) ∧ w1.heap.size ≤ (w1.alloc (.cells #[.pointer none, .slice none 0 0] 48)).heap.size ∧ w.heap.size ≤ w1.heap.size) := ⟨hb2, b2.size, HB1.out.size⟩
    clear hf b2 hx2 hb2 HEW
    go_wp2_with fail
    go_fit E2
    rintro e w3 ⟨rfl, h3, f3⟩
    have HB3 : Hid (Below w.heap.size w w3) := HB2.out.1.trans (f3.low.mono HB2.out.2.2)
    have E3 := Tryd.builderStringK w1.heap.size w1.heap.size _ w3 h3 (Nat.le_trans HB2.out.2.1 f3.low.size)
    have E3' : Calls Tryd.prog 18 #[.pointer (some ⟨w1.heap.size, 0, none⟩)] w3 fun e w' => e = .returned (.string (ba (txtT T))) ∧ Below w.heap.size w3 w' := by
      refine E3.mono ?_
      rintro e w' ⟨he, _, hb, _⟩
      exact ⟨he, hb.mono HB2.out.2.2⟩
    clear h3 f3 E2 E3 k0 k1 k2 k3 k4 k5 k6
    go_wp2_with fail
    go_fit E3'
    rintro e w4 ⟨rfl, b4⟩
    have HB4 : Hid (Below w.heap.size w w4) := HB3.out.trans b4
    clear b4 E3'
    go_wp2
    go_returns
    exact ⟨rfl, HB4.out⟩
  · have hp : pr = [] := by rw [HP.out, if_neg hc]
    subst hp
    rw [if_neg hc] at E1
    have HC : Hid (errT (chkT T) = .iface 40 (.int .i64 (chkT T))) := by show _ = _; unfold errT; rw [if_neg hc]
    rw [HC.out]
    clear hc EW HP HC
    generalize chkT T = ct at *
    go_enter Tryd.func8, Tryd.ntmps8
    go_wp2_with fail
    go_fit E1
    rintro e w1 ⟨rfl, b1⟩
    have HB1 : Hid (Below w.heap.size w w1) := HB.out.trans (b1.mono HB.out.size)
    clear b1 E1
    go_wp2
    go_returns
    exact ⟨rfl, HB1.out⟩

set_option maxRecDepth 100000 in
set_option maxHeartbeats 8000000 in
theorem checks_law {v : Value} {T : JT} (w : World) (h : IsT w v T) (hr : rngT T) (ht : Tab w) (hE : Et w) :
    Calls Tryd.prog 3 #[v] w fun e w' => e = .returned (.bool true) ∧ Below w.heap.size w w' := by
  obtain ⟨u, rfl⟩ := h.of_val
  obtain ⟨⟨xk, xn, xt, xo, xa⟩, a1, n1, c1, a2, n2, c2, hu⟩ := h.parts
  subst hu
  have b0 := (Below.refl w.heap.size w).alloc (Nat.le_refl _) (.cells #[.int .i64 xk, .int .i64 xn, .string xt, .int .i64 xo, .int .i64 xa, .slice a1 n1 c1, .slice a2 n2 c2] 29)
  have x0 : (w.alloc (.cells #[.int .i64 xk, .int .i64 xn, .string xt, .int .i64 xo, .int .i64 xa, .slice a1 n1 c1, .slice a2 n2 c2] 29)).heap[w.heap.size]? = some (.cells #[.int .i64 xk, .int .i64 xn, .string xt, .int .i64 xo, .int .i64 xa, .slice a1 n1 c1, .slice a2 n2 c2] 29) := (MapKept.heap_alloc w _).1
  have E1 := checkH_any _ (h.stay b0)
  have EC : ∀ W, Below w.heap.size w W → Calls Tryd.prog 5 #[tval (⟨xk, xn, xt, xo, xa⟩, .slice a1 n1 c1, .slice a2 n2 c2)] W fun e w' => e = .returned (errT (chkT T)) ∧ Below W.heap.size W w' := fun W hb => checkT_any W (h.stay hb)
  have EP := fun W (hb : Below w.heap.size w W) => printJ_any W (h.stay hb) hr (ht.below hb)
  have ET := fun (hc : chkT T = 0) W (hb : Below w.heap.size w W) => textH_any (h.stay hb) W (Below.refl _ _) (chk_zero hc).1 (chk_zero hc).2 hr
  have ER := fun W (hb : Below w.heap.size w W) => errorT_any (chkT T) W (hE.below hb)
  have HP : Hid (prT T = if chkT T = 0 then txtT T else []) := rfl
  have HX : Hid (_ = some (Obj.cells #[.int .i64 xk, .int .i64 xn, .string xt, .int .i64 xo, .int .i64 xa, .slice a1 n1 c1, .slice a2 n2 c2] 29)) := x0
  have HB : Hid (Below w.heap.size w _) := b0
  clear h hr ht hE x0 b0
  unfold tval at *
  dsimp only at *
  have HEC : Hid (∀ W, Below w.heap.size w W → Calls Tryd.prog 5 #[.agg #[.int .i64 xk, .int .i64 xn, .string xt, .int .i64 xo, .int .i64 xa, .slice a1 n1 c1, .slice a2 n2 c2]] W fun e w' => e = .returned (errT (chkT T)) ∧ Below W.heap.size W w') := EC
  have HEP : Hid (∀ W, Below w.heap.size w W → Calls Tryd.prog 8 #[.agg #[.int .i64 xk, .int .i64 xn, .string xt, .int .i64 xo, .int .i64 xa, .slice a1 n1 c1, .slice a2 n2 c2]] W fun e w' => e = .returned (.tuple #[.string (ba (prT T)), errT (chkT T)]) ∧ Below W.heap.size W w') := EP
  have HET : Hid (chkT T = 0 → ∀ W, Below w.heap.size w W → Calls Tryd.prog 7 #[.agg #[.int .i64 xk, .int .i64 xn, .string xt, .int .i64 xo, .int .i64 xa, .slice a1 n1 c1, .slice a2 n2 c2]] W fun e w' => e = .returned (.string (ba (txtT T))) ∧ Below W.heap.size W w') := ET
  have HER : Hid (∀ W, Below w.heap.size w W → Calls Tryd.prog 6 #[errT (chkT T), .int .i64 (chkT T)] W fun r w' => r = .returned (.bool true) ∧ Below W.heap.size W w') := ER
  clear EC EP ET ER
  generalize prT T = pr at *
  go_enter Tryd.func3, Tryd.ntmps3
  go_wp2_with fail
  go_fit E1
  rintro e w1 ⟨rfl, b1⟩
  have HX1 : Hid (w1.heap[w.heap.size]? = some _) := (b1.block _ (lt_of_heap HX.out)).trans HX.out
  have HB1 : Hid (Below w.heap.size w w1) := HB.out.trans (b1.mono HB.out.size)
  clear b1 E1 HX HB
  obtain ⟨k0, k1, k2, k3, k4, k5, k6⟩ := tboxed (u := (⟨xk, xn, xt, xo, xa⟩, .slice a1 n1 c1, .slice a2 n2 c2)) HX1.out
  dsimp only at k0 k1 k2 k3 k4 k5 k6
  have E2 := HEC.out w1 HB1.out
  obtain ⟨er, HERR⟩ : ∃ er, Hid (errT (chkT T) = er) := ⟨_, rfl⟩
  rw [HERR.out] at E2 HER HEP
  obtain ⟨ct, HCT⟩ : ∃ ct, Hid (chkT T = ct) := ⟨_, rfl⟩
  rw [HCT.out] at HER HET HP ⊢
  go_wp2_with fail
  go_fit E2
  rintro e w2 ⟨rfl, b2⟩
  have HX2 : Hid (w2.heap[w.heap.size]? = some _) := (b2.block _ (lt_of_heap HX1.out)).trans HX1.out
  have HB2 : Hid (Below w.heap.size w w2) := HB1.out.trans (b2.mono HB1.out.size)
  clear b2 E2 HX1 HB1 k0 k1 k2 k3 k4 k5 k6 HEC
  have E3 := HER.out w2 HB2.out
  go_wp2_with fail
  go_fit E3
  rintro e w3 ⟨rfl, b3⟩
  have HX3 : Hid (w3.heap[w.heap.size]? = some _) := (b3.block _ (lt_of_heap HX2.out)).trans HX2.out
  have HB3 : Hid (Below w.heap.size w w3) := HB2.out.trans (b3.mono HB2.out.size)
  clear b3 E3 HX2 HB2
  obtain ⟨k0, k1, k2, k3, k4, k5, k6⟩ := tboxed (u := (⟨xk, xn, xt, xo, xa⟩, .slice a1 n1 c1, .slice a2 n2 c2)) HX3.out
  dsimp only at k0 k1 k2 k3 k4 k5 k6
  by_cases hc : ct = 0
  · subst hc
    have hp : pr = txtT T := by rw [HP.out, if_pos rfl]
    rw [← hp] at HET
    have E4 := HET.out rfl w3 HB3.out
    clear hp HP HET
    go_wp2_with fail
    go_fit E4
    rintro e w4 ⟨rfl, b4⟩
    have HX4 : Hid (w4.heap[w.heap.size]? = some _) := (b4.block _ (lt_of_heap HX3.out)).trans HX3.out
    have HB4 : Hid (Below w.heap.size w w4) := HB3.out.trans (b4.mono HB3.out.size)
    clear b4 E4 HX3 HB3 k0 k1 k2 k3 k4 k5 k6
    obtain ⟨k0, k1, k2, k3, k4, k5, k6⟩ := tboxed (u := (⟨xk, xn, xt, xo, xa⟩, .slice a1 n1 c1, .slice a2 n2 c2)) HX4.out
    dsimp only at k0 k1 k2 k3 k4 k5 k6
    have E5 := HEP.out w4 HB4.out
    generalize ba pr = tx at *
    go_wp2_with fail
    go_fit E5
    rintro e w5 ⟨rfl, b5⟩
    have HB5 : Hid (Below w.heap.size w w5) := HB4.out.trans (b5.mono HB4.out.size)
    have E6 := HER.out w5 HB5.out
    clear b5 E5 HX4 HB4 k0 k1 k2 k3 k4 k5 k6
    go_wp2_with fail
    go_fit E6
    rintro e w6 ⟨rfl, b6⟩
    have HB6 : Hid (Below w.heap.size w w6) := HB5.out.trans (b6.mono HB5.out.size)
    clear b6 E6
    go_wp2
    go_ret
    exact ⟨rfl, HB6.out⟩
  · have hp : pr = [] := by rw [HP.out, if_neg hc]
    subst hp
    have hc' : (ct == 0) = false := by simpa using hc
    have E5 : Calls Tryd.prog 8 #[.agg #[.int .i64 xk, .int .i64 xn, .string xt, .int .i64 xo, .int .i64 xa, .slice a1 n1 c1, .slice a2 n2 c2]] w3 fun e w' => e = .returned (.tuple #[.string ⟨#[]⟩, er]) ∧ Below w3.heap.size w3 w' := HEP.out w3 HB3.out
    clear HP HET hc
    go_wp2_with fail
    go_fit E5
    rintro e w5 ⟨rfl, b5⟩
    have HB5 : Hid (Below w.heap.size w w5) := HB3.out.trans (b5.mono HB3.out.size)
    have E6 := HER.out w5 HB5.out
    clear b5 E5 HX3 HB3 k0 k1 k2 k3 k4 k5 k6
    go_wp2_with fail
    go_fit E6
    rintro e w6 ⟨rfl, b6⟩
    have HB6 : Hid (Below w.heap.size w w6) := HB5.out.trans (b6.mono HB5.out.size)
    clear b6 E6
    go_wp2
    go_ret
    exact ⟨rfl, HB6.out⟩
end Go.Proofs.YtnbbamonmmlaeaaDoor
