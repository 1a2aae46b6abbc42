/-
  What is proved: the functions Check of package json and of bookref3, called with a tree that lies in memory, tell the same: that it has more than 400 trees in it, else that something is none, else nothing.
  Conditions: the tree lies in memory.
-/
import Derived.Test.YtegbjkjeoegfbaaDoorJFormed
namespace Go.Proofs.YtegbjkjeoegfbaaDoor
open Go.RowKit

/-- One more is counted. -/
def cntS (_ : V) (_ : List ByteArray) (_ : Nat) (c : Int) : Bool × Int := (decide (wrap64 (c + 1) ≤ 400), wrap64 (c + 1))

theorem cnt_trees (f : JF) : ∀ (c : Int), 0 ≤ c → c ≤ 400 → (eachF cntS f c).1 = decide (c + szF f ≤ 400) ∧ ((eachF cntS f c).1 = true → (eachF cntS f c).2 = c + szF f) := by
  induction f with
  | nil =>
    intro c h0 h1
    have es : szF (.nil : JF) = 0 := rfl
    rw [eachF]
    exact ⟨(decide_eq_true (by omega)).symm, fun _ => by show c = _; omega⟩
  | node b o x l r ihl ihr =>
    intro c h0 h1
    have hw : wrap64 (c + 1) = c + 1 := by unfold wrap64; omega
    have es : szF (.node b o x l r) = (szF l + 1) + szF r := rfl
    have e0 : cntS x.1 x.2 (toL l).length c = (decide (c + 1 ≤ 400), c + 1) := by unfold cntS; rw [hw]
    rw [eachF, e0]
    by_cases h : c + 1 ≤ 400
    · have il := ihl (c + 1) (by omega) h
      rw [if_pos (decide_eq_true h)]
      by_cases h2 : c + 1 + szF l ≤ 400
      · have e1 : (eachF cntS l (c + 1)).1 = true := by rw [il.1]; exact decide_eq_true h2
        have e2 := il.2 e1
        rw [if_pos e1, e2]
        have ir := ihr (c + 1 + szF l) (by omega) h2
        refine ⟨?_, fun e => ?_⟩
        · rw [ir.1]; exact decide_eq_decide.2 (by omega)
        · rw [ir.2 e]; omega
      · have e1 : (eachF cntS l (c + 1)).1 = false := by rw [il.1]; exact decide_eq_false h2
        rw [if_neg (by rw [e1]; decide)]
        exact ⟨(decide_eq_false (by omega)).symm, fun e => by cases e⟩
    · rw [if_neg (by simpa using h)]
      exact ⟨(decide_eq_false (by omega)).symm, fun e => by cases e⟩
theorem cnt_tree (T : JT) (c : Int) (h0 : 0 ≤ c) (h1 : c ≤ 400) : (eachM cntS T c).1 = decide (c + T.size ≤ 400) := by
  have hw : wrap64 (c + 1) = c + 1 := by unfold wrap64; omega
  have es : T.size = szF T.kids + 1 := rfl
  have e0 : cntS T.x T.ks T.ts.length c = (decide (c + 1 ≤ 400), c + 1) := by unfold cntS; rw [hw]
  rw [eachM, e0]
  by_cases h : c + 1 ≤ 400
  · rw [if_pos (decide_eq_true h), (cnt_trees T.kids (c + 1) (by omega) h).1]
    exact decide_eq_decide.2 (by omega)
  · rw [if_neg (by simpa using h)]
    exact (decide_eq_false (by omega)).symm

theorem set_at {w : World} {g : Nat} {T : TypeId} {cs : Array Value} (h : w.heap[g]? = some (.cells cs T)) (i : Nat) (v : Value) : (w.setCell ⟨g, i, none⟩ v).heap[g]? = some (.cells (cs.setIfInBounds i v) T) := by
  exact heap_setCell_same w g i _ _ v h
theorem Kp.set {S : List Nat} {w w' : World} {g : Nat} (h : Kp S w w') (hg : g ∈ S) (o : Nat) (v : Value) : Kp S w (w'.setCell ⟨g, o, none⟩ v) := by
  have h1 : Below g w' (w'.setCell ⟨g, o, none⟩ v) := (Below.refl g w').setCell (Nat.le_refl _) v
  refine ⟨h1.os.trans h.os, h1.tape.trans h.tape, h1.output.trans h.output, Nat.le_trans h.size h1.size, fun k hk hS => ?_⟩
  rw [Below.heap_setCell _ _ _ _ (fun e => hS (by rw [show k = g from by simpa using e]; exact hg))]
  exact h.block k hk hS

/-- The counter's box. -/
abbrev CB (g : Nat) (c : Int) (w : World) : Prop := w.heap[g]? = some (.cells #[.int .i64 c] 3)

set_option maxRecDepth 100000 in
set_option maxHeartbeats 4000000 in
theorem more_any (g : Nat) (x : V) (uk : Value) (n cap : Nat) (a : Option Addr) (w : World) (c : Int) (hg : CB g c w) (huk : ∃ a1 n1 c1, uk = .slice a1 n1 c1) :
    Calls Tryd.prog 27 #[tval (x, uk, .slice a n cap), .pointer (some ⟨g, 0, none⟩)] w fun e w' => e = .returned (.bool (decide (wrap64 (c + 1) ≤ 400))) ∧ CB g (wrap64 (c + 1)) w' ∧ Kp [g] w w' := by
  have hlt := lt_of_heap hg
  obtain ⟨a1, n1, c1, rfl⟩ := huk
  obtain ⟨k, m, t, o, q⟩ := x
  have HA : Hid ((w.alloc (.cells #[.int .i64 k, .int .i64 m, .string t, .int .i64 o, .int .i64 q, .slice a1 n1 c1, .slice a n cap] 29)).heap[g]? = some (.cells #[.int .i64 c] 3)) := (Kp.alloc [] w _).heap hg (by simp)
  have HK : Hid (Kp [g] w (w.alloc (.cells #[.int .i64 k, .int .i64 m, .string t, .int .i64 o, .int .i64 q, .slice a1 n1 c1, .slice a n cap] 29))) := Kp.alloc [g] w _
  unfold tval
  dsimp only
  go_enter Tryd.func27, Tryd.ntmps27
  have c0 : (w.alloc (.cells #[.int .i64 k, .int .i64 m, .string t, .int .i64 o, .int .i64 q, .slice a1 n1 c1, .slice a n cap] 29)).cell? ⟨g, 0, none⟩ = some (.int .i64 c) := Lib.cell_of_heap HA.out 0
  have cf := Lib.frozen_of_heap HA.out
  go_upto_region 1 with fail
  generalize w.alloc (.cells #[.int .i64 k, .int .i64 m, .string t, .int .i64 o, .int .i64 q, .slice a1 n1 c1, .slice a n cap] 29) = W at *
  go_wp2
  go_ret
  refine ⟨rfl, ?_, HK.out.set (by simp) 0 _⟩
  exact set_at HA.out 0 (.int .i64 (wrap64 (c + 1)))

set_option maxRecDepth 100000 in
set_option maxHeartbeats 4000000 in
theorem isFull_any {v : Value} {T : JT} (w : World) (h : IsT w v T) :
    Calls Tryd.prog 20 #[v] w fun e w' => e = .returned (.bool (decide (400 < T.size))) ∧ Below w.heap.size w w' := by
  obtain ⟨u, rfl⟩ : ∃ u, v = tval u := by obtain ⟨_, uk, a, cap, us, e, _⟩ := h.inv; exact ⟨_, e⟩
  obtain ⟨⟨k, m, t, o, q⟩, a1, n1, c1, a2, n2, c2, rfl⟩ := h.parts
  have b0 := (Below.refl w.heap.size w).alloc (Nat.le_refl _) (.cells #[.int .i64 k, .int .i64 m, .string t, .int .i64 o, .int .i64 q, .slice a1 n1 c1, .slice a2 n2 c2] 29)
  have b1 := b0.alloc (by simp) (.cells #[.int .i64 0] 3)
  have hg : CB (w.heap.size + 1) 0 ((w.alloc (.cells #[.int .i64 k, .int .i64 m, .string t, .int .i64 o, .int .i64 q, .slice a1 n1 c1, .slice a2 n2 c2] 29)).alloc (.cells #[.int .i64 0] 3)) := by
    have h1 := (MapKept.heap_alloc (w.alloc (.cells #[.int .i64 k, .int .i64 m, .string t, .int .i64 o, .int .i64 q, .slice a1 n1 c1, .slice a2 n2 c2] 29)) (.cells #[.int .i64 0] 3)).1
    have h2 : (w.alloc (.cells #[.int .i64 k, .int .i64 m, .string t, .int .i64 o, .int .i64 q, .slice a1 n1 c1, .slice a2 n2 c2] 29)).heap.size = w.heap.size + 1 := by simp
    rw [h2] at h1
    exact h1
  have E := each_one cntS (fun c W => CB (w.heap.size + 1) c W) [w.heap.size + 1] 27 (.pointer (some ⟨w.heap.size + 1, 0, none⟩)) (enters_of Tryd.func27 (by kernel_rfl) rfl) (fun c W W' hc hb => (hb.block _ (lt_of_heap hc)).trans hc) (w0 := w) (by simp)
    (fun x ks n cap a uk W c hk hn hc hb => more_any (w.heap.size + 1) x uk n cap a W c hc (by obtain ⟨a, c, rfl, _⟩ := hk; exact ⟨_, _, _, rfl⟩)) h _ 0 hg b1 (by simp)
  have HC : Hid ((eachM cntS T 0).1 = decide ((0 : Int) + T.size ≤ 400)) := cnt_tree T 0 (by omega) (by omega)
  have HB : Hid (Below w.heap.size w _) := b1
  clear b0 b1 hg h
  generalize eachM cntS T 0 = p at *
  obtain ⟨r, s⟩ := p
  unfold tval at *
  dsimp only at *
  go_enter Tryd.func20, Tryd.ntmps20
  go_wp2_with fail
  go_fit E
  rintro e w1 ⟨rfl, hc, hk⟩
  have HB1 : Hid (Below w.heap.size w w1) := HB.out.trans (hk.below (by simp) HB.out.size)
  clear hk hc
  go_wp2
  go_ret
  refine ⟨?_, HB1.out⟩
  have e : decide (400 < T.size) = !r := by
    rw [HC.out]
    by_cases h : T.size ≤ 400
    · rw [decide_eq_false (by omega), decide_eq_true (by omega)]; rfl
    · rw [decide_eq_true (by omega), decide_eq_false (by omega)]; rfl
  rw [e]
  rfl

/-- What is told of a tree. -/
def chkT (T : JT) : Int := if 400 < T.size then 4 else if formedB T = true then 0 else 1

set_option maxRecDepth 100000 in
set_option maxHeartbeats 4000000 in
theorem checkT_any {v : Value} {T : JT} (w : World) (h : IsT w v T) :
    Calls Tryd.prog 11 #[v] w fun e w' => e = .returned (if chkT T = 0 then .nilIface else .iface 59 (.int .i64 (chkT T))) ∧ Below w.heap.size w w' := by
  have hv : ∃ u, v = tval u := by obtain ⟨_, uk, a, cap, us, e, _⟩ := h.inv; exact ⟨_, e⟩
  obtain ⟨u, rfl⟩ := hv
  obtain ⟨⟨k, m, t, o, q⟩, a1, n1, c1, a2, n2, c2, hu⟩ := h.parts
  subst hu
  have b0 := (Below.refl w.heap.size w).alloc (Nat.le_refl _) (.cells #[.int .i64 k, .int .i64 m, .string t, .int .i64 o, .int .i64 q, .slice a1 n1 c1, .slice a2 n2 c2] 29)
  have hx : (w.alloc (.cells #[.int .i64 k, .int .i64 m, .string t, .int .i64 o, .int .i64 q, .slice a1 n1 c1, .slice a2 n2 c2] 29)).heap[w.heap.size]? = some _ := (MapKept.heap_alloc w _).1
  have E := isFull_any _ (h.stay b0)
  have E2 : ∀ W, Below w.heap.size w W → Calls Tryd.prog 21 #[tval (⟨k, m, t, o, q⟩, .slice a1 n1 c1, .slice a2 n2 c2), .func (Fn.func 22) #[] #[]] W fun e w' => e = .returned (.bool (formedB T)) ∧ Below W.heap.size W w' := fun W hb => by
    refine (each_none nodeS (fun _ _ => True) [] 22 (enters_of Tryd.func22 (by kernel_rfl) rfl) (fun _ _ _ _ _ => trivial) (w0 := w) (by simp) (fun x ks n cap a uk W s hk hn _ hb => ?_) h W () trivial hb (by simp)).mono ?_
    · refine (isTree_any x ks n cap a uk W hk hn).mono ?_
      rintro e w' ⟨rfl, hb⟩
      exact ⟨rfl, trivial, Kp.of hb⟩
    · rintro e w' ⟨rfl, _, hk⟩
      exact ⟨rfl, hk.below (by simp) (Nat.le_refl _)⟩
  have HX : Hid ((w.alloc (.cells #[.int .i64 k, .int .i64 m, .string t, .int .i64 o, .int .i64 q, .slice a1 n1 c1, .slice a2 n2 c2] 29)).heap[w.heap.size]? = some _) := hx
  have HB : Hid (Below w.heap.size w _) := b0
  have HC : Hid (chkT T = if 400 < T.size then 4 else if formedB T = true then 0 else 1) := rfl
  clear b0 h hx
  generalize formedB T = fb at *
  generalize chkT T = ct at *
  unfold tval at *
  dsimp only at *
  by_cases hs : 400 < T.size
  · rw [decide_eq_true hs] at E
    have hct : ct = 4 := by rw [HC.out, if_pos hs]
    subst hct
    clear hs HC
    go_enter Tryd.func11, Tryd.ntmps11
    go_wp2_with fail
    go_fit E
    rintro e w1 ⟨rfl, b1⟩
    have HB1 : Hid (Below w.heap.size w w1) := HB.out.trans (b1.mono HB.out.size)
    clear b1
    go_wp2
    go_ret
    exact ⟨rfl, HB1.out⟩
  · rw [decide_eq_false hs] at E
    have HS : Hid (ct = if fb = true then 0 else 1) := by
      show ct = _
      rw [HC.out, if_neg hs]
    clear hs HC
    go_enter Tryd.func11, Tryd.ntmps11
    go_wp2_with fail
    go_fit E
    rintro e w1 ⟨rfl, b1⟩
    have HB1 : Hid (Below w.heap.size w w1) := HB.out.trans (b1.mono HB.out.size)
    have HX1 : Hid (w1.heap[w.heap.size]? = some _) := (b1.block _ (lt_of_heap HX.out)).trans HX.out
    obtain ⟨c0, c1', c2', c3, c4, c5, c6⟩ := tboxed (u := (⟨k, m, t, o, q⟩, .slice a1 n1 c1, .slice a2 n2 c2)) HX1.out
    dsimp only at c0 c1' c2' c3 c4 c5 c6
    have EE := E2 w1 HB1.out
    clear b1 E E2
    cases fb with
    | true =>
      have hct : ct = 0 := by rw [HS.out, if_pos rfl]
      subst hct
      go_wp2_with fail
      go_fit EE
      rintro e w2 ⟨rfl, b2⟩
      have HB2 : Hid (Below w.heap.size w w2) := HB1.out.trans (b2.mono HB1.out.size)
      clear b2
      go_wp2
      go_ret
      exact ⟨rfl, HB2.out⟩
    | false =>
      have hct : ct = 1 := by rw [HS.out, if_neg (by decide)]
      subst hct
      go_wp2_with fail
      go_fit EE
      rintro e w2 ⟨rfl, b2⟩
      have HB2 : Hid (Below w.heap.size w w2) := HB1.out.trans (b2.mono HB1.out.size)
      clear b2
      go_wp2
      go_ret
      exact ⟨rfl, HB2.out⟩

set_option maxRecDepth 100000 in
set_option maxHeartbeats 4000000 in
theorem checkH_any {v : Value} {T : JT} (w : World) (h : IsT w v T) :
    Calls Tryd.prog 7 #[v] w fun e w' => e = .returned (.int .i64 (chkT T)) ∧ Below w.heap.size w w' := by
  have hv : ∃ u, v = tval u := by obtain ⟨_, uk, a, cap, us, e, _⟩ := h.inv; exact ⟨_, e⟩
  obtain ⟨u, rfl⟩ := hv
  obtain ⟨⟨k, m, t, o, q⟩, a1, n1, c1, a2, n2, c2, hu⟩ := h.parts
  subst hu
  have b0 := (Below.refl w.heap.size w).alloc (Nat.le_refl _) (.cells #[.int .i64 k, .int .i64 m, .string t, .int .i64 o, .int .i64 q, .slice a1 n1 c1, .slice a2 n2 c2] 29)
  have hx : (w.alloc (.cells #[.int .i64 k, .int .i64 m, .string t, .int .i64 o, .int .i64 q, .slice a1 n1 c1, .slice a2 n2 c2] 29)).heap[w.heap.size]? = some _ := (MapKept.heap_alloc w _).1
  have E := count_any h _ 400 (Nat.le_refl _) b0
  have E2 : ∀ W, Below w.heap.size w W → Calls Tryd.prog 8 #[tval (⟨k, m, t, o, q⟩, .slice a1 n1 c1, .slice a2 n2 c2)] W fun e w' => e = .returned (.bool (formedB T)) ∧ Below W.heap.size W w' := fun W hb => formed_any h W hb
  have HX : Hid ((w.alloc (.cells #[.int .i64 k, .int .i64 m, .string t, .int .i64 o, .int .i64 q, .slice a1 n1 c1, .slice a2 n2 c2] 29)).heap[w.heap.size]? = some _) := hx
  have HB : Hid (Below w.heap.size w _) := b0
  have HC : Hid (chkT T = if 400 < T.size then 4 else if formedB T = true then 0 else 1) := rfl
  clear b0 h hx
  generalize formedB T = fb at *
  generalize chkT T = ct at *
  unfold tval at *
  dsimp only at *
  obtain ⟨n, hn⟩ : ∃ n, n = min T.size (400 + 1) := ⟨_, rfl⟩
  rw [← hn] at E
  by_cases hs : 400 < T.size
  · have hn1 : n = 401 := by omega
    subst hn1
    have hct : ct = 4 := by rw [HC.out, if_pos hs]
    subst hct
    clear hs HC hn
    go_enter Tryd.func7, Tryd.ntmps7
    go_wp2_with fail
    go_fit E
    rintro e w1 ⟨rfl, b1⟩
    have HB1 : Hid (Below w.heap.size w w1) := HB.out.trans (b1.mono HB.out.size)
    clear b1
    go_wp2
    go_ret
    exact ⟨rfl, HB1.out⟩
  · have HS : Hid (ct = if fb = true then 0 else 1) := by
      show ct = _
      rw [HC.out, if_neg hs]
    have g1 : ¬ (400 : Int) < n := by omega
    clear hs HC hn
    go_enter Tryd.func7, Tryd.ntmps7
    go_wp2_with fail
    go_fit E
    rintro e w1 ⟨rfl, b1⟩
    have HB1 : Hid (Below w.heap.size w w1) := HB.out.trans (b1.mono HB.out.size)
    have HX1 : Hid (w1.heap[w.heap.size]? = some _) := (b1.block _ (lt_of_heap HX.out)).trans HX.out
    obtain ⟨c0, c1', c2', c3, c4, c5, c6⟩ := tboxed (u := (⟨k, m, t, o, q⟩, .slice a1 n1 c1, .slice a2 n2 c2)) HX1.out
    dsimp only at c0 c1' c2' c3 c4 c5 c6
    have EE := E2 w1 HB1.out
    clear b1 E E2
    cases fb with
    | true =>
      have hct : ct = 0 := by rw [HS.out, if_pos rfl]
      subst hct
      go_wp2_with fail
      go_fit EE
      rintro e w2 ⟨rfl, b2⟩
      have HB2 : Hid (Below w.heap.size w w2) := HB1.out.trans (b2.mono HB1.out.size)
      clear b2
      go_wp2
      go_ret
      exact ⟨rfl, HB2.out⟩
    | false =>
      have hct : ct = 1 := by rw [HS.out, if_neg (by decide)]
      subst hct
      go_wp2_with fail
      go_fit EE
      rintro e w2 ⟨rfl, b2⟩
      have HB2 : Hid (Below w.heap.size w w2) := HB1.out.trans (b2.mono HB1.out.size)
      clear b2
      go_wp2
      go_ret
      exact ⟨rfl, HB2.out⟩
end Go.Proofs.YtegbjkjeoegfbaaDoor
