/-
  What is proved: the functions Check of package json and of bookref3, called with a tree that lies in memory, tell the same: that it has more than 400 trees in it, else that something is none, else nothing. slices.BinarySearch of keys that rise finds where a key stands, or would stand.
  Conditions: as each theorem says.
-/
import Derived.Test.YtnoikdlofkcgaaaGreatDoorG03
namespace Go.Proofs.YtnoikdlofkcgaaaGreatDoor
open Go.RowKit

/-- One more is counted. -/
def cntS (_ : V) (_ : List ByteArray) (_ : Nat) (c : Int) : Bool × Int := (decide (wrap64 (c + 1) ≤ 400), wrap64 (c + 1))

theorem cnt_trees (f : JF) : ∀ (c : Int), 0 ≤ c → c ≤ 400 → (eachF cntS f c).1 = decide (c + szF f ≤ 400) ∧ ((eachF cntS f c).1 = true → (eachF cntS f c).2 = c + szF f) := by
  induction f with
  | nil =>
    intro c h0 h1
    have es : szF (.nil : JF) = 0 := rfl
    rw [eachF]
    exact ⟨(decide_eq_true (by omega)).symm, fun _ => by show c = _; omega⟩
  | node b o x l r ihl ihr =>
    intro c h0 h1
    have hw : wrap64 (c + 1) = c + 1 := by unfold wrap64; omega
    have es : szF (.node b o x l r) = (szF l + 1) + szF r := rfl
    have e0 : cntS x.1 x.2 (toL l).length c = (decide (c + 1 ≤ 400), c + 1) := by unfold cntS; rw [hw]
    rw [eachF, e0]
    by_cases h : c + 1 ≤ 400
    · have il := ihl (c + 1) (by omega) h
      rw [if_pos (decide_eq_true h)]
      by_cases h2 : c + 1 + szF l ≤ 400
      · have e1 : (eachF cntS l (c + 1)).1 = true := by rw [il.1]; exact decide_eq_true h2
        have e2 := il.2 e1
        rw [if_pos e1, e2]
        have ir := ihr (c + 1 + szF l) (by omega) h2
        refine ⟨?_, fun e => ?_⟩
        · rw [ir.1]; exact decide_eq_decide.2 (by omega)
        · rw [ir.2 e]; omega
      · have e1 : (eachF cntS l (c + 1)).1 = false := by rw [il.1]; exact decide_eq_false h2
        rw [if_neg (by rw [e1]; decide)]
        exact ⟨(decide_eq_false (by omega)).symm, fun e => by cases e⟩
    · rw [if_neg (by simpa using h)]
      exact ⟨(decide_eq_false (by omega)).symm, fun e => by cases e⟩
theorem cnt_tree (T : JT) (c : Int) (h0 : 0 ≤ c) (h1 : c ≤ 400) : (eachM cntS T c).1 = decide (c + T.size ≤ 400) := by
  have hw : wrap64 (c + 1) = c + 1 := by unfold wrap64; omega
  have es : T.size = szF T.kids + 1 := rfl
  have e0 : cntS T.x T.ks T.ts.length c = (decide (c + 1 ≤ 400), c + 1) := by unfold cntS; rw [hw]
  rw [eachM, e0]
  by_cases h : c + 1 ≤ 400
  · rw [if_pos (decide_eq_true h), (cnt_trees T.kids (c + 1) (by omega) h).1]
    exact decide_eq_decide.2 (by omega)
  · rw [if_neg (by simpa using h)]
    exact (decide_eq_false (by omega)).symm

theorem set_at {w : World} {g : Nat} {T : TypeId} {cs : Array Value} (h : w.heap[g]? = some (.cells cs T)) (i : Nat) (v : Value) : (w.setCell ⟨g, i, none⟩ v).heap[g]? = some (.cells (cs.setIfInBounds i v) T) := by
  exact heap_setCell_same w g i _ _ v h
theorem Kp.set {S : List Nat} {w w' : World} {g : Nat} (h : Kp S w w') (hg : g ∈ S) (o : Nat) (v : Value) : Kp S w (w'.setCell ⟨g, o, none⟩ v) := by
  have h1 : Below g w' (w'.setCell ⟨g, o, none⟩ v) := (Below.refl g w').setCell (Nat.le_refl _) v
  refine ⟨h1.os.trans h.os, h1.tape.trans h.tape, h1.output.trans h.output, Nat.le_trans h.size h1.size, fun k hk hS => ?_⟩
  rw [Below.heap_setCell _ _ _ _ (fun e => hS (by rw [show k = g from by simpa using e]; exact hg))]
  exact h.block k hk hS

/-- The counter's box. -/
abbrev CB (g : Nat) (c : Int) (w : World) : Prop := w.heap[g]? = some (.cells #[.int .i64 c] 3)

set_option maxRecDepth 100000 in
set_option maxHeartbeats 4000000 in
theorem more_any (g : Nat) (x : V) (uk : Value) (n cap : Nat) (a : Option Addr) (w : World) (c : Int) (hg : CB g c w) (huk : ∃ a1 n1 c1, uk = .slice a1 n1 c1) :
    Calls Tryz.prog 46 #[tval (x, uk, .slice a n cap), .pointer (some ⟨g, 0, none⟩)] w fun e w' => e = .returned (.bool (decide (wrap64 (c + 1) ≤ 400))) ∧ CB g (wrap64 (c + 1)) w' ∧ Kp [g] w w' := by
  have hlt := lt_of_heap hg
  obtain ⟨a1, n1, c1, rfl⟩ := huk
  obtain ⟨k, m, t, o, q⟩ := x
  have HA : Hid ((w.alloc (.cells #[.int .i64 k, .int .i64 m, .string t, .int .i64 o, .int .i64 q, .slice a1 n1 c1, .slice a n cap] 29)).heap[g]? = some (.cells #[.int .i64 c] 3)) := (Kp.alloc [] w _).heap hg (by simp)
  have HK : Hid (Kp [g] w (w.alloc (.cells #[.int .i64 k, .int .i64 m, .string t, .int .i64 o, .int .i64 q, .slice a1 n1 c1, .slice a n cap] 29))) := Kp.alloc [g] w _
  unfold tval
  dsimp only
  go_enter Tryz.func46, Tryz.ntmps46
  have c0 : (w.alloc (.cells #[.int .i64 k, .int .i64 m, .string t, .int .i64 o, .int .i64 q, .slice a1 n1 c1, .slice a n cap] 29)).cell? ⟨g, 0, none⟩ = some (.int .i64 c) := Lib.cell_of_heap HA.out 0
  have cf := Lib.frozen_of_heap HA.out
  go_upto_region 1 with fail
  generalize w.alloc (.cells #[.int .i64 k, .int .i64 m, .string t, .int .i64 o, .int .i64 q, .slice a1 n1 c1, .slice a n cap] 29) = W at *
  go_wp2
  go_ret
  refine ⟨rfl, ?_, HK.out.set (by simp) 0 _⟩
  exact set_at HA.out 0 (.int .i64 (wrap64 (c + 1)))

set_option maxRecDepth 100000 in
set_option maxHeartbeats 4000000 in
theorem isFull_any {v : Value} {T : JT} (w : World) (h : IsT w v T) :
    Calls Tryz.prog 28 #[v] w fun e w' => e = .returned (.bool (decide (400 < T.size))) ∧ Below w.heap.size w w' := by
  obtain ⟨u, rfl⟩ : ∃ u, v = tval u := by obtain ⟨_, uk, a, cap, us, e, _⟩ := h.inv; exact ⟨_, e⟩
  obtain ⟨⟨k, m, t, o, q⟩, a1, n1, c1, a2, n2, c2, rfl⟩ := h.parts
  have b0 := (Below.refl w.heap.size w).alloc (Nat.le_refl _) (.cells #[.int .i64 k, .int .i64 m, .string t, .int .i64 o, .int .i64 q, .slice a1 n1 c1, .slice a2 n2 c2] 29)
  have b1 := b0.alloc (by simp) (.cells #[.int .i64 0] 3)
  have hg : CB (w.heap.size + 1) 0 ((w.alloc (.cells #[.int .i64 k, .int .i64 m, .string t, .int .i64 o, .int .i64 q, .slice a1 n1 c1, .slice a2 n2 c2] 29)).alloc (.cells #[.int .i64 0] 3)) := by
    have h1 := (MapKept.heap_alloc (w.alloc (.cells #[.int .i64 k, .int .i64 m, .string t, .int .i64 o, .int .i64 q, .slice a1 n1 c1, .slice a2 n2 c2] 29)) (.cells #[.int .i64 0] 3)).1
    have h2 : (w.alloc (.cells #[.int .i64 k, .int .i64 m, .string t, .int .i64 o, .int .i64 q, .slice a1 n1 c1, .slice a2 n2 c2] 29)).heap.size = w.heap.size + 1 := by simp
    rw [h2] at h1
    exact h1
  have E := each_one cntS (fun c W => CB (w.heap.size + 1) c W) [w.heap.size + 1] 46 (.pointer (some ⟨w.heap.size + 1, 0, none⟩)) (enters_of Tryz.func46 (by kernel_rfl) rfl) (fun c W W' hc hb => (hb.block _ (lt_of_heap hc)).trans hc) (w0 := w) (by simp)
    (fun x ks n cap a uk W c hk hn hc hb => more_any (w.heap.size + 1) x uk n cap a W c hc (by obtain ⟨a, c, rfl, _⟩ := hk; exact ⟨_, _, _, rfl⟩)) h _ 0 hg b1 (by simp)
  have HC : Hid ((eachM cntS T 0).1 = decide ((0 : Int) + T.size ≤ 400)) := cnt_tree T 0 (by omega) (by omega)
  have HB : Hid (Below w.heap.size w _) := b1
  clear b0 b1 hg h
  generalize eachM cntS T 0 = p at *
  obtain ⟨r, s⟩ := p
  unfold tval at *
  dsimp only at *
  go_enter Tryz.func28, Tryz.ntmps28
  go_wp2_with fail
  go_fit E
  rintro e w1 ⟨rfl, hc, hk⟩
  have HB1 : Hid (Below w.heap.size w w1) := HB.out.trans (hk.below (by simp) HB.out.size)
  clear hk hc
  go_wp2
  go_ret
  refine ⟨?_, HB1.out⟩
  have e : decide (400 < T.size) = !r := by
    rw [HC.out]
    by_cases h : T.size ≤ 400
    · rw [decide_eq_false (by omega), decide_eq_true (by omega)]; rfl
    · rw [decide_eq_true (by omega), decide_eq_false (by omega)]; rfl
  rw [e]
  rfl

/-- What is told of a tree. -/
def chkT (T : JT) : Int := if 400 < T.size then 4 else if formedB T = true then 0 else 1

set_option maxRecDepth 100000 in
set_option maxHeartbeats 4000000 in
theorem checkT_any {v : Value} {T : JT} (w : World) (h : IsT w v T) :
    Calls Tryz.prog 11 #[v] w fun e w' => e = .returned (if chkT T = 0 then .nilIface else .iface 44 (.int .i64 (chkT T))) ∧ Below w.heap.size w w' := by
  have hv : ∃ u, v = tval u := by obtain ⟨_, uk, a, cap, us, e, _⟩ := h.inv; exact ⟨_, e⟩
  obtain ⟨u, rfl⟩ := hv
  obtain ⟨⟨k, m, t, o, q⟩, a1, n1, c1, a2, n2, c2, hu⟩ := h.parts
  subst hu
  have b0 := (Below.refl w.heap.size w).alloc (Nat.le_refl _) (.cells #[.int .i64 k, .int .i64 m, .string t, .int .i64 o, .int .i64 q, .slice a1 n1 c1, .slice a2 n2 c2] 29)
  have hx : (w.alloc (.cells #[.int .i64 k, .int .i64 m, .string t, .int .i64 o, .int .i64 q, .slice a1 n1 c1, .slice a2 n2 c2] 29)).heap[w.heap.size]? = some _ := (MapKept.heap_alloc w _).1
  have E := isFull_any _ (h.stay b0)
  have E2 : ∀ W, Below w.heap.size w W → Calls Tryz.prog 29 #[tval (⟨k, m, t, o, q⟩, .slice a1 n1 c1, .slice a2 n2 c2), .func (Fn.func 30) #[] #[]] W fun e w' => e = .returned (.bool (formedB T)) ∧ Below W.heap.size W w' := fun W hb => by
    refine (each_none nodeS (fun _ _ => True) [] 30 (enters_of Tryz.func30 (by kernel_rfl) rfl) (fun _ _ _ _ _ => trivial) (w0 := w) (by simp) (fun x ks n cap a uk W s hk hn _ hb => ?_) h W () trivial hb (by simp)).mono ?_
    · refine (isTree_any x ks n cap a uk W hk hn).mono ?_
      rintro e w' ⟨rfl, hb⟩
      exact ⟨rfl, trivial, Kp.of hb⟩
    · rintro e w' ⟨rfl, _, hk⟩
      exact ⟨rfl, hk.below (by simp) (Nat.le_refl _)⟩
  have HX : Hid ((w.alloc (.cells #[.int .i64 k, .int .i64 m, .string t, .int .i64 o, .int .i64 q, .slice a1 n1 c1, .slice a2 n2 c2] 29)).heap[w.heap.size]? = some _) := hx
  have HB : Hid (Below w.heap.size w _) := b0
  have HC : Hid (chkT T = if 400 < T.size then 4 else if formedB T = true then 0 else 1) := rfl
  clear b0 h hx
  generalize formedB T = fb at *
  generalize chkT T = ct at *
  unfold tval at *
  dsimp only at *
  by_cases hs : 400 < T.size
  · rw [decide_eq_true hs] at E
    have hct : ct = 4 := by rw [HC.out, if_pos hs]
    subst hct
    clear hs HC
    go_enter Tryz.func11, Tryz.ntmps11
    go_wp2_with fail
    go_fit E
    rintro e w1 ⟨rfl, b1⟩
    have HB1 : Hid (Below w.heap.size w w1) := HB.out.trans (b1.mono HB.out.size)
    clear b1
    go_wp2
    go_ret
    exact ⟨rfl, HB1.out⟩
  · rw [decide_eq_false hs] at E
    have HS : Hid (ct = if fb = true then 0 else 1) := by
      show ct = _
      rw [HC.out, if_neg hs]
    clear hs HC
    go_enter Tryz.func11, Tryz.ntmps11
    go_wp2_with fail
    go_fit E
    rintro e w1 ⟨rfl, b1⟩
    have HB1 : Hid (Below w.heap.size w w1) := HB.out.trans (b1.mono HB.out.size)
    have HX1 : Hid (w1.heap[w.heap.size]? = some _) := (b1.block _ (lt_of_heap HX.out)).trans HX.out
    obtain ⟨c0, c1', c2', c3, c4, c5, c6⟩ := tboxed (u := (⟨k, m, t, o, q⟩, .slice a1 n1 c1, .slice a2 n2 c2)) HX1.out
    dsimp only at c0 c1' c2' c3 c4 c5 c6
    have EE := E2 w1 HB1.out
    clear b1 E E2
    cases fb with
    | true =>
      have hct : ct = 0 := by rw [HS.out, if_pos rfl]
      subst hct
      go_wp2_with fail
      go_fit EE
      rintro e w2 ⟨rfl, b2⟩
      have HB2 : Hid (Below w.heap.size w w2) := HB1.out.trans (b2.mono HB1.out.size)
      clear b2
      go_wp2
      go_ret
      exact ⟨rfl, HB2.out⟩
    | false =>
      have hct : ct = 1 := by rw [HS.out, if_neg (by decide)]
      subst hct
      go_wp2_with fail
      go_fit EE
      rintro e w2 ⟨rfl, b2⟩
      have HB2 : Hid (Below w.heap.size w w2) := HB1.out.trans (b2.mono HB1.out.size)
      clear b2
      go_wp2
      go_ret
      exact ⟨rfl, HB2.out⟩

end Go.Proofs.YtnoikdlofkcgaaaGreatDoor

namespace Go.Proofs.YtnoikdlofkcgaaaGreatDoor
open Go.RowKit Go.Sort

theorem up_all {p : List UInt8} {l : List ByteArray} (h : upB p l = true) : ∀ i (hi : i < l.length), p < l[i].toList := by
  induction l generalizing p with
  | nil => intro i hi; simp at hi
  | cons k r ih =>
    rw [upB_cons] at h
    simp only [Bool.and_eq_true, decide_eq_true_eq] at h
    intro i hi
    cases i with
    | zero => exact h.1
    | succ i => exact List.lt_trans h.1 (ih h.2.2 i (by simpa using hi))
theorem up_pair {p : List UInt8} {l : List ByteArray} (h : upB p l = true) : ∀ i j (hi : i < j) (hj : j < l.length), l[i].toList < l[j].toList := by
  induction l generalizing p with
  | nil => intro i j hi hj; simp at hj
  | cons k r ih =>
    rw [upB_cons] at h
    simp only [Bool.and_eq_true, decide_eq_true_eq] at h
    intro i j hi hj
    cases j with
    | zero => omega
    | succ j =>
      cases i with
      | zero => exact up_all h.2.2 j (by simpa using hj)
      | succ i => exact ih h.2.2 i j (by omega) (by simpa using hj)

set_option maxRecDepth 100000 in
set_option maxHeartbeats 4000000 in
theorem lessS_any (x y : ByteArray) (w : World) :
    Calls Tryz.prog 71 #[.string x, .string y] w fun e w' => e = .returned (.bool (decide (x.toList < y.toList))) ∧ Below w.heap.size w w' := by
  have e1 : Op.bytesLess x.toList y.toList = decide (x.toList < y.toList) := by rw [bytesLess_eq]
  rw [← e1]
  clear e1
  go_enter Tryz.func71, Tryz.ntmps71
  go_wp2
  go_ret
  exact ⟨rfl, Below.refl _ _⟩

/-- What a search answers. -/
def Found (ks : List ByteArray) (x : List UInt8) (i : Nat) (ok : Bool) : Prop :=
  i ≤ ks.length ∧ (∀ t (h : t < ks.length), t < i → ks[t].toList < x) ∧ (∀ t (h : t < ks.length), i ≤ t → ¬ ks[t].toList < x) ∧ (ok = true ↔ ∃ h : i < ks.length, ks[i].toList = x)

/-- The same, of an ending. -/
def SearchP (ks : List ByteArray) (x : List UInt8) (e : Ending) : Prop := ∃ (i : Nat) (ok : Bool), e = .returned (.tuple #[.int .i64 i, .bool ok]) ∧ Found ks x i ok

set_option maxRecDepth 100000 in
set_option maxHeartbeats 4000000 in
theorem search_any (v : Value) (ks : List ByteArray) (x : ByteArray) (w : World) (hv : IsStrs w v ks) (hu : upB [] ks = true) :
    Calls Tryz.prog 55 #[v, .string x] w fun e w' => SearchP ks x.toList e ∧ Below w.heap.size w w' := by
  have HS : Hid (IsStrs w v ks) := hv
  obtain ⟨a, cap, rfl, h1, h2, h3⟩ := hv
  have HZ : Hid (ks.length ≤ cap ∧ ks.length ≤ 8796093022208) := ⟨h1.1, h2⟩
  have HP : Hid (∀ i j (hi : i < j) (hj : j < ks.length), ks[i].toList < ks[j].toList) := up_pair hu
  clear h1 h2 h3 hu
  go_enter Tryz.func55, Tryz.ntmps55
  go_wp2_with fail
  go_loopw [7, 8, 9] (fun i j _ wr => ∃ lo hi : Nat, lo ≤ hi ∧ hi ≤ ks.length ∧ i = .int .i64 lo ∧ j = .int .i64 hi ∧ Hid (∀ t (h : t < ks.length), t < lo → ks[t].toList < x.toList) ∧ Hid (∀ t (h : t < ks.length), hi ≤ t → ¬ ks[t].toList < x.toList) ∧ Hid (Below w.heap.size w wr)) (fun i j _ _ => (RowKit.intOf j).toNat - (RowKit.intOf i).toNat)
  case atStart => exact ⟨0, ks.length, Nat.zero_le _, Nat.le_refl _, rfl, rfl, fun t _ h => absurd h (Nat.not_lt_zero _), fun t h h' => absurd h (Nat.not_lt.2 h'), Below.refl _ _⟩
  case round =>
    obtain ⟨lo, hi, hlh, hhn, rfl, rfl, HA, HC, HB⟩ := hrel
    by_cases hlt : lo < hi
    · have g1 : (lo : Int) < hi := by omega
      have g2 : (hi : Int) ≤ 8796093022208 := by have := HZ.out; omega
      have g3 : (hi : Int) ≤ ks.length := by omega
      obtain ⟨m, hm⟩ : ∃ m, m = (lo + hi) / 2 := ⟨_, rfl⟩
      have gm : ((lo : Int) + hi) / 2 = m := by omega
      have hmn : m < ks.length := by omega
      obtain ⟨b, off, rfl, hb4, hmem⟩ := HS.out.cells HB.out (show ks ≠ [] from fun e => by rw [e] at hmn; simp at hmn)
      have x0 := hmem m hmn
      have g4 : (m : Int) < ks.length := by omega
      have HM : Hid (lo ≤ m ∧ m < hi ∧ hi ≤ ks.length) := ⟨by omega, by omega, hhn⟩
      have E := lessS_any ks[m] x wr
      by_cases hk : ks[m].toList < x.toList
      · rw [decide_eq_true hk] at E
        have HA2 : Hid (∀ t (h : t < ks.length), t < m + 1 → ks[t].toList < x.toList) := by
          intro t h ht
          rcases Nat.lt_or_ge t m with e | e
          · exact List.lt_trans (HP.out t m e hmn) hk
          · obtain rfl : t = m := by omega
            exact hk
        clear hmem hk
        generalize ks[m] = sm at *
        clear hm hlt hlh hhn hmn
        go_wp2_with fail
        go_fit E
        rintro e w1 ⟨rfl, b1⟩
        have HB1 : Hid (Below w.heap.size w w1) := HB.out.trans (b1.mono HB.out.size)
        clear b1 E x0
        go_wp2
        go_roundw
        case rel => exact ⟨m + 1, hi, HM.out.2.1, HM.out.2.2, by go_num, rfl, HA2, HC, HB1⟩
        case measure => simp [RowKit.intOf]; have := HM.out; omega
      · rw [decide_eq_false hk] at E
        have HC2 : Hid (∀ t (h : t < ks.length), m ≤ t → ¬ ks[t].toList < x.toList) := by
          intro t h ht
          rcases Nat.lt_or_ge m t with e | e
          · exact fun h' => hk (List.lt_trans (HP.out m t e h) h')
          · obtain rfl : t = m := by omega
            exact hk
        clear hmem hk
        generalize ks[m] = sm at *
        clear hm hlt hlh hhn hmn
        go_wp2_with fail
        go_fit E
        rintro e w1 ⟨rfl, b1⟩
        have HB1 : Hid (Below w.heap.size w w1) := HB.out.trans (b1.mono HB.out.size)
        clear b1 E x0
        go_wp2
        go_roundw
        case rel => exact ⟨lo, m, HM.out.1, by have := HM.out; omega, rfl, rfl, HA, HC2, HB1⟩
        case measure => simp [RowKit.intOf]; have := HM.out; omega
    · have g1 : ¬ (lo : Int) < hi := by omega
      have hle : lo = hi := by omega
      subst hle
      by_cases hn : lo < ks.length
      · have g2 : (lo : Int) < ks.length := by omega
        obtain ⟨b, off, rfl, hb4, hmem⟩ := HS.out.cells HB.out (show ks ≠ [] from fun e => by rw [e] at hn; simp at hn)
        have x0 := hmem lo hn
        by_cases hk : ks[lo].toList = x.toList
        · have e1 : (ks[lo].toList == x.toList) = true := by simpa using hk
          have HF : Hid (Found ks x.toList lo true) := ⟨hhn, HA.out, HC.out, ⟨fun _ => ⟨hn, hk⟩, fun _ => rfl⟩⟩
          clear hmem hk
          generalize ks[lo] = sm at *
          clear hn hlt hlh hhn
          go_wp2
          go_returns
          exact ⟨⟨lo, true, rfl, HF.out⟩, HB.out⟩
        · have e1 : (ks[lo].toList == x.toList) = false := by simpa using hk
          have HF : Hid (Found ks x.toList lo false) := ⟨hhn, HA.out, HC.out, ⟨(fun e => by cases e), fun ⟨_, h⟩ => absurd h hk⟩⟩
          clear hmem hk
          generalize ks[lo] = sm at *
          clear hn hlt hlh hhn
          go_wp2
          go_returns
          exact ⟨⟨lo, false, rfl, HF.out⟩, HB.out⟩
      · have g2 : ¬ (lo : Int) < ks.length := by omega
        have HF : Hid (Found ks x.toList lo false) := ⟨hhn, HA.out, HC.out, ⟨(fun e => by cases e), fun ⟨h, _⟩ => absurd h hn⟩⟩
        clear hn hlt hlh hhn
        go_wp2
        go_returns
        exact ⟨⟨lo, false, rfl, HF.out⟩, HB.out⟩
end Go.Proofs.YtnoikdlofkcgaaaGreatDoor
