/-
  What is proved: the functions isValue and isTree of package json answer whether a value may stand in a tree, and whether a tree is one but for its kids.
  Conditions: the tree's keys lie in memory.
-/
import Derived.Test.YtegbjkjeoegfbaaDoorJKeys
import Derived.Test.YtegbjkjeoegfbaaDoorJCount
import Derived.Test.YtegbjkjeoegfbaaDoorCheckA
namespace Go.Proofs.YtegbjkjeoegfbaaDoor
open Go.RowKit

/-- May a tree have this value? -/
def valB (x : V) : Bool := okB x && (decide (x.k ≠ 4) && decide (x.o = 0 ∧ x.a = 0))
/-- Is it a tree, but for its kids, of which there are so many? -/
def nodeB (x : V) (ks : List ByteArray) (n : Nat) : Bool :=
  valB x && (if x.k = 5 then decide (ks.length = n) && upB [] ks else if x.k = 6 then ks.isEmpty else ks.isEmpty && decide (n = 0))

set_option maxRecDepth 100000 in
set_option maxHeartbeats 4000000 in
theorem isValue_any (x : V) (w : World) :
    Calls Tryd.prog 28 #[x.val] w fun e w' => e = .returned (.bool (valB x)) ∧ Below w.heap.size w w' := by
  have H := fun W => checkV_any x W
  have HV : Hid (valB x = (okB x && (decide (x.k ≠ 4) && decide (x.o = 0 ∧ x.a = 0)))) := rfl
  generalize valB x = r at *
  generalize okB x = q at *
  obtain ⟨k, n, t, o, a⟩ := x
  unfold V.val at *
  dsimp only at *
  have h0 := (Below.refl w.heap.size w).alloc (Nat.le_refl _) (.cells #[.int .i64 k, .int .i64 n, .string t, .int .i64 o, .int .i64 a] 25)
  have E := H (w.alloc (.cells #[.int .i64 k, .int .i64 n, .string t, .int .i64 o, .int .i64 a] 25))
  have HX : Hid ((w.alloc (.cells #[.int .i64 k, .int .i64 n, .string t, .int .i64 o, .int .i64 a] 25)).heap[w.heap.size]? = some _) := (MapKept.heap_alloc w _).1
  have HB : Hid (Below w.heap.size w _) := h0
  clear H h0
  cases q with
  | false =>
    rw [if_neg (by decide)] at E
    go_enter Tryd.func28, Tryd.ntmps28
    go_wp2_with fail
    go_fit E
    rintro e w1 ⟨rfl, b1⟩
    have HB1 : Hid (Below w.heap.size w w1) := HB.out.trans (b1.mono (by simp))
    clear b1
    go_wp2
    go_ret
    exact ⟨by rw [HV.out]; rfl, HB1.out⟩
  | true =>
    rw [if_pos rfl] at E
    go_enter Tryd.func28, Tryd.ntmps28
    go_wp2_with fail
    go_fit E
    rintro e w1 ⟨rfl, b1⟩
    have HB1 : Hid (Below w.heap.size w w1) := HB.out.trans (b1.mono (by simp))
    have hx := (b1.block _ (lt_of_heap HX.out)).trans HX.out
    have c0 : w1.cell? ⟨w.heap.size, 0, none⟩ = some (.int .i64 k) := Lib.cell_of_heap hx 0
    have c3 : w1.cell? ⟨w.heap.size, 3, none⟩ = some (.int .i64 o) := Lib.cell_of_heap hx 3
    have c4 : w1.cell? ⟨w.heap.size, 4, none⟩ = some (.int .i64 a) := Lib.cell_of_heap hx 4
    clear b1 hx E
    by_cases h4 : k = 4
    · subst h4
      go_wp2
      go_ret
      exact ⟨by rw [HV.out]; rfl, HB1.out⟩
    · have HK : Hid (k ≠ 4) := h4
      have h4' : (k != 4) = true := by simpa using h4
      clear h4
      by_cases ho : o = 0
      · subst ho
        by_cases ha : a = 0
        · subst ha
          go_wp2
          go_ret
          exact ⟨by rw [HV.out, decide_eq_true HK.out]; rfl, HB1.out⟩
        · have ha' : (a == 0) = false := by simpa using ha
          have HA : Hid (¬ a = 0) := ha
          clear ha
          go_wp2
          go_ret
          exact ⟨by rw [HV.out, decide_eq_true HK.out, decide_eq_false (fun h => HA.out h.2)]; rfl, HB1.out⟩
      · have ho' : (o == 0) = false := by simpa using ho
        have HO : Hid (¬ o = 0) := ho
        clear ho
        go_wp2
        go_ret
        exact ⟨by rw [HV.out, decide_eq_true HK.out, decide_eq_false (fun h => HO.out h.1)]; rfl, HB1.out⟩

set_option maxRecDepth 100000 in
set_option maxHeartbeats 4000000 in
theorem isTree_any (x : V) (ks : List ByteArray) (n cap : Nat) (a : Option Addr) (uk : Value) (w : World) (hk : IsStrs w uk ks) (hn : n ≤ 8796093022208) :
    Calls Tryd.prog 22 #[tval (x, uk, .slice a n cap)] w fun e w' => e = .returned (.bool (nodeB x ks n)) ∧ Below w.heap.size w w' := by
  have HV : Hid (nodeB x ks n = (valB x && (if x.k = 5 then decide (ks.length = n) && upB [] ks else if x.k = 6 then ks.isEmpty else ks.isEmpty && decide (n = 0)))) := rfl
  have h0 := (Below.refl w.heap.size w).alloc (Nat.le_refl _) (.cells #[.int .i64 x.k, .int .i64 x.n, .string x.t, .int .i64 x.o, .int .i64 x.a, uk, .slice a n cap] 29)
  have E := isValue_any x (w.alloc (.cells #[.int .i64 x.k, .int .i64 x.n, .string x.t, .int .i64 x.o, .int .i64 x.a, uk, .slice a n cap] 29))
  have HX : Hid ((w.alloc (.cells #[.int .i64 x.k, .int .i64 x.n, .string x.t, .int .i64 x.o, .int .i64 x.a, uk, .slice a n cap] 29)).heap[w.heap.size]? = some _) := (MapKept.heap_alloc w _).1
  have HB : Hid (Below w.heap.size w _) := h0
  have HS : Hid (IsStrs (w.alloc (.cells #[.int .i64 x.k, .int .i64 x.n, .string x.t, .int .i64 x.o, .int .i64 x.a, uk, .slice a n cap] 29)) uk ks) := hk.below h0
  generalize nodeB x ks n = r at *
  generalize valB x = q at *
  obtain ⟨ak, ck, rfl, hkc, hkz, hkm⟩ := hk
  clear hkm
  obtain ⟨k, m, t, o, c⟩ := x
  unfold V.val at *
  unfold tval
  dsimp only at *
  clear h0
  cases q with
  | false =>
    go_enter Tryd.func22, Tryd.ntmps22
    go_wp2_with fail
    go_fit E
    rintro e w1 ⟨rfl, b1⟩
    have HB1 : Hid (Below w.heap.size w w1) := HB.out.trans (b1.mono (by simp))
    clear b1
    go_wp2
    go_ret
    exact ⟨by rw [HV.out]; rfl, HB1.out⟩
  | true =>
    go_enter Tryd.func22, Tryd.ntmps22
    go_wp2_with fail
    go_fit E
    rintro e w1 ⟨rfl, b1⟩
    have HB1 : Hid (Below w.heap.size w w1) := HB.out.trans (b1.mono (by simp))
    have hx := (b1.block _ (lt_of_heap HX.out)).trans HX.out
    have c0 : w1.cell? ⟨w.heap.size, 0, none⟩ = some (.int .i64 k) := Lib.cell_of_heap hx 0
    have c5 : w1.cell? ⟨w.heap.size, 5, none⟩ = some (.slice ak ks.length ck) := Lib.cell_of_heap hx 5
    have c6 : w1.cell? ⟨w.heap.size, 6, none⟩ = some (.slice a n cap) := Lib.cell_of_heap hx 6
    have EK := areKeys_any (.slice ak ks.length ck) ks w1 (HS.out.below b1)
    clear b1 hx E HX HS HB
    have HE : Hid (ks.isEmpty = decide (ks.length = 0)) := by
      show ks.isEmpty = _
      cases ks <;> rfl
    rw [HE.out] at HV
    generalize upB [] ks = up at *
    generalize ks.length = L at *
    have HN : Hid (n ≤ 8796093022208 ∧ L ≤ 8796093022208) := ⟨hn, hkz⟩
    clear hn hkz hkc
    by_cases h5 : k = 5
    · subst h5
      by_cases hl : L = n
      · subst hl
        go_wp2_with fail
        go_fit EK
        rintro e w2 ⟨rfl, b2⟩
        have HB2 : Hid (Below w.heap.size w w2) := HB1.out.trans (b2.mono HB1.out.size)
        clear b2
        go_wp2
        go_ret
        have hv : r = up := by rw [HV.out]; simp
        exact ⟨by rw [hv]; rfl, HB2.out⟩
      · have hl' : ((L : Int) == (n : Int)) = false := by simp only [beq_eq_false_iff_ne]; omega
        have HL : Hid (¬ L = n) := hl
        clear hl
        go_wp2
        go_ret
        have hv : r = false := by rw [HV.out]; simp [HL.out]
        exact ⟨by rw [hv]; rfl, HB1.out⟩
    · by_cases h6 : k = 6
      · subst h6
        by_cases hl : L = 0
        · subst hl
          go_wp2
          go_ret
          have hv : r = true := by rw [HV.out]; simp
          exact ⟨by rw [hv]; rfl, HB1.out⟩
        · have hl' : ((L : Int) == 0) = false := by simp only [beq_eq_false_iff_ne]; omega
          have HL : Hid (¬ L = 0) := hl
          clear hl
          go_wp2
          go_ret
          have hv : r = false := by rw [HV.out]; simp [HL.out]
          exact ⟨by rw [hv]; rfl, HB1.out⟩
      · have HK : Hid (¬ k = 5 ∧ ¬ k = 6) := ⟨h5, h6⟩
        by_cases hl : L = 0
        · subst hl
          by_cases hm : n = 0
          · subst hm
            go_wp2
            go_ret
            have hv : r = true := by rw [HV.out]; simp [HK.out.1, HK.out.2]
            exact ⟨by rw [hv]; rfl, HB1.out⟩
          · have hm' : ((n : Int) == 0) = false := by simp only [beq_eq_false_iff_ne]; omega
            have HM : Hid (¬ n = 0) := hm
            clear hm
            go_wp2
            go_ret
            have hv : r = false := by rw [HV.out]; simp [HK.out.1, HK.out.2, HM.out]
            exact ⟨by rw [hv]; rfl, HB1.out⟩
        · have hl' : ((L : Int) == 0) = false := by simp only [beq_eq_false_iff_ne]; omega
          have HL : Hid (¬ L = 0) := hl
          clear hl
          go_wp2
          go_ret
          have hv : r = false := by rw [HV.out]; simp [HK.out.1, HK.out.2, HL.out]
          exact ⟨by rw [hv]; rfl, HB1.out⟩
end Go.Proofs.YtegbjkjeoegfbaaDoor
