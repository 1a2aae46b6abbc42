/-
  What is proved: the function find of package json, called with a tree whose keys rise and a step, tells besides where a key that is not there would stand.
  Conditions: the tree's keys lie in memory; of a map they rise.
-/
import Derived.Test.YtegbjkjeoegfbaaDoorJFind
namespace Go.Proofs.YtegbjkjeoegfbaaDoor
open Go.RowKit Go.Sort

/-- What find answers. -/
def FindI (q : Option Nat) (ky : Bool) (ks : List ByteArray) (key : List UInt8) (e : Ending) : Prop := ∃ (r : Int) (ok : Bool), e = .returned (.tuple #[.int .i64 r, .bool ok]) ∧ ((∀ j, q = some j → r = j ∧ ok = true) ∧ (q = none → ok = false)) ∧ (ky = true → ∃ j : Nat, r = j ∧ Found ks key j ok)

set_option maxRecDepth 100000 in
set_option maxHeartbeats 4000000 in
theorem findI_any (x : V) (ks : List ByteArray) (a1 a2 : Option Addr) (n1 c1 n2 c2 : Nat) (s : Stp) (w : World) (hk : IsStrs w (.slice a1 n1 c1) ks) (hu : x.k = 5 → upB [] ks = true) :
    Calls Tryd.prog 40 #[tval (x, .slice a1 n1 c1, .slice a2 n2 c2), stpV s] w fun e w' => FindI (kidOf x ks n2 s) (keyStep x s) ks s.1.toList e ∧ Below w.heap.size w w' := by
  have E1 := isKeyOf_any x a1 a2 n1 c1 n2 c2 s
  have E2 := isIndexOf_any x a1 a2 n1 c1 n2 c2 s
  have HV : Hid (kidOf x ks n2 s = if keyStep x s = true then lookK ks s.1.toList else if atStep x n2 s = true ∧ s.2 < n2 then some s.2.toNat else none) := rfl
  have HK : Hid (keyStep x s = true → x.k = 5) := by
    intro h
    unfold keyStep at h
    simp only [Bool.and_eq_true, decide_eq_true_eq] at h
    exact h.1
  have HA : Hid (atStep x n2 s = true → 0 ≤ s.2) := by
    intro h
    unfold atStep at h
    simp only [Bool.and_eq_true, decide_eq_true_eq] at h
    exact h.2.2.1
  generalize kidOf x ks n2 s = r at *
  generalize keyStep x s = ky at *
  generalize atStep x n2 s = ay at *
  obtain ⟨k, n, t, o, c⟩ := x
  obtain ⟨b, i⟩ := s
  obtain ⟨t1, t2, t3⟩ := two_boxes w (.cells #[.int .i64 k, .int .i64 n, .string t, .int .i64 o, .int .i64 c, .slice a1 n1 c1, .slice a2 n2 c2] 29) (.cells #[.string b, .int .i64 i] 45)
  have HB : Hid (Below w.heap.size w _) := t3
  have HX : Hid (((w.alloc (.cells #[.int .i64 k, .int .i64 n, .string t, .int .i64 o, .int .i64 c, .slice a1 n1 c1, .slice a2 n2 c2] 29)).alloc (.cells #[.string b, .int .i64 i] 45)).heap[w.heap.size]? = some _) := t1
  have HY : Hid (((w.alloc (.cells #[.int .i64 k, .int .i64 n, .string t, .int .i64 o, .int .i64 c, .slice a1 n1 c1, .slice a2 n2 c2] 29)).alloc (.cells #[.string b, .int .i64 i] 45)).heap[w.heap.size + 1]? = some _) := t2
  have HS : Hid (IsStrs w (.slice a1 n1 c1) ks) := hk
  have HU : Hid (k = 5 → upB [] ks = true) := hu
  clear t1 t2 t3 hk hu
  unfold tval stpV at *
  dsimp only at *
  go_enter Tryd.func40, Tryd.ntmps40
  go_wp2_with fail
  go_fit (E1 _)
  rintro e w1 ⟨rfl, b1⟩
  have HX1 : Hid (w1.heap[w.heap.size]? = some _) := (b1.block _ (lt_of_heap HX.out)).trans HX.out
  have HY1 : Hid (w1.heap[w.heap.size + 1]? = some _) := (b1.block _ (lt_of_heap HY.out)).trans HY.out
  have HB1 : Hid (Below w.heap.size w w1) := HB.out.trans (b1.mono HB.out.size)
  obtain ⟨c0, c1', c2', c3, c4, c5, c6⟩ := tboxed (u := (⟨k, n, t, o, c⟩, .slice a1 n1 c1, .slice a2 n2 c2)) HX1.out
  dsimp only at c0 c1' c2' c3 c4 c5 c6
  have d0 : w1.cell? ⟨w.heap.size + 1, 0, none⟩ = some (.string b) := Lib.cell_of_heap HY1.out 0
  have d1 : w1.cell? ⟨w.heap.size + 1, 1, none⟩ = some (.int .i64 i) := Lib.cell_of_heap HY1.out 1
  clear b1 HX HY HB E1
  cases ky with
  | true =>
    have E := search_any (.slice a1 n1 c1) ks b w1 (HS.out.below HB1.out) (HU.out (HK.out (by first | trivial | rfl)))
    go_wp2_with fail
    go_fit E
    rintro e w2 ⟨⟨j, ok, rfl, HF⟩, b2⟩
    have HB2 : Hid (Below w.heap.size w w2) := HB1.out.trans (b2.mono HB1.out.size)
    have hf := found_look (HU.out (HK.out (by first | trivial | rfl))) HF
    have HR : Hid ((∀ q, r = some q → (j : Int) = q ∧ ok = true) ∧ (r = none → ok = false)) := by
      rw [show r = lookK ks b.toList by rw [HV.out]; simp]
      exact ⟨fun q hq => ⟨by have := (hf.1 q hq).1; omega, (hf.1 q hq).2⟩, hf.2⟩
    have HFK : Hid (∃ q : Nat, (j : Int) = q ∧ Found ks b.toList q ok) := ⟨j, rfl, HF⟩
    clear b2 hf HF E E2 c0 c1' c2' c3 c4 c5 c6 d0 d1
    go_wp2
    go_returns
    exact ⟨⟨_, _, rfl, HR.out, fun _ => HFK.out⟩, HB2.out⟩
  | false =>
    go_wp2_with fail
    go_fit (E2 _)
    rintro e w2 ⟨rfl, b2⟩
    have HX2 : Hid (w2.heap[w.heap.size]? = some _) := (b2.block _ (lt_of_heap HX1.out)).trans HX1.out
    have HY2 : Hid (w2.heap[w.heap.size + 1]? = some _) := (b2.block _ (lt_of_heap HY1.out)).trans HY1.out
    have HB2 : Hid (Below w.heap.size w w2) := HB1.out.trans (b2.mono HB1.out.size)
    clear c0 c1' c2' c3 c4 c5 c6 d0 d1 b2 E2
    have c6 : w2.cell? ⟨w.heap.size, 6, none⟩ = some (.slice a2 n2 c2) := Lib.cell_of_heap HX2.out 6
    have d1 : w2.cell? ⟨w.heap.size + 1, 1, none⟩ = some (.int .i64 i) := Lib.cell_of_heap HY2.out 1
    cases ay with
    | true =>
      have h0 := HA.out rfl
      by_cases hlt : i < n2
      · have HR : Hid (r = some i.toNat ∧ 0 ≤ i) := ⟨by rw [HV.out, if_neg (by decide), if_pos ⟨rfl, hlt⟩], h0⟩
        clear h0 HA
        go_wp2
        go_quiet (fail)
        go_wp2
        go_returns
        refine ⟨⟨_, _, rfl, ⟨fun q hq => ?_, fun hq => ?_⟩, fun h => (by cases h)⟩, below_drew HB2.out nq⟩
        · rw [HR.out.1] at hq
          have h1 := Option.some.inj hq
          have h2 := HR.out.2
          exact ⟨by omega, rfl⟩
        · rw [HR.out.1] at hq; cases hq
      · have HR : Hid (r = none) := by
          show r = none
          rw [HV.out, if_neg (by decide), if_neg (fun h => hlt h.2)]
        have HN : Hid (¬ i < n2) := hlt
        clear h0 HA
        go_wp2
        go_quiet (fail)
        go_wp2
        go_returns
        refine ⟨⟨_, _, rfl, ⟨fun q hq => ?_, fun hq => decide_eq_false (by have := HN.out; omega)⟩, fun h => (by cases h)⟩, below_drew HB2.out nq⟩
        rw [HR.out] at hq; cases hq
    | false =>
      have HR : Hid (r = none) := by
        show r = none
        rw [HV.out, if_neg (by decide), if_neg (fun h => by cases h.1)]
      go_wp2
      go_returns
      refine ⟨⟨_, _, rfl, ⟨fun q hq => ?_, fun hq => rfl⟩, fun h => (by cases h)⟩, HB2.out⟩
      rw [HR.out] at hq; cases hq
end Go.Proofs.YtegbjkjeoegfbaaDoor
