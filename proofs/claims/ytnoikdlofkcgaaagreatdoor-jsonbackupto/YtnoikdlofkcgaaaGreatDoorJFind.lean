/-
  What is proved: the function find of package json, called with a tree whose keys rise and a step, finds the kid to which it leads, or says that there is none.
  Conditions: the tree's keys lie in memory; of a map they rise.
-/
import Derived.Test.YtnoikdlofkcgaaaGreatDoorG04
namespace Go.Proofs.YtnoikdlofkcgaaaGreatDoor
open Go.RowKit Go.Sort

/-- A step: a key, an index. -/
abbrev Stp := ByteArray × Int
/-- As Go has it. -/
abbrev stpV (s : Stp) : Value := .agg #[.string s.1, .int .i64 s.2]
/-- A step to a key of a map. -/
def keyStep (x : V) (s : Stp) : Bool := decide (x.k = 5) && (!s.1.toList.isEmpty && decide (s.2 = 0))
/-- A step to an index of a list, or behind its last. -/
def atStep (x : V) (n : Nat) (s : Stp) : Bool := decide (x.k = 6) && (s.1.toList.isEmpty && (decide (0 ≤ s.2) && decide (s.2 ≤ n)))
/-- Where a key stands. -/
def lookK : List ByteArray → List UInt8 → Option Nat
  | [], _ => none
  | k :: r, b => if k.toList = b then some 0 else (lookK r b).map (· + 1)
/-- The kid to which a step leads. -/
def kidOf (x : V) (ks : List ByteArray) (n : Nat) (s : Stp) : Option Nat :=
  if keyStep x s = true then lookK ks s.1.toList else if atStep x n s = true ∧ s.2 < n then some s.2.toNat else none

theorem lookK_some {l : List ByteArray} {b : List UInt8} {i : Nat} (h : lookK l b = some i) : ∃ h : i < l.length, l[i].toList = b ∧ ∀ t (ht : t < l.length), t < i → l[t].toList ≠ b := by
  induction l generalizing i with
  | nil => simp [lookK] at h
  | cons k r ih =>
    unfold lookK at h
    by_cases e : k.toList = b
    · rw [if_pos e] at h
      obtain rfl := Option.some.inj h
      exact ⟨by simp, e, fun t _ h => absurd h (Nat.not_lt_zero _)⟩
    · rw [if_neg e] at h
      obtain ⟨j, hj, rfl⟩ := Option.map_eq_some_iff.1 h
      obtain ⟨h1, h2, h3⟩ := ih hj
      refine ⟨by simpa using h1, h2, fun t ht hlt => ?_⟩
      cases t with
      | zero => exact e
      | succ t => exact h3 t (by simpa using ht) (by omega)
theorem lookK_none {l : List ByteArray} {b : List UInt8} (h : lookK l b = none) : ∀ t (ht : t < l.length), l[t].toList ≠ b := by
  induction l with
  | nil => intro t ht; simp at ht
  | cons k r ih =>
    unfold lookK at h
    by_cases e : k.toList = b
    · rw [if_pos e] at h; cases h
    · rw [if_neg e] at h
      intro t ht
      cases t with
      | zero => exact e
      | succ t => exact ih (Option.map_eq_none_iff.1 h) t (by simpa using ht)
theorem found_look {ks : List ByteArray} {x : List UInt8} {i : Nat} {ok : Bool} (hu : upB [] ks = true) (h : Found ks x i ok) : (∀ j, lookK ks x = some j → i = j ∧ ok = true) ∧ (lookK ks x = none → ok = false) := by
  obtain ⟨h1, h2, h3, h4⟩ := h
  refine ⟨fun j hj => ?_, fun hn => ?_⟩
  · obtain ⟨hjl, hjx, _⟩ := lookK_some hj
    have hij : i = j := by
      rcases Nat.lt_trichotomy i j with e | e | e
      · have h5 := h3 i (by omega) (Nat.le_refl _)
        have h6 := up_pair hu i j e hjl
        rw [hjx] at h6
        exact absurd h6 h5
      · exact e
      · have h5 := h2 j hjl e
        rw [hjx] at h5
        exact absurd h5 (List.lt_irrefl _)
    subst hij
    exact ⟨rfl, h4.2 ⟨hjl, hjx⟩⟩
  · cases ok with
    | false => rfl
    | true =>
      obtain ⟨hl, hx⟩ := h4.1 rfl
      exact absurd hx (lookK_none hn i hl)

theorem below_drew {B : Nat} {w wr : World} (h : Below B w wr) (n : Nat) : Below B w (wr.drewN n) := ⟨h.os, h.tape, h.output, h.size, h.block⟩

theorem two_boxes (w : World) (o1 o2 : Obj) : ((w.alloc o1).alloc o2).heap[w.heap.size]? = some o1 ∧ ((w.alloc o1).alloc o2).heap[w.heap.size + 1]? = some o2 ∧ Below w.heap.size w ((w.alloc o1).alloc o2) := by
  refine ⟨?_, ?_, ((Below.refl w.heap.size w).alloc (Nat.le_refl _) o1).alloc (by simp) o2⟩
  · exact (((Below.refl _ _).alloc (Nat.le_refl _) o2).block w.heap.size (by simp)).trans (MapKept.heap_alloc w o1).1
  · have h1 := (MapKept.heap_alloc (w.alloc o1) o2).1
    have h2 : (w.alloc o1).heap.size = w.heap.size + 1 := by simp
    rw [h2] at h1
    exact h1

set_option maxRecDepth 100000 in
set_option maxHeartbeats 4000000 in
theorem isKeyOf_any (x : V) (a1 a2 : Option Addr) (n1 c1 n2 c2 : Nat) (s : Stp) (w : World) :
    Calls Tryz.prog 54 #[tval (x, .slice a1 n1 c1, .slice a2 n2 c2), stpV s] w fun e w' => e = .returned (.bool (keyStep x s)) ∧ Below w.heap.size w w' := by
  have HV : Hid (keyStep x s = (decide (x.k = 5) && (!s.1.toList.isEmpty && decide (s.2 = 0)))) := rfl
  generalize keyStep x s = r at *
  obtain ⟨k, n, t, o, c⟩ := x
  obtain ⟨b, i⟩ := s
  have HB : Hid (Below w.heap.size w _) := (two_boxes w (.cells #[.int .i64 k, .int .i64 n, .string t, .int .i64 o, .int .i64 c, .slice a1 n1 c1, .slice a2 n2 c2] 29) (.cells #[.string b, .int .i64 i] 60)).2.2
  unfold tval stpV
  dsimp only at *
  generalize hbe : b.toList.isEmpty = be at *
  by_cases h5 : k = 5
  · subst h5
    cases be with
    | true =>
      go_enter Tryz.func54, Tryz.ntmps54
      go_wp2
      go_ret
      have hv : r = false := by rw [HV.out]; simp
      exact ⟨by rw [hv]; rfl, HB.out⟩
    | false =>
      by_cases hi : i = 0
      · subst hi
        go_enter Tryz.func54, Tryz.ntmps54
        go_wp2
        go_ret
        have hv : r = true := by rw [HV.out]; simp
        exact ⟨by rw [hv]; rfl, HB.out⟩
      · have hi' : (i == 0) = false := by simpa using hi
        have HI : Hid (¬ i = 0) := hi
        clear hi
        go_enter Tryz.func54, Tryz.ntmps54
        go_wp2
        go_ret
        have hv : r = false := by rw [HV.out]; simp [HI.out]
        exact ⟨by rw [hv]; rfl, HB.out⟩
  · have h5' : (k == 5) = false := by simpa using h5
    have HI : Hid (¬ k = 5) := h5
    clear h5
    go_enter Tryz.func54, Tryz.ntmps54
    go_wp2
    go_ret
    have hv : r = false := by rw [HV.out]; simp [HI.out]
    exact ⟨by rw [hv]; rfl, HB.out⟩

set_option maxRecDepth 100000 in
set_option maxHeartbeats 4000000 in
theorem isIndexOf_any (x : V) (a1 a2 : Option Addr) (n1 c1 n2 c2 : Nat) (s : Stp) (w : World) :
    Calls Tryz.prog 56 #[tval (x, .slice a1 n1 c1, .slice a2 n2 c2), stpV s] w fun e w' => e = .returned (.bool (atStep x n2 s)) ∧ Below w.heap.size w w' := by
  have HV : Hid (atStep x n2 s = (decide (x.k = 6) && (s.1.toList.isEmpty && (decide (0 ≤ s.2) && decide (s.2 ≤ n2))))) := rfl
  generalize atStep x n2 s = r at *
  obtain ⟨k, n, t, o, c⟩ := x
  obtain ⟨b, i⟩ := s
  have HB : Hid (Below w.heap.size w _) := (two_boxes w (.cells #[.int .i64 k, .int .i64 n, .string t, .int .i64 o, .int .i64 c, .slice a1 n1 c1, .slice a2 n2 c2] 29) (.cells #[.string b, .int .i64 i] 60)).2.2
  unfold tval stpV
  dsimp only at *
  generalize hbe : b.toList.isEmpty = be at *
  by_cases h6 : k = 6
  · subst h6
    cases be with
    | false =>
      go_enter Tryz.func56, Tryz.ntmps56
      go_wp2
      go_ret
      have hv : r = false := by rw [HV.out]; simp
      exact ⟨by rw [hv]; rfl, HB.out⟩
    | true =>
      by_cases h0 : 0 ≤ i
      · by_cases hn : i ≤ n2
        · go_enter Tryz.func56, Tryz.ntmps56
          go_wp2
          go_ret
          have hv : r = true := by rw [HV.out]; simp [h0, hn]
          exact ⟨by rw [hv]; rfl, HB.out⟩
        · have HN : Hid (r = false) := by show r = false; rw [HV.out, decide_eq_false hn]; simp
          go_enter Tryz.func56, Tryz.ntmps56
          go_wp2
          go_ret
          exact ⟨by rw [HN.out]; rfl, HB.out⟩
      · have HN : Hid (r = false) := by show r = false; rw [HV.out, decide_eq_false h0]; simp
        go_enter Tryz.func56, Tryz.ntmps56
        go_wp2
        go_ret
        exact ⟨by rw [HN.out]; rfl, HB.out⟩
  · have h6' : (k == 6) = false := by simpa using h6
    have HI : Hid (¬ k = 6) := h6
    clear h6
    go_enter Tryz.func56, Tryz.ntmps56
    go_wp2
    go_ret
    have hv : r = false := by rw [HV.out]; simp [HI.out]
    exact ⟨by rw [hv]; rfl, HB.out⟩

/-- What find answers. -/
def FindP (q : Option Nat) (e : Ending) : Prop := ∃ (r : Int) (ok : Bool), e = .returned (.tuple #[.int .i64 r, .bool ok]) ∧ (∀ j, q = some j → r = j ∧ ok = true) ∧ (q = none → ok = false)

set_option maxRecDepth 100000 in
set_option maxHeartbeats 4000000 in
theorem find_any (x : V) (ks : List ByteArray) (a1 a2 : Option Addr) (n1 c1 n2 c2 : Nat) (s : Stp) (w : World) (hk : IsStrs w (.slice a1 n1 c1) ks) (hu : x.k = 5 → upB [] ks = true) :
    Calls Tryz.prog 35 #[tval (x, .slice a1 n1 c1, .slice a2 n2 c2), stpV s] w fun e w' => FindP (kidOf x ks n2 s) e ∧ Below w.heap.size w w' := by
  have E1 := isKeyOf_any x a1 a2 n1 c1 n2 c2 s
  have E2 := isIndexOf_any x a1 a2 n1 c1 n2 c2 s
  have HV : Hid (kidOf x ks n2 s = if keyStep x s = true then lookK ks s.1.toList else if atStep x n2 s = true ∧ s.2 < n2 then some s.2.toNat else none) := rfl
  have HK : Hid (keyStep x s = true → x.k = 5) := by
    intro h
    unfold keyStep at h
    simp only [Bool.and_eq_true, decide_eq_true_eq] at h
    exact h.1
  have HA : Hid (atStep x n2 s = true → 0 ≤ s.2) := by
    intro h
    unfold atStep at h
    simp only [Bool.and_eq_true, decide_eq_true_eq] at h
    exact h.2.2.1
  generalize kidOf x ks n2 s = r at *
  generalize keyStep x s = ky at *
  generalize atStep x n2 s = ay at *
  obtain ⟨k, n, t, o, c⟩ := x
  obtain ⟨b, i⟩ := s
  obtain ⟨t1, t2, t3⟩ := two_boxes w (.cells #[.int .i64 k, .int .i64 n, .string t, .int .i64 o, .int .i64 c, .slice a1 n1 c1, .slice a2 n2 c2] 29) (.cells #[.string b, .int .i64 i] 60)
  have HB : Hid (Below w.heap.size w _) := t3
  have HX : Hid (((w.alloc (.cells #[.int .i64 k, .int .i64 n, .string t, .int .i64 o, .int .i64 c, .slice a1 n1 c1, .slice a2 n2 c2] 29)).alloc (.cells #[.string b, .int .i64 i] 60)).heap[w.heap.size]? = some _) := t1
  have HY : Hid (((w.alloc (.cells #[.int .i64 k, .int .i64 n, .string t, .int .i64 o, .int .i64 c, .slice a1 n1 c1, .slice a2 n2 c2] 29)).alloc (.cells #[.string b, .int .i64 i] 60)).heap[w.heap.size + 1]? = some _) := t2
  have HS : Hid (IsStrs w (.slice a1 n1 c1) ks) := hk
  have HU : Hid (k = 5 → upB [] ks = true) := hu
  clear t1 t2 t3 hk hu
  unfold tval stpV at *
  dsimp only at *
  go_enter Tryz.func35, Tryz.ntmps35
  go_wp2_with fail
  go_fit (E1 _)
  rintro e w1 ⟨rfl, b1⟩
  have HX1 : Hid (w1.heap[w.heap.size]? = some _) := (b1.block _ (lt_of_heap HX.out)).trans HX.out
  have HY1 : Hid (w1.heap[w.heap.size + 1]? = some _) := (b1.block _ (lt_of_heap HY.out)).trans HY.out
  have HB1 : Hid (Below w.heap.size w w1) := HB.out.trans (b1.mono HB.out.size)
  obtain ⟨c0, c1', c2', c3, c4, c5, c6⟩ := tboxed (u := (⟨k, n, t, o, c⟩, .slice a1 n1 c1, .slice a2 n2 c2)) HX1.out
  dsimp only at c0 c1' c2' c3 c4 c5 c6
  have d0 : w1.cell? ⟨w.heap.size + 1, 0, none⟩ = some (.string b) := Lib.cell_of_heap HY1.out 0
  have d1 : w1.cell? ⟨w.heap.size + 1, 1, none⟩ = some (.int .i64 i) := Lib.cell_of_heap HY1.out 1
  clear b1 HX HY HB E1
  cases ky with
  | true =>
    have E := search_any (.slice a1 n1 c1) ks b w1 (HS.out.below HB1.out) (HU.out (HK.out (by first | trivial | rfl)))
    go_wp2_with fail
    go_fit E
    rintro e w2 ⟨⟨j, ok, rfl, HF⟩, b2⟩
    have HB2 : Hid (Below w.heap.size w w2) := HB1.out.trans (b2.mono HB1.out.size)
    have hf := found_look (HU.out (HK.out (by first | trivial | rfl))) HF
    have HR : Hid ((∀ q, r = some q → (j : Int) = q ∧ ok = true) ∧ (r = none → ok = false)) := by
      rw [show r = lookK ks b.toList by rw [HV.out]; simp]
      exact ⟨fun q hq => ⟨by have := (hf.1 q hq).1; omega, (hf.1 q hq).2⟩, hf.2⟩
    clear b2 hf HF E E2 c0 c1' c2' c3 c4 c5 c6 d0 d1
    go_wp2
    go_returns
    exact ⟨⟨_, _, rfl, HR.out⟩, HB2.out⟩
  | false =>
    go_wp2_with fail
    go_fit (E2 _)
    rintro e w2 ⟨rfl, b2⟩
    have HX2 : Hid (w2.heap[w.heap.size]? = some _) := (b2.block _ (lt_of_heap HX1.out)).trans HX1.out
    have HY2 : Hid (w2.heap[w.heap.size + 1]? = some _) := (b2.block _ (lt_of_heap HY1.out)).trans HY1.out
    have HB2 : Hid (Below w.heap.size w w2) := HB1.out.trans (b2.mono HB1.out.size)
    clear c0 c1' c2' c3 c4 c5 c6 d0 d1 b2 E2
    have c6 : w2.cell? ⟨w.heap.size, 6, none⟩ = some (.slice a2 n2 c2) := Lib.cell_of_heap HX2.out 6
    have d1 : w2.cell? ⟨w.heap.size + 1, 1, none⟩ = some (.int .i64 i) := Lib.cell_of_heap HY2.out 1
    cases ay with
    | true =>
      have h0 := HA.out rfl
      by_cases hlt : i < n2
      · have HR : Hid (r = some i.toNat ∧ 0 ≤ i) := ⟨by rw [HV.out, if_neg (by decide), if_pos ⟨rfl, hlt⟩], h0⟩
        clear h0 HA
        go_wp2
        go_quiet (fail)
        go_wp2
        go_returns
        refine ⟨⟨_, _, rfl, fun q hq => ?_, fun hq => ?_⟩, below_drew HB2.out nq⟩
        · rw [HR.out.1] at hq
          have h1 := Option.some.inj hq
          have h2 := HR.out.2
          exact ⟨by omega, rfl⟩
        · rw [HR.out.1] at hq; cases hq
      · have HR : Hid (r = none) := by
          show r = none
          rw [HV.out, if_neg (by decide), if_neg (fun h => hlt h.2)]
        have HN : Hid (¬ i < n2) := hlt
        clear h0 HA
        go_wp2
        go_quiet (fail)
        go_wp2
        go_returns
        refine ⟨⟨_, _, rfl, fun q hq => ?_, fun hq => decide_eq_false (by have := HN.out; omega)⟩, below_drew HB2.out nq⟩
        rw [HR.out] at hq; cases hq
    | false =>
      have HR : Hid (r = none) := by
        show r = none
        rw [HV.out, if_neg (by decide), if_neg (fun h => by cases h.1)]
      go_wp2
      go_returns
      refine ⟨⟨_, _, rfl, fun q hq => ?_, fun hq => rfl⟩, HB2.out⟩
      rw [HR.out] at hq; cases hq
end Go.Proofs.YtnoikdlofkcgaaaGreatDoor
