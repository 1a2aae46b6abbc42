/-
  What is proved: how refs are ordered; what package dag's compareRefs answers; a row of refs, sorted in its place.
  Conditions: as each theorem says.
-/
import Derived.Test.YtbjnemmghpmjjaaDKeys
import Derived.Shelf.SlSortCmp.InsertionK
import Derived.Deep.RegionHeld3
import Derived.Handy
namespace Go.Proofs.Ytbjnemmghpmjjaa
open Go.RowKit Go.Maps Go.Sort Go.Shelf Go.Lib

/-- How two refs compare. -/
def cR (x y : Pr) : Int := or2 (cI x.1 y.1) (cI x.2 y.2)
/-- One ref is ahead of another one. -/
def ltR (x y : Pr) : Prop := x.1 < y.1 ∨ x.1 = y.1 ∧ x.2 < y.2

theorem ltOf_cR (x y : Pr) : ltOf cR x y = true ↔ ltR x y := by
  unfold ltOf cR or2 cI ltR
  simp only [decide_eq_true_eq]
  split <;> split <;> (try split) <;> (try split) <;> omega

theorem swoR : SWO (ltOf cR) where
  irrefl x := by
    cases h : ltOf cR x x with
    | false => rfl
    | true => have := (ltOf_cR x x).1 h; unfold ltR at this; omega
  trans x y z h1 h2 := by
    rw [ltOf_cR] at *
    unfold ltR at *
    omega
  ntrans x y z h1 h2 := by
    cases h : ltOf cR x z with
    | false => rfl
    | true =>
      have h3 := (ltOf_cR x z).1 h
      have h4 : ¬ ltR x y := fun e => by rw [(ltOf_cR x y).2 e] at h1; cases h1
      have h5 : ¬ ltR y z := fun e => by rw [(ltOf_cR y z).2 e] at h2; cases h2
      unfold ltR at *
      omega

/-- The cells of a ref. -/
def encR (x : Pr) : List Value := [.int .i64 x.1, .int .i64 x.2]

theorem flat_pcells (ss : List Pr) : flatK encR 2 ss.toArray = (pcells ss).toArray := by
  apply Array.ext_getElem?
  intro t
  by_cases ht : t < ss.length * 2
  · have hi : t / 2 < ss.length := by omega
    have h0 : (flatK encR 2 ss.toArray)[t]? = some ((encR ss.toArray[t / 2]!)[t % 2]!) := by
      rw [← get_flatK encR 2 ss.toArray t (by simpa using ht)]
      rw [Array.getElem?_eq_getElem (by rw [size_flatK]; simpa using ht), getElem!_pos]
    have h1 : ss.toArray[t / 2]! = ss[t / 2] := by rw [getElem!_pos _ _ (by simpa using hi)]; simp
    rw [h0, h1]
    have h2 := pcells_at ss (t / 2) hi
    simp only [List.getElem?_toArray]
    rcases Nat.mod_two_eq_zero_or_one t with e | e
    · have : t = t / 2 * 2 := by omega
      rw [e]
      conv => rhs; rw [this]
      rw [h2.1]; rfl
    · have : t = t / 2 * 2 + 1 := by omega
      rw [e]
      conv => rhs; rw [this]
      rw [h2.2]; rfl
  · rw [Array.getElem?_eq_none (by rw [size_flatK]; simp; omega), Array.getElem?_eq_none (by simp [pcells_len]; omega)]

theorem holdsR_of_block {w : World} {g : Nat} {cur : Array Value} {e : TypeId} {ss : List Pr} (hb : w.heap[g]? = some (.cells cur e (0, 0))) (ht : cur.toList.take (ss.length * 2) = pcells ss) : HoldsK encR 2 w g 0 ss.toArray := by
  unfold HoldsK
  rw [flat_pcells]
  intro j hj
  have hj' : j < (pcells ss).length := by simpa using hj
  have hj2 : j < ss.length * 2 := by rw [← pcells_len]; exact hj'
  refine ⟨?_, by simp [World.frozen?, hb]⟩
  have h1 : (cur.toList.take (ss.length * 2))[j]? = (pcells ss)[j]? := by rw [ht]
  rw [List.getElem?_take_of_lt hj2] at h1
  simp only [World.cell?, hb, Nat.zero_add]
  simp only [Option.isSome_none, Bool.false_eq_true, if_false]
  rw [← Array.getElem?_toList, h1]
  simp [hj']

theorem heap_sortedV {w : World} {g n : Nat} {os : Array Obj} {cur : Array Value} {e : TypeId} {fr : Nat × Nat} (d : Array Value) (hb : w.heap[g]? = some (.cells cur e fr)) :
    (grow (putRow id (Sort.ahead w n) g 0 d) os).heap[g]? = some (.cells (putCells id 0 d cur) e fr) := by
  have hg : g < w.heap.size := (Array.getElem?_eq_some_iff.1 hb).1
  rw [heap_grow_old _ _ (by simpa using hg)]
  simp [putRow, mapBlock, Sort.ahead, Array.getElem?_modify, hb, onCells]

theorem grownBy_sortedV {w : World} {g n : Nat} {os : Array Obj} (d : Array Value) : w.grownBy (grow (putRow id (Sort.ahead w n) g 0 d) os) (some g) := by
  refine ⟨rfl, rfl, rfl, by simp, fun k hk hne => ?_⟩
  rw [heap_grow_old _ _ (by simpa using hk)]
  have : g ≠ k := fun e => hne (by rw [e])
  simp [putRow, mapBlock, Sort.ahead, Array.getElem?_modify, this]

theorem take_putCellsV (cur : Array Value) (ts : List Value) (h : ts.length ≤ cur.size) : (putCells id 0 ts.toArray cur).toList.take ts.length = ts := by
  apply List.ext_getElem?
  intro j
  by_cases hj : j < ts.length
  · rw [List.getElem?_take_of_lt hj, Array.getElem?_toList]
    simp [putCells, hj, show j < cur.size by omega]
  · rw [List.getElem?_take_eq_none (by omega), List.getElem?_eq_none (by omega)]

/-- Behind the sort the same slice owns the sorted list. -/
theorem rowPr_sorted {w : World} {base g cap n : Nat} {e : TypeId} {os : Array Obj} {cur : Array Value} {ss ts : List Pr} (hl : ts.length = ss.length) (hbase : base ≤ g) (hb : w.heap[g]? = some (.cells cur e (0, 0)))
    (h1 : ss.length ≤ cap) (h2 : cap ≤ maxLen) (h3 : cur.size = cap * 2) :
    RowPr e base (.slice (some ⟨g, 0, none⟩) ss.length cap) ts (sortWorldK encR 2 w g 0 n ts.toArray os) := by
  unfold sortWorldK putRowK
  rw [flat_pcells]
  have hp := pcells_len ts
  refine ⟨hp, .inr ⟨g, cap, _, by rw [hl], hbase, heap_sortedV _ hb, by omega, h2, by simp [putCells, h3], ?_⟩⟩
  have := take_putCellsV cur (pcells ts) (by omega)
  rw [hp] at this
  exact this

set_option maxRecDepth 100000 in
set_option maxHeartbeats 400000 in
theorem compareI_any (x y : Int) (w : World) :
    Calls Try.prog 65 #[.int .i64 x, .int .i64 y] w fun e w' => e = .returned (.int .i64 (cI x y)) ∧ w' = w := by
  unfold cI
  by_cases h1 : x < y
  · go_enter Try.func65, Try.ntmps65
    go_wp2
    go_ret
    exact ⟨by simp, rfl⟩
  · by_cases h2 : y < x
    · go_enter Try.func65, Try.ntmps65
      go_wp2
      go_ret
      exact ⟨by simp, rfl⟩
    · go_enter Try.func65, Try.ntmps65
      go_wp2
      go_ret
      exact ⟨by simp, rfl⟩

set_option maxRecDepth 100000 in
set_option maxHeartbeats 400000 in
theorem or2_any (x y : Int) (g : Nat) (w : World) (h0 : w.cell? ⟨g, 0, none⟩ = some (.int .i64 x)) (h1 : w.cell? ⟨g, 1, none⟩ = some (.int .i64 y)) :
    Calls Try.prog 64 #[.slice (some ⟨g, 0, none⟩) 2 2] w fun e w' => e = .returned (.int .i64 (or2 x y)) ∧ w' = w := by
  unfold or2
  by_cases k0 : x = 0
  · subst k0
    by_cases k1 : y = 0
    · subst k1
      go_enter Try.func64, Try.ntmps64
      go_wp2
      go_rounds 3
      go_ret
      exact ⟨by simp, rfl⟩
    · go_enter Try.func64, Try.ntmps64
      go_wp2
      go_rounds 3
      go_ret
      exact ⟨by simp, rfl⟩
  · go_enter Try.func64, Try.ntmps64
    go_wp2
    go_rounds 3
    go_ret
    exact ⟨by simp, rfl⟩

theorem new_cell (W : World) (a b : Value) (t : TypeId) (k : Nat) (hk : k = W.heap.size) : (W.alloc (.cells #[a, b] t)).cell? ⟨k, 0, none⟩ = some a ∧ (W.alloc (.cells #[a, b] t)).cell? ⟨k, 1, none⟩ = some b := by
  subst hk
  have h := (MapKept.heap_alloc W (.cells #[a, b] t)).1
  exact ⟨Lib.cell_of_heap h 0, Lib.cell_of_heap h 1⟩

set_option maxRecDepth 100000 in
set_option maxHeartbeats 2000000 in
theorem compareR_any (x y : Pr) (w : World) :
    Calls Try.prog 42 #[refV x, refV y] w fun e w' => e = .returned (.int .i64 (cR x y)) ∧ ∃ q os, w' = grow (w.drewN q) os := by
  obtain ⟨x1, x2⟩ := x
  obtain ⟨y1, y2⟩ := y
  unfold cR
  dsimp only
  go_enter Try.func42, Try.ntmps42
  go_wp2
  go_region_held3 (fun W => W.cell? ⟨w.heap.size, 0, none⟩ = some (.int .i64 x1) ∧ W.cell? ⟨w.heap.size, 1, none⟩ = some (.int .i64 x2) ∧ W.cell? ⟨w.heap.size + 1, 0, none⟩ = some (.int .i64 y1) ∧ W.cell? ⟨w.heap.size + 1, 1, none⟩ = some (.int .i64 y2)) (first | go_keep) (first
    | (go_at_call 65; refine (compareI_any _ _ _).mono ?_; rintro e w' ⟨rfl, rfl⟩)
    | (go_at_call 64; refine (or2_any (cI x1 y1) (cI x2 y2) _ _ (by simp; exact (new_cell _ _ _ _ _ (by simp)).1) (by simp; exact (new_cell _ _ _ _ _ (by simp)).2)).mono ?_; rintro e w' ⟨rfl, rfl⟩))
  go_wp2
  go_ret
  exact ⟨rfl, 1, _, by rw [alloc_eq_grow, alloc_eq_grow, alloc_eq_grow, grow_grow, grow_grow]; rfl⟩
end Go.Proofs.Ytbjnemmghpmjjaa
