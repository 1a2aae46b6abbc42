/-
  What is proved: lists of numbers that lie in memory; the functions Deltas and Sums of package bytes and Ints of package booksame, called with any lists, answer as they should, and nothing that was there has turned.
  Conditions: the lists lie in memory.
-/
import Derived.Test.YtgbhhnfnfldbmaaDoorLies
namespace Go.Proofs.YtgbhhnfnfldbmaaDoor
open Go.RowKit

/-- A number of 64 bits. -/
def I64 (x : Int) : Prop := -9223372036854775808 ≤ x ∧ x < 9223372036854775808

theorem i64_wrap (x : Int) : I64 (wrap64 x) := by unfold I64 wrap64; omega

/-- A slice value that holds numbers. -/
def IsInts (w : World) (v : Value) (l : List Int) : Prop :=
  ∃ a cap, v = .slice a l.length cap ∧ l.length ≤ cap ∧ l.length ≤ 17592186044416 ∧ (∀ x ∈ l, I64 x) ∧ (l ≠ [] → ∃ b off, a = some ⟨b, off, none⟩ ∧ b < w.heap.size ∧ ∀ i (h : i < l.length), w.cell? ⟨b, off + i, none⟩ = some (.int .i64 l[i]))

theorem IsInts.below {w w' : World} {v : Value} {l : List Int} (h : IsInts w v l) (hb : Below w.heap.size w w') : IsInts w' v l := by
  obtain ⟨a, cap, rfl, h1, h2, hr, h3⟩ := h
  refine ⟨a, cap, rfl, h1, h2, hr, fun hl => ?_⟩
  obtain ⟨b, off, rfl, h4, h5⟩ := h3 hl
  exact ⟨b, off, rfl, Nat.lt_of_lt_of_le h4 hb.size, fun i hi => by rw [hb.cell (p := ⟨b, off + i, none⟩) h4]; exact h5 i hi⟩

theorem infoI : (Tryd.prog.info? 3).map (fun i => (i.zero, i.size, i.bytes)) = some (some (.int .i64 0), 1, 8) := by kernel_rfl

/-- The cells of numbers. -/
abbrev intCells (l : List Int) : List Value := l.map (Value.int .i64)

/-- A slice of numbers that the call has made. -/
abbrev RowI (B : Nat) (v : Value) (l : List Int) (w : World) : Prop := w.ownsRow B 3 1 v l.length (intCells l)

theorem rowI_grown {B : Nat} {w wr w' : World} {v v' : Value} {l m : List Int} {o : Obj} (own : RowI B v l wr) (bel : Below B w wr) (hB : B ≤ wr.heap.size) (hg : (wr.alloc o).grownBy w' v.ownBlock)
    (own' : w'.ownsRow B 3 1 v' (l.length + m.length) (intCells l ++ intCells m)) : RowI B v' (l ++ m) w' ∧ Below B w w' := by
  refine ⟨?_, (bel.alloc hB o).grown hg (by simp; omega) (fun k hk => (own.lt k hk).1)⟩
  have e : intCells (l ++ m) = intCells l ++ intCells m := by simp
  unfold RowI
  rw [e, List.length_append]
  exact own'

theorem rowI_len {B : Nat} {v : Value} {l : List Int} {w : World} (h : RowI B v l w) : ∃ a c, v = .slice a l.length c := by
  rcases h.2 with ⟨rfl, h0⟩ | ⟨g, cap, cur, rfl, _⟩
  · exact ⟨none, 0, by rw [h0]⟩
  · exact ⟨_, _, rfl⟩

theorem RowI.ints {B : Nat} {w : World} {v : Value} {l : List Int} (h : RowI B v l w) (hl : l.length ≤ 17592186044416) (hr : ∀ x ∈ l, I64 x) : IsInts w v l := by
  rcases h.2 with ⟨rfl, h0⟩ | ⟨g, cap, cur, rfl, hg, hh, hc, hm, hz, ht⟩
  · exact ⟨none, 0, by rw [h0], by omega, hl, hr, fun h => absurd (List.length_eq_zero_iff.1 h0) h⟩
  · refine ⟨_, cap, rfl, hc, hl, hr, fun _ => ⟨g, 0, rfl, ?_, fun i hi => ?_⟩⟩
    · rcases Nat.lt_or_ge g w.heap.size with h1 | h1
      · exact h1
      · rw [Array.getElem?_eq_none h1] at hh; cases hh
    · rw [Nat.zero_add, h.cellAt i (by omega)]
      simp [hi]

/-- How much each number is more than the one ahead. -/
def deltas (l : List Int) : List Int := List.zipWith (fun n a => wrap64 (n - a)) l (0 :: l)

theorem deltas_len (l : List Int) : (deltas l).length = l.length := by simp [deltas]

/-- The number ahead. -/
def prev (l : List Int) (k : Nat) : Int := (0 :: l).getD k 0

theorem prev_zero (l : List Int) : prev l 0 = 0 := rfl
theorem prev_succ (l : List Int) (k : Nat) (h : k < l.length) : prev l (k + 1) = l[k] := by simp [prev, h]

theorem deltas_at (l : List Int) (k : Nat) (h : k < l.length) : (deltas l)[k]'(by rw [deltas_len]; exact h) = wrap64 (l[k] - prev l k) := by
  simp only [deltas, List.getElem_zipWith]
  congr 2
  simp [prev, List.getElem?_eq_getElem (show k < (0 :: l).length by simp; omega)]

theorem deltas_range (l : List Int) : ∀ x ∈ deltas l, I64 x := by
  intro x hx
  obtain ⟨k, hk, rfl⟩ := List.getElem_of_mem hx
  rw [deltas_at l k (by rw [deltas_len] at hk; exact hk)]
  exact i64_wrap _

/-- All together. -/
def total (l : List Int) : Int := l.foldl (fun s n => wrap64 (s + n)) 0

theorem total_snoc (l : List Int) (n : Int) : total (l ++ [n]) = wrap64 (total l + n) := by simp [total]

theorem total_range (l : List Int) : I64 (total l) := by
  rcases List.eq_nil_or_concat l with rfl | ⟨r, n, rfl⟩
  · unfold I64 total; simp
  · rw [List.concat_eq_append, total_snoc]; exact i64_wrap _

/-- The sums. -/
def sums (l : List Int) : List Int := (List.range l.length).map fun k => total (l.take (k + 1))

theorem sums_len (l : List Int) : (sums l).length = l.length := by simp [sums]

theorem sums_at (l : List Int) (k : Nat) (h : k < l.length) : (sums l)[k]'(by rw [sums_len]; exact h) = wrap64 (total (l.take k) + l[k]) := by
  simp only [sums, List.getElem_map, List.getElem_range]
  rw [List.take_succ_eq_append_getElem h, total_snoc]

theorem sums_range (l : List Int) : ∀ x ∈ sums l, I64 x := by
  intro x hx
  obtain ⟨k, hk, rfl⟩ := List.getElem_of_mem hx
  rw [sums_at l k (by rw [sums_len] at hk; exact hk)]
  exact i64_wrap _

theorem take_snoc {α : Type} (l : List α) (k : Nat) (h : k < l.length) : l.take (k + 1) = l.take k ++ [l[k]] := List.take_succ_eq_append_getElem h

theorem total_deltas (l : List Int) (hr : ∀ x ∈ l, I64 x) (k : Nat) (h : k ≤ l.length) : total ((deltas l).take k) = prev l k := by
  induction k with
  | zero => simp [total, prev]
  | succ k ih =>
    rw [take_snoc _ k (by rw [deltas_len]; omega), total_snoc, ih (by omega), deltas_at l k (by omega), prev_succ l k (by omega)]
    have := hr l[k] (List.getElem_mem _)
    unfold I64 at this
    unfold wrap64
    omega

theorem sums_deltas (l : List Int) (hr : ∀ x ∈ l, I64 x) : sums (deltas l) = l := by
  refine List.ext_getElem (by rw [sums_len, deltas_len]) fun k h1 h2 => ?_
  rw [sums_at _ k (by rw [deltas_len]; exact h2), total_deltas l hr k (by omega), deltas_at l k h2]
  have := hr l[k] (List.getElem_mem _)
  unfold I64 at this
  unfold wrap64
  omega

theorem prev_sums (l : List Int) (k : Nat) (h : k ≤ l.length) : prev (sums l) k = total (l.take k) := by
  cases k with
  | zero => rfl
  | succ k => rw [prev_succ _ k (by rw [sums_len]; omega), sums_at l k (by omega), take_snoc l k (by omega), total_snoc]

theorem deltas_sums (l : List Int) (hr : ∀ x ∈ l, I64 x) : deltas (sums l) = l := by
  refine List.ext_getElem (by rw [deltas_len, sums_len]) fun k h1 h2 => ?_
  rw [deltas_at _ k (by rw [sums_len]; exact h2), prev_sums l k (by omega), sums_at l k h2]
  have := hr l[k] (List.getElem_mem _)
  have h3 := total_range (l.take k)
  unfold I64 at this h3
  unfold wrap64
  omega

end Go.Proofs.YtgbhhnfnfldbmaaDoor
