/-
  What is proved: what the function within package dag's Heads answers.
  Conditions: what it looks at lies in memory.
-/
import Derived.Test.YtbjnemmghpmjjaaDAll
namespace Go.Proofs.Ytbjnemmghpmjjaa
open Go.RowKit Go.Maps

/-- Entries that all have a 1. -/
def Ones (L : List (Pr × Value)) : Prop := ∀ x ∈ L, x.2 = .int .i64 1

theorem lk_Ones {L : List (Pr × Value)} (h : Ones L) (r : Pr) : lk L r = if r ∈ L.map (·.1) then some (.int .i64 1) else none := by
  cases hk : lk L r with
  | none => rw [if_neg (lk_none.1 hk)]
  | some v =>
    have h1 := lk_mem hk
    rw [if_pos (List.mem_map.2 ⟨_, h1, rfl⟩), ← h _ h1]

set_option maxRecDepth 100000 in
set_option maxHeartbeats 4000000 in
theorem hung_any (m t : Nat) (L : List (Pr × Value)) (r : Pr) (w : World) (M : MapL w m L) (hO : Ones L) (ht : w.heap[t]? = some (.cells #[.map (some m)] 51)) (hr : R64 r) :
    Calls Try.prog 28 #[refV r, .pointer (some ⟨t, 0, none⟩)] w fun e w' => e = .returned (.bool (decide (r ∈ L.map (·.1)))) ∧ Below w.heap.size w w' := by
  have b0 := (Below.refl w.heap.size w).alloc (Nat.le_refl _) (.cells #[.int .i64 r.1, .int .i64 r.2] 34)
  have hl := (M.below b0).look1 Try.underlying51 (zeroI _) hr
  rw [lk_Ones hO] at hl
  have c0 : w.cell? ⟨t, 0, none⟩ = some (.map (some m)) := Lib.cell_of_heap ht 0
  have z0 := lt_of_heap ht
  have HB : Hid _ := b0
  clear b0 M ht hO
  by_cases hm : r ∈ L.map (·.1)
  · rw [if_pos hm] at hl
    simp only [Option.getD_some] at hl
    have HM : Hid (decide (r ∈ L.map (·.1)) = true) := decide_eq_true hm
    rw [HM.out]
    clear hm
    go_enter Try.func28, Try.ntmps28
    go_wp2
    go_ret
    exact ⟨rfl, HB.out⟩
  · rw [if_neg hm] at hl
    simp only [Option.getD_none] at hl
    have HM : Hid (decide (r ∈ L.map (·.1)) = false) := decide_eq_false hm
    rw [HM.out]
    clear hm
    go_enter Try.func28, Try.ntmps28
    go_wp2
    go_ret
    exact ⟨rfl, HB.out⟩

/-- What is left of a list, once those are gone of which something holds: nothing is made of it but that. -/
def DelP (p : Pr → Bool) (l : List Pr) (v : Value) : Prop := ∃ a c, v = .slice a (l.filter fun r => !p r).length c
end Go.Proofs.Ytbjnemmghpmjjaa
