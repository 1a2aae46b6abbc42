/-
  What is proved: trees (a value, keys, kids) that lie in memory stay there while other things are made.
  Conditions: as each theorem says.
-/
import Derived.Test.YtemannmcjioimaaDoorOrderA
import Derived.WalkKit
import Derived.WalkSpells
import Derived.WalkLawsBesides
import Derived.Handy
import Derived.Deep.RegionWith
import Derived.Deep.RegionHeld3
import Derived.Deep.QuietTactic
import Derived.Shelf.Abstract
namespace Go.Proofs.YtemannmcjioimaaDoor
open Go.RowKit

/-- A tree: its value, its keys, its kids. -/
inductive JT where
  | node (x : V) (ks : List ByteArray) (ts : List JT)

mutual
/-- How many trees there are in one, itself among them. -/
def JT.size : JT → Nat
  | .node _ _ ts => sizes ts + 1
/-- How many there are in several. -/
def sizes : List JT → Nat
  | [] => 0
  | t :: r => t.size + sizes r
end
theorem sizes_append (a b : List JT) : sizes (a ++ b) = sizes a + sizes b := by
  induction a with
  | nil => simp [sizes]
  | cons t r ih => simp [sizes, ih]; omega
theorem sizes_take (l : List JT) (k : Nat) (h : k < l.length) : sizes (l.take (k + 1)) = sizes (l.take k) + l[k].size := by
  rw [List.take_succ_eq_append_getElem h, sizes_append]; simp [sizes]
theorem sizes_le (l : List JT) (k : Nat) : sizes (l.take k) ≤ sizes l := by
  have h : sizes (l.take k ++ l.drop k) = sizes l := by rw [List.take_append_drop]
  rw [sizes_append] at h; omega
theorem size_pos (t : JT) : 1 ≤ t.size := by cases t; simp [JT.size]
theorem len_sizes (l : List JT) : l.length ≤ sizes l := by
  induction l with
  | nil => simp [sizes]
  | cons t r ih => have := size_pos t; simp [sizes]; omega

/-- A tree's own fields: its value, and two slices. -/
abbrev TV := V × Value × Value
/-- Its cells. -/
def tcells (u : TV) : List Value := [.int .i64 u.1.k, .int .i64 u.1.n, .string u.1.t, .int .i64 u.1.o, .int .i64 u.1.a, u.2.1, u.2.2]
/-- As Go has it. -/
def tval (u : TV) : Value := .agg #[.int .i64 u.1.k, .int .i64 u.1.n, .string u.1.t, .int .i64 u.1.o, .int .i64 u.1.a, u.2.1, u.2.2]

/-- A slice value that holds texts. -/
def IsStrs (w : World) (v : Value) (l : List ByteArray) : Prop :=
  ∃ a cap, v = .slice a l.length cap ∧ (l.length ≤ cap ∧ (a = none → cap = 0)) ∧ l.length ≤ 8796093022208 ∧ (l ≠ [] → ∃ b off, a = some ⟨b, off, none⟩ ∧ b < w.heap.size ∧ ∀ i (h : i < l.length), w.cell? ⟨b, off + i, none⟩ = some (.string l[i]))

theorem IsStrs.below {w w' : World} {v : Value} {l : List ByteArray} (h : IsStrs w v l) (hb : Below w.heap.size w w') : IsStrs w' v l := by
  obtain ⟨a, cap, rfl, h1, h2, h3⟩ := h
  refine ⟨a, cap, rfl, h1, h2, fun hl => ?_⟩
  obtain ⟨b, off, rfl, h4, h5⟩ := h3 hl
  exact ⟨b, off, rfl, Nat.lt_of_lt_of_le h4 hb.size, fun i hi => by rw [hb.cell (p := ⟨b, off + i, none⟩) h4]; exact h5 i hi⟩

/-- Trees' own fields, in a row. -/
def RowT (w : World) (a : Option Addr) (us : List TV) : Prop :=
  us ≠ [] → ∃ b off, a = some ⟨b, off, none⟩ ∧ b < w.heap.size ∧ ∀ i (h : i < us.length) j, j < 7 → w.cell? ⟨b, off + i * 7 + j, none⟩ = (tcells us[i])[j]?

theorem RowT.below {w w' : World} {a : Option Addr} {us : List TV} (h : RowT w a us) (hb : Below w.heap.size w w') : RowT w' a us := by
  intro hu
  obtain ⟨b, off, rfl, h4, h5⟩ := h hu
  exact ⟨b, off, rfl, Nat.lt_of_lt_of_le h4 hb.size, fun i hi j hj => by rw [hb.cell (p := ⟨b, off + i * 7 + j, none⟩) h4]; exact h5 i hi j hj⟩

/-- A tree that lies in memory. -/
inductive IsT (w : World) : Value → JT → Prop
  | mk (x : V) (ks : List ByteArray) (ts : List JT) (uk : Value) (a : Option Addr) (cap : Nat) (us : List TV) (hk : IsStrs w uk ks) (hl : us.length = ts.length) (hc : ts.length ≤ cap ∧ (a = none → cap = 0)) (hz : ts.length ≤ 8796093022208) (hr : RowT w a us)
      (hi : ∀ i (h : i < us.length) (h' : i < ts.length), IsT w (tval us[i]) ts[i]) : IsT w (tval (x, uk, .slice a ts.length cap)) (.node x ks ts)

theorem IsT.stay {w w' : World} {v : Value} {t : JT} (h : IsT w v t) (hb : Below w.heap.size w w') : IsT w' v t := by
  induction h with
  | mk x ks ts uk a cap us hk hl hc hz hr _ ih => exact .mk x ks ts uk a cap us (hk.below hb) hl hc hz (hr.below hb) ih

end Go.Proofs.YtemannmcjioimaaDoor
