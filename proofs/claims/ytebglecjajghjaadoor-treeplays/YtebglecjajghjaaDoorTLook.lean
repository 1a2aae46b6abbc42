/-
  What is proved: what package tree's methods look and add answer of a piece that lies in memory, and that they turn nothing but the row's box and the piece's top.
  Conditions: the piece lies in memory, and is no longer than a row may be.
-/
import Derived.Test.YtebglecjajghjaaDoorTMem
namespace Go.Proofs.YtebglecjajghjaaDoor
open Go.RowKit

/-- The sum of a piece, as a value. -/
abbrev sumV (m s h : Int) : Value := .agg #[.int .i64 m, .int .i64 s, .int .i64 h]

theorem set_self {w : World} {g : Nat} {p v : Value} {T : TypeId} (hg : w.heap[g]? = some (.cells #[p, v] T)) : w.setCell ⟨g, 1, none⟩ v = w := by
  have hlt : g < w.heap.size := (Array.getElem?_eq_some_iff.1 hg).1
  have hv : w.heap[g] = .cells #[p, v] T := (Array.getElem?_eq_some_iff.1 hg).2
  rw [setCell_eq_setRow w g 1 _ T _ v hg]
  have e : w.heap.modify g (fun o => match o with | .cells _ t fr => .cells (#[p, v].setIfInBounds 1 v) t fr | o => o) = w.heap := by
    apply Array.ext
    · simp
    · intro i h1 h2
      simp only [Array.getElem_modify]
      split
      · rename_i hk; subst hk; rw [hv]; rfl
      · rfl
  unfold World.setRow
  exact congrArg (fun h => { w with heap := h }) e

theorem fld0 (m s h : Int) (W : World) : (Instr.field 50 (.agg #[.int .i64 m, .int .i64 s, .int .i64 h]) 0).run Tryd.prog W = .ok (.int .i64 m) W := by kernel_rfl
theorem fld1 (m s h : Int) (W : World) : (Instr.field 50 (.agg #[.int .i64 m, .int .i64 s, .int .i64 h]) 1).run Tryd.prog W = .ok (.int .i64 s) W := by kernel_rfl
theorem fld2 (m s h : Int) (W : World) : (Instr.field 50 (.agg #[.int .i64 m, .int .i64 s, .int .i64 h]) 2).run Tryd.prog W = .ok (.int .i64 h) W := by kernel_rfl

/-- How much looking at a piece counts. -/
def _root_.Go.Deep.BT.one : (Deep.BT Int) → Nat
  | .nil => 0
  | .node _ _ _ _ _ => 1

theorem one_le (t : (Deep.BT Int)) : t.one ≤ 1 := by cases t <;> simp [Deep.BT.one]

/-- The world behind a look. -/
abbrev lookW (t : (Deep.BT Int)) (g k : Nat) (w : World) : World := (w.setCell ⟨g, 1, none⟩ (.int .i64 ((k + t.one : Nat) : Int))).alloc (.cells #[.int .i64 (t.many : Int), .int .i64 t.wide, .int .i64 (t.high : Int)] 50)

set_option maxRecDepth 100000 in
set_option maxHeartbeats 1000000 in
theorem look_any (t : (Deep.BT Int)) (g : Nat) (p : Value) (k : Nat) (w : World) (hk : k ≤ 4611686018427387904) (ht : t.At w) (hg : g ∉ t.blocks) (hr : RowAt g p k w) :
    Calls Tryd.prog 29 #[.pointer (some ⟨g, 0, none⟩), t.pt] w fun e w' => e = .returned (.agg #[.int .i64 (t.many : Int), .int .i64 t.wide, .int .i64 (t.high : Int)]) ∧ w' = lookW t g k w := by
  have hlt := lt_of_heap hr
  cases t with
  | nil =>
    go_enter Tryd.func29, Tryd.ntmps29
    simp only [Deep.BT.pt, Deep.BT.addr]
    go_wp2
    exact bodyPost_ret (v := sumV 0 0 0) (by simp [results, Tryd.results29, go_sem]) rfl ⟨rfl, by unfold lookW; rw [show ((k + Deep.BT.nil.one : Nat) : Int) = k from rfl, set_self hr]; rfl⟩
  | node b x u l r =>
    obtain ⟨h1, h2, h3⟩ := ht
    have hb : b ≠ g := fun e => hg (by rw [e]; simp [Deep.BT.blocks])
    have hbl := lt_of_heap h1
    have c1 : w.cell? ⟨g, 1, none⟩ = some (.int .i64 k) := Lib.cell_of_heap hr 1
    have cf := Lib.frozen_of_heap hr
    have hs := heap_set_other (g := g) (i := 1) (v := .int .i64 ((k : Int) + 1)) h1 hb
    have d4 : (w.setCell ⟨g, 1, none⟩ (.int .i64 ((k : Int) + 1))).cell? ⟨b, 4, none⟩ = some (.int .i64 ((l.many + 1 + r.many : Nat) : Int)) := Lib.cell_of_heap hs 4
    have d5 : (w.setCell ⟨g, 1, none⟩ (.int .i64 ((k : Int) + 1))).cell? ⟨b, 5, none⟩ = some (.int .i64 (l.wide + u + r.wide)) := Lib.cell_of_heap hs 5
    have d6 : (w.setCell ⟨g, 1, none⟩ (.int .i64 ((k : Int) + 1))).cell? ⟨b, 6, none⟩ = some (.int .i64 ((1 + max l.high r.high : Nat) : Int)) := Lib.cell_of_heap hs 6
    have w1 : wrap64 ((k : Int) + 1) = (k : Int) + 1 := by unfold wrap64; omega
    clear h1 h2 h3 hs
    obtain ⟨m, hm⟩ : ∃ m : Int, ((l.many + 1 + r.many : Nat) : Int) = m := ⟨_, rfl⟩
    rw [hm] at d4
    have HM : Hid (((l.many + 1 + r.many : Nat) : Int) = m) := hm
    clear hm
    go_enter Tryd.func29, Tryd.ntmps29
    simp only [Deep.BT.pt, Deep.BT.addr]
    go_wp2
    exact bodyPost_ret (v := sumV m (l.wide + u + r.wide) ((1 + max l.high r.high : Nat) : Int)) (by simp [results, Tryd.results29, go_sem]) rfl ⟨by rw [← HM.out]; rfl, by rw [← HM.out]; rfl⟩

end Go.Proofs.YtebglecjajghjaaDoor
