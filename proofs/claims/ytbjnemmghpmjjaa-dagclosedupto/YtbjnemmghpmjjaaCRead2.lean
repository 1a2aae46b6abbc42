/-
  What is proved: the methods of package change's reader that read lists, values, ops and changes, called with any bytes, read as the mathematics says, and turn nothing but the reader.
  Conditions: the bytes lie in memory, and so does the reader.
-/
import Derived.Test.YtbjnemmghpmjjaaCRead
namespace Go.Proofs.Ytbjnemmghpmjjaa
open Go.RowKit

theorem Off.more {g : Nat} {w w1 w2 : World} (h : Off g w w1) (k : Below w.heap.size w1 w2) : Off g w w2 :=
  ⟨k.os.trans h.os, k.tape.trans h.tape, k.output.trans h.output, Nat.le_trans h.size k.size, fun b hb hg => (k.block b hb).trans (h.block b hb hg)⟩

theorem infoR : (Try.prog.info? 34).map (fun i => (i.zero, i.size, i.bytes)) = some (some (.agg #[.int .i64 0, .int .i64 0]), 2, 16) := by kernel_rfl
theorem infoD : (Try.prog.info? 59).map (fun i => (i.zero, i.size, i.bytes)) = some (some (.agg #[.int .i64 0, .int .i64 0]), 2, 16) := by kernel_rfl

theorem Off.sets {g b : Nat} {w w' : World} (h : Off g w w') (hb : w.heap.size ≤ b) (l : List Value) : ∀ (i : Nat), Off g w ((l.zipIdx i).foldl (fun w q => w.setCell ⟨b, q.2, none⟩ q.1) w') := by
  induction l generalizing w' with
  | nil => intro i; exact h
  | cons v r ih => intro i; rw [List.zipIdx_cons, List.foldl_cons]; exact ih (h.setNew hb i v) (i + 1)

theorem sets_list (l : List Value) : ∀ (i : Nat) (cs : Array Value), i + l.length ≤ cs.size → ((l.zipIdx i).foldl (fun c q => c.setIfInBounds q.2 q.1) cs).toList = cs.toList.take i ++ l ++ cs.toList.drop (i + l.length) := by
  induction l with
  | nil => intro i cs _; simp
  | cons v r ih =>
    intro i cs h
    rw [List.length_cons] at h
    rw [List.zipIdx_cons, List.foldl_cons, ih (i + 1) _ (by simp; omega)]
    rw [Array.toList_setIfInBounds, List.take_set, List.drop_set_of_lt (by omega), List.length_cons, show i + 1 + r.length = i + (r.length + 1) from by omega]
    rw [List.take_succ_eq_append_getElem (by simp; omega), List.set_append_right _ _ (by rw [List.length_take]; omega), List.length_take, Nat.min_eq_left (by simp; omega), Nat.sub_self]
    simp

theorem heap_sets {g : Nat} {T : TypeId} (l : List Value) : ∀ (i : Nat) (w : World) (cs : Array Value), w.heap[g]? = some (.cells cs T) → ((l.zipIdx i).foldl (fun w q => w.setCell ⟨g, q.2, none⟩ q.1) w).heap[g]? = some (.cells ((l.zipIdx i).foldl (fun c q => c.setIfInBounds q.2 q.1) cs) T) := by
  induction l with
  | nil => intro i w cs h; exact h
  | cons v r ih => intro i w cs h; rw [List.zipIdx_cons, List.foldl_cons, List.foldl_cons]; exact ih (i + 1) _ _ (set_at h i v)

theorem heap_all {g : Nat} {T : TypeId} (l : List Value) (w : World) (cs : Array Value) (h : w.heap[g]? = some (.cells cs T)) (hl : l.length = cs.size) : ((l.zipIdx 0).foldl (fun w q => w.setCell ⟨g, q.2, none⟩ q.1) w).heap[g]? = some (.cells l.toArray T) := by
  rw [heap_sets l 0 w cs h]
  have e := sets_list l 0 cs (by omega)
  rw [List.take_zero, List.nil_append, List.drop_eq_nil_of_le (by simp; omega), List.append_nil] at e
  congr 2
  rw [← Array.toList_inj, e]

end Go.Proofs.Ytbjnemmghpmjjaa
