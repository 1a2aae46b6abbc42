/-
  What is proved: the methods of package change's reader that read ops and changes, called with any bytes, read as the mathematics says, and turn nothing but the reader.
  Conditions: the bytes lie in memory, and so does the reader.
-/
import Derived.Test.YtbjnemmghpmjjaaCRead2
namespace Go.Proofs.Ytbjnemmghpmjjaa
open Go.RowKit

theorem Off.setsAt {b : Nat} {w w' : World} (h : Off b w w') (l : List Value) : ∀ (i : Nat), Off b w ((l.zipIdx i).foldl (fun w q => w.setCell ⟨b, q.2, none⟩ q.1) w') := by
  induction l generalizing w' with
  | nil => intro i; exact h
  | cons v r ih => intro i; rw [List.zipIdx_cons, List.foldl_cons]; exact ih (h.set i v) (i + 1)

/-- The cells of an op. -/
def opCells (o : OpM) (vp : Value) : List Value := [.int .i64 o.kind, .int .i64 o.obj.1, .int .i64 o.obj.2, .string o.key, .int .i64 o.elem.1, .int .i64 o.elem.2, .bool o.ins, .int .i64 o.val.k, .int .i64 o.val.n, .string o.val.t, .int .i64 o.val.o, .int .i64 o.val.a, vp]

/-- An op as the program has it. -/
def opVal (o : OpM) (vp : Value) : Value := .agg (opCells o vp).toArray

/-- Ops with where their Preds lie. -/
abbrev OV : Type := OpM × Value

/-- The cells of ops. -/
def ocells (l : List OV) : List Value := l.flatMap fun q => opCells q.1 q.2

theorem ocells_append (p q : List OV) : ocells (p ++ q) = ocells p ++ ocells q := by simp [ocells]

theorem ocells_len (p : List OV) : (ocells p).length = p.length * 13 := by
  induction p with
  | nil => rfl
  | cons q r ih =>
    unfold ocells at ih ⊢
    rw [List.flatMap_cons, List.length_append, ih]
    simp [opCells]
    omega

theorem ocells_at (p : List OV) (i : Nat) (h : i < p.length) (j : Nat) (hj : j < 13) : (ocells p)[i * 13 + j]? = (opCells p[i].1 p[i].2)[j]? := by
  induction p generalizing i with
  | nil => simp at h
  | cons q r ih =>
    have e : ocells (q :: r) = opCells q.1 q.2 ++ ocells r := by simp [ocells]
    rw [e]
    have hl : (opCells q.1 q.2).length = 13 := rfl
    cases i with
    | zero => rw [List.getElem?_append_left (by omega)]; simp
    | succ i =>
      rw [List.getElem?_append_right (by omega), hl, show (i + 1) * 13 + j - 13 = i * 13 + j from by omega]
      simpa using ih i (by simpa using h)

/-- A slice of ops that the call has made. -/
abbrev RowO (B : Nat) (v : Value) (l : List OV) (w : World) : Prop := w.ownsRow B 64 13 v l.length (ocells l)

/-- The Preds of ops, each in a row of its own. -/
def PredsAt (B : Nat) (l : List OV) (w : World) : Prop := ∀ q ∈ l, RowPr 59 B q.2 q.1.preds w

theorem rowO_grown {B : Nat} {w wr w' : World} {v v' : Value} {l m : List OV} {o : Obj} (own : RowO B v l wr) (bel : Below B w wr) (hB : B ≤ wr.heap.size) (hg : (wr.alloc o).grownBy w' v.ownBlock)
    (own' : w'.ownsRow B 64 13 v' (l.length + m.length) (ocells l ++ ocells m)) : RowO B v' (l ++ m) w' ∧ Below B w w' := by
  refine ⟨?_, (bel.alloc hB o).grown hg (by simp; omega) (fun k hk => (own.lt k hk).1)⟩
  unfold RowO
  rw [ocells_append, List.length_append]
  exact own'

theorem rowO_len {B : Nat} {v : Value} {l : List OV} {w : World} (h : RowO B v l w) : ∃ a c, v = .slice a l.length c := by
  rcases h.2 with ⟨rfl, h0⟩ | ⟨g, cap, cur, rfl, _⟩
  · exact ⟨none, 0, by rw [h0]⟩
  · exact ⟨_, _, rfl⟩

/-- A row stays as it is while one of another type grows. -/
theorem own_grown {B e s n B2 e2 s2 n2 : Nat} {wr w' : World} {v v2 : Value} {xs ys : List Value} {o : Obj} (h : wr.ownsRow B e s v n xs) (own : wr.ownsRow B2 e2 s2 v2 n2 ys) (hT : e ≠ e2) (hg : (wr.alloc o).grownBy w' v2.ownBlock) : w'.ownsRow B e s v n xs := by
  refine ⟨h.1, ?_⟩
  rcases h.2 with h0 | ⟨b, cap, cur, h1, h2, h3, h4⟩
  · exact Or.inl h0
  · exact Or.inr ⟨b, cap, cur, h1, h2, box_grown own h3 hT hg, h4⟩

theorem infoO : (Try.prog.info? 64).map (fun i => (i.zero, i.size, i.bytes)) = some (some (.agg #[.int .i64 0, .int .i64 0, .int .i64 0, .string .empty, .int .i64 0, .int .i64 0, .bool false, .int .i64 0, .int .i64 0, .string .empty, .int .i64 0, .int .i64 0, .slice none 0 0]), 13, 136) := by kernel_rfl

end Go.Proofs.Ytbjnemmghpmjjaa
