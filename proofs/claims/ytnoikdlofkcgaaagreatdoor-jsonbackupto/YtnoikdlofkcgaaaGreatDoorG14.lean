/-
  What is proved: what becomes of a tree by a patch (a value set, something taken out, something put in) at the end of a path: at most one tree, and it is one. what lies in a row behind an element that is put between, in its place or in a new row; copies between rows of elements of several cells. slices.Insert at texts and at trees, called with a row of one's own and one element in a row of its own, answers the row with that element between; all blocks but that row's are as they were.
  Conditions: as each theorem says.
-/
import Derived.Test.YtnoikdlofkcgaaaGreatDoorG13
import Derived.Test.YtnoikdlofkcgaaaGreatDoorG08
import Derived.Laws.CopyRow
import Derived.Lib.Overlaps
import Derived.Lib.AppendZerosOnto
import Derived.Laws.IdiomCopy
import Derived.Test.YtnoikdlofkcgaaaGreatDoorJCopy
import Derived.Maps.AppendAt
namespace Go.Proofs.YtnoikdlofkcgaaaGreatDoor
open Go.RowKit Go.Sort

/-- A list without one of its elements. -/
def cutL {α : Type} (l : List α) (i : Nat) : List α := l.take i ++ l.drop (i + 1)
theorem cutL_len {α : Type} (l : List α) (i : Nat) (h : i < l.length) : (cutL l i).length + 1 = l.length := by
  unfold cutL
  rw [List.length_append, List.length_take, List.length_drop]
  omega
theorem cutL_mem {α : Type} {l : List α} {i : Nat} {b : α} (h : b ∈ cutL l i) : b ∈ l := by
  unfold cutL at h
  rcases List.mem_append.1 h with h | h
  · exact List.mem_of_mem_take h
  · exact List.mem_of_mem_drop h
/-- Something taken out by one step. -/
def GoneR (T : JT) (s : Stp) (T' : JT) : Prop :=
  ∃ i, kidOf T.x T.ks T.ts.length s = some i ∧ i < T.ts.length ∧ T' = .node T.x (if keyStep T.x s = true then cutL T.ks i else T.ks) (cutL T.ts i)
/-- Something put in by one step. -/
def InsR (T : JT) (s : Stp) (y : V) (T' : JT) : Prop :=
  atStep T.x T.ts.length s = true ∧ T' = .node T.x T.ks (putL T.ts s.2.toNat (leafT y))
/-- What a patch of a kind does by one step. -/
def OneR (k : Int) (T : JT) (s : Stp) (y : V) (T' : JT) : Prop :=
  (k = 1 ∧ SetR T s y T') ∨ (k = 2 ∧ GoneR T s T') ∨ (k = 3 ∧ InsR T s y T')
/-- What it does at the end of a path. -/
def UpdK (k : Int) : JT → List Stp → V → JT → Prop
  | _, [], _, _ => False
  | T, [s], y, T' => OneR k T s y T'
  | T, s :: q :: r, y, T' => ∃ i t t', kidOf T.x T.ks T.ts.length s = some i ∧ T.ts[i]? = some t ∧ UpdK k t (q :: r) y t' ∧ T' = .node T.x T.ks (T.ts.set i t')

theorem up_less : ∀ (ks : List ByteArray) (p q : List UInt8), upB q ks = true → p < q → upB p ks = true
  | [], _, _, _, _ => rfl
  | k :: r, p, q, h, hp => by
    rw [upB_cons] at h ⊢
    simp only [Bool.and_eq_true, decide_eq_true_eq] at h ⊢
    exact ⟨List.lt_trans hp h.1, h.2⟩
theorem up_cut : ∀ (ks : List ByteArray) (p : List UInt8) (i : Nat), upB p ks = true → upB p (cutL ks i) = true
  | [], p, i, _ => by simp [cutL, upB]
  | k :: r, p, 0, h => by
    have e : cutL (k :: r) 0 = r := rfl
    rw [e]
    rw [upB_cons] at h
    simp only [Bool.and_eq_true, decide_eq_true_eq] at h
    exact up_less r p k.toList h.2.2 h.1
  | k :: r, p, i + 1, h => by
    have e : cutL (k :: r) (i + 1) = k :: cutL r i := rfl
    rw [e]
    rw [upB_cons] at h ⊢
    simp only [Bool.and_eq_true, decide_eq_true_eq] at h ⊢
    exact ⟨h.1, h.2.1, up_cut r k.toList i h.2.2⟩
theorem atStep_parts {x : V} {n : Nat} {s : Stp} (h : atStep x n s = true) : x.k = 6 ∧ s.1.toList = [] ∧ 0 ≤ s.2 ∧ s.2 ≤ n := by
  unfold atStep at h
  simp only [Bool.and_eq_true, decide_eq_true_eq, List.isEmpty_iff] at h
  exact h
theorem nodeB_list {x : V} {ks : List ByteArray} {n : Nat} (h6 : x.k = 6) : nodeB x ks n = true ↔ valB x = true ∧ ks = [] := by
  unfold nodeB
  rw [if_neg (by omega), if_pos h6]
  simp [Bool.and_eq_true]
/-- A step that leads to a kid is a key's, or an index. -/
theorem kid_case {x : V} {ks : List ByteArray} {n i : Nat} {s : Stp} (h : kidOf x ks n s = some i) : (keyStep x s = true ∧ lookK ks s.1.toList = some i) ∨ (keyStep x s = false ∧ atStep x n s = true ∧ s.2 = i ∧ i < n) := by
  unfold kidOf at h
  by_cases e : keyStep x s = true
  · rw [if_pos e] at h
    exact Or.inl ⟨e, h⟩
  · rw [if_neg e] at h
    by_cases e2 : atStep x n s = true ∧ s.2 < n
    · rw [if_pos e2] at h
      have h3 := Option.some.inj h
      have := (atStep_parts e2.1).2.2.1
      exact Or.inr ⟨by simpa using e, e2.1, by omega, by omega⟩
    · rw [if_neg e2] at h; cases h
theorem gone_formed {T T' : JT} {s : Stp} (h : GoneR T s T') (hf : formedB T = true) : formedB T' = true := by
  obtain ⟨hn, hk⟩ := (formed_iff T).1 hf
  obtain ⟨i, h0, hi, rfl⟩ := h
  rw [formed_iff, node_x, node_ks, node_ts]
  refine ⟨?_, fun t ht => hk t (cutL_mem ht)⟩
  have hcl := cutL_len T.ts i hi
  rcases kid_case h0 with ⟨e, h1⟩ | ⟨e, h1, _⟩
  · rw [if_pos e]
    have h5 := (keyStep_parts e).1
    obtain ⟨n1, n2, n3⟩ := (nodeB_map h5).1 hn
    obtain ⟨hil, _⟩ := lookK_some h1
    have hck := cutL_len T.ks i hil
    exact (nodeB_map h5).2 ⟨n1, by omega, up_cut _ _ _ n3⟩
  · rw [if_neg (by rw [e]; decide)]
    have h6 := (atStep_parts h1).1
    exact (nodeB_list h6).2 ((nodeB_list h6).1 hn)
theorem ins_formed {T T' : JT} {s : Stp} {y : V} (h : InsR T s y T') (hf : formedB T = true) (hv : valB y = true) : formedB T' = true := by
  obtain ⟨hn, hk⟩ := (formed_iff T).1 hf
  obtain ⟨h0, rfl⟩ := h
  rw [formed_iff, node_x, node_ks, node_ts]
  have h6 := (atStep_parts h0).1
  refine ⟨(nodeB_list h6).2 ((nodeB_list h6).1 hn), fun t ht => ?_⟩
  rcases putL_mem ht with e | e
  · rw [e]; exact leaf_formed hv
  · exact hk t e
theorem one_formed {k : Int} {T T' : JT} {s : Stp} {y : V} (h : OneR k T s y T') (hf : formedB T = true) (hv : valB y = true) (hs : s.1.size ≤ 20) : formedB T' = true := by
  rcases h with ⟨_, h⟩ | ⟨_, h⟩ | ⟨_, h⟩
  · exact set_formed h hf hv hs
  · exact gone_formed h hf
  · exact ins_formed h hf hv
theorem updk_formed {k : Int} {y : V} (hv : valB y = true) : ∀ (l : List Stp) (T T' : JT), UpdK k T l y T' → formedB T = true → (∀ s ∈ l, s.1.size ≤ 20) → formedB T' = true
  | [], T, T', h, _, _ => absurd h (by simp [UpdK])
  | [s], T, T', h, hf, hl => one_formed (by simpa [UpdK] using h) hf hv (hl s (by simp))
  | s :: q :: r, T, T', h, hf, hl => by
    rw [UpdK] at h
    obtain ⟨i, t, t', h1, h2, h3, rfl⟩ := h
    obtain ⟨hn, hk⟩ := (formed_iff T).1 hf
    rw [formed_iff, node_x, node_ks, node_ts, List.length_set]
    refine ⟨hn, fun u hu => ?_⟩
    rcases mem_set_or hu with e | e
    · rw [e]; exact updk_formed hv (q :: r) t t' h3 (hk t (List.mem_of_getElem? h2)) (fun s hs => hl s (List.mem_cons_of_mem _ hs))
    · exact hk u e
theorem one_one {k : Int} {T A B : JT} {s : Stp} {y : V} (h : OneR k T s y A) (h' : OneR k T s y B) : A = B := by
  rcases h with ⟨e, h⟩ | ⟨e, h⟩ | ⟨e, h⟩ <;> rcases h' with ⟨e', h'⟩ | ⟨e', h'⟩ | ⟨e', h'⟩
  · exact set_one h h'
  · omega
  · omega
  · omega
  · obtain ⟨i, h1, _, rfl⟩ := h
    obtain ⟨j, h2, _, rfl⟩ := h'
    rw [h1] at h2
    rw [Option.some.inj h2]
  · omega
  · omega
  · omega
  · rw [h.2, h'.2]
theorem updk_one {k : Int} {y : V} : ∀ (l : List Stp) (T A B : JT), UpdK k T l y A → UpdK k T l y B → A = B
  | [], _, _, _, h, _ => absurd h (by simp [UpdK])
  | [s], T, A, B, h, h' => one_one (by simpa [UpdK] using h) (by simpa [UpdK] using h')
  | s :: q :: r, T, A, B, h, h' => by
    rw [UpdK] at h h'
    obtain ⟨i, t, t', h1, h2, h3, rfl⟩ := h
    obtain ⟨j, u, u', g1, g2, g3, rfl⟩ := h'
    rw [h1] at g1
    obtain rfl := Option.some.inj g1
    rw [h2] at g2
    obtain rfl := Option.some.inj g2
    rw [updk_one (q :: r) t t' u' h3 g3]
theorem updk_rep {k : Int} {y : V} {t t' : JT} {s : Stp} : ∀ (d : List Stp) (T : JT), getT T d = some t → OneR k t s y t' → UpdK k T (d ++ [s]) y (repT T d t')
  | [], T, hg, hs => by
    rw [getT] at hg
    obtain rfl := Option.some.inj hg
    show UpdK k T [s] y (repT T [] t')
    rw [UpdK, repT]
    exact hs
  | a :: d, T, hg, hs => by
    rw [getT] at hg
    obtain ⟨u, h1, h2⟩ := Option.bind_eq_some_iff.1 hg
    unfold step1 at h1
    obtain ⟨j, h3, h4⟩ := Option.bind_eq_some_iff.1 h1
    have ih := updk_rep d u h2 hs
    have e : repT T (a :: d) t' = .node T.x T.ks (T.ts.set j (repT u d t')) := by
      rw [repT, h3]
      simp only
      rw [h4]
      rfl
    rw [e]
    cases d with
    | nil =>
      show UpdK k T [a, s] y _
      rw [UpdK]
      exact ⟨j, u, _, h3, h4, ih, rfl⟩
    | cons c d =>
      show UpdK k T (a :: c :: (d ++ [s])) y _
      rw [UpdK]
      exact ⟨j, u, _, h3, h4, ih, rfl⟩
theorem updk_split {k : Int} {y : V} {s : Stp} : ∀ (d : List Stp) (T T' : JT), UpdK k T (d ++ [s]) y T' → ∃ t t', getT T d = some t ∧ OneR k t s y t'
  | [], T, T', h => by
    have h1 : UpdK k T [s] y T' := h
    rw [UpdK] at h1
    exact ⟨T, T', by rw [getT], h1⟩
  | [a], T, T', h => by
    have h1 : UpdK k T [a, s] y T' := h
    rw [UpdK] at h1
    obtain ⟨i, t, t', e1, e2, e3, _⟩ := h1
    rw [UpdK] at e3
    refine ⟨t, t', ?_, e3⟩
    rw [getT, step1, e1]
    show (T.ts[i]?).bind _ = _
    rw [e2]
    rfl
  | a :: c :: d, T, T', h => by
    have h1 : UpdK k T (a :: c :: (d ++ [s])) y T' := h
    rw [UpdK] at h1
    obtain ⟨i, t, t', e1, e2, e3, _⟩ := h1
    obtain ⟨t1, t2, g1, g2⟩ := updk_split (c :: d) t t' e3
    refine ⟨t1, t2, ?_, g2⟩
    rw [getT, step1, e1]
    show (T.ts[i]?).bind _ = _
    rw [e2]
    exact g1
end Go.Proofs.YtnoikdlofkcgaaaGreatDoor

namespace Go.Proofs.YtnoikdlofkcgaaaGreatDoor
open Go.RowKit

/-- Elements go over from one row into another, or into their own. -/
theorem copy_rows {P : Program} (w : World) (dT sT ty e : TypeId) (i : TypeInfo) (size g o dLen dCap : Nat) (a : Addr) (sLen sCap : Nat) (cur : Array Value) (t : TypeId) (cs : List Value)
    (hu : P.underlying dT = some (.slice e)) (hi : P.info? e = some i) (hz : i.size = size) (hg : w.heap[g]? = some (.cells cur t)) (k : Nat) (hk : Nat.min sLen dLen = k) (hn : cs.length = k * size)
    (hsrc : ∀ j v, cs[j]? = some v → w.cell? (a.add j) = some v) (hfit : o + cs.length ≤ cur.size) (h1 : ∀ v ∈ cs, v.oneCell' = true) :
    (Builtin.copy_ #[dT, sT] ty #[.slice (some ⟨g, o, none⟩) dLen dCap, .slice (some a) sLen sCap]).run P w = .ok (goInt k) (w.setRow g (cur.toList.take o ++ cs ++ cur.toList.drop (o + cs.length)).toArray) := by
  have hl := run_firstCells_some (P := P) w size k a sLen sCap cs hn hsrc
  have hst := run_storeCells_at P g o t cs 0 cur w hg (by simpa using hfit) h1
  simp only [Nat.add_zero] at hst
  simp [Builtin.copy_, run_underlying hu, Builtin.lenOf, sizeOf, typeInfo, hi, hz, hk, hl, hst]

/-- A list with something put between. -/
def put1 (a : Nat) (xs ys : List Value) : List Value := xs.take a ++ (ys ++ xs.drop a)
theorem put1_len (a : Nat) (xs ys : List Value) : (put1 a xs ys).length = xs.length + ys.length := by
  unfold put1
  simp only [List.length_append, List.length_take, List.length_drop]
  omega
/-- In its place: what stands from there on goes first. -/
theorem put_in {c xs ys : List Value} {a n s : Nat} (hx : c.take n = xs) (hxl : xs.length = n) (hys : ys.length = s) (ha : a ≤ n) (hc : n + s ≤ c.length) :
    ∃ r, ((c.take (a + s) ++ xs.drop a ++ c.drop (a + s + (xs.drop a).length)).take a ++ ys ++ (c.take (a + s) ++ xs.drop a ++ c.drop (a + s + (xs.drop a).length)).drop (a + ys.length)) = put1 a xs ys ++ r ∧ r.length = c.length - (n + s) := by
  have e1 : (c.take (a + s)).length = a + s := by rw [List.length_take]; omega
  have e2 : (c.take (a + s) ++ xs.drop a ++ c.drop (a + s + (xs.drop a).length)).take a = xs.take a := by
    rw [List.append_assoc, List.take_append_of_le_length (by omega), List.take_take, Nat.min_eq_left (by omega), ← hx, List.take_take, Nat.min_eq_left ha]
  have e3 : (c.take (a + s) ++ xs.drop a ++ c.drop (a + s + (xs.drop a).length)).drop (a + ys.length) = xs.drop a ++ c.drop (a + s + (xs.drop a).length) := by
    rw [List.append_assoc, hys]
    exact List.drop_left' e1
  refine ⟨c.drop (a + s + (xs.drop a).length), ?_, ?_⟩
  · rw [e2, e3]
    unfold put1
    simp only [List.append_assoc]
  · rw [List.length_drop, List.length_drop, hxl]
    omega
/-- In a new row: what is put between goes first. -/
theorem put_new {c xs ys : List Value} {a n s : Nat} (hx : c.take a = xs.take a) (hxl : xs.length = n) (hys : ys.length = s) (ha : a ≤ n) (hc : n + s ≤ c.length) :
    ∃ r, ((c.take a ++ ys ++ c.drop (a + ys.length)).take (a + s) ++ xs.drop a ++ (c.take a ++ ys ++ c.drop (a + ys.length)).drop (a + s + (xs.drop a).length)) = put1 a xs ys ++ r ∧ r.length = c.length - (n + s) := by
  have e1 : (c.take a ++ ys).length = a + s := by rw [List.length_append, List.length_take]; omega
  have e2 : (c.take a ++ ys ++ c.drop (a + ys.length)).take (a + s) = xs.take a ++ ys := by
    rw [List.take_left' e1, hx]
  refine ⟨(c.take a ++ ys ++ c.drop (a + ys.length)).drop (a + s + (xs.drop a).length), ?_, ?_⟩
  · rw [e2]
    unfold put1
    simp only [List.append_assoc]
  · rw [List.length_drop, List.length_append, e1, List.length_drop, List.length_drop, hxl, hys]
    omega
end Go.Proofs.YtnoikdlofkcgaaaGreatDoor

namespace Go.Proofs.YtnoikdlofkcgaaaGreatDoor
open Go.RowKit Go.Sort

/-- A copy whose end is known. -/
theorem wp_copyI {w : World} {ops : Array Oper} {rest : List Oper} {o : Oper} {a : Act} {Q : Exit → Act → World → Prop} (hgd : o.guard = none) (d s : Operand) (t t' : TypeId)
    (ho : o.op = .call { callee := .builtin .copy, args := #[d, s], argTypes := #[t, t'] }) (v u : Value) (hd : a.eval d = v) (hs : a.eval s = u) {r : Value} {w' : World}
    (hrun : (Builtin.copy_ #[t, t'] o.type #[v, u]).run Tryz.prog w = .ok r w') (h : wpList Tryz.prog ops Q rest (a.put o.dst r) w') : wpList Tryz.prog ops Q (o :: rest) a w := by
  refine wpList_plain hgd fun K hK => ?_
  unfold Oper.wp
  simp [execOp, ho, resolve, invoke, builtin, hd, hs, hrun, Result.andThen]
  exact hK _ _ h
/-- An append of noughts whose end is known. -/
theorem wp_append' {w : World} {ops : Array Oper} {rest : List Oper} {o : Oper} {a : Act} {Q : Exit → Act → World → Prop} (hgd : o.guard = none) (s x : Operand) (T T' : TypeId)
    (ho : o.op = .call { callee := .builtin .append, args := #[s, x], argTypes := #[T, T'] }) (v u r : Value) (w' : World) (hs : a.eval s = v) (hx : a.eval x = u)
    (hrun : (Builtin.append_ #[T, T'] o.type #[v, u]).run Tryz.prog w = .ok r w') (h : wpList Tryz.prog ops Q rest (a.put o.dst r) w') : wpList Tryz.prog ops Q (o :: rest) a w := by
  refine wpList_plain hgd fun K hK => ?_
  unfold Oper.wp
  simp [execOp, ho, resolve, invoke, builtin, hs, hx, hrun, Result.andThen]
  exact hK _ _ h
theorem step_copy_known {ops : Array Oper} {o : Oper} {a : Act} {w : World} {K : Act → World → Prop} {Q : Exit → Act → World → Prop} {E : Prop} (hgd : o.guard = none) (d s : Operand) (t t' : TypeId)
    (ho : o.op = .call { callee := .builtin .copy, args := #[d, s], argTypes := #[t, t'] }) (v u r : Value) (w' : World) (hd : a.eval d = v) (hs : a.eval s = u)
    (hrun : (Builtin.copy_ #[t, t'] o.type #[v, u]).run Tryz.prog w = .ok r w') (hK : K (a.put o.dst r) w') : if Region.wanted o (yielded ops a.tmps) = true then Oper.wp Tryz.prog o a w K Q else E := by
  have hw : Region.wanted o (yielded ops a.tmps) = true := by simp [Region.wanted, hgd]
  rw [if_pos hw]
  unfold Oper.wp
  simp [execOp, ho, resolve, invoke, builtin, hd, hs, hrun, Result.andThen]
  exact hK

end Go.Proofs.YtnoikdlofkcgaaaGreatDoor
