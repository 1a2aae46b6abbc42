/-
  What is proved: what becomes of the reference's disk in memory when its box or one of its rows is changed.
  Conditions: as each theorem says.
-/
import Derived.Test.YtcdpcjafomfddaaDoorQNam
import Derived.Test.YtcdpcjafomfddaaDoorHK
namespace Go.Proofs.YtcdpcjafomfddaaDoor
open Go.RowKit Go.Maps Go.Sort Go.Shelf

variable {T : Nat → Prop} {w w' : World} {p : Nat} {fs : List FV} {N Y : List (Tx × Nat)} {n st : Int}

/-- The box is changed, and a row may have come in: what is new is given, what is left stays. -/
theorem Rk.boxed (h : Rk T w p fs N Y n st) {vf vn vy : Value} {fs' : List FV} {N' Y' : List (Tx × Nat)} {n' st' : Int} (hp : w'.heap[p]? = some (.cells #[vf, vn, vy, .int .i64 n', .int .i64 st'] 30)) (h1 : RowFs vf fs' w') (h2 : RowN vn N' w') (h3 : RowN vy Y' w')
    (t1 : ∀ b, vf.ownBlock = some b → T b) (t2 : ∀ b, vn.ownBlock = some b → T b) (t3 : ∀ b, vy.ownBlock = some b → T b) (hf : ∀ q ∈ fs', Row 0 q.1 q.2.1 w' ∧ q.2.1.length ≤ 60000 ∧ q.2.2 ≤ q.2.1.length ∧ (∀ b, q.1.ownBlock = some b → T b)) (hn : ∀ q ∈ N', q.2 < fs'.length) (hy : ∀ q ∈ Y', q.2 < fs'.length) : Rk T w' p fs' N' Y' n' st' :=
  ⟨⟨vf, vn, vy, hp, h1, h2, h3, t1, t2, t3⟩, hf, hn, hy, h.tp⟩

theorem fcells_ne : (74 : TypeId) ≠ 30 ∧ (64 : TypeId) ≠ 30 ∧ (5 : TypeId) ≠ 30 := by decide

/-- A row of another type than a changed box stays. -/
theorem row_setP {e s m j : Nat} {v u : Value} {xs : List Value} {cur : Array Value} {U : TypeId} (h : w.ownsRow 0 e s v m xs) (hp : w.heap[p]? = some (.cells cur U)) (hU : e ≠ U) : (w.setCell ⟨p, j, none⟩ u).ownsRow 0 e s v m xs :=
  own_at h (fun b hb => Below.heap_setCell _ _ _ _ (fun e1 => by
    obtain ⟨_, e2⟩ := own_block h hb
    exact cells_ne e2 hp hU e1))

/-- One of the numbers or rows in the box is changed. -/
theorem Rk.set (h : Rk T w p fs N Y n st) {vf vn vy : Value} (hb : w.heap[p]? = some (.cells #[vf, vn, vy, .int .i64 n, .int .i64 st] 30)) (h1 : RowFs vf fs w) (h2 : RowN vn N w) (h3 : RowN vy Y w) (t1 : ∀ b, vf.ownBlock = some b → T b) (t2 : ∀ b, vn.ownBlock = some b → T b) (t3 : ∀ b, vy.ownBlock = some b → T b) :
    (∀ m, Rk T (w.setCell ⟨p, 3, none⟩ (.int .i64 m)) p fs N Y m st) ∧ (∀ m, Rk T (w.setCell ⟨p, 4, none⟩ (.int .i64 m)) p fs N Y n m) ∧
    (∀ v fs', RowFs v fs' w → (∀ b, v.ownBlock = some b → T b) → (∀ q ∈ fs', Row 0 q.1 q.2.1 w ∧ q.2.1.length ≤ 60000 ∧ q.2.2 ≤ q.2.1.length ∧ (∀ b, q.1.ownBlock = some b → T b)) → fs.length ≤ fs'.length → Rk T (w.setCell ⟨p, 0, none⟩ v) p fs' N Y n st) ∧
    (∀ v N', RowN v N' w → (∀ b, v.ownBlock = some b → T b) → (∀ q ∈ N', q.2 < fs.length) → Rk T (w.setCell ⟨p, 1, none⟩ v) p fs N' Y n st) ∧ (∀ v Y', RowN v Y' w → (∀ b, v.ownBlock = some b → T b) → (∀ q ∈ Y', q.2 < fs.length) → Rk T (w.setCell ⟨p, 2, none⟩ v) p fs N Y' n st) := by
  have hf : ∀ j u, ∀ q ∈ fs, Row 0 q.1 q.2.1 (w.setCell ⟨p, j, none⟩ u) ∧ q.2.1.length ≤ 60000 ∧ q.2.2 ≤ q.2.1.length ∧ (∀ b, q.1.ownBlock = some b → T b) := fun j u q hq => have z := h.fi q hq; ⟨row_setP z.1 hb fcells_ne.2.2, z.2⟩
  refine ⟨fun m => ?_, fun m => ?_, fun v fs' hv tv hfs hl => ?_, fun v N' hv tv hn => ?_, fun v Y' hv tv hn => ?_⟩
  · exact h.boxed (by rw [heap_setCell_same w p 3 _ _ _ hb]; rfl) (row_setP h1 hb fcells_ne.1) (row_setP h2 hb fcells_ne.2.1) (row_setP h3 hb fcells_ne.2.1) t1 t2 t3 (hf 3 _) h.nN h.nY
  · exact h.boxed (by rw [heap_setCell_same w p 4 _ _ _ hb]; rfl) (row_setP h1 hb fcells_ne.1) (row_setP h2 hb fcells_ne.2.1) (row_setP h3 hb fcells_ne.2.1) t1 t2 t3 (hf 4 _) h.nN h.nY
  · exact h.boxed (by rw [heap_setCell_same w p 0 _ _ _ hb]; rfl) (row_setP hv hb fcells_ne.1) (row_setP h2 hb fcells_ne.2.1) (row_setP h3 hb fcells_ne.2.1) tv t2 t3 (fun q hq => have z := hfs q hq; ⟨row_setP z.1 hb fcells_ne.2.2, z.2⟩) (fun q hq => Nat.lt_of_lt_of_le (h.nN q hq) hl) (fun q hq => Nat.lt_of_lt_of_le (h.nY q hq) hl)
  · exact h.boxed (by rw [heap_setCell_same w p 1 _ _ _ hb]; rfl) (row_setP h1 hb fcells_ne.1) (row_setP hv hb fcells_ne.2.1) (row_setP h3 hb fcells_ne.2.1) t1 tv t3 (hf 1 _) hn h.nY
  · exact h.boxed (by rw [heap_setCell_same w p 2 _ _ _ hb]; rfl) (row_setP h1 hb fcells_ne.1) (row_setP h2 hb fcells_ne.2.1) (row_setP hv hb fcells_ne.2.1) t1 t2 tv (hf 2 _) h.nN hn

theorem fcells_set (fs : List FV) (i j : Nat) (q q' : FV) (u : Value) (hi : fs[i]? = some q) (hj : j < 2) (hq : [q'.1, Value.int .i64 q'.2.2] = [q.1, Value.int .i64 q.2.2].set j u) : (fcells fs).set (i * 2 + j) u = fcells (fs.set i q') := by
  induction fs generalizing i with
  | nil => simp at hi
  | cons x r ih =>
    have e : ∀ (y : FV) (l : List FV), fcells (y :: l) = y.1 :: .int .i64 y.2.2 :: fcells l := fun y l => by simp [fcells]
    cases i with
    | zero =>
      simp only [List.getElem?_cons_zero, Option.some.injEq] at hi
      subst hi
      rw [List.set_cons_zero, e, e]
      match j, hj, hq with
      | 0, _, hq =>
        simp only [List.set_cons_zero, List.cons.injEq, and_true] at hq
        simp [hq.1, hq.2]
      | 1, _, hq =>
        simp only [List.set_cons_succ, List.set_cons_zero, List.cons.injEq, and_true] at hq
        simp [hq.1, hq.2]
    | succ i =>
      rw [List.set_cons_succ, e, e, show (i + 1) * 2 + j = (i * 2 + j) + 1 + 1 by omega, List.set_cons_succ, List.set_cons_succ, ih i (by simpa using hi)]

theorem rowF_set {g m c : Nat} (h : RowFs (.slice (some ⟨g, 0, none⟩) m c) fs w) {i j : Nat} {q q' : FV} {u : Value} (hi : fs[i]? = some q) (hj : j < 2) (hq : [q'.1, Value.int .i64 q'.2.2] = [q.1, Value.int .i64 q.2.2].set j u) : RowFs (.slice (some ⟨g, 0, none⟩) m c) (fs.set i q') (w.setCell ⟨g, i * 2 + j, none⟩ u) := by
  have hl : (fs.set i q').length = fs.length := List.length_set
  refine ⟨by rw [fcells_len, hl], ?_⟩
  rcases h.2 with ⟨e, _⟩ | ⟨g', cap, cur, e, hb, hh, hc, hm, hz, ht⟩
  · cases e
  · obtain ⟨e1, e2, e3⟩ := Value.slice.inj e
    have e4 : g = g' := by injection e1 with e1; injection e1
    subst e4 e3
    refine Or.inr ⟨g, c, cur.setIfInBounds (i * 2 + j) u, by rw [hl, e2], hb, heap_setCell_same w g (i * 2 + j) _ _ _ hh, by rw [hl]; exact hc, hm, by simpa using hz, ?_⟩
    rw [hl, Array.toList_setIfInBounds, List.take_set, ht, fcells_set fs i j q q' u hi hj hq]

/-- A file of the reference is changed. -/
theorem Rk.setF (h : Rk T w p fs N Y n st) {g m c : Nat} {vn vy : Value} (hb : w.heap[p]? = some (.cells #[.slice (some ⟨g, 0, none⟩) m c, vn, vy, .int .i64 n, .int .i64 st] 30)) (h1 : RowFs (.slice (some ⟨g, 0, none⟩) m c) fs w) (h2 : RowN vn N w) (h3 : RowN vy Y w) (t1 : ∀ b, (Value.slice (some ⟨g, 0, none⟩) m c).ownBlock = some b → T b) (t2 : ∀ b, vn.ownBlock = some b → T b) (t3 : ∀ b, vy.ownBlock = some b → T b)
    {i : Nat} {q q' : FV} {u : Value} (hi : fs[i]? = some q) (j : Nat) (hj : j < 2) (hq : [q'.1, Value.int .i64 q'.2.2] = [q.1, Value.int .i64 q.2.2].set j u) (hr : Row 0 q'.1 q'.2.1 w) (hq' : q'.2.1.length ≤ 60000 ∧ q'.2.2 ≤ q'.2.1.length ∧ (∀ b, q'.1.ownBlock = some b → T b)) :
    Rk T (w.setCell ⟨g, i * 2 + j, none⟩ u) p (fs.set i q') N Y n st := by
  obtain ⟨cur, hcur⟩ := own_block h1 (b := g) rfl
  have hl : (fs.set i q').length = fs.length := List.length_set
  refine h.boxed ((Below.heap_setCell _ _ _ _ (cells_ne hb hcur fcells_ne.1.symm)).trans hb) (rowF_set h1 hi hj hq) (row_setP h2 hcur (by decide)) (row_setP h3 hcur (by decide)) t1 t2 t3 (fun x hx => ?_) (fun x hx => by rw [hl]; exact h.nN x hx) (fun x hx => by rw [hl]; exact h.nY x hx)
  rcases List.mem_or_eq_of_mem_set hx with hx | rfl
  · have z := h.fi x hx; exact ⟨row_setP z.1 hcur (by decide), z.2⟩
  · exact ⟨row_setP hr hcur (by decide), hq'⟩

theorem step_append_known {ops : Array Oper} {o : Oper} {a : Act} {w : World} {K : Act → World → Prop} {Q : Exit → Act → World → Prop} {E : Prop} (hgd : o.guard = none) (s x : Operand) (T : TypeId)
    (ho : o.op = .call { callee := .builtin .append, args := #[s, x], argTypes := #[T, T] }) (v u r : Value) (w' : World) (hs : a.eval s = v) (hx : a.eval x = u)
    (hrun : (Builtin.append_ #[T, T] o.type #[v, u]).run Tryd.prog w = .ok r w') (hK : K (a.put o.dst r) w') : if Region.wanted o (yielded ops a.tmps) = true then Oper.wp Tryd.prog o a w K Q else E := by
  have hw : Region.wanted o (yielded ops a.tmps) = true := by simp [Region.wanted, hgd]
  rw [if_pos hw]
  unfold Oper.wp
  simp [execOp, ho, resolve, invoke, builtin, hs, hx, hrun, Result.andThen]
  exact hK

theorem row_arg2 {v : Value} {l : Tx} {w : World} (h : Row 0 v l w) (hl : l.length ≤ 60000) : ArgB w v l := ⟨h.bytes (by omega), row_two h⟩
theorem isBytes_kp {w w3 W : World} {a : Option Addr} {m c : Nat} {l : Tx} (h : IsBytes w (.slice a m c) l) (hk : Kp T w w3) (hb : Below w3.heap.size w3 W) (ha : l ≠ [] → ∀ b o, a = some ⟨b, o, none⟩ → ¬ T b) : IsBytes W (.slice a m c) l := by
  obtain ⟨a', cap, e, h1, h2, h3⟩ := h
  obtain ⟨rfl, rfl, rfl⟩ := Value.slice.inj e
  refine ⟨a, c, rfl, h1, h2, fun hl => ?_⟩
  obtain ⟨b, off, rfl, h4, h5⟩ := h3 hl
  have hs := hk.size
  refine ⟨b, off, rfl, Nat.lt_of_lt_of_le h4 (Nat.le_trans hs hb.size), fun i hi => ?_⟩
  rw [hb.cell (p := ⟨b, off + i, none⟩) (Nat.lt_of_lt_of_le h4 hs), World.cell?_of_block (w := w) (hk.block b h4 (ha hl b off rfl))]
  exact h5 i hi
end Go.Proofs.YtcdpcjafomfddaaDoor
