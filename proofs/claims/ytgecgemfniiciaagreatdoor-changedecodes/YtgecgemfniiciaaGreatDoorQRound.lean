/-
  What is proved: what stays as it is while the reference reads one ref, one id or one op; and that all that it reads are numbers of 64 bits.
  Conditions: as each theorem says.
-/
import Derived.Test.YtgecgemfniiciaaGreatDoorQNew
import Derived.Test.YtgecgemfniiciaaGreatDoorCIs
namespace Go.Proofs.YtgecgemfniiciaaGreatDoor
open Go.RowKit

/-- A round of the reading: all but the reader is as it was, the round's own box, the reader. -/
structure Rn (w wr : World) (vb : Value) (b : List UInt8) (T : TypeId) (cs : Array Value) (s : St) (wc : World) : Prop where
  off : Off (w.heap.size + 1) wr wc
  box : wc.heap[wr.heap.size]? = some (.cells cs T)
  d : DAt (w.heap.size + 1) vb b s wc

theorem Rn.start {w wr : World} {vb : Value} {b : List UInt8} {s : St} (h : DAt (w.heap.size + 1) vb b s wr) (T : TypeId) (cs : Array Value) : Rn w wr vb b T cs s (wr.alloc (.cells cs T)) :=
  ⟨Off.of ((Below.refl _ wr).alloc (Nat.le_refl _) _), (MapKept.heap_alloc wr _).1, h.below ((Below.refl _ wr).alloc (Nat.le_refl _) _)⟩

theorem Rn.call {w wr wc wd : World} {vb : Value} {b : List UInt8} {T : TypeId} {cs : Array Value} {s s2 : St} (h : Rn w wr vb b T cs s wc) (hz : w.heap.size + 1 < wr.heap.size) (d : DAt (w.heap.size + 1) vb b s2 wd) (o : Off (w.heap.size + 1) wc wd) : Rn w wr vb b T cs s2 wd :=
  ⟨h.off.trans o, o.heap h.box (by omega), d⟩

theorem Rn.set {w wr wc : World} {vb : Value} {b : List UInt8} {T : TypeId} {cs : Array Value} {s : St} (h : Rn w wr vb b T cs s wc) (hz : w.heap.size + 1 < wr.heap.size) (i : Nat) (v : Value) : Rn w wr vb b T (cs.setIfInBounds i v) s (wc.setCell ⟨wr.heap.size, i, none⟩ v) :=
  ⟨h.off.setNew (Nat.le_refl _) i v, set_at h.box i v, h.d.off ((Off.refl _ wc).set i v) (by omega)⟩

theorem DAt.lt {g : Nat} {vb : Value} {b : List UInt8} {s : St} {wr : World} (h : DAt g vb b s wr) : g < wr.heap.size := by
  obtain ⟨a, _, _, hx⟩ := h
  rcases Nat.lt_or_ge g wr.heap.size with h1 | h1
  · exact h1
  · rw [Array.getElem?_eq_none h1] at hx; cases hx

theorem DAt.low {g B : Nat} {vb : Value} {b : List UInt8} {s : St} {wr w' : World} (h : DAt g vb b s wr) (hb : Below B wr w') (hg : g < B) : DAt g vb b s w' := by
  obtain ⟨a, h1, h2, h3⟩ := h
  exact ⟨a, h1, h2, (hb.block g hg).trans h3⟩

theorem rCnt_i64 (m : Int) (h0 : 0 ≤ m) (h1 : m ≤ 1000000) (s : St) : I64 (rCnt m s).1 := by
  have := rCnt_range m h0 s
  unfold I64
  omega

theorem qId_i64 (a b : Int) (ha : 0 ≤ a) (ha1 : a ≤ 1000000) (hb : 0 ≤ b) (hb1 : b ≤ 1000000) (s : St) : I64 (qId a b s).1.1 ∧ I64 (qId a b s).1.2 := ⟨rCnt_i64 a ha ha1 _, rCnt_i64 b hb hb1 _⟩

theorem qPairs_ok (a b : Int) (ha : 0 ≤ a) (ha1 : a ≤ 1000000) (hb : 0 ≤ b) (hb1 : b ≤ 1000000) (s : St) : (qPairs a b s).1.length ≤ 12 ∧ ∀ q ∈ (qPairs a b s).1, I64 q.1 ∧ I64 q.2 := by
  have h := rCnt_range 12 (by decide) s
  unfold qPairs
  refine ⟨by rw [rMany_len]; omega, ?_⟩
  exact rMany_all (P := fun q : Pr => I64 q.1 ∧ I64 q.2) (qId a b) (fun s => qId_i64 a b ha ha1 hb hb1 s) _ _

theorem qVal_nums (s : St) : I64 (qVal s).1.k ∧ I64 (qVal s).1.n ∧ I64 (qVal s).1.o ∧ I64 (qVal s).1.a := by
  unfold qVal
  exact ⟨rCnt_i64 6 (by decide) (by decide) _, rSig_range _, by unfold I64; simp, by unfold I64; simp⟩

set_option maxRecDepth 100000 in
theorem qOp_nums (s : St) : OpNums (qOp s).1 := by
  unfold OpNums qOp
  dsimp only
  exact ⟨rCnt_i64 4 (by decide) (by decide) _, qId_i64 1000000 99 (by decide) (by decide) (by decide) (by decide) _, qId_i64 1000000 99 (by decide) (by decide) (by decide) (by decide) _, qVal_nums _⟩

set_option maxRecDepth 100000 in
theorem qOp_preds (s : St) : (qOp s).1.preds.length ≤ 12 ∧ ∀ q ∈ (qOp s).1.preds, I64 q.1 ∧ I64 q.2 := by
  unfold qOp
  dsimp only
  exact qPairs_ok 1000000 99 (by decide) (by decide) (by decide) (by decide) _

theorem qMany_ops (n : Nat) (s : St) : ∀ o ∈ (rMany qOp n s).1, OpNums o ∧ o.preds.length ≤ 12 ∧ ∀ q ∈ o.preds, I64 q.1 ∧ I64 q.2 := rMany_all qOp (fun s => ⟨qOp_nums s, qOp_preds s⟩) _ _

/-- What was read is a change in memory, also when boxes ahead of its rows are set. -/
theorem Fr.chg {w wr w' : World} {x y z : Int} {ud uo : Value} {L : List Pr} {l : List OV} {k : Nat} (h : Fr w x y z ud L uo l wr) (ho : Off k wr w') (hk : k < w.heap.size + 3) (hx : I64 x) (hy : I64 y) (hz : I64 z) (hL : L.length ≤ 12 ∧ ∀ q ∈ L, I64 q.1 ∧ I64 q.2) (hl : l.length ≤ 40) (hO : ∀ o ∈ l.map (·.1), OpNums o ∧ o.preds.length ≤ 12 ∧ ∀ q ∈ o.preds, I64 q.1 ∧ I64 q.2) :
    IsChg w' (.agg #[.int .i64 x, .int .i64 y, .int .i64 z, ud, uo]) ⟨x, y, z, L, l.map (·.1)⟩ := by
  refine ⟨ud, uo, l, rfl, hx, hy, hz, RowPr.pairs (own_offlow h.deps ho hk) (by have := hL.1; dsimp only; omega) hL.2, RowO.ops (own_offlow h.ops ho hk) (by omega) (fun q hq => ?_), rfl⟩
  have hq2 := hO q.1 (List.mem_map_of_mem hq)
  exact ⟨RowPr.pairs (own_offlow (h.preds q hq) ho hk) (by omega) hq2.2.2, hq2.1⟩

/-- What reading a number that may be below 0 answers, in one form. -/
theorem sig_get (l : List UInt8) : ∃ (X : Int) (K : Nat), rgetSV (get l) = .tuple #[.int .i64 X, .int .i64 (K : Int)] ∧ K ≤ l.length ∧ (rSig (some l)).1 = X ∧ ((rSig (some l)).2 = none ∨ (rSig (some l)).2 = some (l.drop K)) ∧ (rSig (some l)).2.isNone = ((K : Int) == 0) := by
  unfold rSig
  rw [rest_some]
  cases hG : get l with
  | none => exact ⟨0, 0, rfl, Nat.zero_le _, rfl, Or.inl rfl, rfl⟩
  | some q =>
    obtain ⟨n, k⟩ := q
    obtain ⟨_, hn, hk1, hk2, _⟩ := get_some hG
    exact ⟨zag n, k, rfl, hk2, rfl, Or.inr rfl, by show false = _; symm; rw [beq_eq_false_iff_ne]; omega⟩

theorem heap_set_off {w : World} {b g i : Nat} {v : Value} {o : Obj} (h : w.heap[b]? = some o) (hb : b ≠ g) : (w.setCell ⟨g, i, none⟩ v).heap[b]? = some o := ((Off.refl g w).set i v).heap h hb

/-- The number below 0 is stored, and the reader goes on. -/
theorem Rn.sig {w wr wc w1 : World} {vb : Value} {b : List UInt8} {T : TypeId} {cs : Array Value} {s s2 : St} {a K : Nat} (h : Rn w wr vb b T cs s wc) (hz : w.heap.size + 1 < wr.heap.size) (B : Below wc.heap.size wc w1) (hx : wc.heap[w.heap.size + 1]? = some (.cells #[vb, .int .i64 a, .bool false] 38)) (hK : a + K ≤ b.length) (h2 : s2 = none ∨ s2 = some (b.drop (a + K))) (h3 : s2.isNone = ((K : Int) == 0)) (X : Int) :
    Rn w wr vb b T (cs.setIfInBounds 8 (.int .i64 X)) s2 (((w1.setCell ⟨wr.heap.size, 8, none⟩ (.int .i64 X)).setCell ⟨w.heap.size + 1, 1, none⟩ (.int .i64 ((a : Int) + K))).setCell ⟨w.heap.size + 1, 2, none⟩ (.bool ((K : Int) == 0))) := by
  have b1 := heap_below h.box B (Nat.le_refl _)
  have x1 := heap_below hx B (Nat.le_refl _)
  refine ⟨(((h.off.trans (Off.of B)).setNew (Nat.le_refl _) 8 _).set 1 _).set 2 _, heap_set_off (heap_set_off (set_at b1 8 _) (by omega)) (by omega), a + K, hK, h2, ?_⟩
  rw [h3]
  have y1 := set_at (set_at (heap_set_off (i := 8) (v := .int .i64 X) x1 (g := wr.heap.size) (by omega)) 1 (.int .i64 ((a : Int) + K))) 2 (.bool ((K : Int) == 0))
  exact y1
end Go.Proofs.YtgecgemfniiciaaGreatDoor
