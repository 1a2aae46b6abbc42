/-
  What is proved: changes that lie in memory stay there while other things are made.
  Conditions: as each theorem says.
-/
import Derived.Test.YtbjnemmghpmjjaaCRead3
namespace Go.Proofs.Ytbjnemmghpmjjaa
open Go.RowKit

/-- The numbers of an op. -/
def OpNums (o : OpM) : Prop := I64 o.kind ∧ (I64 o.obj.1 ∧ I64 o.obj.2) ∧ (I64 o.elem.1 ∧ I64 o.elem.2) ∧ I64 o.val.k ∧ I64 o.val.n ∧ I64 o.val.o ∧ I64 o.val.a

/-- A slice value that holds ops. -/
def IsOps (w : World) (v : Value) (l : List OV) : Prop :=
  ∃ a cap, v = .slice a l.length cap ∧ l.length ≤ cap ∧ l.length ≤ 1099511627776 ∧ (∀ q ∈ l, IsPairs w q.2 q.1.preds ∧ OpNums q.1) ∧ (l ≠ [] → ∃ b off, a = some ⟨b, off, none⟩ ∧ b < w.heap.size ∧ ∀ i (h : i < l.length) j, j < 13 → w.cell? ⟨b, off + i * 13 + j, none⟩ = (opCells l[i].1 l[i].2)[j]?)

theorem IsOps.below {w w' : World} {v : Value} {l : List OV} (h : IsOps w v l) (hb : Below w.heap.size w w') : IsOps w' v l := by
  obtain ⟨a, cap, rfl, h1, h2, hr, h3⟩ := h
  refine ⟨a, cap, rfl, h1, h2, fun q hq => ⟨(hr q hq).1.below hb, (hr q hq).2⟩, fun hl => ?_⟩
  obtain ⟨b, off, rfl, h4, h5⟩ := h3 hl
  exact ⟨b, off, rfl, Nat.lt_of_lt_of_le h4 hb.size, fun i hi j hj => by rw [hb.cell (p := ⟨b, off + i * 13 + j, none⟩) h4]; exact h5 i hi j hj⟩

/-- A change that lies in memory. -/
def IsChg (w : World) (v : Value) (c : Chg) : Prop :=
  ∃ ud uo l, v = .agg #[.int .i64 c.actor, .int .i64 c.seq, .int .i64 c.start, ud, uo] ∧ I64 c.actor ∧ I64 c.seq ∧ I64 c.start ∧ IsPairs w ud c.deps ∧ IsOps w uo l ∧ l.map (·.1) = c.ops

theorem IsChg.below {w w' : World} {v : Value} {c : Chg} (h : IsChg w v c) (hb : Below w.heap.size w w') : IsChg w' v c := by
  obtain ⟨ud, uo, l, h1, h2, h3, h4, h5, h6, h7⟩ := h
  exact ⟨ud, uo, l, h1, h2, h3, h4, h5.below hb, h6.below hb, h7⟩

theorem RowO.ops {B : Nat} {w : World} {v : Value} {l : List OV} (h : RowO B v l w) (hl : l.length ≤ 1099511627776) (hr : ∀ q ∈ l, IsPairs w q.2 q.1.preds ∧ OpNums q.1) : IsOps w v l := by
  rcases h.2 with ⟨rfl, h0⟩ | ⟨g, cap, cur, rfl, hg, hh, hc, hm, hz, ht⟩
  · exact ⟨none, 0, by rw [h0], by omega, hl, hr, fun h => absurd (List.length_eq_zero_iff.1 h0) h⟩
  · refine ⟨_, cap, rfl, hc, hl, hr, fun _ => ⟨g, 0, rfl, ?_, fun i hi j hj => ?_⟩⟩
    · rcases Nat.lt_or_ge g w.heap.size with h1 | h1
      · exact h1
      · rw [Array.getElem?_eq_none h1] at hh; cases hh
    · rw [Nat.zero_add, h.cellAt (i * 13 + j) (by omega), ocells_at l i hi j hj]

theorem rVal_nums (s : St) : I64 (rVal s).1.k ∧ I64 (rVal s).1.n ∧ I64 (rVal s).1.o ∧ I64 (rVal s).1.a := ⟨rNum_range _, rSig_range _, by unfold I64; simp [rVal], by unfold I64; simp [rVal]⟩
theorem rOp_nums (s : St) : OpNums (rOp s).1 := ⟨rNum_range _, rId_range _, rId_range _, rVal_nums _⟩
theorem pairs_ok (t : St) : (rPairs 12 t).1.length ≤ 12 ∧ ∀ q ∈ (rPairs 12 t).1, I64 q.1 ∧ I64 q.2 := by
  have h := rPairs_len 12 (by decide) t
  exact ⟨by omega, rPairs_range 12 t⟩
theorem rOp_preds (s : St) : (rOp s).1.preds.length ≤ 12 ∧ ∀ q ∈ (rOp s).1.preds, I64 q.1 ∧ I64 q.2 := by
  unfold rOp
  dsimp only
  exact pairs_ok _
theorem rOps_len (s : St) : (rOps s).1.length ≤ 40 := by
  unfold rOps
  rw [rMany_len]
  have := rCnt_range 40 (by decide) s
  omega
theorem rOps_all (s : St) : ∀ o ∈ (rOps s).1, OpNums o ∧ o.preds.length ≤ 12 ∧ ∀ q ∈ o.preds, I64 q.1 ∧ I64 q.2 := rMany_all rOp (fun s => ⟨rOp_nums s, rOp_preds s⟩) _ _

theorem own_offlow {B e s n k : Nat} {w w' : World} {v : Value} {xs : List Value} (h : w.ownsRow B e s v n xs) (ho : Off k w w') (hk : k < B) : w'.ownsRow B e s v n xs := by
  refine ⟨h.1, ?_⟩
  rcases h.2 with h0 | ⟨b, cap, cur, h1, h2, h3, h4⟩
  · exact Or.inl h0
  · exact Or.inr ⟨b, cap, cur, h1, h2, ho.heap h3 (by omega), h4⟩

end Go.Proofs.Ytbjnemmghpmjjaa
