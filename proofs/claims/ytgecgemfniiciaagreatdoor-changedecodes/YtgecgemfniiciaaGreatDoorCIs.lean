/-
  What is proved: changes that lie in memory stay there while other things are made.
  Conditions: as each theorem says.
-/
import Derived.Test.YtgecgemfniiciaaGreatDoorCRead3
namespace Go.Proofs.YtgecgemfniiciaaGreatDoor
open Go.RowKit

/-- The numbers of an op. -/
def OpNums (o : OpM) : Prop := I64 o.kind ∧ (I64 o.obj.1 ∧ I64 o.obj.2) ∧ (I64 o.elem.1 ∧ I64 o.elem.2) ∧ I64 o.val.k ∧ I64 o.val.n ∧ I64 o.val.o ∧ I64 o.val.a

/-- A slice value that holds ops. -/
def IsOps (w : World) (v : Value) (l : List OV) : Prop :=
  ∃ a cap, v = .slice a l.length cap ∧ l.length ≤ cap ∧ l.length ≤ 1099511627776 ∧ (∀ q ∈ l, IsPairs w q.2 q.1.preds ∧ OpNums q.1) ∧ (l ≠ [] → ∃ b off, a = some ⟨b, off, none⟩ ∧ b < w.heap.size ∧ ∀ i (h : i < l.length) j, j < 13 → w.cell? ⟨b, off + i * 13 + j, none⟩ = (opCells l[i].1 l[i].2)[j]?)

theorem IsOps.below {w w' : World} {v : Value} {l : List OV} (h : IsOps w v l) (hb : Below w.heap.size w w') : IsOps w' v l := by
  obtain ⟨a, cap, rfl, h1, h2, hr, h3⟩ := h
  refine ⟨a, cap, rfl, h1, h2, fun q hq => ⟨(hr q hq).1.below hb, (hr q hq).2⟩, fun hl => ?_⟩
  obtain ⟨b, off, rfl, h4, h5⟩ := h3 hl
  exact ⟨b, off, rfl, Nat.lt_of_lt_of_le h4 hb.size, fun i hi j hj => by rw [hb.cell (p := ⟨b, off + i * 13 + j, none⟩) h4]; exact h5 i hi j hj⟩

/-- A change that lies in memory. -/
def IsChg (w : World) (v : Value) (c : Chg) : Prop :=
  ∃ ud uo l, v = .agg #[.int .i64 c.actor, .int .i64 c.seq, .int .i64 c.start, ud, uo] ∧ I64 c.actor ∧ I64 c.seq ∧ I64 c.start ∧ IsPairs w ud c.deps ∧ IsOps w uo l ∧ l.map (·.1) = c.ops

theorem IsChg.below {w w' : World} {v : Value} {c : Chg} (h : IsChg w v c) (hb : Below w.heap.size w w') : IsChg w' v c := by
  obtain ⟨ud, uo, l, h1, h2, h3, h4, h5, h6, h7⟩ := h
  exact ⟨ud, uo, l, h1, h2, h3, h4, h5.below hb, h6.below hb, h7⟩

theorem RowO.ops {B : Nat} {w : World} {v : Value} {l : List OV} (h : RowO B v l w) (hl : l.length ≤ 1099511627776) (hr : ∀ q ∈ l, IsPairs w q.2 q.1.preds ∧ OpNums q.1) : IsOps w v l := by
  rcases h.2 with ⟨rfl, h0⟩ | ⟨g, cap, cur, rfl, hg, hh, hc, hm, hz, ht⟩
  · exact ⟨none, 0, by rw [h0], by omega, hl, hr, fun h => absurd (List.length_eq_zero_iff.1 h0) h⟩
  · refine ⟨_, cap, rfl, hc, hl, hr, fun _ => ⟨g, 0, rfl, ?_, fun i hi j hj => ?_⟩⟩
    · rcases Nat.lt_or_ge g w.heap.size with h1 | h1
      · exact h1
      · rw [Array.getElem?_eq_none h1] at hh; cases hh
    · rw [Nat.zero_add, h.cellAt (i * 13 + j) (by omega), ocells_at l i hi j hj]

theorem rVal_nums (s : St) : I64 (rVal s).1.k ∧ I64 (rVal s).1.n ∧ I64 (rVal s).1.o ∧ I64 (rVal s).1.a := ⟨rNum_range _, rSig_range _, by unfold I64; simp [rVal], by unfold I64; simp [rVal]⟩
theorem rOp_nums (s : St) : OpNums (rOp s).1 := ⟨rNum_range _, rId_range _, rId_range _, rVal_nums _⟩
theorem pairs_ok (t : St) : (rPairs 12 t).1.length ≤ 12 ∧ ∀ q ∈ (rPairs 12 t).1, I64 q.1 ∧ I64 q.2 := by
  have h := rPairs_len 12 (by decide) t
  exact ⟨by omega, rPairs_range 12 t⟩
theorem rOp_preds (s : St) : (rOp s).1.preds.length ≤ 12 ∧ ∀ q ∈ (rOp s).1.preds, I64 q.1 ∧ I64 q.2 := by
  unfold rOp
  dsimp only
  exact pairs_ok _
theorem rOps_len (s : St) : (rOps s).1.length ≤ 40 := by
  unfold rOps
  rw [rMany_len]
  have := rCnt_range 40 (by decide) s
  omega
theorem rOps_all (s : St) : ∀ o ∈ (rOps s).1, OpNums o ∧ o.preds.length ≤ 12 ∧ ∀ q ∈ o.preds, I64 q.1 ∧ I64 q.2 := rMany_all rOp (fun s => ⟨rOp_nums s, rOp_preds s⟩) _ _

theorem own_offlow {B e s n k : Nat} {w w' : World} {v : Value} {xs : List Value} (h : w.ownsRow B e s v n xs) (ho : Off k w w') (hk : k < B) : w'.ownsRow B e s v n xs := by
  refine ⟨h.1, ?_⟩
  rcases h.2 with h0 | ⟨b, cap, cur, h1, h2, h3, h4⟩
  · exact Or.inl h0
  · exact Or.inr ⟨b, cap, cur, h1, h2, ho.heap h3 (by omega), h4⟩

set_option maxRecDepth 100000 in
set_option maxHeartbeats 8000000 in
theorem change_any (w0 w : World) (g : Nat) (s : St) (h : RdAt w0 w g s) :
    Calls Tryz.prog 12 #[.pointer (some ⟨g, 0, none⟩)] w fun e w' => ∃ v, e = .returned v ∧ (∀ k w'', k < w.heap.size → Off k w' w'' → IsChg w'' v (rChg s).1) ∧ RdAt w0 w' g (rChg s).2 ∧ Off g w w' := by
  have BA : Below w.heap.size w (w.alloc (.cells #[.int .i64 0, .int .i64 0, .int .i64 0, .slice none 0 0, .slice none 0 0] 26)) := (Below.refl _ w).alloc (Nat.le_refl _) _
  have hbx : (w.alloc (.cells #[.int .i64 0, .int .i64 0, .int .i64 0, .slice none 0 0, .slice none 0 0] 26)).heap[w.heap.size]? = some (.cells #[.int .i64 0, .int .i64 0, .int .i64 0, .slice none 0 0, .slice none 0 0] 26) := (MapKept.heap_alloc w _).1
  have hg := h.lt
  go_enter Tryz.func12, Tryz.ntmps12
  go_wp2_with fail
  refine (number_any w0 _ g s (h.off BA)).mono ?_
  rintro e w1 ⟨rfl, R1, O1⟩
  have hb1 := O1.heap hbx (by omega)
  go_wp2_with fail
  refine (number_any w0 w1 g _ R1).mono ?_
  rintro e w2 ⟨rfl, R2, O2⟩
  have hb2 := O2.heap hb1 (by omega)
  go_wp2_with fail
  refine (number_any w0 w2 g _ R2).mono ?_
  rintro e w3 ⟨rfl, R3, O3⟩
  have hb3 := O3.heap hb2 (by omega)
  go_wp2_with fail
  refine (refs_any w0 w3 g _ R3).mono ?_
  rintro e w4 ⟨ud, rfl, D4, R4, O4⟩
  have hb4 := O4.heap hb3 (by omega)
  go_wp2_with fail
  refine (ops_any w0 w4 g _ R4).mono ?_
  rintro e w5 ⟨uo, l, rfl, hl, D5, P5, R5, O5⟩
  have hb5 := O5.heap hb4 (by omega)
  have D6 := R4.own O5 (by decide) D4
  have OO := (((((O1.trans O2).trans O3).trans O4).trans O5)).ahead
  have hz3 : w.heap.size ≤ w3.heap.size := ((O1.trans O2).trans O3).ahead.size
  have hz4 : w.heap.size ≤ w4.heap.size := (((O1.trans O2).trans O3).trans O4).ahead.size
  have HV : Hid (rChg s = (⟨(rNum s).1, (rNum (rNum s).2).1, (rNum (rNum (rNum s).2).2).1, (rPairs 12 (rNum (rNum (rNum s).2).2).2).1, (rOps (rPairs 12 (rNum (rNum (rNum s).2).2).2).2).1⟩, (rOps (rPairs 12 (rNum (rNum (rNum s).2).2).2).2).2)) := rfl
  have HN : Hid (I64 (rNum s).1 ∧ I64 (rNum (rNum s).2).1 ∧ I64 (rNum (rNum (rNum s).2).2).1) := ⟨rNum_range _, rNum_range _, rNum_range _⟩
  have HD : Hid ((rPairs 12 (rNum (rNum (rNum s).2).2).2).1.length ≤ 12 ∧ ∀ q ∈ (rPairs 12 (rNum (rNum (rNum s).2).2).2).1, I64 q.1 ∧ I64 q.2) := ⟨by have := rPairs_len 12 (by decide) (rNum (rNum (rNum s).2).2).2; omega, rPairs_range _ _⟩
  have HO : Hid ((rOps (rPairs 12 (rNum (rNum (rNum s).2).2).2).2).1.length ≤ 40 ∧ ∀ o ∈ (rOps (rPairs 12 (rNum (rNum (rNum s).2).2).2).2).1, OpNums o ∧ o.preds.length ≤ 12 ∧ ∀ q ∈ o.preds, I64 q.1 ∧ I64 q.2) := ⟨rOps_len _, rOps_all _⟩
  clear O1 O2 O3 O4 O5 R1 R2 R3 R4 hb1 hb2 hb3 hb4 hbx BA D4
  generalize (rOps (rPairs 12 (rNum (rNum (rNum s).2).2).2).2).2 = s5 at *
  generalize (rOps (rPairs 12 (rNum (rNum (rNum s).2).2).2).2).1 = os at *
  generalize (rPairs 12 (rNum (rNum (rNum s).2).2).2).1 = ds at *
  generalize (rNum (rNum (rNum s).2).2).1 = z at *
  generalize (rNum (rNum s).2).1 = y at *
  generalize (rNum s).1 = x at *
  obtain ⟨a1, cd, rfl⟩ := rowPr_len D6
  obtain ⟨a2, co, rfl⟩ := rowO_len D5
  have c0 : w5.cell? ⟨w.heap.size, 0, none⟩ = some (.int .i64 0) := Lib.cell_of_heap hb5 0
  have c1 : w5.cell? ⟨w.heap.size, 1, none⟩ = some (.int .i64 0) := Lib.cell_of_heap hb5 1
  have c2 : w5.cell? ⟨w.heap.size, 2, none⟩ = some (.int .i64 0) := Lib.cell_of_heap hb5 2
  have c3 : w5.cell? ⟨w.heap.size, 3, none⟩ = some (.slice none 0 0) := Lib.cell_of_heap hb5 3
  have c4 : w5.cell? ⟨w.heap.size, 4, none⟩ = some (.slice none 0 0) := Lib.cell_of_heap hb5 4
  have cf := Lib.frozen_of_heap hb5
  go_wp2
  have RF := R5.sets hg [.int .i64 x, .int .i64 y, .int .i64 z, .slice a1 ds.length cd, .slice a2 l.length co] 0
  have OF := OO.sets (Nat.le_refl _) [.int .i64 x, .int .i64 y, .int .i64 z, .slice a1 ds.length cd, .slice a2 l.length co] 0
  have hF := heap_all [.int .i64 x, .int .i64 y, .int .i64 z, .slice a1 ds.length cd, .slice a2 l.length co] w5 _ hb5 rfl
  have OS := (Off.refl w.heap.size w5).setsAt [.int .i64 x, .int .i64 y, .int .i64 z, .slice a1 ds.length cd, .slice a2 l.length co] 0
  simp only [List.zipIdx_cons, List.zipIdx_nil, List.foldl_cons, List.foldl_nil, Nat.zero_add, Nat.reduceAdd] at RF OF hF OS
  have D7 := own_off D6 hb5 (by decide) OS
  have D8 := own_off D5 hb5 (by decide) OS
  have P8 : PredsAt _ l _ := fun q hq => own_off (P5 q hq) hb5 (by decide) OS
  clear c0 c1 c2 c3 c4 cf OS D6 D5 P5
  generalize ((((w5.setCell ⟨w.heap.size, 0, none⟩ (.int .i64 x)).setCell ⟨w.heap.size, 1, none⟩ (.int .i64 y)).setCell ⟨w.heap.size, 2, none⟩ (.int .i64 z)).setCell ⟨w.heap.size, 3, none⟩ (.slice a1 ds.length cd)).setCell ⟨w.heap.size, 4, none⟩ (.slice a2 l.length co) = W at *
  have q0 : W.cell? ⟨w.heap.size, 0, none⟩ = some (.int .i64 x) := Lib.cell_of_heap hF 0
  have q1 : W.cell? ⟨w.heap.size, 1, none⟩ = some (.int .i64 y) := Lib.cell_of_heap hF 1
  have q2 : W.cell? ⟨w.heap.size, 2, none⟩ = some (.int .i64 z) := Lib.cell_of_heap hF 2
  have q3 : W.cell? ⟨w.heap.size, 3, none⟩ = some (.slice a1 ds.length cd) := Lib.cell_of_heap hF 3
  have q4 : W.cell? ⟨w.heap.size, 4, none⟩ = some (.slice a2 l.length co) := Lib.cell_of_heap hF 4
  refine bodyPost_ret (v := .agg #[.int .i64 x, .int .i64 y, .int .i64 z, .slice a1 ds.length cd, .slice a2 l.length co]) (by simp [results, Tryz.results12, go_sem, q0, q1, q2, q3, q4]) rfl ⟨_, rfl, fun kk w'' hkk hOO => ?_, by rw [HV.out]; exact RF, OF⟩
  rw [HV.out]
  have hll : l.length ≤ 40 := by have := congrArg List.length hl; rw [List.length_map] at this; have := HO.out.1; omega
  have D9 := own_offlow D7 hOO (by omega)
  have D10 := own_offlow D8 hOO (by omega)
  refine ⟨_, _, l, rfl, HN.out.1, HN.out.2.1, HN.out.2.2, RowPr.pairs D9 (by have := HD.out.1; dsimp only; omega) HD.out.2, RowO.ops D10 (by omega) (fun q hq => ?_), hl⟩
  have hq2 := HO.out.2 q.1 (by rw [← hl]; exact List.mem_map_of_mem hq)
  exact ⟨RowPr.pairs (own_offlow (P8 q hq) hOO (by omega)) (by omega) hq2.2.2, hq2.1⟩
end Go.Proofs.YtgecgemfniiciaaGreatDoor
