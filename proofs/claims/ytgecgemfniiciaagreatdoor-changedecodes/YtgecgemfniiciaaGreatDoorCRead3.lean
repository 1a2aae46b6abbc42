/-
  What is proved: the methods of package change's reader that read ops and changes, called with any bytes, read as the mathematics says, and turn nothing but the reader.
  Conditions: the bytes lie in memory, and so does the reader.
-/
import Derived.Test.YtgecgemfniiciaaGreatDoorCRead2
namespace Go.Proofs.YtgecgemfniiciaaGreatDoor
open Go.RowKit

theorem Off.setsAt {b : Nat} {w w' : World} (h : Off b w w') (l : List Value) : ∀ (i : Nat), Off b w ((l.zipIdx i).foldl (fun w q => w.setCell ⟨b, q.2, none⟩ q.1) w') := by
  induction l generalizing w' with
  | nil => intro i; exact h
  | cons v r ih => intro i; rw [List.zipIdx_cons, List.foldl_cons]; exact ih (h.set i v) (i + 1)

/-- The cells of an op. -/
def opCells (o : OpM) (vp : Value) : List Value := [.int .i64 o.kind, .int .i64 o.obj.1, .int .i64 o.obj.2, .string o.key, .int .i64 o.elem.1, .int .i64 o.elem.2, .bool o.ins, .int .i64 o.val.k, .int .i64 o.val.n, .string o.val.t, .int .i64 o.val.o, .int .i64 o.val.a, vp]

/-- An op as the program has it. -/
def opVal (o : OpM) (vp : Value) : Value := .agg (opCells o vp).toArray

set_option maxRecDepth 100000 in
set_option maxHeartbeats 8000000 in
theorem op_any (w0 w : World) (g : Nat) (s : St) (h : RdAt w0 w g s) :
    Calls Tryz.prog 42 #[.pointer (some ⟨g, 0, none⟩)] w fun e w' => ∃ vp, e = .returned (opVal (rOp s).1 vp) ∧ RowPr 43 w.heap.size vp (rOp s).1.preds w' ∧ RdAt w0 w' g (rOp s).2 ∧ Off g w w' := by
  have BA : Below w.heap.size w (w.alloc (.cells #[.int .i64 0, .int .i64 0, .int .i64 0, .string .empty, .int .i64 0, .int .i64 0, .bool false, .int .i64 0, .int .i64 0, .string .empty, .int .i64 0, .int .i64 0, .slice none 0 0] 48)) := (Below.refl _ w).alloc (Nat.le_refl _) _
  have hbx : (w.alloc (.cells #[.int .i64 0, .int .i64 0, .int .i64 0, .string .empty, .int .i64 0, .int .i64 0, .bool false, .int .i64 0, .int .i64 0, .string .empty, .int .i64 0, .int .i64 0, .slice none 0 0] 48)).heap[w.heap.size]? = some (.cells #[.int .i64 0, .int .i64 0, .int .i64 0, .string .empty, .int .i64 0, .int .i64 0, .bool false, .int .i64 0, .int .i64 0, .string .empty, .int .i64 0, .int .i64 0, .slice none 0 0] 48) := (MapKept.heap_alloc w _).1
  have hg := h.lt
  go_enter Tryz.func42, Tryz.ntmps42
  go_wp2_with fail
  refine (number_any w0 _ g s (h.off BA)).mono ?_
  rintro e w1 ⟨rfl, R1, O1⟩
  have hb1 := O1.heap hbx (by omega)
  go_wp2_with fail
  refine (id_any w0 w1 g _ R1).mono ?_
  rintro e w2 ⟨rfl, R2, O2⟩
  have hb2 := O2.heap hb1 (by omega)
  go_wp2_with fail
  refine (text_any w0 w2 g _ 20 (by decide) R2).mono ?_
  rintro e w3 ⟨rfl, R3, O3⟩
  have hb3 := O3.heap hb2 (by omega)
  go_wp2_with fail
  refine (id_any w0 w3 g _ R3).mono ?_
  rintro e w4 ⟨rfl, R4, O4⟩
  have hb4 := O4.heap hb3 (by omega)
  go_wp2_with fail
  refine (count_any w0 w4 g _ 1 R4).mono ?_
  rintro e w5 ⟨rfl, R5, O5⟩
  have hb5 := O5.heap hb4 (by omega)
  go_wp2_with fail
  refine (value_any w0 w5 g _ R5).mono ?_
  rintro e w6 ⟨rfl, R6, O6⟩
  have hb6 := O6.heap hb5 (by omega)
  unfold V.val
  go_wp2_with fail
  refine (ids_any w0 w6 g _ R6).mono ?_
  rintro e w7 ⟨u, rfl, P7, R7, O7⟩
  have hb7 := O7.heap hb6 (by omega)
  have OO := ((((((O1.trans O2).trans O3).trans O4).trans O5).trans O6).trans O7).ahead
  have hz6 : w.heap.size ≤ w6.heap.size := ((((((O1.trans O2).trans O3).trans O4).trans O5).trans O6)).ahead.size
  have P8 : RowPr 43 w.heap.size u _ w7 := own_mono P7 hz6
  have HV : Hid (rOp s = (⟨(rNum s).1, (rId (rNum s).2).1, asText (rTxt 20 (rId (rNum s).2).2).1, (rId (rTxt 20 (rId (rNum s).2).2).2).1, (rCnt 1 (rId (rTxt 20 (rId (rNum s).2).2).2).2).1 == 1, (rVal (rCnt 1 (rId (rTxt 20 (rId (rNum s).2).2).2).2).2).1, (rPairs 12 (rVal (rCnt 1 (rId (rTxt 20 (rId (rNum s).2).2).2).2).2).2).1⟩, (rPairs 12 (rVal (rCnt 1 (rId (rTxt 20 (rId (rNum s).2).2).2).2).2).2).2)) := rfl
  clear O1 O2 O3 O4 O5 O6 O7 R1 R2 R3 R4 R5 R6 hb1 hb2 hb3 hb4 hb5 hb6 hbx BA P7 hz6
  generalize (rPairs 12 (rVal (rCnt 1 (rId (rTxt 20 (rId (rNum s).2).2).2).2).2).2).2 = s7 at *
  generalize (rPairs 12 (rVal (rCnt 1 (rId (rTxt 20 (rId (rNum s).2).2).2).2).2).2).1 = ps at *
  generalize (rVal (rCnt 1 (rId (rTxt 20 (rId (rNum s).2).2).2).2).2).1 = v at *
  generalize (rCnt 1 (rId (rTxt 20 (rId (rNum s).2).2).2).2).1 = c at *
  generalize (rId (rTxt 20 (rId (rNum s).2).2).2).1 = e at *
  generalize asText (rTxt 20 (rId (rNum s).2).2).1 = t at *
  generalize (rId (rNum s).2).1 = o at *
  generalize (rNum s).1 = k at *
  obtain ⟨o1, o2⟩ := o
  obtain ⟨e1, e2⟩ := e
  dsimp only
  generalize (c == 1) = b at *
  obtain ⟨a, cp, rfl⟩ := rowPr_len P8
  have c0 : w7.cell? ⟨w.heap.size, 0, none⟩ = some (.int .i64 0) := Lib.cell_of_heap hb7 0
  have c1 : w7.cell? ⟨w.heap.size, 1, none⟩ = some (.int .i64 0) := Lib.cell_of_heap hb7 1
  have c2 : w7.cell? ⟨w.heap.size, 2, none⟩ = some (.int .i64 0) := Lib.cell_of_heap hb7 2
  have c3 : w7.cell? ⟨w.heap.size, 3, none⟩ = some (.string .empty) := Lib.cell_of_heap hb7 3
  have c4 : w7.cell? ⟨w.heap.size, 4, none⟩ = some (.int .i64 0) := Lib.cell_of_heap hb7 4
  have c5 : w7.cell? ⟨w.heap.size, 5, none⟩ = some (.int .i64 0) := Lib.cell_of_heap hb7 5
  have c6 : w7.cell? ⟨w.heap.size, 6, none⟩ = some (.bool false) := Lib.cell_of_heap hb7 6
  have c7 : w7.cell? ⟨w.heap.size, 7, none⟩ = some (.int .i64 0) := Lib.cell_of_heap hb7 7
  have c8 : w7.cell? ⟨w.heap.size, 8, none⟩ = some (.int .i64 0) := Lib.cell_of_heap hb7 8
  have c9 : w7.cell? ⟨w.heap.size, 9, none⟩ = some (.string .empty) := Lib.cell_of_heap hb7 9
  have c10 : w7.cell? ⟨w.heap.size, 10, none⟩ = some (.int .i64 0) := Lib.cell_of_heap hb7 10
  have c11 : w7.cell? ⟨w.heap.size, 11, none⟩ = some (.int .i64 0) := Lib.cell_of_heap hb7 11
  have c12 : w7.cell? ⟨w.heap.size, 12, none⟩ = some (.slice none 0 0) := Lib.cell_of_heap hb7 12
  have cf := Lib.frozen_of_heap hb7
  go_wp2
  have RF := R7.sets hg [.int .i64 k, .int .i64 o1, .int .i64 o2, .string t, .int .i64 e1, .int .i64 e2, .bool b, .int .i64 v.k, .int .i64 v.n, .string v.t, .int .i64 v.o, .int .i64 v.a, .slice a ps.length cp] 0
  have OF := OO.sets (Nat.le_refl _) [.int .i64 k, .int .i64 o1, .int .i64 o2, .string t, .int .i64 e1, .int .i64 e2, .bool b, .int .i64 v.k, .int .i64 v.n, .string v.t, .int .i64 v.o, .int .i64 v.a, .slice a ps.length cp] 0
  have hF := heap_all [.int .i64 k, .int .i64 o1, .int .i64 o2, .string t, .int .i64 e1, .int .i64 e2, .bool b, .int .i64 v.k, .int .i64 v.n, .string v.t, .int .i64 v.o, .int .i64 v.a, .slice a ps.length cp] w7 _ hb7 rfl
  have OS := (Off.refl w.heap.size w7).setsAt [.int .i64 k, .int .i64 o1, .int .i64 o2, .string t, .int .i64 e1, .int .i64 e2, .bool b, .int .i64 v.k, .int .i64 v.n, .string v.t, .int .i64 v.o, .int .i64 v.a, .slice a ps.length cp] 0
  simp only [List.zipIdx_cons, List.zipIdx_nil, List.foldl_cons, List.foldl_nil, Nat.zero_add, Nat.reduceAdd] at RF OF hF OS
  have P9 := own_off P8 hb7 (by decide) OS
  clear c0 c1 c2 c3 c4 c5 c6 c7 c8 c9 c10 c11 c12 cf OS P8
  generalize ((((((((((((w7.setCell ⟨w.heap.size, 0, none⟩ (.int .i64 k)).setCell ⟨w.heap.size, 1, none⟩ (.int .i64 o1)).setCell ⟨w.heap.size, 2, none⟩ (.int .i64 o2)).setCell ⟨w.heap.size, 3, none⟩ (.string t)).setCell ⟨w.heap.size, 4, none⟩ (.int .i64 e1)).setCell ⟨w.heap.size, 5, none⟩ (.int .i64 e2)).setCell ⟨w.heap.size, 6, none⟩ (.bool b)).setCell ⟨w.heap.size, 7, none⟩ (.int .i64 v.k)).setCell ⟨w.heap.size, 8, none⟩ (.int .i64 v.n)).setCell ⟨w.heap.size, 9, none⟩ (.string v.t)).setCell ⟨w.heap.size, 10, none⟩ (.int .i64 v.o)).setCell ⟨w.heap.size, 11, none⟩ (.int .i64 v.a)).setCell ⟨w.heap.size, 12, none⟩ (.slice a ps.length cp) = W at *
  have q0 : W.cell? ⟨w.heap.size, 0, none⟩ = some (.int .i64 k) := Lib.cell_of_heap hF 0
  have q1 : W.cell? ⟨w.heap.size, 1, none⟩ = some (.int .i64 o1) := Lib.cell_of_heap hF 1
  have q2 : W.cell? ⟨w.heap.size, 2, none⟩ = some (.int .i64 o2) := Lib.cell_of_heap hF 2
  have q3 : W.cell? ⟨w.heap.size, 3, none⟩ = some (.string t) := Lib.cell_of_heap hF 3
  have q4 : W.cell? ⟨w.heap.size, 4, none⟩ = some (.int .i64 e1) := Lib.cell_of_heap hF 4
  have q5 : W.cell? ⟨w.heap.size, 5, none⟩ = some (.int .i64 e2) := Lib.cell_of_heap hF 5
  have q6 : W.cell? ⟨w.heap.size, 6, none⟩ = some (.bool b) := Lib.cell_of_heap hF 6
  have q7 : W.cell? ⟨w.heap.size, 7, none⟩ = some (.int .i64 v.k) := Lib.cell_of_heap hF 7
  have q8 : W.cell? ⟨w.heap.size, 8, none⟩ = some (.int .i64 v.n) := Lib.cell_of_heap hF 8
  have q9 : W.cell? ⟨w.heap.size, 9, none⟩ = some (.string v.t) := Lib.cell_of_heap hF 9
  have q10 : W.cell? ⟨w.heap.size, 10, none⟩ = some (.int .i64 v.o) := Lib.cell_of_heap hF 10
  have q11 : W.cell? ⟨w.heap.size, 11, none⟩ = some (.int .i64 v.a) := Lib.cell_of_heap hF 11
  have q12 : W.cell? ⟨w.heap.size, 12, none⟩ = some (.slice a ps.length cp) := Lib.cell_of_heap hF 12
  exact bodyPost_ret (v := .agg #[.int .i64 k, .int .i64 o1, .int .i64 o2, .string t, .int .i64 e1, .int .i64 e2, .bool b, .int .i64 v.k, .int .i64 v.n, .string v.t, .int .i64 v.o, .int .i64 v.a, .slice a ps.length cp]) (by simp [results, Tryz.results42, go_sem, q0, q1, q2, q3, q4, q5, q6, q7, q8, q9, q10, q11, q12]) rfl ⟨_, by rw [HV.out]; rfl, by rw [HV.out]; exact P9, by rw [HV.out]; exact RF, OF⟩

/-- Ops with where their Preds lie. -/
abbrev OV : Type := OpM × Value

/-- The cells of ops. -/
def ocells (l : List OV) : List Value := l.flatMap fun q => opCells q.1 q.2

theorem ocells_append (p q : List OV) : ocells (p ++ q) = ocells p ++ ocells q := by simp [ocells]

theorem ocells_len (p : List OV) : (ocells p).length = p.length * 13 := by
  induction p with
  | nil => rfl
  | cons q r ih =>
    unfold ocells at ih ⊢
    rw [List.flatMap_cons, List.length_append, ih]
    simp [opCells]
    omega

theorem ocells_at (p : List OV) (i : Nat) (h : i < p.length) (j : Nat) (hj : j < 13) : (ocells p)[i * 13 + j]? = (opCells p[i].1 p[i].2)[j]? := by
  induction p generalizing i with
  | nil => simp at h
  | cons q r ih =>
    have e : ocells (q :: r) = opCells q.1 q.2 ++ ocells r := by simp [ocells]
    rw [e]
    have hl : (opCells q.1 q.2).length = 13 := rfl
    cases i with
    | zero => rw [List.getElem?_append_left (by omega)]; simp
    | succ i =>
      rw [List.getElem?_append_right (by omega), hl, show (i + 1) * 13 + j - 13 = i * 13 + j from by omega]
      simpa using ih i (by simpa using h)

/-- A slice of ops that the call has made. -/
abbrev RowO (B : Nat) (v : Value) (l : List OV) (w : World) : Prop := w.ownsRow B 48 13 v l.length (ocells l)

/-- The Preds of ops, each in a row of its own. -/
def PredsAt (B : Nat) (l : List OV) (w : World) : Prop := ∀ q ∈ l, RowPr 43 B q.2 q.1.preds w

theorem rowO_grown {B : Nat} {w wr w' : World} {v v' : Value} {l m : List OV} {o : Obj} (own : RowO B v l wr) (bel : Below B w wr) (hB : B ≤ wr.heap.size) (hg : (wr.alloc o).grownBy w' v.ownBlock)
    (own' : w'.ownsRow B 48 13 v' (l.length + m.length) (ocells l ++ ocells m)) : RowO B v' (l ++ m) w' ∧ Below B w w' := by
  refine ⟨?_, (bel.alloc hB o).grown hg (by simp; omega) (fun k hk => (own.lt k hk).1)⟩
  unfold RowO
  rw [ocells_append, List.length_append]
  exact own'

theorem rowO_len {B : Nat} {v : Value} {l : List OV} {w : World} (h : RowO B v l w) : ∃ a c, v = .slice a l.length c := by
  rcases h.2 with ⟨rfl, h0⟩ | ⟨g, cap, cur, rfl, _⟩
  · exact ⟨none, 0, by rw [h0]⟩
  · exact ⟨_, _, rfl⟩

/-- A row stays as it is while one of another type grows. -/
theorem own_grown {B e s n B2 e2 s2 n2 : Nat} {wr w' : World} {v v2 : Value} {xs ys : List Value} {o : Obj} (h : wr.ownsRow B e s v n xs) (own : wr.ownsRow B2 e2 s2 v2 n2 ys) (hT : e ≠ e2) (hg : (wr.alloc o).grownBy w' v2.ownBlock) : w'.ownsRow B e s v n xs := by
  refine ⟨h.1, ?_⟩
  rcases h.2 with h0 | ⟨b, cap, cur, h1, h2, h3, h4⟩
  · exact Or.inl h0
  · exact Or.inr ⟨b, cap, cur, h1, h2, box_grown own h3 hT hg, h4⟩

theorem infoO : (Tryz.prog.info? 48).map (fun i => (i.zero, i.size, i.bytes)) = some (some (.agg #[.int .i64 0, .int .i64 0, .int .i64 0, .string .empty, .int .i64 0, .int .i64 0, .bool false, .int .i64 0, .int .i64 0, .string .empty, .int .i64 0, .int .i64 0, .slice none 0 0]), 13, 136) := by kernel_rfl

set_option maxRecDepth 100000 in
set_option maxHeartbeats 8000000 in
theorem ops_any (w0 w : World) (g : Nat) (s : St) (h : RdAt w0 w g s) :
    Calls Tryz.prog 22 #[.pointer (some ⟨g, 0, none⟩)] w fun e w' => ∃ u l, e = .returned u ∧ l.map (·.1) = (rOps s).1 ∧ RowO w.heap.size u l w' ∧ PredsAt w.heap.size l w' ∧ RdAt w0 w' g (rOps s).2 ∧ Off g w w' := by
  obtain ⟨i0, hi, hz0, hz1, hz2⟩ := info_parts infoO
  have hg := h.lt
  have hr := rCnt_range 40 (by decide) s
  have HP : Hid (rOps s = rMany rOp (rCnt 40 s).1.toNat (rCnt 40 s).2) := rfl
  go_enter Tryz.func22, Tryz.ntmps22
  go_wp2_with fail
  refine (count_any w0 w g s 40 h).mono ?_
  rintro e w1 ⟨rfl, R1, O1⟩
  generalize (rCnt 40 s).1 = n at *
  generalize (rCnt 40 s).2 = s1 at *
  obtain ⟨N, rfl⟩ : ∃ N : Nat, n = N := ⟨n.toNat, by omega⟩
  rw [Int.toNat_natCast] at HP
  go_wp2_with fail
  go_loopw [2, 5] (fun o i wr => ∃ (k : Nat) (l : List OV), k ≤ N ∧ i = .int .i64 k ∧ l.map (·.1) = (rMany rOp k s1).1 ∧ RowO w.heap.size o l wr ∧ PredsAt w.heap.size l wr ∧ RdAt w0 wr g (rMany rOp k s1).2 ∧ Off g w wr) (fun _ i _ => N - (RowKit.intOf i).toNat)
  case atStart => exact ⟨0, [], Nat.zero_le _, rfl, rfl, World.ownsRow_nil w1 w.heap.size 48 13, fun q hq => by simp at hq, R1, O1⟩
  case round =>
    clear R1 O1
    obtain ⟨k, l, hk, rfl, hl1, hh, hpr, hR, hO⟩ := hrel
    by_cases hlt : k < N
    · have g1 : (k : Int) < N := by omega
      have HL : Hid (rMany rOp (k + 1) s1 = ((rMany rOp k s1).1 ++ [(rOp (rMany rOp k s1).2).1], (rOp (rMany rOp k s1).2).2)) := rfl
      have hL : l.length ≤ 40 := by
        have := congrArg List.length hl1
        rw [List.length_map, rMany_len] at this
        omega
      generalize (rMany rOp k s1).1 = L at *
      generalize (rMany rOp k s1).2 = st at *
      go_wp2_with fail
      refine (op_any w0 wr g st hR).mono ?_
      rintro e w3 ⟨vp, rfl, P3, R3, O2⟩
      have H3 : RowO w.heap.size _ l w3 := hR.own O2 (by decide) hh
      have PP : PredsAt w.heap.size l w3 := fun q hq => hR.own O2 (by decide) (hpr q hq)
      have P4 : RowPr 43 w.heap.size vp (rOp st).1.preds w3 := own_mono P3 hO.size
      have OO := hO.trans O2
      have hz3 := OO.size
      have hl := rowO_len H3
      clear O2 hR hh hO hpr P3
      generalize (rOp st).2 = st2 at *
      generalize (rOp st).1 = o at *
      obtain ⟨ap, cp, rfl⟩ := rowPr_len P4
      unfold opVal opCells
      go_wp2_with (first | (at_builtin; refine wpList_append_own _ rfl _ _ 24 rfl w.heap.size 48 i0 (.agg #[.int .i64 0, .int .i64 0, .int .i64 0, .string .empty, .int .i64 0, .int .i64 0, .bool false, .int .i64 0, .int .i64 0, .string .empty, .int .i64 0, .int .i64 0, .slice none 0 0]) 13 136 Tryz.underlying24 hi hz0 hz1 hz2 rfl (by decide) _ _ _ rfl (H3.alloc _) ⟨w3.heap.size, 0, none⟩ 1 1 (ocells [(o, .slice ap o.preds.length cp)]) rfl rfl ?c1 ?c2 ?c3 ?c4 ?c5 ?_))
      case c1 =>
        intro j u hj
        have hb : (w3.alloc (.cells #[.int .i64 o.kind, .int .i64 o.obj.1, .int .i64 o.obj.2, .string o.key, .int .i64 o.elem.1, .int .i64 o.elem.2, .bool o.ins, .int .i64 o.val.k, .int .i64 o.val.n, .string o.val.t, .int .i64 o.val.o, .int .i64 o.val.a, .slice ap o.preds.length cp] 48)).heap[w3.heap.size]? = some (.cells (opCells o (.slice ap o.preds.length cp)).toArray 48) := (MapKept.heap_alloc w3 _).1
        have e : ocells [(o, .slice ap o.preds.length cp)] = opCells o (.slice ap o.preds.length cp) := by simp [ocells]
        rw [row_at, Lib.cell_of_heap hb, List.getElem?_toArray, ← e]
        exact hj
      case c2 =>
        intro u hu
        have e : ocells [(o, .slice ap o.preds.length cp)] = opCells o (.slice ap o.preds.length cp) := by simp [ocells]
        rw [e] at hu
        unfold opCells at hu
        simp only [List.mem_cons, List.not_mem_nil, or_false] at hu
        rcases hu with rfl | rfl | rfl | rfl | rfl | rfl | rfl | rfl | rfl | rfl | rfl | rfl | rfl <;> rfl
      case c3 => unfold maxLen; omega
      case c4 => omega
      case c5 => simp; omega
      intro v2 w4 hown hgrow _
      obtain ⟨R4, B4⟩ := rowO_grown (m := [(o, .slice ap o.preds.length cp)]) H3 (Below.refl _ w3) hz3 hgrow hown
      have PQ : PredsAt w.heap.size (l ++ [(o, .slice ap o.preds.length cp)]) w4 := by
        intro q hq
        rcases List.mem_append.1 hq with h1 | h1
        · exact own_grown (PP q h1) H3 (by decide) hgrow
        · rw [List.mem_singleton.1 h1]; exact own_grown P4 H3 (by decide) hgrow
      have RD4 := R3.below B4 hg
      have O4 := OO.more B4
      clear hown hgrow
      go_wp2
      go_roundw
      case rel => exact ⟨k + 1, l ++ [(o, .slice ap o.preds.length cp)], hlt, by go_num, by rw [HL.out, List.map_append, hl1]; rfl, R4, PQ, by rw [HL.out]; exact RD4, O4⟩
      case measure => simp [RowKit.intOf]; omega
    · obtain rfl : k = N := by omega
      have g1 : ¬ (k : Int) < k := by omega
      go_wp2
      go_ret
      exact ⟨_, rfl, l, by rw [HP.out]; exact hl1, hh, hpr, by rw [HP.out]; exact hR, hO⟩
end Go.Proofs.YtgecgemfniiciaaGreatDoor
