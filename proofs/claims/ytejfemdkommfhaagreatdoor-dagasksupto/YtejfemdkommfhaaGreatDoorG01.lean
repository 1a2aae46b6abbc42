/-
  What is proved: as each theorem says.
  Conditions: as each theorem says.
-/
import Derived.Test.YtejfemdkommfhaaGreatDoorG00
import Derived.Test.YtejfemdkommfhaaGreatDoorRows
import Derived.ProofKit
import Derived.OpenShut
import Derived.ChangeOld
import Derived.Deep.Slices
import Derived.Deep.SlicePairs
import Derived.Deep.Strs
import Derived.Lib.SmallJoins
import Derived.Test.YtejfemdkommfhaaGreatDoorProg
import Derived.Deep.RegionHeld3
import Derived.Handy
import Derived.Maps.RangeWalk
import Derived.Maps.OwnOps
import Derived.Maps.Ext
import Derived.DeepKeys4
namespace Go.Proofs.YtejfemdkommfhaaGreatDoor
open Go.RowKit
def OpNums (o : OpM) : Prop := I64 o.kind ∧ (I64 o.obj.1 ∧ I64 o.obj.2) ∧ (I64 o.elem.1 ∧ I64 o.elem.2) ∧ I64 o.val.k ∧ I64 o.val.n ∧ I64 o.val.o ∧ I64 o.val.a
def IsOps (w : World) (v : Value) (l : List OV) : Prop :=
 ∃ a cap, v = .slice a l.length cap ∧ l.length ≤ cap ∧ l.length ≤ 1099511627776 ∧ (∀ q ∈ l, IsPairs w q.2 q.1.preds ∧ OpNums q.1) ∧ (l ≠ [] → ∃ b off, a = some ⟨b, off, none⟩ ∧ b < w.heap.size ∧ ∀ i (h : i < l.length) j, j < 13 → w.cell? ⟨b, off + i * 13 + j, none⟩ = (opCells l[i].1 l[i].2)[j]?)
theorem IsOps.below {w w' : World} {v : Value} {l : List OV} (h : IsOps w v l) (hb : Below w.heap.size w w') : IsOps w' v l := by
 obtain ⟨a, cap, rfl, h1, h2, hr, h3⟩ := h
 refine ⟨a, cap, rfl, h1, h2, fun q hq => ⟨(hr q hq).1.below hb, (hr q hq).2⟩, fun hl => ?_⟩
 obtain ⟨b, off, rfl, h4, h5⟩ := h3 hl
 exact ⟨b, off, rfl, Nat.lt_of_lt_of_le h4 hb.size, fun i hi j hj => by rw [hb.cell (p := ⟨b, off + i * 13 + j, none⟩) h4]; exact h5 i hi j hj⟩
def IsChg (w : World) (v : Value) (c : Chg) : Prop :=
 ∃ ud uo l, v = .agg #[.int .i64 c.actor, .int .i64 c.seq, .int .i64 c.start, ud, uo] ∧ I64 c.actor ∧ I64 c.seq ∧ I64 c.start ∧ IsPairs w ud c.deps ∧ IsOps w uo l ∧ l.map (·.1) = c.ops
theorem IsChg.below {w w' : World} {v : Value} {c : Chg} (h : IsChg w v c) (hb : Below w.heap.size w w') : IsChg w' v c := by
 obtain ⟨ud, uo, l, h1, h2, h3, h4, h5, h6, h7⟩ := h
 exact ⟨ud, uo, l, h1, h2, h3, h4, h5.below hb, h6.below hb, h7⟩
theorem RowO.ops {B : Nat} {w : World} {v : Value} {l : List OV} (h : RowO B v l w) (hl : l.length ≤ 1099511627776) (hr : ∀ q ∈ l, IsPairs w q.2 q.1.preds ∧ OpNums q.1) : IsOps w v l := by
 rcases h.2 with ⟨rfl, h0⟩ | ⟨g, cap, cur, rfl, hg, hh, hc, hm, hz, ht⟩
 ·exact ⟨none, 0, by rw [h0], by omega, hl, hr, fun h => absurd (List.length_eq_zero_iff.1 h0) h⟩
 ·refine ⟨_, cap, rfl, hc, hl, hr, fun _ => ⟨g, 0, rfl, ?_, fun i hi j hj => ?_⟩⟩
  ·rcases Nat.lt_or_ge g w.heap.size with h1 | h1
   ·exact h1
   ·rw [Array.getElem?_eq_none h1] at hh; cases hh
  ·rw [Nat.zero_add, h.cellAt (i * 13 + j) (by omega), ocells_at l i hi j hj]
end Go.Proofs.YtejfemdkommfhaaGreatDoor
namespace Go.Proofs.YtejfemdkommfhaaGreatDoor
open Go.ChangeShapes Go.WideShapes Go.ChangeAt Go.RowKit Go.Deep
theorem laidOut : laidOutB Tryz.prog = true := by kernel_rfl
theorem cells3 : Tryz.prog.cellsOf 3 = 1 := by kernel_rfl
theorem cells4 : Tryz.prog.cellsOf 4 = 1 := by kernel_rfl
theorem cells9 : Tryz.prog.cellsOf 9 = 1 := by kernel_rfl
theorem cellsRef : Tryz.prog.cellsOf 25 = 2 := by kernel_rfl
theorem cellsId : Tryz.prog.cellsOf 78 = 2 := by kernel_rfl
theorem cellsVal : Tryz.prog.cellsOf 80 = 5 := by kernel_rfl
theorem cellsOp : Tryz.prog.cellsOf 83 = 13 := by kernel_rfl
theorem cellsChg : Tryz.prog.cellsOf 34 = 5 := by kernel_rfl
theorem cellsIds : Tryz.prog.cellsOf 81 = 1 := by kernel_rfl
theorem cellsRefs : Tryz.prog.cellsOf 23 = 1 := by kernel_rfl
theorem cellsOps : Tryz.prog.cellsOf 32 = 1 := by kernel_rfl
theorem at_cell {w : World} {a : Addr} {v : Value} (h : w.cell? a = some v) : a.spot = none ∧ a.block < w.heap.size := by
 obtain ⟨b, o, s⟩ := a
 unfold World.cell? at h
 simp only at h ⊢
 rcases Nat.lt_or_ge b w.heap.size with hb | hb
 ·refine ⟨?_, hb⟩
  cases s with
  | none => rfl
  | some x =>
   split at h
   ·simp at h
   ·cases h
 ·rw [Array.getElem?_eq_none hb] at h
  simp at h
theorem add_at (b off i : Nat) : (⟨b, off, none⟩ : Addr).add i = ⟨b, off + i, none⟩ := by unfold Addr.add; split <;> simp_all
theorem i64_of {n : Int} (h : (Lit.int .i64 n).wf = true) : I64 n := by
 simp [Lit.wf, IntKind.min, IntKind.max, IntKind.bits, IntKind.signed] at h
 unfold I64
 omega
theorem bulk_pos {H : Type} (d : DataW H) : 1 ≤ Rows.uptoBulk d := by
 cases d with
 | lit x => cases x <;> simp [Rows.uptoBulk]
 | _ => simp [Rows.uptoBulk]
theorem bulk_len {H : Type} (l : List (DataW H)) : l.length ≤ Rows.uptoBulkAll l := by
 induction l with
 | nil => simp
 | cons d r ih =>
  have := bulk_pos d
  rw [Rows.uptoBulkAll, List.length_cons]
  omega
theorem bulk_mem {H : Type} {l : List (DataW H)} {d : DataW H} (h : d ∈ l) : Rows.uptoBulk d ≤ Rows.uptoBulkAll l := by
 induction l with
 | nil => simp at h
 | cons x r ih =>
  rw [Rows.uptoBulkAll]
  rcases List.mem_cons.1 h with rfl | h
  ·omega
  ·have := ih h; omega
set_option maxRecDepth 100000 in
theorem open_prs {H : Type} {enc : TypeId × Value → H} {W : World} {base : Nat} {sp : Nat → Bool} {held : Bool} {t e : TypeId} {f0 f1 : Field} {fuel : Nat} {cs : List Value} {x : DataW H × List MemPlace}
 (ht : Tryz.prog.underlying t = some (.slice e)) (he : Tryz.prog.underlying e = some (.struct #[f0, f1])) (ce : Tryz.prog.cellsOf e = 2) (o0 : f0.offset = 0) (o1 : f1.offset = 1) (t0 : f0.type = 3) (t1 : f1.type = 3)
 (hf : DataW.trod enc Tryz.prog W base sp held fuel t cs = some x) (hz : Rows.uptoBulk x.1 ≤ 1048576) : ∃ v l, cs = [v] ∧ IsPairs W v l := by
 rcases open_slice_pairs ht he ce o0 o1 (by rw [t0]; exact cells3) (by rw [t1]; exact cells3) hf with ⟨hcs, _⟩ | ⟨a, len, cap, m, n, V0, V1, D0, D1, P0, P1, hcs, _, hl, _, hm, hx, hall⟩
 ·exact ⟨_, [], hcs, isPairs_nil _ _ _⟩
 ·have hlm : len ≤ m := by rw [hm]; split <;> omega
  rw [hx] at hz
  simp only [Rows.uptoBulk] at hz
  have hz1 := bulk_len ((List.range len).map fun i => DataW.agg [D0 i, D1 i])
  rw [List.length_map, List.length_range] at hz1
  have each : ∀ i, i < len → ∃ q : Pr, (W.cell? (a.add (i * 2)) = some (.int .i64 q.1) ∧ W.cell? (a.add (i * 2 + 1)) = some (.int .i64 q.2)) ∧ I64 q.1 ∧ I64 q.2 := by
   intro i hi
   obtain ⟨c0, c1, g0, g1⟩ := hall i (by omega)
   rw [t0] at g0
   rw [t1] at g1
   obtain ⟨x0, e0, _, hw0⟩ := DataW.trod_int Tryz.underlying3 g0
   obtain ⟨x1, e1, _, hw1⟩ := DataW.trod_int Tryz.underlying3 g1
   simp at e0 e1
   rw [e0] at c0
   rw [e1] at c1
   exact ⟨(x0, x1), ⟨c0, c1⟩, i64_of hw0, i64_of hw1⟩
  obtain ⟨q, hq⟩ := choose_lt each
  refine ⟨_, (List.range len).map q, hcs, some a, cap, by simp, by simpa using hl, by simp only [List.length_map, List.length_range]; omega, ?_, fun hne => ?_⟩
  ·intro y hy
   rw [List.mem_map] at hy
   obtain ⟨i, hi, rfl⟩ := hy
   exact (hq i (List.mem_range.1 hi)).2
  ·have h0 : 0 < len := by
    rcases Nat.eq_zero_or_pos len with e | e
    ·subst e; simp at hne
    ·exact e
   obtain ⟨hs, hb⟩ := at_cell (hq 0 h0).1.1
   obtain ⟨b, off, s⟩ := a
   have hs' : s = none := by simpa [Addr.add] using hs
   subst hs'
   refine ⟨b, off, rfl, by simpa [Addr.add] using hb, fun i hi => ?_⟩
   have hi' : i < len := by simpa using hi
   have := (hq i hi').1
   rw [add_at, add_at, ← Nat.add_assoc] at this
   simpa using this
end Go.Proofs.YtejfemdkommfhaaGreatDoor
namespace Go.Proofs.YtejfemdkommfhaaGreatDoor
open Go.ChangeShapes Go.WideShapes Go.ChangeAt Go.RowKit Go.Deep
end Go.Proofs.YtejfemdkommfhaaGreatDoor
namespace Go.Proofs.YtejfemdkommfhaaGreatDoor
open Go

section
variable {P : Program} {ops : Array Oper} {Q : Exit → Act → World → Prop} {md : Region.Mode} {S : World → Prop}
abbrev aD (n : Nat) : Edge := { on := n, ground := Ground.data }
abbrev aP (n : Nat) : Edge := { on := n, ground := Ground.phase }
abbrev aC (n : Nat) : Edge := { on := n, ground := Ground.chain }
abbrev aG (n : Nat) : Edge := { on := n, ground := Ground.guard }
def nth {α : Type} : List α → Nat → Option α
  | [], _ => none
  | x :: _, 0 => some x
  | _ :: l, n + 1 => nth l n
theorem nth_eq {α : Type} : ∀ (l : List α) (i : Nat), nth l i = l[i]?
  | [], _ => by simp [nth]
  | _ :: _, 0 => by simp [nth]
  | _ :: l, n + 1 => by simp [nth, nth_eq l n]
theorem nm {α : Type} : (∀ (l : List α) (i : Nat) (a : α), l.toArray.setIfInBounds i a = (l.set i a).toArray) ∧ (∀ (x : α) (l : List α) (a : α), (x :: l).set 0 a = a :: l) ∧ (∀ (x : α) (l : List α) (i : Nat) (a : α), (x :: l).set (i + 1) a = x :: l.set i a) :=
  ⟨fun _ _ _ => List.setIfInBounds_toArray .., fun _ _ _ => rfl, fun _ _ _ _ => rfl⟩
/-- One that reads is taken first. -/
theorem tk (i : Nat) {oi : Oper} {v : Value} {fuel : Nat} {listed l' : Array Bool} {a a' : Act} {w : World} (hi : nth ops.toList i = some oi)
    (h : wpAnyH P md ops Q S fuel l' a' w) (hy : ∀ w, S w → (execOp a.eval oi).run P w = .ok (.value v) w := by intro wz hSw; (try dsimp only at hSw); go_simp; try with_reducible rfl)
    (ha : a.put oi.dst v = a' := by first | (simp only [Act.put, nm]; done) | (simp only [Act.put, nm]; rfl) | rfl) (hl : listed.setIfInBounds i true = l' := by first | (simp only [nm]; done) | (simp only [nm]; rfl) | rfl)
    (hs : Region.noSelect ops = true := by kernel_rfl) (hf : Region.free md ops listed i = true := by kernel_rfl) (hr : (Region.ready md ops listed).contains i = true := by kernel_rfl)
    (hQ : ∀ c a w, Q (.panic c) (a.put oi.dst v) w → Q (.panic c) a w := by exact fun _ _ _ h => h) (hw : Region.wanted oi (yielded ops a.tmps) = true := by rfl) (hS : S w := by assumption) : wpAnyH P md ops Q S (fuel + 1) listed a w := by
  subst ha hl
  exact wpAnyH_take (by rw [← Array.getElem?_toList, ← nth_eq]; exact hi) hs hf hr hQ (Or.inl ⟨hw, hy⟩) hS h
/-- One that its guard leaves out. -/
theorem sk (i : Nat) {oi : Oper} {fuel : Nat} {listed l' : Array Bool} {a a' : Act} {w : World} (hi : nth ops.toList i = some oi)
    (h : wpAnyH P md ops Q S fuel l' a' w)
    (ha : a.put oi.dst undef = a' := by first | (simp only [Act.put, nm]; done) | (simp only [Act.put, nm]; rfl) | rfl) (hl : listed.setIfInBounds i true = l' := by first | (simp only [nm]; done) | (simp only [nm]; rfl) | rfl)
    (hs : Region.noSelect ops = true := by kernel_rfl) (hf : Region.free md ops listed i = true := by kernel_rfl) (hr : (Region.ready md ops listed).contains i = true := by kernel_rfl)
    (hQ : ∀ c a w, Q (.panic c) (a.put oi.dst undef) w → Q (.panic c) a w := by exact fun _ _ _ h => h) (hw : Region.wanted oi (yielded ops a.tmps) = false := by rfl) (hS : S w := by assumption) : wpAnyH P md ops Q S (fuel + 1) listed a w := by
  subst ha hl
  exact wpAnyH_take (by rw [← Array.getElem?_toList, ← nth_eq]; exact hi) hs hf hr hQ (Or.inr ⟨hw, rfl⟩) hS h
theorem nm1 {α : Type} (l : List α) (i : Nat) (a : α) : l.toArray.setIfInBounds i a = (l.set i a).toArray := List.setIfInBounds_toArray ..
theorem nm2 {α : Type} (x : α) (l : List α) (a : α) : (x :: l).set 0 a = a :: l := rfl
theorem nm3 {α : Type} (x : α) (l : List α) (i : Nat) (a : α) : (x :: l).set (i + 1) a = x :: l.set i a := rfl
end
end Go.Proofs.YtejfemdkommfhaaGreatDoor
namespace Go.Proofs.YtejfemdkommfhaaGreatDoor
open Go.RowKit Go.Maps
set_option maxRecDepth 100000 in
theorem refRow : (25 : TypeId) < Tryz.prog.types.size := of_decide_eq_true (by kernel_rfl)
set_option maxRecDepth 100000 in
theorem refWide : (match Tryz.prog.underlying 25 with | some (.array _ _) | some (.struct _) => true | _ => false) = true := by rw [Tryz.underlying25]
set_option maxRecDepth 100000 in
theorem refLaw : Keyed Tryz.prog 25 := Keyed.of_law (deep_law_laid laidOut (m := 2) (by omega) refRow (by kernel_rfl) refWide)
theorem refCells : Tryz.prog.cellsOf 25 = 2 := by kernel_rfl
theorem typesN : Tryz.prog.types.size = 219 := by kernel_rfl
set_option maxRecDepth 100000 in
theorem refKey : Tryz.prog.keyType 25 = true := by kernel_rfl
abbrev refV (r : Pr) : Value := .agg #[.int .i64 r.1, .int .i64 r.2]
abbrev R64 (r : Pr) : Prop := I64 r.1 ∧ I64 r.2
def refL (r : Pr) : Lit := .string (keyBytes [.int .i64 r.1, .int .i64 r.2])
theorem wf64 {x : Int} (h : I64 x) : (Lit.int .i64 x).wf = true := by
 unfold I64 at h
 simp [Lit.wf, IntKind.min, IntKind.max, IntKind.bits, IntKind.signed]
 omega
theorem of_wf64 {x : Int} (h : (Lit.int .i64 x).wf = true) : I64 x := by
 simp [Lit.wf, IntKind.min, IntKind.max, IntKind.bits, IntKind.signed] at h
 unfold I64
 omega
theorem keyLits3 (d : Nat) {x : Int} (h : I64 x) : Tryz.prog.keyLits (d + 1) 3 [.int .i64 x] = some [.int .i64 x] := by
 unfold Program.keyLits
 rw [Tryz.underlying3]
 simp [wf64 h]
set_option maxRecDepth 100000 in
theorem keyLitsR (d : Nat) {r : Pr} (h : R64 r) : Tryz.prog.keyLits (d + 2) 25 [.int .i64 r.1, .int .i64 r.2] = some [.int .i64 r.1, .int .i64 r.2] := by
 have h1 := keyLits3 d h.1
 have h2 := keyLits3 d h.2
 unfold Program.keyLits
 rw [Tryz.underlying25]
 simp only [refCells]
 simp [cells3, h1, h2]
set_option maxRecDepth 100000 in
theorem keyOf_ref {r : Pr} (h : R64 r) : keyOf Tryz.prog 25 (refV r) = some (refL r) := by
 have f : (refV r).formed Tryz.prog 25 = true := by simp [Value.formed, Tryz.underlying25, refCells]
 obtain ⟨d, hd⟩ : ∃ d, Tryz.prog.types.size + 1 = d + 2 := ⟨219 - 1, by rw [typesN]⟩
 have e : (refV r).cells.toList = [.int .i64 r.1, .int .i64 r.2] := rfl
 unfold keyOf
 rw [Tryz.underlying25]
 simp only [refKey, f, Bool.and_self, if_true, hd, e, keyLitsR d h, Option.map_some]
 rfl
theorem refL_inj {r s : Pr} (hr : R64 r) (hs : R64 s) (h : refL r = refL s) : r = s := by
 have := refLaw.inj (keyOf_ref hr) (by rw [h]; exact keyOf_ref hs)
 simp at this
 exact Prod.ext this.1 this.2
theorem refL_key (r : Pr) : WideAt.IsKeyLit (refL r) := trivial
set_option maxRecDepth 100000 in
theorem keyLits3_inv {d : Nat} {cs : List Value} {ls : List Lit} (h : Tryz.prog.keyLits (d + 1) 3 cs = some ls) : ∃ x, cs = [.int .i64 x] ∧ I64 x := by
 unfold Program.keyLits at h
 rw [Tryz.underlying3] at h
 match cs, h with
 | [], h => simp at h
 | [v], h =>
  cases v <;> simp at h
  obtain ⟨⟨rfl, hw⟩, _⟩ := h
  exact ⟨_, rfl, of_wf64 hw⟩
 | a :: b :: c, h => simp at h
set_option maxRecDepth 100000 in
theorem keyOf_inv {v : Value} {l : Lit} (h : keyOf Tryz.prog 25 v = some l) : ∃ r : Pr, v = refV r ∧ l = refL r ∧ R64 r := by
 have h0 := h
 unfold keyOf at h
 rw [Tryz.underlying25] at h
 simp only [refKey, Bool.true_and] at h
 split at h
 ·rename_i f
  cases v <;> simp [Value.formed, Tryz.underlying25] at f
  rename_i cs
  rw [refCells] at f
  obtain ⟨d, hd⟩ : ∃ d, Tryz.prog.types.size + 1 = d + 2 := ⟨219 - 1, by rw [typesN]⟩
  rw [hd, Option.map_eq_some_iff] at h
  obtain ⟨ls, h, _⟩ := h
  obtain ⟨cl⟩ := cs
  match cl, f with
  | [a, b], _ =>
   unfold Program.keyLits at h
   rw [Tryz.underlying25] at h
   simp [refCells, cells3, Value.cells] at h
   cases ha : Tryz.prog.keyLits (d + 1) 3 [a] with
   | none => simp [ha] at h
   | some la =>
    cases hb : Tryz.prog.keyLits (d + 1) 3 [b] with
    | none => simp [ha, hb] at h
    | some lb =>
     obtain ⟨x, ex, hx⟩ := keyLits3_inv ha
     obtain ⟨y, ey, hy⟩ := keyLits3_inv hb
     simp at ex ey
     subst ex ey
     refine ⟨(x, y), rfl, ?_, hx, hy⟩
     have := keyOf_ref (r := (x, y)) ⟨hx, hy⟩
     rw [h0] at this
     exact Option.some.inj this
 ·cases h
end Go.Proofs.YtejfemdkommfhaaGreatDoor
namespace Go.Proofs.YtejfemdkommfhaaGreatDoor
open Go.RowKit Go.Maps
def rawElem (v : Value) : Option (DataW Value × List MemPlace) := some (.held v, [])
def lk (L : List (Pr × Value)) (r : Pr) : Option Value := (L.find? (fun q => q.1 == r)).map (·.2)
theorem lk_none {L : List (Pr × Value)} {r : Pr} : lk L r = none ↔ r ∉ L.map (·.1) := by
 unfold lk
 rw [Option.map_eq_none_iff, List.find?_eq_none]
 constructor
 ·intro h e
  obtain ⟨q, hq, rfl⟩ := List.mem_map.1 e
  exact h q hq (by simp)
 ·intro h q hq e
  exact h (List.mem_map.2 ⟨q, hq, by simpa using e⟩)
theorem lk_mem {L : List (Pr × Value)} {r : Pr} {v : Value} (h : lk L r = some v) : (r, v) ∈ L := by
 unfold lk at h
 obtain ⟨q, hq, rfl⟩ := Option.map_eq_some_iff.1 h
 have h1 := List.mem_of_find?_eq_some hq
 have h2 := List.find?_some hq
 simp at h2
 subst h2
 exact h1
theorem lk_append (L M : List (Pr × Value)) (r : Pr) : lk (L ++ M) r = (lk L r).or (lk M r) := by
 unfold lk
 rw [List.find?_append]
 cases L.find? (fun q => q.1 == r) <;> simp
theorem lk_filter_ne (L : List (Pr × Value)) {r s : Pr} (h : s ≠ r) : lk (L.filter fun q => q.1 != r) s = lk L s := by
 unfold lk
 rw [Maps.find_filter_keep (fun p hp => by simp at hp ⊢; rw [hp]; exact h)]
theorem lk_filter_eq (L : List (Pr × Value)) (r : Pr) : lk (L.filter fun q => q.1 != r) r = none := by
 rw [lk_none]
 intro e
 obtain ⟨q, hq, e⟩ := List.mem_map.1 e
 have := (List.mem_filter.1 hq).2
 simp at this
 exact this e
def putL (L : List (Pr × Value)) (r : Pr) (v : Value) : List (Pr × Value) := (L.filter fun q => q.1 != r) ++ [(r, v)]
theorem putL_new {L : List (Pr × Value)} {r : Pr} (h : lk L r = none) (v : Value) : putL L r v = L ++ [(r, v)] := by
 unfold putL
 rw [List.filter_eq_self.2]
 intro q hq
 have := lk_none.1 h
 simp
 exact fun e => this (List.mem_map.2 ⟨q, hq, e⟩)
theorem lk_putL (L : List (Pr × Value)) (r s : Pr) (v : Value) : lk (putL L r v) s = if s = r then some v else lk L s := by
 unfold putL
 rw [lk_append]
 split
 ·rename_i e; subst e; rw [lk_filter_eq]; simp [lk]
 ·rename_i e
  rw [lk_filter_ne L e]
  have : lk [(r, v)] s = none := by rw [lk_none]; simpa using e
  rw [this]; simp
structure MapL (w : World) (b : Nat) (L : List (Pr × Value)) : Prop where
 own : ∃ D : DataW Value, w.ownsMap Tryz.prog 25 rawElem b L.length D ∧ (∀ r, R64 r → Maps.has D (refL r) = (lk L r).isSome) ∧ (∀ r v, R64 r → lk L r = some v → ∀ z, D.atKey (refL r) z = .held v) ∧ Maps.size D = L.length
 nd : (L.map (·.1)).Nodup
 r64 : ∀ q ∈ L, R64 q.1
theorem own_tight {w : World} {b n : Nat} {D : DataW Value} (h : w.ownsMap Tryz.prog 25 rawElem b n D) : w.ownsMap Tryz.prog 25 rawElem b (Maps.size D) D := by
 obtain ⟨es, clock, hb, F, _, rfl⟩ := h
 exact ⟨es, clock, hb, F, by rw [Maps.size_eq, length_read]; exact Nat.le_refl _, rfl⟩
theorem MapL.made (w : World) : MapL (w.alloc (.map #[] 0)) w.heap.size [] :=
 ⟨⟨.map [], World.ownsMap_made w _ _ _, fun r _ => rfl, (fun r v _ h => by cases h), rfl⟩, by simp, by simp⟩
theorem MapL.lt {w : World} {b : Nat} {L : List (Pr × Value)} (h : MapL w b L) : b < w.heap.size := by
 obtain ⟨D, h1, _⟩ := h.own
 exact h1.lt
theorem MapL.grown {w w' : World} {b : Nat} {L : List (Pr × Value)} {row : Option Nat} (h : MapL w b L) (hg : w.grownBy w' row) (hb : some b ≠ row) : MapL w' b L := by
 obtain ⟨D, h1, h2⟩ := h.own
 exact ⟨⟨D, h1.kept hg hb, h2⟩, h.nd, h.r64⟩
theorem MapL.below {w w' : World} {b : Nat} {L : List (Pr × Value)} (h : MapL w b L) (hb : Below w.heap.size w w') : MapL w' b L :=
 h.grown (row := none) ⟨hb.os, hb.tape, hb.output, hb.size, fun k hk _ => hb.block k hk⟩ (by simp)
theorem MapL.look {w : World} {b : Nat} {L : List (Pr × Value)} (h : MapL w b L) {T E : TypeId} (ht : Tryz.prog.underlying T = some (.map 25 E)) {z : Value} (hz : (zeroValue E).run Tryz.prog w = .ok z w) {r : Pr} (hr : R64 r) :
 (Instr.lookup T (.map (some b)) (refV r) true).run Tryz.prog w = .ok (.tuple #[(lk L r).getD z, .bool (lk L r).isSome]) w := by
 obtain ⟨D, h1, h2, h3, h4⟩ := h.own
 obtain ⟨v, ps, hrun, hv⟩ := h1.look_ok refLaw ht hz (zd := .held z) (zp := []) rfl (keyOf_ref hr)
 rw [hrun, h2 r hr]
 have e : DataW.held v = D.atKey (refL r) (.held z) := by
  have := congrArg Prod.fst (Option.some.inj hv)
  exact this
 cases hl : lk L r with
 | none =>
  have hh : Maps.has D (refL r) = false := by rw [h2 r hr, hl]; rfl
  rw [Maps.atKey_of_not_has hh] at e
  rw [DataW.held.inj e]; rfl
 | some u =>
  rw [h3 r u hr hl] at e
  rw [DataW.held.inj e]; rfl
theorem MapL.look1 {w : World} {b : Nat} {L : List (Pr × Value)} (h : MapL w b L) {T E : TypeId} (ht : Tryz.prog.underlying T = some (.map 25 E)) {z : Value} (hz : (zeroValue E).run Tryz.prog w = .ok z w) {r : Pr} (hr : R64 r) :
 (Instr.lookup T (.map (some b)) (refV r) false).run Tryz.prog w = .ok ((lk L r).getD z) w := by
 obtain ⟨D, h1, h2, h3, h4⟩ := h.own
 obtain ⟨v, ps, hrun, hv⟩ := h1.lookup refLaw ht hz (zd := .held z) (zp := []) rfl (keyOf_ref hr)
 rw [hrun]
 have e : DataW.held v = D.atKey (refL r) (.held z) := by
  have := congrArg Prod.fst (Option.some.inj hv)
  exact this
 cases hl : lk L r with
 | none =>
  have hh : Maps.has D (refL r) = false := by rw [h2 r hr, hl]; rfl
  rw [Maps.atKey_of_not_has hh] at e
  rw [DataW.held.inj e]; rfl
 | some u =>
  rw [h3 r u hr hl] at e
  rw [DataW.held.inj e]; rfl
theorem MapL.len {w : World} {b : Nat} {L : List (Pr × Value)} (h : MapL w b L) {T E : TypeId} (ht : Tryz.prog.underlying T = some (.map 25 E)) (ty : TypeId) : (Builtin.len_ #[T] ty #[.map (some b)]).run Tryz.prog w = .ok (.int .i64 L.length) w := by
 obtain ⟨D, h1, h2, h3, h4⟩ := h.own
 rw [h1.len ht ty, h4]
theorem putL_len (L : List (Pr × Value)) (hn : (L.map (·.1)).Nodup) (r : Pr) (v : Value) : (putL L r v).length = if (lk L r).isSome then L.length else L.length + 1 := by
 cases hl : lk L r with
 | none => rw [putL_new hl]; simp
 | some u =>
  have hm := lk_mem hl
  unfold putL
  simp only [List.length_append, List.length_singleton, Option.isSome_some, if_true]
  have : (L.filter fun q => q.1 != r).length + 1 = L.length := by
   clear hl
   induction L with
   | nil => cases hm
   | cons q L ih =>
    simp only [List.map_cons, List.nodup_cons] at hn
    rcases List.mem_cons.1 hm with e | e
    ·subst e
     have : L.filter (fun q => q.1 != r) = L := List.filter_eq_self.2 (fun q hq => by simp; exact fun e => hn.1 (List.mem_map.2 ⟨q, hq, e⟩))
     simp [this]
    ·have hne : q.1 ≠ r := fun e1 => hn.1 (List.mem_map.2 ⟨_, e, e1.symm⟩)
     rw [List.filter_cons_of_pos (by simpa using hne)]
     have := ih hn.2 e
     simp only [List.length_cons]
     omega
  exact this
theorem nodup_put {L : List (Pr × Value)} (hn : (L.map (·.1)).Nodup) (r : Pr) (v : Value) : ((putL L r v).map (·.1)).Nodup := by
 unfold putL
 rw [List.map_append, List.nodup_append]
 refine ⟨List.Nodup.sublist (List.Sublist.map _ List.filter_sublist) hn, by simp, ?_⟩
 intro x hx y hy e
 simp only [List.map_cons, List.map_nil, List.mem_singleton] at hy
 subst hy e
 obtain ⟨q, hq, e⟩ := List.mem_map.1 hx
 have := (List.mem_filter.1 hq).2
 simp at this
 exact this e
theorem MapL.put {w : World} {b : Nat} {L : List (Pr × Value)} (h : MapL w b L) {T E : TypeId} (ht : Tryz.prog.underlying T = some (.map 25 E)) {r : Pr} (hr : R64 r) (hL : L.length < 1000000) (v : Value) :
 ∃ w', (Instr.mapUpdate T (.map (some b)) (refV r) v).run Tryz.prog w = .ok () w' ∧ MapL w' b (putL L r v) ∧ w.mapTurned w' b := by
 obtain ⟨D, h1, h2, h3, h4⟩ := h.own
 obtain ⟨w', hrun, hown, hturn⟩ := h1.store refLaw ht (by unfold maxLen; omega) (keyOf_ref hr) (val := v) (d := .held v) (ps := []) rfl
 have hsz : Maps.size (D.put (refL r) (.held v)) = (putL L r v).length := by
  rw [Maps.size_put (h1.tidy refLaw), h2 r hr, h4, putL_len L h.nd]
 refine ⟨w', hrun, ⟨⟨_, ?_, fun s hs => ?_, fun s u hs hl z => ?_, hsz⟩, nodup_put h.nd r v, fun q hq => ?_⟩, hturn⟩
 ·rw [← hsz]; exact own_tight hown
 ·rw [lk_putL]
  split
  ·rename_i e; subst e; rw [Maps.has_put_same h1.isMap (refL_key _)]; rfl
  ·rename_i e; rw [Maps.has_put_other (fun e1 => e (refL_inj hs hr e1)), h2 s hs]
 ·rw [lk_putL] at hl
  split at hl
  ·rename_i e; subst e
   rw [Maps.atKey_put_same h1.isMap (refL_key _)]
   rw [Option.some.inj hl]
  ·rename_i e
   rw [Maps.atKey_put_other (fun e1 => e (refL_inj hs hr e1))]
   exact h3 s u hs hl z
 ·unfold putL at hq
  rcases List.mem_append.1 hq with h5 | h5
  ·exact h.r64 q (List.mem_filter.1 h5).1
  ·rw [List.mem_singleton.1 h5]; exact hr
theorem filter_len {L : List (Pr × Value)} (hn : (L.map (·.1)).Nodup) (r : Pr) : (L.filter fun q => q.1 != r).length + (if (lk L r).isSome then 1 else 0) = L.length := by
 have h1 := putL_len L hn r (.bool true)
 unfold putL at h1
 simp only [List.length_append, List.length_singleton] at h1
 split at h1 <;> simp_all <;> omega
theorem MapL.del {w : World} {b : Nat} {L : List (Pr × Value)} (h : MapL w b L) {T E : TypeId} (ht : Tryz.prog.underlying T = some (.map 25 E)) {r : Pr} (hr : R64 r) (ty : TypeId) :
 ∃ w', (Builtin.delete_ #[T, 25] ty #[.map (some b), refV r]).run Tryz.prog w = .ok (.tuple #[]) w' ∧ MapL w' b (L.filter fun q => q.1 != r) ∧ w.mapTurned w' b := by
 obtain ⟨D, h1, h2, h3, h4⟩ := h.own
 obtain ⟨w', hrun, hown, hturn⟩ := h1.drop refLaw ht (keyOf_ref hr) ty
 have hsz : Maps.size (D.del (refL r)) = (L.filter fun q => q.1 != r).length := by
  have e1 := Maps.size_del (k := refL r) (h1.tidy refLaw)
  have e2 := filter_len h.nd r
  rw [h2 r hr, h4] at e1
  omega
 refine ⟨w', hrun, ⟨⟨_, ?_, fun s hs => ?_, fun s u hs hl z => ?_, hsz⟩, List.Nodup.sublist (List.Sublist.map _ List.filter_sublist) h.nd, fun q hq => h.r64 q (List.mem_filter.1 hq).1⟩, hturn⟩
 ·rw [← hsz]; exact own_tight hown
 ·by_cases e : s = r
  ·subst e; rw [Maps.has_del_same, lk_filter_eq]; rfl
  ·rw [Maps.has_del_other (fun e1 => e (refL_inj hs hr e1)), lk_filter_ne L e, h2 s hs]
 ·by_cases e : s = r
  ·subst e; rw [lk_filter_eq] at hl; cases hl
  ·rw [lk_filter_ne L e] at hl
   rw [Maps.atKey_del_other (fun e1 => e (refL_inj hs hr e1))]
   exact h3 s u hs hl z
end Go.Proofs.YtejfemdkommfhaaGreatDoor
