/-
  What is proved: an argument that is a change, of small bulk, lies in memory. an argument that is a change, of small bulk, lies in memory. a list of changes that is handed in lies in memory, whole. a list of changes that is handed in lies in memory, whole.
  Conditions: as each theorem says.
-/
import Derived.Test.YtbjnemmghpmjjaaRows
import Derived.Test.YtbjnemmghpmjjaaCIs
import Derived.ProofKit
import Derived.OpenShut
import Derived.ChangeOld
import Derived.Deep.Slices
import Derived.Deep.SlicePairs
import Derived.Deep.Strs
import Derived.Lib.SmallJoins
import Derived.Test.YtbjnemmghpmjjaaDLaw
namespace Go.Proofs.Ytbjnemmghpmjjaa
open Go.ChangeShapes Go.WideShapes Go.ChangeAt Go.RowKit Go.Deep

theorem ownNone : ownKnob Try.prog.godebug = none := by kernel_rfl
theorem cells4 : Try.prog.cellsOf 4 = 1 := by kernel_rfl
theorem cells5 : Try.prog.cellsOf 5 = 1 := by kernel_rfl
theorem cells9 : Try.prog.cellsOf 9 = 1 := by kernel_rfl
theorem cellsRef : Try.prog.cellsOf 34 = 2 := by kernel_rfl
theorem cellsId : Try.prog.cellsOf 59 = 2 := by kernel_rfl
theorem cellsVal : Try.prog.cellsOf 61 = 5 := by kernel_rfl
theorem cellsOp : Try.prog.cellsOf 64 = 13 := by kernel_rfl
theorem cellsChg : Try.prog.cellsOf 31 = 5 := by kernel_rfl
theorem cellsIds : Try.prog.cellsOf 62 = 1 := by kernel_rfl
theorem cellsRefs : Try.prog.cellsOf 28 = 1 := by kernel_rfl
theorem cellsOps : Try.prog.cellsOf 29 = 1 := by kernel_rfl

theorem at_cell {w : World} {a : Addr} {v : Value} (h : w.cell? a = some v) : a.spot = none ∧ a.block < w.heap.size := by
  obtain ⟨b, o, s⟩ := a
  unfold World.cell? at h
  simp only at h ⊢
  rcases Nat.lt_or_ge b w.heap.size with hb | hb
  · refine ⟨?_, hb⟩
    cases s with
    | none => rfl
    | some x =>
      split at h
      · simp at h
      · cases h
  · rw [Array.getElem?_eq_none hb] at h
    simp at h

theorem add_at (b off i : Nat) : (⟨b, off, none⟩ : Addr).add i = ⟨b, off + i, none⟩ := by unfold Addr.add; split <;> simp_all

theorem i64_of {n : Int} (h : (Lit.int .i64 n).wf = true) : I64 n := by
  simp [Lit.wf, IntKind.min, IntKind.max, IntKind.bits, IntKind.signed] at h
  unfold I64
  omega

theorem bulk_pos {H : Type} (d : DataW H) : 1 ≤ Rows.uptoBulk d := by
  cases d with
  | lit x => cases x <;> simp [Rows.uptoBulk]
  | _ => simp [Rows.uptoBulk]
theorem bulk_len {H : Type} (l : List (DataW H)) : l.length ≤ Rows.uptoBulkAll l := by
  induction l with
  | nil => simp
  | cons d r ih =>
    have := bulk_pos d
    rw [Rows.uptoBulkAll, List.length_cons]
    omega
theorem bulk_mem {H : Type} {l : List (DataW H)} {d : DataW H} (h : d ∈ l) : Rows.uptoBulk d ≤ Rows.uptoBulkAll l := by
  induction l with
  | nil => simp at h
  | cons x r ih =>
    rw [Rows.uptoBulkAll]
    rcases List.mem_cons.1 h with rfl | h
    · omega
    · have := ih h; omega

set_option maxRecDepth 100000 in
/-- Pairs, opened. -/
theorem open_prs {H : Type} {enc : TypeId × Value → H} {W : World} {base : Nat} {sp : Nat → Bool} {held : Bool} {t e : TypeId} {f0 f1 : Field} {fuel : Nat} {cs : List Value} {x : DataW H × List MemPlace}
    (ht : Try.prog.underlying t = some (.slice e)) (he : Try.prog.underlying e = some (.struct #[f0, f1])) (ce : Try.prog.cellsOf e = 2) (o0 : f0.offset = 0) (o1 : f1.offset = 1) (t0 : f0.type = 3) (t1 : f1.type = 3)
    (hf : DataW.trod enc Try.prog W base sp held fuel t cs = some x) (hz : Rows.uptoBulk x.1 ≤ 1048576) : ∃ v l, cs = [v] ∧ IsPairs W v l := by
  rcases open_slice_pairs ht he ce o0 o1 (by rw [t0]; exact cells3) (by rw [t1]; exact cells3) hf with ⟨hcs, _⟩ | ⟨a, len, cap, m, n, V0, V1, D0, D1, P0, P1, hcs, _, hl, _, hm, hx, hall⟩
  · exact ⟨_, [], hcs, isPairs_nil _ _ _⟩
  · have hlm : len ≤ m := by rw [hm]; split <;> omega
    rw [hx] at hz
    simp only [Rows.uptoBulk] at hz
    have hz1 := bulk_len ((List.range len).map fun i => DataW.agg [D0 i, D1 i])
    rw [List.length_map, List.length_range] at hz1
    have each : ∀ i, i < len → ∃ q : Pr, (W.cell? (a.add (i * 2)) = some (.int .i64 q.1) ∧ W.cell? (a.add (i * 2 + 1)) = some (.int .i64 q.2)) ∧ I64 q.1 ∧ I64 q.2 := by
      intro i hi
      obtain ⟨c0, c1, g0, g1⟩ := hall i (by omega)
      rw [t0] at g0
      rw [t1] at g1
      obtain ⟨x0, e0, _, hw0⟩ := DataW.trod_int Try.underlying3 g0
      obtain ⟨x1, e1, _, hw1⟩ := DataW.trod_int Try.underlying3 g1
      simp at e0 e1
      rw [e0] at c0
      rw [e1] at c1
      exact ⟨(x0, x1), ⟨c0, c1⟩, i64_of hw0, i64_of hw1⟩
    obtain ⟨q, hq⟩ := choose_lt each
    refine ⟨_, (List.range len).map q, hcs, some a, cap, by simp, by simpa using hl, by simp only [List.length_map, List.length_range]; omega, ?_, fun hne => ?_⟩
    · intro y hy
      rw [List.mem_map] at hy
      obtain ⟨i, hi, rfl⟩ := hy
      exact (hq i (List.mem_range.1 hi)).2
    · have h0 : 0 < len := by
        rcases Nat.eq_zero_or_pos len with e | e
        · subst e; simp at hne
        · exact e
      obtain ⟨hs, hb⟩ := at_cell (hq 0 h0).1.1
      obtain ⟨b, off, s⟩ := a
      have hs' : s = none := by simpa [Addr.add] using hs
      subst hs'
      refine ⟨b, off, rfl, by simpa [Addr.add] using hb, fun i hi => ?_⟩
      have hi' : i < len := by simpa using hi
      have := (hq i hi').1
      rw [add_at, add_at, ← Nat.add_assoc] at this
      simpa using this
end Go.Proofs.Ytbjnemmghpmjjaa

namespace Go.Proofs.Ytbjnemmghpmjjaa
open Go.ChangeShapes Go.WideShapes Go.ChangeAt Go.RowKit Go.Deep

set_option maxRecDepth 100000 in
set_option maxHeartbeats 2000000 in
/-- An op, opened. -/
theorem open_op {H : Type} {enc : TypeId × Value → H} {W : World} {base : Nat} {sp : Nat → Bool} {held : Bool} {fuel : Nat} {cs : List Value} {x : DataW H × List MemPlace} (hlen : cs.length = 13)
    (h : DataW.trod enc Try.prog W base sp held fuel 64 cs = some x) (hz : Rows.uptoBulk x.1 ≤ 1048576) : ∃ q : OV, cs = opCells q.1 q.2 ∧ IsPairs W q.2 q.1.preds ∧ OpNums q.1 := by
  obtain ⟨xs, k, hk, hxy, _, hxl, hf⟩ := DataW.trod_struct Try.underlying64 h
  match xs, hxl, cs, hlen with
  | [y0, y1, y2, y3, y4, y5, y6], _, [v0, v1, v2, v3, v4, v5, v6, v7, v8, v9, v10, v11, v12], _ =>
    have g0 := hf 0 _ rfl
    have g1 := hf 1 _ rfl
    have g2 := hf 2 _ rfl
    have g3 := hf 3 _ rfl
    have g4 := hf 4 _ rfl
    have g5 := hf 5 _ rfl
    have g6 := hf 6 _ rfl
    simp [cells3, cells4, cells9, cellsId, cellsVal, cellsIds] at g0 g1 g2 g3 g4 g5 g6
    obtain ⟨x0, e0, _, w0⟩ := DataW.trod_int Try.underlying3 g0
    obtain ⟨z0, z1, m, _, _, p0, p1⟩ := trod_struct2 Try.underlying59 g1
    simp [cells3] at p0 p1
    obtain ⟨x1, e1, _, w1⟩ := DataW.trod_int Try.underlying3 p0
    obtain ⟨x2, e2, _, w2⟩ := DataW.trod_int Try.underlying3 p1
    obtain ⟨x3, e3, _, _⟩ := DataW.trod_string Try.underlying9 g2
    obtain ⟨z0', z1', m', _, _, q0, q1⟩ := trod_struct2 Try.underlying59 g3
    simp [cells3] at q0 q1
    obtain ⟨x4, e4, _, w4⟩ := DataW.trod_int Try.underlying3 q0
    obtain ⟨x5, e5, _, w5⟩ := DataW.trod_int Try.underlying3 q1
    obtain ⟨x6, e6, _⟩ := DataW.trod_bool Try.underlying4 g4
    obtain ⟨u0, u1, u2, u3, n5, _, _, r0, r1, r2, r3⟩ := Joins.trod_struct4 Try.underlying61 g5
    simp [cells3, cells9, cellsId] at r0 r1 r2 r3
    obtain ⟨z0'', z1'', m'', _, _, s0, s1⟩ := trod_struct2 Try.underlying59 r3
    simp [cells3] at s0 s1
    obtain ⟨x7, e7, _, w7⟩ := DataW.trod_int Try.underlying3 r0
    obtain ⟨x8, e8, _, w8⟩ := DataW.trod_int Try.underlying3 r1
    obtain ⟨x9, e9, _, _⟩ := DataW.trod_string Try.underlying9 r2
    obtain ⟨x10, e10, _, w10⟩ := DataW.trod_int Try.underlying3 s0
    obtain ⟨x11, e11, _, w11⟩ := DataW.trod_int Try.underlying3 s1
    have hz6 : Rows.uptoBulk y6.1 ≤ 1048576 := by
      rw [hxy] at hz
      simp only [Rows.uptoBulk, List.map_cons, List.map_nil, Rows.uptoBulkAll] at hz
      omega
    obtain ⟨vp, l, e12, hp⟩ := open_prs Try.underlying62 Try.underlying59 cellsId rfl rfl rfl rfl g6 hz6
    simp at e0 e1 e2 e3 e4 e5 e6 e7 e8 e9 e10 e11 e12
    subst e0 e1 e2 e3 e4 e5 e6 e7 e8 e9 e10 e11 e12
    exact ⟨(⟨x0, (x1, x2), x3, (x4, x5), x6, ⟨x7, x8, x9, x10, x11⟩, l⟩, v12), rfl, hp, i64_of w0, ⟨i64_of w1, i64_of w2⟩, ⟨i64_of w4, i64_of w5⟩, i64_of w7, i64_of w8, i64_of w10, i64_of w11⟩

set_option maxRecDepth 100000 in
set_option maxHeartbeats 2000000 in
/-- Ops, opened. -/
theorem open_ops {H : Type} {enc : TypeId × Value → H} {W : World} {base : Nat} {sp : Nat → Bool} {held : Bool} {fuel : Nat} {cs : List Value} {x : DataW H × List MemPlace}
    (hf : DataW.trod enc Try.prog W base sp held fuel 29 cs = some x) (hz : Rows.uptoBulk x.1 ≤ 1048576) : ∃ v l, cs = [v] ∧ IsOps W v l := by
  rcases open_slice Try.underlying29 hf with ⟨hcs, _⟩ | ⟨a, len, cap, m, n, D, P, hcs, _, hl, _, hm, hx, hall⟩
  · exact ⟨_, [], hcs, none, 0, rfl, by simp, by simp, by simp, fun h => absurd rfl h⟩
  · have hlm : len ≤ m := by rw [hm]; split <;> omega
    rw [hx] at hz
    simp only [Rows.uptoBulk] at hz
    have hz1 := bulk_len ((List.range len).map D)
    rw [List.length_map, List.length_range] at hz1
    have each : ∀ i, i < len → ∃ q : OV, (∀ j, j < 13 → W.cell? (a.add (i * 13 + j)) = (opCells q.1 q.2)[j]?) ∧ IsPairs W q.2 q.1.preds ∧ OpNums q.1 := by
      intro i hi
      obtain ⟨cs', h1, h2⟩ := hall i (by omega)
      rw [cellsOp] at h1
      obtain ⟨_, hlen, hcell⟩ := World.cells?_some h1
      have hd : Rows.uptoBulk (D i) ≤ 1048576 := by
        have := bulk_mem (l := (List.range len).map D) (d := D i) (List.mem_map_of_mem (List.mem_range.2 hi))
        omega
      obtain ⟨q, rfl, hp, hn⟩ := open_op hlen h2 hd
      refine ⟨q, fun j hj => ?_, hp, hn⟩
      have := hcell j hj
      rw [add_add] at this
      exact this
    have : Inhabited OV := ⟨(⟨0, (0, 0), .empty, (0, 0), false, ⟨0, 0, .empty, 0, 0⟩, []⟩, .nilIface)⟩
    obtain ⟨q, hq⟩ := choose_lt each
    refine ⟨_, (List.range len).map q, hcs, some a, cap, by simp, by simpa using hl, by simp only [List.length_map, List.length_range]; omega, ?_, fun hne => ?_⟩
    · intro y hy
      rw [List.mem_map] at hy
      obtain ⟨i, hi, rfl⟩ := hy
      exact (hq i (List.mem_range.1 hi)).2
    · have h0 : 0 < len := by
        rcases Nat.eq_zero_or_pos len with e | e
        · subst e; simp at hne
        · exact e
      obtain ⟨hs, hb⟩ := at_cell (v := .int .i64 (q 0).1.kind) ((hq 0 h0).1 0 (by omega))
      obtain ⟨b, off, s⟩ := a
      have hs' : s = none := by simpa [Addr.add] using hs
      subst hs'
      refine ⟨b, off, rfl, by simpa [Addr.add] using hb, fun i hi j hj => ?_⟩
      have hi' : i < len := by simpa using hi
      have := (hq i hi').1 j hj
      rw [add_at, ← Nat.add_assoc] at this
      simpa using this

theorem arr5 {α : Type} {cs : Array α} (h : cs.size = 5) : ∃ c0 c1 c2 c3 c4, cs = #[c0, c1, c2, c3, c4] := by
  obtain ⟨l⟩ := cs
  match l, h with
  | [c0, c1, c2, c3, c4], _ => exact ⟨c0, c1, c2, c3, c4, rfl⟩

set_option maxRecDepth 100000 in
set_option maxHeartbeats 2000000 in
/-- A change, opened. -/
theorem open_chg {H : Type} {enc : TypeId × Value → H} {W : World} {b0 base : Nat} {sp : Nat → Bool} {held : Bool} {v : Value} {d : DataW H} {p : List MemPlace}
    (hv : Value.okWide Try.prog W .any b0 31 v) (h : DataW.Trod enc Try.prog W base sp held 31 v d p) (hz : Rows.uptoBulk d ≤ 1048576) : ∃ c, IsChg W v c := by
  obtain ⟨cs, rfl, hsz⟩ := okWide_struct Try.underlying31 hv
  obtain ⟨c0, c1, c2, c3, c4, rfl⟩ := arr5 (hsz.trans cellsChg)
  obtain ⟨fuel, hf0⟩ := h
  obtain ⟨xs, k, hk, hxy, _, hxl, hf⟩ := DataW.trod_struct Try.underlying31 hf0
  match xs, hxl with
  | [y0, y1, y2, y3, y4], _ =>
    have g0 := hf 0 _ rfl
    have g1 := hf 1 _ rfl
    have g2 := hf 2 _ rfl
    have g3 := hf 3 _ rfl
    have g4 := hf 4 _ rfl
    simp [Value.cells, cells3, cellsRefs, cellsOps] at g0 g1 g2 g3 g4
    have hd : d = .agg [y0.1, y1.1, y2.1, y3.1, y4.1] := congrArg Prod.fst hxy
    rw [hd] at hz
    simp only [Rows.uptoBulk, Rows.uptoBulkAll] at hz
    obtain ⟨x0, e0, _, w0⟩ := DataW.trod_int Try.underlying3 g0
    obtain ⟨x1, e1, _, w1⟩ := DataW.trod_int Try.underlying3 g1
    obtain ⟨x2, e2, _, w2⟩ := DataW.trod_int Try.underlying3 g2
    obtain ⟨vd, ld, e3, hd3⟩ := open_prs Try.underlying28 Try.underlying34 cellsRef rfl rfl rfl rfl g3 (by omega)
    obtain ⟨vo, lo, e4, ho4⟩ := open_ops g4 (by omega)
    simp at e0 e1 e2 e3 e4
    subst e0 e1 e2 e3 e4
    exact ⟨⟨x0, x1, x2, ld, lo.map (·.1)⟩, c3, c4, lo, rfl, i64_of w0, i64_of w1, i64_of w2, hd3, ho4, rfl⟩

theorem u8_of {n : Int} (h : (Lit.int .u8 n).wf = true) : ∃ c : UInt8, n = c.toNat := by
  simp [Lit.wf, IntKind.min, IntKind.max, IntKind.bits, IntKind.signed] at h
  exact ⟨UInt8.ofNat n.toNat, by simp; omega⟩

set_option maxRecDepth 100000 in
/-- Bytes, opened. -/
theorem open_bytesU {H : Type} {enc : TypeId × Value → H} {W : World} {b0 base : Nat} {sp : Nat → Bool} {held : Bool} {v : Value} {d : DataW H} {p : List MemPlace}
    (hv : Value.okWide Try.prog W .any b0 78 v) (h : DataW.Trod enc Try.prog W base sp held 78 v d p) (hz : Rows.uptoBulk d ≤ 1048576) :
    ∃ l, IsBytes W v l ∧ l.length ≤ 140737488355328 ∧ (v = .slice none 0 0 ∨ ∃ ad n c, v = .slice (some ad) n c) := by
  obtain ⟨a0, len0, cap0, rfl⟩ := okWide_slice Try.underlying78 hv
  obtain ⟨fuel, hf⟩ := h
  rcases open_slice1 Try.underlying78 cells5 hf with ⟨hcs, _⟩ | ⟨a, len, cap, m, n, V, D, P, hcs, _, hl, _, hm, hx, hall⟩
  · simp [Value.cells] at hcs
    obtain ⟨rfl, rfl, rfl⟩ := hcs
    exact ⟨[], ⟨none, 0, rfl, by simp, by simp, fun h => absurd rfl h⟩, by simp, Or.inl rfl⟩
  · simp [Value.cells] at hcs
    obtain ⟨rfl, rfl, rfl⟩ := hcs
    have hlm : len0 ≤ m := by rw [hm]; split <;> omega
    have hd : d = .slice ((List.range len0).map D) ((List.range (m - len0)).map fun j => D (len0 + j)) := congrArg Prod.fst hx
    rw [hd] at hz
    simp only [Rows.uptoBulk] at hz
    have hz1 := bulk_len ((List.range len0).map D)
    rw [List.length_map, List.length_range] at hz1
    have each : ∀ i, i < len0 → ∃ q : UInt8, W.cell? (a.add i) = some (.int .u8 q.toNat) := by
      intro i hi
      obtain ⟨c0, t0⟩ := hall i (by omega)
      obtain ⟨x0, e0, _, hw⟩ := DataW.trod_int Try.underlying5 t0
      obtain ⟨c, rfl⟩ := u8_of hw
      simp at e0
      rw [e0] at c0
      exact ⟨c, c0⟩
    obtain ⟨q, hq⟩ := choose_lt each
    refine ⟨(List.range len0).map q, ⟨some a, cap0, by simp, by simpa using hl, by simp only [List.length_map, List.length_range]; omega, fun hne => ?_⟩, by simp only [List.length_map, List.length_range]; omega, Or.inr ⟨_, _, _, rfl⟩⟩
    have h0 : 0 < len0 := by
      rcases Nat.eq_zero_or_pos len0 with e | e
      · subst e; simp at hne
      · exact e
    obtain ⟨hs, hb⟩ := at_cell (hq 0 h0)
    obtain ⟨b, off, s⟩ := a
    have hs' : s = none := by simpa [Addr.add] using hs
    subst hs'
    refine ⟨b, off, rfl, by simpa [Addr.add] using hb, fun i hi => ?_⟩
    have hi' : i < len0 := by simpa using hi
    have := hq i hi'
    rw [add_at] at this
    simpa using this
end Go.Proofs.Ytbjnemmghpmjjaa

namespace Go.Proofs.Ytbjnemmghpmjjaa
open Go.ChangeShapes Go.WideShapes Go.ChangeAt Go.RowKit Go.Deep

/-- A slice, opened, is nil or lies somewhere. -/
theorem open_wh {H : Type} {enc : TypeId × Value → H} {W : World} {base : Nat} {sp : Nat → Bool} {held : Bool} {t e : TypeId} {fuel : Nat} {cs : List Value} {x : DataW H × List MemPlace}
    (ht : Try.prog.underlying t = some (.slice e)) (hf : DataW.trod enc Try.prog W base sp held fuel t cs = some x) : ∃ v, cs = [v] ∧ Wh v := by
  rcases open_slice ht hf with ⟨hcs, _⟩ | ⟨a, len, cap, m, n, D, P, hcs, _⟩
  · exact ⟨_, hcs, Or.inl rfl⟩
  · exact ⟨_, hcs, Or.inr ⟨_, _, _, rfl⟩⟩

set_option maxRecDepth 100000 in
set_option maxHeartbeats 2000000 in
/-- An op, opened, its list whole. -/
theorem open_opW {H : Type} {enc : TypeId × Value → H} {W : World} {base : Nat} {sp : Nat → Bool} {held : Bool} {fuel : Nat} {cs : List Value} {x : DataW H × List MemPlace} (hlen : cs.length = 13)
    (h : DataW.trod enc Try.prog W base sp held fuel 64 cs = some x) (hz : Rows.uptoBulk x.1 ≤ 1048576) : ∃ q : OV, cs = opCells q.1 q.2 ∧ Wh q.2 ∧ IsPairs W q.2 q.1.preds ∧ OpNums q.1 := by
  obtain ⟨xs, k, hk, hxy, _, hxl, hf⟩ := DataW.trod_struct Try.underlying64 h
  match xs, hxl, cs, hlen with
  | [y0, y1, y2, y3, y4, y5, y6], _, [v0, v1, v2, v3, v4, v5, v6, v7, v8, v9, v10, v11, v12], _ =>
    have g0 := hf 0 _ rfl
    have g1 := hf 1 _ rfl
    have g2 := hf 2 _ rfl
    have g3 := hf 3 _ rfl
    have g4 := hf 4 _ rfl
    have g5 := hf 5 _ rfl
    have g6 := hf 6 _ rfl
    simp [cells3, cells4, cells9, cellsId, cellsVal, cellsIds] at g0 g1 g2 g3 g4 g5 g6
    obtain ⟨x0, e0, _, w0⟩ := DataW.trod_int Try.underlying3 g0
    obtain ⟨z0, z1, m, _, _, p0, p1⟩ := trod_struct2 Try.underlying59 g1
    simp [cells3] at p0 p1
    obtain ⟨x1, e1, _, w1⟩ := DataW.trod_int Try.underlying3 p0
    obtain ⟨x2, e2, _, w2⟩ := DataW.trod_int Try.underlying3 p1
    obtain ⟨x3, e3, _, _⟩ := DataW.trod_string Try.underlying9 g2
    obtain ⟨z0', z1', m', _, _, q0, q1⟩ := trod_struct2 Try.underlying59 g3
    simp [cells3] at q0 q1
    obtain ⟨x4, e4, _, w4⟩ := DataW.trod_int Try.underlying3 q0
    obtain ⟨x5, e5, _, w5⟩ := DataW.trod_int Try.underlying3 q1
    obtain ⟨x6, e6, _⟩ := DataW.trod_bool Try.underlying4 g4
    obtain ⟨u0, u1, u2, u3, n5, _, _, r0, r1, r2, r3⟩ := Joins.trod_struct4 Try.underlying61 g5
    simp [cells3, cells9, cellsId] at r0 r1 r2 r3
    obtain ⟨z0'', z1'', m'', _, _, s0, s1⟩ := trod_struct2 Try.underlying59 r3
    simp [cells3] at s0 s1
    obtain ⟨x7, e7, _, w7⟩ := DataW.trod_int Try.underlying3 r0
    obtain ⟨x8, e8, _, w8⟩ := DataW.trod_int Try.underlying3 r1
    obtain ⟨x9, e9, _, _⟩ := DataW.trod_string Try.underlying9 r2
    obtain ⟨x10, e10, _, w10⟩ := DataW.trod_int Try.underlying3 s0
    obtain ⟨x11, e11, _, w11⟩ := DataW.trod_int Try.underlying3 s1
    have hz6 : Rows.uptoBulk y6.1 ≤ 1048576 := by
      rw [hxy] at hz
      simp only [Rows.uptoBulk, List.map_cons, List.map_nil, Rows.uptoBulkAll] at hz
      omega
    obtain ⟨vw, ew, hww⟩ := open_wh Try.underlying62 g6
    obtain ⟨vp, l, e12, hp⟩ := open_prs Try.underlying62 Try.underlying59 cellsId rfl rfl rfl rfl g6 hz6
    simp at ew
    rw [← ew] at hww
    simp at e0 e1 e2 e3 e4 e5 e6 e7 e8 e9 e10 e11 e12
    subst e0 e1 e2 e3 e4 e5 e6 e7 e8 e9 e10 e11 e12
    exact ⟨(⟨x0, (x1, x2), x3, (x4, x5), x6, ⟨x7, x8, x9, x10, x11⟩, l⟩, v12), rfl, hww, hp, i64_of w0, ⟨i64_of w1, i64_of w2⟩, ⟨i64_of w4, i64_of w5⟩, i64_of w7, i64_of w8, i64_of w10, i64_of w11⟩

set_option maxRecDepth 100000 in
set_option maxHeartbeats 2000000 in
/-- Ops, opened, their lists whole. -/
theorem open_opsW {H : Type} {enc : TypeId × Value → H} {W : World} {base : Nat} {sp : Nat → Bool} {held : Bool} {fuel : Nat} {cs : List Value} {x : DataW H × List MemPlace}
    (hf : DataW.trod enc Try.prog W base sp held fuel 29 cs = some x) (hz : Rows.uptoBulk x.1 ≤ 1048576) : ∃ v l, cs = [v] ∧ IsOps W v l ∧ Wh v ∧ ∀ q ∈ l, Wh q.2 := by
  rcases open_slice Try.underlying29 hf with ⟨hcs, _⟩ | ⟨a, len, cap, m, n, D, P, hcs, _, hl, _, hm, hx, hall⟩
  · exact ⟨_, [], hcs, ⟨none, 0, rfl, by simp, by simp, by simp, fun h => absurd rfl h⟩, Or.inl rfl, by simp⟩
  · have hlm : len ≤ m := by rw [hm]; split <;> omega
    rw [hx] at hz
    simp only [Rows.uptoBulk] at hz
    have hz1 := bulk_len ((List.range len).map D)
    rw [List.length_map, List.length_range] at hz1
    have each : ∀ i, i < len → ∃ q : OV, (∀ j, j < 13 → W.cell? (a.add (i * 13 + j)) = (opCells q.1 q.2)[j]?) ∧ Wh q.2 ∧ IsPairs W q.2 q.1.preds ∧ OpNums q.1 := by
      intro i hi
      obtain ⟨cs', h1, h2⟩ := hall i (by omega)
      rw [cellsOp] at h1
      obtain ⟨_, hlen, hcell⟩ := World.cells?_some h1
      have hd : Rows.uptoBulk (D i) ≤ 1048576 := by
        have := bulk_mem (l := (List.range len).map D) (d := D i) (List.mem_map_of_mem (List.mem_range.2 hi))
        omega
      obtain ⟨q, rfl, hw, hp, hn⟩ := open_opW hlen h2 hd
      refine ⟨q, fun j hj => ?_, hw, hp, hn⟩
      have := hcell j hj
      rw [add_add] at this
      exact this
    have : Inhabited OV := ⟨(⟨0, (0, 0), .empty, (0, 0), false, ⟨0, 0, .empty, 0, 0⟩, []⟩, .nilIface)⟩
    obtain ⟨q, hq⟩ := choose_lt each
    refine ⟨_, (List.range len).map q, hcs, ⟨some a, cap, by simp, by simpa using hl, by simp only [List.length_map, List.length_range]; omega, ?_, fun hne => ?_⟩, Or.inr ⟨_, _, _, rfl⟩, fun y hy => ?_⟩
    · intro y hy
      rw [List.mem_map] at hy
      obtain ⟨i, hi, rfl⟩ := hy
      exact (hq i (List.mem_range.1 hi)).2.2
    · have h0 : 0 < len := by
        rcases Nat.eq_zero_or_pos len with e | e
        · subst e; simp at hne
        · exact e
      obtain ⟨hs, hb⟩ := at_cell (v := .int .i64 (q 0).1.kind) ((hq 0 h0).1 0 (by omega))
      obtain ⟨b, off, s⟩ := a
      have hs' : s = none := by simpa [Addr.add] using hs
      subst hs'
      refine ⟨b, off, rfl, by simpa [Addr.add] using hb, fun i hi j hj => ?_⟩
      have hi' : i < len := by simpa using hi
      have := (hq i hi').1 j hj
      rw [add_at, ← Nat.add_assoc] at this
      simpa using this
    · obtain ⟨i, hi, rfl⟩ := List.mem_map.1 hy
      exact (hq i (List.mem_range.1 hi)).2.1
end Go.Proofs.Ytbjnemmghpmjjaa

namespace Go.Proofs.Ytbjnemmghpmjjaa
open Go.ChangeShapes Go.WideShapes Go.ChangeAt Go.RowKit Go.Deep

theorem bulk_len2 {H : Type} (l : List (DataW H)) (h : ∀ d ∈ l, 2 ≤ Rows.uptoBulk d) : 2 * l.length ≤ Rows.uptoBulkAll l := by
  induction l with
  | nil => simp
  | cons d r ih =>
    have h1 := h d (List.mem_cons_self ..)
    have h2 := ih (fun x hx => h x (List.mem_cons_of_mem _ hx))
    rw [Rows.uptoBulkAll, List.length_cons]
    omega

set_option maxRecDepth 100000 in
set_option maxHeartbeats 2000000 in
/-- A change in a list, opened. -/
theorem open_chgC {H : Type} {enc : TypeId × Value → H} {W : World} {base : Nat} {sp : Nat → Bool} {held : Bool} {fuel : Nat} {cs : List Value} {x : DataW H × List MemPlace} (hlen : cs.length = 5)
    (h : DataW.trod enc Try.prog W base sp held fuel 31 cs = some x) (hz : Rows.uptoBulk x.1 ≤ 1048576) : 2 ≤ Rows.uptoBulk x.1 ∧ ∃ q : CE, cs = vcells q.2 ∧ IsChgW W q.2 q.1 := by
  obtain ⟨xs, k, hk, hxy, _, hxl, hf⟩ := DataW.trod_struct Try.underlying31 h
  match xs, hxl, cs, hlen with
  | [y0, y1, y2, y3, y4], _, [c0, c1, c2, c3, c4], _ =>
    have g0 := hf 0 _ rfl
    have g1 := hf 1 _ rfl
    have g2 := hf 2 _ rfl
    have g3 := hf 3 _ rfl
    have g4 := hf 4 _ rfl
    simp [cells3, cellsRefs, cellsOps] at g0 g1 g2 g3 g4
    rw [hxy] at hz ⊢
    simp only [Rows.uptoBulk, List.map_cons, List.map_nil, Rows.uptoBulkAll] at hz ⊢
    refine ⟨by have := bulk_pos y0.1; omega, ?_⟩
    obtain ⟨x0, e0, _, w0⟩ := DataW.trod_int Try.underlying3 g0
    obtain ⟨x1, e1, _, w1⟩ := DataW.trod_int Try.underlying3 g1
    obtain ⟨x2, e2, _, w2⟩ := DataW.trod_int Try.underlying3 g2
    obtain ⟨vw, ew, hww⟩ := open_wh Try.underlying28 g3
    obtain ⟨vd, ld, e3, hd3⟩ := open_prs Try.underlying28 Try.underlying34 cellsRef rfl rfl rfl rfl g3 (by omega)
    obtain ⟨vo, lo, e4, ho4, hwo, hwq⟩ := open_opsW g4 (by omega)
    simp at ew
    rw [← ew] at hww
    simp at e0 e1 e2 e3 e4
    subst e0 e1 e2 e3 e4
    exact ⟨(⟨x0, x1, x2, ld, lo.map (·.1)⟩, .agg #[.int .i64 x0, .int .i64 x1, .int .i64 x2, c3, c4]), rfl, c3, c4, lo, rfl, ⟨i64_of w0, i64_of w1, i64_of w2⟩, hd3, ho4, rfl, hww, hwo, hwq⟩

set_option maxRecDepth 100000 in
set_option maxHeartbeats 2000000 in
/-- A list of changes, opened. -/
theorem open_chgs {H : Type} {enc : TypeId × Value → H} {W : World} {b0 base : Nat} {sp : Nat → Bool} {held : Bool} {v : Value} {d : DataW H} {p : List MemPlace}
    (hv : Value.okWide Try.prog W .any b0 22 v) (h : DataW.Trod enc Try.prog W base sp held 22 v d p) (hz : Rows.uptoBulk d ≤ 1048576) : ∃ l, ArgC W v l := by
  obtain ⟨a0, len0, cap0, rfl⟩ := okWide_slice Try.underlying22 hv
  obtain ⟨fuel, hf⟩ := h
  rcases open_slice Try.underlying22 hf with ⟨hcs, _⟩ | ⟨a, len, cap, m, n, D, P, hcs, _, hl, _, hm, hx, hall⟩
  · simp [Value.cells] at hcs
    obtain ⟨rfl, rfl, rfl⟩ := hcs
    exact ⟨[], ⟨none, 0, rfl, by simp, by simp, by simp, fun h => absurd rfl h⟩, by simp⟩
  · simp [Value.cells] at hcs
    obtain ⟨rfl, rfl, rfl⟩ := hcs
    have hlm : len0 ≤ m := by rw [hm]; split <;> omega
    have hd : d = .slice ((List.range len0).map D) ((List.range (m - len0)).map fun j => D (len0 + j)) := congrArg Prod.fst hx
    rw [hd] at hz
    simp only [Rows.uptoBulk] at hz
    have each : ∀ i, i < len0 → 2 ≤ Rows.uptoBulk (D i) ∧ ∃ q : CE, (∀ j, j < 5 → W.cell? (a.add (i * 5 + j)) = (vcells q.2)[j]?) ∧ IsChgW W q.2 q.1 := by
      intro i hi
      obtain ⟨cs', h1, h2⟩ := hall i (by omega)
      rw [cellsChg] at h1
      obtain ⟨_, hlen, hcell⟩ := World.cells?_some h1
      have hd : Rows.uptoBulk (D i) ≤ 1048576 := by
        have := bulk_mem (l := (List.range len0).map D) (d := D i) (List.mem_map_of_mem (List.mem_range.2 hi))
        omega
      obtain ⟨hb, q, rfl, hw⟩ := open_chgC hlen h2 hd
      refine ⟨hb, q, fun j hj => ?_, hw⟩
      have := hcell j hj
      rw [add_add] at this
      exact this
    have hz1 := bulk_len2 ((List.range len0).map D) (fun x hx => by
      obtain ⟨i, hi, rfl⟩ := List.mem_map.1 hx
      exact (each i (List.mem_range.1 hi)).1)
    rw [List.length_map, List.length_range] at hz1
    have : Inhabited CE := ⟨(chg1, val1)⟩
    obtain ⟨q, hq⟩ := choose_lt fun i hi => (each i hi).2
    refine ⟨(List.range len0).map q, ⟨some a, cap0, by simp, by simpa using hl, by simp only [List.length_map, List.length_range]; omega, fun y hy => ?_, fun hne => ?_⟩, fun y hy => ?_⟩
    · obtain ⟨z, hz2, rfl⟩ := List.mem_map.1 hy
      obtain ⟨i, hi, rfl⟩ := List.mem_map.1 hz2
      have hw := (hq i (List.mem_range.1 hi)).2.chg
      show IsChg _ _ _
      rw [(toCX_val hw).1]
      exact hw
    · have h0 : 0 < len0 := by
        rcases Nat.eq_zero_or_pos len0 with e | e
        · subst e; simp at hne
        · exact e
      obtain ⟨ca, cs, ct, da, dn, dc, oa, on, oc, hpv⟩ := (hq 0 h0).2.cv
      have h00 := (hq 0 h0).1 0 (by omega)
      rw [hpv] at h00
      obtain ⟨hs, hb⟩ := at_cell (v := .int .i64 ca) h00
      obtain ⟨b, off, s⟩ := a
      have hs' : s = none := by simpa [Addr.add] using hs
      subst hs'
      refine ⟨b, off, rfl, by simpa [Addr.add] using hb, fun i hi j hj => ?_⟩
      have hi' : i < len0 := by simpa using hi
      have := (hq i hi').1 j hj
      rw [add_at, ← Nat.add_assoc] at this
      rw [this]
      simp only [List.getElem_map, List.getElem_range]
      rw [(toCX_val (hq i hi').2.chg).2.2.2]
    · obtain ⟨i, hi, rfl⟩ := List.mem_map.1 hy
      exact (hq i (List.mem_range.1 hi)).2
end Go.Proofs.Ytbjnemmghpmjjaa
