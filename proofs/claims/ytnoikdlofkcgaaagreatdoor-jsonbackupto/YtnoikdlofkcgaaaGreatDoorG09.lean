/-
  What is proved: the function Print of package json, called with a tree that lies in memory, answers its text, or what is wrong; and the law JsonChecks, called with any tree that lies in memory, returns true, and nothing that was there has turned. an argument that is a tree of small bulk lies in memory, and its numbers are of 64 bits.
  Conditions: as each theorem says.
-/
import Derived.Test.YtnoikdlofkcgaaaGreatDoorJWrite
import Derived.Test.YtnoikdlofkcgaaaGreatDoorG03
import Derived.Test.YtnoikdlofkcgaaaGreatDoorRows
import Derived.ProofKit
import Derived.OpenShut
import Derived.ChangeOld
import Derived.Deep.Slices
import Derived.Deep.SlicePairs
import Derived.Deep.Strs
import Derived.Lib.SmallJoins
namespace Go.Proofs.YtnoikdlofkcgaaaGreatDoor
open Go.RowKit Go.Sort

/-- An error, as Go has it. -/
def errT (e : Int) : Value := if e = 0 then .nilIface else .iface 44 (.int .i64 e)
theorem chk_zero {T : JT} (h : chkT T = 0) : formedB T = true ∧ T.size ≤ 400 := by
  unfold chkT at h
  by_cases h1 : 400 < T.size
  · rw [if_pos h1] at h; omega
  · rw [if_neg h1] at h
    by_cases h2 : formedB T = true
    · exact ⟨h2, by omega⟩
    · rw [if_neg h2] at h; omega
/-- What Print writes. -/
def prT (T : JT) : List UInt8 := if chkT T = 0 then txtT T else []

set_option maxRecDepth 100000 in
set_option maxHeartbeats 8000000 in
theorem printJ_any {v : Value} {T : JT} (w : World) (h : IsT w v T) (hr : rngT T) (ht : Tab w) :
    Calls Tryz.prog 5 #[v] w fun e w' => e = .returned (.tuple #[.string (ba (prT T)), errT (chkT T)]) ∧ Below w.heap.size w w' := by
  obtain ⟨u, rfl⟩ := h.of_val
  obtain ⟨⟨xk, xn, xt, xo, xa⟩, a1, n1, c1, a2, n2, c2, hu⟩ := h.parts
  subst hu
  have b0 := (Below.refl w.heap.size w).alloc (Nat.le_refl _) (.cells #[.int .i64 xk, .int .i64 xn, .string xt, .int .i64 xo, .int .i64 xa, .slice a1 n1 c1, .slice a2 n2 c2] 29)
  have x0 : (w.alloc (.cells #[.int .i64 xk, .int .i64 xn, .string xt, .int .i64 xo, .int .i64 xa, .slice a1 n1 c1, .slice a2 n2 c2] 29)).heap[w.heap.size]? = some (.cells #[.int .i64 xk, .int .i64 xn, .string xt, .int .i64 xo, .int .i64 xa, .slice a1 n1 c1, .slice a2 n2 c2] 29) := (MapKept.heap_alloc w _).1
  have E1 := checkT_any _ (h.stay b0)
  have EW := fun (B b : Nat) (hB : w.heap.size ≤ B) (hc : chkT T = 0) (W : World) (hb : Below w.heap.size w W) (hBW : B ≤ W.heap.size) (hh : HoldF B b [] W) => writeJ_any h ht B b hB (chk_zero hc).1 (chk_zero hc).2 hr W [] hb hBW hh (by have := (chk_zero hc).2; simp; omega)
  have HP : Hid (prT T = if chkT T = 0 then txtT T else []) := rfl
  have HX : Hid (_ = some (Obj.cells #[.int .i64 xk, .int .i64 xn, .string xt, .int .i64 xo, .int .i64 xa, .slice a1 n1 c1, .slice a2 n2 c2] 29)) := x0
  have HB : Hid (Below w.heap.size w _) := b0
  clear h hr ht x0 b0
  generalize prT T = pr at *
  unfold tval at *
  dsimp only at *
  by_cases hc : chkT T = 0
  · have HEW : Hid (∀ (B b : Nat), w.heap.size ≤ B → ∀ (W : World), Below w.heap.size w W → B ≤ W.heap.size → HoldF B b [] W → Calls Tryz.prog 12 #[.pointer (some ⟨b, 0, none⟩), .agg #[.int .i64 xk, .int .i64 xn, .string xt, .int .i64 xo, .int .i64 xa, .slice a1 n1 c1, .slice a2 n2 c2]] W fun e w' => e = .returned (.tuple #[]) ∧ HoldF B b ([] ++ txtT T) w' ∧ Fw B b W w') := fun B b hB W hb hBW hh => EW B b hB hc W hb hBW hh
    have hp : pr = txtT T := by rw [HP.out, if_pos hc]
    rw [if_pos hc] at E1
    rw [hc]
    subst hp
    clear hc EW HP
    go_enter Tryz.func5, Tryz.ntmps5
    go_wp2_with fail
    go_fit E1
    rintro e w1 ⟨rfl, b1⟩
    have HX1 : Hid (w1.heap[w.heap.size]? = some _) := (b1.block _ (lt_of_heap HX.out)).trans HX.out
    have HB1 : Hid (Below w.heap.size w w1) := HB.out.trans (b1.mono HB.out.size)
    clear b1 E1 HX HB
    have hf : HoldF w1.heap.size w1.heap.size [] (w1.alloc (.cells #[.pointer none, .slice none 0 0] 54)) := Lib.IsBuilderF.of (Lib.fresh_isBuilder 54 5 w1)
    have b2 := (Below.refl w1.heap.size w1).alloc (Nat.le_refl _) (.cells #[.pointer none, .slice none 0 0] 54)
    have hx2 := (b2.block _ (lt_of_heap HX1.out)).trans HX1.out
    have hb2 := HB1.out.trans (b2.mono HB1.out.size)
    have E2 := HEW.out w1.heap.size w1.heap.size HB1.out.size _ hb2 b2.size hf
    obtain ⟨k0, k1, k2, k3, k4, k5, k6⟩ := tboxed (u := (⟨xk, xn, xt, xo, xa⟩, .slice a1 n1 c1, .slice a2 n2 c2)) hx2
    dsimp only at k0 k1 k2 k3 k4 k5 k6
    have HB2 : Hid (Below w.heap.size w (w1.alloc (.cells #[.pointer none, .slice none 0 0] 54)) ∧ w1.heap.size ≤ (w1.alloc (.cells #[.pointer none, .slice none 0 0] 54)).heap.size ∧ w.heap.size ≤ w1.heap.size) := ⟨hb2, b2.size, HB1.out.size⟩
    clear hf b2 hx2 hb2 HEW
    go_wp2_with fail
    go_fit E2
    rintro e w3 ⟨rfl, h3, f3⟩
    have HB3 : Hid (Below w.heap.size w w3) := HB2.out.1.trans (f3.low.mono HB2.out.2.2)
    have E3 := Tryz.builderStringK w1.heap.size w1.heap.size _ w3 h3 (Nat.le_trans HB2.out.2.1 f3.low.size)
    have E3' : Calls Tryz.prog 13 #[.pointer (some ⟨w1.heap.size, 0, none⟩)] w3 fun e w' => e = .returned (.string (ba (txtT T))) ∧ Below w.heap.size w3 w' := by
      refine E3.mono ?_
      rintro e w' ⟨he, _, hb, _⟩
      exact ⟨he, hb.mono HB2.out.2.2⟩
    clear h3 f3 E2 E3 k0 k1 k2 k3 k4 k5 k6
    go_wp2_with fail
    go_fit E3'
    rintro e w4 ⟨rfl, b4⟩
    have HB4 : Hid (Below w.heap.size w w4) := HB3.out.trans b4
    clear b4 E3'
    go_wp2
    go_returns
    exact ⟨rfl, HB4.out⟩
  · have hp : pr = [] := by rw [HP.out, if_neg hc]
    subst hp
    rw [if_neg hc] at E1
    have HC : Hid (errT (chkT T) = .iface 44 (.int .i64 (chkT T))) := by show _ = _; unfold errT; rw [if_neg hc]
    rw [HC.out]
    clear hc EW HP HC
    generalize chkT T = ct at *
    go_enter Tryz.func5, Tryz.ntmps5
    go_wp2_with fail
    go_fit E1
    rintro e w1 ⟨rfl, b1⟩
    have HB1 : Hid (Below w.heap.size w w1) := HB.out.trans (b1.mono HB.out.size)
    clear b1 E1
    go_wp2
    go_returns
    exact ⟨rfl, HB1.out⟩

end Go.Proofs.YtnoikdlofkcgaaaGreatDoor

namespace Go.Proofs.YtnoikdlofkcgaaaGreatDoor
open Go.ChangeShapes Go.WideShapes Go.ChangeAt Go.RowKit Go.Deep

theorem laidOut : laidOutB Tryz.prog = true := by kernel_rfl
theorem cells3 : Tryz.prog.cellsOf 3 = 1 := by kernel_rfl
theorem cells9 : Tryz.prog.cellsOf 9 = 1 := by kernel_rfl
theorem cellsId : Tryz.prog.cellsOf 23 = 2 := by kernel_rfl
theorem cellsVal : Tryz.prog.cellsOf 25 = 5 := by kernel_rfl
theorem cellsTree : Tryz.prog.cellsOf 29 = 7 := by kernel_rfl
theorem cellsStrs : Tryz.prog.cellsOf 26 = 1 := by kernel_rfl
theorem cellsTrees : Tryz.prog.cellsOf 27 = 1 := by kernel_rfl

theorem at_cell {w : World} {a : Addr} {v : Value} (h : w.cell? a = some v) : a.spot = none ∧ a.block < w.heap.size := by
  obtain ⟨b, o, s⟩ := a
  unfold World.cell? at h
  simp only at h ⊢
  rcases Nat.lt_or_ge b w.heap.size with hb | hb
  · refine ⟨?_, hb⟩
    cases s with
    | none => rfl
    | some x =>
      split at h
      · simp at h
      · cases h
  · rw [Array.getElem?_eq_none hb] at h
    simp at h
theorem range_of {x : Int} (h : (Lit.int .i64 x).wf = true) : -9223372036854775808 ≤ x ∧ x ≤ 9223372036854775807 := by
  exact bounds_i64 h
theorem bulk_pos {H : Type} (d : DataW H) : 1 ≤ Rows.uptoBulk d := by
  cases d with
  | lit x => cases x <;> simp [Rows.uptoBulk]
  | _ => simp [Rows.uptoBulk]
theorem bulk_len {H : Type} (l : List (DataW H)) : l.length ≤ Rows.uptoBulkAll l := by
  induction l with
  | nil => simp
  | cons d r ih =>
    have := bulk_pos d
    rw [Rows.uptoBulkAll, List.length_cons]
    omega
theorem bulk_mem {H : Type} {l : List (DataW H)} {d : DataW H} (h : d ∈ l) : Rows.uptoBulk d ≤ Rows.uptoBulkAll l := by
  induction l with
  | nil => simp at h
  | cons x r ih =>
    rw [Rows.uptoBulkAll]
    rcases List.mem_cons.1 h with rfl | h
    · omega
    · have := ih h; omega

set_option maxRecDepth 100000 in
/-- Texts, opened. -/
theorem open_strs {H : Type} {enc : TypeId × Value → H} {W : World} {base : Nat} {sp : Nat → Bool} {held : Bool} {fuel : Nat} {cs : List Value} {x : DataW H × List MemPlace}
    (hf : DataW.trod enc Tryz.prog W base sp held fuel 26 cs = some x) (hz : Rows.uptoBulk x.1 ≤ 1048576) : ∃ v l, cs = [v] ∧ IsStrs W v l := by
  rcases open_slice1 Tryz.underlying26 cells9 hf with ⟨hcs, _⟩ | ⟨a, len, cap, m, n, V, D, P, hcs, _, hl, _, hm, hx, hall⟩
  · exact ⟨_, [], hcs, none, 0, rfl, ⟨Nat.le_refl _, fun _ => rfl⟩, by simp, fun h => absurd rfl h⟩
  · have hlm : len ≤ m := by rw [hm]; split <;> omega
    rw [hx] at hz
    simp only [Rows.uptoBulk] at hz
    have hz1 := bulk_len ((List.range len).map D)
    rw [List.length_map, List.length_range] at hz1
    have each : ∀ i, i < len → ∃ q : ByteArray, W.cell? (a.add i) = some (.string q) := by
      intro i hi
      obtain ⟨c0, t0⟩ := hall i (by omega)
      obtain ⟨x0, e0, _, _⟩ := DataW.trod_string Tryz.underlying9 t0
      simp at e0
      rw [e0] at c0
      exact ⟨x0, c0⟩
    obtain ⟨q, hq⟩ := choose_lt each
    refine ⟨_, (List.range len).map q, hcs, some a, cap, by simp, ⟨by simpa using hl, fun e => by cases e⟩, by simp only [List.length_map, List.length_range]; omega, fun hne => ?_⟩
    have h0 : 0 < len := by
      rcases Nat.eq_zero_or_pos len with e | e
      · subst e; simp at hne
      · exact e
    obtain ⟨hs, hb⟩ := at_cell (hq 0 h0)
    obtain ⟨b, off, s⟩ := a
    have hs' : s = none := by simpa [Addr.add] using hs
    subst hs'
    refine ⟨b, off, rfl, by simpa [Addr.add] using hb, fun i hi => ?_⟩
    have hi' : i < len := by simpa using hi
    have := hq i hi'
    rw [add_at] at this
    simpa using this

set_option maxRecDepth 100000 in
set_option maxHeartbeats 2000000 in
/-- A tree, opened. -/
theorem open_tree {H : Type} {enc : TypeId × Value → H} {W : World} {base : Nat} {sp : Nat → Bool} {held : Bool} (N : Nat) (hN : N ≤ 1048576) : ∀ {fuel : Nat} {cs : List Value} {x : DataW H × List MemPlace}, cs.length = 7 →
    DataW.trod enc Tryz.prog W base sp held fuel 29 cs = some x → Rows.uptoBulk x.1 ≤ N → ∃ u T, cs = tcells u ∧ IsT W (tval u) T ∧ rngT T := by
  induction N using Nat.strongRecOn with
  | ind N ih =>
    intro fuel cs x hlen h hz
    obtain ⟨xs, k, hk, hxy, _, hxl, hf⟩ := DataW.trod_struct Tryz.underlying29 h
    match xs, hxl, cs, hlen with
    | [y0, y1, y2], _, [v0, v1, v2, v3, v4, v5, v6], _ =>
      have g0 := hf 0 _ rfl
      have g1 := hf 1 _ rfl
      have g2 := hf 2 _ rfl
      simp [cellsVal, cellsStrs, cellsTrees] at g0 g1 g2
      have hzz : Rows.uptoBulk y1.1 + Rows.uptoBulk y2.1 + 1 ≤ N := by
        rw [hxy] at hz
        simp only [Rows.uptoBulk, List.map_cons, List.map_nil, Rows.uptoBulkAll] at hz
        omega
      obtain ⟨u0, u1, u2, u3, n5, _, _, r0, r1, r2, r3⟩ := Joins.trod_struct4 Tryz.underlying25 g0
      simp [cells3, cells9, cellsId] at r0 r1 r2 r3
      obtain ⟨z0, z1, m0, _, _, s0, s1⟩ := trod_struct2 Tryz.underlying23 r3
      simp [cells3] at s0 s1
      obtain ⟨x0, e0, _, _⟩ := DataW.trod_int Tryz.underlying3 r0
      obtain ⟨x1, e1, _, wf1⟩ := DataW.trod_int Tryz.underlying3 r1
      have hx1 : -9223372036854775808 ≤ x1 ∧ x1 ≤ 9223372036854775807 := range_of wf1
      obtain ⟨x2, e2, _, _⟩ := DataW.trod_string Tryz.underlying9 r2
      obtain ⟨x3, e3, _, _⟩ := DataW.trod_int Tryz.underlying3 s0
      obtain ⟨x4, e4, _, _⟩ := DataW.trod_int Tryz.underlying3 s1
      obtain ⟨vk, lk, e5, hks⟩ := open_strs g1 (by omega)
      simp at e0 e1 e2 e3 e4 e5
      subst e0 e1 e2 e3 e4 e5
      rcases open_slice Tryz.underlying27 g2 with ⟨hcs, _⟩ | ⟨a, len, cap, m, n, D, P, hcs, _, hl, _, hm, hx, hall⟩
      · simp at hcs
        subst hcs
        exact ⟨(⟨x0, x1, x2, x3, x4⟩, v5, .slice none 0 0), .node ⟨x0, x1, x2, x3, x4⟩ lk [], rfl, IsTG.mk _ lk [] v5 none 0 [] hks rfl ⟨Nat.le_refl _, fun _ => rfl⟩ (Nat.zero_le _) (fun h => absurd rfl h) (fun _ hi => absurd hi (Nat.not_lt_zero _)), (rngT_node _ _ _).2 ⟨hx1, fun t ht => by cases ht⟩⟩
      · simp at hcs
        subst hcs
        have hlm : len ≤ m := by rw [hm]; split <;> omega
        have hb2 : Rows.uptoBulkAll ((List.range len).map D) + 1 ≤ Rows.uptoBulk y2.1 := by
          rw [hx]
          simp only [Rows.uptoBulk]
          omega
        have hz1 := bulk_len ((List.range len).map D)
        rw [List.length_map, List.length_range] at hz1
        have each : ∀ i, i < len → ∃ q : TV × JT, (∀ j, j < 7 → W.cell? (a.add (i * 7 + j)) = (tcells q.1)[j]?) ∧ IsT W (tval q.1) q.2 ∧ rngT q.2 := by
          intro i hi
          obtain ⟨cs', h1, h2⟩ := hall i (by omega)
          rw [cellsTree] at h1
          obtain ⟨_, hlen, hcell⟩ := World.cells?_some h1
          have hd := bulk_mem (l := (List.range len).map D) (d := D i) (List.mem_map_of_mem (List.mem_range.2 hi))
          obtain ⟨u, T, rfl, hT, hG⟩ := ih (Rows.uptoBulk (D i)) (by omega) (by omega) hlen h2 (Nat.le_refl _)
          refine ⟨(u, T), fun j hj => ?_, hT, hG⟩
          have := hcell j hj
          rw [add_add] at this
          exact this
        have : Inhabited (TV × JT) := ⟨((⟨0, 0, .empty, 0, 0⟩, .nilIface, .nilIface), .node ⟨0, 0, .empty, 0, 0⟩ [] [])⟩
        obtain ⟨q, hq⟩ := choose_lt each
        refine ⟨(⟨x0, x1, x2, x3, x4⟩, v5, .slice (some a) len cap), .node ⟨x0, x1, x2, x3, x4⟩ lk ((List.range len).map fun i => (q i).2), rfl, ?_, (rngT_node _ _ _).2 ⟨hx1, fun t ht => ?_⟩⟩
        rotate_left
        · obtain ⟨i, hi, rfl⟩ := List.mem_map.1 ht
          exact (hq i (List.mem_range.1 hi)).2.2
        have e : (Value.slice (some a) len cap) = .slice (some a) ((List.range len).map fun i => (q i).2).length cap := by simp
        rw [e]
        refine IsTG.mk _ lk _ v5 (some a) cap ((List.range len).map fun i => (q i).1) hks (by simp) ⟨by simpa using hl, fun e => by cases e⟩ (by simp only [List.length_map, List.length_range]; omega) (fun hne => ?_) (fun i hi hi' => ?_)
        · have h0 : 0 < len := by
            rcases Nat.eq_zero_or_pos len with e | e
            · subst e; simp at hne
            · exact e
          obtain ⟨hs, hb⟩ := at_cell (v := .int .i64 (q 0).1.1.k) ((hq 0 h0).1 0 (by omega))
          obtain ⟨b, off, s⟩ := a
          have hs' : s = none := by simpa [Addr.add] using hs
          subst hs'
          refine ⟨b, off, rfl, by simpa [Addr.add] using hb, fun i hi j hj => ?_⟩
          have hi' : i < len := by simpa using hi
          have := (hq i hi').1 j hj
          rw [add_at, ← Nat.add_assoc] at this
          simpa using this
        · have hi2 : i < len := by simpa using hi
          simpa using (hq i hi2).2.1

theorem arr7 {α : Type} {cs : Array α} (h : cs.size = 7) : ∃ c0 c1 c2 c3 c4 c5 c6, cs = #[c0, c1, c2, c3, c4, c5, c6] := by
  obtain ⟨l⟩ := cs
  match l, h with
  | [c0, c1, c2, c3, c4, c5, c6], _ => exact ⟨c0, c1, c2, c3, c4, c5, c6, rfl⟩

set_option maxRecDepth 100000 in
theorem open_treeV {H : Type} {enc : TypeId × Value → H} {W : World} {b0 base : Nat} {sp : Nat → Bool} {held : Bool} {v : Value} {d : DataW H} {p : List MemPlace}
    (hv : Value.okWide Tryz.prog W .any b0 29 v) (h : DataW.Trod enc Tryz.prog W base sp held 29 v d p) (hz : Rows.uptoBulk d ≤ 1048576) : ∃ T, IsT W v T ∧ rngT T := by
  obtain ⟨cs, rfl, hsz⟩ := okWide_struct Tryz.underlying29 hv
  obtain ⟨c0, c1, c2, c3, c4, c5, c6, rfl⟩ := arr7 (hsz.trans cellsTree)
  obtain ⟨fuel, hf0⟩ := h
  obtain ⟨u, T, hu, hT, hG⟩ := open_tree 1048576 (Nat.le_refl _) (by simp [Value.cells]) hf0 hz
  simp [Value.cells, tcells] at hu
  obtain ⟨rfl, rfl, rfl, rfl, rfl, rfl, rfl⟩ := hu
  exact ⟨T, hT, hG⟩
end Go.Proofs.YtnoikdlofkcgaaaGreatDoor
