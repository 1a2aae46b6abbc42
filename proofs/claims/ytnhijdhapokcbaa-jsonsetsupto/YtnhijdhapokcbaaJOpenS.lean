/-
  What is proved: an argument that is a tree, or a path, of small bulk, lies in memory.
  Conditions: as each theorem says.
-/
import Derived.Test.YtnhijdhapokcbaaRows
import Derived.Test.YtnhijdhapokcbaaJSLaw
import Derived.ProofKit
import Derived.OpenShut
import Derived.ChangeOld
import Derived.Deep.Slices
import Derived.Deep.SlicePairs
import Derived.Deep.Strs
import Derived.Lib.SmallJoins
namespace Go.Proofs.Ytnhijdhapokcbaa
open Go.ChangeShapes Go.WideShapes Go.ChangeAt Go.RowKit Go.Deep

theorem laidOut : laidOutB Try.prog = true := by kernel_rfl
theorem cells3 : Try.prog.cellsOf 3 = 1 := by kernel_rfl
theorem cells9 : Try.prog.cellsOf 9 = 1 := by kernel_rfl
theorem cellsId : Try.prog.cellsOf 23 = 2 := by kernel_rfl
theorem cellsVal : Try.prog.cellsOf 25 = 5 := by kernel_rfl
theorem cellsStep : Try.prog.cellsOf 36 = 2 := by kernel_rfl
theorem cellsTree : Try.prog.cellsOf 29 = 7 := by kernel_rfl
theorem cellsStrs : Try.prog.cellsOf 26 = 1 := by kernel_rfl
theorem cellsTrees : Try.prog.cellsOf 27 = 1 := by kernel_rfl

theorem at_cell {w : World} {a : Addr} {v : Value} (h : w.cell? a = some v) : a.spot = none ∧ a.block < w.heap.size := by
  obtain ⟨b, o, s⟩ := a
  unfold World.cell? at h
  simp only at h ⊢
  rcases Nat.lt_or_ge b w.heap.size with hb | hb
  · refine ⟨?_, hb⟩
    cases s with
    | none => rfl
    | some x =>
      split at h
      · simp at h
      · cases h
  · rw [Array.getElem?_eq_none hb] at h
    simp at h
theorem bulk_pos {H : Type} (d : DataW H) : 1 ≤ Rows.uptoBulk d := by
  cases d with
  | lit x => cases x <;> simp [Rows.uptoBulk]
  | _ => simp [Rows.uptoBulk]
theorem bulk_len {H : Type} (l : List (DataW H)) : l.length ≤ Rows.uptoBulkAll l := by
  induction l with
  | nil => simp
  | cons d r ih =>
    have := bulk_pos d
    rw [Rows.uptoBulkAll, List.length_cons]
    omega
theorem bulk_mem {H : Type} {l : List (DataW H)} {d : DataW H} (h : d ∈ l) : Rows.uptoBulk d ≤ Rows.uptoBulkAll l := by
  induction l with
  | nil => simp at h
  | cons x r ih =>
    rw [Rows.uptoBulkAll]
    rcases List.mem_cons.1 h with rfl | h
    · omega
    · have := ih h; omega

set_option maxRecDepth 100000 in
/-- Texts, opened. -/
theorem open_strs {H : Type} {enc : TypeId × Value → H} {W : World} {base : Nat} {sp : Nat → Bool} {held : Bool} {fuel : Nat} {cs : List Value} {x : DataW H × List MemPlace}
    (hf : DataW.trod enc Try.prog W base sp held fuel 26 cs = some x) (hz : Rows.uptoBulk x.1 ≤ 1048576) : ∃ v l, cs = [v] ∧ IsStrs W v l := by
  rcases open_slice1 Try.underlying26 cells9 hf with ⟨hcs, _⟩ | ⟨a, len, cap, m, n, V, D, P, hcs, _, hl, _, hm, hx, hall⟩
  · exact ⟨_, [], hcs, none, 0, rfl, ⟨Nat.le_refl _, fun _ => rfl⟩, by simp, fun h => absurd rfl h⟩
  · have hlm : len ≤ m := by rw [hm]; split <;> omega
    rw [hx] at hz
    simp only [Rows.uptoBulk] at hz
    have hz1 := bulk_len ((List.range len).map D)
    rw [List.length_map, List.length_range] at hz1
    have each : ∀ i, i < len → ∃ q : ByteArray, W.cell? (a.add i) = some (.string q) := by
      intro i hi
      obtain ⟨c0, t0⟩ := hall i (by omega)
      obtain ⟨x0, e0, _, _⟩ := DataW.trod_string Try.underlying9 t0
      simp at e0
      rw [e0] at c0
      exact ⟨x0, c0⟩
    obtain ⟨q, hq⟩ := choose_lt each
    refine ⟨_, (List.range len).map q, hcs, some a, cap, by simp, ⟨by simpa using hl, fun e => by cases e⟩, by simp only [List.length_map, List.length_range]; omega, fun hne => ?_⟩
    have h0 : 0 < len := by
      rcases Nat.eq_zero_or_pos len with e | e
      · subst e; simp at hne
      · exact e
    obtain ⟨hs, hb⟩ := at_cell (hq 0 h0)
    obtain ⟨b, off, s⟩ := a
    have hs' : s = none := by simpa [Addr.add] using hs
    subst hs'
    refine ⟨b, off, rfl, by simpa [Addr.add] using hb, fun i hi => ?_⟩
    have hi' : i < len := by simpa using hi
    have := hq i hi'
    rw [add_at] at this
    simpa using this

set_option maxRecDepth 100000 in
/-- Steps, opened. -/
theorem open_steps {H : Type} {enc : TypeId × Value → H} {W : World} {base : Nat} {sp : Nat → Bool} {held : Bool} {fuel : Nat} {cs : List Value} {x : DataW H × List MemPlace}
    (hf : DataW.trod enc Try.prog W base sp held fuel 30 cs = some x) (hz : Rows.uptoBulk x.1 ≤ 1048576) : ∃ v l, cs = [v] ∧ IsSteps W v l := by
  rcases open_slice Try.underlying30 hf with ⟨hcs, _⟩ | ⟨a, len, cap, m, n, D, P, hcs, _, hl, _, hm, hx, hall⟩
  · exact ⟨_, [], hcs, none, 0, rfl, Nat.le_refl _, by simp, fun h => absurd rfl h⟩
  · have hlm : len ≤ m := by rw [hm]; split <;> omega
    rw [hx] at hz
    simp only [Rows.uptoBulk] at hz
    have hz1 := bulk_len ((List.range len).map D)
    rw [List.length_map, List.length_range] at hz1
    have each : ∀ i, i < len → ∃ q : Stp, W.cell? (a.add (i * 2)) = some (.string q.1) ∧ W.cell? (a.add (i * 2 + 1)) = some (.int .i64 q.2) := by
      intro i hi
      obtain ⟨cs', h1, h2⟩ := hall i (by omega)
      rw [cellsStep] at h1
      obtain ⟨_, hlen, hcell⟩ := World.cells?_some h1
      obtain ⟨z0, z1, mm, _, _, p0, p1⟩ := trod_struct2 Try.underlying36 h2
      match cs', hlen with
      | [c0, c1], _ =>
        simp [cells3, cells9] at p0 p1
        obtain ⟨x0, e0, _, _⟩ := DataW.trod_string Try.underlying9 p0
        obtain ⟨x1, e1, _, _⟩ := DataW.trod_int Try.underlying3 p1
        simp at e0 e1
        subst e0 e1
        have q0 := hcell 0 (by omega)
        have q1 := hcell 1 (by omega)
        rw [add_add] at q0 q1
        exact ⟨(x0, x1), q0, q1⟩
    obtain ⟨q, hq⟩ := choose_lt each
    refine ⟨_, (List.range len).map q, hcs, some a, cap, by simp, by simpa using hl, by simp only [List.length_map, List.length_range]; omega, fun hne => ?_⟩
    have h0 : 0 < len := by
      rcases Nat.eq_zero_or_pos len with e | e
      · subst e; simp at hne
      · exact e
    obtain ⟨hs, hb⟩ := at_cell (hq 0 h0).1
    obtain ⟨b, off, s⟩ := a
    have hs' : s = none := by simpa [Addr.add] using hs
    subst hs'
    refine ⟨b, off, rfl, by simpa [Addr.add] using hb, fun i hi => ?_⟩
    have hi' : i < len := by simpa using hi
    have := hq i hi'
    rw [add_at, add_at, ← Nat.add_assoc] at this
    simpa using this

set_option maxRecDepth 100000 in
set_option maxHeartbeats 2000000 in
/-- A tree, opened. -/
theorem open_tree {H : Type} {enc : TypeId × Value → H} {W : World} {base : Nat} {sp : Nat → Bool} {held : Bool} (N : Nat) (hN : N ≤ 1048576) : ∀ {fuel : Nat} {cs : List Value} {x : DataW H × List MemPlace}, cs.length = 7 →
    DataW.trod enc Try.prog W base sp held fuel 29 cs = some x → Rows.uptoBulk x.1 ≤ N → ∃ u T, cs = tcells u ∧ IsT W (tval u) T := by
  induction N using Nat.strongRecOn with
  | ind N ih =>
    intro fuel cs x hlen h hz
    obtain ⟨xs, k, hk, hxy, _, hxl, hf⟩ := DataW.trod_struct Try.underlying29 h
    match xs, hxl, cs, hlen with
    | [y0, y1, y2], _, [v0, v1, v2, v3, v4, v5, v6], _ =>
      have g0 := hf 0 _ rfl
      have g1 := hf 1 _ rfl
      have g2 := hf 2 _ rfl
      simp [cellsVal, cellsStrs, cellsTrees] at g0 g1 g2
      have hzz : Rows.uptoBulk y1.1 + Rows.uptoBulk y2.1 + 1 ≤ N := by
        rw [hxy] at hz
        simp only [Rows.uptoBulk, List.map_cons, List.map_nil, Rows.uptoBulkAll] at hz
        omega
      obtain ⟨u0, u1, u2, u3, n5, _, _, r0, r1, r2, r3⟩ := Joins.trod_struct4 Try.underlying25 g0
      simp [cells3, cells9, cellsId] at r0 r1 r2 r3
      obtain ⟨z0, z1, m0, _, _, s0, s1⟩ := trod_struct2 Try.underlying23 r3
      simp [cells3] at s0 s1
      obtain ⟨x0, e0, _, _⟩ := DataW.trod_int Try.underlying3 r0
      obtain ⟨x1, e1, _, _⟩ := DataW.trod_int Try.underlying3 r1
      obtain ⟨x2, e2, _, _⟩ := DataW.trod_string Try.underlying9 r2
      obtain ⟨x3, e3, _, _⟩ := DataW.trod_int Try.underlying3 s0
      obtain ⟨x4, e4, _, _⟩ := DataW.trod_int Try.underlying3 s1
      obtain ⟨vk, lk, e5, hks⟩ := open_strs g1 (by omega)
      simp at e0 e1 e2 e3 e4 e5
      subst e0 e1 e2 e3 e4 e5
      rcases open_slice Try.underlying27 g2 with ⟨hcs, _⟩ | ⟨a, len, cap, m, n, D, P, hcs, _, hl, _, hm, hx, hall⟩
      · simp at hcs
        subst hcs
        exact ⟨(⟨x0, x1, x2, x3, x4⟩, v5, .slice none 0 0), .node ⟨x0, x1, x2, x3, x4⟩ lk [], rfl, IsTG.mk _ lk [] v5 none 0 [] hks rfl ⟨Nat.le_refl _, fun _ => rfl⟩ (Nat.zero_le _) (fun h => absurd rfl h) (fun _ hi => absurd hi (Nat.not_lt_zero _))⟩
      · simp at hcs
        subst hcs
        have hlm : len ≤ m := by rw [hm]; split <;> omega
        have hb2 : Rows.uptoBulkAll ((List.range len).map D) + 1 ≤ Rows.uptoBulk y2.1 := by
          rw [hx]
          simp only [Rows.uptoBulk]
          omega
        have hz1 := bulk_len ((List.range len).map D)
        rw [List.length_map, List.length_range] at hz1
        have each : ∀ i, i < len → ∃ q : TV × JT, (∀ j, j < 7 → W.cell? (a.add (i * 7 + j)) = (tcells q.1)[j]?) ∧ IsT W (tval q.1) q.2 := by
          intro i hi
          obtain ⟨cs', h1, h2⟩ := hall i (by omega)
          rw [cellsTree] at h1
          obtain ⟨_, hlen, hcell⟩ := World.cells?_some h1
          have hd := bulk_mem (l := (List.range len).map D) (d := D i) (List.mem_map_of_mem (List.mem_range.2 hi))
          obtain ⟨u, T, rfl, hT⟩ := ih (Rows.uptoBulk (D i)) (by omega) (by omega) hlen h2 (Nat.le_refl _)
          refine ⟨(u, T), fun j hj => ?_, hT⟩
          have := hcell j hj
          rw [add_add] at this
          exact this
        have : Inhabited (TV × JT) := ⟨((⟨0, 0, .empty, 0, 0⟩, .nilIface, .nilIface), zJ)⟩
        obtain ⟨q, hq⟩ := choose_lt each
        refine ⟨(⟨x0, x1, x2, x3, x4⟩, v5, .slice (some a) len cap), .node ⟨x0, x1, x2, x3, x4⟩ lk ((List.range len).map fun i => (q i).2), rfl, ?_⟩
        have e : (Value.slice (some a) len cap) = .slice (some a) ((List.range len).map fun i => (q i).2).length cap := by simp
        rw [e]
        refine IsTG.mk _ lk _ v5 (some a) cap ((List.range len).map fun i => (q i).1) hks (by simp) ⟨by simpa using hl, fun e => by cases e⟩ (by simp only [List.length_map, List.length_range]; omega) (fun hne => ?_) (fun i hi hi' => ?_)
        · have h0 : 0 < len := by
            rcases Nat.eq_zero_or_pos len with e | e
            · subst e; simp at hne
            · exact e
          obtain ⟨hs, hb⟩ := at_cell (v := .int .i64 (q 0).1.1.k) ((hq 0 h0).1 0 (by omega))
          obtain ⟨b, off, s⟩ := a
          have hs' : s = none := by simpa [Addr.add] using hs
          subst hs'
          refine ⟨b, off, rfl, by simpa [Addr.add] using hb, fun i hi j hj => ?_⟩
          have hi' : i < len := by simpa using hi
          have := (hq i hi').1 j hj
          rw [add_at, ← Nat.add_assoc] at this
          simpa using this
        · have hi2 : i < len := by simpa using hi
          simpa using (hq i hi2).2

theorem arr7 {α : Type} {cs : Array α} (h : cs.size = 7) : ∃ c0 c1 c2 c3 c4 c5 c6, cs = #[c0, c1, c2, c3, c4, c5, c6] := by
  obtain ⟨l⟩ := cs
  match l, h with
  | [c0, c1, c2, c3, c4, c5, c6], _ => exact ⟨c0, c1, c2, c3, c4, c5, c6, rfl⟩

set_option maxRecDepth 100000 in
theorem open_treeV {H : Type} {enc : TypeId × Value → H} {W : World} {b0 base : Nat} {sp : Nat → Bool} {held : Bool} {v : Value} {d : DataW H} {p : List MemPlace}
    (hv : Value.okWide Try.prog W .any b0 29 v) (h : DataW.Trod enc Try.prog W base sp held 29 v d p) (hz : Rows.uptoBulk d ≤ 1048576) : ∃ T, IsT W v T := by
  obtain ⟨cs, rfl, hsz⟩ := okWide_struct Try.underlying29 hv
  obtain ⟨c0, c1, c2, c3, c4, c5, c6, rfl⟩ := arr7 (hsz.trans cellsTree)
  obtain ⟨fuel, hf0⟩ := h
  obtain ⟨u, T, hu, hT⟩ := open_tree 1048576 (Nat.le_refl _) (by simp [Value.cells]) hf0 hz
  simp [Value.cells, tcells] at hu
  obtain ⟨rfl, rfl, rfl, rfl, rfl, rfl, rfl⟩ := hu
  exact ⟨T, hT⟩
set_option maxRecDepth 100000 in
theorem open_stepsV {H : Type} {enc : TypeId × Value → H} {W : World} {b0 base : Nat} {sp : Nat → Bool} {held : Bool} {v : Value} {d : DataW H} {p : List MemPlace}
    (hv : Value.okWide Try.prog W .any b0 30 v) (h : DataW.Trod enc Try.prog W base sp held 30 v d p) (hz : Rows.uptoBulk d ≤ 1048576) : ∃ l, IsSteps W v l := by
  obtain ⟨a0, len0, cap0, rfl⟩ := okWide_slice Try.underlying30 hv
  obtain ⟨fuel, hf⟩ := h
  obtain ⟨v, l, hcs, hl⟩ := open_steps hf hz
  simp [Value.cells] at hcs
  subst hcs
  exact ⟨l, hl⟩
end Go.Proofs.Ytnhijdhapokcbaa
