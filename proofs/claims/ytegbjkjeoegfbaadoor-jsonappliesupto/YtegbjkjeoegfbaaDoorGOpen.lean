/-
  What is proved: an argument that is a tree, or a path, of small bulk, lies in memory. the law JsonApplies, called with any tree and patches that lie in memory, returns true, and nothing that was there has turned. an argument that is a list of patches, of small bulk, lies in memory.
  Conditions: as each theorem says.
-/
import Derived.Test.YtegbjkjeoegfbaaDoorRows
import Derived.Test.YtegbjkjeoegfbaaDoorGSame
import Derived.ProofKit
import Derived.OpenShut
import Derived.ChangeOld
import Derived.Deep.Slices
import Derived.Deep.SlicePairs
import Derived.Deep.Strs
import Derived.Lib.SmallJoins
import Derived.Test.YtegbjkjeoegfbaaDoorGCopyK
import Derived.Test.YtegbjkjeoegfbaaDoorJApplyH
namespace Go.Proofs.YtegbjkjeoegfbaaDoor
open Go.ChangeShapes Go.WideShapes Go.ChangeAt Go.RowKit Go.Deep

theorem laidOut : laidOutB Tryd.prog = true := by kernel_rfl
theorem cells3 : Tryd.prog.cellsOf 3 = 1 := by kernel_rfl
theorem cells9 : Tryd.prog.cellsOf 9 = 1 := by kernel_rfl
theorem cellsId : Tryd.prog.cellsOf 23 = 2 := by kernel_rfl
theorem cellsVal : Tryd.prog.cellsOf 25 = 5 := by kernel_rfl
theorem cellsStep : Tryd.prog.cellsOf 45 = 2 := by kernel_rfl
theorem cellsTree : Tryd.prog.cellsOf 29 = 7 := by kernel_rfl
theorem cellsStrs : Tryd.prog.cellsOf 26 = 1 := by kernel_rfl
theorem cellsTrees : Tryd.prog.cellsOf 27 = 1 := by kernel_rfl

theorem at_cell {w : World} {a : Addr} {v : Value} (h : w.cell? a = some v) : a.spot = none ∧ a.block < w.heap.size := by
  obtain ⟨b, o, s⟩ := a
  unfold World.cell? at h
  simp only at h ⊢
  rcases Nat.lt_or_ge b w.heap.size with hb | hb
  · refine ⟨?_, hb⟩
    cases s with
    | none => rfl
    | some x =>
      split at h
      · simp at h
      · cases h
  · rw [Array.getElem?_eq_none hb] at h
    simp at h
theorem bulk_pos {H : Type} (d : DataW H) : 1 ≤ Rows.uptoBulk d := by
  cases d with
  | lit x => cases x <;> simp [Rows.uptoBulk]
  | _ => simp [Rows.uptoBulk]
theorem bulk_len {H : Type} (l : List (DataW H)) : l.length ≤ Rows.uptoBulkAll l := by
  induction l with
  | nil => simp
  | cons d r ih =>
    have := bulk_pos d
    rw [Rows.uptoBulkAll, List.length_cons]
    omega
theorem bulk_mem {H : Type} {l : List (DataW H)} {d : DataW H} (h : d ∈ l) : Rows.uptoBulk d ≤ Rows.uptoBulkAll l := by
  induction l with
  | nil => simp at h
  | cons x r ih =>
    rw [Rows.uptoBulkAll]
    rcases List.mem_cons.1 h with rfl | h
    · omega
    · have := ih h; omega

set_option maxRecDepth 100000 in
/-- Texts, opened. -/
theorem open_strs {H : Type} {enc : TypeId × Value → H} {W : World} {base : Nat} {sp : Nat → Bool} {held : Bool} {fuel : Nat} {cs : List Value} {x : DataW H × List MemPlace}
    (hf : DataW.trod enc Tryd.prog W base sp held fuel 26 cs = some x) (hz : Rows.uptoBulk x.1 ≤ 1048576) : ∃ v l, cs = [v] ∧ IsStrs W v l := by
  rcases open_slice1 Tryd.underlying26 cells9 hf with ⟨hcs, _⟩ | ⟨a, len, cap, m, n, V, D, P, hcs, _, hl, _, hm, hx, hall⟩
  · exact ⟨_, [], hcs, none, 0, rfl, ⟨Nat.le_refl _, fun _ => rfl⟩, by simp, fun h => absurd rfl h⟩
  · have hlm : len ≤ m := by rw [hm]; split <;> omega
    rw [hx] at hz
    simp only [Rows.uptoBulk] at hz
    have hz1 := bulk_len ((List.range len).map D)
    rw [List.length_map, List.length_range] at hz1
    have each : ∀ i, i < len → ∃ q : ByteArray, W.cell? (a.add i) = some (.string q) := by
      intro i hi
      obtain ⟨c0, t0⟩ := hall i (by omega)
      obtain ⟨x0, e0, _, _⟩ := DataW.trod_string Tryd.underlying9 t0
      simp at e0
      rw [e0] at c0
      exact ⟨x0, c0⟩
    obtain ⟨q, hq⟩ := choose_lt each
    refine ⟨_, (List.range len).map q, hcs, some a, cap, by simp, ⟨by simpa using hl, fun e => by cases e⟩, by simp only [List.length_map, List.length_range]; omega, fun hne => ?_⟩
    have h0 : 0 < len := by
      rcases Nat.eq_zero_or_pos len with e | e
      · subst e; simp at hne
      · exact e
    obtain ⟨hs, hb⟩ := at_cell (hq 0 h0)
    obtain ⟨b, off, s⟩ := a
    have hs' : s = none := by simpa [Addr.add] using hs
    subst hs'
    refine ⟨b, off, rfl, by simpa [Addr.add] using hb, fun i hi => ?_⟩
    have hi' : i < len := by simpa using hi
    have := hq i hi'
    rw [add_at] at this
    simpa using this

set_option maxRecDepth 100000 in
/-- Steps, opened. -/
theorem open_steps {H : Type} {enc : TypeId × Value → H} {W : World} {base : Nat} {sp : Nat → Bool} {held : Bool} {fuel : Nat} {cs : List Value} {x : DataW H × List MemPlace}
    (hf : DataW.trod enc Tryd.prog W base sp held fuel 41 cs = some x) (hz : Rows.uptoBulk x.1 ≤ 1048576) : ∃ v l, cs = [v] ∧ IsSteps W v l := by
  rcases open_slice Tryd.underlying41 hf with ⟨hcs, _⟩ | ⟨a, len, cap, m, n, D, P, hcs, _, hl, _, hm, hx, hall⟩
  · exact ⟨_, [], hcs, none, 0, rfl, Nat.le_refl _, by simp, fun h => absurd rfl h⟩
  · have hlm : len ≤ m := by rw [hm]; split <;> omega
    rw [hx] at hz
    simp only [Rows.uptoBulk] at hz
    have hz1 := bulk_len ((List.range len).map D)
    rw [List.length_map, List.length_range] at hz1
    have each : ∀ i, i < len → ∃ q : Stp, W.cell? (a.add (i * 2)) = some (.string q.1) ∧ W.cell? (a.add (i * 2 + 1)) = some (.int .i64 q.2) := by
      intro i hi
      obtain ⟨cs', h1, h2⟩ := hall i (by omega)
      rw [cellsStep] at h1
      obtain ⟨_, hlen, hcell⟩ := World.cells?_some h1
      obtain ⟨z0, z1, mm, _, _, p0, p1⟩ := trod_struct2 Tryd.underlying45 h2
      match cs', hlen with
      | [c0, c1], _ =>
        simp [cells3, cells9] at p0 p1
        obtain ⟨x0, e0, _, _⟩ := DataW.trod_string Tryd.underlying9 p0
        obtain ⟨x1, e1, _, _⟩ := DataW.trod_int Tryd.underlying3 p1
        simp at e0 e1
        subst e0 e1
        have q0 := hcell 0 (by omega)
        have q1 := hcell 1 (by omega)
        rw [add_add] at q0 q1
        exact ⟨(x0, x1), q0, q1⟩
    obtain ⟨q, hq⟩ := choose_lt each
    refine ⟨_, (List.range len).map q, hcs, some a, cap, by simp, by simpa using hl, by simp only [List.length_map, List.length_range]; omega, fun hne => ?_⟩
    have h0 : 0 < len := by
      rcases Nat.eq_zero_or_pos len with e | e
      · subst e; simp at hne
      · exact e
    obtain ⟨hs, hb⟩ := at_cell (hq 0 h0).1
    obtain ⟨b, off, s⟩ := a
    have hs' : s = none := by simpa [Addr.add] using hs
    subst hs'
    refine ⟨b, off, rfl, by simpa [Addr.add] using hb, fun i hi => ?_⟩
    have hi' : i < len := by simpa using hi
    have := hq i hi'
    rw [add_at, add_at, ← Nat.add_assoc] at this
    simpa using this

set_option maxRecDepth 100000 in
set_option maxHeartbeats 2000000 in
/-- A tree, opened. -/
theorem open_tree {H : Type} {enc : TypeId × Value → H} {W : World} {base : Nat} {sp : Nat → Bool} {held : Bool} (N : Nat) (hN : N ≤ 1048576) : ∀ {fuel : Nat} {cs : List Value} {x : DataW H × List MemPlace}, cs.length = 7 →
    DataW.trod enc Tryd.prog W base sp held fuel 29 cs = some x → Rows.uptoBulk x.1 ≤ N → ∃ u T, cs = tcells u ∧ IsT W (tval u) T := by
  induction N using Nat.strongRecOn with
  | ind N ih =>
    intro fuel cs x hlen h hz
    obtain ⟨xs, k, hk, hxy, _, hxl, hf⟩ := DataW.trod_struct Tryd.underlying29 h
    match xs, hxl, cs, hlen with
    | [y0, y1, y2], _, [v0, v1, v2, v3, v4, v5, v6], _ =>
      have g0 := hf 0 _ rfl
      have g1 := hf 1 _ rfl
      have g2 := hf 2 _ rfl
      simp [cellsVal, cellsStrs, cellsTrees] at g0 g1 g2
      have hzz : Rows.uptoBulk y1.1 + Rows.uptoBulk y2.1 + 1 ≤ N := by
        rw [hxy] at hz
        simp only [Rows.uptoBulk, List.map_cons, List.map_nil, Rows.uptoBulkAll] at hz
        omega
      obtain ⟨u0, u1, u2, u3, n5, _, _, r0, r1, r2, r3⟩ := Joins.trod_struct4 Tryd.underlying25 g0
      simp [cells3, cells9, cellsId] at r0 r1 r2 r3
      obtain ⟨z0, z1, m0, _, _, s0, s1⟩ := trod_struct2 Tryd.underlying23 r3
      simp [cells3] at s0 s1
      obtain ⟨x0, e0, _, _⟩ := DataW.trod_int Tryd.underlying3 r0
      obtain ⟨x1, e1, _, _⟩ := DataW.trod_int Tryd.underlying3 r1
      obtain ⟨x2, e2, _, _⟩ := DataW.trod_string Tryd.underlying9 r2
      obtain ⟨x3, e3, _, _⟩ := DataW.trod_int Tryd.underlying3 s0
      obtain ⟨x4, e4, _, _⟩ := DataW.trod_int Tryd.underlying3 s1
      obtain ⟨vk, lk, e5, hks⟩ := open_strs g1 (by omega)
      simp at e0 e1 e2 e3 e4 e5
      subst e0 e1 e2 e3 e4 e5
      rcases open_slice Tryd.underlying27 g2 with ⟨hcs, _⟩ | ⟨a, len, cap, m, n, D, P, hcs, _, hl, _, hm, hx, hall⟩
      · simp at hcs
        subst hcs
        exact ⟨(⟨x0, x1, x2, x3, x4⟩, v5, .slice none 0 0), .node ⟨x0, x1, x2, x3, x4⟩ lk [], rfl, IsTG.mk _ lk [] v5 none 0 [] hks rfl ⟨Nat.le_refl _, fun _ => rfl⟩ (Nat.zero_le _) (fun h => absurd rfl h) (fun _ hi => absurd hi (Nat.not_lt_zero _))⟩
      · simp at hcs
        subst hcs
        have hlm : len ≤ m := by rw [hm]; split <;> omega
        have hb2 : Rows.uptoBulkAll ((List.range len).map D) + 1 ≤ Rows.uptoBulk y2.1 := by
          rw [hx]
          simp only [Rows.uptoBulk]
          omega
        have hz1 := bulk_len ((List.range len).map D)
        rw [List.length_map, List.length_range] at hz1
        have each : ∀ i, i < len → ∃ q : TV × JT, (∀ j, j < 7 → W.cell? (a.add (i * 7 + j)) = (tcells q.1)[j]?) ∧ IsT W (tval q.1) q.2 := by
          intro i hi
          obtain ⟨cs', h1, h2⟩ := hall i (by omega)
          rw [cellsTree] at h1
          obtain ⟨_, hlen, hcell⟩ := World.cells?_some h1
          have hd := bulk_mem (l := (List.range len).map D) (d := D i) (List.mem_map_of_mem (List.mem_range.2 hi))
          obtain ⟨u, T, rfl, hT⟩ := ih (Rows.uptoBulk (D i)) (by omega) (by omega) hlen h2 (Nat.le_refl _)
          refine ⟨(u, T), fun j hj => ?_, hT⟩
          have := hcell j hj
          rw [add_add] at this
          exact this
        have : Inhabited (TV × JT) := ⟨((⟨0, 0, .empty, 0, 0⟩, .nilIface, .nilIface), zJ)⟩
        obtain ⟨q, hq⟩ := choose_lt each
        refine ⟨(⟨x0, x1, x2, x3, x4⟩, v5, .slice (some a) len cap), .node ⟨x0, x1, x2, x3, x4⟩ lk ((List.range len).map fun i => (q i).2), rfl, ?_⟩
        have e : (Value.slice (some a) len cap) = .slice (some a) ((List.range len).map fun i => (q i).2).length cap := by simp
        rw [e]
        refine IsTG.mk _ lk _ v5 (some a) cap ((List.range len).map fun i => (q i).1) hks (by simp) ⟨by simpa using hl, fun e => by cases e⟩ (by simp only [List.length_map, List.length_range]; omega) (fun hne => ?_) (fun i hi hi' => ?_)
        · have h0 : 0 < len := by
            rcases Nat.eq_zero_or_pos len with e | e
            · subst e; simp at hne
            · exact e
          obtain ⟨hs, hb⟩ := at_cell (v := .int .i64 (q 0).1.1.k) ((hq 0 h0).1 0 (by omega))
          obtain ⟨b, off, s⟩ := a
          have hs' : s = none := by simpa [Addr.add] using hs
          subst hs'
          refine ⟨b, off, rfl, by simpa [Addr.add] using hb, fun i hi j hj => ?_⟩
          have hi' : i < len := by simpa using hi
          have := (hq i hi').1 j hj
          rw [add_at, ← Nat.add_assoc] at this
          simpa using this
        · have hi2 : i < len := by simpa using hi
          simpa using (hq i hi2).2

theorem arr7 {α : Type} {cs : Array α} (h : cs.size = 7) : ∃ c0 c1 c2 c3 c4 c5 c6, cs = #[c0, c1, c2, c3, c4, c5, c6] := by
  obtain ⟨l⟩ := cs
  match l, h with
  | [c0, c1, c2, c3, c4, c5, c6], _ => exact ⟨c0, c1, c2, c3, c4, c5, c6, rfl⟩

set_option maxRecDepth 100000 in
theorem open_treeV {H : Type} {enc : TypeId × Value → H} {W : World} {b0 base : Nat} {sp : Nat → Bool} {held : Bool} {v : Value} {d : DataW H} {p : List MemPlace}
    (hv : Value.okWide Tryd.prog W .any b0 29 v) (h : DataW.Trod enc Tryd.prog W base sp held 29 v d p) (hz : Rows.uptoBulk d ≤ 1048576) : ∃ T, IsT W v T := by
  obtain ⟨cs, rfl, hsz⟩ := okWide_struct Tryd.underlying29 hv
  obtain ⟨c0, c1, c2, c3, c4, c5, c6, rfl⟩ := arr7 (hsz.trans cellsTree)
  obtain ⟨fuel, hf0⟩ := h
  obtain ⟨u, T, hu, hT⟩ := open_tree 1048576 (Nat.le_refl _) (by simp [Value.cells]) hf0 hz
  simp [Value.cells, tcells] at hu
  obtain ⟨rfl, rfl, rfl, rfl, rfl, rfl, rfl⟩ := hu
  exact ⟨T, hT⟩
set_option maxRecDepth 100000 in
theorem open_stepsV {H : Type} {enc : TypeId × Value → H} {W : World} {b0 base : Nat} {sp : Nat → Bool} {held : Bool} {v : Value} {d : DataW H} {p : List MemPlace}
    (hv : Value.okWide Tryd.prog W .any b0 41 v) (h : DataW.Trod enc Tryd.prog W base sp held 41 v d p) (hz : Rows.uptoBulk d ≤ 1048576) : ∃ l, IsSteps W v l := by
  obtain ⟨a0, len0, cap0, rfl⟩ := okWide_slice Tryd.underlying41 hv
  obtain ⟨fuel, hf⟩ := h
  obtain ⟨v, l, hcs, hl⟩ := open_steps hf hz
  simp [Value.cells] at hcs
  subst hcs
  exact ⟨l, hl⟩
end Go.Proofs.YtegbjkjeoegfbaaDoor

namespace Go.Proofs.YtegbjkjeoegfbaaDoor
open Go.RowKit Go.Sort

/-- Which error, and which tree, is answered. -/
def ResK (T : JT) (L : List Pch) (c : Int) (X : JT) : Prop :=
  (c = 0 ∧ chkT T = 0 ∧ DoneK T L X) ∨ (X = zJ ∧ ((chkT T ≠ 0 ∧ c = chkT T) ∨ (chkT T = 0 ∧ FailK T L c)))
theorem fail_code : ∀ (L : List Pch) (T : JT) (c : Int), FailK T L c → c ≠ 0
  | [], _, _, h => by rw [FailK] at h; exact absurd h id
  | q :: r, T, c, h => by
    rw [FailK] at h
    rcases h with h | ⟨T1, _, _, _, h⟩
    · rcases h with ⟨e, _⟩ | ⟨e, _⟩ | ⟨e, _⟩ <;> omega
    · exact fail_code r T1 c h
theorem res_one {T : JT} {L : List Pch} {c d : Int} {X Y : JT} (h : ResK T L c X) (h' : ResK T L d Y) : c = d ∧ X = Y := by
  rcases h with ⟨e, g, h⟩ | ⟨e, ⟨g, h⟩ | ⟨g, h⟩⟩ <;> rcases h' with ⟨e', g', h'⟩ | ⟨e', ⟨g', h'⟩ | ⟨g', h'⟩⟩
  · exact ⟨by omega, done_one L T X Y h h'⟩
  · exact absurd g g'
  · exact absurd h' (done_fail L T X d h)
  · exact absurd g' g
  · exact ⟨by omega, by rw [e, e']⟩
  · exact absurd g' g
  · exact absurd h (done_fail L T Y c h')
  · exact absurd g g'
  · exact ⟨fail_one L T c d h h', by rw [e, e']⟩
theorem applyH_res {w : World} {T : JT} {L : List Pch} {e : Ending} (h : ApplyH w T L e) : ∃ u X c, e = .returned (.tuple #[tval u, .int .i64 c]) ∧ IsT w (tval u) X ∧ ResK T L c X := by
  rcases h with ⟨T', u', rfl, h1, h2, h3⟩ | ⟨c, rfl, h1⟩
  · exact ⟨u', T', 0, rfl, h3, Or.inl ⟨rfl, h1, h2⟩⟩
  · exact ⟨(⟨0, 0, ⟨#[]⟩, 0, 0⟩, .slice none 0 0, .slice none 0 0), zJ, c, rfl, zJ_at w, Or.inr ⟨rfl, h1⟩⟩
theorem applyK_res {w : World} {T : JT} {L : List Pch} {e : Ending} (h : ApplyK w T L e) : ∃ u X c, e = .returned (.tuple #[tval u, errV c]) ∧ IsT w (tval u) X ∧ ResK T L c X := by
  rcases h with ⟨T', u', rfl, h1, h2, h3⟩ | ⟨c, rfl, h1⟩
  · exact ⟨u', T', 0, rfl, h3, Or.inl ⟨rfl, h1, h2⟩⟩
  · have hc : c ≠ 0 := by
      rcases h1 with ⟨g, e⟩ | ⟨_, g⟩
      · rw [e]; exact g
      · exact fail_code L T c g
    refine ⟨(⟨0, 0, ⟨#[]⟩, 0, 0⟩, .slice none 0 0, .slice none 0 0), zJ, c, ?_, zJ_at w, Or.inr ⟨rfl, h1⟩⟩
    unfold errV
    rw [if_neg hc]
    rfl

set_option maxRecDepth 100000 in
set_option maxHeartbeats 8000000 in
theorem applies_any {v p : Value} {T : JT} {L : List Pch} (w : World) (h : IsT w v T) (hp : IsPats w p L) (hE : Et w) :
    Calls Tryd.prog 3 #[v, p] w fun e w' => e = .returned (.bool true) ∧ Below w.heap.size w w' := by
  obtain ⟨u, rfl⟩ := h.of_val
  obtain ⟨⟨xk, xn, xt, xo, xa⟩, a1, a2, a3, a4, a5, a6, hu⟩ := h.parts
  subst hu
  have hpf : ∃ pa pn pc, p = .slice pa pn pc := by obtain ⟨a, c, e, _⟩ := hp; exact ⟨_, _, _, e⟩
  obtain ⟨pa, pn, pc, rfl⟩ := hpf
  have b0 := (Below.refl w.heap.size w).alloc (Nat.le_refl _) (.cells #[.int .i64 xk, .int .i64 xn, .string xt, .int .i64 xo, .int .i64 xa, .slice a1 a2 a3, .slice a4 a5 a6] 29)
  have x0 : (w.alloc (.cells #[.int .i64 xk, .int .i64 xn, .string xt, .int .i64 xo, .int .i64 xa, .slice a1 a2 a3, .slice a4 a5 a6] 29)).heap[w.heap.size]? = some (.cells #[.int .i64 xk, .int .i64 xn, .string xt, .int .i64 xo, .int .i64 xa, .slice a1 a2 a3, .slice a4 a5 a6] 29) := (MapKept.heap_alloc w _).1
  have E1 := applyH_any _ (h.stay b0) (hp.below b0)
  have HT : Hid (IsT w (tval (⟨xk, xn, xt, xo, xa⟩, .slice a1 a2 a3, .slice a4 a5 a6)) T ∧ IsPats w (.slice pa pn pc) L ∧ Et w) := ⟨h, hp, hE⟩
  have HX : Hid (_ = some (Obj.cells #[.int .i64 xk, .int .i64 xn, .string xt, .int .i64 xo, .int .i64 xa, .slice a1 a2 a3, .slice a4 a5 a6] 29)) := x0
  have HB : Hid (Below w.heap.size w _) := b0
  clear h hp hE b0 x0
  unfold tval at E1 ⊢
  dsimp only at E1 ⊢
  go_enter Tryd.func3, Tryd.ntmps3
  go_wp2_with fail
  go_fit E1
  rintro r w1 ⟨hA, b1⟩
  obtain ⟨u1, X1, cc, rfl, hI1, hR1⟩ := applyH_res hA
  obtain ⟨⟨yk, yn, yt, yo, ya⟩, d1, d2, d3, d4, d5, d6, hu1⟩ := hI1.parts
  subst hu1
  have HX1 : Hid (w1.heap[w.heap.size]? = some (.cells #[.int .i64 xk, .int .i64 xn, .string xt, .int .i64 xo, .int .i64 xa, .slice a1 a2 a3, .slice a4 a5 a6] 29)) := (b1.block _ (lt_of_heap HX.out)).trans HX.out
  have HB1 : Hid (Below w.heap.size w w1) := HB.out.trans (b1.mono HB.out.size)
  have HI1 : Hid (IsT w1 (tval (⟨yk, yn, yt, yo, ya⟩, .slice d1 d2 d3, .slice d4 d5 d6)) X1) := hI1
  have HR1 : Hid (ResK T L cc X1) := hR1
  have c2 := (Below.refl w1.heap.size w1).alloc (Nat.le_refl _) (.cells #[.int .i64 yk, .int .i64 yn, .string yt, .int .i64 yo, .int .i64 ya, .slice d1 d2 d3, .slice d4 d5 d6] 29)
  have HX2 : Hid ((w1.alloc (.cells #[.int .i64 yk, .int .i64 yn, .string yt, .int .i64 yo, .int .i64 ya, .slice d1 d2 d3, .slice d4 d5 d6] 29)).heap[w.heap.size]? = some (.cells #[.int .i64 xk, .int .i64 xn, .string xt, .int .i64 xo, .int .i64 xa, .slice a1 a2 a3, .slice a4 a5 a6] 29)) := (c2.block _ (lt_of_heap HX1.out)).trans HX1.out
  have HW2 : Hid ((w1.alloc (.cells #[.int .i64 yk, .int .i64 yn, .string yt, .int .i64 yo, .int .i64 ya, .slice d1 d2 d3, .slice d4 d5 d6] 29)).heap[w1.heap.size]? = some (.cells #[.int .i64 yk, .int .i64 yn, .string yt, .int .i64 yo, .int .i64 ya, .slice d1 d2 d3, .slice d4 d5 d6] 29)) := (MapKept.heap_alloc w1 _).1
  have HB2 : Hid (Below w.heap.size w (w1.alloc (.cells #[.int .i64 yk, .int .i64 yn, .string yt, .int .i64 yo, .int .i64 ya, .slice d1 d2 d3, .slice d4 d5 d6] 29))) := HB1.out.trans (c2.mono HB1.out.size)
  have HI2 : Hid (IsT (w1.alloc (.cells #[.int .i64 yk, .int .i64 yn, .string yt, .int .i64 yo, .int .i64 ya, .slice d1 d2 d3, .slice d4 d5 d6] 29)) (tval (⟨yk, yn, yt, yo, ya⟩, .slice d1 d2 d3, .slice d4 d5 d6)) X1) := HI1.out.stay c2
  clear E1 hA b1 hI1 hR1 c2 HX HB HX1 HB1 HI1
  dsimp only [tval]
  go_upto_region 2 with fail
  generalize w1.alloc (.cells #[.int .i64 yk, .int .i64 yn, .string yt, .int .i64 yo, .int .i64 ya, .slice d1 d2 d3, .slice d4 d5 d6] 29) = w2 at *
  obtain ⟨wb, HWB⟩ : ∃ wb, Hid (w1.heap.size = wb) := ⟨_, rfl⟩
  rw [HWB.out] at HW2 ⊢
  clear HWB
  have E2 := applyAll_any w2 (HT.out.1.stay HB2.out) (HT.out.2.1.below HB2.out)
  obtain ⟨k0, k1, k2, k3, k4, k5, k6⟩ := tboxed (u := (⟨xk, xn, xt, xo, xa⟩, .slice a1 a2 a3, .slice a4 a5 a6)) HX2.out
  dsimp only [tval] at E2 k0 k1 k2 k3 k4 k5 k6
  go_wp2_with fail
  go_fit E2
  rintro r w3 ⟨hA, b3⟩
  obtain ⟨u3, X3, dd, rfl, hI3, hR3⟩ := applyK_res hA
  obtain ⟨⟨zk, zn, zt, zo, za⟩, f1, f2, f3, f4, f5, f6, hu3⟩ := hI3.parts
  subst hu3
  obtain ⟨ed, eX⟩ := res_one hR3 HR1.out
  subst ed eX
  have c4 := (Below.refl w3.heap.size w3).alloc (Nat.le_refl _) (.cells #[.int .i64 zk, .int .i64 zn, .string zt, .int .i64 zo, .int .i64 za, .slice f1 f2 f3, .slice f4 f5 f6] 29)
  have hB3 := HB2.out.trans (b3.mono HB2.out.size)
  have hB4 := hB3.trans (c4.mono hB3.size)
  have hW4 := (c4.block _ (by have := lt_of_heap HW2.out; have := b3.size; omega)).trans ((b3.block _ (lt_of_heap HW2.out)).trans HW2.out)
  have E3 := tree_any dd (w3.alloc (.cells #[.int .i64 zk, .int .i64 zn, .string zt, .int .i64 zo, .int .i64 za, .slice f1 f2 f3, .slice f4 f5 f6] 29)) (hI3.stay c4) ((HI2.out.stay b3).stay c4) (HT.out.2.2.below hB4)
  obtain ⟨p0, p1, p2, p3, p4, p5, p6⟩ := tboxed (u := (⟨yk, yn, yt, yo, ya⟩, .slice d1 d2 d3, .slice d4 d5 d6)) hW4
  have HB4 : Hid (Below w.heap.size w (w3.alloc (.cells #[.int .i64 zk, .int .i64 zn, .string zt, .int .i64 zo, .int .i64 za, .slice f1 f2 f3, .slice f4 f5 f6] 29))) := hB4
  clear E2 k0 k1 k2 k3 k4 k5 k6 hA b3 hI3 hR3 c4 hB3 hB4 hW4 HR1 HX2 HW2 HI2
  obtain ⟨er, her⟩ : ∃ er, errV dd = er := ⟨_, rfl⟩
  rw [her] at E3 ⊢
  clear her
  dsimp only [tval] at E3 p0 p1 p2 p3 p4 p5 p6 ⊢
  go_wp2_with fail
  go_fit E3
  rintro r w8 ⟨rfl, b8⟩
  have HB8 : Hid (Below w.heap.size w w8) := HB4.out.trans (b8.mono HB4.out.size)
  clear b8 E3 p0 p1 p2 p3 p4 p5 p6
  go_wp2
  go_ret
  exact ⟨rfl, HB8.out⟩
end Go.Proofs.YtegbjkjeoegfbaaDoor

namespace Go.Proofs.YtegbjkjeoegfbaaDoor
open Go.ChangeShapes Go.WideShapes Go.ChangeAt Go.RowKit Go.Deep

theorem cellsPatch : Tryd.prog.cellsOf 43 = 7 := by kernel_rfl
theorem cellsSteps : Tryd.prog.cellsOf 41 = 1 := by kernel_rfl

set_option maxRecDepth 100000 in
set_option maxHeartbeats 2000000 in
/-- Patches, opened. -/
theorem open_pats {H : Type} {enc : TypeId × Value → H} {W : World} {base : Nat} {sp : Nat → Bool} {held : Bool} {fuel : Nat} {cs : List Value} {x : DataW H × List MemPlace}
    (hf : DataW.trod enc Tryd.prog W base sp held fuel 30 cs = some x) (hz : Rows.uptoBulk x.1 ≤ 1048576) : ∃ v L, cs = [v] ∧ IsPats W v L := by
  rcases open_slice Tryd.underlying30 hf with ⟨hcs, _⟩ | ⟨a, len, cap, m, n, D, P, hcs, _, hl, _, hm, hx, hall⟩
  · exact ⟨_, [], hcs, none, 0, rfl, Nat.le_refl _, by simp, fun h => absurd rfl h⟩
  · have hlm : len ≤ m := by rw [hm]; split <;> omega
    rw [hx] at hz
    simp only [Rows.uptoBulk] at hz
    have hz1 := bulk_len ((List.range len).map D)
    rw [List.length_map, List.length_range] at hz1
    have each : ∀ i, i < len → ∃ q : Pch × Value, IsSteps W q.2 q.1.2.1 ∧ ∀ j, j < 7 → W.cell? (a.add (i * 7 + j)) = (pcells q.1 q.2)[j]? := by
      intro i hi
      obtain ⟨cs', h1, h2⟩ := hall i (by omega)
      rw [cellsPatch] at h1
      obtain ⟨_, hlen, hcell⟩ := World.cells?_some h1
      have hd := bulk_mem (l := (List.range len).map D) (d := D i) (List.mem_map_of_mem (List.mem_range.2 hi))
      obtain ⟨xs, k, hk, hxy, _, hxl, hf2⟩ := DataW.trod_struct Tryd.underlying43 h2
      match xs, hxl, cs', hlen with
      | [y0, y1, y2], _, [v0, v1, v2, v3, v4, v5, v6], _ =>
        have g0 := hf2 0 _ rfl
        have g1 := hf2 1 _ rfl
        have g2 := hf2 2 _ rfl
        simp [cells3, cellsVal, cellsSteps] at g0 g1 g2
        have hzz : Rows.uptoBulk y1.1 ≤ 1048576 := by
          rw [(Prod.mk.inj hxy).1] at hd
          simp only [Rows.uptoBulk, List.map_cons, List.map_nil, Rows.uptoBulkAll] at hd
          omega
        obtain ⟨u0, u1, u2, u3, n5, _, _, r0, r1, r2, r3⟩ := Joins.trod_struct4 Tryd.underlying25 g2
        simp [cells3, cells9, cellsId] at r0 r1 r2 r3
        obtain ⟨z0, z1, m0, _, _, s0, s1⟩ := trod_struct2 Tryd.underlying23 r3
        simp [cells3] at s0 s1
        obtain ⟨xx, ex, _, _⟩ := DataW.trod_int Tryd.underlying3 g0
        obtain ⟨x0, e0, _, _⟩ := DataW.trod_int Tryd.underlying3 r0
        obtain ⟨x1, e1, _, _⟩ := DataW.trod_int Tryd.underlying3 r1
        obtain ⟨x2, e2, _, _⟩ := DataW.trod_string Tryd.underlying9 r2
        obtain ⟨x3, e3, _, _⟩ := DataW.trod_int Tryd.underlying3 s0
        obtain ⟨x4, e4, _, _⟩ := DataW.trod_int Tryd.underlying3 s1
        obtain ⟨vp, l, e5, hst⟩ := open_steps g1 hzz
        simp at ex e0 e1 e2 e3 e4 e5
        subst ex e0 e1 e2 e3 e4 e5
        refine ⟨((xx, l, ⟨x0, x1, x2, x3, x4⟩), v1), hst, fun j hj => ?_⟩
        have := hcell j hj
        rw [add_add] at this
        exact this
    have : Inhabited (Pch × Value) := ⟨((0, [], ⟨0, 0, .empty, 0, 0⟩), .nilIface)⟩
    obtain ⟨q, hq⟩ := choose_lt each
    refine ⟨_, (List.range len).map fun i => (q i).1, hcs, some a, cap, by simp, by simpa using hl, by simp only [List.length_map, List.length_range]; omega, fun hne => ?_⟩
    have h0 : 0 < len := by
      rcases Nat.eq_zero_or_pos len with e | e
      · subst e; simp at hne
      · exact e
    obtain ⟨hs, hb⟩ := at_cell (v := .int .i64 (q 0).1.1) ((hq 0 h0).2 0 (by omega))
    obtain ⟨b, off, s⟩ := a
    have hs' : s = none := by simpa [Addr.add] using hs
    subst hs'
    refine ⟨b, off, rfl, by simpa [Addr.add] using hb, fun i hi => ?_⟩
    have hi' : i < len := by simpa using hi
    refine ⟨(q i).2, by simpa using (hq i hi').1, fun j hj => ?_⟩
    have := (hq i hi').2 j hj
    rw [add_at, ← Nat.add_assoc] at this
    simpa using this
set_option maxRecDepth 100000 in
theorem open_patsV {H : Type} {enc : TypeId × Value → H} {W : World} {b0 base : Nat} {sp : Nat → Bool} {held : Bool} {v : Value} {d : DataW H} {p : List MemPlace}
    (hv : Value.okWide Tryd.prog W .any b0 30 v) (h : DataW.Trod enc Tryd.prog W base sp held 30 v d p) (hz : Rows.uptoBulk d ≤ 1048576) : ∃ L, IsPats W v L := by
  obtain ⟨a0, len0, cap0, rfl⟩ := okWide_slice Tryd.underlying30 hv
  obtain ⟨fuel, hf⟩ := h
  obtain ⟨v, l, hcs, hl⟩ := open_pats hf hz
  simp [Value.cells] at hcs
  subst hcs
  exact ⟨l, hl⟩
end Go.Proofs.YtegbjkjeoegfbaaDoor
