/-
  What is proved: as each theorem says.
  Conditions: as each theorem says.
-/
import Derived.Test.YtejfemdkommfhaaGreatDoorG39
import Derived.Test.YtejfemdkommfhaaGreatDoorG42
import Derived.Test.YtejfemdkommfhaaGreatDoorG01
namespace Go.Proofs.YtejfemdkommfhaaGreatDoor
open Go.RowKit Go.Maps Go.Sort
structure ArgC (w : World) (v : Value) (l : List CE) : Prop where
 row : IsChgs w v (l.map toCX)
 each : ∀ p ∈ l, IsChgW w p.2 p.1
theorem own_kpT {N B T s n : Nat} {w w' : World} {v : Value} {xs : List Value} (h : w.ownsRow B T s v n xs) (k : KpT N w w') (hT : T ≠ 34 ∧ T ≠ 30) : w'.ownsRow B T s v n xs := by
 refine ⟨h.1, ?_⟩
 rcases h.2 with h0 | ⟨g, cap, cur, h1, h2, h3, h4⟩
 ·exact Or.inl h0
 ·exact Or.inr ⟨g, cap, cur, h1, h2, k.heap h3 (Or.inr fun c z => ⟨fun e => by injection e with _ e2; exact hT.1 e2, fun e => by injection e with _ e2; exact hT.2 e2⟩), h4⟩
theorem IsChgH.kpT {N B : Nat} {w w' : World} {v : Value} {c : Chg} (h : IsChgH B w v c) (k : KpT N w w') : IsChgH B w' v c := h.rows fun _ _ _ _ _ hT r => own_kpT r k (by rcases hT with rfl | rfl | rfl <;> decide)
theorem MapL.kpT {N : Nat} {w w' : World} {b : Nat} {L : List (Pr × Value)} (h : MapL w b L) (k : KpT N w w') : MapL w' b L := by
 obtain ⟨D, ⟨es, clock, h0, h1⟩, h2⟩ := h.own
 exact ⟨⟨D, ⟨es, clock, k.heap h0 (Or.inr fun _ _ => ⟨nofun, nofun⟩), h1⟩, h2⟩, h.nd, h.r64⟩
theorem Bk.kpT {N : Nat} {w w' : World} {g h q : Nat} {EH EW : List CE} (B : Bk w g h q EH EW) (hi : ∀ p ∈ EH ++ EW, IsChgH N w p.2 p.1) (k : KpT N w w') : Bk w' g h q EH EW :=
 ⟨⟨k.heap B.book.box (Or.inr fun c z => ⟨fun e => by injection e with _ e2; exact absurd e2 (by decide), fun e => by injection e with _ e2; exact absurd e2 (by decide)⟩), B.book.has.kpT k, B.book.wait.kpT k, B.book.ne⟩, fun p hp => ⟨((hi p hp).kpT k).chgW, (B.chgs p hp).2⟩, B.clo, B.many, B.dis⟩
theorem RB.kp {w0 w w' : World} {s h q : Nat} {EL EW : List CE} {vl vw : Value} (R : RB w0 s EL EW vl vw w) (k : Kp [h, q] w w') (hS : ∀ b ∈ [h, q], ∃ es t, w.heap[b]? = some (.map es t)) (lo : w0.heap.size ≤ h ∧ w0.heap.size ≤ q) : RB w0 s EL EW vl vw w' :=
 ⟨R.low, R.bel.trans (k.below (B := w0.heap.size) (by simp; exact lo) R.bel.size), k.heap R.box (fun e => by
  obtain ⟨es, t, h5⟩ := hS s e
  rw [R.box] at h5
  cases h5), own_maps R.rowL k hS, own_maps R.rowW k hS, R.ne, R.chgs⟩
structure ASt (w : World) (g h q s : Nat) (EL ER EH ED : List CE) (vl vr : Value) (W : World) : Prop where
 ref : RB w s EL ER vl vr W
 ri : RI (chgsOf EL) (chgsOf ER)
 bk : Bk W g h q EH ED
 inv : Inv (chgsOf EH)
 hi : ∀ p ∈ EH ++ ED, IsChgH w.heap.size W p.2 p.1
 has : chgsOf EL = chgsOf EH
 wait : (chgsOf ER).Perm (chgsOf ED)
 lo : w.heap.size ≤ h ∧ w.heap.size ≤ q
section
variable {w W W' : World} {g h q s : Nat} {EL ER EH ED : List CE} {vl vr : Value}
theorem ASt.below (A : ASt w g h q s EL ER EH ED vl vr W) (b : Below W.heap.size W W') : ASt w g h q s EL ER EH ED vl vr W' :=
 ⟨A.ref.below b, A.ri, A.bk.below b, A.inv, fun p hp => (A.hi p hp).below b, A.has, A.wait, A.lo⟩
theorem as_next {n : Nat} {x : Obj} (H : Hid (ASt w g h q s EL ER EH ED vl vr W ∧ W.heap[n]? = some x)) (b : Below W.heap.size W W') : Hid (ASt w g h q s EL ER EH ED vl vr W' ∧ W'.heap[n]? = some x) :=
 ⟨H.out.1.below b, heap_below H.out.2 b (Nat.le_refl _)⟩
theorem ASt.few (A : ASt w g h q s EL ER EH ED vl vr W) : EL.length + ER.length ≤ 120 := by have := A.ri.few; rw [chgs_len, chgs_len] at this; exact this
theorem ASt.both {W2 : World} {c : Chg} {x : Int} {er : Value} (A : ASt w g h q s EL ER EH ED vl vr W) (hR : RTakeP w W s EL ER c x W') (hX : TakeX W' g h q EH ED c er W2) :
 ∃ EL' ER' EH' ED' vl' vr', ASt w g h q s EL' ER' EH' ED' vl' vr' W2 := by
 obtain ⟨EL', ER', vl', vr', hRB, hRI, ⟨ht, _⟩, hk⟩ := hR
 obtain ⟨EH', ED', hB, _, kp, hI, hT, _, hold⟩ := hX
 have bk1 := A.bk.kpT A.hi hk
 rw [A.has] at ht
 obtain ⟨e1, e2⟩ := ht.det A.wait A.ri.nd hT
 refine ⟨EL', ER', EH', ED', vl', vr', hRB.kp kp bk1.maps A.lo, hRI, hB, hI, fun p hp => ?_, e1, e2, A.lo⟩
 rcases hold p hp with h1 | h1
 ·exact ((A.hi p h1).kpT hk).maps kp bk1.maps
 ·exact h1.mono (Nat.le_trans A.ref.bel.size hk.size)
theorem Bk.new (B : BookAt W g h q [] []) : Bk W g h q [] [] :=
 ⟨B, fun p hp => by simp at hp, fun pre p post he => by simp at he, by simp, fun r hr => by simp at hr⟩
theorem ASt.start (hb : Below w.heap.size w W) (B : BookAt W g h q [] []) (hs : w.heap.size ≤ s) (bx : W.heap[s]? = some (.cells #[.slice none 0 0, .slice none 0 0] 30)) (lo : w.heap.size ≤ h ∧ w.heap.size ≤ q) : ASt w g h q s [] [] [] [] (.slice none 0 0) (.slice none 0 0) W :=
 ⟨⟨hs, hb, bx, World.ownsRow_nil _ _ _ _, World.ownsRow_nil _ _ _ _, fun b e => by simp [Value.ownBlock] at e, fun p hp => by simp at hp⟩, RI.nil, Bk.new B, Inv.nil, (fun p hp => by simp at hp), rfl, List.Perm.refl _, lo⟩
end
end Go.Proofs.YtejfemdkommfhaaGreatDoor
namespace Go.Proofs.YtejfemdkommfhaaGreatDoor
open Go.ChangeShapes Go.WideShapes Go.ChangeAt Go.RowKit Go.Deep
theorem open_wh {H : Type} {enc : TypeId × Value → H} {W : World} {base : Nat} {sp : Nat → Bool} {held : Bool} {t e : TypeId} {fuel : Nat} {cs : List Value} {x : DataW H × List MemPlace}
 (ht : Tryz.prog.underlying t = some (.slice e)) (hf : DataW.trod enc Tryz.prog W base sp held fuel t cs = some x) : ∃ v, cs = [v] ∧ Wh v := by
 rcases open_slice ht hf with ⟨hcs, _⟩ | ⟨a, len, cap, m, n, D, P, hcs, _⟩
 ·exact ⟨_, hcs, Or.inl rfl⟩
 ·exact ⟨_, hcs, Or.inr ⟨_, _, _, rfl⟩⟩
set_option maxRecDepth 100000 in
set_option maxHeartbeats 2000000 in
theorem open_opW {H : Type} {enc : TypeId × Value → H} {W : World} {base : Nat} {sp : Nat → Bool} {held : Bool} {fuel : Nat} {cs : List Value} {x : DataW H × List MemPlace} (hlen : cs.length = 13)
 (h : DataW.trod enc Tryz.prog W base sp held fuel 83 cs = some x) (hz : Rows.uptoBulk x.1 ≤ 1048576) : ∃ q : OV, cs = opCells q.1 q.2 ∧ Wh q.2 ∧ IsPairs W q.2 q.1.preds ∧ OpNums q.1 := by
 obtain ⟨xs, k, hk, hxy, _, hxl, hf⟩ := DataW.trod_struct Tryz.underlying83 h
 match xs, hxl, cs, hlen with
 | [y0, y1, y2, y3, y4, y5, y6], _, [v0, v1, v2, v3, v4, v5, v6, v7, v8, v9, v10, v11, v12], _ =>
  have g0 := hf 0 _ rfl
  have g1 := hf 1 _ rfl
  have g2 := hf 2 _ rfl
  have g3 := hf 3 _ rfl
  have g4 := hf 4 _ rfl
  have g5 := hf 5 _ rfl
  have g6 := hf 6 _ rfl
  simp [cells3, cells4, cells9, cellsId, cellsVal, cellsIds] at g0 g1 g2 g3 g4 g5 g6
  obtain ⟨x0, e0, _, w0⟩ := DataW.trod_int Tryz.underlying3 g0
  obtain ⟨z0, z1, m, _, _, p0, p1⟩ := trod_struct2 Tryz.underlying78 g1
  simp [cells3] at p0 p1
  obtain ⟨x1, e1, _, w1⟩ := DataW.trod_int Tryz.underlying3 p0
  obtain ⟨x2, e2, _, w2⟩ := DataW.trod_int Tryz.underlying3 p1
  obtain ⟨x3, e3, _, _⟩ := DataW.trod_string Tryz.underlying9 g2
  obtain ⟨z0', z1', m', _, _, q0, q1⟩ := trod_struct2 Tryz.underlying78 g3
  simp [cells3] at q0 q1
  obtain ⟨x4, e4, _, w4⟩ := DataW.trod_int Tryz.underlying3 q0
  obtain ⟨x5, e5, _, w5⟩ := DataW.trod_int Tryz.underlying3 q1
  obtain ⟨x6, e6, _⟩ := DataW.trod_bool Tryz.underlying4 g4
  obtain ⟨u0, u1, u2, u3, n5, _, _, r0, r1, r2, r3⟩ := Joins.trod_struct4 Tryz.underlying80 g5
  simp [cells3, cells9, cellsId] at r0 r1 r2 r3
  obtain ⟨z0'', z1'', m'', _, _, s0, s1⟩ := trod_struct2 Tryz.underlying78 r3
  simp [cells3] at s0 s1
  obtain ⟨x7, e7, _, w7⟩ := DataW.trod_int Tryz.underlying3 r0
  obtain ⟨x8, e8, _, w8⟩ := DataW.trod_int Tryz.underlying3 r1
  obtain ⟨x9, e9, _, _⟩ := DataW.trod_string Tryz.underlying9 r2
  obtain ⟨x10, e10, _, w10⟩ := DataW.trod_int Tryz.underlying3 s0
  obtain ⟨x11, e11, _, w11⟩ := DataW.trod_int Tryz.underlying3 s1
  have hz6 : Rows.uptoBulk y6.1 ≤ 1048576 := by
   rw [hxy] at hz
   simp only [Rows.uptoBulk, List.map_cons, List.map_nil, Rows.uptoBulkAll] at hz
   omega
  obtain ⟨vw, ew, hww⟩ := open_wh Tryz.underlying81 g6
  obtain ⟨vp, l, e12, hp⟩ := open_prs Tryz.underlying81 Tryz.underlying78 cellsId rfl rfl rfl rfl g6 hz6
  simp at ew
  rw [← ew] at hww
  simp at e0 e1 e2 e3 e4 e5 e6 e7 e8 e9 e10 e11 e12
  subst e0 e1 e2 e3 e4 e5 e6 e7 e8 e9 e10 e11 e12
  exact ⟨(⟨x0, (x1, x2), x3, (x4, x5), x6, ⟨x7, x8, x9, x10, x11⟩, l⟩, v12), rfl, hww, hp, i64_of w0, ⟨i64_of w1, i64_of w2⟩, ⟨i64_of w4, i64_of w5⟩, i64_of w7, i64_of w8, i64_of w10, i64_of w11⟩
set_option maxRecDepth 100000 in
set_option maxHeartbeats 2000000 in
theorem open_opsW {H : Type} {enc : TypeId × Value → H} {W : World} {base : Nat} {sp : Nat → Bool} {held : Bool} {fuel : Nat} {cs : List Value} {x : DataW H × List MemPlace}
 (hf : DataW.trod enc Tryz.prog W base sp held fuel 32 cs = some x) (hz : Rows.uptoBulk x.1 ≤ 1048576) : ∃ v l, cs = [v] ∧ IsOps W v l ∧ Wh v ∧ ∀ q ∈ l, Wh q.2 := by
 rcases open_slice Tryz.underlying32 hf with ⟨hcs, _⟩ | ⟨a, len, cap, m, n, D, P, hcs, _, hl, _, hm, hx, hall⟩
 ·exact ⟨_, [], hcs, ⟨none, 0, rfl, by simp, by simp, by simp, fun h => absurd rfl h⟩, Or.inl rfl, by simp⟩
 ·have hlm : len ≤ m := by rw [hm]; split <;> omega
  rw [hx] at hz
  simp only [Rows.uptoBulk] at hz
  have hz1 := bulk_len ((List.range len).map D)
  rw [List.length_map, List.length_range] at hz1
  have each : ∀ i, i < len → ∃ q : OV, (∀ j, j < 13 → W.cell? (a.add (i * 13 + j)) = (opCells q.1 q.2)[j]?) ∧ Wh q.2 ∧ IsPairs W q.2 q.1.preds ∧ OpNums q.1 := by
   intro i hi
   obtain ⟨cs', h1, h2⟩ := hall i (by omega)
   rw [cellsOp] at h1
   obtain ⟨_, hlen, hcell⟩ := World.cells?_some h1
   have hd : Rows.uptoBulk (D i) ≤ 1048576 := by
    have := bulk_mem (l := (List.range len).map D) (d := D i) (List.mem_map_of_mem (List.mem_range.2 hi))
    omega
   obtain ⟨q, rfl, hw, hp, hn⟩ := open_opW hlen h2 hd
   refine ⟨q, fun j hj => ?_, hw, hp, hn⟩
   have := hcell j hj
   rw [add_add] at this
   exact this
  have : Inhabited OV := ⟨(⟨0, (0, 0), .empty, (0, 0), false, ⟨0, 0, .empty, 0, 0⟩, []⟩, .nilIface)⟩
  obtain ⟨q, hq⟩ := choose_lt each
  refine ⟨_, (List.range len).map q, hcs, ⟨some a, cap, by simp, by simpa using hl, by simp only [List.length_map, List.length_range]; omega, ?_, fun hne => ?_⟩, Or.inr ⟨_, _, _, rfl⟩, fun y hy => ?_⟩
  ·intro y hy
   rw [List.mem_map] at hy
   obtain ⟨i, hi, rfl⟩ := hy
   exact (hq i (List.mem_range.1 hi)).2.2
  ·have h0 : 0 < len := by
    rcases Nat.eq_zero_or_pos len with e | e
    ·subst e; simp at hne
    ·exact e
   obtain ⟨hs, hb⟩ := at_cell (v := .int .i64 (q 0).1.kind) ((hq 0 h0).1 0 (by omega))
   obtain ⟨b, off, s⟩ := a
   have hs' : s = none := by simpa [Addr.add] using hs
   subst hs'
   refine ⟨b, off, rfl, by simpa [Addr.add] using hb, fun i hi j hj => ?_⟩
   have hi' : i < len := by simpa using hi
   have := (hq i hi').1 j hj
   rw [add_at, ← Nat.add_assoc] at this
   simpa using this
  ·obtain ⟨i, hi, rfl⟩ := List.mem_map.1 hy
   exact (hq i (List.mem_range.1 hi)).2.1
end Go.Proofs.YtejfemdkommfhaaGreatDoor
namespace Go.Proofs.YtejfemdkommfhaaGreatDoor
open Go.ChangeShapes Go.WideShapes Go.ChangeAt Go.RowKit Go.Deep
theorem bulk_len2 {H : Type} (l : List (DataW H)) (h : ∀ d ∈ l, 2 ≤ Rows.uptoBulk d) : 2 * l.length ≤ Rows.uptoBulkAll l := by
 induction l with
 | nil => simp
 | cons d r ih =>
  have h1 := h d (List.mem_cons_self ..)
  have h2 := ih (fun x hx => h x (List.mem_cons_of_mem _ hx))
  rw [Rows.uptoBulkAll, List.length_cons]
  omega
set_option maxRecDepth 100000 in
set_option maxHeartbeats 2000000 in
theorem open_chgC {H : Type} {enc : TypeId × Value → H} {W : World} {base : Nat} {sp : Nat → Bool} {held : Bool} {fuel : Nat} {cs : List Value} {x : DataW H × List MemPlace} (hlen : cs.length = 5)
 (h : DataW.trod enc Tryz.prog W base sp held fuel 34 cs = some x) (hz : Rows.uptoBulk x.1 ≤ 1048576) : 2 ≤ Rows.uptoBulk x.1 ∧ ∃ q : CE, cs = vcells q.2 ∧ IsChgW W q.2 q.1 := by
 obtain ⟨xs, k, hk, hxy, _, hxl, hf⟩ := DataW.trod_struct Tryz.underlying34 h
 match xs, hxl, cs, hlen with
 | [y0, y1, y2, y3, y4], _, [c0, c1, c2, c3, c4], _ =>
  have g0 := hf 0 _ rfl
  have g1 := hf 1 _ rfl
  have g2 := hf 2 _ rfl
  have g3 := hf 3 _ rfl
  have g4 := hf 4 _ rfl
  simp [cells3, cellsRefs, cellsOps] at g0 g1 g2 g3 g4
  rw [hxy] at hz ⊢
  simp only [Rows.uptoBulk, List.map_cons, List.map_nil, Rows.uptoBulkAll] at hz ⊢
  refine ⟨by have := bulk_pos y0.1; omega, ?_⟩
  obtain ⟨x0, e0, _, w0⟩ := DataW.trod_int Tryz.underlying3 g0
  obtain ⟨x1, e1, _, w1⟩ := DataW.trod_int Tryz.underlying3 g1
  obtain ⟨x2, e2, _, w2⟩ := DataW.trod_int Tryz.underlying3 g2
  obtain ⟨vw, ew, hww⟩ := open_wh Tryz.underlying23 g3
  obtain ⟨vd, ld, e3, hd3⟩ := open_prs Tryz.underlying23 Tryz.underlying25 cellsRef rfl rfl rfl rfl g3 (by omega)
  obtain ⟨vo, lo, e4, ho4, hwo, hwq⟩ := open_opsW g4 (by omega)
  simp at ew
  rw [← ew] at hww
  simp at e0 e1 e2 e3 e4
  subst e0 e1 e2 e3 e4
  exact ⟨(⟨x0, x1, x2, ld, lo.map (·.1)⟩, .agg #[.int .i64 x0, .int .i64 x1, .int .i64 x2, c3, c4]), rfl, c3, c4, lo, rfl, ⟨i64_of w0, i64_of w1, i64_of w2⟩, hd3, ho4, rfl, hww, hwo, hwq⟩
set_option maxRecDepth 100000 in
set_option maxHeartbeats 2000000 in
theorem open_chgs {H : Type} {enc : TypeId × Value → H} {W : World} {b0 base : Nat} {sp : Nat → Bool} {held : Bool} {v : Value} {d : DataW H} {p : List MemPlace}
 (hv : Value.okWide Tryz.prog W .any b0 22 v) (h : DataW.Trod enc Tryz.prog W base sp held 22 v d p) (hz : Rows.uptoBulk d ≤ 1048576) : ∃ l, ArgC W v l := by
 obtain ⟨a0, len0, cap0, rfl⟩ := okWide_slice Tryz.underlying22 hv
 obtain ⟨fuel, hf⟩ := h
 rcases open_slice Tryz.underlying22 hf with ⟨hcs, _⟩ | ⟨a, len, cap, m, n, D, P, hcs, _, hl, _, hm, hx, hall⟩
 ·simp [Value.cells] at hcs
  obtain ⟨rfl, rfl, rfl⟩ := hcs
  exact ⟨[], ⟨none, 0, rfl, by simp, by simp, by simp, fun h => absurd rfl h⟩, by simp⟩
 ·simp [Value.cells] at hcs
  obtain ⟨rfl, rfl, rfl⟩ := hcs
  have hlm : len0 ≤ m := by rw [hm]; split <;> omega
  have hd : d = .slice ((List.range len0).map D) ((List.range (m - len0)).map fun j => D (len0 + j)) := congrArg Prod.fst hx
  rw [hd] at hz
  simp only [Rows.uptoBulk] at hz
  have each : ∀ i, i < len0 → 2 ≤ Rows.uptoBulk (D i) ∧ ∃ q : CE, (∀ j, j < 5 → W.cell? (a.add (i * 5 + j)) = (vcells q.2)[j]?) ∧ IsChgW W q.2 q.1 := by
   intro i hi
   obtain ⟨cs', h1, h2⟩ := hall i (by omega)
   rw [cellsChg] at h1
   obtain ⟨_, hlen, hcell⟩ := World.cells?_some h1
   have hd : Rows.uptoBulk (D i) ≤ 1048576 := by
    have := bulk_mem (l := (List.range len0).map D) (d := D i) (List.mem_map_of_mem (List.mem_range.2 hi))
    omega
   obtain ⟨hb, q, rfl, hw⟩ := open_chgC hlen h2 hd
   refine ⟨hb, q, fun j hj => ?_, hw⟩
   have := hcell j hj
   rw [add_add] at this
   exact this
  have hz1 := bulk_len2 ((List.range len0).map D) (fun x hx => by
   obtain ⟨i, hi, rfl⟩ := List.mem_map.1 hx
   exact (each i (List.mem_range.1 hi)).1)
  rw [List.length_map, List.length_range] at hz1
  have : Inhabited CE := ⟨zE⟩
  obtain ⟨q, hq⟩ := choose_lt fun i hi => (each i hi).2
  refine ⟨(List.range len0).map q, ⟨some a, cap0, by simp, by simpa using hl, by simp only [List.length_map, List.length_range]; omega, fun y hy => ?_, fun hne => ?_⟩, fun y hy => ?_⟩
  ·obtain ⟨z, hz2, rfl⟩ := List.mem_map.1 hy
   obtain ⟨i, hi, rfl⟩ := List.mem_map.1 hz2
   have hw := (hq i (List.mem_range.1 hi)).2.chg
   show IsChg _ _ _
   rw [(toCX_val hw).1]
   exact hw
  ·have h0 : 0 < len0 := by
    rcases Nat.eq_zero_or_pos len0 with e | e
    ·subst e; simp at hne
    ·exact e
   obtain ⟨ca, cs, ct, da, dn, dc, oa, on, oc, hpv⟩ := (hq 0 h0).2.cv
   have h00 := (hq 0 h0).1 0 (by omega)
   rw [hpv] at h00
   obtain ⟨hs, hb⟩ := at_cell (v := .int .i64 ca) h00
   obtain ⟨b, off, s⟩ := a
   have hs' : s = none := by simpa [Addr.add] using hs
   subst hs'
   refine ⟨b, off, rfl, by simpa [Addr.add] using hb, fun i hi j hj => ?_⟩
   have hi' : i < len0 := by simpa using hi
   have := (hq i hi').1 j hj
   rw [add_at, ← Nat.add_assoc] at this
   rw [this]
   simp only [List.getElem_map, List.getElem_range]
   rw [(toCX_val (hq i hi').2.chg).2.2.2]
  ·obtain ⟨i, hi, rfl⟩ := List.mem_map.1 hy
   exact (hq i (List.mem_range.1 hi)).2
end Go.Proofs.YtejfemdkommfhaaGreatDoor
