/-
  What is proved: as each theorem says.
  Conditions: as each theorem says.
-/
import Derived.Test.YtejfemdkommfhaaGreatDoorG08
import Derived.Shelf.SlSortCmp.InsertionK
import Derived.Deep.RegionHeld3
import Derived.Handy
import Derived.Test.YtejfemdkommfhaaGreatDoorShelf
import Derived.Test.YtejfemdkommfhaaGreatDoorG07
namespace Go.Proofs.YtejfemdkommfhaaGreatDoor
open Go.RowKit Go.Maps Go.Sort Go.Shelf Go.Lib
def cR (x y : Pr) : Int := or2 (cI x.1 y.1) (cI x.2 y.2)
def ltR (x y : Pr) : Prop := x.1 < y.1 ∨ x.1 = y.1 ∧ x.2 < y.2
theorem ltOf_cR (x y : Pr) : ltOf cR x y = true ↔ ltR x y := by
 unfold ltOf cR or2 cI ltR
 simp only [decide_eq_true_eq]
 split <;> split <;> (try split) <;> (try split) <;> omega
theorem swoR : SWO (ltOf cR) where
 irrefl x := by
  cases h : ltOf cR x x with
  | false => rfl
  | true => have := (ltOf_cR x x).1 h; unfold ltR at this; omega
 trans x y z h1 h2 := by
  rw [ltOf_cR] at *
  unfold ltR at *
  omega
 ntrans x y z h1 h2 := by
  cases h : ltOf cR x z with
  | false => rfl
  | true =>
   have h3 := (ltOf_cR x z).1 h
   have h4 : ¬ ltR x y := fun e => by rw [(ltOf_cR x y).2 e] at h1; cases h1
   have h5 : ¬ ltR y z := fun e => by rw [(ltOf_cR y z).2 e] at h2; cases h2
   unfold ltR at *
   omega
def encR (x : Pr) : List Value := [.int .i64 x.1, .int .i64 x.2]
theorem flat_pcells (ss : List Pr) : flatK encR 2 ss.toArray = (pcells ss).toArray := by
 apply Array.ext_getElem?
 intro t
 by_cases ht : t < ss.length * 2
 ·have hi : t / 2 < ss.length := by omega
  have h0 : (flatK encR 2 ss.toArray)[t]? = some ((encR ss.toArray[t / 2]!)[t % 2]!) := by
   rw [← get_flatK encR 2 ss.toArray t (by simpa using ht)]
   rw [Array.getElem?_eq_getElem (by rw [size_flatK]; simpa using ht), getElem!_pos]
  have h1 : ss.toArray[t / 2]! = ss[t / 2] := by rw [getElem!_pos _ _ (by simpa using hi)]; simp
  rw [h0, h1]
  have h2 := pcells_at ss (t / 2) hi
  simp only [List.getElem?_toArray]
  rcases Nat.mod_two_eq_zero_or_one t with e | e
  ·have : t = t / 2 * 2 := by omega
   rw [e]
   conv => rhs; rw [this]
   rw [h2.1]; rfl
  ·have : t = t / 2 * 2 + 1 := by omega
   rw [e]
   conv => rhs; rw [this]
   rw [h2.2]; rfl
 ·rw [Array.getElem?_eq_none (by rw [size_flatK]; simp; omega), Array.getElem?_eq_none (by simp [pcells_len]; omega)]
theorem holdsR_of_block {w : World} {g : Nat} {cur : Array Value} {e : TypeId} {ss : List Pr} (hb : w.heap[g]? = some (.cells cur e (0, 0))) (ht : cur.toList.take (ss.length * 2) = pcells ss) : HoldsK encR 2 w g 0 ss.toArray := by
 unfold HoldsK
 rw [flat_pcells]
 intro j hj
 have hj' : j < (pcells ss).length := by simpa using hj
 have hj2 : j < ss.length * 2 := by rw [← pcells_len]; exact hj'
 refine ⟨?_, by simp [World.frozen?, hb]⟩
 have h1 : (cur.toList.take (ss.length * 2))[j]? = (pcells ss)[j]? := by rw [ht]
 rw [List.getElem?_take_of_lt hj2] at h1
 simp only [World.cell?, hb, Nat.zero_add]
 simp only [Option.isSome_none, Bool.false_eq_true, if_false]
 rw [← Array.getElem?_toList, h1]
 simp [hj']
theorem heap_sortedV {w : World} {g n : Nat} {os : Array Obj} {cur : Array Value} {e : TypeId} {fr : Nat × Nat} (d : Array Value) (hb : w.heap[g]? = some (.cells cur e fr)) :
 (grow (putRow id (Sort.ahead w n) g 0 d) os).heap[g]? = some (.cells (putCells id 0 d cur) e fr) := by
 have hg : g < w.heap.size := (Array.getElem?_eq_some_iff.1 hb).1
 rw [heap_grow_old _ _ (by simpa using hg)]
 simp [putRow, mapBlock, Sort.ahead, Array.getElem?_modify, hb, onCells]
theorem grownBy_sortedV {w : World} {g n : Nat} {os : Array Obj} (d : Array Value) : w.grownBy (grow (putRow id (Sort.ahead w n) g 0 d) os) (some g) := by
 refine ⟨rfl, rfl, rfl, by simp, fun k hk hne => ?_⟩
 rw [heap_grow_old _ _ (by simpa using hk)]
 have : g ≠ k := fun e => hne (by rw [e])
 simp [putRow, mapBlock, Sort.ahead, Array.getElem?_modify, this]
theorem take_putCellsV (cur : Array Value) (ts : List Value) (h : ts.length ≤ cur.size) : (putCells id 0 ts.toArray cur).toList.take ts.length = ts := by
 apply List.ext_getElem?
 intro j
 by_cases hj : j < ts.length
 ·rw [List.getElem?_take_of_lt hj, Array.getElem?_toList]
  simp [putCells, hj, show j < cur.size by omega]
 ·rw [List.getElem?_take_eq_none (by omega), List.getElem?_eq_none (by omega)]
theorem rowPr_sorted {w : World} {base g cap n : Nat} {e : TypeId} {os : Array Obj} {cur : Array Value} {ss ts : List Pr} (hl : ts.length = ss.length) (hbase : base ≤ g) (hb : w.heap[g]? = some (.cells cur e (0, 0)))
 (h1 : ss.length ≤ cap) (h2 : cap ≤ maxLen) (h3 : cur.size = cap * 2) :
 RowPr e base (.slice (some ⟨g, 0, none⟩) ss.length cap) ts (sortWorldK encR 2 w g 0 n ts.toArray os) := by
 unfold sortWorldK putRowK
 rw [flat_pcells]
 have hp := pcells_len ts
 refine ⟨hp, .inr ⟨g, cap, _, by rw [hl], hbase, heap_sortedV _ hb, by omega, h2, by simp [putCells, h3], ?_⟩⟩
 have := take_putCellsV cur (pcells ts) (by omega)
 rw [hp] at this
 exact this
set_option maxRecDepth 100000 in
set_option maxHeartbeats 400000 in
theorem compareI_any (x y : Int) (w : World) :
 Calls Tryz.prog 66 #[.int .i64 x, .int .i64 y] w fun e w' => e = .returned (.int .i64 (cI x y)) ∧ w' = w := by
 unfold cI
 by_cases h1 : x < y
 ·go_enter Tryz.func66, Tryz.ntmps66
  go_wp2
  go_ret
  exact ⟨by simp, rfl⟩
 ·by_cases h2 : y < x
  ·go_enter Tryz.func66, Tryz.ntmps66
   go_wp2
   go_ret
   exact ⟨by simp, rfl⟩
  ·go_enter Tryz.func66, Tryz.ntmps66
   go_wp2
   go_ret
   exact ⟨by simp, rfl⟩
set_option maxRecDepth 100000 in
set_option maxHeartbeats 400000 in
theorem or2_any (x y : Int) (g : Nat) (w : World) (h0 : w.cell? ⟨g, 0, none⟩ = some (.int .i64 x)) (h1 : w.cell? ⟨g, 1, none⟩ = some (.int .i64 y)) :
 Calls Tryz.prog 65 #[.slice (some ⟨g, 0, none⟩) 2 2] w fun e w' => e = .returned (.int .i64 (or2 x y)) ∧ w' = w := by
 unfold or2
 by_cases k0 : x = 0
 ·subst k0
  by_cases k1 : y = 0
  ·subst k1
   go_enter Tryz.func65, Tryz.ntmps65
   go_wp2
   go_rounds 3
   go_ret
   exact ⟨by simp, rfl⟩
  ·go_enter Tryz.func65, Tryz.ntmps65
   go_wp2
   go_rounds 3
   go_ret
   exact ⟨by simp, rfl⟩
 ·go_enter Tryz.func65, Tryz.ntmps65
  go_wp2
  go_rounds 3
  go_ret
  exact ⟨by simp, rfl⟩
theorem new_cell (W : World) (a b : Value) (t : TypeId) (k : Nat) (hk : k = W.heap.size) : (W.alloc (.cells #[a, b] t)).cell? ⟨k, 0, none⟩ = some a ∧ (W.alloc (.cells #[a, b] t)).cell? ⟨k, 1, none⟩ = some b := by
 subst hk
 have h := (MapKept.heap_alloc W (.cells #[a, b] t)).1
 exact ⟨Lib.cell_of_heap h 0, Lib.cell_of_heap h 1⟩
set_option maxRecDepth 100000 in
set_option maxHeartbeats 2000000 in
theorem compareR_any (x y : Pr) (w : World) :
 Calls Tryz.prog 38 #[refV x, refV y] w fun e w' => e = .returned (.int .i64 (cR x y)) ∧ ∃ q os, w' = grow (w.drewN q) os := by
 obtain ⟨x1, x2⟩ := x
 obtain ⟨y1, y2⟩ := y
 unfold cR
 dsimp only
 go_enter Tryz.func38, Tryz.ntmps38
 go_wp2
 go_region_held3 (fun W => W.cell? ⟨w.heap.size, 0, none⟩ = some (.int .i64 x1) ∧ W.cell? ⟨w.heap.size, 1, none⟩ = some (.int .i64 x2) ∧ W.cell? ⟨w.heap.size + 1, 0, none⟩ = some (.int .i64 y1) ∧ W.cell? ⟨w.heap.size + 1, 1, none⟩ = some (.int .i64 y2)) (first | go_keep) (first
  | (go_at_call 66; refine (compareI_any _ _ _).mono ?_; rintro e w' ⟨rfl, rfl⟩)
  | (go_at_call 65; refine (or2_any (cI x1 y1) (cI x2 y2) _ _ (by simp; exact (new_cell _ _ _ _ _ (by simp)).1) (by simp; exact (new_cell _ _ _ _ _ (by simp)).2)).mono ?_; rintro e w' ⟨rfl, rfl⟩))
 go_wp2
 go_ret
 exact ⟨rfl, 1, _, by rw [alloc_eq_grow, alloc_eq_grow, alloc_eq_grow, grow_grow, grow_grow]; rfl⟩
end Go.Proofs.YtejfemdkommfhaaGreatDoor
namespace Go.Proofs.YtejfemdkommfhaaGreatDoor
open Go.RowKit Go.Maps Go.Sort Go.Shelf Go.Lib
def Rise (l : List Pr) : Prop := l.Pairwise ltR
theorem rise_unique {l m : List Pr} (hp : l.Perm m) (hl : Rise l) (hm : Rise m) : l = m := by
 refine List.Perm.eq_of_pairwise (le := ltR) (fun a b _ _ h1 h2 => ?_) hl hm hp
 unfold ltR at h1 h2
 omega
set_option maxRecDepth 100000 in
set_option maxHeartbeats 1000000 in
theorem sortR_any (g cap base : Nat) (ss : List Pr) (w : World) (hR : RowPr 25 base (.slice (some ⟨g, 0, none⟩) ss.length cap) ss w) (hn : ss.Nodup) (hl : ss.length ≤ 1000000) :
 Calls Tryz.prog 37 #[.slice (some ⟨g, 0, none⟩) ss.length cap, .func (.func 38) #[] #[]] w fun e w' => e = .returned (.tuple #[]) ∧ ∃ ts : List Pr, ts.Perm ss ∧ Rise ts ∧ RowPr 25 base (.slice (some ⟨g, 0, none⟩) ss.length cap) ts w' ∧ w.grownBy w' (some g) := by
 have eg : ∀ args w, (callFunc 38 args).run Tryz.prog w = .ok (.enter 38 args) w := enters_of Tryz.func38 (by kernel_rfl) rfl
 rcases hR.2 with ⟨h0, _⟩ | ⟨g', cap', cur, e1, hbase, hb, h1, h2, h3, h4⟩
 ·cases h0
 obtain ⟨e2, _, e3⟩ := Value.slice.inj e1
 obtain rfl : g = g' := by have := Option.some.inj e2; simpa using this
 subst e3
 have hH := holdsR_of_block (ss := ss) hb h4
 have hcon := AnyQ.slices_SortFunc Tryz.sortA 2 Tryz.isAgg25 Tryz.sizeOf25 encR (fun _ => rfl) (fun x v hv => by simp [encR] at hv; rcases hv with rfl | rfl <;> rfl) cR swoR 38 #[] g 0 cap ss.toArray w eg (fun _ _ _ _ x y => compareR_any x y _) hH (lt_of_heap hb) (by simp; omega)
 rw [show ss.toArray.size = ss.length from by simp] at hcon
 refine Calls.mono hcon ?_
 rintro e w' ⟨rfl, d', n, os, hp, hs, rfl⟩
 obtain ⟨p1, _, p3⟩ := hp
 have p1' : d'.size = ss.length := by simpa using p1
 have e4 : d'.extract 0 ss.length = d' := by rw [← p1']; exact Array.extract_size
 have e5 : ss.toArray.extract 0 ss.length = ss.toArray := by
  simp
 rw [e4, e5] at p3
 have p4 : d'.toList.Perm ss := by simpa using p3
 refine ⟨rfl, d'.toList, p4, ?_, ?_, ?_⟩
 ·refine List.pairwise_iff_getElem.2 fun i j hi hj hij => ?_
  have q1 : i < d'.size := by simpa using hi
  have q2 : j < d'.size := by simpa using hj
  have h5 := hs i j (Nat.zero_le _) hij (by omega)
  rw [getElem!_pos d' j q2, getElem!_pos d' i q1] at h5
  have h6 : ¬ ltR d'[j] d'[i] := fun e => by rw [(ltOf_cR _ _).2 e] at h5; cases h5
  have h7 : d'[i] ≠ d'[j] := fun e => by
   have hnd := p4.nodup_iff.2 hn
   have h9 := List.pairwise_iff_getElem.1 hnd i j hi hj hij
   simp only [Array.getElem_toList] at h9
   exact h9 e
  simp only [Array.getElem_toList]
  unfold ltR at h6 ⊢
  have h8 : ¬ (d'[i].1 = d'[j].1 ∧ d'[i].2 = d'[j].2) := fun e => h7 (Prod.ext e.1 e.2)
  omega
 ·have := rowPr_sorted (n := n) (os := os) (ts := d'.toList) (ss := ss) (by simpa using p1') hbase hb h1 h2 h3
  simpa using this
 ·unfold sortWorldK putRowK
  exact grownBy_sortedV _
set_option maxRecDepth 100000 in
set_option maxHeartbeats 1000000 in
theorem mapsKeys_any (b : Nat) (w : World) : Calls Tryz.prog 123 #[.map (some b)] w fun e w' => e = .returned (.func (.func 134) #[] #[.pointer (some ⟨w.heap.size, 0, none⟩)]) ∧ w' = w.alloc (.cells #[.map (some b)] 53) := by
 go_enter Tryz.func123, Tryz.ntmps123
 go_wp2
 go_ret
 exact ⟨rfl, rfl⟩
set_option maxRecDepth 100000 in
set_option maxHeartbeats 2000000 in
theorem sortedFunc_any (g : Nat) (lb : Array Value) (eg : ∀ args w, (callFunc g args).run Tryz.prog w = .ok (.enter g args) w) (S : List Pr → Prop) (N : Nat) (hN : N ≤ 1000000) (w : World) (hS : ∀ ss, S ss → ss.Nodup ∧ ss.length ≤ 1000000) (hseq : SeqGives Fence.wide 1 Tryz.prog g lb refV S N w) :
 Calls Tryz.prog 122 #[.func (.func g) #[] lb, .func (.func 38) #[] #[]] w fun e w' => ∃ (v : Value) (ss ts : List Pr), e = .returned v ∧ S ss ∧ ts.Perm ss ∧ Rise ts ∧ RowPr 25 w.heap.size v ts w' ∧ Below w.heap.size w w' := by
 have C := callsIn_wide.1 (collectR_in 3 (by omega) g lb eg S N hN w hseq)
 go_enter Tryz.func122, Tryz.ntmps122
 go_wp2_with fail
 go_fit C
 rintro e w1 ⟨v, ss, rfl, hSs, hrow, hnil, hb⟩
 clear C
 obtain ⟨hn, hl⟩ := hS ss hSs
 rcases hrow.2 with ⟨rfl, h0⟩ | ⟨g1, cap, cur, rfl, hbase, hb1, h1, h2, h3, h4⟩
 ·have E := AnyF.slices_SortFunc_none Tryz.sortA none 0 (.func (.func 38) #[] #[]) w1
  change Calls Tryz.prog 37 _ _ _ at E
  have hss : ss = [] := List.length_eq_zero_iff.1 h0
  subst hss
  have HH : Hid (_ ∧ _ ∧ _) := ⟨hSs, hrow, hb⟩
  clear hSs hrow hb hnil hn hl hseq
  go_wp2_with fail
  go_fit E
  rintro e w2 ⟨rfl, rfl⟩
  go_wp2
  go_ret
  exact ⟨_, [], [], rfl, HH.out.1, List.Perm.refl _, List.Pairwise.nil, HH.out.2.1, HH.out.2.2⟩
 ·have E := sortR_any g1 cap w.heap.size ss w1 hrow hn hl
  have HH : Hid (_ ∧ _ ∧ _) := ⟨hSs, hbase, hb⟩
  clear hSs hrow hb hnil hn hl hseq hb1 h1 h2 h3 h4 hbase
  go_wp2_with fail
  go_fit E
  rintro e w2 ⟨rfl, ts, q1, q2, q3, q4⟩
  have HQ : Hid (_ ∧ _ ∧ _) := ⟨q1, q2, q3⟩
  have HB : Hid (Below w.heap.size w w2) := HH.out.2.2.grown q4 HH.out.2.2.size (fun k e => by cases e; exact HH.out.2.1)
  clear q1 q2 q3 q4 E
  go_wp2
  go_ret
  exact ⟨_, ss, ts, rfl, HH.out.1, HQ.out.1, HQ.out.2.1, HQ.out.2.2, HB.out⟩
set_option maxRecDepth 100000 in
set_option maxHeartbeats 2000000 in
theorem risingKeys_any (b : Nat) (L : List (Pr × Value)) (w : World) (M : MapL w b L) (hl : L.length ≤ 1000000) :
 Calls Tryz.prog 93 #[.map (some b)] w fun e w' => ∃ (v : Value) (ts : List Pr), e = .returned v ∧ ts.Perm (L.map (·.1)) ∧ Rise ts ∧ RowPr 25 w.heap.size v ts w' ∧ Below w.heap.size w w' := by
 have b0 := (Below.refl w.heap.size w).alloc (Nat.le_refl _) (.cells #[.map (some b)] 53)
 have x0 := heap_alloc_new w (.cells #[.map (some b)] 53)
 have eg : ∀ args w, (callFunc 134 args).run Tryz.prog w = .ok (.enter 134 args) w := enters_of Tryz.func134 (by kernel_rfl) rfl
 have G := keysR_gives 1 (by omega) w.heap.size b L (w.alloc (.cells #[.map (some b)] 53)) (by simp) (Lib.cell_of_heap x0 0) (M.below b0)
 have E := sortedFunc_any _ _ eg _ L.length hl (w.alloc (.cells #[.map (some b)] 53)) (fun ss h => ⟨h.nodup_iff.2 M.nd, by have := h.length_eq; simp at this; omega⟩) G
 have K := mapsKeys_any b w
 have HB : Hid _ := b0
 clear b0 x0 eg G M
 go_enter Tryz.func93, Tryz.ntmps93
 go_wp2_with fail
 go_fit K
 rintro e w1 ⟨rfl, rfl⟩
 go_wp2_with fail
 go_fit E
 rintro e w2 ⟨v, ss, ts, rfl, q1, q2, q3, q4, q5⟩
 have HQ : Hid (_ ∧ _ ∧ _ ∧ _) := ⟨q2.trans q1, q3, own_mono q4 HB.out.size, HB.out.trans (q5.mono HB.out.size)⟩
 clear q1 q2 q3 q4 q5 E K
 go_wp2
 go_ret
 exact ⟨v, ts, rfl, HQ.out⟩
set_option maxRecDepth 100000 in
set_option maxHeartbeats 2000000 in
theorem waiting_any (g h q : Nat) (LH LW : List (Pr × Value)) (w : World) (B : BookAt w g h q LH LW) (hl : LW.length ≤ 1000000) :
 Calls Tryz.prog 58 #[.pointer (some ⟨g, 0, none⟩)] w fun e w' => ∃ (v : Value) (ts : List Pr), e = .returned v ∧ ts.Perm (LW.map (·.1)) ∧ Rise ts ∧ RowPr 25 w.heap.size v ts w' ∧ Below w.heap.size w w' := by
 have E := risingKeys_any q LW w B.wait hl
 have c0 : w.cell? ⟨g, 1, none⟩ = some (.map (some q)) := Lib.cell_of_heap B.box 1
 clear B
 go_enter Tryz.func58, Tryz.ntmps58
 go_wp2_with fail
 go_fit E
 rintro e w2 ⟨v, ts, rfl, HQ⟩
 have HH : Hid _ := HQ
 clear HQ E
 go_wp2
 go_ret
 exact ⟨v, ts, rfl, HH.out⟩
end Go.Proofs.YtejfemdkommfhaaGreatDoor
namespace Go.Proofs.YtejfemdkommfhaaGreatDoor
open Go.RowKit Go.Maps
theorem sameB_self (v : V) : sameB v v = true := by simp [sameB]
set_option maxRecDepth 100000 in
set_option maxHeartbeats 8000000 in
theorem sameOp_any (o p : OpM) (u v : Value) (w : World) (hu : IsPairs w u o.preds) (hv : IsPairs w v p.preds) :
 Calls Tryz.prog 52 #[opVal o u, opVal p v] w fun e w' => (∃ b : Bool, e = .returned (.bool b) ∧ (o = p → b = true)) ∧ Below w.heap.size w w' := by
 have b0 := ((Below.refl w.heap.size w).alloc (Nat.le_refl _) (.cells (opCells o u).toArray 83)).alloc (by simp) (.cells (opCells p v).toArray 83)
 have EP := equalD_any u v o.preds p.preds _ (hu.below b0) (hv.below b0)
 obtain ⟨ua, uc, rfl, _⟩ := hu
 obtain ⟨va, vc, rfl, _⟩ := hv
 have HB : Hid _ := b0
 have E1 := eqD o.obj p.obj
 have E2 := eqD o.elem p.elem
 have E3 := eqV o.val p.val
 obtain ⟨s1, h1⟩ : ∃ s : Bool, Hid (s = samePr o.obj p.obj) := ⟨_, rfl⟩
 obtain ⟨s2, h2⟩ : ∃ s : Bool, Hid (s = samePr o.elem p.elem) := ⟨_, rfl⟩
 obtain ⟨s3, h3⟩ : ∃ s : Bool, Hid (s = sameB o.val p.val) := ⟨_, rfl⟩
 rw [← h1.out] at E1
 rw [← h2.out] at E2
 rw [← h3.out] at E3
 have H1 : Hid (o = p → s1 = true) := fun e => by rw [h1.out, e]; exact (samePr_iff _ _).2 rfl
 have H2 : Hid (o = p → s2 = true) := fun e => by rw [h2.out, e]; exact (samePr_iff _ _).2 rfl
 have H3 : Hid (o = p → s3 = true) := fun e => by rw [h3.out, e]; exact sameB_self _
 have H4 : Hid (o = p → o.kind = p.kind ∧ o.key = p.key ∧ o.ins = p.ins ∧ o.preds = p.preds) := fun e => by rw [e]; exact ⟨rfl, rfl, rfl, rfl⟩
 unfold V.val at E3
 simp only [opVal, opCells] at EP HB ⊢
 clear b0 h1 h2 h3
 obtain ⟨ok, oo, oy, oe, oi, ⟨wk, wn, wt, wo, wa⟩, op⟩ := o
 obtain ⟨pk, po, py, pe, pi, ⟨xk, xn, xt, xo, xa⟩, pp⟩ := p
 dsimp only at *
 obtain ⟨HO, hHO⟩ : ∃ P : Prop, P = ((OpM.mk ok oo oy oe oi ⟨wk, wn, wt, wo, wa⟩ op) = (OpM.mk pk po py pe pi ⟨xk, xn, xt, xo, xa⟩ pp)) := ⟨_, rfl⟩
 rw [← hHO] at H1 H2 H3 H4 ⊢
 clear hHO
 by_cases c1 : ok = pk
 ·subst c1
  by_cases c2 : s1 = true
  ·subst c2
   by_cases c3 : oy.toList = py.toList
   ·have c3b : (oy.toList == py.toList) = true := by simp [c3]
    clear c3
    by_cases c4 : s2 = true
    ·subst c4
     by_cases c5 : oi = pi
     ·subst c5
      by_cases c6 : s3 = true
      ·subst c6
       go_enter Tryz.func52, Tryz.ntmps52
       go_wp2_with fail
       go_fit EP
       rintro e w1 ⟨⟨pb, rfl, hpb⟩, b1⟩
       have HP : Hid (pb = true ↔ op = pp) := hpb
       have HB1 : Hid (Below w.heap.size w w1) := HB.out.trans (b1.mono HB.out.size)
       clear hpb b1 EP
       go_wp2
       go_ret
       exact ⟨⟨pb, rfl, fun h => HP.out.2 (H4.out h).2.2.2⟩, HB1.out⟩
      ·obtain rfl : s3 = false := by simpa using c6
       go_enter Tryz.func52, Tryz.ntmps52
       go_wp2
       go_ret
       first | exact ⟨⟨false, rfl, fun h => absurd (H3.out h) (by simp)⟩, HB.out⟩ | exact ⟨Or.inl ⟨rfl, fun h => absurd (H3.out h) (by simp)⟩, HB.out⟩
     ·have c5b : (oi == pi) = false := by simp [c5]
      go_enter Tryz.func52, Tryz.ntmps52
      go_wp2
      go_ret
      first | exact ⟨⟨false, rfl, fun h => absurd ((H4.out h).2.2.1) (c5)⟩, HB.out⟩ | exact ⟨Or.inl ⟨rfl, fun h => absurd ((H4.out h).2.2.1) (c5)⟩, HB.out⟩
    ·obtain rfl : s2 = false := by simpa using c4
     go_enter Tryz.func52, Tryz.ntmps52
     go_wp2
     go_ret
     first | exact ⟨⟨false, rfl, fun h => absurd (H2.out h) (by simp)⟩, HB.out⟩ | exact ⟨Or.inl ⟨rfl, fun h => absurd (H2.out h) (by simp)⟩, HB.out⟩
   ·have c3b : (oy.toList == py.toList) = false := by simp [c3]
    go_enter Tryz.func52, Tryz.ntmps52
    go_wp2
    go_ret
    first | exact ⟨⟨false, rfl, fun h => absurd (congrArg ByteArray.toList (H4.out h).2.1) c3⟩, HB.out⟩ | exact ⟨Or.inl ⟨rfl, fun h => absurd (congrArg ByteArray.toList (H4.out h).2.1) c3⟩, HB.out⟩
  ·obtain rfl : s1 = false := by simpa using c2
   go_enter Tryz.func52, Tryz.ntmps52
   go_wp2
   go_ret
   first | exact ⟨⟨false, rfl, fun h => absurd (H1.out h) (by simp)⟩, HB.out⟩ | exact ⟨Or.inl ⟨rfl, fun h => absurd (H1.out h) (by simp)⟩, HB.out⟩
 ·have c1b : (ok == pk) = false := by simp [c1]
  go_enter Tryz.func52, Tryz.ntmps52
  go_wp2
  go_ret
  first | exact ⟨⟨false, rfl, fun h => absurd ((H4.out h).1) (c1)⟩, HB.out⟩ | exact ⟨Or.inl ⟨rfl, fun h => absurd ((H4.out h).1) (c1)⟩, HB.out⟩
end Go.Proofs.YtejfemdkommfhaaGreatDoor
