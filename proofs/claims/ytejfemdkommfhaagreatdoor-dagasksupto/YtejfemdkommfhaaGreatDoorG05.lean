/-
  What is proved: as each theorem says.
  Conditions: as each theorem says.
-/
import Derived.Test.YtejfemdkommfhaaGreatDoorG01
import Derived.Test.YtejfemdkommfhaaGreatDoorG04
import Derived.Shelf.Abstract
namespace Go.Proofs.YtejfemdkommfhaaGreatDoor
open Go.RowKit Go.Maps
structure Kp (S : List Nat) (w w' : World) : Prop where
 os : w'.os = w.os
 tape : w'.tape = w.tape
 output : w'.output = w.output
 size : w.heap.size ≤ w'.heap.size
 block : ∀ k, k < w.heap.size → k ∉ S → w'.heap[k]? = w.heap[k]?
theorem Kp.refl (S : List Nat) (w : World) : Kp S w w := ⟨rfl, rfl, rfl, Nat.le_refl _, fun _ _ _ => rfl⟩
theorem Kp.trans {S : List Nat} {w w1 w2 : World} (h : Kp S w w1) (k : Kp S w1 w2) : Kp S w w2 :=
 ⟨k.os.trans h.os, k.tape.trans h.tape, k.output.trans h.output, Nat.le_trans h.size k.size, fun b hb hS => (k.block b (Nat.lt_of_lt_of_le hb h.size) hS).trans (h.block b hb hS)⟩
theorem Kp.mono {S R : List Nat} {w w' : World} (h : Kp S w w') (hS : ∀ b ∈ S, b ∈ R) : Kp R w w' :=
 ⟨h.os, h.tape, h.output, h.size, fun b hb hR => h.block b hb (fun e => hR (hS b e))⟩
theorem Kp.of {S : List Nat} {w w' : World} (h : Below w.heap.size w w') : Kp S w w' := ⟨h.os, h.tape, h.output, h.size, fun k hk _ => h.block k hk⟩
theorem Kp.below {S : List Nat} {B : Nat} {w w' : World} (h : Kp S w w') (hB : ∀ b ∈ S, B ≤ b) (hz : B ≤ w.heap.size) : Below B w w' :=
 ⟨h.os, h.tape, h.output, h.size, fun k hk => h.block k (by omega) (fun e => by have := hB k e; omega)⟩
theorem lt_of_heap {w : World} {b : Nat} {o : Obj} (hb : w.heap[b]? = some o) : b < w.heap.size := by
 rcases Nat.lt_or_ge b w.heap.size with h1 | h1
 ·exact h1
 ·rw [Array.getElem?_eq_none h1] at hb; cases hb
theorem Kp.heap {S : List Nat} {w w' : World} {b : Nat} {o : Obj} (h : Kp S w w') (hb : w.heap[b]? = some o) (hS : b ∉ S) : w'.heap[b]? = some o := by
 rw [h.block b (lt_of_heap hb) hS]; exact hb
theorem Kp.turned {w w' : World} {b : Nat} (h : w.mapTurned w' b) : Kp [b] w w' :=
 have g := h.grown
 ⟨g.os, g.tape, g.output, g.size, fun k hk hS => g.block k hk (fun e => hS (by rw [Option.some.inj e]; simp))⟩
theorem MapL.kp {w w' : World} {b : Nat} {L : List (Pr × Value)} {S : List Nat} (h : MapL w b L) (k : Kp S w w') (hb : b ∉ S) : MapL w' b L := by
 obtain ⟨D, ⟨es, clock, h0, h1⟩, h2⟩ := h.own
 exact ⟨⟨D, ⟨es, clock, k.heap h0 hb, h1⟩, h2⟩, h.nd, h.r64⟩
structure BookAt (w : World) (g h q : Nat) (LH LW : List (Pr × Value)) : Prop where
 box : w.heap[g]? = some (.cells #[.map (some h), .map (some q)] 55)
 has : MapL w h LH
 wait : MapL w q LW
 ne : h ≠ q
theorem BookAt.below {w w' : World} {g h q : Nat} {LH LW : List (Pr × Value)} (B : BookAt w g h q LH LW) (b : Below w.heap.size w w') : BookAt w' g h q LH LW :=
 ⟨(Kp.of (S := []) b).heap B.box (by simp), B.has.below b, B.wait.below b, B.ne⟩
theorem zeroC (w : World) : (zeroValue 34).run Tryz.prog w = .ok (.agg #[.int .i64 0, .int .i64 0, .int .i64 0, .slice none 0 0, .slice none 0 0]) w := by kernel_rfl
set_option maxRecDepth 100000 in
set_option maxHeartbeats 2000000 in
theorem dnew_any (w : World) : Calls Tryz.prog 4 #[] w fun e w' => e = .returned (.pointer (some ⟨w.heap.size + 2, 0, none⟩)) ∧ BookAt w' (w.heap.size + 2) w.heap.size (w.heap.size + 1) [] [] ∧ Below w.heap.size w w' := by
 have hmm := @run_makeMap Tryz.prog
 have M0 := MapL.made w
 have M1 := MapL.made (w.alloc (.map #[] 0))
 have b1 := (Below.refl (w.alloc (.map #[] 0)).heap.size (w.alloc (.map #[] 0))).alloc (Nat.le_refl _) (.map #[] 0)
 have b2 := (Below.refl ((w.alloc (.map #[] 0)).alloc (.map #[] 0)).heap.size ((w.alloc (.map #[] 0)).alloc (.map #[] 0))).alloc (Nat.le_refl _) (.cells #[.map (some w.heap.size), .map (some (w.heap.size + 1))] 55)
 have e1 : (w.alloc (.map #[] 0)).heap.size = w.heap.size + 1 := by simp
 rw [e1] at M1
 have HF : Hid (_ ∧ _ ∧ _ ∧ _) := ⟨(M0.below b1).below b2, M1.below b2, (MapKept.heap_alloc ((w.alloc (.map #[] 0)).alloc (.map #[] 0)) (.cells #[.map (some w.heap.size), .map (some (w.heap.size + 1))] 55)).1, (((Below.refl w.heap.size w).alloc (Nat.le_refl _) (.map #[] 0)).alloc (by simp) (.map #[] 0)).alloc (by simp; omega) (.cells #[.map (some w.heap.size), .map (some (w.heap.size + 1))] 55)⟩
 clear M0 M1 b1 b2 e1
 go_enter Tryz.func4, Tryz.ntmps4
 go_wp2
 go_ret
 exact ⟨rfl, ⟨by have := HF.out.2.2.1; simpa using this, HF.out.1, HF.out.2.1, by omega⟩, HF.out.2.2.2⟩
def CV (v : Value) : Prop := ∃ (a s t : Int) (d : Option Addr) (n c : Nat) (o : Option Addr) (m e : Nat), v = .agg #[.int .i64 a, .int .i64 s, .int .i64 t, .slice d n c, .slice o m e]
abbrev zC : Value := .agg #[.int .i64 0, .int .i64 0, .int .i64 0, .slice none 0 0, .slice none 0 0]
theorem cv_look {L : List (Pr × Value)} (h : ∀ q ∈ L, CV q.2) (r : Pr) : CV ((lk L r).getD zC) := by
 cases hl : lk L r with
 | none => exact ⟨0, 0, 0, none, 0, 0, none, 0, 0, rfl⟩
 | some v => exact h _ (lk_mem hl)
set_option maxRecDepth 100000 in
set_option maxHeartbeats 2000000 in
theorem has_any (g h q : Nat) (LH LW : List (Pr × Value)) (r : Pr) (w : World) (B : BookAt w g h q LH LW) (hr : R64 r) (hC : ∀ q ∈ LH, CV q.2) :
 Calls Tryz.prog 8 #[.pointer (some ⟨g, 0, none⟩), refV r] w fun e w' => e = .returned (.bool (lk LH r).isSome) ∧ Below w.heap.size w w' := by
 have b0 := (Below.refl w.heap.size w).alloc (Nat.le_refl _) (.cells #[.int .i64 r.1, .int .i64 r.2] 25)
 have hz1 : w.heap.size < (w.alloc (.cells #[.int .i64 r.1, .int .i64 r.2] 25)).heap.size := by simp
 have B1 := B.below b0
 have x0 := (MapKept.heap_alloc w (.cells #[.int .i64 r.1, .int .i64 r.2] 25)).1
 have HA : Hid (_ ∧ _ ∧ _) := ⟨b0, B1, x0⟩
 clear B B1 b0 x0 hz1
 go_enter Tryz.func8, Tryz.ntmps8
 go_wp2
 obtain ⟨b0, B1, x0⟩ := HA.out
 clear HA
 generalize w.alloc (.cells #[.int .i64 r.1, .int .i64 r.2] 25) = W at *
 have c0 : W.cell? ⟨g, 0, none⟩ = some (.map (some h)) := Lib.cell_of_heap B1.box 0
 have r0 : W.cell? ⟨w.heap.size, 0, none⟩ = some (.int .i64 r.1) := Lib.cell_of_heap x0 0
 have r1 : W.cell? ⟨w.heap.size, 1, none⟩ = some (.int .i64 r.2) := Lib.cell_of_heap x0 1
 have hg := lt_of_heap B1.box
 have hx := lt_of_heap x0
 have hl := MapL.look (w := W.drew) ⟨B1.has.own, B1.has.nd, B1.has.r64⟩ Tryz.underlying53 (zeroC _) hr
 have B2 := B1.has.below ((Below.refl W.heap.size W).alloc (Nat.le_refl _) (.cells #[.int .i64 0, .int .i64 0, .int .i64 0, .slice none 0 0, .slice none 0 0] 34))
 have hl2 := MapL.look (w := (W.alloc (.cells #[.int .i64 0, .int .i64 0, .int .i64 0, .slice none 0 0, .slice none 0 0] 34)).drew) ⟨B2.own, B2.nd, B2.r64⟩ Tryz.underlying53 (zeroC _) hr
 obtain ⟨va, vs, vt, vd, vn, vc, vo, vm, ve, hv⟩ := cv_look hC r
 rw [hv] at hl hl2
 have HB : Hid (∀ o, Below w.heap.size w (W.alloc o).drew) := fun o => by
  have := b0.alloc (show w.heap.size ≤ W.heap.size by omega) o
  exact ⟨this.os, this.tape, this.output, this.size, this.block⟩
 clear b0 B1 B2 x0 hv hC
 obtain ⟨ib, HI⟩ : ∃ b : Bool, Hid (b = (lk LH r).isSome) := ⟨_, rfl⟩
 rw [← HI.out] at hl hl2
 go_region
 all_goals
  go_wp2
  go_ret
  exact ⟨by rw [← HI.out]; rfl, HB.out _⟩
end Go.Proofs.YtejfemdkommfhaaGreatDoor
namespace Go.Proofs.YtejfemdkommfhaaGreatDoor
open Go.RowKit Go.Maps
def idxP (p : Pr → Bool) : List Pr → Int
 | [] => -1
 | x :: l => if p x then 0 else if idxP p l = -1 then -1 else idxP p l + 1
def PredR (f : FuncId) (lb : Array Value) (p : Pr → Bool) (l : List Pr) (w : World) : Prop :=
 ∀ r ∈ l, ∀ W, Below w.heap.size w W → Calls Tryz.prog f (#[refV r] ++ lb) W fun e W' => e = .returned (.bool (p r)) ∧ Below W.heap.size W W'
theorem idxP_range (p : Pr → Bool) (l : List Pr) : -1 ≤ idxP p l ∧ idxP p l < l.length := by
 induction l with
 | nil => simp [idxP]
 | cons x l ih =>
  simp only [idxP, List.length_cons]
  split
  ·omega
  ·split <;> omega
theorem idxP_none {p : Pr → Bool} {l : List Pr} : idxP p l = -1 ↔ ∀ x ∈ l, p x = false := by
 induction l with
 | nil => simp [idxP]
 | cons x l ih =>
  have h1 := idxP_range p l
  simp only [idxP]
  split
  ·rename_i h; simp [h]
  ·rename_i h
   split
   ·rename_i e
    simp only [List.mem_cons, forall_eq_or_imp, true_iff]
    exact ⟨by simpa using h, ih.1 e⟩
   ·rename_i e
    simp only [List.mem_cons, forall_eq_or_imp]
    refine ⟨fun e2 => by omega, fun e2 => absurd (ih.2 e2.2) e⟩
theorem idxP_at (p : Pr → Bool) (l : List Pr) (k : Nat) (hk : k < l.length) (hno : ∀ j (hj : j < k), p (l[j]'(by omega)) = false) (hy : p l[k] = true) : idxP p l = k := by
 induction l generalizing k with
 | nil => simp at hk
 | cons x l ih =>
  cases k with
  | zero => simp only [List.getElem_cons_zero] at hy; simp [idxP, hy]
  | succ k =>
   have h0 := hno 0 (by omega)
   simp only [List.getElem_cons_zero] at h0
   have := ih k (by simpa using hk) (fun j hj => by have := hno (j + 1) (by omega); simpa using this) (by simpa using hy)
   simp only [idxP, h0]
   rw [this]
   rw [if_neg (by simp), if_neg (by omega)]
   omega
set_option maxRecDepth 100000 in
set_option maxHeartbeats 2000000 in
theorem idx_any (f : FuncId) (eg : ∀ args w, (callFunc f args).run Tryz.prog w = .ok (.enter f args) w) (c : Value) (p : Pr → Bool) (v : Value) (l : List Pr) (w : World) (hv : IsPairs w v l) (hp : PredR f #[c] p l w) :
 Calls Tryz.prog 69 #[v, .func (Fn.func f) #[] #[c]] w fun e w' => e = .returned (.int .i64 (idxP p l)) ∧ Below w.heap.size w w' := by
 obtain ⟨a, cap, rfl, h1, h2, hr, h3⟩ := hv
 have H3 : Hid (l ≠ [] → ∃ b off, a = some ⟨b, off, none⟩ ∧ _) := h3
 have HP : Hid (PredR f #[c] p l w) := hp
 have HZ : Hid (l.length ≤ cap ∧ l.length ≤ 8796093022208) := ⟨h1, h2⟩
 clear h3 hp hr h1 h2
 go_enter Tryz.func69, Tryz.ntmps69
 go_wp2_with fail
 go_loopw [8] (fun i wr => ∃ k : Nat, k ≤ l.length ∧ i = .int .i64 k ∧ Hid (∀ j (hj : j < k) (hl : j < l.length), p l[j] = false) ∧ Below w.heap.size w wr) (fun i _ => l.length - (RowKit.intOf i).toNat)
 case atStart => exact ⟨0, Nat.zero_le _, rfl, fun j hj => absurd hj (Nat.not_lt_zero _), Below.refl _ _⟩
 case round =>
  obtain ⟨k, hk, rfl, hno, hbel⟩ := hrel
  by_cases hlt : k < l.length
  ·obtain ⟨b, off, rfl, h4, h5⟩ := H3.out (fun e => by rw [e] at hlt; simp at hlt)
   have x0 : wr.cell? ⟨b, off + k * 2, none⟩ = some (.int .i64 l[k].1) := by rw [hbel.cell (p := ⟨b, off + k * 2, none⟩) h4]; exact (h5 k hlt).1
   have x1 : wr.cell? ⟨b, off + k * 2 + 1, none⟩ = some (.int .i64 l[k].2) := by rw [hbel.cell (p := ⟨b, off + k * 2 + 1, none⟩) h4]; exact (h5 k hlt).2
   have g1 : (k : Int) < l.length := by omega
   have g2 : (k : Int) < 8796093022208 := by have := HZ.out; omega
   have E := HP.out l[k] (List.getElem_mem hlt) wr hbel
   obtain ⟨q, hq⟩ : ∃ q : Pr, l[k] = q := ⟨_, rfl⟩
   have HK : Hid (k < l.length) := hlt
   have HQ : Hid (∀ h : k < l.length, l[k] = q) := fun _ => hq
   rw [hq] at x0 x1 E
   clear hq
   have HB : Hid (Below w.heap.size w wr) := hbel
   clear h5 hk hbel hlt
   cases hpq : p q with
   | true =>
    rw [hpq] at E
    go_wp2_with fail
    go_fit E
    rintro e w2 ⟨rfl, b2⟩
    have HB2 : Hid (Below w.heap.size w w2) := HB.out.trans (b2.mono HB.out.size)
    clear b2 E
    go_wp2
    go_ret
    have e1 := idxP_at p l k HK.out (fun j hj => hno.out j hj (by have := HK.out; omega)) (by rw [HQ.out HK.out]; exact hpq)
    exact ⟨by rw [e1]; rfl, HB2.out⟩
   | false =>
    rw [hpq] at E
    go_wp2_with fail
    go_fit E
    rintro e w2 ⟨rfl, b2⟩
    have HB2 : Hid (Below w.heap.size w w2) := HB.out.trans (b2.mono HB.out.size)
    clear b2 E
    go_wp2
    go_roundw
    case rel =>
     refine ⟨k + 1, HK.out, by go_num, fun j hj hl => ?_, HB2.out⟩
     rcases Nat.lt_or_ge j k with e | e
     ·exact hno.out j e hl
     ·obtain rfl : j = k := by omega
      rw [HQ.out HK.out]; exact hpq
    case measure => simp [RowKit.intOf]; have := HK.out; omega
  ·have hke : k = l.length := by omega
   subst hke
   have e1 : idxP p l = -1 := idxP_none.2 (fun x hx => by
    obtain ⟨j, hj, rfl⟩ := List.getElem_of_mem hx
    exact hno.out j hj hj)
   have HE : Hid (idxP p l = -1) := e1
   have HB : Hid (Below w.heap.size w wr) := hbel
   clear e1 hlt hk hno hbel
   go_wp2
   go_ret
   exact ⟨by rw [HE.out]; rfl, HB.out⟩
set_option maxRecDepth 100000 in
set_option maxHeartbeats 2000000 in
theorem contains_any (f : FuncId) (eg : ∀ args w, (callFunc f args).run Tryz.prog w = .ok (.enter f args) w) (c : Value) (p : Pr → Bool) (v : Value) (l : List Pr) (w : World) (hv : IsPairs w v l) (hp : PredR f #[c] p l w) :
 Calls Tryz.prog 54 #[v, .func (Fn.func f) #[] #[c]] w fun e w' => e = .returned (.bool (l.any p)) ∧ Below w.heap.size w w' := by
 have E := idx_any f eg c p v l w hv hp
 have hr := idxP_range p l
 have HR : Hid ((l.any p = true ↔ 0 ≤ idxP p l)) := by
  show _ ↔ _
  constructor
  ·intro h
   have : idxP p l ≠ -1 := fun e => by
    obtain ⟨x, hx, hy⟩ := List.any_eq_true.1 h
    rw [idxP_none.1 e x hx] at hy
    cases hy
   omega
  ·intro h
   cases ha : l.any p with
   | true => rfl
   | false =>
    have : idxP p l = -1 := idxP_none.2 (fun x hx => by
     cases hpx : p x with
     | false => rfl
     | true => rw [List.any_eq_true.2 ⟨x, hx, hpx⟩] at ha; cases ha)
    omega
 obtain ⟨ix, hix⟩ : ∃ x : Int, Hid (x = idxP p l) := ⟨_, rfl⟩
 rw [← hix.out] at E HR
 obtain ⟨a, cap, rfl, _⟩ := hv
 clear hr hp
 by_cases h0 : 0 ≤ ix
 ·go_enter Tryz.func54, Tryz.ntmps54
  go_wp2_with fail
  go_fit E
  rintro e w1 ⟨rfl, b1⟩
  go_wp2
  go_ret
  exact ⟨by rw [HR.out.2 h0]; simp, b1⟩
 ·go_enter Tryz.func54, Tryz.ntmps54
  go_wp2_with fail
  go_fit E
  rintro e w1 ⟨rfl, b1⟩
  go_wp2
  go_ret
  have : l.any p = false := by
   cases ha : l.any p with
   | false => rfl
   | true => exact absurd (HR.out.1 ha) (by omega)
  exact ⟨by rw [this]; simp [h0], b1⟩
end Go.Proofs.YtejfemdkommfhaaGreatDoor
namespace Go.Proofs.YtejfemdkommfhaaGreatDoor
open Go.RowKit Go.Maps
theorem heap_alloc_old {w : World} {b : Nat} {o : Obj} (h : w.heap[b]? = some o) (q : Obj) : (w.alloc q).heap[b]? = some o :=
 ((Below.refl w.heap.size w).alloc (Nat.le_refl _) q).block b (lt_of_heap h) |>.trans h
theorem heap_alloc_new (w : World) (o : Obj) : (w.alloc o).heap[w.heap.size]? = some o := (MapKept.heap_alloc w o).1
set_option maxRecDepth 100000 in
set_option maxHeartbeats 2000000 in
theorem left_any (g h q x : Nat) (LH LW : List (Pr × Value)) (r : Pr) (w : World) (B : BookAt w g h q LH LW) (hx : w.heap[x]? = some (.cells #[.pointer (some ⟨g, 0, none⟩)] 26)) (hr : R64 r) (hC : ∀ q ∈ LH, CV q.2) :
 Calls Tryz.prog 53 #[refV r, .pointer (some ⟨x, 0, none⟩)] w fun e w' => e = .returned (.bool (!(lk LH r).isSome)) ∧ Below w.heap.size w w' := by
 have b0 := (Below.refl w.heap.size w).alloc (Nat.le_refl _) (.cells #[.int .i64 r.1, .int .i64 r.2] 25)
 have E := has_any g h q LH LW r (w.alloc (.cells #[.int .i64 r.1, .int .i64 r.2] 25)) (B.below b0) hr hC
 have c0 : w.cell? ⟨x, 0, none⟩ = some (.pointer (some ⟨g, 0, none⟩)) := Lib.cell_of_heap hx 0
 have hz := lt_of_heap hx
 have HB : Hid (Below w.heap.size w (w.alloc (.cells #[.int .i64 r.1, .int .i64 r.2] 25))) := b0
 clear b0 B hx hC hr
 obtain ⟨ib, HI⟩ : ∃ b : Bool, Hid (b = (lk LH r).isSome) := ⟨_, rfl⟩
 rw [← HI.out] at E ⊢
 go_enter Tryz.func53, Tryz.ntmps53
 go_wp2_with fail
 go_fit E
 rintro e w1 ⟨rfl, b1⟩
 go_wp2
 go_ret
 exact ⟨rfl, HB.out.trans (b1.mono (by simp))⟩
def hasL (L : List (Pr × Value)) (l : List Pr) : Bool := l.all fun r => (lk L r).isSome
set_option maxRecDepth 100000 in
set_option maxHeartbeats 2000000 in
theorem hasAll_any (g h q : Nat) (LH LW : List (Pr × Value)) (v : Value) (l : List Pr) (w : World) (B : BookAt w g h q LH LW) (hv : IsPairs w v l) (hC : ∀ q ∈ LH, CV q.2) :
 Calls Tryz.prog 29 #[.pointer (some ⟨g, 0, none⟩), v] w fun e w' => e = .returned (.bool (hasL LH l)) ∧ Below w.heap.size w w' := by
 have b0 := (Below.refl w.heap.size w).alloc (Nat.le_refl _) (.cells #[.pointer (some ⟨g, 0, none⟩)] 26)
 have hr : ∀ r ∈ l, R64 r := by obtain ⟨_, _, _, _, _, hr, _⟩ := hv; exact hr
 have eg : ∀ args w, (callFunc 53 args).run Tryz.prog w = .ok (.enter 53 args) w := enters_of Tryz.func53 (by kernel_rfl) rfl
 have x0 := heap_alloc_new w (.cells #[.pointer (some ⟨g, 0, none⟩)] 26)
 have E := contains_any 53 eg (.pointer (some ⟨w.heap.size, 0, none⟩)) (fun r => !(lk LH r).isSome) v l (w.alloc (.cells #[.pointer (some ⟨g, 0, none⟩)] 26)) (hv.below b0) (fun r hm W hb =>
  left_any g h q w.heap.size LH LW r W ((B.below b0).below hb) ((Kp.of (S := []) hb).heap x0 (by simp)) (hr r hm) hC)
 have HB : Hid (Below w.heap.size w (w.alloc (.cells #[.pointer (some ⟨g, 0, none⟩)] 26))) := b0
 have e1 : hasL LH l = !(l.any fun r => !(lk LH r).isSome) := by unfold hasL; rw [List.all_eq_not_any_not]
 rw [e1]
 obtain ⟨a, cap, rfl, _⟩ := hv
 generalize (l.any fun r => !(lk LH r).isSome) = ib at *
 clear b0 B hC hr x0 eg e1
 go_enter Tryz.func29, Tryz.ntmps29
 go_wp2_with fail
 go_fit E
 rintro e w1 ⟨rfl, b1⟩
 go_wp2
 go_ret
 exact ⟨rfl, HB.out.trans (b1.mono (by simp))⟩
end Go.Proofs.YtejfemdkommfhaaGreatDoor
