/-
  What is proved: what IndexFunc and ContainsFunc of package slices answer of a list of refs, whatever function is handed to them. what package dag's hasAll and refOf answer of a book that lies in memory. what package dag's refOf and find answer.
  Conditions: as each theorem says.
-/
import Derived.Test.YtbjnemmghpmjjaaDKp
import Derived.Shelf.Abstract
namespace Go.Proofs.Ytbjnemmghpmjjaa
open Go.RowKit Go.Maps

/-- The first index of which something holds; -1, if there is none. -/
def idxP (p : Pr → Bool) : List Pr → Int
  | [] => -1
  | x :: l => if p x then 0 else if idxP p l = -1 then -1 else idxP p l + 1

/-- A function that answers of each ref, and turns nothing that was there. -/
def PredR (f : FuncId) (lb : Array Value) (p : Pr → Bool) (l : List Pr) (w : World) : Prop :=
  ∀ r ∈ l, ∀ W, Below w.heap.size w W → Calls Try.prog f (#[refV r] ++ lb) W fun e W' => e = .returned (.bool (p r)) ∧ Below W.heap.size W W'

theorem idxP_range (p : Pr → Bool) (l : List Pr) : -1 ≤ idxP p l ∧ idxP p l < l.length := by
  induction l with
  | nil => simp [idxP]
  | cons x l ih =>
    simp only [idxP, List.length_cons]
    split
    · omega
    · split <;> omega
theorem idxP_none {p : Pr → Bool} {l : List Pr} : idxP p l = -1 ↔ ∀ x ∈ l, p x = false := by
  induction l with
  | nil => simp [idxP]
  | cons x l ih =>
    have h1 := idxP_range p l
    simp only [idxP]
    split
    · rename_i h; simp [h]
    · rename_i h
      split
      · rename_i e
        simp only [List.mem_cons, forall_eq_or_imp, true_iff]
        exact ⟨by simpa using h, ih.1 e⟩
      · rename_i e
        simp only [List.mem_cons, forall_eq_or_imp]
        refine ⟨fun e2 => by omega, fun e2 => absurd (ih.2 e2.2) e⟩
theorem idxP_at (p : Pr → Bool) (l : List Pr) (k : Nat) (hk : k < l.length) (hno : ∀ j (hj : j < k), p (l[j]'(by omega)) = false) (hy : p l[k] = true) : idxP p l = k := by
  induction l generalizing k with
  | nil => simp at hk
  | cons x l ih =>
    cases k with
    | zero => simp only [List.getElem_cons_zero] at hy; simp [idxP, hy]
    | succ k =>
      have h0 := hno 0 (by omega)
      simp only [List.getElem_cons_zero] at h0
      have := ih k (by simpa using hk) (fun j hj => by have := hno (j + 1) (by omega); simpa using this) (by simpa using hy)
      simp only [idxP, h0]
      rw [this]
      rw [if_neg (by simp), if_neg (by omega)]
      omega

set_option maxRecDepth 100000 in
set_option maxHeartbeats 2000000 in
theorem idx_any (f : FuncId) (eg : ∀ args w, (callFunc f args).run Try.prog w = .ok (.enter f args) w) (c : Value) (p : Pr → Bool) (v : Value) (l : List Pr) (w : World) (hv : IsPairs w v l) (hp : PredR f #[c] p l w) :
    Calls Try.prog 24 #[v, .func (Fn.func f) #[] #[c]] w fun e w' => e = .returned (.int .i64 (idxP p l)) ∧ Below w.heap.size w w' := by
  obtain ⟨a, cap, rfl, h1, h2, hr, h3⟩ := hv
  have H3 : Hid (l ≠ [] → ∃ b off, a = some ⟨b, off, none⟩ ∧ _) := h3
  have HP : Hid (PredR f #[c] p l w) := hp
  have HZ : Hid (l.length ≤ cap ∧ l.length ≤ 8796093022208) := ⟨h1, h2⟩
  clear h3 hp hr h1 h2
  go_enter Try.func24, Try.ntmps24
  go_wp2_with fail
  go_loopw [8] (fun i wr => ∃ k : Nat, k ≤ l.length ∧ i = .int .i64 k ∧ Hid (∀ j (hj : j < k) (hl : j < l.length), p l[j] = false) ∧ Below w.heap.size w wr) (fun i _ => l.length - (RowKit.intOf i).toNat)
  case atStart => exact ⟨0, Nat.zero_le _, rfl, fun j hj => absurd hj (Nat.not_lt_zero _), Below.refl _ _⟩
  case round =>
    obtain ⟨k, hk, rfl, hno, hbel⟩ := hrel
    by_cases hlt : k < l.length
    · obtain ⟨b, off, rfl, h4, h5⟩ := H3.out (fun e => by rw [e] at hlt; simp at hlt)
      have x0 : wr.cell? ⟨b, off + k * 2, none⟩ = some (.int .i64 l[k].1) := by rw [hbel.cell (p := ⟨b, off + k * 2, none⟩) h4]; exact (h5 k hlt).1
      have x1 : wr.cell? ⟨b, off + k * 2 + 1, none⟩ = some (.int .i64 l[k].2) := by rw [hbel.cell (p := ⟨b, off + k * 2 + 1, none⟩) h4]; exact (h5 k hlt).2
      have g1 : (k : Int) < l.length := by omega
      have g2 : (k : Int) < 8796093022208 := by have := HZ.out; omega
      have E := HP.out l[k] (List.getElem_mem hlt) wr hbel
      obtain ⟨q, hq⟩ : ∃ q : Pr, l[k] = q := ⟨_, rfl⟩
      have HK : Hid (k < l.length) := hlt
      have HQ : Hid (∀ h : k < l.length, l[k] = q) := fun _ => hq
      rw [hq] at x0 x1 E
      clear hq
      have HB : Hid (Below w.heap.size w wr) := hbel
      clear h5 hk hbel hlt
      cases hpq : p q with
      | true =>
        rw [hpq] at E
        go_wp2_with fail
        go_fit E
        rintro e w2 ⟨rfl, b2⟩
        have HB2 : Hid (Below w.heap.size w w2) := HB.out.trans (b2.mono HB.out.size)
        clear b2 E
        go_wp2
        go_ret
        have e1 := idxP_at p l k HK.out (fun j hj => hno.out j hj (by have := HK.out; omega)) (by rw [HQ.out HK.out]; exact hpq)
        exact ⟨by rw [e1]; rfl, HB2.out⟩
      | false =>
        rw [hpq] at E
        go_wp2_with fail
        go_fit E
        rintro e w2 ⟨rfl, b2⟩
        have HB2 : Hid (Below w.heap.size w w2) := HB.out.trans (b2.mono HB.out.size)
        clear b2 E
        go_wp2
        go_roundw
        case rel =>
          refine ⟨k + 1, HK.out, by go_num, fun j hj hl => ?_, HB2.out⟩
          rcases Nat.lt_or_ge j k with e | e
          · exact hno.out j e hl
          · obtain rfl : j = k := by omega
            rw [HQ.out HK.out]; exact hpq
        case measure => simp [RowKit.intOf]; have := HK.out; omega
    · have hke : k = l.length := by omega
      subst hke
      have e1 : idxP p l = -1 := idxP_none.2 (fun x hx => by
        obtain ⟨j, hj, rfl⟩ := List.getElem_of_mem hx
        exact hno.out j hj hj)
      have HE : Hid (idxP p l = -1) := e1
      have HB : Hid (Below w.heap.size w wr) := hbel
      clear e1 hlt hk hno hbel
      go_wp2
      go_ret
      exact ⟨by rw [HE.out]; rfl, HB.out⟩

set_option maxRecDepth 100000 in
set_option maxHeartbeats 2000000 in
theorem contains_any (f : FuncId) (eg : ∀ args w, (callFunc f args).run Try.prog w = .ok (.enter f args) w) (c : Value) (p : Pr → Bool) (v : Value) (l : List Pr) (w : World) (hv : IsPairs w v l) (hp : PredR f #[c] p l w) :
    Calls Try.prog 22 #[v, .func (Fn.func f) #[] #[c]] w fun e w' => e = .returned (.bool (l.any p)) ∧ Below w.heap.size w w' := by
  have E := idx_any f eg c p v l w hv hp
  have hr := idxP_range p l
  have HR : Hid ((l.any p = true ↔ 0 ≤ idxP p l)) := by
    show _ ↔ _
    constructor
    · intro h
      have : idxP p l ≠ -1 := fun e => by
        obtain ⟨x, hx, hy⟩ := List.any_eq_true.1 h
        rw [idxP_none.1 e x hx] at hy
        cases hy
      omega
    · intro h
      cases ha : l.any p with
      | true => rfl
      | false =>
        have : idxP p l = -1 := idxP_none.2 (fun x hx => by
          cases hpx : p x with
          | false => rfl
          | true => rw [List.any_eq_true.2 ⟨x, hx, hpx⟩] at ha; cases ha)
        omega
  obtain ⟨ix, hix⟩ : ∃ x : Int, Hid (x = idxP p l) := ⟨_, rfl⟩
  rw [← hix.out] at E HR
  obtain ⟨a, cap, rfl, _⟩ := hv
  clear hr hp
  by_cases h0 : 0 ≤ ix
  · go_enter Try.func22, Try.ntmps22
    go_wp2_with fail
    go_fit E
    rintro e w1 ⟨rfl, b1⟩
    go_wp2
    go_ret
    exact ⟨by rw [HR.out.2 h0]; simp, b1⟩
  · go_enter Try.func22, Try.ntmps22
    go_wp2_with fail
    go_fit E
    rintro e w1 ⟨rfl, b1⟩
    go_wp2
    go_ret
    have : l.any p = false := by
      cases ha : l.any p with
      | false => rfl
      | true => exact absurd (HR.out.1 ha) (by omega)
    exact ⟨by rw [this]; simp [h0], b1⟩
end Go.Proofs.Ytbjnemmghpmjjaa

namespace Go.Proofs.Ytbjnemmghpmjjaa
open Go.RowKit Go.Maps

theorem heap_alloc_old {w : World} {b : Nat} {o : Obj} (h : w.heap[b]? = some o) (q : Obj) : (w.alloc q).heap[b]? = some o :=
  ((Below.refl w.heap.size w).alloc (Nat.le_refl _) q).block b (lt_of_heap h) |>.trans h
theorem heap_alloc_new (w : World) (o : Obj) : (w.alloc o).heap[w.heap.size]? = some o := (MapKept.heap_alloc w o).1

set_option maxRecDepth 100000 in
set_option maxHeartbeats 2000000 in
theorem left_any (g h q x : Nat) (LH LW : List (Pr × Value)) (r : Pr) (w : World) (B : BookAt w g h q LH LW) (hx : w.heap[x]? = some (.cells #[.pointer (some ⟨g, 0, none⟩)] 23)) (hr : R64 r) (hC : ∀ q ∈ LH, CV q.2) :
    Calls Try.prog 34 #[refV r, .pointer (some ⟨x, 0, none⟩)] w fun e w' => e = .returned (.bool (!(lk LH r).isSome)) ∧ Below w.heap.size w w' := by
  have b0 := (Below.refl w.heap.size w).alloc (Nat.le_refl _) (.cells #[.int .i64 r.1, .int .i64 r.2] 34)
  have E := has_any g h q LH LW r (w.alloc (.cells #[.int .i64 r.1, .int .i64 r.2] 34)) (B.below b0) hr hC
  have c0 : w.cell? ⟨x, 0, none⟩ = some (.pointer (some ⟨g, 0, none⟩)) := Lib.cell_of_heap hx 0
  have hz := lt_of_heap hx
  have HB : Hid (Below w.heap.size w (w.alloc (.cells #[.int .i64 r.1, .int .i64 r.2] 34))) := b0
  clear b0 B hx hC hr
  obtain ⟨ib, HI⟩ : ∃ b : Bool, Hid (b = (lk LH r).isSome) := ⟨_, rfl⟩
  rw [← HI.out] at E ⊢
  go_enter Try.func34, Try.ntmps34
  go_wp2_with fail
  go_fit E
  rintro e w1 ⟨rfl, b1⟩
  go_wp2
  go_ret
  exact ⟨rfl, HB.out.trans (b1.mono (by simp))⟩

/-- All of a list of refs stand in a list of entries. -/
def hasL (L : List (Pr × Value)) (l : List Pr) : Bool := l.all fun r => (lk L r).isSome

set_option maxRecDepth 100000 in
set_option maxHeartbeats 2000000 in
theorem hasAll_any (g h q : Nat) (LH LW : List (Pr × Value)) (v : Value) (l : List Pr) (w : World) (B : BookAt w g h q LH LW) (hv : IsPairs w v l) (hC : ∀ q ∈ LH, CV q.2) :
    Calls Try.prog 16 #[.pointer (some ⟨g, 0, none⟩), v] w fun e w' => e = .returned (.bool (hasL LH l)) ∧ Below w.heap.size w w' := by
  have b0 := (Below.refl w.heap.size w).alloc (Nat.le_refl _) (.cells #[.pointer (some ⟨g, 0, none⟩)] 23)
  have hr : ∀ r ∈ l, R64 r := by obtain ⟨_, _, _, _, _, hr, _⟩ := hv; exact hr
  have eg : ∀ args w, (callFunc 34 args).run Try.prog w = .ok (.enter 34 args) w := enters_of Try.func34 (by kernel_rfl) rfl
  have x0 := heap_alloc_new w (.cells #[.pointer (some ⟨g, 0, none⟩)] 23)
  have E := contains_any 34 eg (.pointer (some ⟨w.heap.size, 0, none⟩)) (fun r => !(lk LH r).isSome) v l (w.alloc (.cells #[.pointer (some ⟨g, 0, none⟩)] 23)) (hv.below b0) (fun r hm W hb =>
    left_any g h q w.heap.size LH LW r W ((B.below b0).below hb) ((Kp.of (S := []) hb).heap x0 (by simp)) (hr r hm) hC)
  have HB : Hid (Below w.heap.size w (w.alloc (.cells #[.pointer (some ⟨g, 0, none⟩)] 23))) := b0
  have e1 : hasL LH l = !(l.any fun r => !(lk LH r).isSome) := by unfold hasL; rw [List.all_eq_not_any_not]
  rw [e1]
  obtain ⟨a, cap, rfl, _⟩ := hv
  generalize (l.any fun r => !(lk LH r).isSome) = ib at *
  clear b0 B hC hr x0 eg e1
  go_enter Try.func16, Try.ntmps16
  go_wp2_with fail
  go_fit E
  rintro e w1 ⟨rfl, b1⟩
  go_wp2
  go_ret
  exact ⟨rfl, HB.out.trans (b1.mono (by simp))⟩
end Go.Proofs.Ytbjnemmghpmjjaa

namespace Go.Proofs.Ytbjnemmghpmjjaa
open Go.RowKit Go.Maps

set_option maxRecDepth 100000 in
set_option maxHeartbeats 2000000 in
theorem refOf_any (a s t : Int) (d : Option Addr) (n c : Nat) (o : Option Addr) (m e : Nat) (w : World) :
    Calls Try.prog 13 #[.agg #[.int .i64 a, .int .i64 s, .int .i64 t, .slice d n c, .slice o m e]] w fun x w' => x = .returned (refV (a, s)) ∧ Below w.heap.size w w' := by
  go_enter Try.func13, Try.ntmps13
  go_wp2
  go_returns
  exact ⟨rfl, ((Below.refl _ _).alloc (Nat.le_refl _) _).alloc (by simp) _⟩

/-- What a book has at a ref, or what waits there. -/
def fnd (LH LW : List (Pr × Value)) (r : Pr) : Option Value := (lk LH r).or (lk LW r)

theorem drew_of {B : Nat} {w W : World} (h : Below B w W) : Below B w W.drew := ⟨h.os, h.tape, h.output, h.size, h.block⟩

set_option maxRecDepth 100000 in
set_option maxHeartbeats 4000000 in
theorem dfind_yes (g h q : Nat) (LH LW : List (Pr × Value)) (r : Pr) (u : Value) (w : World) (B : BookAt w g h q LH LW) (hr : R64 r) (hC : ∀ q ∈ LH, CV q.2) (hu : lk LH r = some u) :
    Calls Try.prog 14 #[.pointer (some ⟨g, 0, none⟩), refV r] w fun e w' => e = .returned (.tuple #[u, .bool true]) ∧ Below w.heap.size w w' := by
  have b0 := ((Below.refl w.heap.size w).alloc (Nat.le_refl _) (.cells #[.int .i64 r.1, .int .i64 r.2] 34)).alloc (by simp) (.cells #[.int .i64 0, .int .i64 0, .int .i64 0, .slice none 0 0, .slice none 0 0] 31)
  have b1 := ((Below.refl w.heap.size w).alloc (Nat.le_refl _) (.cells #[.int .i64 r.1, .int .i64 r.2] 34))
  have B1 := B.below b0
  have x0 := heap_alloc_old (heap_alloc_new w (.cells #[.int .i64 r.1, .int .i64 r.2] 34)) (.cells #[.int .i64 0, .int .i64 0, .int .i64 0, .slice none 0 0, .slice none 0 0] 31)
  have y0 : ((w.alloc (.cells #[.int .i64 r.1, .int .i64 r.2] 34)).alloc (.cells #[.int .i64 0, .int .i64 0, .int .i64 0, .slice none 0 0, .slice none 0 0] 31)).heap[w.heap.size + 1]? = some (.cells #[.int .i64 0, .int .i64 0, .int .i64 0, .slice none 0 0, .slice none 0 0] 31) := by
    have := heap_alloc_new (w.alloc (.cells #[.int .i64 r.1, .int .i64 r.2] 34)) (.cells #[.int .i64 0, .int .i64 0, .int .i64 0, .slice none 0 0, .slice none 0 0] 31)
    simpa using this
  have HA : Hid (_ ∧ _ ∧ _ ∧ _) := ⟨b0, B1, x0, y0⟩
  clear B B1 b0 x0 y0 b1
  go_enter Try.func14, Try.ntmps14
  go_wp2
  obtain ⟨b0, B1, x0, y0⟩ := HA.out
  clear HA
  generalize (w.alloc (.cells #[.int .i64 r.1, .int .i64 r.2] 34)).alloc (.cells #[.int .i64 0, .int .i64 0, .int .i64 0, .slice none 0 0, .slice none 0 0] 31) = W at *
  have c0 : W.cell? ⟨g, 0, none⟩ = some (.map (some h)) := Lib.cell_of_heap B1.box 0
  have r0 : W.cell? ⟨w.heap.size, 0, none⟩ = some (.int .i64 r.1) := Lib.cell_of_heap x0 0
  have r1 : W.cell? ⟨w.heap.size, 1, none⟩ = some (.int .i64 r.2) := Lib.cell_of_heap x0 1
  have hg := lt_of_heap B1.box
  have hx := lt_of_heap x0
  have hy := lt_of_heap y0
  have z0 : W.cell? ⟨w.heap.size + 1, 0, none⟩ = some (.int .i64 0) := Lib.cell_of_heap y0 0
  have z1 : W.cell? ⟨w.heap.size + 1, 1, none⟩ = some (.int .i64 0) := Lib.cell_of_heap y0 1
  have z2 : W.cell? ⟨w.heap.size + 1, 2, none⟩ = some (.int .i64 0) := Lib.cell_of_heap y0 2
  have z3 : W.cell? ⟨w.heap.size + 1, 3, none⟩ = some (.slice none 0 0) := Lib.cell_of_heap y0 3
  have z4 : W.cell? ⟨w.heap.size + 1, 4, none⟩ = some (.slice none 0 0) := Lib.cell_of_heap y0 4
  have zf := Lib.frozen_of_heap y0
  have HC0 : Hid (_ ∧ _ ∧ _) := ⟨c0, r0, r1⟩
  have hl := MapL.look (w := W.drew) ⟨B1.has.own, B1.has.nd, B1.has.r64⟩ Try.underlying41 (zeroC _) hr
  have B2 := B1.has.below ((Below.refl W.heap.size W).alloc (Nat.le_refl _) (.cells #[.int .i64 0, .int .i64 0, .int .i64 0, .slice none 0 0, .slice none 0 0] 31))
  have hl2 := MapL.look (w := (W.alloc (.cells #[.int .i64 0, .int .i64 0, .int .i64 0, .slice none 0 0, .slice none 0 0] 31)).drew) ⟨B2.own, B2.nd, B2.r64⟩ Try.underlying41 (zeroC _) hr
  rw [hu] at hl hl2
  obtain ⟨va, vs, vt, vd, vn, vc, vo, vm, ve, rfl⟩ := hC _ (lk_mem hu)
  simp only [Option.getD_some, Option.isSome_some] at hl hl2
  have HB : Hid (∀ o, Below w.heap.size w (W.alloc o).drew) := fun o => drew_of (b0.alloc (show w.heap.size ≤ W.heap.size by omega) o)
  have HY : Hid (∀ o, (W.alloc o).drew.heap[w.heap.size + 1]? = some (.cells #[.int .i64 0, .int .i64 0, .int .i64 0, .slice none 0 0, .slice none 0 0] 31)) := fun o => heap_alloc_old y0 o
  clear b0 B1 B2 x0 y0 hC hu
  have HN : Hid (∀ o, (W.alloc o).drew.heap[W.heap.size]? = some o) := fun o => heap_alloc_new W o
  clear z0 z1 z2 z3 z4 c0 r0 r1 zf
  have c0 : W.cell? ⟨g, 0, none⟩ = some (.map (some h)) := HC0.out.1
  have r0 := HC0.out.2.1
  have r1 := HC0.out.2.2
  go_region
  all_goals
    clear hl hl2 c0 r0 r1
    have y1 := HY.out (.cells #[.int .i64 va, .int .i64 vs, .int .i64 vt, .slice vd vn vc, .slice vo vm ve] 31)
    have n1 := HN.out (.cells #[.int .i64 va, .int .i64 vs, .int .i64 vt, .slice vd vn vc, .slice vo vm ve] 31)
    have bb := HB.out (.cells #[.int .i64 va, .int .i64 vs, .int .i64 vt, .slice vd vn vc, .slice vo vm ve] 31)
    have hne : w.heap.size + 1 ≠ W.heap.size := by omega
    generalize (W.alloc (.cells #[.int .i64 va, .int .i64 vs, .int .i64 vt, .slice vd vn vc, .slice vo vm ve] 31)).drew = V at *
    have m0 : V.cell? ⟨W.heap.size, 0, none⟩ = some (.int .i64 va) := Lib.cell_of_heap n1 0
    have m1 : V.cell? ⟨W.heap.size, 1, none⟩ = some (.int .i64 vs) := Lib.cell_of_heap n1 1
    have m2 : V.cell? ⟨W.heap.size, 2, none⟩ = some (.int .i64 vt) := Lib.cell_of_heap n1 2
    have m3 : V.cell? ⟨W.heap.size, 3, none⟩ = some (.slice vd vn vc) := Lib.cell_of_heap n1 3
    have m4 : V.cell? ⟨W.heap.size, 4, none⟩ = some (.slice vo vm ve) := Lib.cell_of_heap n1 4
    have z0 : V.cell? ⟨w.heap.size + 1, 0, none⟩ = some (.int .i64 0) := Lib.cell_of_heap y1 0
    have z1 : V.cell? ⟨w.heap.size + 1, 1, none⟩ = some (.int .i64 0) := Lib.cell_of_heap y1 1
    have z2 : V.cell? ⟨w.heap.size + 1, 2, none⟩ = some (.int .i64 0) := Lib.cell_of_heap y1 2
    have z3 : V.cell? ⟨w.heap.size + 1, 3, none⟩ = some (.slice none 0 0) := Lib.cell_of_heap y1 3
    have z4 : V.cell? ⟨w.heap.size + 1, 4, none⟩ = some (.slice none 0 0) := Lib.cell_of_heap y1 4
    have zf := Lib.frozen_of_heap y1
    have HX : Hid (_ ∧ _) := ⟨set_at (set_at (set_at (set_at (set_at y1 0 (.int .i64 va)) 1 (.int .i64 vs)) 2 (.int .i64 vt)) 3 (.slice vd vn vc)) 4 (.slice vo vm ve), ((((bb.setCell (p := ⟨w.heap.size + 1, 0, none⟩) (Nat.le_succ _) (.int .i64 va)).setCell (p := ⟨w.heap.size + 1, 1, none⟩) (Nat.le_succ _) (.int .i64 vs)).setCell (p := ⟨w.heap.size + 1, 2, none⟩) (Nat.le_succ _) (.int .i64 vt)).setCell (p := ⟨w.heap.size + 1, 3, none⟩) (Nat.le_succ _) (.slice vd vn vc)).setCell (p := ⟨w.heap.size + 1, 4, none⟩) (Nat.le_succ _) (.slice vo vm ve)⟩
    clear y1 n1 bb
    go_wp2
    obtain ⟨X, bz⟩ := HX.out
    clear HX m0 m1 m2 m3 m4 z0 z1 z2 z3 z4 zf
    generalize (((((V.setCell ⟨w.heap.size + 1, 0, none⟩ (.int .i64 va)).setCell ⟨w.heap.size + 1, 1, none⟩ (.int .i64 vs)).setCell ⟨w.heap.size + 1, 2, none⟩ (.int .i64 vt)).setCell ⟨w.heap.size + 1, 3, none⟩ (.slice vd vn vc)).setCell ⟨w.heap.size + 1, 4, none⟩ (.slice vo vm ve)) = Z at *
    have q0 : Z.cell? ⟨w.heap.size + 1, 0, none⟩ = some (.int .i64 va) := Lib.cell_of_heap X 0
    have q1 : Z.cell? ⟨w.heap.size + 1, 1, none⟩ = some (.int .i64 vs) := Lib.cell_of_heap X 1
    have q2 : Z.cell? ⟨w.heap.size + 1, 2, none⟩ = some (.int .i64 vt) := Lib.cell_of_heap X 2
    have q3 : Z.cell? ⟨w.heap.size + 1, 3, none⟩ = some (.slice vd vn vc) := Lib.cell_of_heap X 3
    have q4 : Z.cell? ⟨w.heap.size + 1, 4, none⟩ = some (.slice vo vm ve) := Lib.cell_of_heap X 4
    exact bodyPost_ret (v := .tuple #[.agg #[.int .i64 va, .int .i64 vs, .int .i64 vt, .slice vd vn vc, .slice vo vm ve], .bool true]) (by simp [results, Try.results14, go_sem, q0, q1, q2, q3, q4]) rfl ⟨rfl, bz⟩

set_option maxRecDepth 100000 in
set_option maxHeartbeats 8000000 in
theorem dfind_no (g h q : Nat) (LH LW : List (Pr × Value)) (r : Pr) (w : World) (B : BookAt w g h q LH LW) (hr : R64 r) (hC : ∀ q ∈ LW, CV q.2) (hu : lk LH r = none) :
    Calls Try.prog 14 #[.pointer (some ⟨g, 0, none⟩), refV r] w fun e w' => e = .returned (.tuple #[(lk LW r).getD zC, .bool (lk LW r).isSome]) ∧ Below w.heap.size w w' := by
  have b0 := ((Below.refl w.heap.size w).alloc (Nat.le_refl _) (.cells #[.int .i64 r.1, .int .i64 r.2] 34)).alloc (by simp) (.cells #[.int .i64 0, .int .i64 0, .int .i64 0, .slice none 0 0, .slice none 0 0] 31)
  have B1 := B.below b0
  have x0 := heap_alloc_old (heap_alloc_new w (.cells #[.int .i64 r.1, .int .i64 r.2] 34)) (.cells #[.int .i64 0, .int .i64 0, .int .i64 0, .slice none 0 0, .slice none 0 0] 31)
  have y0 : ((w.alloc (.cells #[.int .i64 r.1, .int .i64 r.2] 34)).alloc (.cells #[.int .i64 0, .int .i64 0, .int .i64 0, .slice none 0 0, .slice none 0 0] 31)).heap[w.heap.size + 1]? = some (.cells #[.int .i64 0, .int .i64 0, .int .i64 0, .slice none 0 0, .slice none 0 0] 31) := by
    have := heap_alloc_new (w.alloc (.cells #[.int .i64 r.1, .int .i64 r.2] 34)) (.cells #[.int .i64 0, .int .i64 0, .int .i64 0, .slice none 0 0, .slice none 0 0] 31)
    simpa using this
  have HA : Hid (_ ∧ _ ∧ _ ∧ _) := ⟨b0, B1, x0, y0⟩
  clear B B1 b0 x0 y0
  obtain ⟨va, vs, vt, vd, vn, vc, vo, vm, ve, hv⟩ := cv_look hC r
  obtain ⟨ib, HI⟩ : ∃ b : Bool, Hid (b = (lk LW r).isSome) := ⟨_, rfl⟩
  have HV : Hid _ := hv
  rw [← HI.out, hv]
  clear hC hv
  go_enter Try.func14, Try.ntmps14
  go_wp2
  obtain ⟨b0, B1, x0, y0⟩ := HA.out
  clear HA
  generalize (w.alloc (.cells #[.int .i64 r.1, .int .i64 r.2] 34)).alloc (.cells #[.int .i64 0, .int .i64 0, .int .i64 0, .slice none 0 0, .slice none 0 0] 31) = W at *
  have c0 : W.cell? ⟨g, 0, none⟩ = some (.map (some h)) := Lib.cell_of_heap B1.box 0
  have r0 : W.cell? ⟨w.heap.size, 0, none⟩ = some (.int .i64 r.1) := Lib.cell_of_heap x0 0
  have r1 : W.cell? ⟨w.heap.size, 1, none⟩ = some (.int .i64 r.2) := Lib.cell_of_heap x0 1
  have hg := lt_of_heap B1.box
  have hx := lt_of_heap x0
  have hy := lt_of_heap y0
  have hl := MapL.look (w := W.drew) ⟨B1.has.own, B1.has.nd, B1.has.r64⟩ Try.underlying41 (zeroC _) hr
  have b2 := (Below.refl W.heap.size W).alloc (Nat.le_refl _) (.cells #[.int .i64 0, .int .i64 0, .int .i64 0, .slice none 0 0, .slice none 0 0] 31)
  have B2 := B1.below b2
  have hl2 := MapL.look (w := (W.alloc (.cells #[.int .i64 0, .int .i64 0, .int .i64 0, .slice none 0 0, .slice none 0 0] 31)).drew) ⟨B2.has.own, B2.has.nd, B2.has.r64⟩ Try.underlying41 (zeroC _) hr
  rw [hu] at hl hl2
  simp only [Option.getD_none, Option.isSome_none] at hl hl2
  have HN : Hid (_ ∧ _ ∧ _ ∧ _) := ⟨B2, heap_alloc_old x0 (.cells #[.int .i64 0, .int .i64 0, .int .i64 0, .slice none 0 0, .slice none 0 0] 31), heap_alloc_old y0 (.cells #[.int .i64 0, .int .i64 0, .int .i64 0, .slice none 0 0, .slice none 0 0] 31), b0.alloc (show w.heap.size ≤ W.heap.size by omega) (.cells #[.int .i64 0, .int .i64 0, .int .i64 0, .slice none 0 0, .slice none 0 0] 31)⟩
  clear b0 B1 B2 b2 x0 y0 hu
  go_region
  all_goals
    clear hl hl2 c0 r0 r1
    obtain ⟨B2, x2, y2, bb⟩ := HN.out
    clear HN
    generalize W.alloc (.cells #[.int .i64 0, .int .i64 0, .int .i64 0, .slice none 0 0, .slice none 0 0] 31) = V at *
    have c0 : V.cell? ⟨g, 1, none⟩ = some (.map (some q)) := Lib.cell_of_heap B2.box 1
    have r0 : V.cell? ⟨w.heap.size, 0, none⟩ = some (.int .i64 r.1) := Lib.cell_of_heap x2 0
    have r1 : V.cell? ⟨w.heap.size, 1, none⟩ = some (.int .i64 r.2) := Lib.cell_of_heap x2 1
    have hg2 := lt_of_heap B2.box
    have hx2 := lt_of_heap x2
    have hy2 := lt_of_heap y2
    have hl := MapL.look (w := V.drew.drew) ⟨B2.wait.own, B2.wait.nd, B2.wait.r64⟩ Try.underlying41 (zeroC _) hr
    have B3 := B2.wait.below ((Below.refl V.heap.size V).alloc (Nat.le_refl _) (.cells #[.int .i64 0, .int .i64 0, .int .i64 0, .slice none 0 0, .slice none 0 0] 31))
    have hl2 := MapL.look (w := (V.alloc (.cells #[.int .i64 0, .int .i64 0, .int .i64 0, .slice none 0 0, .slice none 0 0] 31)).drew.drew) ⟨B3.own, B3.nd, B3.r64⟩ Try.underlying41 (zeroC _) hr
    rw [← HI.out, HV.out] at hl hl2
    have HY : Hid (∀ o, (V.alloc o).drew.drew.heap[w.heap.size + 1]? = some (.cells #[.int .i64 0, .int .i64 0, .int .i64 0, .slice none 0 0, .slice none 0 0] 31)) := fun o => heap_alloc_old y2 o
    have HM : Hid (∀ o, (V.alloc o).drew.drew.heap[V.heap.size]? = some o) := fun o => heap_alloc_new V o
    have HB : Hid (∀ o, Below w.heap.size w (V.alloc o).drew.drew) := fun o => drew_of (drew_of (bb.alloc (show w.heap.size ≤ V.heap.size by omega) o))
    clear B2 B3 x2 y2 bb
    go_wp2
    go_region
    all_goals
      clear hl hl2 c0 r0 r1
      have y1 := HY.out (.cells #[.int .i64 va, .int .i64 vs, .int .i64 vt, .slice vd vn vc, .slice vo vm ve] 31)
      have n1 := HM.out (.cells #[.int .i64 va, .int .i64 vs, .int .i64 vt, .slice vd vn vc, .slice vo vm ve] 31)
      have bb := HB.out (.cells #[.int .i64 va, .int .i64 vs, .int .i64 vt, .slice vd vn vc, .slice vo vm ve] 31)
      have hne : w.heap.size + 1 ≠ V.heap.size := by omega
      generalize (V.alloc (.cells #[.int .i64 va, .int .i64 vs, .int .i64 vt, .slice vd vn vc, .slice vo vm ve] 31)).drew.drew = U at *
      have m0 : U.cell? ⟨V.heap.size, 0, none⟩ = some (.int .i64 va) := Lib.cell_of_heap n1 0
      have m1 : U.cell? ⟨V.heap.size, 1, none⟩ = some (.int .i64 vs) := Lib.cell_of_heap n1 1
      have m2 : U.cell? ⟨V.heap.size, 2, none⟩ = some (.int .i64 vt) := Lib.cell_of_heap n1 2
      have m3 : U.cell? ⟨V.heap.size, 3, none⟩ = some (.slice vd vn vc) := Lib.cell_of_heap n1 3
      have m4 : U.cell? ⟨V.heap.size, 4, none⟩ = some (.slice vo vm ve) := Lib.cell_of_heap n1 4
      have z0 : U.cell? ⟨w.heap.size + 1, 0, none⟩ = some (.int .i64 0) := Lib.cell_of_heap y1 0
      have z1 : U.cell? ⟨w.heap.size + 1, 1, none⟩ = some (.int .i64 0) := Lib.cell_of_heap y1 1
      have z2 : U.cell? ⟨w.heap.size + 1, 2, none⟩ = some (.int .i64 0) := Lib.cell_of_heap y1 2
      have z3 : U.cell? ⟨w.heap.size + 1, 3, none⟩ = some (.slice none 0 0) := Lib.cell_of_heap y1 3
      have z4 : U.cell? ⟨w.heap.size + 1, 4, none⟩ = some (.slice none 0 0) := Lib.cell_of_heap y1 4
      have zf := Lib.frozen_of_heap y1
      have HX : Hid (_ ∧ _) := ⟨set_at (set_at (set_at (set_at (set_at y1 0 (.int .i64 va)) 1 (.int .i64 vs)) 2 (.int .i64 vt)) 3 (.slice vd vn vc)) 4 (.slice vo vm ve), ((((bb.setCell (p := ⟨w.heap.size + 1, 0, none⟩) (Nat.le_succ _) (.int .i64 va)).setCell (p := ⟨w.heap.size + 1, 1, none⟩) (Nat.le_succ _) (.int .i64 vs)).setCell (p := ⟨w.heap.size + 1, 2, none⟩) (Nat.le_succ _) (.int .i64 vt)).setCell (p := ⟨w.heap.size + 1, 3, none⟩) (Nat.le_succ _) (.slice vd vn vc)).setCell (p := ⟨w.heap.size + 1, 4, none⟩) (Nat.le_succ _) (.slice vo vm ve)⟩
      clear y1 n1 bb
      go_wp2
      obtain ⟨X, bz⟩ := HX.out
      clear HX m0 m1 m2 m3 m4 z0 z1 z2 z3 z4 zf
      generalize (((((U.setCell ⟨w.heap.size + 1, 0, none⟩ (.int .i64 va)).setCell ⟨w.heap.size + 1, 1, none⟩ (.int .i64 vs)).setCell ⟨w.heap.size + 1, 2, none⟩ (.int .i64 vt)).setCell ⟨w.heap.size + 1, 3, none⟩ (.slice vd vn vc)).setCell ⟨w.heap.size + 1, 4, none⟩ (.slice vo vm ve)) = Z at *
      have q0 : Z.cell? ⟨w.heap.size + 1, 0, none⟩ = some (.int .i64 va) := Lib.cell_of_heap X 0
      have q1 : Z.cell? ⟨w.heap.size + 1, 1, none⟩ = some (.int .i64 vs) := Lib.cell_of_heap X 1
      have q2 : Z.cell? ⟨w.heap.size + 1, 2, none⟩ = some (.int .i64 vt) := Lib.cell_of_heap X 2
      have q3 : Z.cell? ⟨w.heap.size + 1, 3, none⟩ = some (.slice vd vn vc) := Lib.cell_of_heap X 3
      have q4 : Z.cell? ⟨w.heap.size + 1, 4, none⟩ = some (.slice vo vm ve) := Lib.cell_of_heap X 4
      exact bodyPost_ret (v := .tuple #[.agg #[.int .i64 va, .int .i64 vs, .int .i64 vt, .slice vd vn vc, .slice vo vm ve], .bool ib]) (by simp [results, Try.results14, go_sem, q0, q1, q2, q3, q4]) rfl ⟨rfl, bz⟩

theorem find_any (g h q : Nat) (LH LW : List (Pr × Value)) (r : Pr) (w : World) (B : BookAt w g h q LH LW) (hr : R64 r) (hH : ∀ q ∈ LH, CV q.2) (hW : ∀ q ∈ LW, CV q.2) :
    Calls Try.prog 14 #[.pointer (some ⟨g, 0, none⟩), refV r] w fun e w' => e = .returned (.tuple #[(fnd LH LW r).getD zC, .bool (fnd LH LW r).isSome]) ∧ Below w.heap.size w w' := by
  unfold fnd
  cases hl : lk LH r with
  | none => simpa using dfind_no g h q LH LW r w B hr hW hl
  | some u => simpa using dfind_yes g h q LH LW r u w B hr hH hl
end Go.Proofs.Ytbjnemmghpmjjaa
