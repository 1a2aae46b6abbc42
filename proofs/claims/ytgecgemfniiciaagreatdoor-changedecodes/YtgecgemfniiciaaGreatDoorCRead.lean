/-
  What is proved: the methods of package change's reader, called with any bytes, read as the mathematics says, and turn nothing but the reader.
  Conditions: the bytes lie in memory, and so does the reader.
-/
import Derived.Test.YtgecgemfniiciaaGreatDoorCMath
import Derived.Lib.BufferRead
namespace Go.Proofs.YtgecgemfniiciaaGreatDoor
open Go.RowKit

/-- A slice value that is nil, or somewhere. -/
def Wh (v : Value) : Prop := v = .slice none 0 0 ∨ ∃ ad n c, v = .slice (some ad) n c

/-- A reader lies in its box, and its bytes lie where they lay at first. -/
structure RdAt (w0 w : World) (g : Nat) (s : St) : Prop where
  low : w0.heap.size ≤ g
  bel : Below w0.heap.size w0 w
  box : ∃ v, IsBytes w0 v (rest s) ∧ Wh v ∧ w.heap[g]? = some (.cells #[v, .bool s.isNone] 54)

theorem RdAt.lt {w0 w : World} {g : Nat} {s : St} (h : RdAt w0 w g s) : g < w.heap.size := by
  obtain ⟨v, _, _, hb⟩ := h.box
  rcases Nat.lt_or_ge g w.heap.size with h1 | h1
  · exact h1
  · rw [Array.getElem?_eq_none h1] at hb; cases hb

theorem RdAt.off {w0 w w' : World} {g : Nat} {s : St} (h : RdAt w0 w g s) (hb : Below w.heap.size w w') : RdAt w0 w' g s := by
  obtain ⟨v, h1, hw, h2⟩ := h.box
  exact ⟨h.low, h.bel.trans (hb.mono h.bel.size), v, h1, hw, heap_below h2 hb (Nat.le_refl _)⟩

/-- The reader's box, set. -/
theorem set_box {w : World} {g : Nat} {a b : Value} {T : TypeId} (h : w.heap[g]? = some (.cells #[a, b] T)) (u : Value) : (w.setCell ⟨g, 0, none⟩ u).heap[g]? = some (.cells #[u, b] T) := by
  rw [heap_setCell_same w g 0 _ _ u h]
  rfl

theorem set_box1 {w : World} {g : Nat} {a b : Value} {T : TypeId} (h : w.heap[g]? = some (.cells #[a, b] T)) (u : Value) : (w.setCell ⟨g, 1, none⟩ u).heap[g]? = some (.cells #[a, u] T) := by
  rw [heap_setCell_same w g 1 _ _ u h]
  rfl

theorem set_at {w : World} {g : Nat} {cs : Array Value} {T : TypeId} (h : w.heap[g]? = some (.cells cs T)) (i : Nat) (u : Value) : (w.setCell ⟨g, i, none⟩ u).heap[g]? = some (.cells (cs.setIfInBounds i u) T) :=
  heap_setCell_same w g i _ _ u h

theorem Off.setNew {g b : Nat} {w w' : World} (h : Off g w w') (hb : w.heap.size ≤ b) (o : Nat) (v : Value) : Off g w (w'.setCell ⟨b, o, none⟩ v) := by
  have h1 : Below b w' (w'.setCell ⟨b, o, none⟩ v) := (Below.refl b w').setCell (Nat.le_refl _) v
  refine ⟨h1.os.trans h.os, h1.tape.trans h.tape, h1.output.trans h.output, Nat.le_trans h.size h1.size, fun k hk hg => ?_⟩
  rw [Below.heap_setCell _ _ _ _ (by simp; omega)]
  exact h.block k hk hg

theorem RdAt.set {w0 w : World} {g b : Nat} {s : St} (h : RdAt w0 w g s) (hb : g < b) (o : Nat) (v : Value) : RdAt w0 (w.setCell ⟨b, o, none⟩ v) g s := by
  obtain ⟨u, h1, h2, h3⟩ := h.box
  refine ⟨h.low, h.bel.setCell (by have := h.low; simp; omega) _, u, h1, h2, ?_⟩
  rw [Below.heap_setCell _ _ _ _ (by simp; omega)]
  exact h3

/-- All but one block is as it was, seen from ahead of a new block. -/
theorem Off.ahead {g : Nat} {w w' : World} {o : Obj} (h : Off g (w.alloc o) w') : Off g w w' := (Off.of ((Below.refl _ w).alloc (Nat.le_refl _) o)).trans h

set_option maxRecDepth 100000 in
set_option maxHeartbeats 1000000 in
theorem fail_any (w0 w : World) (g : Nat) (s : St) (h : RdAt w0 w g s) :
    Calls Tryz.prog 40 #[.pointer (some ⟨g, 0, none⟩)] w fun e w' => e = .returned (.tuple #[]) ∧ RdAt w0 w' g none ∧ Off g w w' := by
  obtain ⟨v, h1, hwh, h2⟩ := h.box
  have c0 : w.cell? ⟨g, 0, none⟩ = some v := Lib.cell_of_heap h2 0
  have c1 : w.cell? ⟨g, 1, none⟩ = some (.bool s.isNone) := Lib.cell_of_heap h2 1
  have cf := Lib.frozen_of_heap h2
  go_enter Tryz.func40, Tryz.ntmps40
  go_wp2
  refine bodyPost_end (v := .tuple #[]) (by simp [results, Tryz.results40, go_sem]) rfl ⟨rfl, ?_, ?_⟩
  · have hb : Below w0.heap.size w0 ((w.setCell ⟨g, 0, none⟩ (.slice none 0 0)).setCell ⟨g, 1, none⟩ (.bool true)) := (h.bel.setCell h.low _).setCell h.low _
    exact ⟨h.low, hb, .slice none 0 0, isBytes_nil _ _ _, Or.inl rfl, set_box1 (set_box h2 _) _⟩
  · exact ((Off.refl g w).set 0 _).set 1 _

/-- A part of bytes, from a place on. -/
theorem bytes_from {w0 : World} {a : Option Addr} {l : List UInt8} {cap : Nat} (h : IsBytes w0 (.slice a l.length cap) l) (k : Nat) (hk : k ≤ l.length) (h1 : 1 ≤ l.length) :
    ∃ b off, a = some ⟨b, off, none⟩ ∧ (k < cap → IsBytes w0 (.slice (some ⟨b, off + k, none⟩) (l.length - k) (cap - k)) (l.drop k)) ∧ (¬ k < cap → IsBytes w0 (.slice (some ⟨b, off, none⟩) 0 0) (l.drop k) ∧ l.length - k = 0 ∧ cap - k = 0 ∧ k = cap) := by
  obtain ⟨a', cap', e, h2, h3, h4⟩ := id h
  injection e with e1 e2 e3
  subst e1 e3
  obtain ⟨b, off, rfl, _⟩ := h4 (fun e => by rw [e] at h1; simp at h1)
  refine ⟨b, off, rfl, fun _ => h.drop k hk, fun hc => ?_⟩
  have e : l.drop k = [] := List.drop_eq_nil_of_le (by omega)
  rw [e]
  exact ⟨isBytes_nil _ _ _, by omega, by omega, by omega⟩

set_option maxRecDepth 100000 in
set_option maxHeartbeats 2000000 in
theorem number_any (w0 w : World) (g : Nat) (s : St) (h : RdAt w0 w g s) :
    Calls Tryz.prog 20 #[.pointer (some ⟨g, 0, none⟩)] w fun e w' => e = .returned (.int .i64 (rNum s).1) ∧ RdAt w0 w' g (rNum s).2 ∧ Off g w w' := by
  obtain ⟨v, h1, hwh, h2⟩ := h.box
  have c0 : w.cell? ⟨g, 0, none⟩ = some v := Lib.cell_of_heap h2 0
  have G := get_any v (rest s) w (h1.below h.bel)
  cases hG : get (rest s) with
  | none =>
    have HR : Hid (rNum s = (0, none)) := by
      show _ = _
      unfold rNum
      rw [hG]
    rw [hG] at G
    unfold getV at G
    clear hG
    obtain ⟨a, cap, rfl, _⟩ := id h1
    go_enter Tryz.func20, Tryz.ntmps20
    go_wp2_with fail
    refine G.mono ?_
    rintro e w1 ⟨rfl, b1⟩
    have R1 := h.off b1
    go_wp2_with fail
    refine (fail_any w0 w1 g s R1).mono ?_
    rintro e w2 ⟨rfl, R2, O2⟩
    go_wp2
    go_ret
    exact ⟨by rw [HR.out]; rfl, by rw [HR.out]; exact R2, (Off.of b1).trans O2⟩
  | some q =>
    obtain ⟨n, k⟩ := q
    obtain ⟨_, hn, hk1, hk2, _⟩ := get_some hG
    have HR : Hid (rNum s = (wrap64 (n : Int), some ((rest s).drop k))) := by
      show _ = _
      unfold rNum
      rw [hG]
    rw [hG] at G
    unfold getV at G
    have hsn : s.isNone = false := by
      cases s with
      | none => cases hG
      | some l => rfl
    obtain ⟨a, cap, rfl, hcap, _⟩ := id h1
    obtain ⟨b, off, rfl, hd1, hd2⟩ := bytes_from h1 k hk2 (by omega)
    have hw : IntKind.i64.wrap (n : Int) = wrap64 (n : Int) := IntWalk.i64_left _
    clear hG
    generalize hN : wrap64 (n : Int) = N at *
    clear hwh
    by_cases hc : k < cap
    · have D := hd1 hc
      clear hd1 hd2
      go_enter Tryz.func20, Tryz.ntmps20
      go_wp2_with fail
      refine G.mono ?_
      rintro e w1 ⟨rfl, b1⟩
      have h21 := heap_below h2 b1 (Nat.le_refl _)
      have c1 := Lib.cell_of_heap h21 0
      have cf := Lib.frozen_of_heap h21
      simp only [List.getElem?_toArray, List.getElem?_cons_zero] at c1
      have R1 := h.off b1
      clear c0
      go_wp2
      go_ret
      exact ⟨by rw [HR.out]; rfl, by rw [HR.out]; exact ⟨h.low, R1.bel.setCell h.low _, _, D, Or.inr ⟨_, _, _, rfl⟩, by rw [set_box h21, hsn]; rfl⟩, (Off.of b1).set 0 _⟩
    · obtain ⟨D, hl0, hl1, hkc⟩ := hd2 hc
      clear hd1 hd2
      go_enter Tryz.func20, Tryz.ntmps20
      go_wp2_with fail
      refine G.mono ?_
      rintro e w1 ⟨rfl, b1⟩
      have h21 := heap_below h2 b1 (Nat.le_refl _)
      have c1 := Lib.cell_of_heap h21 0
      have cf := Lib.frozen_of_heap h21
      simp only [List.getElem?_toArray, List.getElem?_cons_zero] at c1
      have R1 := h.off b1
      clear c0
      go_wp2
      go_ret
      exact ⟨by rw [HR.out]; rfl, by rw [HR.out]; exact ⟨h.low, R1.bel.setCell h.low _, _, D, Or.inr ⟨_, _, _, rfl⟩, by rw [set_box h21, hsn]; rfl⟩, (Off.of b1).set 0 _⟩
set_option maxRecDepth 100000 in
set_option maxHeartbeats 2000000 in
theorem signed_any (w0 w : World) (g : Nat) (s : St) (h : RdAt w0 w g s) :
    Calls Tryz.prog 84 #[.pointer (some ⟨g, 0, none⟩)] w fun e w' => e = .returned (.int .i64 (rSig s).1) ∧ RdAt w0 w' g (rSig s).2 ∧ Off g w w' := by
  obtain ⟨v, h1, hwh, h2⟩ := h.box
  have c0 : w.cell? ⟨g, 0, none⟩ = some v := Lib.cell_of_heap h2 0
  have G := getSigned_any v (rest s) w (h1.below h.bel)
  cases hG : get (rest s) with
  | none =>
    have HR : Hid (rSig s = (0, none)) := by
      show _ = _
      unfold rSig
      rw [hG]
    rw [hG] at G
    unfold getSV at G
    clear hG
    obtain ⟨a, cap, rfl, _⟩ := id h1
    go_enter Tryz.func84, Tryz.ntmps84
    go_wp2_with fail
    refine G.mono ?_
    rintro e w1 ⟨rfl, b1⟩
    have R1 := h.off b1
    go_wp2_with fail
    refine (fail_any w0 w1 g s R1).mono ?_
    rintro e w2 ⟨rfl, R2, O2⟩
    go_wp2
    go_ret
    exact ⟨by rw [HR.out]; rfl, by rw [HR.out]; exact R2, (Off.of b1).trans O2⟩
  | some q =>
    obtain ⟨n, k⟩ := q
    obtain ⟨_, hn, hk1, hk2, _⟩ := get_some hG
    have HR : Hid (rSig s = (zag n, some ((rest s).drop k))) := by
      show _ = _
      unfold rSig
      rw [hG]
    rw [hG] at G
    unfold getSV at G
    have hsn : s.isNone = false := by
      cases s with
      | none => cases hG
      | some l => rfl
    obtain ⟨a, cap, rfl, hcap, _⟩ := id h1
    obtain ⟨b, off, rfl, hd1, hd2⟩ := bytes_from h1 k hk2 (by omega)
    clear hG
    generalize hN : zag n = N at *
    clear hwh
    by_cases hc : k < cap
    · have D := hd1 hc
      clear hd1 hd2
      go_enter Tryz.func84, Tryz.ntmps84
      go_wp2_with fail
      refine G.mono ?_
      rintro e w1 ⟨rfl, b1⟩
      have h21 := heap_below h2 b1 (Nat.le_refl _)
      have c1 := Lib.cell_of_heap h21 0
      have cf := Lib.frozen_of_heap h21
      simp only [List.getElem?_toArray, List.getElem?_cons_zero] at c1
      have R1 := h.off b1
      clear c0
      go_wp2
      go_ret
      exact ⟨by rw [HR.out]; rfl, by rw [HR.out]; exact ⟨h.low, R1.bel.setCell h.low _, _, D, Or.inr ⟨_, _, _, rfl⟩, by rw [set_box h21, hsn]; rfl⟩, (Off.of b1).set 0 _⟩
    · obtain ⟨D, hl0, hl1, hkc⟩ := hd2 hc
      clear hd1 hd2
      go_enter Tryz.func84, Tryz.ntmps84
      go_wp2_with fail
      refine G.mono ?_
      rintro e w1 ⟨rfl, b1⟩
      have h21 := heap_below h2 b1 (Nat.le_refl _)
      have c1 := Lib.cell_of_heap h21 0
      have cf := Lib.frozen_of_heap h21
      simp only [List.getElem?_toArray, List.getElem?_cons_zero] at c1
      have R1 := h.off b1
      clear c0
      go_wp2
      go_ret
      exact ⟨by rw [HR.out]; rfl, by rw [HR.out]; exact ⟨h.low, R1.bel.setCell h.low _, _, D, Or.inr ⟨_, _, _, rfl⟩, by rw [set_box h21, hsn]; rfl⟩, (Off.of b1).set 0 _⟩

set_option maxRecDepth 100000 in
set_option maxHeartbeats 1000000 in
theorem count_any (w0 w : World) (g : Nat) (s : St) (most : Int) (h : RdAt w0 w g s) :
    Calls Tryz.prog 41 #[.pointer (some ⟨g, 0, none⟩), .int .i64 most] w fun e w' => e = .returned (.int .i64 (rCnt most s).1) ∧ RdAt w0 w' g (rCnt most s).2 ∧ Off g w w' := by
  have N := number_any w0 w g s h
  by_cases hb : (rNum s).1 < 0 ∨ most < (rNum s).1
  · have HR : Hid (rCnt most s = (0, none)) := by show _ = _; unfold rCnt; rw [if_pos hb]
    generalize (rNum s).1 = n at *
    generalize (rNum s).2 = s1 at *
    by_cases h0 : n < 0
    · go_enter Tryz.func41, Tryz.ntmps41
      go_wp2_with fail
      refine N.mono ?_
      rintro e w1 ⟨rfl, R1, O1⟩
      go_wp2_with fail
      refine (fail_any w0 w1 g s1 R1).mono ?_
      rintro e w2 ⟨rfl, R2, O2⟩
      go_wp2
      go_ret
      exact ⟨by rw [HR.out]; rfl, by rw [HR.out]; exact R2, O1.trans O2⟩
    · have h1 : most < n := by omega
      go_enter Tryz.func41, Tryz.ntmps41
      go_wp2_with fail
      refine N.mono ?_
      rintro e w1 ⟨rfl, R1, O1⟩
      go_wp2_with fail
      refine (fail_any w0 w1 g s1 R1).mono ?_
      rintro e w2 ⟨rfl, R2, O2⟩
      go_wp2
      go_ret
      exact ⟨by rw [HR.out]; rfl, by rw [HR.out]; exact R2, O1.trans O2⟩
  · have HR : Hid (rCnt most s = ((rNum s).1, (rNum s).2)) := by show _ = _; unfold rCnt; rw [if_neg hb]
    generalize (rNum s).1 = n at *
    generalize (rNum s).2 = s1 at *
    have h0 : ¬ n < 0 := by omega
    have h1 : ¬ most < n := by omega
    go_enter Tryz.func41, Tryz.ntmps41
    go_wp2_with fail
    refine N.mono ?_
    rintro e w1 ⟨rfl, R1, O1⟩
    go_wp2
    go_ret
    exact ⟨by rw [HR.out]; rfl, by rw [HR.out]; exact R1, O1⟩

set_option maxRecDepth 100000 in
set_option maxHeartbeats 1000000 in
theorem id_any (w0 w : World) (g : Nat) (s : St) (h : RdAt w0 w g s) :
    Calls Tryz.prog 63 #[.pointer (some ⟨g, 0, none⟩)] w fun e w' => e = .returned (.agg #[.int .i64 (rId s).1.1, .int .i64 (rId s).1.2]) ∧ RdAt w0 w' g (rId s).2 ∧ Off g w w' := by
  have BA : Below w.heap.size w (w.alloc (.cells #[.int .i64 0, .int .i64 0] 43)) := (Below.refl _ w).alloc (Nat.le_refl _) _
  have hbx : (w.alloc (.cells #[.int .i64 0, .int .i64 0] 43)).heap[w.heap.size]? = some (.cells #[.int .i64 0, .int .i64 0] 43) := (MapKept.heap_alloc w _).1
  have hg := h.lt
  go_enter Tryz.func63, Tryz.ntmps63
  go_wp2_with fail
  refine (number_any w0 _ g s (h.off BA)).mono ?_
  rintro e w1 ⟨rfl, R1, O1⟩
  have hb1 := O1.heap hbx (by omega)
  go_wp2_with fail
  refine (number_any w0 w1 g _ R1).mono ?_
  rintro e w2 ⟨rfl, R2, O2⟩
  have hb2 := O2.heap hb1 (by omega)
  have c0 : w2.cell? ⟨w.heap.size, 0, none⟩ = some (.int .i64 0) := Lib.cell_of_heap hb2 0
  have c1 : w2.cell? ⟨w.heap.size, 1, none⟩ = some (.int .i64 0) := Lib.cell_of_heap hb2 1
  have cf := Lib.frozen_of_heap hb2
  go_wp2
  have hF := set_at (set_at hb2 0 (.int .i64 (rNum s).1)) 1 (.int .i64 (rNum (rNum s).2).1)
  have RF := (R2.set hg 0 (.int .i64 (rNum s).1)).set hg 1 (.int .i64 (rNum (rNum s).2).1)
  have OF := ((O1.trans O2).ahead.setNew (Nat.le_refl _) 0 (.int .i64 (rNum s).1)).setNew (Nat.le_refl _) 1 (.int .i64 (rNum (rNum s).2).1)
  clear c0 c1 cf
  generalize (w2.setCell ⟨w.heap.size, 0, none⟩ (.int .i64 (rNum s).1)).setCell ⟨w.heap.size, 1, none⟩ (.int .i64 (rNum (rNum s).2).1) = W at *
  have q0 : W.cell? ⟨w.heap.size, 0, none⟩ = some (.int .i64 (rNum s).1) := Lib.cell_of_heap hF 0
  have q1 : W.cell? ⟨w.heap.size, 1, none⟩ = some (.int .i64 (rNum (rNum s).2).1) := Lib.cell_of_heap hF 1
  exact bodyPost_ret (v := .agg #[.int .i64 (rNum s).1, .int .i64 (rNum (rNum s).2).1]) (by simp [results, Tryz.results63, go_sem, q0, q1]) rfl ⟨rfl, RF, OF⟩

/-- A part of bytes that are somewhere. -/
theorem bytes_from2 {w0 : World} {ad : Addr} {l : List UInt8} {cap : Nat} (h : IsBytes w0 (.slice (some ad) l.length cap) l) (k : Nat) (hk : k ≤ l.length) :
    (k < cap → IsBytes w0 (.slice (some (ad.add k)) (l.length - k) (cap - k)) (l.drop k)) ∧ (¬ k < cap → IsBytes w0 (.slice (some ad) 0 0) (l.drop k) ∧ l.length - k = 0 ∧ cap - k = 0 ∧ k = cap) ∧ (∀ w, Below w0.heap.size w0 w → ∀ t (ht : t < (l.take k).length), w.cell? (ad.add t) = some (.int .u8 (l.take k)[t].toNat)) := by
  obtain ⟨a', cap', e, h2, h3, h4⟩ := id h
  injection e with e1 e2 e3
  subst e1 e3
  refine ⟨fun hc => ?_, fun hc => ?_, fun w hw t ht => ?_⟩
  · by_cases h0 : l = []
    · subst h0
      simp only [List.length_nil, List.drop_nil, Nat.zero_sub]
      exact isBytes_nil _ _ _
    · obtain ⟨b, off, e, _⟩ := h4 h0
      obtain rfl : ad = ⟨b, off, none⟩ := Option.some.inj e
      have e : (⟨b, off, none⟩ : Addr).add k = ⟨b, off + k, none⟩ := by unfold Addr.add; split <;> simp_all
      rw [e]
      exact h.drop k hk
  · have e : l.drop k = [] := List.drop_eq_nil_of_le (by omega)
    rw [e]
    exact ⟨isBytes_nil _ _ _, by omega, by omega, by omega⟩
  · rw [List.length_take] at ht
    obtain ⟨b, off, e, h5, h6⟩ := h4 (fun e => by rw [e] at ht; simp at ht)
    obtain rfl : ad = ⟨b, off, none⟩ := Option.some.inj e
    have e : (⟨b, off, none⟩ : Addr).add t = ⟨b, off + t, none⟩ := by unfold Addr.add; split <;> simp_all
    rw [e, hw.cell (p := ⟨b, off + t, none⟩) h5, h6 t (by omega), List.getElem_take]

set_option maxRecDepth 100000 in
set_option maxHeartbeats 2000000 in
theorem text_any (w0 w : World) (g : Nat) (s : St) (most : Int) (hm : 0 ≤ most) (h : RdAt w0 w g s) :
    Calls Tryz.prog 64 #[.pointer (some ⟨g, 0, none⟩), .int .i64 most] w fun e w' => e = .returned (.string (asText (rTxt most s).1)) ∧ RdAt w0 w' g (rTxt most s).2 ∧ Off g w w' := by
  have C := count_any w0 w g s most h
  have hr := rCnt_range most hm s
  by_cases hl : ((rest (rCnt most s).2).length : Int) < (rCnt most s).1
  · have HR : Hid (rTxt most s = ([], none)) := by show _ = _; unfold rTxt; rw [if_pos hl]
    generalize (rCnt most s).1 = n at *
    generalize (rCnt most s).2 = s1 at *
    go_enter Tryz.func64, Tryz.ntmps64
    go_wp2_with fail
    refine C.mono ?_
    rintro e w1 ⟨rfl, R1, O1⟩
    obtain ⟨v, h1, hwh, h2⟩ := R1.box
    obtain ⟨a, cap, rfl, _⟩ := id h1
    have c0 : w1.cell? ⟨g, 0, none⟩ = some (.slice a (rest s1).length cap) := Lib.cell_of_heap h2 0
    clear hwh
    go_wp2_with fail
    refine (fail_any w0 w1 g s1 R1).mono ?_
    rintro e w2 ⟨rfl, R2, O2⟩
    go_wp2
    go_ret
    exact ⟨by rw [HR.out]; rfl, by rw [HR.out]; exact R2, O1.trans O2⟩
  · have HR : Hid (rTxt most s = ((rest (rCnt most s).2).take (rCnt most s).1.toNat, (rCnt most s).2.map fun l => l.drop (rCnt most s).1.toNat)) := by show _ = _; unfold rTxt; rw [if_neg hl]
    generalize (rCnt most s).1 = n at *
    generalize (rCnt most s).2 = s1 at *
    obtain ⟨N, rfl⟩ : ∃ N : Nat, n = N := ⟨n.toNat, by omega⟩
    rw [Int.toNat_natCast] at HR
    have hN : N ≤ (rest s1).length := by omega
    have HM : Hid (rest (s1.map fun l => l.drop N) = (rest s1).drop N ∧ (s1.map fun l => l.drop N).isNone = s1.isNone) := by
      show _ ∧ _
      cases s1 <;> simp [rest]
    go_enter Tryz.func64, Tryz.ntmps64
    go_wp2_with fail
    refine C.mono ?_
    rintro e w1 ⟨rfl, R1, O1⟩
    obtain ⟨v, h1, hwh, h2⟩ := R1.box
    have cf := Lib.frozen_of_heap h2
    rcases hwh with rfl | ⟨ad, m, cap, rfl⟩
    · have hl0 : (rest s1).length = 0 := by
        obtain ⟨a', c', e, _⟩ := id h1
        injection e with _ e _
        exact e.symm
      have c0 : w1.cell? ⟨g, 0, none⟩ = some (.slice none 0 0) := Lib.cell_of_heap h2 0
      obtain rfl : N = 0 := by omega
      have v1 := Lib.run_convert_nil_bytes (P := Tryz.prog) w1 22 9 5 0 Tryz.underlying22 Tryz.underlying5 Tryz.underlying9
      have hrn : rest s1 = [] := List.length_eq_zero_iff.1 hl0
      go_wp2
      go_ret
      exact ⟨by rw [HR.out]; rfl, by rw [HR.out]; exact ⟨R1.low, R1.bel.setCell R1.low _, _, by rw [HM.out.1, hrn]; exact isBytes_nil _ none 0, Or.inl rfl, by rw [set_box h2, HM.out.2]⟩, O1.set 0 _⟩
    · obtain rfl : m = (rest s1).length := by
        obtain ⟨a', c', e, _⟩ := id h1
        injection e
      have c0 : w1.cell? ⟨g, 0, none⟩ = some (.slice (some ad) (rest s1).length cap) := Lib.cell_of_heap h2 0
      obtain ⟨f1, f2, f3⟩ := bytes_from2 h1 N hN
      have hcap : (rest s1).length ≤ cap := by
        obtain ⟨a', c', e, h3, _⟩ := id h1
        injection e with _ _ e
        subst e
        exact h3
      have hNl : ((rest s1).take N).length = N := by rw [List.length_take]; omega
      have v1 := run_convert_bytes_back (P := Tryz.prog) w1 22 9 5 ad cap ((rest s1).take N) Tryz.underlying22 Tryz.underlying5 Tryz.underlying9 (f3 w1 R1.bel)
      rw [hNl] at v1
      clear f3
      by_cases hc : N < cap
      · have D := f1 hc
        clear f1 f2
        go_wp2
        go_ret
        exact ⟨by rw [HR.out]; rfl, by rw [HR.out]; exact ⟨R1.low, R1.bel.setCell R1.low _, _, by rw [HM.out.1]; exact D, Or.inr ⟨_, _, _, rfl⟩, by rw [set_box h2, HM.out.2]⟩, O1.set 0 _⟩
      · obtain ⟨D, hl0, hl1, hkc⟩ := f2 hc
        subst hkc
        clear f1 f2 hc hl1
        go_wp2
        go_ret
        exact ⟨by rw [HR.out]; rfl, by rw [HR.out]; exact ⟨R1.low, R1.bel.setCell R1.low _, _, by rw [HM.out.1]; exact D, Or.inr ⟨_, _, _, rfl⟩, by rw [set_box h2, HM.out.2]⟩, O1.set 0 _⟩
end Go.Proofs.YtgecgemfniiciaaGreatDoor
