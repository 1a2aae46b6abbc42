/-
  What is proved: what the reference's Read answers; what booksame.Texts answers of the same texts; what a disk's Steps and Stop do.
  Conditions: as each theorem says.
-/
import Derived.Test.YtcdpcjafomfddaaDoorQDoM
namespace Go.Proofs.YtcdpcjafomfddaaDoor
open Go.RowKit Go.Maps Go.Sort Go.Shelf

set_option maxRecDepth 100000 in
set_option maxHeartbeats 2000000 in
theorem steps_any {S : Nat → Prop} {p fb sb : Nat} {F Z : List (Tx × Nat)} {n st : Int} {G : List Fi} (w : World) (hd : Dk S w p fb sb F Z n st G) :
    Calls Tryd.prog 10 #[.pointer (some ⟨p, 0, none⟩)] w fun e w' => e = .returned (.int .i64 n) ∧ w' = w := by
  have c2 : w.cell? ⟨p, 2, none⟩ = some (.int .i64 n) := Lib.cell_of_heap hd.box 2
  clear hd
  go_enter Tryd.func10, Tryd.ntmps10
  go_wp2
  go_ret
  exact ⟨rfl, rfl⟩

theorem Dk.setT {S : Nat → Prop} {w : World} {p fb sb : Nat} {F Z : List (Tx × Nat)} {n st : Int} {G : List Fi} (h : Dk S w p fb sb F Z n st G) (m : Int) : Dk S (w.setCell ⟨p, 3, none⟩ (.int .i64 m)) p fb sb F Z n m G := by
  have hk : ∀ k, k ≠ p → k < w.heap.size → (w.setCell ⟨p, 3, none⟩ (.int .i64 m)).heap[k]? = w.heap[k]? := fun k hk _ => Below.heap_setCell _ _ _ _ hk
  refine h.boxed ?_ hk (h.mf.keep (hk _ (map_ne h.box h.mf).symm h.mf.lt)) (h.ms.keep (hk _ (map_ne h.box h.ms).symm h.ms.lt)) h.ne h.inF h.inZ h.sfb h.ssb
  rw [heap_setCell_same w p 3 _ _ _ h.box]
  rfl

def StopP (S : Nat → Prop) (w : World) (p fb sb : Nat) (F Z : List (Tx × Nat)) (n : Int) (G : List Fi) (k : Int) (e : Ending) (w' : World) : Prop := e = .returned (.tuple #[]) ∧ Kp S w w' ∧ Dk S w' p fb sb F Z n k G

set_option maxRecDepth 100000 in
set_option maxHeartbeats 2000000 in
theorem stop_any {S : Nat → Prop} {p fb sb : Nat} {F Z : List (Tx × Nat)} {n st : Int} {G : List Fi} (k : Int) (w : World) (hd : Dk S w p fb sb F Z n st G) :
    Calls Tryd.prog 21 #[.pointer (some ⟨p, 0, none⟩), .int .i64 k] w fun e w' => StopP S w p fb sb F Z n G k e w' := by
  have c3 : w.cell? ⟨p, 3, none⟩ = some (.int .i64 st) := Lib.cell_of_heap hd.box 3
  have f3 : w.frozen? ⟨p, 3, none⟩ = false := Lib.frozen_of_heap hd.box 3
  have HE : Hid (StopP S w p fb sb F Z n G k (.returned (.tuple #[])) (w.setCell ⟨p, 3, none⟩ (.int .i64 k))) := ⟨rfl, (Kp.refl S w).set 3 _ hd.sp, hd.setT k⟩
  clear hd
  go_enter Tryd.func21, Tryd.ntmps21
  go_wp2
  go_end0
  exact HE.out

set_option maxRecDepth 100000 in
set_option maxHeartbeats 2000000 in
theorem rRead_no {T : Nat → Prop} {p : Nat} {fs : List FV} {N Y : List (Tx × Nat)} {n st : Int} (s : Tx) (w : World) (h : Rk T w p fs N Y n st) (hN : N.length ≤ 1000) (hE : rdE N s ≠ 0) :
    Calls Tryd.prog 12 #[.pointer (some ⟨p, 0, none⟩), .string ⟨s.toArray⟩] w fun e w' => e = .returned (.tuple #[.slice none 0 0, .int .i64 (rdE N s)]) ∧ w' = w := by
  have NS := named_any s w
  have FI := rFile_any s w h hN
  unfold rdE at hE ⊢
  clear h hN
  cases hn : nameB s with
  | false =>
    rw [hn] at NS hE
    simp only [Bool.false_eq_true, if_false]
    clear FI hE hn
    go_enter Tryd.func12, Tryd.ntmps12
    go_wp2_with (go_at_call 28; refine NS.mono ?_; rintro e w1 ⟨rfl, rfl⟩)
    go_returns
    exact ⟨rfl, rfl⟩
  | true =>
    rw [hn] at NS hE
    simp only [if_true] at hE ⊢
    cases hg : fk N s with
    | some g => rw [hg] at hE; simp at hE
    | none =>
      have e1 : fkI N s = -1 := by unfold fkI; rw [hg]
      rw [e1] at FI
      simp only [Option.isSome_none, Bool.false_eq_true, if_false]
      clear hE hn hg e1
      go_enter Tryd.func12, Tryd.ntmps12
      go_wp2_with (first
        | (go_at_call 28; refine NS.mono ?_; clear NS; rintro e w1 ⟨rfl, rfl⟩)
        | (go_at_call 29; refine FI.mono ?_; clear FI; rintro e w1 ⟨rfl, rfl⟩))
      go_returns
      exact ⟨rfl, rfl⟩

set_option maxRecDepth 100000 in
set_option maxHeartbeats 2000000 in
theorem rRead_yes {T : Nat → Prop} {p : Nat} {fs : List FV} {N Y : List (Tx × Nat)} {n st : Int} (s : Tx) (w : World) (h : Rk T w p fs N Y n st) (hN : N.length ≤ 1000) (hfl : fs.length ≤ 1000000) (hn : nameB s = true) {i : Nat} (hi : fk N s = some i) {q : FV} (hq : fs[i]? = some q) :
    Calls Tryd.prog 12 #[.pointer (some ⟨p, 0, none⟩), .string ⟨s.toArray⟩] w fun e w' => e = .returned (.tuple #[q.1, .int .i64 0]) ∧ w' = w := by
  have NS := named_any s w
  have FI := rFile_any s w h hN
  rw [hn] at NS
  have e1 : fkI N s = (i : Int) := by unfold fkI; rw [hi]
  rw [e1] at FI
  obtain ⟨vf, vn, vy, hbx, R1, R2, R3, t1, t2, t3⟩ := h.box
  obtain ⟨af, cf, rfl⟩ := rowF_form R1
  obtain ⟨vi, bi, si⟩ := q
  obtain ⟨bf, rfl, d0, d1⟩ := rowF_get R1 hq
  have hfi := h.fi _ (List.mem_of_getElem? hq)
  obtain ⟨ai, ci, e5⟩ : ∃ a c, vi = .slice a bi.length c := row_form hfi.1
  subst e5
  have p0 : w.cell? ⟨p, 0, none⟩ = some (.slice (some ⟨bf, 0, none⟩) fs.length cf) := Lib.cell_of_heap hbx 0
  have hil : i < fs.length := (List.getElem?_eq_some_iff.1 hq).1
  have g3 : ¬ (i : Int) < 0 := by omega
  have g4 : (i : Int) < (fs.length : Int) := by omega
  have g5 : (fs.length : Int) ≤ 1000000 := by omega
  clear h hN hn hi hq e1 R1 R2 R3 t1 t2 t3 hbx hfi d1 hfl hil
  generalize fs.length = L at *
  go_enter Tryd.func12, Tryd.ntmps12
  go_wp2_with (first
    | (go_at_call 28; refine NS.mono ?_; clear NS; rintro e w1 ⟨rfl, rfl⟩)
    | (go_at_call 29; refine FI.mono ?_; clear FI; rintro e w1 ⟨rfl, rfl⟩))
  go_returns
  exact ⟨rfl, rfl⟩

/-- A row of texts. -/
def IsTxs (w : World) (v : Value) (l : List Tx) : Prop := ∃ a c, v = .slice a l.length c ∧ (∀ i t, l[i]? = some t → ∃ b, a = some ⟨b, 0, none⟩ ∧ w.cell? ⟨b, i, none⟩ = some (.string ⟨t.toArray⟩))

set_option maxRecDepth 100000 in
set_option maxHeartbeats 2000000 in
theorem texts_any (v u : Value) (l : List Tx) (w : World) (hv : IsTxs w v l) (hu : IsTxs w u l) (hl : l.length ≤ 1000) :
    Calls Tryd.prog 9 #[v, u] w fun e w' => e = .returned (.bool true) ∧ Below w.heap.size w w' := by
  obtain ⟨a, c, rfl, h1⟩ := hv
  obtain ⟨a2, c2, rfl, h2⟩ := hu
  have H1 : Hid (∀ i t, l[i]? = some t → _) := h1
  have H2 : Hid (∀ i t, l[i]? = some t → _) := h2
  have HL : Hid (l.length ≤ 1000) := hl
  clear h1 h2 hl
  go_enter Tryd.func9, Tryd.ntmps9
  go_wp2_with fail
  go_loopw [5] (fun i wr => ∃ k : Nat, k ≤ l.length ∧ i = .int .i64 k ∧ Hid (wr.heap = w.heap ∧ Below w.heap.size w wr)) (fun i _ => l.length - (RowKit.intOf i).toNat)
  case atStart => exact ⟨0, Nat.zero_le _, rfl, rfl, Below.refl _ _⟩
  case round =>
    obtain ⟨k, hk, rfl, HW⟩ := hrel
    obtain ⟨hw, hbw⟩ := HW.out
    by_cases hlt : k < l.length
    · obtain ⟨t, hq⟩ : ∃ q, l[k]? = some q := ⟨_, List.getElem?_eq_getElem hlt⟩
      obtain ⟨b, rfl, x0⟩ := H1.out k t hq
      obtain ⟨b2, rfl, x2⟩ := H2.out k t hq
      replace x0 : wr.cell? ⟨b, k, none⟩ = some (.string ⟨t.toArray⟩) := (World.cell?_of_block (w := w) (by rw [hw])).trans x0
      replace x2 : wr.cell? ⟨b2, k, none⟩ = some (.string ⟨t.toArray⟩) := (World.cell?_of_block (w := w) (by rw [hw])).trans x2
      have HW' : Hid (∀ nq, (wr.drewN nq).heap = w.heap ∧ Below w.heap.size w (wr.drewN nq)) := fun nq => ⟨hw, below_drew hbw nq⟩
      have g2 : (k : Int) < (l.length : Int) := by omega
      have g3 : (k : Int) < 1000 := by have := HL.out; omega
      have HK : Hid (k < l.length) := hlt
      clear hw hbw HW hq hk hlt
      go_wp2
      go_quiet (fail)
      go_wp2
      go_roundw
      case rel => exact ⟨k + 1, HK.out, by go_num, HW'.out _⟩
      case measure => have := HK.out; simp [RowKit.intOf]; omega
    · have hke : k = l.length := by omega
      subst hke
      have HB : Hid (Below w.heap.size w wr) := hbw
      clear hw hbw HW hlt hk
      go_wp2
      go_ret
      exact ⟨rfl, HB.out⟩
end Go.Proofs.YtcdpcjafomfddaaDoor
