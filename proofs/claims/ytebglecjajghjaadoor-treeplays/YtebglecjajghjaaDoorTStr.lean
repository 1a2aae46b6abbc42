/-
  What is proved: what package tree's method straighten makes of a piece, on either side.
  Conditions: the piece lies in memory, and is no longer than a row may be.
-/
import Derived.Test.YtebglecjajghjaaDoorTLift
namespace Go.Proofs.YtebglecjajghjaaDoor
open Go.RowKit

theorem lift1_blocks (b x : Nat) (u : Int) (l r : (Deep.BT Int)) : (lift1 b x u l r).blocks.Perm (b :: (l.blocks ++ r.blocks)) := by
  cases r with
  | nil => exact List.Perm.refl _
  | node c y v rl rr => simp only [lift1, Deep.BT.blocks, List.cons_append, List.append_assoc]; exact (List.Perm.swap _ _ _).trans (List.Perm.cons _ List.perm_middle.symm)

theorem lift0_blocks (b x : Nat) (u : Int) (l r : (Deep.BT Int)) : (lift0 b x u l r).blocks.Perm (b :: (l.blocks ++ r.blocks)) := by
  cases l with
  | nil => exact List.Perm.refl _
  | node c y v ll lr =>
    simp only [lift0, Deep.BT.blocks, List.cons_append, List.append_assoc]
    exact (List.Perm.cons _ List.perm_middle).trans (List.Perm.swap _ _ _)

set_option maxRecDepth 100000 in
set_option maxHeartbeats 8000000 in
theorem straight0_any (b x : Nat) (u : Int) (c y : Nat) (v : Int) (ll lr : (Deep.BT Int)) (q : Value) (g : Nat) (p : Value) (k : Nat) (m s h : Int) (w : World) (hk : k ≤ 4611686018427385000) (hfit : (Deep.BT.node c y v ll lr).fit) (hb : w.heap[b]? = some (.cells (ncells (th x) u (.pointer (some ⟨c, 0, none⟩)) q m s h) 52)) (hl : (Deep.BT.node c y v ll lr).At w) (hd : (g :: b :: (Deep.BT.node c y v ll lr).blocks).Nodup) (hR : RowAt g p k w) :
    Calls Tryd.prog 38 #[.pointer (some ⟨g, 0, none⟩), .pointer (some ⟨b, 0, none⟩), .int .i64 0] w fun e w' => e = .returned (.tuple #[]) ∧ w'.heap[b]? = some (.cells (ncells (th x) u (straight0 (.node c y v ll lr)).pt q m s h) 52) ∧ (straight0 (.node c y v ll lr)).At w' ∧ (∃ k', k' ≤ k + 8 ∧ RowAt g p k' w') ∧ Kp (g :: b :: (Deep.BT.node c y v ll lr).blocks) w w' := by
  obtain ⟨hc, ha1, ha2⟩ := id hl
  have hd0 := hd
  simp only [Deep.BT.blocks, List.nodup_cons, List.mem_cons, List.mem_append, List.nodup_append, not_or] at hd
  have hbc : b ≠ c := by grind
  have hgb : g ≠ b := by grind
  have hgc : g ≠ c := by grind
  have ng : g ∉ lr.blocks ∧ g ∉ ll.blocks := by grind
  have q0 : w.cell? ⟨b, 2, none⟩ = some (.pointer (some ⟨c, 0, none⟩)) := Lib.cell_of_heap hb 2
  have hcz := lt_of_heap hc
  have hbz := lt_of_heap hb
  have d2 : w.cell? ⟨c, 2, none⟩ = some ll.pt := Lib.cell_of_heap hc 2
  have d3 : w.cell? ⟨c, 3, none⟩ = some lr.pt := Lib.cell_of_heap hc 3
  have HR : Hid (RowAt g p k w) := hR
  have HC : Hid (w.heap[c]? = some (.cells (ncells (th y) v ll.pt lr.pt ((ll.many + 1 + lr.many : Nat) : Int) (ll.wide + v + lr.wide) ((1 + max ll.high lr.high : Nat) : Int)) 52)) := hc
  have HI : Hid (lr.At w) := ha2
  have HO : Hid (ll.At w) := ha1
  have HL : Hid ((Deep.BT.node c y v ll lr).At w) := hl
  have HB : Hid (w.heap[b]? = some (.cells (ncells (th x) u (.pointer (some ⟨c, 0, none⟩)) q m s h) 52)) := hb
  have hoi := one_le lr
  have hoo := one_le ll
  have HD : Hid (g :: b :: (Deep.BT.node c y v ll lr).blocks).Nodup := hd0
  have HFT : Hid (Deep.BT.node c y v ll lr).fit := hfit
  clear hb hl hc ha1 ha2 hR hd hd0 hfit
  have hf := fld2
  go_enter Tryd.func38, Tryd.ntmps38
  go_wp2
  go_region_held3 (fun W => W.cell? ⟨c, 2, none⟩ = some ll.pt ∧ W.cell? ⟨c, 3, none⟩ = some lr.pt) (first | (exact sides_of (x := th y) (u := v) (m := ((ll.many + 1 + lr.many : Nat) : Int)) (s := ll.wide + v + lr.wide) (h := ((1 + max ll.high lr.high : Nat) : Int)) (T := 52) (by with_reducible repeat (first | exact HC.out | refine heap_drew ?_ | refine heap_alloc_old ?_ _ | refine heap_set_other ?_ (Ne.symm hgc)))) | go_keep) (first
    | (go_at_call 29; go_fit (look_any lr g p k _ (by omega) (Deep.BT.At.kp (S := [g]) HI.out (by with_reducible repeat (first | exact Kp.refl _ _ | refine Kp.drew ?_ | refine Kp.alloc ?_ _ | refine Kp.set ?_ (List.mem_singleton.2 rfl) _ _ | refine Kp.setNew ?_ (by omega) _ _)) (off_one ng.1)) ng.1 (by with_reducible repeat (first | exact HR.out | refine heap_drew ?_ | refine heap_alloc_old ?_ _ | exact row_set (by with_reducible repeat (first | exact rowE_of HR.out | refine rowE_drew ?_ | refine rowE_alloc ?_ _ | refine rowE_set ?_ _ | refine rowE_other ?_ (by omega))) (by omega) | refine heap_set_other ?_ (by omega)))); rintro e w1 ⟨rfl, rfl⟩)
    | (go_at_call 29; go_fit (look_any ll g p (k + lr.one) _ (by omega) (Deep.BT.At.kp (S := [g]) HO.out (by with_reducible repeat (first | exact Kp.refl _ _ | refine Kp.drew ?_ | refine Kp.alloc ?_ _ | refine Kp.set ?_ (List.mem_singleton.2 rfl) _ _ | refine Kp.setNew ?_ (by omega) _ _)) (off_one ng.2)) ng.2 (by with_reducible repeat (first | exact HR.out | refine heap_drew ?_ | refine heap_alloc_old ?_ _ | exact row_set (by with_reducible repeat (first | exact rowE_of HR.out | refine rowE_drew ?_ | refine rowE_alloc ?_ _ | refine rowE_set ?_ _ | refine rowE_other ?_ (by omega))) (by omega) | refine heap_set_other ?_ (by omega)))); rintro e w1 ⟨rfl, rfl⟩))
  have KW : Kp [g] w (lookW ll g (k + lr.one) (lookW lr g k w.drew)) := (by with_reducible repeat (first | exact Kp.refl _ _ | refine Kp.drew ?_ | refine Kp.alloc ?_ _ | refine Kp.set ?_ (List.mem_singleton.2 rfl) _ _ | refine Kp.setNew ?_ (by omega) _ _))
  have RW : RowAt g p (k + lr.one + ll.one) (lookW ll g (k + lr.one) (lookW lr g k w.drew)) := (by with_reducible repeat (first | exact HR.out | refine heap_drew ?_ | refine heap_alloc_old ?_ _ | exact row_set (by with_reducible repeat (first | exact rowE_of HR.out | refine rowE_drew ?_ | refine rowE_alloc ?_ _ | refine rowE_set ?_ _ | refine rowE_other ?_ (by omega))) (by omega) | refine heap_set_other ?_ (by omega)))
  generalize lookW ll g (k + lr.one) (lookW lr g k w.drew) = W at *
  have BW := KW.heap HB.out (by simpa using Ne.symm hgb)
  have nall : ∀ z ∈ (Deep.BT.node c y v ll lr).blocks, z ∉ [g] := fun z hz e => by
    have := (List.nodup_cons.1 HD.out).1
    rw [List.mem_singleton.1 e] at hz
    exact this (List.mem_cons_of_mem _ hz)
  have AW := HL.out.kp KW nall
  have HKW : Hid _ := KW
  have HRW : Hid _ := RW
  have HBW : Hid _ := BW
  have HAW : Hid _ := AW
  clear KW RW BW AW d2 d3 q0
  by_cases hgt : ll.high < lr.high
  · cases lr with
    | nil => simp [Deep.BT.high] at hgt
    | node d z t dl dr =>
      have HST : Hid (straight0 (Deep.BT.node c y v ll (.node d z t dl dr)) = lift1 c y v ll (.node d z t dl dr)) := by show _ = _; simp only [straight0]; rw [if_pos hgt]
      obtain ⟨hcW, hx1, hx2⟩ := Deep.BT.At.kp_drew (t := (Deep.BT.node c y v ll (.node d z t dl dr))) HAW.out
      obtain ⟨hdW, hx3, hx4⟩ := hx2
      have E : Calls Tryd.prog 39 #[.pointer (some ⟨g, 0, none⟩), .pointer (some ⟨c, 0, none⟩), .int .i64 1] W.drew fun e w' => e = .returned (.pointer (some ⟨d, 0, none⟩)) ∧ (lift1 c y v ll (.node d z t dl dr)).At w' ∧ (∃ k', k' ≤ k + (Deep.BT.node d z t dl dr).one + ll.one + 6 ∧ RowAt g p k' w') ∧ Kp [g, c, d] W.drew w' := lift1_any c y v d z t ll dl dr g p _ _ _ _ _ _ _ W.drew (by omega) HFT.out hcW hdW hx1 hx3 hx4 (by
        have := HD.out
        simp only [List.nodup_cons, List.mem_cons, not_or] at this ⊢
        exact ⟨this.1.2, this.2.2⟩) (heap_drew HRW.out)
      clear hcW hdW hx1 hx3 hx4
      have hbd : b ≠ d := by
        have := HD.out
        simp only [Deep.BT.blocks, List.nodup_cons, List.mem_cons, List.mem_append, not_or] at this
        grind
      go_wp2
      go_region_held3 (fun _ => True) (first | trivial) (first | (go_at_call 39; go_fit E; rintro e w3 ⟨rfl, T3, ⟨k3, hk3, R3⟩, K3⟩; have B3 := K3.heap (heap_drew HBW.out) (by simp; exact ⟨Ne.symm hgb, hbc, hbd⟩); have z2 : w3.cell? ⟨b, 2, none⟩ = some (.pointer (some ⟨c, 0, none⟩)) := Lib.cell_of_heap B3 2; have zf := Lib.frozen_of_heap B3))
      have HN : (w3.setCell ⟨b, 2, none⟩ (.pointer (some ⟨d, 0, none⟩))).heap[b]? = some (.cells (ncells (th x) u (.pointer (some ⟨d, 0, none⟩)) q m s h) 52) := set_at B3 2 _
      have KN : Kp [b] w3 (w3.setCell ⟨b, 2, none⟩ (.pointer (some ⟨d, 0, none⟩))) := (Kp.refl _ w3).set (by simp) _ _
      have nbl : b ∉ (lift1 c y v ll (.node d z t dl dr)).blocks := fun e => by
        have h1 := List.Perm.mem_iff (lift1_blocks c y v ll (.node d z t dl dr)) |>.1 e
        have := (List.nodup_cons.1 (List.nodup_cons.1 HD.out).2).1
        exact this h1
      have TN := T3.kp KN (off_one nbl)
      have RN := KN.heap R3 (by simpa using hgb)
      have KA : Kp (g :: b :: ((Deep.BT.node c y v ll (.node d z t dl dr))).blocks) w (w3.setCell ⟨b, 2, none⟩ (.pointer (some ⟨d, 0, none⟩))) := ((HKW.out.drew.mono (by simp)).trans (K3.mono (by simp [Deep.BT.blocks]))).trans (KN.mono (by simp))
      have HF : Hid (_ ∧ _ ∧ _ ∧ _) := ⟨HN, TN, RN, KA⟩
      clear HN TN RN KA KN T3 R3 K3 B3
      go_wp2
      go_end0
      exact ⟨rfl, by rw [HST.out]; exact HF.out.1, by rw [HST.out]; exact HF.out.2.1, ⟨_, by omega, HF.out.2.2.1⟩, HF.out.2.2.2⟩
  · have HST : Hid (straight0 (Deep.BT.node c y v ll lr) = Deep.BT.node c y v ll lr) := by show _ = _; simp only [straight0]; rw [if_neg hgt]
    go_wp2
    go_end0
    exact ⟨rfl, by rw [HST.out]; exact HBW.out, by rw [HST.out]; exact HAW.out, ⟨_, by omega, HRW.out⟩, HKW.out.mono (by simp)⟩

set_option maxRecDepth 100000 in
set_option maxHeartbeats 8000000 in
theorem straight1_any (b x : Nat) (u : Int) (c y : Nat) (v : Int) (rl rr : (Deep.BT Int)) (q : Value) (g : Nat) (p : Value) (k : Nat) (m s h : Int) (w : World) (hk : k ≤ 4611686018427385000) (hfit : (Deep.BT.node c y v rl rr).fit) (hb : w.heap[b]? = some (.cells (ncells (th x) u q (.pointer (some ⟨c, 0, none⟩)) m s h) 52)) (hl : (Deep.BT.node c y v rl rr).At w) (hd : (g :: b :: (Deep.BT.node c y v rl rr).blocks).Nodup) (hR : RowAt g p k w) :
    Calls Tryd.prog 38 #[.pointer (some ⟨g, 0, none⟩), .pointer (some ⟨b, 0, none⟩), .int .i64 1] w fun e w' => e = .returned (.tuple #[]) ∧ w'.heap[b]? = some (.cells (ncells (th x) u q (straight1 (.node c y v rl rr)).pt m s h) 52) ∧ (straight1 (.node c y v rl rr)).At w' ∧ (∃ k', k' ≤ k + 8 ∧ RowAt g p k' w') ∧ Kp (g :: b :: (Deep.BT.node c y v rl rr).blocks) w w' := by
  obtain ⟨hc, ha1, ha2⟩ := id hl
  have hd0 := hd
  simp only [Deep.BT.blocks, List.nodup_cons, List.mem_cons, List.mem_append, List.nodup_append, not_or] at hd
  have hbc : b ≠ c := by grind
  have hgb : g ≠ b := by grind
  have hgc : g ≠ c := by grind
  have ng : g ∉ rl.blocks ∧ g ∉ rr.blocks := by grind
  have q0 : w.cell? ⟨b, 3, none⟩ = some (.pointer (some ⟨c, 0, none⟩)) := Lib.cell_of_heap hb 3
  have hcz := lt_of_heap hc
  have hbz := lt_of_heap hb
  have d2 : w.cell? ⟨c, 2, none⟩ = some rl.pt := Lib.cell_of_heap hc 2
  have d3 : w.cell? ⟨c, 3, none⟩ = some rr.pt := Lib.cell_of_heap hc 3
  have HR : Hid (RowAt g p k w) := hR
  have HC : Hid (w.heap[c]? = some (.cells (ncells (th y) v rl.pt rr.pt ((rl.many + 1 + rr.many : Nat) : Int) (rl.wide + v + rr.wide) ((1 + max rl.high rr.high : Nat) : Int)) 52)) := hc
  have HI : Hid (rl.At w) := ha1
  have HO : Hid (rr.At w) := ha2
  have HL : Hid ((Deep.BT.node c y v rl rr).At w) := hl
  have HB : Hid (w.heap[b]? = some (.cells (ncells (th x) u q (.pointer (some ⟨c, 0, none⟩)) m s h) 52)) := hb
  have hoi := one_le rl
  have hoo := one_le rr
  have HD : Hid (g :: b :: (Deep.BT.node c y v rl rr).blocks).Nodup := hd0
  have HFT : Hid (Deep.BT.node c y v rl rr).fit := hfit
  clear hb hl hc ha1 ha2 hR hd hd0 hfit
  have hf := fld2
  go_enter Tryd.func38, Tryd.ntmps38
  go_wp2
  go_region_held3 (fun W => W.cell? ⟨c, 2, none⟩ = some rl.pt ∧ W.cell? ⟨c, 3, none⟩ = some rr.pt) (first | (exact sides_of (x := th y) (u := v) (m := ((rl.many + 1 + rr.many : Nat) : Int)) (s := rl.wide + v + rr.wide) (h := ((1 + max rl.high rr.high : Nat) : Int)) (T := 52) (by with_reducible repeat (first | exact HC.out | refine heap_drew ?_ | refine heap_alloc_old ?_ _ | refine heap_set_other ?_ (Ne.symm hgc)))) | go_keep) (first
    | (go_at_call 29; go_fit (look_any rl g p k _ (by omega) (Deep.BT.At.kp (S := [g]) HI.out (by with_reducible repeat (first | exact Kp.refl _ _ | refine Kp.drew ?_ | refine Kp.alloc ?_ _ | refine Kp.set ?_ (List.mem_singleton.2 rfl) _ _ | refine Kp.setNew ?_ (by omega) _ _)) (off_one ng.1)) ng.1 (by with_reducible repeat (first | exact HR.out | refine heap_drew ?_ | refine heap_alloc_old ?_ _ | exact row_set (by with_reducible repeat (first | exact rowE_of HR.out | refine rowE_drew ?_ | refine rowE_alloc ?_ _ | refine rowE_set ?_ _ | refine rowE_other ?_ (by omega))) (by omega) | refine heap_set_other ?_ (by omega)))); rintro e w1 ⟨rfl, rfl⟩)
    | (go_at_call 29; go_fit (look_any rr g p (k + rl.one) _ (by omega) (Deep.BT.At.kp (S := [g]) HO.out (by with_reducible repeat (first | exact Kp.refl _ _ | refine Kp.drew ?_ | refine Kp.alloc ?_ _ | refine Kp.set ?_ (List.mem_singleton.2 rfl) _ _ | refine Kp.setNew ?_ (by omega) _ _)) (off_one ng.2)) ng.2 (by with_reducible repeat (first | exact HR.out | refine heap_drew ?_ | refine heap_alloc_old ?_ _ | exact row_set (by with_reducible repeat (first | exact rowE_of HR.out | refine rowE_drew ?_ | refine rowE_alloc ?_ _ | refine rowE_set ?_ _ | refine rowE_other ?_ (by omega))) (by omega) | refine heap_set_other ?_ (by omega)))); rintro e w1 ⟨rfl, rfl⟩))
  have KW : Kp [g] w (lookW rr g (k + rl.one) (lookW rl g k w.drew)) := (by with_reducible repeat (first | exact Kp.refl _ _ | refine Kp.drew ?_ | refine Kp.alloc ?_ _ | refine Kp.set ?_ (List.mem_singleton.2 rfl) _ _ | refine Kp.setNew ?_ (by omega) _ _))
  have RW : RowAt g p (k + rl.one + rr.one) (lookW rr g (k + rl.one) (lookW rl g k w.drew)) := (by with_reducible repeat (first | exact HR.out | refine heap_drew ?_ | refine heap_alloc_old ?_ _ | exact row_set (by with_reducible repeat (first | exact rowE_of HR.out | refine rowE_drew ?_ | refine rowE_alloc ?_ _ | refine rowE_set ?_ _ | refine rowE_other ?_ (by omega))) (by omega) | refine heap_set_other ?_ (by omega)))
  generalize lookW rr g (k + rl.one) (lookW rl g k w.drew) = W at *
  have BW := KW.heap HB.out (by simpa using Ne.symm hgb)
  have nall : ∀ z ∈ (Deep.BT.node c y v rl rr).blocks, z ∉ [g] := fun z hz e => by
    have := (List.nodup_cons.1 HD.out).1
    rw [List.mem_singleton.1 e] at hz
    exact this (List.mem_cons_of_mem _ hz)
  have AW := HL.out.kp KW nall
  have HKW : Hid _ := KW
  have HRW : Hid _ := RW
  have HBW : Hid _ := BW
  have HAW : Hid _ := AW
  clear KW RW BW AW d2 d3 q0
  by_cases hgt : rr.high < rl.high
  · cases rl with
    | nil => simp [Deep.BT.high] at hgt
    | node d z t dl dr =>
      have HST : Hid (straight1 (Deep.BT.node c y v (.node d z t dl dr) rr) = lift0 c y v (.node d z t dl dr) rr) := by show _ = _; simp only [straight1]; rw [if_pos hgt]
      obtain ⟨hcW, hx1, hx2⟩ := Deep.BT.At.kp_drew (t := (Deep.BT.node c y v (.node d z t dl dr) rr)) HAW.out
      obtain ⟨hdW, hx3, hx4⟩ := hx1
      have E : Calls Tryd.prog 39 #[.pointer (some ⟨g, 0, none⟩), .pointer (some ⟨c, 0, none⟩), .int .i64 0] W.drew fun e w' => e = .returned (.pointer (some ⟨d, 0, none⟩)) ∧ (lift0 c y v (.node d z t dl dr) rr).At w' ∧ (∃ k', k' ≤ k + (Deep.BT.node d z t dl dr).one + rr.one + 6 ∧ RowAt g p k' w') ∧ Kp [g, c, d] W.drew w' := lift0_any c y v d z t dl dr rr g p _ _ _ _ _ _ _ W.drew (by omega) HFT.out hcW hdW hx2 hx4 hx3 (by
        have := HD.out
        simp only [List.nodup_cons, List.mem_cons, not_or] at this ⊢
        exact ⟨this.1.2, this.2.2⟩) (heap_drew HRW.out)
      clear hcW hdW hx2 hx3 hx4
      have hbd : b ≠ d := by
        have := HD.out
        simp only [Deep.BT.blocks, List.nodup_cons, List.mem_cons, List.mem_append, not_or] at this
        grind
      go_wp2
      go_region_held3 (fun _ => True) (first | trivial) (first | (go_at_call 39; go_fit E; rintro e w3 ⟨rfl, T3, ⟨k3, hk3, R3⟩, K3⟩; have B3 := K3.heap (heap_drew HBW.out) (by simp; exact ⟨Ne.symm hgb, hbc, hbd⟩); have z2 : w3.cell? ⟨b, 3, none⟩ = some (.pointer (some ⟨c, 0, none⟩)) := Lib.cell_of_heap B3 3; have zf := Lib.frozen_of_heap B3))
      have HN : (w3.setCell ⟨b, 3, none⟩ (.pointer (some ⟨d, 0, none⟩))).heap[b]? = some (.cells (ncells (th x) u q (.pointer (some ⟨d, 0, none⟩)) m s h) 52) := set_at B3 3 _
      have KN : Kp [b] w3 (w3.setCell ⟨b, 3, none⟩ (.pointer (some ⟨d, 0, none⟩))) := (Kp.refl _ w3).set (by simp) _ _
      have nbl : b ∉ (lift0 c y v (.node d z t dl dr) rr).blocks := fun e => by
        have h1 := List.Perm.mem_iff (lift0_blocks c y v (.node d z t dl dr) rr) |>.1 e
        have := (List.nodup_cons.1 (List.nodup_cons.1 HD.out).2).1
        exact this h1
      have TN := T3.kp KN (off_one nbl)
      have RN := KN.heap R3 (by simpa using hgb)
      have KA : Kp (g :: b :: ((Deep.BT.node c y v (.node d z t dl dr) rr)).blocks) w (w3.setCell ⟨b, 3, none⟩ (.pointer (some ⟨d, 0, none⟩))) := ((HKW.out.drew.mono (by simp)).trans (K3.mono (by simp [Deep.BT.blocks]))).trans (KN.mono (by simp))
      have HF : Hid (_ ∧ _ ∧ _ ∧ _) := ⟨HN, TN, RN, KA⟩
      clear HN TN RN KA KN T3 R3 K3 B3
      go_wp2
      go_end0
      exact ⟨rfl, by rw [HST.out]; exact HF.out.1, by rw [HST.out]; exact HF.out.2.1, ⟨_, by omega, HF.out.2.2.1⟩, HF.out.2.2.2⟩
  · have HST : Hid (straight1 (Deep.BT.node c y v rl rr) = Deep.BT.node c y v rl rr) := by show _ = _; simp only [straight1]; rw [if_neg hgt]
    go_wp2
    go_end0
    exact ⟨rfl, by rw [HST.out]; exact HBW.out, by rw [HST.out]; exact HAW.out, ⟨_, by omega, HRW.out⟩, HKW.out.mono (by simp)⟩

end Go.Proofs.YtebglecjajghjaaDoor
