/-
  What is proved: what package tree's method level makes of a piece.
  Conditions: the piece lies in memory, and is no longer than a row may be.
-/
import Derived.Test.YtebglecjajghjaaDoorTStr
namespace Go.Proofs.YtebglecjajghjaaDoor
open Go.RowKit

theorem Kp.drewN {S : List Nat} {w w' : World} (h : Kp S w w') (n : Nat) : Kp S w (w'.drewN n) := ⟨h.os, h.tape, h.output, h.size, h.block⟩

theorem str0_node (c y : Nat) (v : Int) (l r : (Deep.BT Int)) : ∃ c' y' v' l' r', straight0 (.node c y v l r) = .node c' y' v' l' r' := by
  simp only [straight0]
  split
  · cases r with
    | nil => rename_i h; simp [Deep.BT.high] at h
    | node => exact ⟨_, _, _, _, _, rfl⟩
  · exact ⟨_, _, _, _, _, rfl⟩
theorem str1_node (c y : Nat) (v : Int) (l r : (Deep.BT Int)) : ∃ c' y' v' l' r', straight1 (.node c y v l r) = .node c' y' v' l' r' := by
  simp only [straight1]
  split
  · cases l with
    | nil => rename_i h; simp [Deep.BT.high] at h
    | node => exact ⟨_, _, _, _, _, rfl⟩
  · exact ⟨_, _, _, _, _, rfl⟩
theorem str0_blocks (t : (Deep.BT Int)) : (straight0 t).blocks.Perm t.blocks := by
  cases t with
  | nil => exact List.Perm.refl _
  | node c y v l r =>
    simp only [straight0]
    split
    · exact lift1_blocks c y v l r
    · exact List.Perm.refl _
theorem str1_blocks (t : (Deep.BT Int)) : (straight1 t).blocks.Perm t.blocks := by
  cases t with
  | nil => exact List.Perm.refl _
  | node c y v l r =>
    simp only [straight1]
    split
    · exact lift0_blocks c y v l r
    · exact List.Perm.refl _

/-- A box of two cells, whatever they hold. -/
def BoxF (b : Nat) (T : TypeId) (w : World) : Prop := ∃ x y, w.heap[b]? = some (.cells #[x, y] T)
theorem box_set2 {b : Nat} {T : TypeId} {w : World} (h : BoxF b T w) (x y : Value) : ((w.setCell ⟨b, 0, none⟩ x).setCell ⟨b, 1, none⟩ y).heap[b]? = some (.cells #[x, y] T) := by
  obtain ⟨_, _, h⟩ := h
  exact set_at (set_at h 0 x) 1 y
theorem boxF_new (w : World) (x y : Value) (T : TypeId) {n : Nat} (h : n = w.heap.size) : BoxF n T (w.alloc (.cells #[x, y] T)) := ⟨x, y, heap_at_new _ _ h⟩
theorem boxF_drew {b : Nat} {T : TypeId} {w : World} (h : BoxF b T w) : BoxF b T w.drew := h
theorem boxF_alloc {b : Nat} {T : TypeId} {w : World} (h : BoxF b T w) (o : Obj) : BoxF b T (w.alloc o) := by obtain ⟨x, y, h⟩ := h; exact ⟨x, y, heap_alloc_old h o⟩
theorem boxF_other {b g i : Nat} {T : TypeId} {v : Value} {w : World} (h : BoxF b T w) (hb : b ≠ g) : BoxF b T (w.setCell ⟨g, i, none⟩ v) := by obtain ⟨x, y, h⟩ := h; exact ⟨x, y, heap_set_other h hb⟩

set_option maxRecDepth 100000 in
set_option maxHeartbeats 8000000 in
theorem level_any (b x : Nat) (u : Int) (l r : (Deep.BT Int)) (g : Nat) (p : Value) (k : Nat) (m s h : Int) (w : World) (hk : k ≤ 4611686018427384000) (hfit : (Deep.BT.node b x u l r).fit) (hb : w.heap[b]? = some (.cells (ncells (th x) u l.pt r.pt m s h) 52)) (hl : l.At w) (hr : r.At w) (hd : (g :: (Deep.BT.node b x u l r).blocks).Nodup) (hR : RowAt g p k w) :
    Calls Tryd.prog 28 #[.pointer (some ⟨g, 0, none⟩), .pointer (some ⟨b, 0, none⟩)] w fun e w' => e = .returned (level b x u l r).pt ∧ (level b x u l r).At w' ∧ (∃ k', k' ≤ k + 16 ∧ RowAt g p k' w') ∧ Kp (g :: (Deep.BT.node b x u l r).blocks) w w' := by
  have HD : Hid (g :: (Deep.BT.node b x u l r).blocks).Nodup := hd
  simp only [Deep.BT.blocks, List.nodup_cons, List.mem_cons, List.mem_append, List.nodup_append, not_or] at hd
  have hgb : g ≠ b := by grind
  have ng : g ∉ l.blocks ∧ g ∉ r.blocks := by grind
  have nb : b ∉ l.blocks ∧ b ∉ r.blocks := by grind
  clear hd
  have hbz := lt_of_heap hb
  have hgz := lt_of_heap hR
  have d2 : w.cell? ⟨b, 2, none⟩ = some l.pt := Lib.cell_of_heap hb 2
  have d3 : w.cell? ⟨b, 3, none⟩ = some r.pt := Lib.cell_of_heap hb 3
  have HR : Hid (RowAt g p k w) := hR
  have HB : Hid (w.heap[b]? = some (.cells (ncells (th x) u l.pt r.pt m s h) 52)) := hb
  have HL : Hid (l.At w) := hl
  have HQ : Hid (r.At w) := hr
  have HFT : Hid (Deep.BT.node b x u l r).fit := hfit
  have hol := one_le l
  have hor := one_le r
  have hf := fld2
  clear hb hl hr hR hfit
  go_enter Tryd.func28, Tryd.ntmps28
  go_wp2
  go_cut [5] from 7 (fun a wx => ∃ A, a = .pointer (some ⟨A, 0, none⟩) ∧ w.heap.size ≤ A ∧ wx.heap[A]? = some (.cells #[.int .i64 (l.high : Int), .int .i64 (r.high : Int)] 79) ∧ Kp [g] w wx ∧ RowAt g p (k + l.one + r.one) wx)
  case first =>
    clear HD HFT
    go_region_held3 (fun W => W.cell? ⟨b, 2, none⟩ = some l.pt ∧ W.cell? ⟨b, 3, none⟩ = some r.pt) (first | (exact sides_of (x := th x) (u := u) (m := m) (s := s) (h := h) (T := 52) (by with_reducible repeat (first | exact HB.out | refine heap_drew ?_ | refine heap_alloc_old ?_ _ | refine heap_set_other ?_ (Ne.symm hgb) | refine heap_set_other ?_ (by omega)))) | go_keep) (first
      | (go_at_call 29; go_fit (look_any l g p k _ (by omega) (Deep.BT.At.kp (S := [g]) HL.out (by with_reducible repeat (first | exact Kp.refl _ _ | refine Kp.drew ?_ | refine Kp.alloc ?_ _ | refine Kp.set ?_ (List.mem_singleton.2 rfl) _ _ | refine Kp.setNew ?_ (by omega) _ _)) (off_one ng.1)) ng.1 (by with_reducible repeat (first | exact HR.out | refine heap_drew ?_ | refine heap_alloc_old ?_ _ | exact row_set (by with_reducible repeat (first | exact rowE_of HR.out | refine rowE_drew ?_ | refine rowE_alloc ?_ _ | refine rowE_set ?_ _ | refine rowE_other ?_ (by omega))) (by omega) | refine heap_set_other ?_ (by omega)))); rintro e w1 ⟨rfl, rfl⟩)
      | (go_at_call 29; go_fit (look_any r g p (k + l.one) _ (by omega) (Deep.BT.At.kp (S := [g]) HQ.out (by with_reducible repeat (first | exact Kp.refl _ _ | refine Kp.drew ?_ | refine Kp.alloc ?_ _ | refine Kp.set ?_ (List.mem_singleton.2 rfl) _ _ | refine Kp.setNew ?_ (by omega) _ _)) (off_one ng.2)) ng.2 (by with_reducible repeat (first | exact HR.out | refine heap_drew ?_ | refine heap_alloc_old ?_ _ | exact row_set (by with_reducible repeat (first | exact rowE_of HR.out | refine rowE_drew ?_ | refine rowE_alloc ?_ _ | refine rowE_set ?_ _ | refine rowE_other ?_ (by omega))) (by omega) | refine heap_set_other ?_ (by omega)))); rintro e w1 ⟨rfl, rfl⟩))
    all_goals
      clear d2 d3
      go_wp2
      go_meet
      exact ⟨_, rfl, by first | omega | (simp; done) | (simp; omega), (by with_reducible repeat (first | refine heap_drew ?_ | (refine heap_at_new _ _ ?_; (simp <;> omega)) | refine heap_alloc_old ?_ _ | exact box_set2 (by with_reducible repeat (first | (refine boxF_new _ _ _ _ ?_; (simp <;> omega)) | refine boxF_drew ?_ | refine boxF_alloc ?_ _ | refine boxF_other ?_ (by omega))) _ _ | refine heap_set_other ?_ (by omega))), (by with_reducible repeat (first | exact Kp.refl _ _ | refine Kp.drew ?_ | refine Kp.alloc ?_ _ | refine Kp.set ?_ (List.mem_singleton.2 rfl) _ _ | refine Kp.setNew ?_ (by omega) _ _)), (by with_reducible repeat (first | exact HR.out | refine heap_drew ?_ | refine heap_alloc_old ?_ _ | exact row_set (by with_reducible repeat (first | exact rowE_of HR.out | refine rowE_drew ?_ | refine rowE_alloc ?_ _ | refine rowE_set ?_ _ | refine rowE_other ?_ (by omega))) (by omega) | refine heap_set_other ?_ (by omega)))⟩
  case rest =>
    obtain ⟨A, rfl, hA, HA, KW, RW⟩ := hcut
    have BW := KW.heap HB.out (by simpa using Ne.symm hgb)
    have LW := HL.out.kp KW (off_one ng.1)
    have QW := HQ.out.kp KW (off_one ng.2)
    have a0 : wc.cell? ⟨A, 0, none⟩ = some (.int .i64 (l.high : Int)) := Lib.cell_of_heap HA 0
    have a1 : wc.cell? ⟨A, 1, none⟩ = some (.int .i64 (r.high : Int)) := Lib.cell_of_heap HA 1
    have HBW : Hid _ := BW
    have HLW : Hid (l.At wc) := LW
    have HQW : Hid (r.At wc) := QW
    have HKW : Hid _ := KW
    have HRW : Hid _ := RW
    have hhl := Nat.le_trans (high_many l) (show l.many ≤ 1000000 from by have := HFT.out.1; simp only [Deep.BT.many] at this; omega)
    have hhr := Nat.le_trans (high_many r) (show r.many ≤ 1000000 from by have := HFT.out.1; simp only [Deep.BT.many] at this; omega)
    have x1 : IntKind.i64.wrap ((r.high : Int) + 1) = (r.high : Int) + 1 := IntWalk.i64_in _ (by omega)
    have x2 : IntKind.i64.wrap ((l.high : Int) + 1) = (l.high : Int) + 1 := IntWalk.i64_in _ (by omega)
    clear d2 d3 BW LW QW KW RW HL HQ HB
    by_cases h0 : r.high + 1 < l.high
    · have g0 : (r.high : Int) + 1 < l.high := by omega
      cases l with
      | nil => simp [Deep.BT.high] at h0
      | node c y v ll lr =>
        have HLE : Hid (level b x u (Deep.BT.node c y v ll lr) r = lift0 b x u (straight0 (Deep.BT.node c y v ll lr)) r) := by show _ = _; unfold level; rw [if_pos h0]
        obtain ⟨c', y', v', l', r', hst⟩ := str0_node c y v ll lr
        have hprm := str0_blocks (Deep.BT.node c y v ll lr)
        have hitm := items_straight0 (Deep.BT.node c y v ll lr)
        rw [hst] at hprm hitm
        have hmny : (Deep.BT.node c' y' v' l' r').many = (Deep.BT.node c y v ll lr).many := by rw [← items_len, ← items_len, hitm]
        have KD0 : ∀ n, Kp [] wc (wc.drewN n) := fun n => (Kp.refl [] wc).drewN n
        go_wp2
        go_rounds 2
        go_quiet (fail)
        have KD := KD0 nq
        clear KD0
        generalize wc.drewN nq = W at *
        clear a0 a1
        go_wp2_with fail
        have BW := KD.heap HBW.out (by simp)
        have LW := (HLW.out : (Deep.BT.node c y v ll lr).At wc) |> fun h => Deep.BT.At.kp h KD (by simp)
        have QW := Deep.BT.At.kp HQW.out KD (by simp)
        have RW := KD.heap HRW.out (by simp)
        have ndb := HD.out
        simp only [Deep.BT.blocks, List.nodup_cons, List.mem_cons, List.mem_append, List.nodup_append, not_or] at ndb
        have ES := straight0_any b x u c y v ll lr r.pt g p _ m s h W (by omega) (fit_of HFT.out (by simp only [Deep.BT.many]; omega) (fun q hq => by simp only [Deep.BT.items, List.mem_append, List.mem_cons] at hq ⊢; grind)) BW LW (by simp only [Deep.BT.blocks, List.nodup_cons, List.mem_cons, List.mem_append, List.nodup_append, not_or]; grind) RW
        rw [hst] at ES
        go_fit ES
        rintro e w2 ⟨rfl, B2, T2, ⟨k2, hk2, R2⟩, K2⟩
        have Q2 := QW.kp K2 (fun z hz e => by simp only [Deep.BT.blocks, List.mem_cons, List.mem_append] at e; grind)
        obtain ⟨C2, X2, Y2⟩ := T2
        have EL := lift0_any b x u c' y' v' l' r' r g p k2 m s h _ _ _ w2 (by omega) (fit_of HFT.out (by have := hmny; simp only [Deep.BT.many] at this ⊢; omega) (fun q hq => by
          have := congrArg (q ∈ ·) hitm
          simp only [Deep.BT.items, List.mem_append, List.mem_cons] at hq this ⊢
          grind)) B2 C2 Q2 Y2 X2 (by
          have hp : (g :: (Deep.BT.node b x u (.node c' y' v' l' r') r).blocks).Perm (g :: (Deep.BT.node b x u (Deep.BT.node c y v ll lr) r).blocks) := List.Perm.cons _ (List.Perm.cons _ (List.Perm.append_right _ hprm))
          exact hp.nodup_iff.2 HD.out) R2
        have HKA : Hid (Kp (g :: (Deep.BT.node b x u (Deep.BT.node c y v ll lr) r).blocks) w w2) := ((HKW.out.mono (by simp)).trans (KD.mono (by simp))).trans (K2.mono (by simp [Deep.BT.blocks]; grind))
        have hcm : c' ∈ (Deep.BT.node c y v ll lr).blocks := hprm.mem_iff.1 (by simp [Deep.BT.blocks])
        clear BW LW QW RW ndb ES Q2 C2 X2 Y2 B2 R2 K2 KD
        go_wp2_with fail
        go_fit EL
        rintro e w3 ⟨rfl, T3, ⟨k3, hk3, R3⟩, K3⟩
        have HKB : Hid (Kp (g :: (Deep.BT.node b x u (Deep.BT.node c y v ll lr) r).blocks) w w3) := HKA.out.trans (K3.mono (fun z hz => by
          simp only [List.mem_cons, List.not_mem_nil, or_false] at hz
          rcases hz with rfl | rfl | rfl
          · simp
          · simp [Deep.BT.blocks]
          · simp only [Deep.BT.blocks, List.mem_cons, List.mem_append] at hcm ⊢; grind))
        go_wp2
        go_ret
        exact ⟨by rw [HLE.out, hst]; rfl, by rw [HLE.out, hst]; exact T3, ⟨k3, by omega, R3⟩, HKB.out⟩
    · by_cases h1 : l.high + 1 < r.high
      · have g0 : ¬ (r.high : Int) + 1 < l.high := by omega
        have g1 : (l.high : Int) + 1 < r.high := by omega
        cases r with
        | nil => simp [Deep.BT.high] at h1
        | node c y v rl rr =>
          have HLE : Hid (level b x u l (Deep.BT.node c y v rl rr) = lift1 b x u l (straight1 (Deep.BT.node c y v rl rr))) := by show _ = _; unfold level; rw [if_neg h0, if_pos h1]
          obtain ⟨c', y', v', l', r', hst⟩ := str1_node c y v rl rr
          have hprm := str1_blocks (Deep.BT.node c y v rl rr)
          have hitm := items_straight1 (Deep.BT.node c y v rl rr)
          rw [hst] at hprm hitm
          have hmny : (Deep.BT.node c' y' v' l' r').many = (Deep.BT.node c y v rl rr).many := by rw [← items_len, ← items_len, hitm]
          go_wp2
          go_rounds 3
          go_quiet (fail)
          have KD1 := (Kp.refl [] wc).drewN nq
          have HA1 := KD1.heap HA (by simp)
          generalize wc.drewN nq = W1 at *
          have e0 : W1.cell? ⟨A, 0, none⟩ = some (.int .i64 (l.high : Int)) := Lib.cell_of_heap HA1 0
          have e1 : W1.cell? ⟨A, 1, none⟩ = some (.int .i64 ((Deep.BT.node c y v rl rr).high : Int)) := Lib.cell_of_heap HA1 1
          clear a0 a1
          go_wp2
          rw [rounds_succ]
          go_wp2
          go_quiet (fail)
          have KD := KD1.trans ((Kp.refl [] W1).drewN nq)
          generalize W1.drewN nq = W at *
          clear e0 e1
          go_wp2_with fail
          have BW := KD.heap HBW.out (by simp)
          have LW := (HQW.out : (Deep.BT.node c y v rl rr).At wc) |> fun h => Deep.BT.At.kp h KD (by simp)
          have QW := Deep.BT.At.kp HLW.out KD (by simp)
          have RW := KD.heap HRW.out (by simp)
          have ndb := HD.out
          simp only [Deep.BT.blocks, List.nodup_cons, List.mem_cons, List.mem_append, List.nodup_append, not_or] at ndb
          have ES := straight1_any b x u c y v rl rr l.pt g p _ m s h W (by omega) (fit_of HFT.out (by simp only [Deep.BT.many]; omega) (fun q hq => by simp only [Deep.BT.items, List.mem_append, List.mem_cons] at hq ⊢; grind)) BW LW (by simp only [Deep.BT.blocks, List.nodup_cons, List.mem_cons, List.mem_append, List.nodup_append, not_or]; grind) RW
          rw [hst] at ES
          go_fit ES
          rintro e w2 ⟨rfl, B2, T2, ⟨k2, hk2, R2⟩, K2⟩
          have Q2 := QW.kp K2 (fun z hz e => by simp only [Deep.BT.blocks, List.mem_cons, List.mem_append] at e; grind)
          obtain ⟨C2, X2, Y2⟩ := T2
          have EL := lift1_any b x u c' y' v' l l' r' g p k2 m s h _ _ _ w2 (by omega) (fit_of HFT.out (by have := hmny; simp only [Deep.BT.many] at this ⊢; omega) (fun q hq => by
            have := congrArg (q ∈ ·) hitm
            simp only [Deep.BT.items, List.mem_append, List.mem_cons] at hq this ⊢
            grind)) B2 C2 Q2 X2 Y2 (by
            have hp : (g :: (Deep.BT.node b x u l (.node c' y' v' l' r')).blocks).Perm (g :: (Deep.BT.node b x u l (Deep.BT.node c y v rl rr)).blocks) := List.Perm.cons _ (List.Perm.cons _ (List.Perm.append_left _ hprm))
            exact hp.nodup_iff.2 HD.out) R2
          have HKA : Hid (Kp (g :: (Deep.BT.node b x u l (Deep.BT.node c y v rl rr)).blocks) w w2) := ((HKW.out.mono (by simp)).trans (KD.mono (by simp))).trans (K2.mono (by simp [Deep.BT.blocks]; grind))
          have hcm : c' ∈ (Deep.BT.node c y v rl rr).blocks := hprm.mem_iff.1 (by simp [Deep.BT.blocks])
          clear BW LW QW RW ndb ES Q2 C2 X2 Y2 B2 R2 K2 KD
          go_wp2_with fail
          go_fit EL
          rintro e w3 ⟨rfl, T3, ⟨k3, hk3, R3⟩, K3⟩
          have HKB : Hid (Kp (g :: (Deep.BT.node b x u l (Deep.BT.node c y v rl rr)).blocks) w w3) := HKA.out.trans (K3.mono (fun z hz => by
            simp only [List.mem_cons, List.not_mem_nil, or_false] at hz
            rcases hz with rfl | rfl | rfl
            · simp
            · simp [Deep.BT.blocks]
            · simp only [Deep.BT.blocks, List.mem_cons, List.mem_append] at hcm ⊢; grind))
          go_wp2
          go_ret
          exact ⟨by rw [HLE.out, hst]; rfl, by rw [HLE.out, hst]; exact T3, ⟨k3, by omega, R3⟩, HKB.out⟩
      · have g0 : ¬ (r.high : Int) + 1 < l.high := by omega
        have g1 : ¬ (l.high : Int) + 1 < r.high := by omega
        have HLE : Hid (level b x u l r = .node b x u l r) := by show _ = _; unfold level; rw [if_neg h0, if_neg h1]
        go_wp2
        go_rounds 3
        go_quiet (fail)
        have KD1 := (Kp.refl [] wc).drewN nq
        have HA1 := KD1.heap HA (by simp)
        generalize wc.drewN nq = W1 at *
        have e0 : W1.cell? ⟨A, 0, none⟩ = some (.int .i64 (l.high : Int)) := Lib.cell_of_heap HA1 0
        have e1 : W1.cell? ⟨A, 1, none⟩ = some (.int .i64 (r.high : Int)) := Lib.cell_of_heap HA1 1
        clear a0 a1
        go_wp2
        rw [rounds_succ]
        go_wp2
        go_quiet (fail)
        have KD := KD1.trans ((Kp.refl [] W1).drewN nq)
        generalize W1.drewN nq = W at *
        clear e0 e1
        go_wp2
        rw [rounds_succ]
        go_wp2_with fail
        have BW := KD.heap HBW.out (by simp)
        have LW := Deep.BT.At.kp HLW.out KD (by simp)
        have QW := Deep.BT.At.kp HQW.out KD (by simp)
        have RW := KD.heap HRW.out (by simp)
        have EA := add_any b x u l r g p _ m s h W (by omega) HFT.out BW LW QW nb.1 nb.2 ng.1 ng.2 (Ne.symm hgb) RW
        have HKA : Hid (Kp (g :: (Deep.BT.node b x u l r).blocks) w W) := (HKW.out.mono (by simp)).trans (KD.mono (by simp))
        clear BW LW QW RW KD
        go_fit EA
        rintro e w3 ⟨rfl, T3, ⟨k3, hk3, R3⟩, K3⟩
        have HKB : Hid (Kp (g :: (Deep.BT.node b x u l r).blocks) w w3) := HKA.out.trans (K3.mono (by simp [Deep.BT.blocks]))
        go_wp2
        go_ret
        exact ⟨by rw [HLE.out]; rfl, by rw [HLE.out]; exact T3, ⟨k3, by omega, R3⟩, HKB.out⟩
end Go.Proofs.YtebglecjajghjaaDoor
