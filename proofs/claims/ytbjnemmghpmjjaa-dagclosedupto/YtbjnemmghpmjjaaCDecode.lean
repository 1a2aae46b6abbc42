/-
  What is proved: what package change's Check and Decode answer; and nothing that was there has turned.
  Conditions: the change, or the bytes, lie in memory.
-/
import Derived.Test.YtbjnemmghpmjjaaCCheck3
namespace Go.Proofs.Ytbjnemmghpmjjaa
open Go.RowKit

theorem chkOps_at (l : List OpM) (k : Nat) (hk : k < l.length) (h : ∀ j (hj : j < k), chkOp (l[j]'(by omega)) = 0) : chkOps l = chkOps (l.drop k) := by
  induction k generalizing l with
  | zero => simp
  | succ k ih =>
    cases l with
    | nil => simp at hk
    | cons o r =>
      have h0 : chkOp o = 0 := h 0 (by omega)
      rw [chkOps, if_pos h0, List.drop_succ_cons]
      exact ih r (by simpa using hk) (fun j hj => by simpa using h (j + 1) (by omega))

theorem chkOps_none (l : List OpM) (h : ∀ o ∈ l, chkOp o = 0) : chkOps l = 0 := by
  induction l with
  | nil => rfl
  | cons o r ih => rw [chkOps, if_pos (h o (by simp))]; exact ih (fun x hx => h x (by simp [hx]))

theorem errV_ne {e : Int} (h : e ≠ 0) : errV e = .iface 47 (.int .i64 e) := by unfold errV; rw [if_neg h]

set_option maxRecDepth 100000 in
set_option maxHeartbeats 8000000 in
theorem check_any (v : Value) (c : Chg) (w : World) (hv : IsChg w v c) :
    Calls Try.prog 12 #[v] w fun e w' => e = .returned (errV (chk c)) ∧ Below w.heap.size w w' := by
  have hv0 := hv
  obtain ⟨ud, uo, l, rfl, i1, i2, i3, hd, ho, hl⟩ := hv
  have HLN : Hid (l.length = c.ops.length) := by show _ = _; rw [← hl, List.length_map]
  have BA : Below w.heap.size w (w.alloc (.cells #[.int .i64 c.actor, .int .i64 c.seq, .int .i64 c.start, ud, uo] 31)) := (Below.refl _ w).alloc (Nat.le_refl _) _
  have hbx : (w.alloc (.cells #[.int .i64 c.actor, .int .i64 c.seq, .int .i64 c.start, ud, uo] 31)).heap[w.heap.size]? = some (.cells #[.int .i64 c.actor, .int .i64 c.seq, .int .i64 c.start, ud, uo] 31) := (MapKept.heap_alloc w _).1
  have H := checkHead_any _ c _ (hv0.below BA)
  obtain ⟨ad, cd, rfl, -⟩ := id hd
  obtain ⟨ao, co, rfl, ho1, ho2, ho3', ho4'⟩ := id ho
  have HO3 : Hid (∀ q ∈ l, IsPairs w q.2 q.1.preds ∧ OpNums q.1) := ho3'
  have HO4 : Hid (l ≠ [] → ∃ b off, ao = some ⟨b, off, none⟩ ∧ b < w.heap.size ∧ ∀ i (h : i < l.length) j, j < 13 → w.cell? ⟨b, off + i * 13 + j, none⟩ = (opCells l[i].1 l[i].2)[j]?) := ho4'
  have HL0 : Hid (l.map (·.1) = c.ops) := hl
  clear ho3' ho4' ho hd hv0 hl
  have HC : Hid (chk c = if chkHead c = 0 then chkOps c.ops else chkHead c) := rfl
  go_enter Try.func12, Try.ntmps12
  go_wp2_with fail
  refine H.mono ?_
  rintro e w1 ⟨rfl, b1⟩
  have B1 : Below w.heap.size w w1 := BA.trans (b1.mono BA.size)
  have X1 := heap_below hbx b1 (Nat.le_refl _)
  clear H hbx BA b1
  by_cases h0 : chkHead c = 0
  · have HC2 : Hid (chk c = chkOps c.ops) := by show _ = _; rw [HC.out, if_pos h0]
    rw [h0]
    have E0 : errV 0 = .nilIface := rfl
    rw [E0]
    have z4 : w1.cell? ⟨w.heap.size, 4, none⟩ = some (.slice ao l.length co) := Lib.cell_of_heap X1 4
    clear HC h0
    go_wp2_with fail
    go_loopw [15] (fun i wr => ∃ k : Nat, k ≤ l.length ∧ i = .int .i64 k ∧ (∀ j (hj : j < k) (hj2 : j < l.length), chkOp l[j].1 = 0) ∧ Below w.heap.size w wr) (fun i _ => l.length - (RowKit.intOf i).toNat)
    case atStart => exact ⟨0, Nat.zero_le _, rfl, fun j hj => by omega, B1⟩
    case round =>
      clear B1 X1 z4
      obtain ⟨k, hk, rfl, hok, hbel⟩ := hrel
      have hz := hbel.size
      by_cases hlt : k < l.length
      · obtain ⟨b, off, rfl, h4, h5⟩ := HO4.out (fun e => by rw [e] at hlt; simp at hlt)
        have CL : ∀ j, j < 13 → wr.cell? ⟨b, off + k * 13 + j, none⟩ = (opCells l[k].1 l[k].2)[j]? := fun j hj => by rw [hbel.cell (p := ⟨b, off + k * 13 + j, none⟩) h4]; exact h5 k hlt j hj
        have hp := (HO3.out l[k] (List.getElem_mem hlt)).1.below hbel
        have hk2 : k < c.ops.length := by have := HLN.out; omega
        have HL : Hid (c.ops[k] = l[k].1) := by
          show _ = _
          simp only [← HL0.out, List.getElem_map]
        have HD : Hid (chkOp l[k].1 ≠ 0 → chkOps c.ops = chkOp l[k].1) := by
          intro hne
          rw [chkOps_at c.ops k hk2 (fun j hj => by
            have := hok j hj (by omega)
            simp only [← HL0.out, List.getElem_map]
            exact this), List.drop_eq_getElem_cons hk2, chkOps, HL.out, if_neg hne]
        have HA : Hid (chkOp l[k].1 = 0 → ∀ j (hj : j < k + 1) (hj2 : j < l.length), chkOp l[j].1 = 0) := by
          intro h j hj hj2
          by_cases e : j = k
          · subst e; exact h
          · exact hok j (by omega) hj2
        obtain ⟨⟨o, vp⟩, hq⟩ : ∃ q, l[k] = q := ⟨_, rfl⟩
        rw [hq] at CL hp HD HA
        dsimp only at CL hp HD HA
        have g1 : (k : Int) < l.length := by omega
        have x0 := CL 0 (by decide)
        have x1 := CL 1 (by decide)
        have x2 := CL 2 (by decide)
        have x3 := CL 3 (by decide)
        have x4 := CL 4 (by decide)
        have x5 := CL 5 (by decide)
        have x6 := CL 6 (by decide)
        have x7 := CL 7 (by decide)
        have x8 := CL 8 (by decide)
        have x9 := CL 9 (by decide)
        have x10 := CL 10 (by decide)
        have x11 := CL 11 (by decide)
        have x12 := CL 12 (by decide)
        unfold opCells at x0 x1 x2 x3 x4 x5 x6 x7 x8 x9 x10 x11 x12
        simp only [Nat.add_zero, List.getElem?_cons_zero, List.getElem?_cons_succ] at x0 x1 x2 x3 x4 x5 x6 x7 x8 x9 x10 x11 x12
        have K := fun W h => checkOp_any o vp W h
        unfold opVal opCells at K
        have BB : Below w.heap.size w (wr.alloc (.cells #[.int .i64 o.kind, .int .i64 o.obj.1, .int .i64 o.obj.2, .string o.key, .int .i64 o.elem.1, .int .i64 o.elem.2, .bool o.ins, .int .i64 o.val.k, .int .i64 o.val.n, .string o.val.t, .int .i64 o.val.o, .int .i64 o.val.a, vp] 64)) := hbel.alloc hz _
        have hp1 := hp.below ((Below.refl wr.heap.size wr).alloc (Nat.le_refl _) (.cells #[.int .i64 o.kind, .int .i64 o.obj.1, .int .i64 o.obj.2, .string o.key, .int .i64 o.elem.1, .int .i64 o.elem.2, .bool o.ins, .int .i64 o.val.k, .int .i64 o.val.n, .string o.val.t, .int .i64 o.val.o, .int .i64 o.val.a, vp] 64))
        obtain ⟨ap, cp, rfl, -⟩ := id hp
        clear CL h5 hok hq hp HL HO4 HO3
        go_wp2_with fail
        refine (K _ hp1).mono ?_
        rintro e w2 ⟨rfl, b2⟩
        have B2 : Below w.heap.size w w2 := BB.trans (b2.mono BB.size)
        clear BB b2 hp1 K x0 x1 x2 x3 x4 x5 x6 x7 x8 x9 x10 x11 x12
        by_cases hne : chkOp o = 0
        · rw [hne]
          have E0 : errV 0 = .nilIface := rfl
          rw [E0]
          have HA2 : Hid _ := HA.out hne
          clear HA HD hne
          go_wp2
          go_roundw
          case rel => exact ⟨k + 1, hlt, by go_num, HA2.out, B2⟩
          case measure => simp [RowKit.intOf]; omega
        · rw [errV_ne hne]
          have HD2 : Hid (errV (chk c) = .iface 47 (.int .i64 (chkOp o))) := by show _ = _; rw [HC2.out, HD.out hne, errV_ne hne]
          clear HA HD hne
          generalize chkOp o = z at *
          go_wp2
          go_ret
          exact ⟨by rw [HD2.out]; rfl, B2⟩
      · have HN : Hid (chk c = 0) := by
          show _ = _
          rw [HC2.out]
          refine chkOps_none _ fun o ho => ?_
          rw [← HL0.out] at ho
          obtain ⟨q, hq, rfl⟩ := List.mem_map.1 ho
          obtain ⟨j, hj, rfl⟩ := List.getElem_of_mem hq
          exact hok j (by omega) hj
        have g1 : ¬ (k : Int) < l.length := by omega
        clear hok
        go_wp2
        go_ret
        exact ⟨by rw [HN.out]; rfl, hbel⟩
  · rw [errV_ne h0]
    have HN : Hid (errV (chk c) = .iface 47 (.int .i64 (chkHead c))) := by show _ = _; rw [HC.out, if_neg h0, errV_ne h0]
    clear HC h0
    generalize chkHead c = z at *
    go_wp2
    go_ret
    exact ⟨by rw [HN.out]; rfl, B1⟩

/-- A change that bytes begin with, and how many bytes it has. -/
def dec (l : List UInt8) : Option (Chg × Nat) :=
  match (rChg (some l)).2 with
  | some r => if chk (rChg (some l)).1 = 0 then some ((rChg (some l)).1, l.length - r.length) else none
  | none => none
end Go.Proofs.Ytbjnemmghpmjjaa
