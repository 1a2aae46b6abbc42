/-
  What is proved: what package slices' Delete answers of a row of texts, and of trees, from which one is taken out.
  Conditions: the row is of its own.
-/
import Derived.Test.YtegbjkjeoegfbaaDoorJInsM
import Derived.Lib.SliceRun
import Derived.Deep.RegionLaw
namespace Go.Proofs.YtegbjkjeoegfbaaDoor
open Go.RowKit

/-- Cells stored one after the other are a row stored. -/
theorem setCells_row {w : World} {g o : Nat} {t : TypeId} {cur : Array Value} {vs : List Value} (hg : w.heap[g]? = some (.cells cur t)) (hfit : o + vs.length ≤ cur.size) (h1 : ∀ v ∈ vs, v.oneCell' = true) :
    w.setCells g o vs = w.setRow g (cur.toList.take o ++ vs ++ cur.toList.drop (o + vs.length)).toArray := by
  have e1 := run_storeCells_at Tryd.prog g o t vs 0 cur w hg (by simpa using hfit) h1
  have e2 := run_storeCells_cells (P := Tryd.prog) g o vs 0 w (fun j hj => by rw [Nat.add_zero]; simp [World.cell?, hg]; omega) (fun j _ => Lib.frozen_of_heap hg _) h1
  rw [e1] at e2
  simp only [Nat.add_zero] at e2
  injection e2 with _ e3
  exact e3.symm
/-- A list without a piece. -/
def cut1 (a b : Nat) (xs : List Value) : List Value := xs.take a ++ xs.drop b
theorem wp_clearJ {w : World} {ops : Array Oper} {rest : List Oper} {o : Oper} {a : Act} {Q : Exit → Act → World → Prop} (hgd : o.guard = none) (s : Operand) (T : TypeId)
    (ho : o.op = .call { callee := .builtin .clear, args := #[s], argTypes := #[T] }) (v r : Value) (w' : World) (hs : a.eval s = v)
    (hrun : (Builtin.clear_ #[T] o.type #[v]).run Tryd.prog w = .ok r w') (h : wpList Tryd.prog ops Q rest (a.put o.dst r) w') : wpList Tryd.prog ops Q (o :: rest) a w := by
  refine wpList_plain hgd fun K hK => ?_
  unfold Oper.wp
  simp [execOp, ho, resolve, invoke, builtin, hs, hrun, Result.andThen]
  exact hK _ _ h
theorem addr_addJ (b o t : Nat) : (⟨b, o, none⟩ : Addr).add t = ⟨b, o + t, none⟩ := by
  unfold Addr.add
  split <;> simp_all

theorem run_clearS (w : World) (ty : TypeId) (b o c : Nat) (hc : ∀ j, j < 1 → (w.cell? ⟨b, o + j, none⟩).isSome = true) (hf : ∀ j, j < 1 → w.frozen? ⟨b, o + j, none⟩ = false) :
    (Builtin.clear_ #[26] ty #[.slice (some ⟨b, o, none⟩) 1 c]).run Tryd.prog w = .ok (.tuple #[]) (w.setCells b o [.string ⟨#[]⟩]) := by
  have hz0 : ∀ w, (zeroValue 9).run Tryd.prog w = .ok (Value.string ⟨#[]⟩) w := fun w => by kernel_rfl
  have hzc : (Builtin.zeroCells (Value.string ⟨#[]⟩).cells 1).toList = [.string ⟨#[]⟩] := by kernel_rfl
  have hst := run_storeCells_cells (P := Tryd.prog) b o [.string ⟨#[]⟩] 0 w (by simpa using hc) (by simpa using hf) (by decide)
  simp only [Nat.add_zero] at hst
  simp [Builtin.clear_, run_underlying Tryd.underlying26, hz0, hzc, hst]

theorem delS_world {w : World} {B g cap n : Nat} {cs : List Value} (h : w.ownsRow B 9 1 (.slice (some ⟨g, 0, none⟩) (n + 1) cap) (n + 1) cs) (i : Nat) (hi : i ≤ n) (h1c : ∀ u ∈ cs, u.oneCell' = true) :
    ((w.drew.setCells g (i * 1) (cs.drop ((i + 1) * 1))).setCells g (n * 1) [.string ⟨#[]⟩]).ownsRow B 9 1 (.slice (some ⟨g, 0, none⟩) n cap) n (cut1 (i * 1) ((i + 1) * 1) cs) ∧ w.grownBy ((w.drew.setCells g (i * 1) (cs.drop ((i + 1) * 1))).setCells g (n * 1) [.string ⟨#[]⟩]) (some g) ∧
    (∀ t, t < 1 → ((w.drew.setCells g (i * 1) (cs.drop ((i + 1) * 1))).cell? ⟨g, n * 1 + t, none⟩).isSome = true ∧ (w.drew.setCells g (i * 1) (cs.drop ((i + 1) * 1))).frozen? ⟨g, n * 1 + t, none⟩ = false) := by
  obtain ⟨hl, h2⟩ := h
  rcases h2 with ⟨e, _⟩ | ⟨g', cap', cur, e, hB, hb, hc, hm, hz, ht⟩
  · cases e
  obtain ⟨e1, _, e3⟩ := Value.slice.inj e
  obtain rfl : g = g' := by have := Option.some.inj e1; simpa using this
  subst e3
  have hd : (cs.drop ((i + 1) * 1)).length = (n - i) * 1 := by rw [List.length_drop, hl]; omega
  have hb1 : w.drew.heap[g]? = some (.cells cur 9) := hb
  have q1 := setCells_row (o := i * 1) (vs := cs.drop ((i + 1) * 1)) hb1 (by rw [hd, hz]; omega) (fun v hv => h1c v (List.mem_of_mem_drop hv))
  obtain ⟨R1, hR1⟩ : ∃ R1, R1 = cur.toList.take (i * 1) ++ cs.drop ((i + 1) * 1) ++ cur.toList.drop (i * 1 + (cs.drop ((i + 1) * 1)).length) := ⟨_, rfl⟩
  rw [← hR1] at q1
  have hR1l : R1.length = cap * 1 := by
    rw [hR1, List.length_append, List.length_append, hd, List.length_take, List.length_drop, Array.length_toList, hz]
    omega
  have hR1t : R1.take (n * 1) = cut1 (i * 1) ((i + 1) * 1) cs := by
    have e5 : (cur.toList.take (i * 1) ++ cs.drop ((i + 1) * 1)).length = n * 1 := by
      rw [List.length_append, hd, List.length_take, Array.length_toList, hz]
      omega
    rw [hR1, List.take_left' e5]
    unfold cut1
    rw [← ht, List.take_take, Nat.min_eq_left (by omega)]
  rw [q1]
  have hg1 : (w.drew.setRow g R1.toArray).heap[g]? = some (.cells R1.toArray 9) := setRow_heap w.drew g cur R1.toArray 9 (0, 0) hb1
  have hZ : ([.string ⟨#[]⟩] : List Value).length = 1 := rfl
  have q2 := setCells_row (o := n * 1) (vs := [.string ⟨#[]⟩]) hg1 (by rw [hZ, List.size_toArray, hR1l]; omega) (by decide)
  have e6 : R1.toArray.toList = R1 := rfl
  rw [e6] at q2
  refine ⟨?_, ?_, fun t ht => ⟨?_, Lib.frozen_of_heap hg1 _⟩⟩
  · rw [q2]
    have hcl : (cut1 (i * 1) ((i + 1) * 1) cs).length = n * 1 := by rw [← hR1t, List.length_take, hR1l]; omega
    refine ⟨hcl, Or.inr ⟨g, cap, _, rfl, hB, setRow_heap _ g R1.toArray _ 9 (0, 0) hg1, by omega, hm, ?_, ?_⟩⟩
    · rw [List.size_toArray, List.length_append, List.length_append, hZ, List.length_take, List.length_drop]
      rw [hR1l]
      omega
    · rw [List.append_assoc, List.take_left' (by rw [List.length_take, hR1l]; omega)]
      exact hR1t
  · rw [q2]
    refine ⟨rfl, rfl, rfl, by rw [size_setRow, size_setRow]; exact Nat.le_refl _, fun k hk hkg => ?_⟩
    have hne : k ≠ g := fun e => hkg (by rw [e])
    rw [setRow_other _ g k _ hne, setRow_other _ g k _ hne]
    rfl
  · rw [Lib.cell_of_heap hg1]
    simp [hR1l]
    omega

set_option maxRecDepth 100000 in
set_option maxHeartbeats 8000000 in
theorem delS_any (B g cap n : Nat) (cs : List Value) (i : Nat) (w : World) (h : w.ownsRow B 9 1 (.slice (some ⟨g, 0, none⟩) (n + 1) cap) (n + 1) cs) (hi : i ≤ n) (hn : n ≤ 1000) (h1c : ∀ u ∈ cs, u.oneCell' = true) :
    Calls Tryd.prog 44 #[.slice (some ⟨g, 0, none⟩) (n + 1) cap, .int .i64 i, .int .i64 (i + 1)] w fun e w' => e = .returned (.slice (some ⟨g, 0, none⟩) n cap) ∧ w'.ownsRow B 9 1 (.slice (some ⟨g, 0, none⟩) n cap) n (cut1 (i * 1) ((i + 1) * 1) cs) ∧ w.grownBy w' (some g) := by
  obtain ⟨D1, D2, hclr⟩ := delS_world h i hi h1c
  obtain ⟨i0, hi0, hz0, hz1, hz2⟩ := info_parts infoS
  obtain ⟨hl, h2⟩ := h
  rcases h2 with ⟨e, _⟩ | ⟨g', cap', cur, e, hB, hb, hcap, hm, hz, ht⟩
  · cases e
  obtain ⟨e1, e2, e3⟩ := Value.slice.inj e
  clear e2
  obtain rfl : g = g' := by have := Option.some.inj e1; simpa using this
  subst e3
  have cellA : ∀ t, t < cap * 1 → (w.cell? ⟨g, t, none⟩).isSome = true := fun t ht => by simp [World.cell?, hb]; omega
  have froz : ∀ t, w.frozen? ⟨g, t, none⟩ = false := Lib.frozen_of_heap hb
  have hd : (cs.drop ((i + 1) * 1)).length = (n - i) * 1 := by rw [List.length_drop, hl]; omega
  have HD : Hid (_ ∧ _) := ⟨D1, D2⟩
  obtain ⟨A, hA, hsrc⟩ : ∃ A : Addr, (if cap = i + 1 then some (⟨g, 0, none⟩ : Addr) else some ⟨g, i + 1, none⟩) = some A ∧ Hid (∀ t u, (cs.drop ((i + 1) * 1))[t]? = some u → w.drew.cell? (A.add t) = some u) := by
    by_cases hca : cap = i + 1
    · refine ⟨⟨g, 0, none⟩, by simp [hca], fun t u hu => ?_⟩
      have h0 : (cs.drop ((i + 1) * 1)).length = 0 := by omega
      rw [List.length_eq_zero_iff.1 h0] at hu
      simp at hu
    · refine ⟨⟨g, i + 1, none⟩, by simp [hca], fun t u hu => ?_⟩
      have ht2 : t < (n - i) * 1 := by
        have := (List.getElem?_eq_some_iff.1 hu).1
        omega
      rw [addr_addJ]
      show w.cell? _ = _
      rw [List.getElem?_drop] at hu
      rw [Lib.cell_of_heap hb]
      have h7 : (cur.toList.take ((n + 1) * 1))[(i + 1) * 1 + t]? = cs[(i + 1) * 1 + t]? := by rw [ht]
      rw [List.getElem?_take_of_lt (by omega), Array.getElem?_toList, hu] at h7
      have e9 : i + 1 + t = (i + 1) * 1 + t := by omega
      rw [e9]
      exact h7
  have s1 : Hid ((cs.drop ((i + 1) * 1)).length = (n - i) * 1) := hd
  have s2 : Hid (∀ u ∈ cs.drop ((i + 1) * 1), u.oneCell' = true) := fun u hu => h1c u (List.mem_of_mem_drop hu)
  have s3 : Hid (∀ t, t < (cs.drop ((i + 1) * 1)).length → (w.drew.cell? ⟨g, 0 + i * 1 + t, none⟩).isSome = true ∧ w.drew.frozen? ⟨g, 0 + i * 1 + t, none⟩ = false) := fun t ht => ⟨cellA _ (by omega), froz _⟩
  obtain ⟨W1, hW1⟩ : ∃ W1, W1 = w.drew.setCells g (i * 1) (cs.drop ((i + 1) * 1)) := ⟨_, rfl⟩
  rw [← hW1] at hclr
  have HW : Hid (_ ∧ _) := ⟨hclr, hW1⟩
  have g1 : (i : Int) < n + 1 := by omega
  have g2 : (n : Int) < 1000000 := by omega
  have g3 : (n : Int) + 1 ≤ cap := by omega
  have g4 : (i : Int) ≤ n := by omega
  have HI : Hid (i ≤ n) := hi
  obtain ⟨j, hj⟩ : ∃ j : Nat, j = i + 1 := ⟨_, rfl⟩
  have q1 : ((i : Int) == (j : Int)) = false := by simp; omega
  have q2 : (i : Int) ≤ j := by omega
  have q3 : (j : Int) ≤ n + 1 := by omega
  have HJ : Hid (j = i + 1) := hj
  rw [show ((i : Int) + 1) = (j : Int) from by omega]
  clear hj
  clear D1 D2 hb hz ht hd cellA froz hclr hW1 e e1 hB hn hl h1c
  have HH : Hid (_ ∧ _ ∧ _ ∧ _ ∧ _) := ⟨hi0, hz1, hA, hcap, hm⟩
  clear hi0 hz0 hz1 hz2 hA hcap hm hi
  go_enter Tryd.func44, Tryd.ntmps44
  go_upto_region 5 with fail
  obtain ⟨hi0, hz1, hA, hcap, hm⟩ := HH.out
  clear HH
  rw [← HJ.out] at hA
  have HH : Hid (_ ∧ _ ∧ _ ∧ _) := ⟨hi0, hz1, hcap, hm⟩
  have hlen : Hid ((cs.drop ((i + 1) * 1)).length = (n + 1 - j) * 1) := by have := s1.out; have := HJ.out; have := HI.out; show _ = _; omega
  have g5 : (i : Int) ≤ cap := by have := HI.out; omega
  have g6 : (j : Int) ≤ cap := by omega
  clear hi0 hz1 hcap hm
  go_region_law (refine step_append_room rfl (.tmp 22) (.tmp 25) 26 rfl 9 i0 1 Tryd.underlying26 HH.out.1 HH.out.2.1 g 0 i cap (by simp [Act.eval, Act.put]) A (n + 1 - j) (cap - j) (cs.drop ((i + 1) * 1)) (by simp [Act.eval, Act.put]) hlen.out hsrc.out s2.out (by have := HI.out; have := HJ.out; have := HH.out.2.2.1; omega) s3.out ?_)
  have e7 : i + (n + 1 - j) = n := by have := HI.out; have := HJ.out; omega
  rw [e7]
  obtain ⟨hclr, hW1⟩ := HW.out
  simp only [Nat.mul_one] at hW1
  rw [← hW1]
  have hrun := run_clearS W1 0 g (n * 1) (cap - n) (fun t ht => (hclr t ht).1) (fun t ht => (hclr t ht).2)
  have e8 : n + 1 - n = 1 := by omega
  have g7 : (n : Int) ≤ cap := by omega
  have g8 : ¬ cap = n := by omega
  have hD := HD.out
  simp only [Nat.mul_one] at hD hrun
  rw [← hW1] at hD
  have HD2 : Hid (_ ∧ _) := hD
  clear e7 hclr hW1 hD HD HW hA hsrc s1 s2 s3 hlen g1 g4 q1 q2 q3 g5 g6
  go_wp2_with (first | (at_builtin; refine wp_clearJ rfl _ 26 rfl _ _ _ rfl hrun ?_))
  go_ret
  refine ⟨rfl, ?_⟩
  simp only [Nat.mul_one]
  exact HD2.out

theorem run_clearT (w : World) (ty : TypeId) (b o c : Nat) (hc : ∀ j, j < 7 → (w.cell? ⟨b, o + j, none⟩).isSome = true) (hf : ∀ j, j < 7 → w.frozen? ⟨b, o + j, none⟩ = false) :
    (Builtin.clear_ #[27] ty #[.slice (some ⟨b, o, none⟩) 1 c]).run Tryd.prog w = .ok (.tuple #[]) (w.setCells b o [.int .i64 0, .int .i64 0, .string ⟨#[]⟩, .int .i64 0, .int .i64 0, .slice none 0 0, .slice none 0 0]) := by
  have hz0 : ∀ w, (zeroValue 29).run Tryd.prog w = .ok (zT) w := fun w => by kernel_rfl
  have hzc : (Builtin.zeroCells (zT).cells 1).toList = [.int .i64 0, .int .i64 0, .string ⟨#[]⟩, .int .i64 0, .int .i64 0, .slice none 0 0, .slice none 0 0] := by kernel_rfl
  have hst := run_storeCells_cells (P := Tryd.prog) b o [.int .i64 0, .int .i64 0, .string ⟨#[]⟩, .int .i64 0, .int .i64 0, .slice none 0 0, .slice none 0 0] 0 w (by simpa using hc) (by simpa using hf) (by decide)
  simp only [Nat.add_zero] at hst
  simp [Builtin.clear_, run_underlying Tryd.underlying27, hz0, hzc, hst]

theorem delT_world {w : World} {B g cap n : Nat} {cs : List Value} (h : w.ownsRow B 29 7 (.slice (some ⟨g, 0, none⟩) (n + 1) cap) (n + 1) cs) (i : Nat) (hi : i ≤ n) (h1c : ∀ u ∈ cs, u.oneCell' = true) :
    ((w.drew.setCells g (i * 7) (cs.drop ((i + 1) * 7))).setCells g (n * 7) [.int .i64 0, .int .i64 0, .string ⟨#[]⟩, .int .i64 0, .int .i64 0, .slice none 0 0, .slice none 0 0]).ownsRow B 29 7 (.slice (some ⟨g, 0, none⟩) n cap) n (cut1 (i * 7) ((i + 1) * 7) cs) ∧ w.grownBy ((w.drew.setCells g (i * 7) (cs.drop ((i + 1) * 7))).setCells g (n * 7) [.int .i64 0, .int .i64 0, .string ⟨#[]⟩, .int .i64 0, .int .i64 0, .slice none 0 0, .slice none 0 0]) (some g) ∧
    (∀ t, t < 7 → ((w.drew.setCells g (i * 7) (cs.drop ((i + 1) * 7))).cell? ⟨g, n * 7 + t, none⟩).isSome = true ∧ (w.drew.setCells g (i * 7) (cs.drop ((i + 1) * 7))).frozen? ⟨g, n * 7 + t, none⟩ = false) := by
  obtain ⟨hl, h2⟩ := h
  rcases h2 with ⟨e, _⟩ | ⟨g', cap', cur, e, hB, hb, hc, hm, hz, ht⟩
  · cases e
  obtain ⟨e1, _, e3⟩ := Value.slice.inj e
  obtain rfl : g = g' := by have := Option.some.inj e1; simpa using this
  subst e3
  have hd : (cs.drop ((i + 1) * 7)).length = (n - i) * 7 := by rw [List.length_drop, hl]; omega
  have hb1 : w.drew.heap[g]? = some (.cells cur 29) := hb
  have q1 := setCells_row (o := i * 7) (vs := cs.drop ((i + 1) * 7)) hb1 (by rw [hd, hz]; omega) (fun v hv => h1c v (List.mem_of_mem_drop hv))
  obtain ⟨R1, hR1⟩ : ∃ R1, R1 = cur.toList.take (i * 7) ++ cs.drop ((i + 1) * 7) ++ cur.toList.drop (i * 7 + (cs.drop ((i + 1) * 7)).length) := ⟨_, rfl⟩
  rw [← hR1] at q1
  have hR1l : R1.length = cap * 7 := by
    rw [hR1, List.length_append, List.length_append, hd, List.length_take, List.length_drop, Array.length_toList, hz]
    omega
  have hR1t : R1.take (n * 7) = cut1 (i * 7) ((i + 1) * 7) cs := by
    have e5 : (cur.toList.take (i * 7) ++ cs.drop ((i + 1) * 7)).length = n * 7 := by
      rw [List.length_append, hd, List.length_take, Array.length_toList, hz]
      omega
    rw [hR1, List.take_left' e5]
    unfold cut1
    rw [← ht, List.take_take, Nat.min_eq_left (by omega)]
  rw [q1]
  have hg1 : (w.drew.setRow g R1.toArray).heap[g]? = some (.cells R1.toArray 29) := setRow_heap w.drew g cur R1.toArray 29 (0, 0) hb1
  have hZ : ([.int .i64 0, .int .i64 0, .string ⟨#[]⟩, .int .i64 0, .int .i64 0, .slice none 0 0, .slice none 0 0] : List Value).length = 7 := rfl
  have q2 := setCells_row (o := n * 7) (vs := [.int .i64 0, .int .i64 0, .string ⟨#[]⟩, .int .i64 0, .int .i64 0, .slice none 0 0, .slice none 0 0]) hg1 (by rw [hZ, List.size_toArray, hR1l]; omega) (by decide)
  have e6 : R1.toArray.toList = R1 := rfl
  rw [e6] at q2
  refine ⟨?_, ?_, fun t ht => ⟨?_, Lib.frozen_of_heap hg1 _⟩⟩
  · rw [q2]
    have hcl : (cut1 (i * 7) ((i + 1) * 7) cs).length = n * 7 := by rw [← hR1t, List.length_take, hR1l]; omega
    refine ⟨hcl, Or.inr ⟨g, cap, _, rfl, hB, setRow_heap _ g R1.toArray _ 29 (0, 0) hg1, by omega, hm, ?_, ?_⟩⟩
    · rw [List.size_toArray, List.length_append, List.length_append, hZ, List.length_take, List.length_drop]
      rw [hR1l]
      omega
    · rw [List.append_assoc, List.take_left' (by rw [List.length_take, hR1l]; omega)]
      exact hR1t
  · rw [q2]
    refine ⟨rfl, rfl, rfl, by rw [size_setRow, size_setRow]; exact Nat.le_refl _, fun k hk hkg => ?_⟩
    have hne : k ≠ g := fun e => hkg (by rw [e])
    rw [setRow_other _ g k _ hne, setRow_other _ g k _ hne]
    rfl
  · rw [Lib.cell_of_heap hg1]
    simp [hR1l]
    omega

set_option maxRecDepth 100000 in
set_option maxHeartbeats 8000000 in
theorem delT_any (B g cap n : Nat) (cs : List Value) (i : Nat) (w : World) (h : w.ownsRow B 29 7 (.slice (some ⟨g, 0, none⟩) (n + 1) cap) (n + 1) cs) (hi : i ≤ n) (hn : n ≤ 1000) (h1c : ∀ u ∈ cs, u.oneCell' = true) :
    Calls Tryd.prog 45 #[.slice (some ⟨g, 0, none⟩) (n + 1) cap, .int .i64 i, .int .i64 (i + 1)] w fun e w' => e = .returned (.slice (some ⟨g, 0, none⟩) n cap) ∧ w'.ownsRow B 29 7 (.slice (some ⟨g, 0, none⟩) n cap) n (cut1 (i * 7) ((i + 1) * 7) cs) ∧ w.grownBy w' (some g) := by
  obtain ⟨D1, D2, hclr⟩ := delT_world h i hi h1c
  obtain ⟨i0, hi0, hz0, hz1, hz2⟩ := info_parts infoT
  obtain ⟨hl, h2⟩ := h
  rcases h2 with ⟨e, _⟩ | ⟨g', cap', cur, e, hB, hb, hcap, hm, hz, ht⟩
  · cases e
  obtain ⟨e1, e2, e3⟩ := Value.slice.inj e
  clear e2
  obtain rfl : g = g' := by have := Option.some.inj e1; simpa using this
  subst e3
  have cellA : ∀ t, t < cap * 7 → (w.cell? ⟨g, t, none⟩).isSome = true := fun t ht => by simp [World.cell?, hb]; omega
  have froz : ∀ t, w.frozen? ⟨g, t, none⟩ = false := Lib.frozen_of_heap hb
  have hd : (cs.drop ((i + 1) * 7)).length = (n - i) * 7 := by rw [List.length_drop, hl]; omega
  have HD : Hid (_ ∧ _) := ⟨D1, D2⟩
  obtain ⟨A, hA, hsrc⟩ : ∃ A : Addr, (if cap = i + 1 then some (⟨g, 0, none⟩ : Addr) else some ⟨g, (i + 1) * 7, none⟩) = some A ∧ Hid (∀ t u, (cs.drop ((i + 1) * 7))[t]? = some u → w.drew.cell? (A.add t) = some u) := by
    by_cases hca : cap = i + 1
    · refine ⟨⟨g, 0, none⟩, by simp [hca], fun t u hu => ?_⟩
      have h0 : (cs.drop ((i + 1) * 7)).length = 0 := by omega
      rw [List.length_eq_zero_iff.1 h0] at hu
      simp at hu
    · refine ⟨⟨g, (i + 1) * 7, none⟩, by simp [hca], fun t u hu => ?_⟩
      have ht2 : t < (n - i) * 7 := by
        have := (List.getElem?_eq_some_iff.1 hu).1
        omega
      rw [addr_addJ]
      show w.cell? _ = _
      rw [List.getElem?_drop] at hu
      rw [Lib.cell_of_heap hb]
      have h7 : (cur.toList.take ((n + 1) * 7))[(i + 1) * 7 + t]? = cs[(i + 1) * 7 + t]? := by rw [ht]
      rw [List.getElem?_take_of_lt (by omega), Array.getElem?_toList, hu] at h7
      have e9 : (i + 1) * 7 + t = (i + 1) * 7 + t := by omega
      rw [e9]
      exact h7
  have s1 : Hid ((cs.drop ((i + 1) * 7)).length = (n - i) * 7) := hd
  have s2 : Hid (∀ u ∈ cs.drop ((i + 1) * 7), u.oneCell' = true) := fun u hu => h1c u (List.mem_of_mem_drop hu)
  have s3 : Hid (∀ t, t < (cs.drop ((i + 1) * 7)).length → (w.drew.cell? ⟨g, 0 + i * 7 + t, none⟩).isSome = true ∧ w.drew.frozen? ⟨g, 0 + i * 7 + t, none⟩ = false) := fun t ht => ⟨cellA _ (by omega), froz _⟩
  obtain ⟨W1, hW1⟩ : ∃ W1, W1 = w.drew.setCells g (i * 7) (cs.drop ((i + 1) * 7)) := ⟨_, rfl⟩
  rw [← hW1] at hclr
  have HW : Hid (_ ∧ _) := ⟨hclr, hW1⟩
  have g1 : (i : Int) < n + 1 := by omega
  have g2 : (n : Int) < 1000000 := by omega
  have g3 : (n : Int) + 1 ≤ cap := by omega
  have g4 : (i : Int) ≤ n := by omega
  have HI : Hid (i ≤ n) := hi
  obtain ⟨j, hj⟩ : ∃ j : Nat, j = i + 1 := ⟨_, rfl⟩
  have q1 : ((i : Int) == (j : Int)) = false := by simp; omega
  have q2 : (i : Int) ≤ j := by omega
  have q3 : (j : Int) ≤ n + 1 := by omega
  have HJ : Hid (j = i + 1) := hj
  rw [show ((i : Int) + 1) = (j : Int) from by omega]
  clear hj
  clear D1 D2 hb hz ht hd cellA froz hclr hW1 e e1 hB hn hl h1c
  have HH : Hid (_ ∧ _ ∧ _ ∧ _ ∧ _) := ⟨hi0, hz1, hA, hcap, hm⟩
  clear hi0 hz0 hz1 hz2 hA hcap hm hi
  go_enter Tryd.func45, Tryd.ntmps45
  go_upto_region 5 with fail
  obtain ⟨hi0, hz1, hA, hcap, hm⟩ := HH.out
  clear HH
  rw [← HJ.out] at hA
  have HH : Hid (_ ∧ _ ∧ _ ∧ _) := ⟨hi0, hz1, hcap, hm⟩
  have hlen : Hid ((cs.drop ((i + 1) * 7)).length = (n + 1 - j) * 7) := by have := s1.out; have := HJ.out; have := HI.out; show _ = _; omega
  have g5 : (i : Int) ≤ cap := by have := HI.out; omega
  have g6 : (j : Int) ≤ cap := by omega
  clear hi0 hz1 hcap hm
  go_region_law (refine step_append_room rfl (.tmp 22) (.tmp 25) 27 rfl 29 i0 7 Tryd.underlying27 HH.out.1 HH.out.2.1 g 0 i cap (by simp [Act.eval, Act.put]) A (n + 1 - j) (cap - j) (cs.drop ((i + 1) * 7)) (by simp [Act.eval, Act.put]) hlen.out hsrc.out s2.out (by have := HI.out; have := HJ.out; have := HH.out.2.2.1; omega) s3.out ?_)
  have e7 : i + (n + 1 - j) = n := by have := HI.out; have := HJ.out; omega
  rw [e7]
  obtain ⟨hclr, hW1⟩ := HW.out
  rw [← hW1]
  have hrun := run_clearT W1 0 g (n * 7) (cap - n) (fun t ht => (hclr t ht).1) (fun t ht => (hclr t ht).2)
  have e8 : n + 1 - n = 1 := by omega
  have g7 : (n : Int) ≤ cap := by omega
  have g8 : ¬ cap = n := by omega
  have hD := HD.out
  rw [← hW1] at hD
  have HD2 : Hid (_ ∧ _) := hD
  clear e7 hclr hW1 hD HD HW hA hsrc s1 s2 s3 hlen g1 g4 q1 q2 q3 g5 g6
  go_wp2_with (first | (at_builtin; refine wp_clearJ rfl _ 27 rfl _ _ _ rfl hrun ?_))
  go_ret
  exact ⟨rfl, HD2.out⟩

end Go.Proofs.YtegbjkjeoegfbaaDoor
