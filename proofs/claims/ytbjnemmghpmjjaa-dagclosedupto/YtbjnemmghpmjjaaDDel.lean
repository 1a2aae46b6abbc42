/-
  What is proved: what package slices' Delete answers of a row of refs from which one is taken out.
  Conditions: the row is of the call's own.
-/
import Derived.Test.YtbjnemmghpmjjaaDTake
import Derived.Lib.SliceRun
namespace Go.Proofs.Ytbjnemmghpmjjaa
open Go.RowKit Go.Maps Go.Sort Go.Shelf Go.Lib

theorem zeroR (w : World) : (zeroValue 34).run Try.prog w = .ok (refV (0, 0)) w := by kernel_rfl

theorem run_clearR (w : World) (ty : TypeId) (b o c : Nat) (hc : ∀ j, j < 2 → (w.cell? ⟨b, o + j, none⟩).isSome = true) (hf : ∀ j, j < 2 → w.frozen? ⟨b, o + j, none⟩ = false) :
    (Builtin.clear_ #[28] ty #[.slice (some ⟨b, o, none⟩) 1 c]).run Try.prog w = .ok (.tuple #[]) (w.setCells b o [.int .i64 0, .int .i64 0]) := by
  have hzc : (Builtin.zeroCells (refV (0, 0)).cells 1).toList = [.int .i64 0, .int .i64 0] := by
    apply List.ext_getElem
    · simp [Builtin.zeroCells, Value.cells]
    · intro i h1 h2
      simp [Builtin.zeroCells, Value.cells] at h1 ⊢
      rcases i with _ | _ | i
      · rfl
      · rfl
      · omega
  have hst := run_storeCells_cells (P := Try.prog) b o [.int .i64 0, .int .i64 0] 0 w (by simpa using hc) (by simpa using hf) (by intro v hv; simp at hv; rw [hv]; rfl)
  simp only [Nat.add_zero] at hst
  simp [Builtin.clear_, run_underlying Try.underlying28, hzc, hst]

/-- A delete's end: what stands where it stood, and nothing at the end. -/
theorem del_world {w : World} {base g cap : Nat} {l : List Pr} (h : RowPr 34 base (.slice (some ⟨g, 0, none⟩) l.length cap) l w) (i n : Nat) (hi : i < l.length) (hn : l.length = n + 1) :
    RowPr 34 base (.slice (some ⟨g, 0, none⟩) n cap) (l.eraseIdx i) (((w.drew.setCells g (0 + i * 2) (pcells (l.drop (i + 1)))).setCells g (0 + n * 2) [.int .i64 0, .int .i64 0])) ∧ w.grownBy (((w.drew.setCells g (0 + i * 2) (pcells (l.drop (i + 1)))).setCells g (0 + n * 2) [.int .i64 0, .int .i64 0])) (some g) := by
  rcases h.2 with ⟨e, _⟩ | ⟨g', cap', cur, e, hbase, hb, h1, h2, h3, h4⟩
  · cases e
  obtain ⟨e1, _, e3⟩ := Value.slice.inj e
  obtain rfl : g = g' := by have := Option.some.inj e1; simpa using this
  subst e3
  have hl := pcells_len l
  have hH : Holds id w g 0 (pcells l).toArray := by
    have := holdsR_of_block (ss := l) hb h4
    unfold HoldsK at this
    rw [flat_pcells] at this
    exact this
  have hd := pcells_len (l.drop (i + 1))
  rw [List.length_drop] at hd
  have e4 : w.drew = putRow id (Sort.ahead w 1) g 0 (pcells l).toArray := (putRow_self id (Sort.ahead w 1) g 0 _ hH).symm
  rw [e4, setCells_putRow _ _ _ _ _ _ (by simp; omega), setCells_putRow _ _ _ _ _ _ (by simp; omega)]
  obtain ⟨F, hF⟩ : ∃ F, F = setMany (setMany (pcells l).toArray (i * 2) (pcells (l.drop (i + 1)))) (n * 2) [.int .i64 0, .int .i64 0] := ⟨_, rfl⟩
  rw [← hF]
  have hFs : F.size = l.length * 2 := by rw [hF]; simp [hl]
  have heap : (putRow id (Sort.ahead w 1) g 0 F).heap[g]? = some (.cells (putCells id 0 F cur) 34 (0, 0)) := by
    have := heap_sortedV (n := 1) (os := #[]) F hb
    simpa using this
  have hge : (l.eraseIdx i).length = n := by rw [List.length_eraseIdx, if_pos hi]; omega
  have hFt : F.toList.take (n * 2) = pcells (l.eraseIdx i) := by
    apply List.ext_getElem?
    intro t
    rcases Nat.lt_or_ge t (n * 2) with ht | ht
    · rw [List.getElem?_take_of_lt ht, Array.getElem?_toList]
      have hFt1 : F[t]! = if i * 2 ≤ t ∧ t < i * 2 + (pcells (l.drop (i + 1))).length then (pcells (l.drop (i + 1)))[t - i * 2]! else (pcells l).toArray[t]! := by
        rw [hF, get_setMany _ _ _ _ (by simp [hl]; omega), if_neg (by simp; omega), get_setMany _ _ _ _ (by simp [hl]; omega)]
      rw [Array.getElem?_eq_getElem (by omega), ← getElem!_pos F t (by omega), hFt1, List.eraseIdx_eq_take_drop_succ, pcells_append]
      have hti := pcells_len (l.take i)
      rw [List.length_take, Nat.min_eq_left (by omega)] at hti
      by_cases hc : i * 2 ≤ t
      · rw [if_pos ⟨hc, by omega⟩, List.getElem?_append_right (by omega), hti, getElem!_pos _ _ (by omega), List.getElem?_eq_getElem (by omega)]
      · rw [if_neg (by omega), List.getElem?_append_left (by omega)]
        have : (pcells l)[t]? = (pcells (l.take i))[t]? := by
          conv => lhs; rw [← List.take_append_drop i l, pcells_append]
          rw [List.getElem?_append_left (by omega)]
        rw [← this, getElem!_pos _ _ (by simp [hl]; omega), List.getElem?_eq_getElem (by omega)]
        simp
    · rw [List.getElem?_take_eq_none (by omega), List.getElem?_eq_none (by rw [pcells_len, hge]; exact ht)]
  refine ⟨⟨by rw [pcells_len], .inr ⟨g, cap, _, by rw [hge], hbase, heap, by rw [hge]; omega, h2, by simp [putCells, h3], ?_⟩⟩, ?_⟩
  · have := take_putCellsV cur F.toList (by simp; omega)
    rw [hge, ← hFt]
    have h9 : (putCells id 0 F cur).toList.take F.toList.length = F.toList := by simpa using this
    rw [← h9, List.take_take, Nat.min_eq_left (by simp; omega)]
  · have := grownBy_sortedV (w := w) (g := g) (n := 1) (os := #[]) F
    simpa using this

/-- A clear whose end is known. -/
theorem wp_clear {w : World} {ops : Array Oper} {rest : List Oper} {o : Oper} {a : Act} {Q : Exit → Act → World → Prop} (hgd : o.guard = none) (s : Operand) (T : TypeId)
    (ho : o.op = .call { callee := .builtin .clear, args := #[s], argTypes := #[T] }) (v r : Value) (w' : World) (hs : a.eval s = v)
    (hrun : (Builtin.clear_ #[T] o.type #[v]).run Try.prog w = .ok r w') (h : wpList Try.prog ops Q rest (a.put o.dst r) w') : wpList Try.prog ops Q (o :: rest) a w := by
  refine wpList_plain hgd fun K hK => ?_
  unfold Oper.wp
  simp [execOp, ho, resolve, invoke, builtin, hs, hrun, Result.andThen]
  exact hK _ _ h

theorem addr_add (b o t : Nat) : (⟨b, o, none⟩ : Addr).add t = ⟨b, o + t, none⟩ := by
  unfold Addr.add
  split <;> simp_all

set_option maxRecDepth 100000 in
set_option maxHeartbeats 8000000 in
theorem delete_any (base g cap : Nat) (l : List Pr) (i : Nat) (w : World) (h : RowPr 34 base (.slice (some ⟨g, 0, none⟩) l.length cap) l w) (hi : i < l.length) (hl : l.length ≤ 1000000) :
    Calls Try.prog 25 #[.slice (some ⟨g, 0, none⟩) l.length cap, .int .i64 i, .int .i64 (i + 1)] w fun e w' => e = .returned (.slice (some ⟨g, 0, none⟩) (l.length - 1) cap) ∧ RowPr 34 base (.slice (some ⟨g, 0, none⟩) (l.length - 1) cap) (l.eraseIdx i) w' ∧ w.grownBy w' (some g) := by
  obtain ⟨n, hn⟩ : ∃ n, l.length = n + 1 := ⟨l.length - 1, by omega⟩
  have D := del_world h i n hi hn
  rw [hn] at h hi hl ⊢
  rw [Nat.add_sub_cancel]
  obtain ⟨i0, hi0, hz0, hz1, hz2⟩ := info_parts infoR
  rcases h.2 with ⟨e, _⟩ | ⟨g', cap', cur, e, hbase, hb, h1, h2, h3, h4⟩
  · cases e
  obtain ⟨e1, e2, e3⟩ := Value.slice.inj e
  clear e2
  obtain rfl : g = g' := by have := Option.some.inj e1; simpa using this
  subst e3
  have cellA : ∀ t, t < cap * 2 → (w.cell? ⟨g, t, none⟩).isSome = true := fun t ht => by simp [World.cell?, hb]; omega
  have froz : ∀ t, w.frozen? ⟨g, t, none⟩ = false := Lib.frozen_of_heap hb
  have hd := pcells_len (l.drop (i + 1))
  rw [List.length_drop, hn] at hd
  have HD : Hid _ := D
  have hcap : n + 1 ≤ cap := by rw [hn] at h1; exact h1
  obtain ⟨A, hA, hsrc⟩ : ∃ A : Addr, (if cap = i + 1 then some (⟨g, 0, none⟩ : Addr) else some ⟨g, (i + 1) * 2, none⟩) = some A ∧ Hid (∀ t u, (pcells (l.drop (i + 1)))[t]? = some u → w.drew.cell? (A.add t) = some u) := by
    by_cases hca : cap = i + 1
    · refine ⟨⟨g, 0, none⟩, by simp [hca], fun t u hu => ?_⟩
      have h0 : (pcells (l.drop (i + 1))).length = 0 := by omega
      rw [List.length_eq_zero_iff.1 h0] at hu
      simp at hu
    · refine ⟨⟨g, (i + 1) * 2, none⟩, by simp [hca], fun t u hu => ?_⟩
      have ht : t < (n - i) * 2 := by
        have := (List.getElem?_eq_some_iff.1 hu).1
        omega
      rw [addr_add]
      show w.cell? _ = _
      have h7 : (cur.toList.take (l.length * 2))[(i + 1) * 2 + t]? = (pcells l)[(i + 1) * 2 + t]? := by rw [hn]; rw [hn] at h4; rw [h4]
      rw [List.getElem?_take_of_lt (by rw [hn]; omega)] at h7
      have h8 : (pcells l)[(i + 1) * 2 + t]? = (pcells (l.drop (i + 1)))[t]? := by
        conv => lhs; rw [← List.take_append_drop (i + 1) l, pcells_append]
        rw [List.getElem?_append_right (by rw [pcells_len, List.length_take]; omega), pcells_len, List.length_take, hn, Nat.min_eq_left (by omega)]
        congr 1
        omega
      simp only [World.cell?, hb]
      simp only [Option.isSome_none, Bool.false_eq_true, if_false]
      rw [← Array.getElem?_toList, h7, h8]
      exact hu
  have s1 : Hid ((pcells (l.drop (i + 1))).length = (n - i) * 2) := by show _ = _; omega
  have s2 : Hid (∀ u ∈ pcells (l.drop (i + 1)), u.oneCell' = true) := by
    intro u hu
    unfold pcells at hu
    obtain ⟨x, _, hx⟩ := List.mem_flatMap.1 hu
    simp at hx
    rcases hx with rfl | rfl <;> rfl
  have s3 : Hid (∀ t, t < (pcells (l.drop (i + 1))).length → (w.drew.cell? ⟨g, 0 + i * 2 + t, none⟩).isSome = true ∧ w.drew.frozen? ⟨g, 0 + i * 2 + t, none⟩ = false) := fun t ht => ⟨cellA _ (by omega), froz _⟩
  obtain ⟨W1, hW1⟩ : ∃ W1, W1 = w.drew.setCells g (0 + i * 2) (pcells (l.drop (i + 1))) := ⟨_, rfl⟩
  have hclr : Hid (∀ t, t < 2 → (W1.cell? ⟨g, n * 2 + t, none⟩).isSome = true ∧ W1.frozen? ⟨g, n * 2 + t, none⟩ = false) := by
    have hH : Holds id w g 0 (pcells l).toArray := by
      have := holdsR_of_block (ss := l) hb (by rw [hn]; rw [hn] at h4; exact h4)
      unfold HoldsK at this
      rw [flat_pcells] at this
      exact this
    have hll := pcells_len l
    have e4 : w.drew = putRow id (Sort.ahead w 1) g 0 (pcells l).toArray := (putRow_self id (Sort.ahead w 1) g 0 _ hH).symm
    rw [hW1, e4, setCells_putRow _ _ _ _ _ _ (by simp; omega)]
    have hp := heap_sortedV (n := 1) (os := #[]) (setMany (pcells l).toArray (i * 2) (pcells (l.drop (i + 1)))) hb
    simp only [grow_empty] at hp
    intro t ht
    refine ⟨?_, Lib.frozen_of_heap hp _⟩
    simp [World.cell?, hp, putCells]
    omega
  have HW : Hid (_ ∧ _) := ⟨hclr.out, hW1⟩
  have g1 : (i : Int) < n + 1 := by omega
  have g2 : (n : Int) < 1000000 := by omega
  have g3 : (n : Int) + 1 ≤ cap := by omega
  have g4 : (i : Int) ≤ n := by omega
  have HI : Hid (i ≤ n) := by show _ ≤ _; omega
  obtain ⟨j, hj⟩ : ∃ j : Nat, j = i + 1 := ⟨_, rfl⟩
  have q1 : ((i : Int) == (j : Int)) = false := by simp; omega
  have q2 : (i : Int) ≤ j := by omega
  have q3 : (j : Int) ≤ n + 1 := by omega
  have HJ : Hid (j = i + 1) := hj
  rw [show ((i : Int) + 1) = (j : Int) from by omega]
  clear hj
  clear D hb h1 h3 h4 hd cellA froz hclr hW1 e e1 h hbase hn hl
  have HH : Hid (_ ∧ _ ∧ _ ∧ _ ∧ _) := ⟨hi0, hz1, hA, hcap, h2⟩
  clear hi0 hz0 hz1 hz2 hA hcap h2 hi
  go_enter Try.func25, Try.ntmps25
  go_upto_region 5 with fail
  obtain ⟨hi0, hz1, hA, hcap, h2⟩ := HH.out
  clear HH
  rw [← HJ.out] at hA
  have HH : Hid (_ ∧ _ ∧ _ ∧ _) := ⟨hi0, hz1, hcap, h2⟩
  have hlen : Hid ((pcells (l.drop (i + 1))).length = (n + 1 - j) * 2) := by have := s1.out; have := HJ.out; have := HI.out; show _ = _; omega
  have g5 : (i : Int) ≤ cap := by have := HI.out; omega
  have g6 : (j : Int) ≤ cap := by omega
  clear hi0 hz1 hcap h2
  go_region_law (refine step_append_room rfl (.tmp 22) (.tmp 25) 28 rfl 34 i0 2 Try.underlying28 HH.out.1 HH.out.2.1 g 0 i cap (by simp [Act.eval, Act.put]) A (n + 1 - j) (cap - j) (pcells (l.drop (i + 1))) (by simp [Act.eval, Act.put]) hlen.out hsrc.out s2.out (by have := HI.out; have := HJ.out; have := HH.out.2.2.1; omega) s3.out ?_)
  have e7 : i + (n + 1 - j) = n := by have := HI.out; have := HJ.out; omega
  rw [e7]
  obtain ⟨hclr, hW1⟩ := HW.out
  rw [Nat.zero_add] at hW1
  rw [← hW1]
  have hrun := run_clearR W1 0 g (n * 2) (cap - n) (fun t ht => (hclr t ht).1) (fun t ht => (hclr t ht).2)
  have HW2 : Hid _ := hW1
  have e8 : n + 1 - n = 1 := by omega
  have g7 : (n : Int) ≤ cap := by omega
  have g8 : ¬ cap = n := by omega
  have hD := HD.out
  rw [Nat.zero_add, ← hW1, Nat.zero_add] at hD
  have HD2 : Hid _ := hD
  clear e7 hclr hW1 hD HD HW hA hsrc s1 s2 s3 hlen g1 g4 q1 q2 q3 g5 g6
  go_wp2_with (first | (at_builtin; refine wp_clear rfl _ 28 rfl _ _ _ rfl hrun ?_))
  go_ret
  exact ⟨rfl, HD2.out⟩
end Go.Proofs.Ytbjnemmghpmjjaa
