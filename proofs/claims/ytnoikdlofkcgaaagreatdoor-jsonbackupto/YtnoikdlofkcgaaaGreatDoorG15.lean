/-
  What is proved: what package slices' Delete answers of a row of texts, and of trees, from which one is taken out. the function find of package json, called with a tree whose keys rise and a step, tells besides where a key that is not there would stand.
  Conditions: as each theorem says.
-/
import Derived.Test.YtnoikdlofkcgaaaGreatDoorG14
import Derived.Lib.SliceRun
import Derived.Deep.RegionLaw
import Derived.Test.YtnoikdlofkcgaaaGreatDoorJFind
namespace Go.Proofs.YtnoikdlofkcgaaaGreatDoor
open Go.RowKit

/-- Cells stored one after the other are a row stored. -/
theorem setCells_row {w : World} {g o : Nat} {t : TypeId} {cur : Array Value} {vs : List Value} (hg : w.heap[g]? = some (.cells cur t)) (hfit : o + vs.length ≤ cur.size) (h1 : ∀ v ∈ vs, v.oneCell' = true) :
    w.setCells g o vs = w.setRow g (cur.toList.take o ++ vs ++ cur.toList.drop (o + vs.length)).toArray := by
  have e1 := run_storeCells_at Tryz.prog g o t vs 0 cur w hg (by simpa using hfit) h1
  have e2 := run_storeCells_cells (P := Tryz.prog) g o vs 0 w (fun j hj => by rw [Nat.add_zero]; simp [World.cell?, hg]; omega) (fun j _ => Lib.frozen_of_heap hg _) h1
  rw [e1] at e2
  simp only [Nat.add_zero] at e2
  injection e2 with _ e3
  exact e3.symm
/-- A list without a piece. -/
def cut1 (a b : Nat) (xs : List Value) : List Value := xs.take a ++ xs.drop b
theorem wp_clearJ {w : World} {ops : Array Oper} {rest : List Oper} {o : Oper} {a : Act} {Q : Exit → Act → World → Prop} (hgd : o.guard = none) (s : Operand) (T : TypeId)
    (ho : o.op = .call { callee := .builtin .clear, args := #[s], argTypes := #[T] }) (v r : Value) (w' : World) (hs : a.eval s = v)
    (hrun : (Builtin.clear_ #[T] o.type #[v]).run Tryz.prog w = .ok r w') (h : wpList Tryz.prog ops Q rest (a.put o.dst r) w') : wpList Tryz.prog ops Q (o :: rest) a w := by
  refine wpList_plain hgd fun K hK => ?_
  unfold Oper.wp
  simp [execOp, ho, resolve, invoke, builtin, hs, hrun, Result.andThen]
  exact hK _ _ h
theorem addr_addJ (b o t : Nat) : (⟨b, o, none⟩ : Addr).add t = ⟨b, o + t, none⟩ := by
  unfold Addr.add
  split <;> simp_all

theorem run_clearS (w : World) (ty : TypeId) (b o c : Nat) (hc : ∀ j, j < 1 → (w.cell? ⟨b, o + j, none⟩).isSome = true) (hf : ∀ j, j < 1 → w.frozen? ⟨b, o + j, none⟩ = false) :
    (Builtin.clear_ #[26] ty #[.slice (some ⟨b, o, none⟩) 1 c]).run Tryz.prog w = .ok (.tuple #[]) (w.setCells b o [.string ⟨#[]⟩]) := by
  have hz0 : ∀ w, (zeroValue 9).run Tryz.prog w = .ok (Value.string ⟨#[]⟩) w := fun w => by kernel_rfl
  have hzc : (Builtin.zeroCells (Value.string ⟨#[]⟩).cells 1).toList = [.string ⟨#[]⟩] := by kernel_rfl
  have hst := run_storeCells_cells (P := Tryz.prog) b o [.string ⟨#[]⟩] 0 w (by simpa using hc) (by simp) (by decide)
  simp only [Nat.add_zero] at hst
  simp [Builtin.clear_, run_underlying Tryz.underlying26, hz0, hzc, hst]

theorem delS_world {w : World} {B g cap n : Nat} {cs : List Value} (h : w.ownsRow B 9 1 (.slice (some ⟨g, 0, none⟩) (n + 1) cap) (n + 1) cs) (i : Nat) (hi : i ≤ n) (h1c : ∀ u ∈ cs, u.oneCell' = true) :
    ((w.drew.setCells g (i * 1) (cs.drop ((i + 1) * 1))).setCells g (n * 1) [.string ⟨#[]⟩]).ownsRow B 9 1 (.slice (some ⟨g, 0, none⟩) n cap) n (cut1 (i * 1) ((i + 1) * 1) cs) ∧ w.grownBy ((w.drew.setCells g (i * 1) (cs.drop ((i + 1) * 1))).setCells g (n * 1) [.string ⟨#[]⟩]) (some g) ∧
    (∀ t, t < 1 → ((w.drew.setCells g (i * 1) (cs.drop ((i + 1) * 1))).cell? ⟨g, n * 1 + t, none⟩).isSome = true ∧ (w.drew.setCells g (i * 1) (cs.drop ((i + 1) * 1))).frozen? ⟨g, n * 1 + t, none⟩ = false) := by
  obtain ⟨hl, h2⟩ := h
  rcases h2 with ⟨e, _⟩ | ⟨g', cap', cur, e, hB, hb, hc, hm, hz, ht⟩
  · cases e
  obtain ⟨e1, _, e3⟩ := Value.slice.inj e
  obtain rfl : g = g' := by have := Option.some.inj e1; simpa using this
  subst e3
  have hd : (cs.drop ((i + 1) * 1)).length = (n - i) * 1 := by rw [List.length_drop, hl]; omega
  have hb1 : w.drew.heap[g]? = some (.cells cur 9) := hb
  have q1 := setCells_row (o := i * 1) (vs := cs.drop ((i + 1) * 1)) hb1 (by rw [hd, hz]; omega) (fun v hv => h1c v (List.mem_of_mem_drop hv))
  obtain ⟨R1, hR1⟩ : ∃ R1, R1 = cur.toList.take (i * 1) ++ cs.drop ((i + 1) * 1) ++ cur.toList.drop (i * 1 + (cs.drop ((i + 1) * 1)).length) := ⟨_, rfl⟩
  rw [← hR1] at q1
  have hR1l : R1.length = cap * 1 := by
    rw [hR1, List.length_append, List.length_append, hd, List.length_take, List.length_drop, Array.length_toList, hz]
    omega
  have hR1t : R1.take (n * 1) = cut1 (i * 1) ((i + 1) * 1) cs := by
    have e5 : (cur.toList.take (i * 1) ++ cs.drop ((i + 1) * 1)).length = n * 1 := by
      rw [List.length_append, hd, List.length_take, Array.length_toList, hz]
      omega
    rw [hR1, List.take_left' e5]
    unfold cut1
    rw [← ht, List.take_take, Nat.min_eq_left (by omega)]
  rw [q1]
  have hg1 : (w.drew.setRow g R1.toArray).heap[g]? = some (.cells R1.toArray 9) := setRow_heap w.drew g cur R1.toArray 9 (0, 0) hb1
  have hZ : ([.string ⟨#[]⟩] : List Value).length = 1 := rfl
  have q2 := setCells_row (o := n * 1) (vs := [.string ⟨#[]⟩]) hg1 (by rw [hZ, List.size_toArray, hR1l]; omega) (by decide)
  have e6 : R1.toArray.toList = R1 := rfl
  rw [e6] at q2
  refine ⟨?_, ?_, fun t ht => ⟨?_, Lib.frozen_of_heap hg1 _⟩⟩
  · rw [q2]
    have hcl : (cut1 (i * 1) ((i + 1) * 1) cs).length = n * 1 := by rw [← hR1t, List.length_take, hR1l]; omega
    refine ⟨hcl, Or.inr ⟨g, cap, _, rfl, hB, setRow_heap _ g R1.toArray _ 9 (0, 0) hg1, by omega, hm, ?_, ?_⟩⟩
    · rw [List.size_toArray, List.length_append, List.length_append, hZ, List.length_take, List.length_drop]
      rw [hR1l]
      omega
    · rw [List.append_assoc, List.take_left' (by rw [List.length_take, hR1l]; omega)]
      exact hR1t
  · rw [q2]
    refine ⟨rfl, rfl, rfl, by rw [size_setRow, size_setRow]; exact Nat.le_refl _, fun k hk hkg => ?_⟩
    have hne : k ≠ g := fun e => hkg (by rw [e])
    rw [setRow_other _ g k _ hne, setRow_other _ g k _ hne]
    rfl
  · rw [Lib.cell_of_heap hg1]
    simp [hR1l]
    omega

theorem run_clearT (w : World) (ty : TypeId) (b o c : Nat) (hc : ∀ j, j < 7 → (w.cell? ⟨b, o + j, none⟩).isSome = true) (hf : ∀ j, j < 7 → w.frozen? ⟨b, o + j, none⟩ = false) :
    (Builtin.clear_ #[27] ty #[.slice (some ⟨b, o, none⟩) 1 c]).run Tryz.prog w = .ok (.tuple #[]) (w.setCells b o [.int .i64 0, .int .i64 0, .string ⟨#[]⟩, .int .i64 0, .int .i64 0, .slice none 0 0, .slice none 0 0]) := by
  have hz0 : ∀ w, (zeroValue 29).run Tryz.prog w = .ok (zT) w := fun w => by kernel_rfl
  have hzc : (Builtin.zeroCells (zT).cells 1).toList = [.int .i64 0, .int .i64 0, .string ⟨#[]⟩, .int .i64 0, .int .i64 0, .slice none 0 0, .slice none 0 0] := by kernel_rfl
  have hst := run_storeCells_cells (P := Tryz.prog) b o [.int .i64 0, .int .i64 0, .string ⟨#[]⟩, .int .i64 0, .int .i64 0, .slice none 0 0, .slice none 0 0] 0 w (by simpa using hc) (by simpa using hf) (by decide)
  simp only [Nat.add_zero] at hst
  simp [Builtin.clear_, run_underlying Tryz.underlying27, hz0, hzc, hst]

theorem delT_world {w : World} {B g cap n : Nat} {cs : List Value} (h : w.ownsRow B 29 7 (.slice (some ⟨g, 0, none⟩) (n + 1) cap) (n + 1) cs) (i : Nat) (hi : i ≤ n) (h1c : ∀ u ∈ cs, u.oneCell' = true) :
    ((w.drew.setCells g (i * 7) (cs.drop ((i + 1) * 7))).setCells g (n * 7) [.int .i64 0, .int .i64 0, .string ⟨#[]⟩, .int .i64 0, .int .i64 0, .slice none 0 0, .slice none 0 0]).ownsRow B 29 7 (.slice (some ⟨g, 0, none⟩) n cap) n (cut1 (i * 7) ((i + 1) * 7) cs) ∧ w.grownBy ((w.drew.setCells g (i * 7) (cs.drop ((i + 1) * 7))).setCells g (n * 7) [.int .i64 0, .int .i64 0, .string ⟨#[]⟩, .int .i64 0, .int .i64 0, .slice none 0 0, .slice none 0 0]) (some g) ∧
    (∀ t, t < 7 → ((w.drew.setCells g (i * 7) (cs.drop ((i + 1) * 7))).cell? ⟨g, n * 7 + t, none⟩).isSome = true ∧ (w.drew.setCells g (i * 7) (cs.drop ((i + 1) * 7))).frozen? ⟨g, n * 7 + t, none⟩ = false) := by
  obtain ⟨hl, h2⟩ := h
  rcases h2 with ⟨e, _⟩ | ⟨g', cap', cur, e, hB, hb, hc, hm, hz, ht⟩
  · cases e
  obtain ⟨e1, _, e3⟩ := Value.slice.inj e
  obtain rfl : g = g' := by have := Option.some.inj e1; simpa using this
  subst e3
  have hd : (cs.drop ((i + 1) * 7)).length = (n - i) * 7 := by rw [List.length_drop, hl]; omega
  have hb1 : w.drew.heap[g]? = some (.cells cur 29) := hb
  have q1 := setCells_row (o := i * 7) (vs := cs.drop ((i + 1) * 7)) hb1 (by rw [hd, hz]; omega) (fun v hv => h1c v (List.mem_of_mem_drop hv))
  obtain ⟨R1, hR1⟩ : ∃ R1, R1 = cur.toList.take (i * 7) ++ cs.drop ((i + 1) * 7) ++ cur.toList.drop (i * 7 + (cs.drop ((i + 1) * 7)).length) := ⟨_, rfl⟩
  rw [← hR1] at q1
  have hR1l : R1.length = cap * 7 := by
    rw [hR1, List.length_append, List.length_append, hd, List.length_take, List.length_drop, Array.length_toList, hz]
    omega
  have hR1t : R1.take (n * 7) = cut1 (i * 7) ((i + 1) * 7) cs := by
    have e5 : (cur.toList.take (i * 7) ++ cs.drop ((i + 1) * 7)).length = n * 7 := by
      rw [List.length_append, hd, List.length_take, Array.length_toList, hz]
      omega
    rw [hR1, List.take_left' e5]
    unfold cut1
    rw [← ht, List.take_take, Nat.min_eq_left (by omega)]
  rw [q1]
  have hg1 : (w.drew.setRow g R1.toArray).heap[g]? = some (.cells R1.toArray 29) := setRow_heap w.drew g cur R1.toArray 29 (0, 0) hb1
  have hZ : ([.int .i64 0, .int .i64 0, .string ⟨#[]⟩, .int .i64 0, .int .i64 0, .slice none 0 0, .slice none 0 0] : List Value).length = 7 := rfl
  have q2 := setCells_row (o := n * 7) (vs := [.int .i64 0, .int .i64 0, .string ⟨#[]⟩, .int .i64 0, .int .i64 0, .slice none 0 0, .slice none 0 0]) hg1 (by rw [hZ, List.size_toArray, hR1l]; omega) (by decide)
  have e6 : R1.toArray.toList = R1 := rfl
  rw [e6] at q2
  refine ⟨?_, ?_, fun t ht => ⟨?_, Lib.frozen_of_heap hg1 _⟩⟩
  · rw [q2]
    have hcl : (cut1 (i * 7) ((i + 1) * 7) cs).length = n * 7 := by rw [← hR1t, List.length_take, hR1l]; omega
    refine ⟨hcl, Or.inr ⟨g, cap, _, rfl, hB, setRow_heap _ g R1.toArray _ 29 (0, 0) hg1, by omega, hm, ?_, ?_⟩⟩
    · rw [List.size_toArray, List.length_append, List.length_append, hZ, List.length_take, List.length_drop]
      rw [hR1l]
      omega
    · rw [List.append_assoc, List.take_left' (by rw [List.length_take, hR1l]; omega)]
      exact hR1t
  · rw [q2]
    refine ⟨rfl, rfl, rfl, by rw [size_setRow, size_setRow]; exact Nat.le_refl _, fun k hk hkg => ?_⟩
    have hne : k ≠ g := fun e => hkg (by rw [e])
    rw [setRow_other _ g k _ hne, setRow_other _ g k _ hne]
    rfl
  · rw [Lib.cell_of_heap hg1]
    simp [hR1l]
    omega

end Go.Proofs.YtnoikdlofkcgaaaGreatDoor

namespace Go.Proofs.YtnoikdlofkcgaaaGreatDoor
open Go.RowKit Go.Sort

/-- What find answers. -/
def FindI (q : Option Nat) (ky : Bool) (ks : List ByteArray) (key : List UInt8) (e : Ending) : Prop := ∃ (r : Int) (ok : Bool), e = .returned (.tuple #[.int .i64 r, .bool ok]) ∧ ((∀ j, q = some j → r = j ∧ ok = true) ∧ (q = none → ok = false)) ∧ (ky = true → ∃ j : Nat, r = j ∧ Found ks key j ok)

set_option maxRecDepth 100000 in
set_option maxHeartbeats 4000000 in
theorem findI_any (x : V) (ks : List ByteArray) (a1 a2 : Option Addr) (n1 c1 n2 c2 : Nat) (s : Stp) (w : World) (hk : IsStrs w (.slice a1 n1 c1) ks) (hu : x.k = 5 → upB [] ks = true) :
    Calls Tryz.prog 35 #[tval (x, .slice a1 n1 c1, .slice a2 n2 c2), stpV s] w fun e w' => FindI (kidOf x ks n2 s) (keyStep x s) ks s.1.toList e ∧ Below w.heap.size w w' := by
  have E1 := isKeyOf_any x a1 a2 n1 c1 n2 c2 s
  have E2 := isIndexOf_any x a1 a2 n1 c1 n2 c2 s
  have HV : Hid (kidOf x ks n2 s = if keyStep x s = true then lookK ks s.1.toList else if atStep x n2 s = true ∧ s.2 < n2 then some s.2.toNat else none) := rfl
  have HK : Hid (keyStep x s = true → x.k = 5) := by
    intro h
    unfold keyStep at h
    simp only [Bool.and_eq_true, decide_eq_true_eq] at h
    exact h.1
  have HA : Hid (atStep x n2 s = true → 0 ≤ s.2) := by
    intro h
    unfold atStep at h
    simp only [Bool.and_eq_true, decide_eq_true_eq] at h
    exact h.2.2.1
  generalize kidOf x ks n2 s = r at *
  generalize keyStep x s = ky at *
  generalize atStep x n2 s = ay at *
  obtain ⟨k, n, t, o, c⟩ := x
  obtain ⟨b, i⟩ := s
  obtain ⟨t1, t2, t3⟩ := two_boxes w (.cells #[.int .i64 k, .int .i64 n, .string t, .int .i64 o, .int .i64 c, .slice a1 n1 c1, .slice a2 n2 c2] 29) (.cells #[.string b, .int .i64 i] 60)
  have HB : Hid (Below w.heap.size w _) := t3
  have HX : Hid (((w.alloc (.cells #[.int .i64 k, .int .i64 n, .string t, .int .i64 o, .int .i64 c, .slice a1 n1 c1, .slice a2 n2 c2] 29)).alloc (.cells #[.string b, .int .i64 i] 60)).heap[w.heap.size]? = some _) := t1
  have HY : Hid (((w.alloc (.cells #[.int .i64 k, .int .i64 n, .string t, .int .i64 o, .int .i64 c, .slice a1 n1 c1, .slice a2 n2 c2] 29)).alloc (.cells #[.string b, .int .i64 i] 60)).heap[w.heap.size + 1]? = some _) := t2
  have HS : Hid (IsStrs w (.slice a1 n1 c1) ks) := hk
  have HU : Hid (k = 5 → upB [] ks = true) := hu
  clear t1 t2 t3 hk hu
  unfold tval stpV at *
  dsimp only at *
  go_enter Tryz.func35, Tryz.ntmps35
  go_wp2_with fail
  go_fit (E1 _)
  rintro e w1 ⟨rfl, b1⟩
  have HX1 : Hid (w1.heap[w.heap.size]? = some _) := (b1.block _ (lt_of_heap HX.out)).trans HX.out
  have HY1 : Hid (w1.heap[w.heap.size + 1]? = some _) := (b1.block _ (lt_of_heap HY.out)).trans HY.out
  have HB1 : Hid (Below w.heap.size w w1) := HB.out.trans (b1.mono HB.out.size)
  obtain ⟨c0, c1', c2', c3, c4, c5, c6⟩ := tboxed (u := (⟨k, n, t, o, c⟩, .slice a1 n1 c1, .slice a2 n2 c2)) HX1.out
  dsimp only at c0 c1' c2' c3 c4 c5 c6
  have d0 : w1.cell? ⟨w.heap.size + 1, 0, none⟩ = some (.string b) := Lib.cell_of_heap HY1.out 0
  have d1 : w1.cell? ⟨w.heap.size + 1, 1, none⟩ = some (.int .i64 i) := Lib.cell_of_heap HY1.out 1
  clear b1 HX HY HB E1
  cases ky with
  | true =>
    have E := search_any (.slice a1 n1 c1) ks b w1 (HS.out.below HB1.out) (HU.out (HK.out (by first | trivial | rfl)))
    go_wp2_with fail
    go_fit E
    rintro e w2 ⟨⟨j, ok, rfl, HF⟩, b2⟩
    have HB2 : Hid (Below w.heap.size w w2) := HB1.out.trans (b2.mono HB1.out.size)
    have hf := found_look (HU.out (HK.out (by first | trivial | rfl))) HF
    have HR : Hid ((∀ q, r = some q → (j : Int) = q ∧ ok = true) ∧ (r = none → ok = false)) := by
      rw [show r = lookK ks b.toList by rw [HV.out]; simp]
      exact ⟨fun q hq => ⟨by have := (hf.1 q hq).1; omega, (hf.1 q hq).2⟩, hf.2⟩
    have HFK : Hid (∃ q : Nat, (j : Int) = q ∧ Found ks b.toList q ok) := ⟨j, rfl, HF⟩
    clear b2 hf HF E E2 c0 c1' c2' c3 c4 c5 c6 d0 d1
    go_wp2
    go_returns
    exact ⟨⟨_, _, rfl, HR.out, fun _ => HFK.out⟩, HB2.out⟩
  | false =>
    go_wp2_with fail
    go_fit (E2 _)
    rintro e w2 ⟨rfl, b2⟩
    have HX2 : Hid (w2.heap[w.heap.size]? = some _) := (b2.block _ (lt_of_heap HX1.out)).trans HX1.out
    have HY2 : Hid (w2.heap[w.heap.size + 1]? = some _) := (b2.block _ (lt_of_heap HY1.out)).trans HY1.out
    have HB2 : Hid (Below w.heap.size w w2) := HB1.out.trans (b2.mono HB1.out.size)
    clear c0 c1' c2' c3 c4 c5 c6 d0 d1 b2 E2
    have c6 : w2.cell? ⟨w.heap.size, 6, none⟩ = some (.slice a2 n2 c2) := Lib.cell_of_heap HX2.out 6
    have d1 : w2.cell? ⟨w.heap.size + 1, 1, none⟩ = some (.int .i64 i) := Lib.cell_of_heap HY2.out 1
    cases ay with
    | true =>
      have h0 := HA.out rfl
      by_cases hlt : i < n2
      · have HR : Hid (r = some i.toNat ∧ 0 ≤ i) := ⟨by rw [HV.out, if_neg (by decide), if_pos ⟨rfl, hlt⟩], h0⟩
        clear h0 HA
        go_wp2
        go_quiet (fail)
        go_wp2
        go_returns
        refine ⟨⟨_, _, rfl, ⟨fun q hq => ?_, fun hq => ?_⟩, fun h => (by cases h)⟩, below_drew HB2.out nq⟩
        · rw [HR.out.1] at hq
          have h1 := Option.some.inj hq
          have h2 := HR.out.2
          exact ⟨by omega, rfl⟩
        · rw [HR.out.1] at hq; cases hq
      · have HR : Hid (r = none) := by
          show r = none
          rw [HV.out, if_neg (by decide), if_neg (fun h => hlt h.2)]
        have HN : Hid (¬ i < n2) := hlt
        clear h0 HA
        go_wp2
        go_quiet (fail)
        go_wp2
        go_returns
        refine ⟨⟨_, _, rfl, ⟨fun q hq => ?_, fun hq => decide_eq_false (by have := HN.out; omega)⟩, fun h => (by cases h)⟩, below_drew HB2.out nq⟩
        rw [HR.out] at hq; cases hq
    | false =>
      have HR : Hid (r = none) := by
        show r = none
        rw [HV.out, if_neg (by decide), if_neg (fun h => by cases h.1)]
      go_wp2
      go_returns
      refine ⟨⟨_, _, rfl, ⟨fun q hq => ?_, fun hq => rfl⟩, fun h => (by cases h)⟩, HB2.out⟩
      rw [HR.out] at hq; cases hq
end Go.Proofs.YtnoikdlofkcgaaaGreatDoor
