/-
  What is proved: what package slices' Delete answers of a row of texts, and of trees, from which one is taken out. the function find of package json, called with a tree whose keys rise and a step, tells besides where a key that is not there would stand. what a patch's step leaves in memory at a place of a tree whose rows lie in blocks apart. a region that draws its order, gone through in the text's order, where what is known of the world needs to hold only until its late operations, each of which waits for all that is taken first.
  Conditions: as each theorem says.
-/
import Derived.Test.YtnmdhbejjjmdeaaGreatDoorP15
import Derived.Lib.SliceRun
import Derived.Deep.RegionLaw
import Derived.Test.YtnmdhbejjjmdeaaGreatDoorP04
import Derived.Test.YtnmdhbejjjmdeaaGreatDoorProg
import Derived.Deep.RegionHeld3
namespace Go.Proofs.YtnmdhbejjjmdeaaGreatDoor
open Go.RowKit

/-- Cells stored one after the other are a row stored. -/
theorem setCells_row {w : World} {g o : Nat} {t : TypeId} {cur : Array Value} {vs : List Value} (hg : w.heap[g]? = some (.cells cur t)) (hfit : o + vs.length ≤ cur.size) (h1 : ∀ v ∈ vs, v.oneCell' = true) :
    w.setCells g o vs = w.setRow g (cur.toList.take o ++ vs ++ cur.toList.drop (o + vs.length)).toArray := by
  have e1 := run_storeCells_at Tryz.prog g o t vs 0 cur w hg (by simpa using hfit) h1
  have e2 := run_storeCells_cells (P := Tryz.prog) g o vs 0 w (fun j hj => by rw [Nat.add_zero]; simp [World.cell?, hg]; omega) (fun j _ => Lib.frozen_of_heap hg _) h1
  rw [e1] at e2
  simp only [Nat.add_zero] at e2
  injection e2 with _ e3
  exact e3.symm
/-- A list without a piece. -/
def cut1 (a b : Nat) (xs : List Value) : List Value := xs.take a ++ xs.drop b
theorem wp_clearJ {w : World} {ops : Array Oper} {rest : List Oper} {o : Oper} {a : Act} {Q : Exit → Act → World → Prop} (hgd : o.guard = none) (s : Operand) (T : TypeId)
    (ho : o.op = .call { callee := .builtin .clear, args := #[s], argTypes := #[T] }) (v r : Value) (w' : World) (hs : a.eval s = v)
    (hrun : (Builtin.clear_ #[T] o.type #[v]).run Tryz.prog w = .ok r w') (h : wpList Tryz.prog ops Q rest (a.put o.dst r) w') : wpList Tryz.prog ops Q (o :: rest) a w := by
  refine wpList_plain hgd fun K hK => ?_
  unfold Oper.wp
  simp [execOp, ho, resolve, invoke, builtin, hs, hrun, Result.andThen]
  exact hK _ _ h
theorem addr_addJ (b o t : Nat) : (⟨b, o, none⟩ : Addr).add t = ⟨b, o + t, none⟩ := by
  unfold Addr.add
  split <;> simp_all

theorem run_clearS (w : World) (ty : TypeId) (b o c : Nat) (hc : ∀ j, j < 1 → (w.cell? ⟨b, o + j, none⟩).isSome = true) (hf : ∀ j, j < 1 → w.frozen? ⟨b, o + j, none⟩ = false) :
    (Builtin.clear_ #[26] ty #[.slice (some ⟨b, o, none⟩) 1 c]).run Tryz.prog w = .ok (.tuple #[]) (w.setCells b o [.string ⟨#[]⟩]) := by
  have hz0 : ∀ w, (zeroValue 9).run Tryz.prog w = .ok (Value.string ⟨#[]⟩) w := fun w => by kernel_rfl
  have hzc : (Builtin.zeroCells (Value.string ⟨#[]⟩).cells 1).toList = [.string ⟨#[]⟩] := by kernel_rfl
  have hst := run_storeCells_cells (P := Tryz.prog) b o [.string ⟨#[]⟩] 0 w (by simpa using hc) (by simp) (by decide)
  simp only [Nat.add_zero] at hst
  simp [Builtin.clear_, run_underlying Tryz.underlying26, hz0, hzc, hst]

theorem delS_world {w : World} {B g cap n : Nat} {cs : List Value} (h : w.ownsRow B 9 1 (.slice (some ⟨g, 0, none⟩) (n + 1) cap) (n + 1) cs) (i : Nat) (hi : i ≤ n) (h1c : ∀ u ∈ cs, u.oneCell' = true) :
    ((w.drew.setCells g (i * 1) (cs.drop ((i + 1) * 1))).setCells g (n * 1) [.string ⟨#[]⟩]).ownsRow B 9 1 (.slice (some ⟨g, 0, none⟩) n cap) n (cut1 (i * 1) ((i + 1) * 1) cs) ∧ w.grownBy ((w.drew.setCells g (i * 1) (cs.drop ((i + 1) * 1))).setCells g (n * 1) [.string ⟨#[]⟩]) (some g) ∧
    (∀ t, t < 1 → ((w.drew.setCells g (i * 1) (cs.drop ((i + 1) * 1))).cell? ⟨g, n * 1 + t, none⟩).isSome = true ∧ (w.drew.setCells g (i * 1) (cs.drop ((i + 1) * 1))).frozen? ⟨g, n * 1 + t, none⟩ = false) := by
  obtain ⟨hl, h2⟩ := h
  rcases h2 with ⟨e, _⟩ | ⟨g', cap', cur, e, hB, hb, hc, hm, hz, ht⟩
  · cases e
  obtain ⟨e1, _, e3⟩ := Value.slice.inj e
  obtain rfl : g = g' := by have := Option.some.inj e1; simpa using this
  subst e3
  have hd : (cs.drop ((i + 1) * 1)).length = (n - i) * 1 := by rw [List.length_drop, hl]; omega
  have hb1 : w.drew.heap[g]? = some (.cells cur 9) := hb
  have q1 := setCells_row (o := i * 1) (vs := cs.drop ((i + 1) * 1)) hb1 (by rw [hd, hz]; omega) (fun v hv => h1c v (List.mem_of_mem_drop hv))
  obtain ⟨R1, hR1⟩ : ∃ R1, R1 = cur.toList.take (i * 1) ++ cs.drop ((i + 1) * 1) ++ cur.toList.drop (i * 1 + (cs.drop ((i + 1) * 1)).length) := ⟨_, rfl⟩
  rw [← hR1] at q1
  have hR1l : R1.length = cap * 1 := by
    rw [hR1, List.length_append, List.length_append, hd, List.length_take, List.length_drop, Array.length_toList, hz]
    omega
  have hR1t : R1.take (n * 1) = cut1 (i * 1) ((i + 1) * 1) cs := by
    have e5 : (cur.toList.take (i * 1) ++ cs.drop ((i + 1) * 1)).length = n * 1 := by
      rw [List.length_append, hd, List.length_take, Array.length_toList, hz]
      omega
    rw [hR1, List.take_left' e5]
    unfold cut1
    rw [← ht, List.take_take, Nat.min_eq_left (by omega)]
  rw [q1]
  have hg1 : (w.drew.setRow g R1.toArray).heap[g]? = some (.cells R1.toArray 9) := setRow_heap w.drew g cur R1.toArray 9 (0, 0) hb1
  have hZ : ([.string ⟨#[]⟩] : List Value).length = 1 := rfl
  have q2 := setCells_row (o := n * 1) (vs := [.string ⟨#[]⟩]) hg1 (by rw [hZ, List.size_toArray, hR1l]; omega) (by decide)
  have e6 : R1.toArray.toList = R1 := rfl
  rw [e6] at q2
  refine ⟨?_, ?_, fun t ht => ⟨?_, Lib.frozen_of_heap hg1 _⟩⟩
  · rw [q2]
    have hcl : (cut1 (i * 1) ((i + 1) * 1) cs).length = n * 1 := by rw [← hR1t, List.length_take, hR1l]; omega
    refine ⟨hcl, Or.inr ⟨g, cap, _, rfl, hB, setRow_heap _ g R1.toArray _ 9 (0, 0) hg1, by omega, hm, ?_, ?_⟩⟩
    · rw [List.size_toArray, List.length_append, List.length_append, hZ, List.length_take, List.length_drop]
      rw [hR1l]
      omega
    · rw [List.append_assoc, List.take_left' (by rw [List.length_take, hR1l]; omega)]
      exact hR1t
  · rw [q2]
    refine ⟨rfl, rfl, rfl, by rw [size_setRow, size_setRow]; exact Nat.le_refl _, fun k hk hkg => ?_⟩
    have hne : k ≠ g := fun e => hkg (by rw [e])
    rw [setRow_other _ g k _ hne, setRow_other _ g k _ hne]
    rfl
  · rw [Lib.cell_of_heap hg1]
    simp [hR1l]
    omega

theorem run_clearT (w : World) (ty : TypeId) (b o c : Nat) (hc : ∀ j, j < 7 → (w.cell? ⟨b, o + j, none⟩).isSome = true) (hf : ∀ j, j < 7 → w.frozen? ⟨b, o + j, none⟩ = false) :
    (Builtin.clear_ #[27] ty #[.slice (some ⟨b, o, none⟩) 1 c]).run Tryz.prog w = .ok (.tuple #[]) (w.setCells b o [.int .i64 0, .int .i64 0, .string ⟨#[]⟩, .int .i64 0, .int .i64 0, .slice none 0 0, .slice none 0 0]) := by
  have hz0 : ∀ w, (zeroValue 29).run Tryz.prog w = .ok (zT) w := fun w => by kernel_rfl
  have hzc : (Builtin.zeroCells (zT).cells 1).toList = [.int .i64 0, .int .i64 0, .string ⟨#[]⟩, .int .i64 0, .int .i64 0, .slice none 0 0, .slice none 0 0] := by kernel_rfl
  have hst := run_storeCells_cells (P := Tryz.prog) b o [.int .i64 0, .int .i64 0, .string ⟨#[]⟩, .int .i64 0, .int .i64 0, .slice none 0 0, .slice none 0 0] 0 w (by simpa using hc) (by simpa using hf) (by decide)
  simp only [Nat.add_zero] at hst
  simp [Builtin.clear_, run_underlying Tryz.underlying27, hz0, hzc, hst]

theorem delT_world {w : World} {B g cap n : Nat} {cs : List Value} (h : w.ownsRow B 29 7 (.slice (some ⟨g, 0, none⟩) (n + 1) cap) (n + 1) cs) (i : Nat) (hi : i ≤ n) (h1c : ∀ u ∈ cs, u.oneCell' = true) :
    ((w.drew.setCells g (i * 7) (cs.drop ((i + 1) * 7))).setCells g (n * 7) [.int .i64 0, .int .i64 0, .string ⟨#[]⟩, .int .i64 0, .int .i64 0, .slice none 0 0, .slice none 0 0]).ownsRow B 29 7 (.slice (some ⟨g, 0, none⟩) n cap) n (cut1 (i * 7) ((i + 1) * 7) cs) ∧ w.grownBy ((w.drew.setCells g (i * 7) (cs.drop ((i + 1) * 7))).setCells g (n * 7) [.int .i64 0, .int .i64 0, .string ⟨#[]⟩, .int .i64 0, .int .i64 0, .slice none 0 0, .slice none 0 0]) (some g) ∧
    (∀ t, t < 7 → ((w.drew.setCells g (i * 7) (cs.drop ((i + 1) * 7))).cell? ⟨g, n * 7 + t, none⟩).isSome = true ∧ (w.drew.setCells g (i * 7) (cs.drop ((i + 1) * 7))).frozen? ⟨g, n * 7 + t, none⟩ = false) := by
  obtain ⟨hl, h2⟩ := h
  rcases h2 with ⟨e, _⟩ | ⟨g', cap', cur, e, hB, hb, hc, hm, hz, ht⟩
  · cases e
  obtain ⟨e1, _, e3⟩ := Value.slice.inj e
  obtain rfl : g = g' := by have := Option.some.inj e1; simpa using this
  subst e3
  have hd : (cs.drop ((i + 1) * 7)).length = (n - i) * 7 := by rw [List.length_drop, hl]; omega
  have hb1 : w.drew.heap[g]? = some (.cells cur 29) := hb
  have q1 := setCells_row (o := i * 7) (vs := cs.drop ((i + 1) * 7)) hb1 (by rw [hd, hz]; omega) (fun v hv => h1c v (List.mem_of_mem_drop hv))
  obtain ⟨R1, hR1⟩ : ∃ R1, R1 = cur.toList.take (i * 7) ++ cs.drop ((i + 1) * 7) ++ cur.toList.drop (i * 7 + (cs.drop ((i + 1) * 7)).length) := ⟨_, rfl⟩
  rw [← hR1] at q1
  have hR1l : R1.length = cap * 7 := by
    rw [hR1, List.length_append, List.length_append, hd, List.length_take, List.length_drop, Array.length_toList, hz]
    omega
  have hR1t : R1.take (n * 7) = cut1 (i * 7) ((i + 1) * 7) cs := by
    have e5 : (cur.toList.take (i * 7) ++ cs.drop ((i + 1) * 7)).length = n * 7 := by
      rw [List.length_append, hd, List.length_take, Array.length_toList, hz]
      omega
    rw [hR1, List.take_left' e5]
    unfold cut1
    rw [← ht, List.take_take, Nat.min_eq_left (by omega)]
  rw [q1]
  have hg1 : (w.drew.setRow g R1.toArray).heap[g]? = some (.cells R1.toArray 29) := setRow_heap w.drew g cur R1.toArray 29 (0, 0) hb1
  have hZ : ([.int .i64 0, .int .i64 0, .string ⟨#[]⟩, .int .i64 0, .int .i64 0, .slice none 0 0, .slice none 0 0] : List Value).length = 7 := rfl
  have q2 := setCells_row (o := n * 7) (vs := [.int .i64 0, .int .i64 0, .string ⟨#[]⟩, .int .i64 0, .int .i64 0, .slice none 0 0, .slice none 0 0]) hg1 (by rw [hZ, List.size_toArray, hR1l]; omega) (by decide)
  have e6 : R1.toArray.toList = R1 := rfl
  rw [e6] at q2
  refine ⟨?_, ?_, fun t ht => ⟨?_, Lib.frozen_of_heap hg1 _⟩⟩
  · rw [q2]
    have hcl : (cut1 (i * 7) ((i + 1) * 7) cs).length = n * 7 := by rw [← hR1t, List.length_take, hR1l]; omega
    refine ⟨hcl, Or.inr ⟨g, cap, _, rfl, hB, setRow_heap _ g R1.toArray _ 29 (0, 0) hg1, by omega, hm, ?_, ?_⟩⟩
    · rw [List.size_toArray, List.length_append, List.length_append, hZ, List.length_take, List.length_drop]
      rw [hR1l]
      omega
    · rw [List.append_assoc, List.take_left' (by rw [List.length_take, hR1l]; omega)]
      exact hR1t
  · rw [q2]
    refine ⟨rfl, rfl, rfl, by rw [size_setRow, size_setRow]; exact Nat.le_refl _, fun k hk hkg => ?_⟩
    have hne : k ≠ g := fun e => hkg (by rw [e])
    rw [setRow_other _ g k _ hne, setRow_other _ g k _ hne]
    rfl
  · rw [Lib.cell_of_heap hg1]
    simp [hR1l]
    omega

end Go.Proofs.YtnmdhbejjjmdeaaGreatDoor

namespace Go.Proofs.YtnmdhbejjjmdeaaGreatDoor
open Go.RowKit Go.Sort

/-- What find answers. -/
def FindI (q : Option Nat) (ky : Bool) (ks : List ByteArray) (key : List UInt8) (e : Ending) : Prop := ∃ (r : Int) (ok : Bool), e = .returned (.tuple #[.int .i64 r, .bool ok]) ∧ ((∀ j, q = some j → r = j ∧ ok = true) ∧ (q = none → ok = false)) ∧ (ky = true → ∃ j : Nat, r = j ∧ Found ks key j ok)

end Go.Proofs.YtnmdhbejjjmdeaaGreatDoor

namespace Go.Proofs.YtnmdhbejjjmdeaaGreatDoor
open Go.RowKit Go.Sort

/-- The fields of a tree of a value alone. -/
def leafV (y : V) : TV := (y, .slice none 0 0, .slice none 0 0)
/-- What has turned: at most a place's own cells, and what lies in its blocks. -/
structure TurnS (b o : Nat) (S : List Nat) (w w' : World) : Prop where
  os : w'.os = w.os
  tape : w'.tape = w.tape
  output : w'.output = w.output
  size : w.heap.size ≤ w'.heap.size
  block : ∀ k, k < w.heap.size → k ∉ S → k ≠ b → w'.heap[k]? = w.heap[k]?
  cell : ∀ c, c < o ∨ o + 7 ≤ c → w'.cell? ⟨b, c, none⟩ = w.cell? ⟨b, c, none⟩
  shape : ∀ ty cur, w.heap[b]? = some (.cells cur ty) → ∃ cur', w'.heap[b]? = some (.cells cur' ty) ∧ cur'.size = cur.size
/-- What a patch's step leaves at a place. -/
def PlaceP (k : Int) (w : World) (b o lo : Nat) (St : List Nat) (t : JT) (s : Stp) (y : V) (e : Ending) (w' : World) : Prop :=
  (∃ t' u' St', OneR k t s y t' ∧ e = .returned (.bool true) ∧ TurnS b o St w w' ∧ TAt w' b o u' ∧ IsTS w' lo St' u' t' ∧ St'.Nodup ∧ (∀ x ∈ St', x ∈ St ∨ w.heap.size ≤ x)) ∨
  ((∀ t', ¬ OneR k t s y t') ∧ e = .returned (.bool false) ∧ Below w.heap.size w w')

theorem TurnS.of {b o : Nat} {S : List Nat} {w w1 w2 w3 : World} (h1 : Below w.heap.size w w1) (h2 : TurnS b o S w1 w2) (h3 : Below w2.heap.size w2 w3) (hb : b < w.heap.size) : TurnS b o S w w3 := by
  have s1 := h1.size
  have s2 := h2.size
  have s3 := h3.size
  refine ⟨h3.os.trans (h2.os.trans h1.os), h3.tape.trans (h2.tape.trans h1.tape), h3.output.trans (h2.output.trans h1.output), by omega, fun k k1 k2 k3 => (h3.block k (by omega)).trans ((h2.block k (by omega) k2 k3).trans (h1.block k k1)), fun c hc => (h3.cell (p := ⟨b, c, none⟩) (show b < _ by omega)).trans ((h2.cell c hc).trans (h1.cell (p := ⟨b, c, none⟩) hb)), fun ty cur hc => ?_⟩
  obtain ⟨cur', e1, e2⟩ := h2.shape ty cur ((h1.block b hb).trans hc)
  exact ⟨cur', (h3.block b (by omega)).trans e1, e2⟩
theorem TurnS.refl (b o : Nat) (S : List Nat) (w : World) : TurnS b o S w w := ⟨rfl, rfl, rfl, Nat.le_refl _, fun _ _ _ _ => rfl, fun _ _ => rfl, fun _ cur h => ⟨cur, h, rfl⟩⟩
theorem TurnS.below {b o : Nat} {S : List Nat} {w w' : World} (h : Below w.heap.size w w') (hb : b < w.heap.size) : TurnS b o S w w' := TurnS.of h (TurnS.refl b o S w') (Below.refl _ _) hb

theorem IsTS.low {w : World} {lo : Nat} {S : List Nat} {u : TV} {T : JT} (h : IsTS w lo S u T) : ∀ k ∈ S, lo ≤ k ∧ k < w.heap.size := by
  obtain ⟨uk, ua, us', S1, e, rfl, h1, h2, h3⟩ := h
  intro k hk
  simp only [List.mem_append] at hk
  rcases hk with hk | hk | hk
  · obtain ⟨a, _, b⟩ := own_blk h1.own hk
    exact ⟨a, lt_of_heap b⟩
  · obtain ⟨a, _, b⟩ := own_blk h2.own hk
    exact ⟨a, lt_of_heap b⟩
  · exact h3.low k hk
theorem leafS (w : World) (lo : Nat) (y : V) : IsTS w lo [] (leafV y) (leafT y) :=
  ⟨.slice none 0 0, .slice none 0 0, [], [], rfl, rfl, ⟨⟨rfl, Or.inl ⟨rfl, rfl⟩⟩, Nat.zero_le _⟩, ⟨⟨rfl, Or.inl ⟨rfl, rfl⟩⟩, Nat.zero_le _⟩, rfl, rfl⟩
/-- A value alone put between takes no block. -/
theorem IsGS.put {w : World} {lo : Nat} (y : V) : ∀ {f : JF} {us : List TV} {S : List Nat}, IsGS w lo f us S → ∀ (j : Nat), j ≤ us.length → IsGS w lo (ofL (putL (toL f) j (leafT y))) (putL us j (leafV y)) S
  | .nil, us, S, h, j, hj => by
    obtain ⟨rfl, rfl⟩ := h
    obtain rfl : j = 0 := by simpa using hj
    exact ⟨⟨rfl, rfl⟩, .slice none 0 0, .slice none 0 0, [], [], [], [], rfl, rfl, ⟨⟨⟨rfl, Or.inl ⟨rfl, rfl⟩⟩, Nat.zero_le _⟩, ⟨⟨rfl, Or.inl ⟨rfl, rfl⟩⟩, Nat.zero_le _⟩, rfl, rfl⟩, rfl, rfl⟩
  | .node _ _ x l r, us, S, h, j, hj => by
    cases j with
    | zero =>
      have e := h.to.1
      have h' := h
      rw [e] at h'
      exact ⟨⟨rfl, rfl⟩, .slice none 0 0, .slice none 0 0, [], us, [], S, rfl, rfl, ⟨⟨⟨rfl, Or.inl ⟨rfl, rfl⟩⟩, Nat.zero_le _⟩, ⟨⟨rfl, Or.inl ⟨rfl, rfl⟩⟩, Nat.zero_le _⟩, rfl, rfl⟩, h'⟩
    | succ j =>
      obtain ⟨e, uk, ua, us', rest, S1, S2, rfl, rfl, h1, h4⟩ := h
      exact ⟨⟨rfl, rfl⟩, uk, ua, us', putL rest j (leafV y), S1, S2, rfl, rfl, h1, h4.put y j (by simpa using hj)⟩
/-- One taken out takes its blocks along. -/
theorem IsGS.cut {w : World} {lo : Nat} : ∀ {f : JF} {us : List TV} {S : List Nat}, IsGS w lo f us S → ∀ (i : Nat), i < us.length → ∃ S', IsGS w lo (ofL (cutL (toL f) i)) (cutL us i) S' ∧ S'.Sublist S
  | .nil, us, S, h, i, hi => by rw [h.1] at hi; cases hi
  | .node _ _ x l r, us, S, h, i, hi => by
    obtain ⟨e, uk, ua, us', rest, S1, S2, rfl, rfl, h1, h4⟩ := h
    cases i with
    | zero =>
      refine ⟨S2, ?_, List.sublist_append_right _ _⟩
      show IsGS w lo (ofL (toL r)) rest S2
      rw [← h4.to.1]
      exact h4
    | succ i =>
      obtain ⟨S', q1, q2⟩ := h4.cut i (by simpa using hi)
      exact ⟨(blk uk ++ (blk ua ++ S1)) ++ S', ⟨⟨rfl, rfl⟩, uk, ua, us', cutL rest i, S1, S', rfl, rfl, h1, q1⟩, List.Sublist.append (List.Sublist.refl _) q2⟩
/-- The blocks of what was made at a place. -/
theorem place_blocks {n : Nat} {S1 S1' : List Nat} {uk ua vk vt : Value} (hnd : (blk uk ++ (blk ua ++ S1)).Nodup) (hS : ∀ x ∈ S1', x ∈ S1) (hnd' : S1'.Nodup) (hlow : ∀ x ∈ blk uk ++ (blk ua ++ S1), x < n) (hk : ∀ x ∈ blk vk, x ∈ blk uk ∨ n ≤ x) (ht : ∀ x ∈ blk vt, x ∈ blk ua ∨ n ≤ x) (hap : ∀ x ∈ blk vk, x ∉ blk vt) :
    (blk vk ++ (blk vt ++ S1')).Nodup ∧ ∀ x ∈ blk vk ++ (blk vt ++ S1'), x ∈ blk uk ++ (blk ua ++ S1) ∨ n ≤ x := by
  have a1 := List.nodup_append.1 hnd
  have a2 := List.nodup_append.1 a1.2.1
  refine ⟨List.nodup_append.2 ⟨blk_one vk, List.nodup_append.2 ⟨blk_one vt, hnd', fun x hx y hy e => ?_⟩, fun x hx y hy e => ?_⟩, fun x hx => ?_⟩
  · rcases ht x hx with h | h
    · exact a2.2.2 x h y (hS y hy) e
    · have := hlow y (by simp [hS y hy])
      omega
  · rcases List.mem_append.1 hy with hy | hy
    · exact hap x hx (e ▸ hy)
    · rcases hk x hx with h | h
      · exact a1.2.2 x h y (List.mem_append_right _ (hS y hy)) e
      · have := hlow y (by simp [hS y hy])
        omega
  · simp only [List.mem_append] at hx ⊢
    rcases hx with hx | hx | hx
    · rcases hk x hx with h | h
      · exact Or.inl (Or.inl h)
      · exact Or.inr h
    · rcases ht x hx with h | h
      · exact Or.inl (Or.inr (Or.inl h))
      · exact Or.inr h
    · exact Or.inl (Or.inr (Or.inr (hS x hx)))
theorem own_set_ne {w : World} {B e z n b i : Nat} {v u : Value} {xs : List Value} (h : w.ownsRow B e z v n xs) (hb : b ∉ blk v) : (w.setCell ⟨b, i, none⟩ u).ownsRow B e z v n xs :=
  own_keep h (fun k hk => Below.heap_setCell _ _ _ _ (by have h9 : k ≠ b := fun e => hb (e ▸ hk); simpa using h9))
theorem slice_of {w : World} {B e z n : Nat} {v : Value} {xs : List Value} (h : w.ownsRow B e z v n xs) : ∃ a c, v = .slice a n c := by
  rcases h.2 with ⟨e, h0⟩ | ⟨_, _, _, e, _⟩
  · exact ⟨none, 0, by rw [e, h0]⟩
  · exact ⟨_, _, e⟩
theorem blk_mem {v : Value} {k : Nat} : k ∈ blk v ↔ v.ownBlock = some k := by
  unfold blk
  exact Option.mem_toList
theorem own_grown' {B e s n : Nat} {w w' : World} {v o : Value} {xs : List Value} {B' e' s' n' : Nat} {xs' : List Value} (h : w.ownsRow B e s v n xs) (hg : w.grownBy w' o.ownBlock) (ho : w.ownsRow B' e' s' o n' xs') (hne : e' ≠ e) : w'.ownsRow B e s v n xs := by
  refine ⟨h.1, ?_⟩
  rcases h.2 with h0 | ⟨g, cap, cur, h1, h2, h3, h4⟩
  · exact Or.inl h0
  · refine Or.inr ⟨g, cap, cur, h1, h2, ?_, h4⟩
    rw [hg.block g (lt_of_heap h3) (fun eo => ?_)]
    · exact h3
    · rcases ho.2 with ⟨rfl, _⟩ | ⟨g', cap', cur', rfl, _, hh, _⟩
      · simp [Value.ownBlock] at eo
      · simp [Value.ownBlock] at eo
        subst eo
        rw [h3] at hh
        have h5 := Option.some.inj hh
        injection h5 with _ h6
        exact hne h6.symm
theorem scells_put (ks : List ByteArray) (j : Nat) (key : ByteArray) : put1 (j * 1) (scells ks) [.string key] = scells (putL ks j key) := by
  unfold put1 scells putL
  simp [List.map_take, List.map_drop]
theorem tcs_app (a b : List TV) : tcs (a ++ b) = tcs a ++ tcs b := by unfold tcs; rw [List.flatMap_append]
theorem tcs_put (us : List TV) (j : Nat) (hj : j ≤ us.length) (u : TV) : put1 (j * 7) (tcs us) (tcells u) = tcs (putL us j u) := by
  have e1 : tcs us = tcs (us.take j) ++ tcs (us.drop j) := by rw [← tcs_app, List.take_append_drop]
  have hl : (tcs (us.take j)).length = j * 7 := by rw [tcs_len, List.length_take, Nat.min_eq_left hj]
  have e2 : tcs (putL us j u) = tcs (us.take j) ++ (tcells u ++ tcs (us.drop j)) := by
    unfold putL
    rw [tcs_app]
    rfl
  unfold put1
  rw [e1, e2, List.take_left' hl, List.drop_left' hl]
theorem scells_cut (ks : List ByteArray) (i : Nat) : cut1 (i * 1) ((i + 1) * 1) (scells ks) = scells (cutL ks i) := by
  unfold cut1 scells cutL
  simp [List.map_take, List.map_drop]
theorem tcs_cut (us : List TV) (i : Nat) (hi : i < us.length) : cut1 (i * 7) ((i + 1) * 7) (tcs us) = tcs (cutL us i) := by
  have e1 : tcs us = tcs (us.take i) ++ tcs (us.drop i) := by rw [← tcs_app, List.take_append_drop]
  have e3 : tcs us = tcs (us.take (i + 1)) ++ tcs (us.drop (i + 1)) := by rw [← tcs_app, List.take_append_drop]
  have hl : (tcs (us.take i)).length = i * 7 := by rw [tcs_len, List.length_take, Nat.min_eq_left (by omega)]
  have hl2 : (tcs (us.take (i + 1))).length = (i + 1) * 7 := by rw [tcs_len, List.length_take, Nat.min_eq_left (by omega)]
  unfold cut1 cutL
  rw [tcs_app]
  congr 1
  · rw [e1, List.take_left' hl]
  · rw [e3, List.drop_left' hl2]
theorem one_scells (ks : List ByteArray) : ∀ u ∈ scells ks, u.oneCell' = true := by
  intro u hu
  obtain ⟨x, _, rfl⟩ := List.mem_map.1 hu
  rfl
theorem one_tcs {w : World} {f : JF} {us : List TV} {lo : Nat} {S : List Nat} (h : IsGS w lo f us S) : ∀ u ∈ tcs us, u.oneCell' = true := by
  intro u hu
  obtain ⟨x, hx, hu⟩ := List.mem_flatMap.1 hu
  obtain ⟨i, hi, rfl⟩ := List.getElem_of_mem hx
  have h1 := isG_to _ _ h.forestH
  obtain ⟨y, a1, n1, c1, a2, n2, c2, e⟩ := ((h1.2.2 i hi (by rw [← h1.2.1]; exact hi)).tree).parts
  unfold tcells at hu
  rw [e] at hu
  simp at hu
  rcases hu with rfl | rfl | rfl | rfl | rfl | rfl | rfl <;> rfl
theorem TAt.cells {w w' : World} {b o : Nat} {u : TV} (h : TAt w b o u) (hz : w.heap.size ≤ w'.heap.size) (hc : w'.heap[b]? = w.heap[b]?) : TAt w' b o u := by
  obtain ⟨c0, c1, c2, c3, c4, c5, c6, c7⟩ := h
  have hc : ∀ d, w'.cell? ⟨b, d, none⟩ = w.cell? ⟨b, d, none⟩ := fun d => World.cell?_of_block (w := w) hc
  exact ⟨by omega, (hc _).trans c1, (hc _).trans c2, (hc _).trans c3, (hc _).trans c4, (hc _).trans c5, (hc _).trans c6, (hc _).trans c7⟩
theorem put7_cells (w : World) (g o : Nat) (u : TV) (c : Nat) (hc : c < o ∨ o + 7 ≤ c) : (put7 w g o u).cell? ⟨g, c, none⟩ = w.cell? ⟨g, c, none⟩ := by
  unfold put7
  have ne : ∀ d, d < 7 → (⟨g, o + d, none⟩ : Addr) ≠ ⟨g, c, none⟩ := fun d hd e => by
    injection e with _ e2 _
    omega
  rw [World.cell?_setCell_other _ _ _ _ (ne 6 (by omega)), World.cell?_setCell_other _ _ _ _ (ne 5 (by omega)), World.cell?_setCell_other _ _ _ _ (ne 4 (by omega)), World.cell?_setCell_other _ _ _ _ (ne 3 (by omega)), World.cell?_setCell_other _ _ _ _ (ne 2 (by omega)), World.cell?_setCell_other _ _ _ _ (ne 1 (by omega)), World.cell?_setCell_other _ _ _ _ (show (⟨g, o, none⟩ : Addr) ≠ ⟨g, c, none⟩ from ne 0 (by omega))]
theorem put7_at {w : World} {g o : Nat} {u u0 : TV} (h : TAt w g o u0) : TAt (put7 w g o u) g o u := by
  obtain ⟨c0, c1, c2, c3, c4, c5, c6, c7⟩ := h
  have hz : w.heap.size ≤ (put7 w g o u).heap.size := (put7_below (Below.refl 0 w) g o u (Nat.zero_le _)).size
  have ne : ∀ d e : Nat, d ≠ e → (⟨g, o + d, none⟩ : Addr) ≠ ⟨g, o + e, none⟩ := fun d e hd h9 => by
    injection h9 with _ e2 _
    omega
  refine ⟨by omega, ?_, ?_, ?_, ?_, ?_, ?_, ?_⟩
  all_goals unfold put7
  all_goals simp [World.cell?_setCell_same', World.cell?_setCell_other, c1, c2, c3, c4, c5, c6, c7]
theorem set_none {t t' : JT} {s : Stp} {y : V} (h0 : kidOf t.x t.ks t.ts.length s = none) (h1 : keyStep t.x s = false) : ¬ SetR t s y t' := by
  rintro (⟨i, e, _⟩ | ⟨_, e, _⟩)
  · rw [h0] at e; cases e
  · rw [h1] at e; cases e
theorem set_shape {w : World} {b i : Nat} {v : Value} {ty : TypeId} {cur : Array Value} (h : w.heap[b]? = some (.cells cur ty)) : ∃ cur', (w.setCell ⟨b, i, none⟩ v).heap[b]? = some (.cells cur' ty) ∧ cur'.size = cur.size := ⟨_, set_at h i v, by simp⟩

/-- A value in the place of a kid. -/
theorem set_kid {w W : World} {b o lo : Nat} {St : List Nat} {u : TV} {t : JT} {s : Stp} {y : V} {i g off n c : Nat} (hA : TAt w b o u) (hT : IsTS w lo St u t) (hnd : St.Nodup) (hb : b ∉ St) (hfz : ∀ d, w.frozen? ⟨b, d, none⟩ = false) (hi : i < t.ts.length) (hk : kidOf t.x t.ks t.ts.length s = some i) (hu : u.2.2 = .slice (some ⟨g, off, none⟩) n c) (hW : Below w.heap.size w W) :
    PlaceP 1 w b o lo St t s y (.returned (.bool true)) (put7 W g (off + i * 7) (leafV y)) := by
  have H0 := HoleS.start (l := [s]) hA hT hnd hb hfz
  obtain ⟨Sa, Si, Sb, u', H1⟩ := H0.next hi hk hu
  have hgS : g ∈ St := by
    obtain ⟨uk, ua, us', S1, e, rfl, _⟩ := hT
    rw [e] at hu
    have : blk ua = [g] := by rw [show ua = _ from hu]; rfl
    simp [this]
  have hgw : g < w.heap.size := (hT.low g hgS).2
  have hgb : g ≠ b := fun e => hb (e ▸ hgS)
  have hWz := hW.size
  have hWg : W.heap[g]? = w.heap[g]? := hW.block g hgw
  have hsz : W.heap.size ≤ (put7 W g (off + i * 7) (leafV y)).heap.size := (put7_below (Below.refl 0 W) g _ _ (Nat.zero_le _)).size
  have hblk : ∀ k, k < w.heap.size → k ≠ g → (put7 W g (off + i * 7) (leafV y)).heap[k]? = w.heap[k]? := fun k hk hne => (put7_other W g _ _ k hne).trans (hW.block k hk)
  have hbw : b < w.heap.size := hA.1
  have hset := H1.sets
  have hlowS : ∀ k, k ∈ Sa ∨ k ∈ Sb → k < w.heap.size := fun k hk => (hT.low k (by rw [hset]; simp; rcases hk with h | h <;> simp [h])).2
  obtain ⟨d, u2, e1, e2, e3, e4⟩ := H1.back (put7 W g (off + i * 7) (leafV y)) (leafT y) [] (leafV y) (by omega) (fun k k1 k2 => hblk k (by
      rcases k1 with h | h | h
      · exact hlowS k (Or.inl h)
      · exact hlowS k (Or.inr h)
      · rw [h]; exact hbw) k2) (fun c hc => (put7_cells W g _ _ c hc).trans (World.cell?_of_block (w := w) hWg)) (fun ty cur hc => by
      have h1 : W.heap[g]? = some (.cells cur ty) := hWg.trans hc
      exact ⟨_, set_at (set_at (set_at (set_at (set_at (set_at (set_at h1 _ _) _ _) _ _) _ _) _ _) _ _) _ _, by simp⟩) (put7_at (H1.at'.cells hWz hWg)) (leafS _ _ y)
  rw [List.append_nil] at e1
  subst e1
  have er : repT t [s] (leafT y) = .node t.x t.ks (t.ts.set i (leafT y)) := by simp only [repT, hk]
  rw [er] at e4
  rw [hset] at hnd
  have sub : (Sa ++ ([] ++ Sb)).Sublist (Sa ++ (Si ++ Sb)) := List.Sublist.append (List.Sublist.refl _) (List.Sublist.append (List.nil_sublist _) (List.Sublist.refl _))
  refine Or.inl ⟨_, u2, Sa ++ ([] ++ Sb), Or.inl ⟨rfl, Or.inl ⟨i, hk, hi, rfl⟩⟩, rfl, ⟨?_, ?_, ?_, by omega, fun k k1 k2 k3 => hblk k k1 (fun e => k2 (e ▸ hgS)), fun c _ => World.cell?_of_block (w := w) (hblk b hbw hgb.symm), fun ty cur hc => ⟨cur, (hblk b hbw hgb.symm).trans hc, rfl⟩⟩, e3, e4, sub.nodup hnd, fun x hx => Or.inl (by rw [hset]; exact sub.subset hx)⟩
  · exact (put7_below (hW.mono (Nat.zero_le _)) g _ _ (Nat.zero_le _)).os
  · exact (put7_below (hW.mono (Nat.zero_le _)) g _ _ (Nat.zero_le _)).tape
  · exact (put7_below (hW.mono (Nat.zero_le _)) g _ _ (Nat.zero_le _)).output
end Go.Proofs.YtnmdhbejjjmdeaaGreatDoor

namespace Go.Proofs.YtnmdhbejjjmdeaaGreatDoor
open Go

section
variable {P : Program} {ops : Array Oper} {Q : Exit → Act → World → Prop} {md : Region.Mode} {S : World → Prop} {late : Nat → Bool}

/-- Whatever order is picked from here on; behind each operation that is not late S holds. -/
def wpAnyE (P : Program) (md : Region.Mode) (ops : Array Oper) (Q : Exit → Act → World → Prop) (S : World → Prop) (late : Nat → Bool) : Nat → Array Bool → Act → World → Prop
  | 0, listed, a, w => Region.ready md ops listed = [] ∧ Q .normal a w
  | fuel + 1, listed, a, w =>
    (Region.ready md ops listed = [] → Q .normal a w) ∧
    ∀ i ∈ Region.ready md ops listed, wpOp P ops Q i (fun a' w' => (late i = false → S w') ∧ wpAnyE P md ops Q S late fuel (listed.setIfInBounds i true) a' w') a w

theorem wpAny_of_early : ∀ (fuel : Nat) (listed : Array Bool) (a : Act) (w : World), wpAnyE P md ops Q S late fuel listed a w → wpAny P md ops Q fuel listed a w
  | 0, _, _, _, h => h
  | fuel + 1, _, _, _, h => ⟨h.1, fun i hi => wpOp_mono (fun a' w' h' => wpAny_of_early fuel _ a' w' h'.2) (h.2 i hi)⟩

/-- Do all late ones wait for it? -/
def lateWait (md : Region.Mode) (ops : Array Oper) (late : Nat → Bool) (i : Nat) : Bool :=
  (List.range ops.size).all fun j => !late j || (match ops[j]? with | some o => o.after.toList.any fun e => Region.binds md e && e.on == i | none => true)
theorem lateWait_spec {i : Nat} (h : lateWait md ops late i = true) {j : Nat} {oj : Oper} (hj : ops[j]? = some oj) (hl : late j = true) : ∃ e ∈ oj.after, Region.binds md e = true ∧ e.on = i := by
  have h1 := List.all_eq_true.1 h j (List.mem_range.2 (Array.getElem?_eq_some_iff.1 hj).1)
  rw [hl, hj] at h1
  simp only [Bool.not_true, Bool.false_or] at h1
  obtain ⟨e, he, h2⟩ := List.any_eq_true.1 h1
  have h3 := Bool.and_eq_true_iff.1 h2
  exact ⟨e, by simpa using he, h3.1, by simpa using h3.2⟩

theorem early_first {i : Nat} {oi : Oper} {v : Value} (hi : ops[i]? = some oi) (hsel : ∀ (j : Nat) (o : Oper) cs b, ops[j]? = some o → o.op ≠ .select cs b)
    (hQ : ∀ c a w, Q (.panic c) (a.put oi.dst v) w → Q (.panic c) a w) (hlt : late i = false) (hw : lateWait md ops late i = true) : ∀ (fuel : Nat) (listed : Array Bool) (a : Act) (w : World),
    (∀ j oj, ops[j]? = some oj → j ≠ i → listed.getD j true = false → (∀ e ∈ oj.after, Region.binds md e = true → e.on ≠ i) → oi.apart ops oj = true) →
    i ∈ Region.ready md ops listed → YieldsIf P ops S oi v a → S w →
    wpAnyE P md ops Q S late fuel (listed.setIfInBounds i true) (a.put oi.dst v) w → wpAnyE P md ops Q S late (fuel + 1) listed a w := by
  intro fuel
  induction fuel with
  | zero =>
    intro listed a w _ hr hy hS H
    refine ⟨fun h => absurd hr (by rw [h]; exact List.not_mem_nil), fun j hj => ?_⟩
    by_cases hji : j = i
    · subst hji
      exact hy.wpOp hi hS ⟨fun _ => hS, H⟩
    · have hm := ready_mono hj hji
      rw [H.1] at hm
      exact absurd hm List.not_mem_nil
  | succ fuel ih =>
    intro listed a w hfree hr hy hS H
    refine ⟨fun h => absurd hr (by rw [h]; exact List.not_mem_nil), fun j hj => ?_⟩
    by_cases hji : j = i
    · subst hji
      exact hy.wpOp hi hS ⟨fun _ => hS, H⟩
    · obtain ⟨hun, oj, hoj, hall⟩ := mem_ready.1 hj
      have hiu := (mem_ready.1 hr).1
      have hnot : ∀ e ∈ oj.after, Region.binds md e = true → e.on ≠ i := by
        intro e he hb heq
        have h1 := hall e he hb
        rw [heq] at h1
        rcases Nat.lt_or_ge i listed.size with h' | h'
        · simp [h'] at hiu h1
          rw [hiu] at h1
          cases h1
        · simp [Array.getElem?_eq_none h'] at h1
      have hjl : late j = false := by
        cases hl : late j with
        | false => rfl
        | true =>
          obtain ⟨e, he, hb, heq⟩ := lateWait_spec hw hoj hl
          exact absurd heq (hnot e he hb)
      have h2 := wpOp_putIf hoj (hfree j oj hoj hji hun hnot) (fun cs b => hsel i oi cs b hi) (fun cs b => hsel j oj cs b hoj) hQ hy (H.2 j (ready_mono hj hji))
      refine wpOp_mono (fun a' w' h3 => ⟨h3.2.1, ih (listed.setIfInBounds j true) a' w' (fun k ok hk hki hku hno => ?_) (ready_mono hr (Ne.symm hji)) h3.1 (h3.2.1 hjl) ?_⟩) h2
      · refine hfree k ok hk hki ?_ hno
        by_cases hjk : j = k
        · subst hjk; exact hun
        · rwa [getD_set_ne true hjk] at hku
      · rw [Array.setIfInBounds_comm _ _ hji]
        exact h3.2.2
/-- One that reads is taken first. -/
theorem early_take {i : Nat} {oi : Oper} {v : Value} {fuel : Nat} {listed : Array Bool} {a : Act} {w : World} (hi : ops[i]? = some oi)
    (hs : Region.noSelect ops = true) (hf : Region.free md ops listed i = true) (hr : (Region.ready md ops listed).contains i = true) (hlt : late i = false) (hw : lateWait md ops late i = true)
    (hQ : ∀ c a w, Q (.panic c) (a.put oi.dst v) w → Q (.panic c) a w) (hy : YieldsIf P ops S oi v a) (hS : S w)
    (h : wpAnyE P md ops Q S late fuel (listed.setIfInBounds i true) (a.put oi.dst v) w) : wpAnyE P md ops Q S late (fuel + 1) listed a w :=
  early_first hi (Region.noSelect_spec hs) hQ hlt hw fuel listed a w (Region.free_spec hi hf) (by simpa using hr) hy hS h
/-- The only one that may come up. -/
theorem early_step {i : Nat} {o : Oper} {fuel : Nat} {listed : Array Bool} {a : Act} {w : World} (hr : Region.ready md ops listed = [i]) (ho : ops[i]? = some o)
    (h : ∀ K' : Act → World → Prop, Shut (∀ a w, (late i = false → S w) → wpAnyE P md ops Q S late fuel (listed.setIfInBounds i true) a w → K' a w) → if Region.wanted o (yielded ops a.tmps) = true then Oper.wp P o a w K' Q else K' (a.put o.dst undef) w) : wpAnyE P md ops Q S late (fuel + 1) listed a w := by
  refine ⟨fun h0 => (by rw [hr] at h0; cases h0), fun j hj => ?_⟩
  rw [hr] at hj
  obtain rfl := List.mem_singleton.1 hj
  exact wpOp_step ho (fun K' hK => h K' (fun a w hS hW => hK a w ⟨hS, hW⟩))
theorem early_done {listed : Array Bool} {a : Act} {w : World} (hr : Region.ready md ops listed = []) (h : Q .normal a w) : ∀ fuel, wpAnyE P md ops Q S late fuel listed a w
  | 0 => ⟨hr, h⟩
  | _ + 1 => ⟨fun _ => h, by rw [hr]; simp⟩
theorem early_begin {id : Nat} {a : Act} {w : World} (S : World → Prop) (late : Nat → Bool) (hm : P.follows .mixedOrders = true) (h : wpAnyE P .any ops Q S late ops.size (Array.replicate ops.size false) a w.drew) : (Code.region id ops true).wp P Q a w :=
  wp_region_any hm (wpAny_of_early _ _ _ _ h)
end
end Go.Proofs.YtnmdhbejjjmdeaaGreatDoor
