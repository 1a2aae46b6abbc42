/-
  What is proved: what package change's Decode answers of any bytes; and nothing that was there has turned.
  Conditions: the bytes lie in memory.
-/
import Derived.Test.YtgecgemfniiciaaGreatDoorCDecode
import Derived.Test.YtgecgemfniiciaaGreatDoorCShr
namespace Go.Proofs.YtgecgemfniiciaaGreatDoor
open Go.RowKit

/-- A change without anything. -/
abbrev noChg : Value := .agg #[.int .i64 0, .int .i64 0, .int .i64 0, .slice none 0 0, .slice none 0 0]

theorem Off.drew {g : Nat} {w w' : World} (h : Off g w w') : Off g w w'.drew := ⟨h.os, h.tape, h.output, h.size, h.block⟩

set_option maxRecDepth 100000 in
set_option maxHeartbeats 16000000 in
theorem decode_any (vb : Value) (b : List UInt8) (w : World) (hb : IsBytes w vb b) (hw : Wh vb) :
    Calls Tryz.prog 5 #[vb] w fun e w' => ((∃ c n v, dec b = some (c, n) ∧ e = .returned (.tuple #[v, .int .i64 (n : Nat), .nilIface]) ∧ IsChg w' v c) ∨ (dec b = none ∧ e = .returned (.tuple #[noChg, .int .i64 0, .iface 57 (.int .i64 9)]))) ∧ Below w.heap.size w w' := by
  have A1 : Below w.heap.size w (w.alloc (.cells #[.int .i64 0, .int .i64 0, .int .i64 0, .slice none 0 0, .slice none 0 0] 26)) := (Below.refl _ w).alloc (Nat.le_refl _) _
  have hbx : (w.alloc (.cells #[.int .i64 0, .int .i64 0, .int .i64 0, .slice none 0 0, .slice none 0 0] 26)).heap[w.heap.size]? = some (.cells #[.int .i64 0, .int .i64 0, .int .i64 0, .slice none 0 0, .slice none 0 0] 26) := (MapKept.heap_alloc w _).1
  obtain ⟨a, cap, rfl, hcap, hlen, -⟩ := id hb
  go_enter Tryz.func5, Tryz.ntmps5
  go_wp2_with fail
  have RD : RdAt w ((w.alloc (.cells #[.int .i64 0, .int .i64 0, .int .i64 0, .slice none 0 0, .slice none 0 0] 26)).alloc (.cells #[.slice a b.length cap, .bool false] 54)) (w.heap.size + 1) (some b) := by
    refine ⟨by omega, A1.alloc (by simp) _, _, hb, hw, ?_⟩
    have := (MapKept.heap_alloc (w.alloc (.cells #[.int .i64 0, .int .i64 0, .int .i64 0, .slice none 0 0, .slice none 0 0] 26)) (.cells #[.slice a b.length cap, .bool false] 54)).1
    simpa using this
  have hbx2 := heap_below hbx ((Below.refl _ _).alloc (Nat.le_refl _) (.cells #[.slice a b.length cap, .bool false] 54)) (Nat.le_refl _)
  have HD : Hid (dec b = match (rChg (some b)).2 with | some r => if chk (rChg (some b)).1 = 0 then some ((rChg (some b)).1, b.length - r.length) else none | none => none) := rfl
  refine (change_any w _ (w.heap.size + 1) (some b) RD).mono ?_
  rintro e w1 ⟨v, rfl, hI, R1, O1⟩
  have hbx3 := O1.heap hbx2 (by omega)
  have hB1 : Below w.heap.size w w1 := R1.bel
  have hsz : w.heap.size + 2 ≤ w1.heap.size := by have := O1.size; simp at this; omega
  clear RD hbx hbx2 A1 O1 hw
  have HS : Hid (∀ r, (rChg (some b)).2 = some r → r.length ≤ b.length) := by
    intro r hr
    obtain ⟨l, k, h1, h2, rfl⟩ := shr_chg (some b) r hr
    obtain rfl := Option.some.inj h1
    rw [List.length_drop]; omega
  generalize (rChg (some b)).2 = st at *
  generalize (rChg (some b)).1 = c at *
  have hI1 := hI w.heap.size w1 (by simp; omega) (Off.refl _ _)
  obtain ⟨ud, uo, l, rfl, -, -, -, hd, ho, -⟩ := id hI1
  obtain ⟨ad, cd, rfl, -⟩ := id hd
  obtain ⟨ao, co, rfl, -⟩ := id ho
  obtain ⟨vr, hr1, -, hr2⟩ := R1.box
  obtain ⟨ar, cr, rfl, hrc, hrl, -⟩ := id hr1
  have hbr := heap_below hr2 ((Below.refl w1.heap.size w1).alloc (Nat.le_refl _) (.cells #[.int .i64 c.actor, .int .i64 c.seq, .int .i64 c.start, .slice ad c.deps.length cd, .slice ao l.length co] 26)) (Nat.le_refl _)
  have hbr2 := heap_below hbx3 ((Below.refl w1.heap.size w1).alloc (Nat.le_refl _) (.cells #[.int .i64 c.actor, .int .i64 c.seq, .int .i64 c.start, .slice ad c.deps.length cd, .slice ao l.length co] 26)) (Nat.le_refl _)
  have hbc : (w1.alloc (.cells #[.int .i64 c.actor, .int .i64 c.seq, .int .i64 c.start, .slice ad c.deps.length cd, .slice ao l.length co] 26)).heap[w1.heap.size]? = some (.cells #[.int .i64 c.actor, .int .i64 c.seq, .int .i64 c.start, .slice ad c.deps.length cd, .slice ao l.length co] 26) := (MapKept.heap_alloc w1 _).1
  have BA := (Below.refl w1.heap.size w1).alloc (Nat.le_refl _) (.cells #[.int .i64 c.actor, .int .i64 c.seq, .int .i64 c.start, .slice ad c.deps.length cd, .slice ao l.length co] 26)
  have K := check_any _ c _ (hI1.below BA)
  clear hd ho hr1 hr2 hbx3
  have hz2 : (w1.alloc (.cells #[.int .i64 c.actor, .int .i64 c.seq, .int .i64 c.start, .slice ad c.deps.length cd, .slice ao l.length co] 26)).heap.size = w1.heap.size + 1 := by simp
  have B2 : Below w.heap.size w (w1.alloc (.cells #[.int .i64 c.actor, .int .i64 c.seq, .int .i64 c.start, .slice ad c.deps.length cd, .slice ao l.length co] 26)) := hB1.trans (BA.mono (by omega))
  cases st with
  | none =>
    have r1 : (w1.alloc (.cells #[.int .i64 c.actor, .int .i64 c.seq, .int .i64 c.start, .slice ad c.deps.length cd, .slice ao l.length co] 26)).cell? ⟨w.heap.size + 1, 1, none⟩ = some (.bool true) := Lib.cell_of_heap hbr 1
    have HN : Hid (dec b = none) := HD.out
    clear HD K
    have c0 : (w1.alloc (.cells #[.int .i64 c.actor, .int .i64 c.seq, .int .i64 c.start, .slice ad c.deps.length cd, .slice ao l.length co] 26)).cell? ⟨w.heap.size, 0, none⟩ = some (.int .i64 0) := Lib.cell_of_heap hbr2 0
    have c1 : (w1.alloc (.cells #[.int .i64 c.actor, .int .i64 c.seq, .int .i64 c.start, .slice ad c.deps.length cd, .slice ao l.length co] 26)).cell? ⟨w.heap.size, 1, none⟩ = some (.int .i64 0) := Lib.cell_of_heap hbr2 1
    have c2 : (w1.alloc (.cells #[.int .i64 c.actor, .int .i64 c.seq, .int .i64 c.start, .slice ad c.deps.length cd, .slice ao l.length co] 26)).cell? ⟨w.heap.size, 2, none⟩ = some (.int .i64 0) := Lib.cell_of_heap hbr2 2
    have c3 : (w1.alloc (.cells #[.int .i64 c.actor, .int .i64 c.seq, .int .i64 c.start, .slice ad c.deps.length cd, .slice ao l.length co] 26)).cell? ⟨w.heap.size, 3, none⟩ = some (.slice none 0 0) := Lib.cell_of_heap hbr2 3
    have c4 : (w1.alloc (.cells #[.int .i64 c.actor, .int .i64 c.seq, .int .i64 c.start, .slice ad c.deps.length cd, .slice ao l.length co] 26)).cell? ⟨w.heap.size, 4, none⟩ = some (.slice none 0 0) := Lib.cell_of_heap hbr2 4
    have cf := Lib.frozen_of_heap hbr2
    go_wp2
    have hF := heap_all [.int .i64 0, .int .i64 0, .int .i64 0, .slice none 0 0, .slice none 0 0] (w1.alloc (.cells #[.int .i64 c.actor, .int .i64 c.seq, .int .i64 c.start, .slice ad c.deps.length cd, .slice ao l.length co] 26)) _ hbr2 rfl
    have OS := (Off.refl w.heap.size (w1.alloc (.cells #[.int .i64 c.actor, .int .i64 c.seq, .int .i64 c.start, .slice ad c.deps.length cd, .slice ao l.length co] 26))).setsAt [.int .i64 0, .int .i64 0, .int .i64 0, .slice none 0 0, .slice none 0 0] 0
    simp only [List.zipIdx_cons, List.zipIdx_nil, List.foldl_cons, List.foldl_nil, Nat.zero_add, Nat.reduceAdd] at hF OS
    have BF := (B2).trans (OS.below (Nat.le_refl _) (by omega))
    clear c0 c1 c2 c3 c4 cf
    generalize (((((w1.alloc (.cells #[.int .i64 c.actor, .int .i64 c.seq, .int .i64 c.start, .slice ad c.deps.length cd, .slice ao l.length co] 26)).setCell ⟨w.heap.size, 0, none⟩ (.int .i64 0)).setCell ⟨w.heap.size, 1, none⟩ (.int .i64 0)).setCell ⟨w.heap.size, 2, none⟩ (.int .i64 0)).setCell ⟨w.heap.size, 3, none⟩ (.slice none 0 0)).setCell ⟨w.heap.size, 4, none⟩ (.slice none 0 0) = W at *
    have q0 : W.cell? ⟨w.heap.size, 0, none⟩ = some (.int .i64 0) := Lib.cell_of_heap hF 0
    have q1 : W.cell? ⟨w.heap.size, 1, none⟩ = some (.int .i64 0) := Lib.cell_of_heap hF 1
    have q2 : W.cell? ⟨w.heap.size, 2, none⟩ = some (.int .i64 0) := Lib.cell_of_heap hF 2
    have q3 : W.cell? ⟨w.heap.size, 3, none⟩ = some (.slice none 0 0) := Lib.cell_of_heap hF 3
    have q4 : W.cell? ⟨w.heap.size, 4, none⟩ = some (.slice none 0 0) := Lib.cell_of_heap hF 4
    refine bodyPost_ret (v := .tuple #[.agg #[.int .i64 0, .int .i64 0, .int .i64 0, .slice none 0 0, .slice none 0 0], .int .i64 0, .iface 57 (.int .i64 9)]) (by simp [results, Tryz.results5, go_sem, q0, q1, q2, q3, q4]) rfl ⟨Or.inr ⟨HN.out, rfl⟩, BF⟩
  | some r =>
    have r1 : (w1.alloc (.cells #[.int .i64 c.actor, .int .i64 c.seq, .int .i64 c.start, .slice ad c.deps.length cd, .slice ao l.length co] 26)).cell? ⟨w.heap.size + 1, 1, none⟩ = some (.bool false) := Lib.cell_of_heap hbr 1
    have hrb : r.length ≤ b.length := HS.out r rfl
    have HD2 : Hid (dec b = if chk c = 0 then some (c, b.length - r.length) else none) := HD.out
    clear HD
    go_wp2_with fail
    refine K.mono ?_
    rintro e w3 ⟨rfl, b3⟩
    have B3 : Below w.heap.size w w3 := B2.trans (b3.mono B2.size)
    have O13 : Off w.heap.size w1 w3 := (Off.of BA).trans (Off.of b3)
    have hb3 := heap_below hbr2 b3 (Nat.le_refl _)
    have hr3 := heap_below hbr b3 (Nat.le_refl _)
    have hc3 := heap_below hbc b3 (Nat.le_refl _)
    have hz3 := b3.size
    clear K hbr hbr2 hbc B2 BA b3 r1
    have c0 : w3.cell? ⟨w.heap.size, 0, none⟩ = some (.int .i64 0) := Lib.cell_of_heap hb3 0
    have c1 : w3.cell? ⟨w.heap.size, 1, none⟩ = some (.int .i64 0) := Lib.cell_of_heap hb3 1
    have c2 : w3.cell? ⟨w.heap.size, 2, none⟩ = some (.int .i64 0) := Lib.cell_of_heap hb3 2
    have c3 : w3.cell? ⟨w.heap.size, 3, none⟩ = some (.slice none 0 0) := Lib.cell_of_heap hb3 3
    have c4 : w3.cell? ⟨w.heap.size, 4, none⟩ = some (.slice none 0 0) := Lib.cell_of_heap hb3 4
    have cf := Lib.frozen_of_heap hb3
    by_cases h0 : chk c = 0
    · rw [h0]
      have E0 : errV 0 = .nilIface := rfl
      rw [E0]
      have HN : Hid (dec b = some (c, b.length - r.length)) := by show _ = _; rw [HD2.out, if_pos h0]
      have d0 : w3.cell? ⟨w1.heap.size, 0, none⟩ = some (.int .i64 c.actor) := Lib.cell_of_heap hc3 0
      have d1 : w3.cell? ⟨w1.heap.size, 1, none⟩ = some (.int .i64 c.seq) := Lib.cell_of_heap hc3 1
      have d2 : w3.cell? ⟨w1.heap.size, 2, none⟩ = some (.int .i64 c.start) := Lib.cell_of_heap hc3 2
      have d3 : w3.cell? ⟨w1.heap.size, 3, none⟩ = some (.slice ad c.deps.length cd) := Lib.cell_of_heap hc3 3
      have d4 : w3.cell? ⟨w1.heap.size, 4, none⟩ = some (.slice ao l.length co) := Lib.cell_of_heap hc3 4
      have r0 : w3.cell? ⟨w.heap.size + 1, 0, none⟩ = some (.slice ar r.length cr) := Lib.cell_of_heap hr3 0
      clear HD2 h0
      go_wp2
      go_region
      all_goals
        go_wp2
        have hF := heap_all [.int .i64 c.actor, .int .i64 c.seq, .int .i64 c.start, .slice ad c.deps.length cd, .slice ao l.length co] w3 _ hb3 rfl
        have OS := (Off.refl w.heap.size w3).setsAt [.int .i64 c.actor, .int .i64 c.seq, .int .i64 c.start, .slice ad c.deps.length cd, .slice ao l.length co] 0
        simp only [List.zipIdx_cons, List.zipIdx_nil, List.foldl_cons, List.foldl_nil, Nat.zero_add, Nat.reduceAdd] at hF OS
        have BF := (B3.trans (OS.below (Nat.le_refl _) (by omega))).drew
        have IC := hI w.heap.size _ (by simp; omega) (O13.trans OS).drew
        clear c0 c1 c2 c3 c4 cf
        generalize ((((w3.setCell ⟨w.heap.size, 0, none⟩ (.int .i64 c.actor)).setCell ⟨w.heap.size, 1, none⟩ (.int .i64 c.seq)).setCell ⟨w.heap.size, 2, none⟩ (.int .i64 c.start)).setCell ⟨w.heap.size, 3, none⟩ (.slice ad c.deps.length cd)).setCell ⟨w.heap.size, 4, none⟩ (.slice ao l.length co) = W at *
        have q0 : W.drew.cell? ⟨w.heap.size, 0, none⟩ = some (.int .i64 c.actor) := Lib.cell_of_heap (w := W.drew) hF 0
        have q1 : W.drew.cell? ⟨w.heap.size, 1, none⟩ = some (.int .i64 c.seq) := Lib.cell_of_heap (w := W.drew) hF 1
        have q2 : W.drew.cell? ⟨w.heap.size, 2, none⟩ = some (.int .i64 c.start) := Lib.cell_of_heap (w := W.drew) hF 2
        have q3 : W.drew.cell? ⟨w.heap.size, 3, none⟩ = some (.slice ad c.deps.length cd) := Lib.cell_of_heap (w := W.drew) hF 3
        have q4 : W.drew.cell? ⟨w.heap.size, 4, none⟩ = some (.slice ao l.length co) := Lib.cell_of_heap (w := W.drew) hF 4
        generalize W.drew = W2 at *
        have hn : ((b.length - r.length : Nat) : Int) = (b.length : Int) - r.length := by omega
        exact bodyPost_ret (v := .tuple #[.agg #[.int .i64 c.actor, .int .i64 c.seq, .int .i64 c.start, .slice ad c.deps.length cd, .slice ao l.length co], .int .i64 ((b.length : Int) - r.length), .nilIface]) (by simp [results, Tryz.results5, go_sem, q0, q1, q2, q3, q4]) rfl ⟨Or.inl ⟨c, _, _, HN.out, by rw [hn], IC⟩, BF⟩
    · rw [errV_ne h0]
      have HN : Hid (dec b = none) := by show _ = _; rw [HD2.out, if_neg h0]
      clear HD2 h0
      generalize chk c = z at *
      go_wp2
      have hF := heap_all [.int .i64 0, .int .i64 0, .int .i64 0, .slice none 0 0, .slice none 0 0] w3 _ hb3 rfl
      have OS := (Off.refl w.heap.size w3).setsAt [.int .i64 0, .int .i64 0, .int .i64 0, .slice none 0 0, .slice none 0 0] 0
      simp only [List.zipIdx_cons, List.zipIdx_nil, List.foldl_cons, List.foldl_nil, Nat.zero_add, Nat.reduceAdd] at hF OS
      have BF := (B3).trans (OS.below (Nat.le_refl _) (by omega))
      clear c0 c1 c2 c3 c4 cf
      generalize ((((w3.setCell ⟨w.heap.size, 0, none⟩ (.int .i64 0)).setCell ⟨w.heap.size, 1, none⟩ (.int .i64 0)).setCell ⟨w.heap.size, 2, none⟩ (.int .i64 0)).setCell ⟨w.heap.size, 3, none⟩ (.slice none 0 0)).setCell ⟨w.heap.size, 4, none⟩ (.slice none 0 0) = W at *
      have q0 : W.cell? ⟨w.heap.size, 0, none⟩ = some (.int .i64 0) := Lib.cell_of_heap hF 0
      have q1 : W.cell? ⟨w.heap.size, 1, none⟩ = some (.int .i64 0) := Lib.cell_of_heap hF 1
      have q2 : W.cell? ⟨w.heap.size, 2, none⟩ = some (.int .i64 0) := Lib.cell_of_heap hF 2
      have q3 : W.cell? ⟨w.heap.size, 3, none⟩ = some (.slice none 0 0) := Lib.cell_of_heap hF 3
      have q4 : W.cell? ⟨w.heap.size, 4, none⟩ = some (.slice none 0 0) := Lib.cell_of_heap hF 4
      refine bodyPost_ret (v := .tuple #[.agg #[.int .i64 0, .int .i64 0, .int .i64 0, .slice none 0 0, .slice none 0 0], .int .i64 0, .iface 57 (.int .i64 9)]) (by simp [results, Tryz.results5, go_sem, q0, q1, q2, q3, q4]) rfl ⟨Or.inr ⟨HN.out, rfl⟩, BF⟩
end Go.Proofs.YtgecgemfniiciaaGreatDoor
