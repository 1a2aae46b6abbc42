/-
  What is proved: the function Change of package booksame and the law ChangeBack: called with any change and bytes the law returns true, and nothing that was there has turned.
  Conditions: the change and the bytes lie in memory.
-/
import Derived.Test.YtgecgemfniiciaaGreatDoorREnc
import Derived.Test.YtgecgemfniiciaaGreatDoorCBackMath
import Derived.Test.YtgecgemfniiciaaGreatDoorCDec2
namespace Go.Proofs.YtgecgemfniiciaaGreatDoor
open Go.RowKit

theorem encC_ne (c : Chg) : encC c ≠ [] := by
  intro h0
  unfold encC at h0
  have e5 : encN [c.actor, c.seq, c.start, (c.deps.length : Int)] = put c.actor.toNat ++ encN [c.seq, c.start, (c.deps.length : Int)] := by simp [encN]
  rw [e5] at h0
  simp only [List.append_assoc] at h0
  exact put_ne _ (List.append_eq_nil_iff.1 h0).1

theorem encC_len (c : Chg) (h : ChgFit c) : (encC c).length ≤ 21000 := by
  unfold encC
  have h1 := encN_len4 h.head.1 h.head.2.1 h.head.2.2 (show N63 (c.deps.length : Int) by have := h.deps.1; unfold N63; omega)
  have h2 := encP_len c.deps h.deps.2
  have h3 := encN_len1 (show N63 (c.ops.length : Int) by have := h.ops.1; unfold N63; omega)
  have h4 := encOs_len c.ops h.ops.2
  have h5 := h.deps.1
  have h6 := h.ops.1
  simp only [List.length_append]
  omega

set_option maxRecDepth 100000 in
set_option maxHeartbeats 4000000 in
theorem same_any (v u : Value) (c : Chg) (w : World) (hv : IsChg w v c) (hu : IsChg w u c) (h : chk c = 0) :
    Calls Tryz.prog 7 #[v, u] w fun e w' => e = .returned (.bool true) ∧ Below w.heap.size w w' := by
  have hv0 := hv
  have hu0 := hu
  obtain ⟨ud, uo, l, rfl, -, -, -, hd, ho, -⟩ := hv
  obtain ⟨ad, cd, rfl, -⟩ := hd
  obtain ⟨ao, co, rfl, -⟩ := ho
  obtain ⟨ud', uo', l', rfl, -, -, -, hd', ho', -⟩ := hu
  obtain ⟨ad', cd', rfl, -⟩ := hd'
  obtain ⟨ao', co', rfl, -⟩ := ho'
  have A1 := (Below.refl w.heap.size w).alloc (Nat.le_refl _) (.cells #[.int .i64 c.actor, .int .i64 c.seq, .int .i64 c.start, .slice ad c.deps.length cd, .slice ao l.length co] 26)
  have A2 := A1.alloc A1.size (.cells #[.int .i64 c.actor, .int .i64 c.seq, .int .i64 c.start, .slice ad' c.deps.length cd', .slice ao' l'.length co'] 26)
  have hbx : ((w.alloc (.cells #[.int .i64 c.actor, .int .i64 c.seq, .int .i64 c.start, .slice ad c.deps.length cd, .slice ao l.length co] 26)).alloc (.cells #[.int .i64 c.actor, .int .i64 c.seq, .int .i64 c.start, .slice ad' c.deps.length cd', .slice ao' l'.length co'] 26)).heap[w.heap.size + 1]? = some (.cells #[.int .i64 c.actor, .int .i64 c.seq, .int .i64 c.start, .slice ad' c.deps.length cd', .slice ao' l'.length co'] 26) := by
    have := (MapKept.heap_alloc (w.alloc (.cells #[.int .i64 c.actor, .int .i64 c.seq, .int .i64 c.start, .slice ad c.deps.length cd, .slice ao l.length co] 26)) (.cells #[.int .i64 c.actor, .int .i64 c.seq, .int .i64 c.start, .slice ad' c.deps.length cd', .slice ao' l'.length co'] 26)).1
    simpa using this
  have E1 := rEncode_any _ c _ (hv0.below A2) h
  go_enter Tryz.func7, Tryz.ntmps7
  go_wp2_with fail
  refine E1.mono ?_
  rintro e w1 ⟨u1, rfl, R1, b1⟩
  have B1 : Below w.heap.size w w1 := A2.trans (b1.mono A2.size)
  have X1 := heap_below hbx b1 (Nat.le_refl _)
  have y0 : w1.cell? ⟨w.heap.size + 1, 0, none⟩ = some (.int .i64 c.actor) := Lib.cell_of_heap X1 0
  have y1 : w1.cell? ⟨w.heap.size + 1, 1, none⟩ = some (.int .i64 c.seq) := Lib.cell_of_heap X1 1
  have y2 : w1.cell? ⟨w.heap.size + 1, 2, none⟩ = some (.int .i64 c.start) := Lib.cell_of_heap X1 2
  have y3 : w1.cell? ⟨w.heap.size + 1, 3, none⟩ = some (.slice ad' c.deps.length cd') := Lib.cell_of_heap X1 3
  have y4 : w1.cell? ⟨w.heap.size + 1, 4, none⟩ = some (.slice ao' l'.length co') := Lib.cell_of_heap X1 4
  have E2 := rEncode_any _ c _ (hu0.below B1) h
  clear E1 hbx hv0 hu0 A1 A2
  go_wp2_with fail
  refine E2.mono ?_
  rintro e w2 ⟨u2, rfl, R2, b2⟩
  have B2 : Below w.heap.size w w2 := B1.trans (b2.mono B1.size)
  obtain ⟨g1, c1, rfl, t1⟩ := row_text (own_below R1 b2 (Nat.le_refl _)) (encC_ne c)
  obtain ⟨g2, c2, rfl, t2⟩ := row_text R2 (encC_ne c)
  have v1 := run_convert_bytes_back (P := Tryz.prog) w2 22 9 5 ⟨g1, 0, none⟩ c1 (encC c) Tryz.underlying22 Tryz.underlying5 Tryz.underlying9 (fun t ht => t1 t _ (by simp [Lib.byteCells, ht]))
  have v2 := run_convert_bytes_back (P := Tryz.prog) w2 22 9 5 ⟨g2, 0, none⟩ c2 (encC c) Tryz.underlying22 Tryz.underlying5 Tryz.underlying9 (fun t ht => t2 t _ (by simp [Lib.byteCells, ht]))
  clear t1 t2 R1 R2 b1 b2 E2 y0 y1 y2 y3 y4 X1
  generalize encC c = P at *
  go_wp2
  go_ret
  exact ⟨by simp, B2⟩

/-- The change of the law's fact. -/
def oneC : Chg := ⟨1, 1, 1, [], [⟨1, (0, 0), ⟨#[97]⟩, (0, 0), false, ⟨2, 5, .empty, 0, 0⟩, []⟩]⟩
theorem oneC_ok : chk oneC = 0 := by decide +kernel
theorem oneC_len : ¬ (encC oneC).length < 10 := by decide +kernel
end Go.Proofs.YtgecgemfniiciaaGreatDoor
