/-
  What is proved: an op, written by package change's putOp, and a change, by its Encode.
  Conditions: they lie in memory, and their numbers and texts are not too great.
-/
import Derived.Test.YtkmjlpmjhffgbabCEncOp
namespace Go.Proofs.Ytkmjlpmjhffgbab
open Go.RowKit

theorem nums1 {a : Int} (h : N63 a) : ∀ n ∈ [a], 0 ≤ n ∧ n < 9223372036854775808 := by intro n hn; simp at hn; subst hn; exact h
theorem nums2 {a b : Int} (h : N63 a) (k : N63 b) : ∀ n ∈ [a, b], 0 ≤ n ∧ n < 9223372036854775808 := by intro n hn; simp at hn; rcases hn with rfl | rfl; exact h; exact k
theorem nums3 {a b c : Int} (h : N63 a) (k : N63 b) (m : N63 c) : ∀ n ∈ [a, b, c], 0 ≤ n ∧ n < 9223372036854775808 := by intro n hn; simp at hn; rcases hn with rfl | rfl | rfl; exact h; exact k; exact m
theorem nums4 {a b c d : Int} (h : N63 a) (k : N63 b) (m : N63 c) (p : N63 d) : ∀ n ∈ [a, b, c, d], 0 ≤ n ∧ n < 9223372036854775808 := by intro n hn; simp at hn; rcases hn with rfl | rfl | rfl | rfl; exact h; exact k; exact m; exact p
theorem encN_len1 {a : Int} (h : N63 a) : (encN [a]).length ≤ 10 := by simpa using encN_len [a] (nums1 h)
theorem encN_len2 {a b : Int} (h : N63 a) (k : N63 b) : (encN [a, b]).length ≤ 20 := by simpa using encN_len [a, b] (nums2 h k)
theorem encN_len3 {a b c : Int} (h : N63 a) (k : N63 b) (m : N63 c) : (encN [a, b, c]).length ≤ 30 := by simpa using encN_len [a, b, c] (nums3 h k m)
theorem encN_len4 {a b c d : Int} (h : N63 a) (k : N63 b) (m : N63 c) (p : N63 d) : (encN [a, b, c, d]).length ≤ 40 := by simpa using encN_len [a, b, c, d] (nums4 h k m p)

set_option maxRecDepth 100000 in
set_option maxHeartbeats 16000000 in
theorem putOp_any (w0 w : World) (v : Value) (L : List UInt8) (o : OpM) (vp : Value) (h0 : Below w0.heap.size w0 w) (hrow : Row w0.heap.size v L w) (hv : IsPairs w0 vp o.preds) (hf : OpFit o) (hL : L.length ≤ 600000) :
    Calls Try.prog 9 #[v, opVal o vp] w fun e w' => ∃ u, e = .returned u ∧ Row w0.heap.size u (L ++ encOp o) w' ∧ Gr w0.heap.size w w' := by
  obtain ⟨av, cv, rfl⟩ := own_row_len hrow
  obtain ⟨ap, cp, rfl, hp1, hp2, hpr, hp3⟩ := hv
  have HP3 : Hid (o.preds ≠ [] → ∃ b off, ap = some ⟨b, off, none⟩ ∧ b < w0.heap.size ∧ ∀ i (h : i < o.preds.length), w0.cell? ⟨b, off + i * 2, none⟩ = some (.int .i64 o.preds[i].1) ∧ w0.cell? ⟨b, off + i * 2 + 1, none⟩ = some (.int .i64 o.preds[i].2)) := hp3
  have hB := h0.size
  have hbx := op_box (w := w) (o := o) (vp := .slice ap o.preds.length cp)
  have G0 := Gr.alloc w0.heap.size w (.cells (opCells o (.slice ap o.preds.length cp)).toArray 33) hB
  have hz0 : (w.alloc (.cells (opCells o (.slice ap o.preds.length cp)).toArray 33)).heap.size = w.heap.size + 1 := by simp
  have P1 := cput_new w0.heap.size _ L [o.kind, o.obj.1, o.obj.2] _ (hrow.alloc (.cells (opCells o (.slice ap o.preds.length cp)).toArray 33)) (Nat.le_trans hB G0.bel.size) (nums3 hf.kind hf.obj.1 hf.obj.2) (by omega) (by simp)
  rw [hz0] at P1
  have l1 := encN_len3 hf.kind hf.obj.1 hf.obj.2
  have hpl : N63 (o.preds.length : Int) := by have := hf.preds.1; unfold N63; omega
  have HE : Hid (L ++ encOp o = ((((((L ++ encN [o.kind, o.obj.1, o.obj.2]) ++ encT o.key) ++ encN [o.elem.1, o.elem.2]) ++ encB o.ins) ++ encV o.val) ++ encN [(o.preds.length : Int)]) ++ encP o.preds) := by show _ = _; unfold encOp; simp only [List.append_assoc]
  clear hp3 hpr
  unfold opVal opCells
  unfold opCells at P1
  go_enter Try.func9, Try.ntmps9
  go_wp2_with fail
  refine P1.mono ?_
  rintro e w1 ⟨u1, rfl, R1, G1⟩
  have X1 := G1.keep _ _ _ (by decide) hbx
  have GA := G0.trans G1
  have c3 := (OpBox.of X1).c3
  have hz1 := Nat.le_trans hB GA.bel.size
  have q1 : (L ++ encN [o.kind, o.obj.1, o.obj.2]).length ≤ 600030 := by rw [List.length_append]; omega
  generalize L ++ encN [o.kind, o.obj.1, o.obj.2] = Q1 at *
  clear P1 G0 G1 hbx hrow
  go_wp2_with fail
  refine (putText_any w0.heap.size u1 Q1 o.key w1 R1 hz1 (by have := hf.key; omega) (by omega)).mono ?_
  rintro e w2 ⟨u2, rfl, R2, G2⟩
  have X2 := G2.keep _ _ _ (by decide) X1
  have GB := GA.trans G2
  have hz2 := Nat.le_trans hB GB.bel.size
  have l2 := encT_len o.key (by have := hf.key; omega)
  have q2 : (Q1 ++ encT o.key).length ≤ 600100 := by rw [List.length_append]; omega
  generalize Q1 ++ encT o.key = Q2 at *
  clear c3 R1 X1 GA G2
  have c4 := (OpBox.of X2).c4
  have c5 := (OpBox.of X2).c5
  have P3 := cput_new w0.heap.size _ Q2 [o.elem.1, o.elem.2] w2 R2 hz2 (nums2 hf.elem.1 hf.elem.2) (by omega) (by simp)
  have l3 := encN_len2 hf.elem.1 hf.elem.2
  go_wp2_with fail
  refine P3.mono ?_
  rintro e w3 ⟨u3, rfl, R3, G3⟩
  have X3 := G3.keep _ _ _ (by decide) X2
  have GC := GB.trans G3
  have hz3 := Nat.le_trans hB GC.bel.size
  have q3 : (Q2 ++ encN [o.elem.1, o.elem.2]).length ≤ 600120 := by rw [List.length_append]; omega
  generalize Q2 ++ encN [o.elem.1, o.elem.2] = Q3 at *
  clear c4 c5 R2 X2 GB G3 P3
  have c6 := (OpBox.of X3).c6
  have l4 := encB_len o.ins
  go_wp2_with fail
  refine (putFlag_any w0.heap.size u3 Q3 o.ins w3 R3 hz3 (by omega)).mono ?_
  rintro e w4 ⟨u4, rfl, R4, G4⟩
  have X4 := G4.keep _ _ _ (by decide) X3
  have GD := GC.trans G4
  have hz4 := Nat.le_trans hB GD.bel.size
  have q4 : (Q3 ++ encB o.ins).length ≤ 600130 := by rw [List.length_append]; omega
  generalize Q3 ++ encB o.ins = Q4 at *
  clear c6 R3 X3 GC G4
  obtain ⟨-, -, -, -, -, -, -, y7, y8, y9, y10, y11, -⟩ := OpBox.of X4
  have l5 := encV_len o.val hf.vk hf.vn hf.vt
  have P5 := putValue_any w0.heap.size u4 Q4 o.val w4 R4 hz4 hf.vk hf.vn hf.vt (by omega)
  unfold V.val at P5
  go_wp2_with fail
  refine P5.mono ?_
  rintro e w5 ⟨u5, rfl, R5, G5⟩
  have X5 := G5.keep _ _ _ (by decide) X4
  have GE := GD.trans G5
  have hz5 := Nat.le_trans hB GE.bel.size
  have q5 : (Q4 ++ encV o.val).length ≤ 600220 := by rw [List.length_append]; omega
  generalize Q4 ++ encV o.val = Q5 at *
  clear y7 y8 y9 y10 y11 R4 X4 GD G5 P5
  have c12 := (OpBox.of X5).c12
  have P6 := cput_new w0.heap.size _ Q5 [(o.preds.length : Int)] w5 R5 hz5 (nums1 hpl) (by omega) (by simp)
  have l6 := encN_len1 hpl
  go_wp2_with fail
  refine P6.mono ?_
  rintro e w6 ⟨u6, rfl, R6, G6⟩
  have X6 := G6.keep _ _ _ (by decide) X5
  have GF := GE.trans G6
  have q6 : (Q5 ++ encN [(o.preds.length : Int)]).length ≤ 600230 := by rw [List.length_append]; omega
  generalize Q5 ++ encN [(o.preds.length : Int)] = Q6 at *
  clear c12 R5 X5 GE G6 P6
  have d12 := (OpBox.of X6).c12
  go_wp2_with fail
  go_loopw [0, 48] (fun x i wr => ∃ k : Nat, k ≤ o.preds.length ∧ i = .int .i64 k ∧ Row w0.heap.size x (Q6 ++ encP (o.preds.take k)) wr ∧ Gr w0.heap.size w wr) (fun _ i _ => o.preds.length - (RowKit.intOf i).toNat)
  case atStart => exact ⟨0, Nat.zero_le _, rfl, by simpa [encP] using R6, GF⟩
  case round =>
    clear R6 GF d12 X6 hz1 hz2 hz3 hz4 hz5
    obtain ⟨k, hk, rfl, hh, hgr⟩ := hrel
    have hz := Nat.le_trans hB hgr.bel.size
    by_cases hlt : k < o.preds.length
    · obtain ⟨b, off, rfl, h4, h5⟩ := HP3.out (fun e => by rw [e] at hlt; simp at hlt)
      have hb0 := h0.trans hgr.bel
      have x0 : wr.cell? ⟨b, off + k * 2, none⟩ = some (.int .i64 o.preds[k].1) := by rw [hb0.cell (p := ⟨b, off + k * 2, none⟩) h4]; exact (h5 k hlt).1
      have x1 : wr.cell? ⟨b, off + k * 2 + 1, none⟩ = some (.int .i64 o.preds[k].2) := by rw [hb0.cell (p := ⟨b, off + k * 2 + 1, none⟩) h4]; exact (h5 k hlt).2
      have hq := hf.preds.2 o.preds[k] (List.getElem_mem hlt)
      have hb := encP_len (o.preds.take k) (fun q h => hf.preds.2 q (List.mem_of_mem_take h))
      have hb2 : (o.preds.take k).length ≤ k := List.length_take_le _ _
      have h12 := hf.preds.1
      have hQ : (Q6 ++ encP (o.preds.take k)).length ≤ 600500 := by rw [List.length_append]; omega
      have HT : Hid (Q6 ++ encP (o.preds.take (k + 1)) = (Q6 ++ encP (o.preds.take k)) ++ encN [o.preds[k].1, o.preds[k].2]) := by
        show _ = _
        rw [take_snoc o.preds k hlt, encP_append, List.append_assoc]
        simp [encP]
      obtain ⟨⟨x, y⟩, hxy⟩ : ∃ q, o.preds[k] = q := ⟨_, rfl⟩
      rw [hxy] at x0 x1 hq HT
      dsimp only at x0 x1 hq HT
      generalize Q6 ++ encP (o.preds.take k) = Q at *
      have G7 := Gr.alloc w0.heap.size wr (.cells #[.int .i64 x, .int .i64 y] 28) hz
      have hzz : (wr.alloc (.cells #[.int .i64 x, .int .i64 y] 28)).heap.size = wr.heap.size + 1 := by simp
      have P7 := cput_new w0.heap.size _ Q [x, y] _ (hh.alloc (.cells #[.int .i64 x, .int .i64 y] 28)) (Nat.le_trans hz G7.bel.size) (nums2 hq.1 hq.2) (by omega) (by simp)
      rw [hzz] at P7
      have g1 : (k : Int) < o.preds.length := by omega
      clear h5 hxy hb hb2 HP3
      go_wp2_with fail
      refine P7.mono ?_
      rintro e w8 ⟨u8, rfl, R8, G8⟩
      have G9 := (hgr.trans G7).trans G8
      go_wp2
      go_roundw
      case rel => exact ⟨k + 1, hlt, by go_num, by rw [HT.out]; exact R8, G9⟩
      case measure => simp [RowKit.intOf]; omega
    · obtain rfl : k = o.preds.length := by omega
      rw [List.take_of_length_le (Nat.le_refl _)] at hh
      have g1 : ¬ (o.preds.length : Int) < o.preds.length := by omega
      go_wp2
      go_ret
      exact ⟨_, rfl, by rw [HE.out]; exact hh, hgr⟩
end Go.Proofs.Ytkmjlpmjhffgbab
