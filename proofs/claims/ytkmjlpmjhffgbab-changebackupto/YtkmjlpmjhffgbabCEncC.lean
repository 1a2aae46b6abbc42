/-
  What is proved: what package change's Encode answers of any change; and nothing that was there has turned.
  Conditions: the change lies in memory.
-/
import Derived.Test.YtkmjlpmjhffgbabCFit
namespace Go.Proofs.Ytkmjlpmjhffgbab
open Go.RowKit

/-- The bytes of ops. -/
def encOs (l : List OpM) : List UInt8 := l.flatMap encOp
/-- The bytes of a change. -/
def encC (c : Chg) : List UInt8 := encN [c.actor, c.seq, c.start, (c.deps.length : Int)] ++ encP c.deps ++ encN [(c.ops.length : Int)] ++ encOs c.ops

theorem encOs_append (l m : List OpM) : encOs (l ++ m) = encOs l ++ encOs m := by simp [encOs]
theorem encOs_len (l : List OpM) (h : ∀ o ∈ l, OpFit o) : (encOs l).length ≤ 500 * l.length := by
  induction l with
  | nil => simp [encOs]
  | cons o r ih =>
    have e : encOs (o :: r) = encOp o ++ encOs r := by simp [encOs]
    have h1 := encOp_len o (h o (by simp))
    have h2 := ih (fun x hx => h x (by simp [hx]))
    rw [e, List.length_append, List.length_cons]
    omega

set_option maxHeartbeats 4000000 in
theorem encode_no (v : Value) (c : Chg) (w : World) (hv : IsChg w v c) (h : chk c ≠ 0) :
    Calls Try.prog 4 #[v] w fun e w' => e = .returned (.tuple #[.slice none 0 0, .iface 50 (.int .i64 (chk c))]) ∧ Below w.heap.size w w' := by
  have hv0 := hv
  obtain ⟨ud, uo, l, rfl, -, -, -, hd, ho, -⟩ := hv
  have BA : Below w.heap.size w (w.alloc (.cells #[.int .i64 c.actor, .int .i64 c.seq, .int .i64 c.start, ud, uo] 25)) := (Below.refl _ w).alloc (Nat.le_refl _) _
  have H := check_any _ c _ (hv0.below BA)
  rw [errV_ne h] at H
  obtain ⟨z, hz⟩ : ∃ z, chk c = z := ⟨_, rfl⟩
  rw [hz] at H
  have HZ : Hid (chk c = z) := hz
  clear hz
  obtain ⟨ad, cd, rfl, -⟩ := hd
  obtain ⟨ao, co, rfl, -⟩ := ho
  clear hv0
  go_enter Try.func4, Try.ntmps4
  go_wp2_with fail
  refine H.mono ?_
  rintro e w1 ⟨rfl, b1⟩
  have B1 : Below w.heap.size w w1 := BA.trans (b1.mono BA.size)
  clear h
  go_wp2
  go_returns
  exact ⟨by rw [HZ.out]; rfl, B1⟩

set_option maxRecDepth 100000 in
set_option maxHeartbeats 16000000 in
theorem encode_yes (v : Value) (c : Chg) (w : World) (hv : IsChg w v c) (h : chk c = 0) :
    Calls Try.prog 4 #[v] w fun e w' => ∃ u, e = .returned (.tuple #[u, .nilIface]) ∧ Row w.heap.size u (encC c) w' ∧ Below w.heap.size w w' := by
  have hv0 := hv
  obtain ⟨ud, uo, l, rfl, -, -, -, hd, ho, hl⟩ := hv
  have HLN : Hid (l.length = c.ops.length) := by show _ = _; rw [← hl, List.length_map]
  have HL0 : Hid (l.map (·.1) = c.ops) := hl
  have BA : Below w.heap.size w (w.alloc (.cells #[.int .i64 c.actor, .int .i64 c.seq, .int .i64 c.start, ud, uo] 25)) := (Below.refl _ w).alloc (Nat.le_refl _) _
  have hbx : (w.alloc (.cells #[.int .i64 c.actor, .int .i64 c.seq, .int .i64 c.start, ud, uo] 25)).heap[w.heap.size]? = some (.cells #[.int .i64 c.actor, .int .i64 c.seq, .int .i64 c.start, ud, uo] 25) := (MapKept.heap_alloc w _).1
  have H := check_any _ c _ (hv0.below BA)
  rw [h] at H
  have E0 : errV 0 = .nilIface := rfl
  rw [E0] at H
  obtain ⟨ad, cd, rfl, -, hd2, -, hd4⟩ := hd
  obtain ⟨ao, co, rfl, -, ho2, ho3, ho4⟩ := ho
  have HF : Hid (ChgFit c) := chg_fit h (fun o ho => by
    rw [← hl] at ho
    obtain ⟨q, hq, rfl⟩ := List.mem_map.1 ho
    exact (ho3 q hq).2.2.2.2.2.1)
  have HD4 : Hid (c.deps ≠ [] → ∃ b off, ad = some ⟨b, off, none⟩ ∧ b < w.heap.size ∧ ∀ i (h : i < c.deps.length), w.cell? ⟨b, off + i * 2, none⟩ = some (.int .i64 c.deps[i].1) ∧ w.cell? ⟨b, off + i * 2 + 1, none⟩ = some (.int .i64 c.deps[i].2)) := hd4
  have HO3 : Hid (∀ q ∈ l, IsPairs w q.2 q.1.preds ∧ OpNums q.1) := ho3
  have HO4 : Hid (l ≠ [] → ∃ b off, ao = some ⟨b, off, none⟩ ∧ b < w.heap.size ∧ ∀ i (h : i < l.length) j, j < 13 → w.cell? ⟨b, off + i * 13 + j, none⟩ = (opCells l[i].1 l[i].2)[j]?) := ho4
  have hdl : c.deps.length ≤ 12 := HF.out.deps.1
  have hol : l.length ≤ 40 := by have := HF.out.ops.1; have := HLN.out; omega
  have nd : N63 (c.deps.length : Int) := by unfold N63; omega
  have no : N63 (l.length : Int) := by unfold N63; omega
  have n3 := HF.out.head
  have HE : Hid (encC c = ((encN [c.actor, c.seq, c.start, (c.deps.length : Int)] ++ encP c.deps) ++ encN [(l.length : Int)]) ++ encOs c.ops) := by show _ = _; rw [HLN.out]; rfl
  clear hv0 hd4 ho3 ho4 hl h
  go_enter Try.func4, Try.ntmps4
  go_wp2_with fail
  refine H.mono ?_
  rintro e w1 ⟨rfl, b1⟩
  have G1 : Gr w.heap.size w w1 := (Gr.of BA (Nat.le_refl _)).trans (Gr.of b1 BA.size)
  have X1 := heap_below hbx b1 (Nat.le_refl _)
  have c0 : w1.cell? ⟨w.heap.size, 0, none⟩ = some (.int .i64 c.actor) := Lib.cell_of_heap X1 0
  have c1 : w1.cell? ⟨w.heap.size, 1, none⟩ = some (.int .i64 c.seq) := Lib.cell_of_heap X1 1
  have c2 : w1.cell? ⟨w.heap.size, 2, none⟩ = some (.int .i64 c.start) := Lib.cell_of_heap X1 2
  have c3 : w1.cell? ⟨w.heap.size, 3, none⟩ = some (.slice ad c.deps.length cd) := Lib.cell_of_heap X1 3
  have P1 := cput_new w.heap.size (.slice none 0 0) [] [c.actor, c.seq, c.start, (c.deps.length : Int)] w1 (World.ownsRow_nil w1 w.heap.size 5 1) G1.bel.size (nums4 n3.1 n3.2.1 n3.2.2 nd) (by simp) (by simp)
  have l1 := encN_len4 n3.1 n3.2.1 n3.2.2 nd
  rw [List.nil_append] at P1
  clear H hbx BA b1
  go_wp2_with fail
  refine P1.mono ?_
  rintro e w2 ⟨u2, rfl, R2, G2⟩
  have X2 := G2.keep _ _ _ (by decide) X1
  have GB := G1.trans G2
  have d3 : w2.cell? ⟨w.heap.size, 3, none⟩ = some (.slice ad c.deps.length cd) := Lib.cell_of_heap X2 3
  generalize encN [c.actor, c.seq, c.start, (c.deps.length : Int)] = Q1 at *
  clear c0 c1 c2 c3 P1 G1 G2 X1
  go_wp2_with fail
  go_loopw [5, 29] (fun x i wr => ∃ k : Nat, k ≤ c.deps.length ∧ i = .int .i64 k ∧ Row w.heap.size x (Q1 ++ encP (c.deps.take k)) wr ∧ Gr w.heap.size w wr ∧ wr.heap[w.heap.size]? = some (.cells #[.int .i64 c.actor, .int .i64 c.seq, .int .i64 c.start, .slice ad c.deps.length cd, .slice ao l.length co] 25)) (fun _ i _ => c.deps.length - (RowKit.intOf i).toNat)
  case atStart => exact ⟨0, Nat.zero_le _, rfl, by simpa [encP] using R2, GB, X2⟩
  case round =>
    clear R2 GB X2 d3
    obtain ⟨k, hk, rfl, hh, hgr, hX⟩ := hrel
    have hz := hgr.bel.size
    by_cases hlt : k < c.deps.length
    · obtain ⟨b, off, rfl, h4, h5⟩ := HD4.out (fun e => by rw [e] at hlt; simp at hlt)
      have x0 : wr.cell? ⟨b, off + k * 2, none⟩ = some (.int .i64 c.deps[k].1) := by rw [hgr.bel.cell (p := ⟨b, off + k * 2, none⟩) h4]; exact (h5 k hlt).1
      have x1 : wr.cell? ⟨b, off + k * 2 + 1, none⟩ = some (.int .i64 c.deps[k].2) := by rw [hgr.bel.cell (p := ⟨b, off + k * 2 + 1, none⟩) h4]; exact (h5 k hlt).2
      have hq := HF.out.deps.2 c.deps[k] (List.getElem_mem hlt)
      have hb := encP_len (c.deps.take k) (fun q h => HF.out.deps.2 q (List.mem_of_mem_take h))
      have hb2 : (c.deps.take k).length ≤ k := List.length_take_le _ _
      have hQ : (Q1 ++ encP (c.deps.take k)).length ≤ 300 := by rw [List.length_append]; omega
      have HT : Hid (Q1 ++ encP (c.deps.take (k + 1)) = (Q1 ++ encP (c.deps.take k)) ++ encN [c.deps[k].1, c.deps[k].2]) := by
        show _ = _
        rw [take_snoc c.deps k hlt, encP_append, List.append_assoc]
        simp [encP]
      obtain ⟨⟨x, y⟩, hxy⟩ : ∃ q, c.deps[k] = q := ⟨_, rfl⟩
      rw [hxy] at x0 x1 hq HT
      dsimp only at x0 x1 hq HT
      generalize Q1 ++ encP (c.deps.take k) = Q at *
      have G7 := Gr.alloc w.heap.size wr (.cells #[.int .i64 x, .int .i64 y] 45) hz
      have hzz : (wr.alloc (.cells #[.int .i64 x, .int .i64 y] 45)).heap.size = wr.heap.size + 1 := by simp
      have P7 := cput_new w.heap.size _ Q [x, y] _ (hh.alloc (.cells #[.int .i64 x, .int .i64 y] 45)) (Nat.le_trans hz G7.bel.size) (nums2 hq.1 hq.2) (by omega) (by simp)
      rw [hzz] at P7
      have g1 : (k : Int) < c.deps.length := by omega
      have HX : Hid (wr.heap[w.heap.size]? = some (.cells #[.int .i64 c.actor, .int .i64 c.seq, .int .i64 c.start, .slice (some ⟨b, off, none⟩) c.deps.length cd, .slice ao l.length co] 25)) := hX
      clear h5 hxy hb hb2 HD4 hX
      go_wp2_with fail
      refine P7.mono ?_
      rintro e w8 ⟨u8, rfl, R8, G8⟩
      have HX8 : Hid _ := (G7.trans G8).keep _ _ _ (by decide) HX.out
      have G9 := (hgr.trans G7).trans G8
      go_wp2
      go_roundw
      case rel => exact ⟨k + 1, hlt, by go_num, by rw [HT.out]; exact R8, G9, HX8.out⟩
      case measure => simp [RowKit.intOf]; omega
    · obtain rfl : k = c.deps.length := by omega
      rw [List.take_of_length_le (Nat.le_refl _)] at hh
      have g1 : ¬ (c.deps.length : Int) < c.deps.length := by omega
      have d4 : wr.cell? ⟨w.heap.size, 4, none⟩ = some (.slice ao l.length co) := Lib.cell_of_heap hX 4
      have lb := encP_len c.deps HF.out.deps.2
      have hQ : (Q1 ++ encP c.deps).length ≤ 300 := by rw [List.length_append]; omega
      generalize Q1 ++ encP c.deps = Q2 at *
      have P3 := cput_new w.heap.size _ Q2 [(l.length : Int)] wr hh hz (nums1 no) (by omega) (by simp)
      have l3 := encN_len1 no
      obtain ⟨ax, cx, rfl⟩ := own_row_len hh
      clear HD4 lb
      go_wp2_with fail
      refine P3.mono ?_
      rintro e w3 ⟨u3, rfl, R3, G3⟩
      have X3 := G3.keep _ _ _ (by decide) hX
      have GC := hgr.trans G3
      have d5 : w3.cell? ⟨w.heap.size, 4, none⟩ = some (.slice ao l.length co) := Lib.cell_of_heap X3 4
      have q3 : (Q2 ++ encN [(l.length : Int)]).length ≤ 310 := by rw [List.length_append]; omega
      generalize Q2 ++ encN [(l.length : Int)] = Q3 at *
      clear P3 hh hgr hX d4 G3 X3
      go_wp2_with fail
      go_loopw [5, 50] (fun x i wr => ∃ k : Nat, k ≤ l.length ∧ i = .int .i64 k ∧ Row w.heap.size x (Q3 ++ encOs (c.ops.take k)) wr ∧ Gr w.heap.size w wr) (fun _ i _ => l.length - (RowKit.intOf i).toNat)
      case atStart => exact ⟨0, Nat.zero_le _, rfl, by simpa [encOs] using R3, GC⟩
      case round =>
        clear R3 GC d5 hz hk
        obtain ⟨k, hk, rfl, hh, hgr⟩ := hrel
        have hz := hgr.bel.size
        by_cases hlt : k < l.length
        · obtain ⟨b, off, rfl, h4, h5⟩ := HO4.out (fun e => by rw [e] at hlt; simp at hlt)
          have CL : ∀ j, j < 13 → wr.cell? ⟨b, off + k * 13 + j, none⟩ = (opCells l[k].1 l[k].2)[j]? := fun j hj => by rw [hgr.bel.cell (p := ⟨b, off + k * 13 + j, none⟩) h4]; exact h5 k hlt j hj
          have hp := (HO3.out l[k] (List.getElem_mem hlt)).1
          have hk2 : k < c.ops.length := by have := HLN.out; omega
          have HLk : Hid (c.ops[k] = l[k].1) := by
            show _ = _
            simp only [← HL0.out, List.getElem_map]
          have hfit := HF.out.ops.2 c.ops[k] (List.getElem_mem hk2)
          have hb := encOs_len (c.ops.take k) (fun q h => HF.out.ops.2 q (List.mem_of_mem_take h))
          have hb2 : (c.ops.take k).length ≤ k := List.length_take_le _ _
          have hQ : (Q3 ++ encOs (c.ops.take k)).length ≤ 21000 := by rw [List.length_append]; omega
          have HT : Hid (Q3 ++ encOs (c.ops.take (k + 1)) = (Q3 ++ encOs (c.ops.take k)) ++ encOp c.ops[k]) := by
            show _ = _
            rw [take_snoc c.ops k hk2, encOs_append, List.append_assoc]
            simp [encOs]
          rw [HLk.out] at HT hfit
          obtain ⟨⟨o, vp⟩, hq⟩ : ∃ q, l[k] = q := ⟨_, rfl⟩
          rw [hq] at CL hp HT hfit
          dsimp only at CL hp HT hfit
          generalize Q3 ++ encOs (c.ops.take k) = Q at *
          have g1 : (k : Int) < l.length := by omega
          have x0 := CL 0 (by decide)
          have x1 := CL 1 (by decide)
          have x2 := CL 2 (by decide)
          have x3 := CL 3 (by decide)
          have x4 := CL 4 (by decide)
          have x5 := CL 5 (by decide)
          have x6 := CL 6 (by decide)
          have x7 := CL 7 (by decide)
          have x8 := CL 8 (by decide)
          have x9 := CL 9 (by decide)
          have x10 := CL 10 (by decide)
          have x11 := CL 11 (by decide)
          have x12 := CL 12 (by decide)
          unfold opCells at x0 x1 x2 x3 x4 x5 x6 x7 x8 x9 x10 x11 x12
          simp only [Nat.add_zero, List.getElem?_cons_zero, List.getElem?_cons_succ] at x0 x1 x2 x3 x4 x5 x6 x7 x8 x9 x10 x11 x12
          have G7 := Gr.alloc w.heap.size wr (.cells #[.int .i64 o.kind, .int .i64 o.obj.1, .int .i64 o.obj.2, .string o.key, .int .i64 o.elem.1, .int .i64 o.elem.2, .bool o.ins, .int .i64 o.val.k, .int .i64 o.val.n, .string o.val.t, .int .i64 o.val.o, .int .i64 o.val.a, vp] 33) hz
          have K := putOp_any w _ _ Q o vp (hgr.trans G7).bel (hh.alloc (.cells #[.int .i64 o.kind, .int .i64 o.obj.1, .int .i64 o.obj.2, .string o.key, .int .i64 o.elem.1, .int .i64 o.elem.2, .bool o.ins, .int .i64 o.val.k, .int .i64 o.val.n, .string o.val.t, .int .i64 o.val.o, .int .i64 o.val.a, vp] 33)) hp hfit (by omega)
          unfold opVal opCells at K
          obtain ⟨ap, cp, rfl, -⟩ := hp
          clear CL h5 hq HO4 HO3 HLk hb hb2
          go_wp2_with fail
          refine K.mono ?_
          rintro e w8 ⟨u8, rfl, R8, G8⟩
          have G9 := (hgr.trans G7).trans G8
          clear K x0 x1 x2 x3 x4 x5 x6 x7 x8 x9 x10 x11 x12
          go_wp2
          go_roundw
          case rel => exact ⟨k + 1, hlt, by go_num, by rw [HT.out]; exact R8, G9⟩
          case measure => simp [RowKit.intOf]; omega
        · obtain rfl : k = l.length := by omega
          rw [HLN.out, List.take_of_length_le (Nat.le_refl _)] at hh
          have g1 : ¬ (l.length : Int) < l.length := by omega
          go_wp2
          go_returns
          exact ⟨_, rfl, by rw [HE.out]; exact hh, hgr.bel⟩
end Go.Proofs.Ytkmjlpmjhffgbab
