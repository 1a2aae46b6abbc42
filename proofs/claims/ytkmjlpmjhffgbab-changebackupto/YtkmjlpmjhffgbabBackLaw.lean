/-
  What is proved: the law ChangeBack: called with any change and bytes it returns true, and nothing that was there has turned.
  Conditions: the change and the bytes lie in memory.
-/
import Derived.Test.YtkmjlpmjhffgbabBackSame
namespace Go.Proofs.Ytkmjlpmjhffgbab
open Go.RowKit

/-- Bytes that came in, appended to a row of one's own. -/
theorem app_in {w : World} {ops : Array Oper} {rest : List Oper} {o : Oper} {a : Act} {Q : Exit → Act → World → Prop} (hgd : o.guard = none) (s x : Operand)
    (ho : o.op = .call { callee := .builtin .append, args := #[s, x], argTypes := #[26, 26] }) (B : Nat) (v : Value) (L : List UInt8) (hs : a.eval s = v) (hown : Row B v L w)
    (vb : Value) (b : List UInt8) (hx : a.eval x = vb) (hb : IsBytes w vb b) (hn : Wh vb) (hsz : L.length ≤ 30000) (hB : B ≤ w.heap.size)
    (h : ∀ v' w', Row B v' (L ++ b) w' → Gr B w w' → wpList Try.prog ops Q rest (a.put o.dst v') w') : wpList Try.prog ops Q (o :: rest) a w := by
  obtain ⟨i0, hi, hz0, hz1, hz2⟩ := info_parts infoB
  obtain ⟨ad, cap, rfl, h1, h2, h3⟩ := hb
  rcases hn with hn | ⟨ad2, n, c, hn⟩
  · injection hn with e1 e2 e3
    subst e1 e3
    obtain rfl : b = [] := List.length_eq_zero_iff.1 e2
    refine wpList_append_own_none hgd s x 26 ho B 5 i0 1 Try.underlying26 hi v L.length (Lib.byteCells L) hs hown (by simpa using hx) ?_
    exact h v w (by simpa using hown) (Gr.refl _ _)
  · injection hn with e1 e2 e3
    subst e1
    refine wpList_append_own_wide w hgd s x 26 ho B 5 i0 (.int .u8 0) 1 1 Try.underlying26 hi hz0 hz1 hz2 rfl (by decide) v L.length (Lib.byteCells L) hs hown ad2 b.length cap (Lib.byteCells b) hx (cells_len _) ?_ (one_cell _) (by unfold maxLen; omega) (by omega) hB ?_
    · intro j u hj
      have hlt : j < b.length := by
        rcases Nat.lt_or_ge j b.length with h1 | h1
        · exact h1
        · rw [List.getElem?_eq_none (by simpa [Lib.byteCells] using h1)] at hj; cases hj
      obtain ⟨g', off', e, _, h5⟩ := h3 (fun e => by rw [e] at hlt; simp at hlt)
      injection e with e
      subst e
      have ea : (⟨g', off', none⟩ : Addr).add j = ⟨g', off' + j, none⟩ := by unfold Addr.add; split <;> simp_all
      rw [ea, h5 j hlt]
      simp [Lib.byteCells, hlt] at hj
      rw [hj]
    · intro v' w' hown' hg _
      obtain ⟨R, bl⟩ := row_grown0 (m := b) hown (Below.refl B w) hB hg hown'
      exact h v' w' R ⟨bl, fun g cs T hT hh => box_grown0 hown hh hT hg⟩

set_option maxRecDepth 100000 in
set_option maxHeartbeats 32000000 in
theorem backLaw_any (v vb : Value) (c : Chg) (b : List UInt8) (w : World) (hv : IsChg w v c) (hb : IsBytes w vb b) (hbl : b.length ≤ 140737488355328) (hbw : Wh vb) :
    Calls Try.prog 3 #[v, vb] w fun e w' => e = .returned (.bool true) ∧ Below w.heap.size w w' := by
  have hv0 := hv
  obtain ⟨ud, uo, l, rfl, -, -, -, hd, ho, hl⟩ := hv
  have HNUM : Hid (chk c = 0 → ChgFit c) := by
    obtain ⟨_, _, _, _, _, ho3, _⟩ := ho
    intro h
    exact chg_fit h (fun o ho => by
      rw [← hl] at ho
      obtain ⟨q, hq, rfl⟩ := List.mem_map.1 ho
      exact (ho3 q hq).2.2.2.2.2.1)
  obtain ⟨ad, cd, rfl, -⟩ := hd
  obtain ⟨ao, co, rfl, -⟩ := ho
  obtain ⟨ab, cb, rfl, hb1, hb2, hb3⟩ := id hb
  have HB3 : Hid (b ≠ [] → ∃ b' off, ab = some ⟨b', off, none⟩ ∧ b' < w.heap.size ∧ ∀ i (h : i < b.length), w.cell? ⟨b', off + i, none⟩ = some (.int .u8 b[i].toNat)) := hb3
  have A1 := (Below.refl w.heap.size w).alloc (Nat.le_refl _) (.cells #[.int .i64 c.actor, .int .i64 c.seq, .int .i64 c.start, .slice ad c.deps.length cd, .slice ao l.length co] 25)
  have X1 : (w.alloc (.cells #[.int .i64 c.actor, .int .i64 c.seq, .int .i64 c.start, .slice ad c.deps.length cd, .slice ao l.length co] 25)).heap[w.heap.size]? = some (.cells #[.int .i64 c.actor, .int .i64 c.seq, .int .i64 c.start, .slice ad c.deps.length cd, .slice ao l.length co] 25) := (MapKept.heap_alloc w _).1
  have z1 : (w.alloc (.cells #[.int .i64 c.actor, .int .i64 c.seq, .int .i64 c.start, .slice ad c.deps.length cd, .slice ao l.length co] 25)).heap.size = w.heap.size + 1 := by simp
  have O1 := (Below.refl (w.alloc (.cells #[.int .i64 c.actor, .int .i64 c.seq, .int .i64 c.start, .slice ad c.deps.length cd, .slice ao l.length co] 25)).heap.size (w.alloc (.cells #[.int .i64 c.actor, .int .i64 c.seq, .int .i64 c.start, .slice ad c.deps.length cd, .slice ao l.length co] 25))).alloc (Nat.le_refl _) (.cells #[.int .i64 1, .int .i64 0, .int .i64 0, .string ⟨#[97]⟩, .int .i64 0, .int .i64 0, .bool false, .int .i64 2, .int .i64 5, .string .empty, .int .i64 0, .int .i64 0, .slice none 0 0] 33)
  have Y1 : ((w.alloc (.cells #[.int .i64 c.actor, .int .i64 c.seq, .int .i64 c.start, .slice ad c.deps.length cd, .slice ao l.length co] 25)).alloc (.cells #[.int .i64 1, .int .i64 0, .int .i64 0, .string ⟨#[97]⟩, .int .i64 0, .int .i64 0, .bool false, .int .i64 2, .int .i64 5, .string .empty, .int .i64 0, .int .i64 0, .slice none 0 0] 33)).heap[w.heap.size + 1]? = some (.cells #[.int .i64 1, .int .i64 0, .int .i64 0, .string ⟨#[97]⟩, .int .i64 0, .int .i64 0, .bool false, .int .i64 2, .int .i64 5, .string .empty, .int .i64 0, .int .i64 0, .slice none 0 0] 33) := by
    have := (MapKept.heap_alloc (w.alloc (.cells #[.int .i64 c.actor, .int .i64 c.seq, .int .i64 c.start, .slice ad c.deps.length cd, .slice ao l.length co] 25)) (.cells #[.int .i64 1, .int .i64 0, .int .i64 0, .string ⟨#[97]⟩, .int .i64 0, .int .i64 0, .bool false, .int .i64 2, .int .i64 5, .string .empty, .int .i64 0, .int .i64 0, .slice none 0 0] 33)).1
    rw [z1] at this
    exact this
  have z2 : ((w.alloc (.cells #[.int .i64 c.actor, .int .i64 c.seq, .int .i64 c.start, .slice ad c.deps.length cd, .slice ao l.length co] 25)).alloc (.cells #[.int .i64 1, .int .i64 0, .int .i64 0, .string ⟨#[97]⟩, .int .i64 0, .int .i64 0, .bool false, .int .i64 2, .int .i64 5, .string .empty, .int .i64 0, .int .i64 0, .slice none 0 0] 33)).heap.size = w.heap.size + 2 := by simp
  have O2 := (Below.refl ((w.alloc (.cells #[.int .i64 c.actor, .int .i64 c.seq, .int .i64 c.start, .slice ad c.deps.length cd, .slice ao l.length co] 25)).alloc (.cells #[.int .i64 1, .int .i64 0, .int .i64 0, .string ⟨#[97]⟩, .int .i64 0, .int .i64 0, .bool false, .int .i64 2, .int .i64 5, .string .empty, .int .i64 0, .int .i64 0, .slice none 0 0] 33)).heap.size ((w.alloc (.cells #[.int .i64 c.actor, .int .i64 c.seq, .int .i64 c.start, .slice ad c.deps.length cd, .slice ao l.length co] 25)).alloc (.cells #[.int .i64 1, .int .i64 0, .int .i64 0, .string ⟨#[97]⟩, .int .i64 0, .int .i64 0, .bool false, .int .i64 2, .int .i64 5, .string .empty, .int .i64 0, .int .i64 0, .slice none 0 0] 33))).alloc (Nat.le_refl _) (.cells #[.int .i64 1, .int .i64 1, .int .i64 1, .slice none 0 0, .slice (some ⟨w.heap.size + 1, 0, none⟩) 1 1] 25)
  have Y2 := heap_below Y1 O2 (Nat.le_refl _)
  have X2 := heap_below (heap_below X1 O1 (Nat.le_refl _)) O2 (Nat.le_refl _)
  have B2 : Below w.heap.size w (((w.alloc (.cells #[.int .i64 c.actor, .int .i64 c.seq, .int .i64 c.start, .slice ad c.deps.length cd, .slice ao l.length co] 25)).alloc (.cells #[.int .i64 1, .int .i64 0, .int .i64 0, .string ⟨#[97]⟩, .int .i64 0, .int .i64 0, .bool false, .int .i64 2, .int .i64 5, .string .empty, .int .i64 0, .int .i64 0, .slice none 0 0] 33)).alloc (.cells #[.int .i64 1, .int .i64 1, .int .i64 1, .slice none 0 0, .slice (some ⟨w.heap.size + 1, 0, none⟩) 1 1] 25)) := (A1.trans (O1.mono A1.size)).trans (O2.mono (by omega))
  have ION : IsChg (((w.alloc (.cells #[.int .i64 c.actor, .int .i64 c.seq, .int .i64 c.start, .slice ad c.deps.length cd, .slice ao l.length co] 25)).alloc (.cells #[.int .i64 1, .int .i64 0, .int .i64 0, .string ⟨#[97]⟩, .int .i64 0, .int .i64 0, .bool false, .int .i64 2, .int .i64 5, .string .empty, .int .i64 0, .int .i64 0, .slice none 0 0] 33)).alloc (.cells #[.int .i64 1, .int .i64 1, .int .i64 1, .slice none 0 0, .slice (some ⟨w.heap.size + 1, 0, none⟩) 1 1] 25)) (.agg #[.int .i64 1, .int .i64 1, .int .i64 1, .slice none 0 0, .slice (some ⟨w.heap.size + 1, 0, none⟩) 1 1]) oneC := by
    refine ⟨.slice none 0 0, .slice (some ⟨w.heap.size + 1, 0, none⟩) 1 1, [(⟨1, (0, 0), ⟨#[97]⟩, (0, 0), false, ⟨2, 5, .empty, 0, 0⟩, []⟩, .slice none 0 0)], rfl, by unfold I64 oneC; simp, by unfold I64 oneC; simp, by unfold I64 oneC; simp, isPairs_nil _ _ _, ?_, rfl⟩
    refine ⟨some ⟨w.heap.size + 1, 0, none⟩, 1, rfl, by simp, by simp, ?_, fun _ => ⟨w.heap.size + 1, 0, rfl, by simp, ?_⟩⟩
    · intro q hq
      rw [List.mem_singleton.1 hq]
      exact ⟨isPairs_nil _ _ _, by unfold OpNums I64; simp⟩
    · intro i hi j hj
      obtain rfl : i = 0 := by simpa using hi
      simp only [Nat.zero_mul, Nat.zero_add, List.getElem_cons_zero]
      rw [Lib.cell_of_heap Y2]
      unfold opCells
      simp only [List.getElem?_toArray]
  have E0 := encode_yes _ oneC _ ION oneC_ok
  clear Y1 Y2 O1 O2 X1 A1 ION hb3 hl
  go_enter Try.func3, Try.ntmps3
  go_wp2_with fail
  refine E0.mono ?_
  rintro e w1 ⟨u1, rfl, R1, b1⟩
  have B1 : Below w.heap.size w w1 := B2.trans (b1.mono B2.size)
  have X3 := heap_below X2 b1 (Nat.le_refl _)
  obtain ⟨au, cu, rfl⟩ := own_row_len R1
  have hol := oneC_len
  generalize (encC oneC).length = lo at *
  have g0 : ¬ (lo : Int) < 10 := by omega
  have y0 : w1.cell? ⟨w.heap.size, 0, none⟩ = some (.int .i64 c.actor) := Lib.cell_of_heap X3 0
  have y1 : w1.cell? ⟨w.heap.size, 1, none⟩ = some (.int .i64 c.seq) := Lib.cell_of_heap X3 1
  have y2 : w1.cell? ⟨w.heap.size, 2, none⟩ = some (.int .i64 c.start) := Lib.cell_of_heap X3 2
  have y3 : w1.cell? ⟨w.heap.size, 3, none⟩ = some (.slice ad c.deps.length cd) := Lib.cell_of_heap X3 3
  have y4 : w1.cell? ⟨w.heap.size, 4, none⟩ = some (.slice ao l.length co) := Lib.cell_of_heap X3 4
  clear E0 R1 b1 X2 z1 z2 B2
  have IC := hv0.below B1
  by_cases hc : chk c = 0
  · have hf := HNUM.out hc
    have E1 := encode_yes _ c w1 IC hc
    have hel := encC_len c hf
    have hen := encC_ne c
    have DC := dec_cut hf hc
    have DE : Hid (dec (encC c ++ b) = some (c, (encC c).length)) := dec_enc hf hc b
    have DCH : Hid (dec (encC c).dropLast = none) := DC
    have SA := fun v u W h1 h2 => same_any v u c W h1 h2 hc
    clear HNUM DC hf hc
    generalize encC c = E at *
    go_wp2_with fail
    refine E1.mono ?_
    rintro e w2 ⟨u2, rfl, R2, b2⟩
    have B2 : Below w.heap.size w w2 := B1.trans (b2.mono B1.size)
    have X4 := heap_below X3 b2 (Nat.le_refl _)
    have R2' := R2
    obtain ⟨g2, c2, rfl, t2⟩ := row_text R2' hen
    clear t2 R2' y0 y1 y2 y3 y4 E1 b2 X3
    have hpos : 1 ≤ (E).length := List.length_pos_iff.2 hen
    have IB := R2.bytes (by omega)
    have hc2 : (E).length ≤ c2 := by
      obtain ⟨_, _, e, h, _⟩ := id IB
      injection e with _ _ e
      rw [e]; exact h
    have IT := IB.take ((E).length - 1) (by omega)
    rw [← List.dropLast_eq_take] at IT
    have D1 := decode_any _ _ w2 IT (Or.inr ⟨_, _, _, rfl⟩)
    have dw : IntKind.i64.wrap (((E).length : Int) - 1) = ((E).length : Int) - 1 := IntWalk.i64_in _ (by omega)
    go_wp2_with fail
    refine D1.mono ?_
    rintro e w3 ⟨⟨c', n', v', h', -, -⟩ | ⟨-, rfl⟩, b3⟩
    · rw [DCH.out] at h'
      cases h'
    have B3 : Below w.heap.size w w3 := B2.trans (b3.mono B2.size)
    have R3 : Row w.heap.size _ E w3 := own_below (own_mono R2 B1.size) b3 (Nat.le_refl _)
    have X5 := heap_below X4 b3 (Nat.le_refl _)
    have A3 := (Below.refl w3.heap.size w3).alloc (Nat.le_refl _) (.cells #[.int .i64 0, .int .i64 0, .int .i64 0, .slice none 0 0, .slice none 0 0] 25)
    have R4 := R3.alloc (.cells #[.int .i64 0, .int .i64 0, .int .i64 0, .slice none 0 0, .slice none 0 0] 25)
    have X6 := heap_below X5 A3 (Nat.le_refl _)
    have B4 : Below w.heap.size w (w3.alloc (.cells #[.int .i64 0, .int .i64 0, .int .i64 0, .slice none 0 0, .slice none 0 0] 25)) := B3.trans (A3.mono B3.size)
    have HB4 := hb.below B4
    clear D1 IT IB R2 b3 X4 X5 A3 R3 DCH
    go_wp2_with (first | (at_builtin; refine app_in rfl _ _ rfl w.heap.size _ E rfl R4 _ b rfl HB4 hbw (by omega) B4.size ?_))
    intro u5 w5 R5 G5
    have B5 : Below w.heap.size w w5 := B4.trans G5.bel
    have X7 := G5.keep _ _ _ (by decide) X6
    have hne5 : E ++ b ≠ [] := fun e => hen (List.append_eq_nil_iff.1 e).1
    have D5 := decode_any u5 (E ++ b) w5 (R5.bytes (by rw [List.length_append]; omega)) (by
      obtain ⟨g, cc, e, -⟩ := row_text R5 hne5
      exact Or.inr ⟨_, _, _, e⟩)
    obtain ⟨a5, c5, rfl⟩ := own_row_len R5
    clear R4 X6 B4 HB4 G5 R5
    simp only [List.length_append] at D5 ⊢
    go_wp2_with fail
    refine D5.mono ?_
    rintro e w6 ⟨⟨c', n', vd, h', rfl, I6⟩ | ⟨h', -⟩, b6⟩
    · rw [DE.out] at h'
      obtain ⟨rfl, rfl⟩ : c = c' ∧ E.length = n' := by
        have := Option.some.inj h'
        exact ⟨congrArg Prod.fst this, congrArg Prod.snd this⟩
      have B6 : Below w.heap.size w w6 := B5.trans (b6.mono B5.size)
      have X8 := heap_below X7 b6 (Nat.le_refl _)
      obtain ⟨ud', uo', l', rfl, -, -, -, hd', ho', -⟩ := id I6
      obtain ⟨ad', cd', rfl, -⟩ := hd'
      obtain ⟨ao', co', rfl, -⟩ := ho'
      have A6 := (Below.refl w6.heap.size w6).alloc (Nat.le_refl _) (.cells #[.int .i64 c.actor, .int .i64 c.seq, .int .i64 c.start, .slice ad' c.deps.length cd', .slice ao' l'.length co'] 25)
      have X9 := heap_below X8 A6 (Nat.le_refl _)
      have B7 := B6.trans (A6.mono B6.size)
      have S7 := SA _ _ _ (hv0.below B7) (I6.below A6)
      have z0 := Lib.cell_of_heap X9 0
      have z1 := Lib.cell_of_heap X9 1
      have z2 := Lib.cell_of_heap X9 2
      have z3 := Lib.cell_of_heap X9 3
      have z4 := Lib.cell_of_heap X9 4
      simp only [List.getElem?_toArray, List.getElem?_cons_zero, List.getElem?_cons_succ] at z0 z1 z2 z3 z4
      clear D5 h' b6 X7 X8 DE I6
      go_wp2_with fail
      refine S7.mono ?_
      rintro e w8 ⟨rfl, b8⟩
      have BW : Below w.heap.size w w8 := B7.trans (b8.mono B7.size)
      clear S7 b8 z0 z1 z2 z3 z4 X9
      go_wp2_with fail
      refine (decode_any _ b w8 (hb.below BW) hbw).mono ?_
      rintro e w30 ⟨⟨d, n, vd, h1, rfl, I30⟩ | ⟨_, rfl⟩, b30⟩
      · obtain ⟨k1, k2, k3, k4⟩ := dec_back h1
        have B30 : Below w.heap.size w w30 := BW.trans (b30.mono BW.size)
        obtain ⟨udd, uod, ld, rfl, -, -, -, hdd, hod, -⟩ := id I30
        obtain ⟨add, cdd, rfl, -⟩ := hdd
        obtain ⟨aod, cod, rfl, -⟩ := hod
        have hb0 : b ≠ [] := by
          rintro rfl
          rw [List.take_nil] at k1
          exact encC_ne d k1
        obtain ⟨bb, off, rfl, hb4, hb5⟩ := HB3.out hb0
        have A30 := (Below.refl w30.heap.size w30).alloc (Nat.le_refl _) (.cells #[.int .i64 d.actor, .int .i64 d.seq, .int .i64 d.start, .slice add d.deps.length cdd, .slice aod ld.length cod] 25)
        have BA30 := B30.trans (A30.mono B30.size)
        have EE := encode_yes _ d _ (I30.below A30) k3
        clear h1 b30 I30
        go_wp2_with fail
        refine EE.mono ?_
        rintro e w31 ⟨u31, rfl, R31, b31⟩
        have B31 : Below w.heap.size w w31 := BA30.trans (b31.mono BA30.size)
        obtain ⟨g31, c31, rfl, t31⟩ := row_text R31 (encC_ne d)
        have hcv1 := fun (m : Nat) => run_convert_bytes_back (P := Try.prog) (w31.drewN m) 26 9 5 ⟨g31, 0, none⟩ c31 (encC d) Try.underlying26 Try.underlying5 Try.underlying9 (fun t ht => show w31.cell? _ = _ from t31 t _ (by simp [Lib.byteCells, ht]))
        have hcv2 := fun (m : Nat) => run_convert_bytes_back (P := Try.prog) (w31.drewN m) 26 9 5 ⟨bb, off, none⟩ cb (b.take n) Try.underlying26 Try.underlying5 Try.underlying9 (fun t ht => by
          have ht' : t < b.length := by rw [List.length_take] at ht; omega
          have ea : (⟨bb, off, none⟩ : Addr).add t = ⟨bb, off + t, none⟩ := by unfold Addr.add; split <;> simp_all
          show w31.cell? _ = _
          rw [ea, B31.cell (p := ⟨bb, off + t, none⟩) hb4, hb5 t ht', List.getElem_take])
        have hj : (b.take n).length = n := by rw [List.length_take]; omega
        rw [hj] at hcv2
        rw [k1] at hcv1
        have hpl : (encC d).length = n := by rw [k1, hj]
        rw [hpl]
        rw [hj] at hcv1
        clear t31 R31 b31 k1 hj hpl hb5 hb0 EE
        generalize b.take n = T at *
        go_wp2
        go_quiet (fail)
        go_wp2
        exact bodyPost_ret (v := .bool true) (by simp [results, Try.results3, go_sem]) rfl ⟨rfl, below_drew B31 nq⟩
      · have B30 : Below w.heap.size w w30 := BW.trans (b30.mono BW.size)
        have B31 := B30.alloc B30.size (.cells #[.int .i64 0, .int .i64 0, .int .i64 0, .slice none 0 0, .slice none 0 0] 25)
        go_wp2
        go_ret
        exact ⟨rfl, B31⟩
    · rw [DE.out] at h'
      cases h'
  · have E1 := encode_no _ c w1 IC hc
    have HZ : Hid (chk c ≠ 0) := hc
    clear hc HNUM
    generalize chk c = z at *
    go_wp2_with fail
    refine E1.mono ?_
    rintro e w2 ⟨rfl, b2⟩
    have BW : Below w.heap.size w w2 := B1.trans (b2.mono B1.size)
    clear y0 y1 y2 y3 y4 E1 b2 X3 IC
    go_wp2_with fail
    refine (decode_any _ b w2 (hb.below BW) hbw).mono ?_
    rintro e w30 ⟨⟨d, n, vd, h1, rfl, I30⟩ | ⟨_, rfl⟩, b30⟩
    · obtain ⟨k1, k2, k3, k4⟩ := dec_back h1
      have B30 : Below w.heap.size w w30 := BW.trans (b30.mono BW.size)
      obtain ⟨udd, uod, ld, rfl, -, -, -, hdd, hod, -⟩ := id I30
      obtain ⟨add, cdd, rfl, -⟩ := hdd
      obtain ⟨aod, cod, rfl, -⟩ := hod
      have hb0 : b ≠ [] := by
        rintro rfl
        rw [List.take_nil] at k1
        exact encC_ne d k1
      obtain ⟨bb, off, rfl, hb4, hb5⟩ := HB3.out hb0
      have A30 := (Below.refl w30.heap.size w30).alloc (Nat.le_refl _) (.cells #[.int .i64 d.actor, .int .i64 d.seq, .int .i64 d.start, .slice add d.deps.length cdd, .slice aod ld.length cod] 25)
      have BA30 := B30.trans (A30.mono B30.size)
      have EE := encode_yes _ d _ (I30.below A30) k3
      clear h1 b30 I30
      go_wp2_with fail
      refine EE.mono ?_
      rintro e w31 ⟨u31, rfl, R31, b31⟩
      have B31 : Below w.heap.size w w31 := BA30.trans (b31.mono BA30.size)
      obtain ⟨g31, c31, rfl, t31⟩ := row_text R31 (encC_ne d)
      have hcv1 := fun (m : Nat) => run_convert_bytes_back (P := Try.prog) (w31.drewN m) 26 9 5 ⟨g31, 0, none⟩ c31 (encC d) Try.underlying26 Try.underlying5 Try.underlying9 (fun t ht => show w31.cell? _ = _ from t31 t _ (by simp [Lib.byteCells, ht]))
      have hcv2 := fun (m : Nat) => run_convert_bytes_back (P := Try.prog) (w31.drewN m) 26 9 5 ⟨bb, off, none⟩ cb (b.take n) Try.underlying26 Try.underlying5 Try.underlying9 (fun t ht => by
        have ht' : t < b.length := by rw [List.length_take] at ht; omega
        have ea : (⟨bb, off, none⟩ : Addr).add t = ⟨bb, off + t, none⟩ := by unfold Addr.add; split <;> simp_all
        show w31.cell? _ = _
        rw [ea, B31.cell (p := ⟨bb, off + t, none⟩) hb4, hb5 t ht', List.getElem_take])
      have hj : (b.take n).length = n := by rw [List.length_take]; omega
      rw [hj] at hcv2
      rw [k1] at hcv1
      have hpl : (encC d).length = n := by rw [k1, hj]
      rw [hpl]
      rw [hj] at hcv1
      clear t31 R31 b31 k1 hj hpl hb5 hb0 EE
      generalize b.take n = T at *
      go_wp2
      go_quiet (fail)
      go_wp2
      exact bodyPost_ret (v := .bool true) (by simp [results, Try.results3, go_sem]) rfl ⟨rfl, below_drew B31 nq⟩
    · have B30 : Below w.heap.size w w30 := BW.trans (b30.mono BW.size)
      have B31 := B30.alloc B30.size (.cells #[.int .i64 0, .int .i64 0, .int .i64 0, .slice none 0 0, .slice none 0 0] 25)
      go_wp2
      go_ret
      exact ⟨rfl, B31⟩
end Go.Proofs.Ytkmjlpmjhffgbab
