/-
  What is proved: the law BytesBack, called with any numbers, flags and bytes, returns true, and nothing that was there has turned.
  Conditions: the lists lie in memory.
-/
import Derived.Test.YteilchcojaakiaaUnpackEnd
import Derived.Test.YteilchcojaakiaaSameInts
import Derived.Test.YteilchcojaakiaaUnflag
import Derived.Deep.DeepAppendWide
import Derived.Laws.AppendOwnNone
namespace Go.Proofs.Yteilchcojaakiaa
open Go.RowKit

/-- Bytes, appended to a row of one's own. -/
theorem app_bytes {w : World} {ops : Array Oper} {rest : List Oper} {o : Oper} {a : Act} {Q : Exit → Act → World → Prop} (hgd : o.guard = none) (s x : Operand)
    (ho : o.op = .call { callee := .builtin .append, args := #[s, x], argTypes := #[25, 25] }) (B : Nat) (v : Value) (L : List UInt8) (hs : a.eval s = v) (hown : Row B v L w)
    (vb : Value) (b : List UInt8) (hx : a.eval x = vb) (hb : IsBytes w vb b) (hn : vb = .slice none 0 0 ∨ ∃ ad n c, vb = .slice (some ad) n c) (hsz : L.length ≤ 9000) (hB : B ≤ w.heap.size)
    (h : ∀ v' w', Row B v' (L ++ b) w' → Below B w w' → wpList Try.prog ops Q rest (a.put o.dst v') w') : wpList Try.prog ops Q (o :: rest) a w := by
  obtain ⟨i0, hi, hz0, hz1, hz2⟩ := info_parts infoB
  obtain ⟨ad, cap, rfl, h1, h2, h3⟩ := hb
  rcases hn with hn | ⟨ad2, n, c, hn⟩
  · injection hn with e1 e2 e3
    subst e1 e3
    obtain rfl : b = [] := List.length_eq_zero_iff.1 e2
    refine wpList_append_own_none hgd s x 25 ho B 5 i0 1 Try.underlying25 hi v L.length (Lib.byteCells L) hs hown (by simpa using hx) ?_
    exact h v w (by simpa using hown) (Below.refl _ _)
  · injection hn with e1 e2 e3
    subst e1
    refine wpList_append_own_wide w hgd s x 25 ho B 5 i0 (.int .u8 0) 1 1 Try.underlying25 hi hz0 hz1 hz2 rfl (by decide) v L.length (Lib.byteCells L) hs hown ad2 b.length cap (Lib.byteCells b) hx (cells_len _) ?_ (one_cell _) (by unfold maxLen; omega) (by omega) hB ?_
    · intro j u hj
      have hlt : j < b.length := by
        rcases Nat.lt_or_ge j b.length with h1 | h1
        · exact h1
        · rw [List.getElem?_eq_none (by simpa [Lib.byteCells] using h1)] at hj; cases hj
      obtain ⟨g', off', e, _, h5⟩ := h3 (fun e => by rw [e] at hlt; simp at hlt)
      injection e with e
      subst e
      have ea : (⟨g', off', none⟩ : Addr).add j = ⟨g', off' + j, none⟩ := by unfold Addr.add; split <;> simp_all
      rw [ea, h5 j hlt]
      simp [Lib.byteCells, hlt] at hj
      rw [hj]
    · intro v' w' hown' hg _
      refine h v' w' ?_ ((Below.refl B w).grown hg hB (fun k hk => (hown.lt k hk).1))
      have e : Lib.byteCells (L ++ b) = Lib.byteCells L ++ Lib.byteCells b := by simp [Lib.byteCells]
      unfold Row
      rw [e, List.length_append]
      exact hown'

theorem put300 : put 300 = [172, 2] := by
  rw [put_more (by omega), put_small (by omega)]
  rfl

theorem pack_len (l : List Int) (hl : l.length ≤ 400) : (pack l).length ≤ 8010 := by
  obtain ⟨p, h1, h2, h3⟩ := rn_ok (deltas l)
  have e := rn_unique h1 h2
  rw [deltas_len] at h3
  have h4 := enc_len p (fun q hq => ⟨by have := h1.1 q hq; omega, by have := h3 q hq; omega, deltas_range l _ (h2 ▸ spread_mem h1 q hq)⟩)
  have h5 := put_len10 (n := l.length) (by omega)
  have h6 : p.length ≤ (spread p).length := by
    have : ∀ q : List Pc, (∀ x ∈ q, 1 ≤ x.1) → q.length ≤ (spread q).length := by
      intro q
      induction q with
      | nil => intro _; simp
      | cons x r ih =>
        intro hx
        have h7 := ih (fun y hy => hx y (List.mem_cons_of_mem _ hy))
        have h8 := hx x (List.mem_cons_self ..)
        have e9 : spread (x :: r) = List.replicate x.1.toNat x.2 ++ spread r := by simp [spread]
        rw [e9, List.length_append, List.length_replicate, List.length_cons]
        omega
    exact this p h1.1
  rw [h2, deltas_len] at h6
  unfold pack
  rw [← e, List.length_append]
  omega

set_option maxRecDepth 100000 in
set_option maxHeartbeats 16000000 in
theorem back_any (n : Nat) (k : Int) (vl vf vb : Value) (l : List Int) (f : List Bool) (b : List UInt8) (w : World) (hn : n < 18446744073709551616) (hk : I64 k) (hl : IsInts w vl l) (hf : IsBools w vf f) (hb : IsBytes w vb b)
    (hbl : b.length ≤ 140737488355328) (hbn : vb = .slice none 0 0 ∨ ∃ ad n c, vb = .slice (some ad) n c) :
    Calls Try.prog 3 #[.int .u64 n, .int .i64 k, vl, vf, vb] w fun e w' => e = .returned (.bool true) ∧ Below w.heap.size w w' := by
  have P0 := put_any 300 w (by decide)
  rw [put300] at P0
  have hnl := put_len10 hn
  have hzl := put_len10 (zig_lt hk.1 hk.2)
  obtain ⟨al, cl, rfl, _, hl2, hlr, _⟩ := id hl
  obtain ⟨af, cf, rfl, hf1, hf2, hf3⟩ := id hf
  obtain ⟨ab, cb, rfl, hb1, hb2, hb3⟩ := id hb
  go_enter Try.func3, Try.ntmps3
  go_wp2_with fail
  refine P0.mono ?_
  rintro e w1 ⟨u1, rfl, R1, B1⟩
  clear P0
  obtain ⟨g1, c1, rfl, t1⟩ := row_text R1 (by simp)
  have y0 : w1.cell? ⟨g1, 0, none⟩ = some (.int .u8 172) := by have := t1 0 _ rfl; rw [row_at] at this; exact this
  have y1 : w1.cell? ⟨g1, 1, none⟩ = some (.int .u8 2) := by have := t1 1 _ rfl; rw [row_at] at this; exact this
  clear t1 R1
  simp only [List.length_cons, List.length_nil, Nat.zero_add]
  go_wp2_with fail
  refine (put_any n w1 hn).mono ?_
  rintro e w2 ⟨u2, rfl, R2, b2⟩
  have B2 : Below w.heap.size w w2 := B1.trans (b2.mono B1.size)
  have Q2 : Row w.heap.size u2 (put n) w2 := own_mono R2 B1.size
  clear R2 b2 y0 y1
  go_wp2_with (first | (at_builtin; refine app_bytes rfl _ _ rfl w.heap.size _ (put n) rfl Q2 _ b rfl (hb.below B2) hbn (by omega) B2.size ?_))
  intro u3 w3 R3 b3
  have B3 : Below w.heap.size w w3 := B2.trans b3
  have G3 := get_any u3 _ w3 (R3.bytes (by rw [List.length_append]; omega))
  rw [get_put n hn b] at G3
  unfold getV at G3
  obtain ⟨a3, c3, rfl⟩ := own_row_len R3
  clear R3 b3 Q2
  simp only [List.length_append] at G3 ⊢
  generalize (put n).length = p3 at *
  go_wp2_with fail
  refine G3.mono ?_
  rintro e w4 ⟨rfl, b4⟩
  have B4 : Below w.heap.size w w4 := B3.trans (b4.mono B3.size)
  clear G3 b4 B3 B2
  go_wp2_with fail
  refine (putSigned_any k w4 hk.1 hk.2).mono ?_
  rintro e w5 ⟨u5, rfl, R5, b5⟩
  have B5 : Below w.heap.size w w5 := B4.trans (b5.mono B4.size)
  have Q5 : Row w.heap.size u5 (put (zig k)) w5 := own_mono R5 B4.size
  clear R5 b5
  go_wp2_with (first | (at_builtin; refine app_bytes rfl _ _ rfl w.heap.size _ (put (zig k)) rfl Q5 _ b rfl (hb.below B5) hbn (by omega) B5.size ?_))
  intro u6 w6 R6 b6
  have B6 : Below w.heap.size w w6 := B5.trans b6
  have G6 := getSigned_any u6 _ w6 (R6.bytes (by rw [List.length_append]; omega))
  rw [get_put _ (zig_lt hk.1 hk.2) b] at G6
  unfold getSV at G6
  simp only [zag_zig] at G6
  obtain ⟨a6, c6, rfl⟩ := own_row_len R6
  clear R6 b6 Q5
  simp only [List.length_append] at G6 ⊢
  generalize (put (zig k)).length = p6 at *
  go_wp2_with fail
  refine G6.mono ?_
  rintro e w7 ⟨rfl, b7⟩
  have B7 : Below w.heap.size w w7 := B6.trans (b7.mono B6.size)
  clear G6 b7 B6 B5
  go_wp2_with fail
  refine (deltas_any _ l w7 (hl.below B7)).mono ?_
  rintro e w8 ⟨u8, rfl, R8, b8⟩
  have B8 : Below w.heap.size w w8 := B7.trans (b8.mono B7.size)
  have I8 := R8.ints (by rw [deltas_len]; omega) (deltas_range l)
  clear R8 b8
  go_wp2_with fail
  refine (sums_any _ _ w8 I8).mono ?_
  rintro e w9 ⟨u9, rfl, R9, b9⟩
  rw [sums_deltas l hlr] at R9
  have B9 : Below w.heap.size w w9 := B8.trans (b9.mono B8.size)
  have I9 := R9.ints (by omega) hlr
  clear R9 b9 I8
  go_wp2_with fail
  refine (ints_any _ _ l l w9 I9 (hl.below B9)).mono ?_
  rintro e w10 ⟨rfl, b10⟩
  have B10 : Below w.heap.size w w10 := B9.trans (b10.mono B9.size)
  simp only [decide_true]
  clear b10 I9 B9 B8 B7 B4 B1
  go_wp2_with fail

  by_cases hl400 : l.length ≤ 400
  · skip
    refine (pack_any _ l w10 (hl.below B10) hl400).mono ?_
    rintro e w11 ⟨u11, rfl, R11, b11⟩
    have B11 : Below w.heap.size w w11 := B10.trans (b11.mono B10.size)
    have Q11 : Row w.heap.size u11 (pack l) w11 := own_mono R11 B10.size
    have hpk := pack_len l hl400
    obtain ⟨a11, c11, rfl⟩ := own_row_len R11
    clear R11 b11 B10
    go_wp2_with (first | (at_builtin; refine app_bytes rfl _ _ rfl w.heap.size _ (pack l) rfl Q11 _ b rfl (hb.below B11) hbn (by omega) B11.size ?_))
    intro u12 w12 R12 b12
    have B12 : Below w.heap.size w w12 := B11.trans b12
    have U12 := unpack_any u12 _ w12 (R12.bytes (by rw [List.length_append]; omega))
    rw [unpack_pack l b hl400 hlr] at U12
    obtain ⟨a12, c12, rfl⟩ := own_row_len R12
    clear R12 b12 Q11 B11
    simp only [List.length_append] at U12 ⊢
    generalize (pack l).length = p12 at *
    go_wp2_with fail
    refine U12.mono ?_
    rintro e w13 ⟨⟨l', j, u13, h1, rfl, R13⟩ | ⟨h1, _⟩, b13⟩
    rotate_left
    · cases h1
    injection h1 with h1
    injection h1 with h1 h2
    subst h1 h2
    have B13 : Below w.heap.size w w13 := B12.trans (b13.mono B12.size)
    have I13 := R13.ints (by omega) hlr
    clear R13 b13 U12 B12
    go_wp2_with fail
    refine (ints_any _ _ l l w13 I13 (hl.below B13)).mono ?_
    rintro e w14 ⟨rfl, b14⟩
    have B14 : Below w.heap.size w w14 := B13.trans (b14.mono B13.size)
    simp only [decide_true]
    clear b14 I13 B13
    go_wp2_with fail
    refine (runs_any _ l w14 (hl.below B14) (by omega)).mono ?_
    rintro e w15 ⟨u15, p, rfl, hc, hs, hpl, hpm, R15, b15⟩
    have B15 : Below w.heap.size w w15 := B14.trans (b15.mono B14.size)
    have I15 := R15.pieces (by omega) (fun q hq => ⟨by have h1 := hc.1 q hq; have h2 := hpm q hq; unfold I64; omega, hlr _ (hs ▸ spread_mem hc q hq)⟩)
    have S15 := spread_any _ p w15 I15
    rw [spr_ok p [] hc.1 (by rw [hs]; simpa using hl400), hs, List.nil_append] at S15
    clear R15 b15 I15 hc hs hpl hpm B14
    go_wp2_with fail
    refine S15.mono ?_
    rintro e w16 ⟨⟨u16, l', h1, rfl, R16⟩ | ⟨c, h1, _⟩, b16⟩
    rotate_left
    · cases h1
    injection h1 with h1
    subst h1
    have B16 : Below w.heap.size w w16 := B15.trans (b16.mono B15.size)
    have I16 := R16.ints (by omega) hlr
    clear R16 b16 S15 B15
    go_wp2_with fail
    refine (ints_any _ _ l l w16 I16 (hl.below B16)).mono ?_
    rintro e w17 ⟨rfl, b17⟩
    have B17 : Below w.heap.size w w17 := B16.trans (b17.mono B16.size)
    simp only [decide_true]
    clear b17 I16 B16
    by_cases hf400 : f.length ≤ 400
    · have gf : (f.length : Int) ≤ 400 := by omega
      go_wp2_with fail
      refine (flags_any _ f w17 (hf.below B17) hf400).mono ?_
      rintro e w20 ⟨u20, L20, c20, rfl, F20, R20, b20⟩
      have B20 : Below w.heap.size w w20 := B17.trans (b20.mono B17.size)
      have hL20 := F20.len
      have hL21 := F20.le
      have hL22 : ∀ x ∈ L20, I64 x := fun x hx => by
        obtain ⟨i, hi, rfl⟩ := List.getElem_of_mem hx
        have h1 := F20.pos i hi
        have h2 := hL21 _ (List.getElem_mem hi)
        unfold I64
        split at h1 <;> omega
      have I20 := R20.ints (by omega) hL22
      have hun : unfl L20 = f := by rw [F20.all, List.take_of_length_le (Nat.le_refl _)]
      have hlast : L20 = [] ∨ ∃ r m, L20 = r ++ [m] ∧ 1 ≤ m := by
        rcases Nat.eq_zero_or_pos f.length with h0 | h0
        · exact Or.inl (F20.zero h0).1
        · obtain ⟨r, m, h1, h2, _⟩ := F20.cnt h0
          exact Or.inr ⟨r, m, h1, h2⟩
      have U20 := unflag_any _ L20 w20 I20 F20.pos (by rw [hun]; exact hf400) hlast
      rw [hun] at U20
      clear R20 b20 F20 hL20 hL21 hL22 I20 hun hlast
      go_wp2_with fail
      refine U20.mono ?_
      rintro e w21 ⟨u21, rfl, R21, b21⟩
      have B21 : Below w.heap.size w w21 := B20.trans (b21.mono B20.size)
      obtain ⟨a21, c21, rfl, _, _, hF3⟩ := R21.bools (by omega)
      clear R21 b21 U20 B20
      go_wp2_with fail
      go_loopw [25] (fun i wr => ∃ t : Nat, t ≤ f.length ∧ i = .int .i64 t ∧ Below w21.heap.size w21 wr) (fun i _ => f.length - (RowKit.intOf i).toNat)
      case atStart => exact ⟨0, Nat.zero_le _, rfl, Below.refl _ _⟩
      case round =>
        obtain ⟨t, ht, rfl, hbw⟩ := hrel
        have BW : Below w.heap.size w wr := B21.trans (hbw.mono B21.size)
        by_cases hlt : t < f.length
        · have hfne : f ≠ [] := fun e => by rw [e] at hlt; simp at hlt
          obtain ⟨b5, off5, rfl, h4, h5⟩ := hf3 hfne
          obtain ⟨b6, off6, rfl, h6, h7⟩ := hF3 hfne
          have x0 : wr.cell? ⟨b5, off5 + t, none⟩ = some (.bool f[t]) := by rw [BW.cell (p := ⟨b5, off5 + t, none⟩) h4]; exact h5 t hlt
          have x1 : wr.cell? ⟨b6, off6 + t, none⟩ = some (.bool f[t]) := by rw [hbw.cell (p := ⟨b6, off6 + t, none⟩) h6]; exact h7 t hlt
          have g9 : (t : Int) < f.length := by omega
          clear h5 h7 hf3 hF3
          generalize f[t] = q at *
          go_wp2
          go_quiet (fail)
          cases q
          all_goals
            go_wp2
            go_roundw
            case rel => exact ⟨t + 1, hlt, by go_num, below_drew hbw nq⟩
            case measure => simp [RowKit.intOf]; omega
        · have g9 : ¬ (t : Int) < f.length := by omega
          clear hF3 hf hf1 hf3
          go_wp2_with fail
          refine (unpack_any _ b wr (hb.below BW)).mono ?_
          rintro e w30 ⟨⟨l', j, u30, h1, rfl, R30⟩ | ⟨_, rfl⟩, b30⟩
          · obtain ⟨k1, k2, k3, k4⟩ := pack_unpack h1
            have B30 : Below w.heap.size w w30 := BW.trans (b30.mono BW.size)
            have I30 := R30.ints (by omega) k4
            have hb0 : b ≠ [] := fun e => by rw [e] at h1; cases h1
            obtain ⟨bb, off, rfl, hb4, hb5⟩ := hb3 hb0
            clear h1 R30 b30
            go_wp2_with fail
            refine (pack_any _ l' w30 I30 k2).mono ?_
            rintro e w31 ⟨u31, rfl, R31, b31⟩
            have B31 : Below w.heap.size w w31 := B30.trans (b31.mono B30.size)
            have hpne : pack l' ≠ [] := by
              unfold pack
              intro e
              exact put_ne _ (List.append_eq_nil_iff.1 e).1
            obtain ⟨g31, c31, rfl, t31⟩ := row_text R31 hpne
            have hcv1 := fun (m : Nat) => run_convert_bytes_back (P := Try.prog) (w31.drewN m) 25 9 5 ⟨g31, 0, none⟩ c31 (pack l') Try.underlying25 Try.underlying5 Try.underlying9 (fun t ht => show w31.cell? _ = _ from t31 t _ (by simp [Lib.byteCells, ht]))
            have hcv2 := fun (m : Nat) => run_convert_bytes_back (P := Try.prog) (w31.drewN m) 25 9 5 ⟨bb, off, none⟩ cb (b.take j) Try.underlying25 Try.underlying5 Try.underlying9 (fun t ht => by
              have ht' : t < b.length := by rw [List.length_take] at ht; omega
              have ea : (⟨bb, off, none⟩ : Addr).add t = ⟨bb, off + t, none⟩ := by unfold Addr.add; split <;> simp_all
              show w31.cell? _ = _
              rw [ea, B31.cell (p := ⟨bb, off + t, none⟩) hb4, hb5 t ht', List.getElem_take])
            have hj : (b.take j).length = j := by rw [List.length_take]; omega
            rw [hj] at hcv2
            rw [k1] at hcv1
            have hpl : (pack l').length = j := by rw [k1, hj]
            rw [hpl]
            rw [hj] at hcv1
            clear t31 R31 b31 k1 hj hpl hpne hb5 hb3 hb0
            generalize b.take j = T at *
            go_wp2
            go_quiet (fail)
            go_wp2
            exact bodyPost_ret (v := .bool true) (by simp [results, Try.results3, go_sem]) rfl ⟨rfl, below_drew B31 nq⟩
          · have B30 : Below w.heap.size w w30 := BW.trans (b30.mono BW.size)
            go_wp2
            go_ret
            exact ⟨rfl, B30⟩

    · have gf : ¬ (f.length : Int) ≤ 400 := by omega
      go_wp2_with fail
      clear hf hf1 hf3

      refine (unpack_any _ b w17 (hb.below B17)).mono ?_
      rintro e w30 ⟨⟨l', j, u30, h1, rfl, R30⟩ | ⟨_, rfl⟩, b30⟩
      · obtain ⟨k1, k2, k3, k4⟩ := pack_unpack h1
        have B30 : Below w.heap.size w w30 := B17.trans (b30.mono B17.size)
        have I30 := R30.ints (by omega) k4
        have hb0 : b ≠ [] := fun e => by rw [e] at h1; cases h1
        obtain ⟨bb, off, rfl, hb4, hb5⟩ := hb3 hb0
        clear h1 R30 b30
        go_wp2_with fail
        refine (pack_any _ l' w30 I30 k2).mono ?_
        rintro e w31 ⟨u31, rfl, R31, b31⟩
        have B31 : Below w.heap.size w w31 := B30.trans (b31.mono B30.size)
        have hpne : pack l' ≠ [] := by
          unfold pack
          intro e
          exact put_ne _ (List.append_eq_nil_iff.1 e).1
        obtain ⟨g31, c31, rfl, t31⟩ := row_text R31 hpne
        have hcv1 := fun (m : Nat) => run_convert_bytes_back (P := Try.prog) (w31.drewN m) 25 9 5 ⟨g31, 0, none⟩ c31 (pack l') Try.underlying25 Try.underlying5 Try.underlying9 (fun t ht => show w31.cell? _ = _ from t31 t _ (by simp [Lib.byteCells, ht]))
        have hcv2 := fun (m : Nat) => run_convert_bytes_back (P := Try.prog) (w31.drewN m) 25 9 5 ⟨bb, off, none⟩ cb (b.take j) Try.underlying25 Try.underlying5 Try.underlying9 (fun t ht => by
          have ht' : t < b.length := by rw [List.length_take] at ht; omega
          have ea : (⟨bb, off, none⟩ : Addr).add t = ⟨bb, off + t, none⟩ := by unfold Addr.add; split <;> simp_all
          show w31.cell? _ = _
          rw [ea, B31.cell (p := ⟨bb, off + t, none⟩) hb4, hb5 t ht', List.getElem_take])
        have hj : (b.take j).length = j := by rw [List.length_take]; omega
        rw [hj] at hcv2
        rw [k1] at hcv1
        have hpl : (pack l').length = j := by rw [k1, hj]
        rw [hpl]
        rw [hj] at hcv1
        clear t31 R31 b31 k1 hj hpl hpne hb5 hb3 hb0
        generalize b.take j = T at *
        go_wp2
        go_quiet (fail)
        go_wp2
        exact bodyPost_ret (v := .bool true) (by simp [results, Try.results3, go_sem]) rfl ⟨rfl, below_drew B31 nq⟩
      · have B30 : Below w.heap.size w w30 := B17.trans (b30.mono B17.size)
        go_wp2
        go_ret
        exact ⟨rfl, B30⟩

  · skip
    refine (pack_full _ l w10 (hl.below B10) (by omega)).mono ?_
    rintro e w11 ⟨rfl, b11⟩
    have B11 : Below w.heap.size w w11 := B10.trans (b11.mono B10.size)
    clear b11 B10
    by_cases hf400 : f.length ≤ 400
    · have gf : (f.length : Int) ≤ 400 := by omega
      go_wp2_with fail
      refine (flags_any _ f w11 (hf.below B11) hf400).mono ?_
      rintro e w20 ⟨u20, L20, c20, rfl, F20, R20, b20⟩
      have B20 : Below w.heap.size w w20 := B11.trans (b20.mono B11.size)
      have hL20 := F20.len
      have hL21 := F20.le
      have hL22 : ∀ x ∈ L20, I64 x := fun x hx => by
        obtain ⟨i, hi, rfl⟩ := List.getElem_of_mem hx
        have h1 := F20.pos i hi
        have h2 := hL21 _ (List.getElem_mem hi)
        unfold I64
        split at h1 <;> omega
      have I20 := R20.ints (by omega) hL22
      have hun : unfl L20 = f := by rw [F20.all, List.take_of_length_le (Nat.le_refl _)]
      have hlast : L20 = [] ∨ ∃ r m, L20 = r ++ [m] ∧ 1 ≤ m := by
        rcases Nat.eq_zero_or_pos f.length with h0 | h0
        · exact Or.inl (F20.zero h0).1
        · obtain ⟨r, m, h1, h2, _⟩ := F20.cnt h0
          exact Or.inr ⟨r, m, h1, h2⟩
      have U20 := unflag_any _ L20 w20 I20 F20.pos (by rw [hun]; exact hf400) hlast
      rw [hun] at U20
      clear R20 b20 F20 hL20 hL21 hL22 I20 hun hlast
      go_wp2_with fail
      refine U20.mono ?_
      rintro e w21 ⟨u21, rfl, R21, b21⟩
      have B21 : Below w.heap.size w w21 := B20.trans (b21.mono B20.size)
      obtain ⟨a21, c21, rfl, _, _, hF3⟩ := R21.bools (by omega)
      clear R21 b21 U20 B20
      go_wp2_with fail
      go_loopw [25] (fun i wr => ∃ t : Nat, t ≤ f.length ∧ i = .int .i64 t ∧ Below w21.heap.size w21 wr) (fun i _ => f.length - (RowKit.intOf i).toNat)
      case atStart => exact ⟨0, Nat.zero_le _, rfl, Below.refl _ _⟩
      case round =>
        obtain ⟨t, ht, rfl, hbw⟩ := hrel
        have BW : Below w.heap.size w wr := B21.trans (hbw.mono B21.size)
        by_cases hlt : t < f.length
        · have hfne : f ≠ [] := fun e => by rw [e] at hlt; simp at hlt
          obtain ⟨b5, off5, rfl, h4, h5⟩ := hf3 hfne
          obtain ⟨b6, off6, rfl, h6, h7⟩ := hF3 hfne
          have x0 : wr.cell? ⟨b5, off5 + t, none⟩ = some (.bool f[t]) := by rw [BW.cell (p := ⟨b5, off5 + t, none⟩) h4]; exact h5 t hlt
          have x1 : wr.cell? ⟨b6, off6 + t, none⟩ = some (.bool f[t]) := by rw [hbw.cell (p := ⟨b6, off6 + t, none⟩) h6]; exact h7 t hlt
          have g9 : (t : Int) < f.length := by omega
          clear h5 h7 hf3 hF3
          generalize f[t] = q at *
          go_wp2
          go_quiet (fail)
          cases q
          all_goals
            go_wp2
            go_roundw
            case rel => exact ⟨t + 1, hlt, by go_num, below_drew hbw nq⟩
            case measure => simp [RowKit.intOf]; omega
        · have g9 : ¬ (t : Int) < f.length := by omega
          clear hF3 hf hf1 hf3
          go_wp2_with fail
          refine (unpack_any _ b wr (hb.below BW)).mono ?_
          rintro e w30 ⟨⟨l', j, u30, h1, rfl, R30⟩ | ⟨_, rfl⟩, b30⟩
          · obtain ⟨k1, k2, k3, k4⟩ := pack_unpack h1
            have B30 : Below w.heap.size w w30 := BW.trans (b30.mono BW.size)
            have I30 := R30.ints (by omega) k4
            have hb0 : b ≠ [] := fun e => by rw [e] at h1; cases h1
            obtain ⟨bb, off, rfl, hb4, hb5⟩ := hb3 hb0
            clear h1 R30 b30
            go_wp2_with fail
            refine (pack_any _ l' w30 I30 k2).mono ?_
            rintro e w31 ⟨u31, rfl, R31, b31⟩
            have B31 : Below w.heap.size w w31 := B30.trans (b31.mono B30.size)
            have hpne : pack l' ≠ [] := by
              unfold pack
              intro e
              exact put_ne _ (List.append_eq_nil_iff.1 e).1
            obtain ⟨g31, c31, rfl, t31⟩ := row_text R31 hpne
            have hcv1 := fun (m : Nat) => run_convert_bytes_back (P := Try.prog) (w31.drewN m) 25 9 5 ⟨g31, 0, none⟩ c31 (pack l') Try.underlying25 Try.underlying5 Try.underlying9 (fun t ht => show w31.cell? _ = _ from t31 t _ (by simp [Lib.byteCells, ht]))
            have hcv2 := fun (m : Nat) => run_convert_bytes_back (P := Try.prog) (w31.drewN m) 25 9 5 ⟨bb, off, none⟩ cb (b.take j) Try.underlying25 Try.underlying5 Try.underlying9 (fun t ht => by
              have ht' : t < b.length := by rw [List.length_take] at ht; omega
              have ea : (⟨bb, off, none⟩ : Addr).add t = ⟨bb, off + t, none⟩ := by unfold Addr.add; split <;> simp_all
              show w31.cell? _ = _
              rw [ea, B31.cell (p := ⟨bb, off + t, none⟩) hb4, hb5 t ht', List.getElem_take])
            have hj : (b.take j).length = j := by rw [List.length_take]; omega
            rw [hj] at hcv2
            rw [k1] at hcv1
            have hpl : (pack l').length = j := by rw [k1, hj]
            rw [hpl]
            rw [hj] at hcv1
            clear t31 R31 b31 k1 hj hpl hpne hb5 hb3 hb0
            generalize b.take j = T at *
            go_wp2
            go_quiet (fail)
            go_wp2
            exact bodyPost_ret (v := .bool true) (by simp [results, Try.results3, go_sem]) rfl ⟨rfl, below_drew B31 nq⟩
          · have B30 : Below w.heap.size w w30 := BW.trans (b30.mono BW.size)
            go_wp2
            go_ret
            exact ⟨rfl, B30⟩

    · have gf : ¬ (f.length : Int) ≤ 400 := by omega
      go_wp2_with fail
      clear hf hf1 hf3

      refine (unpack_any _ b w11 (hb.below B11)).mono ?_
      rintro e w30 ⟨⟨l', j, u30, h1, rfl, R30⟩ | ⟨_, rfl⟩, b30⟩
      · obtain ⟨k1, k2, k3, k4⟩ := pack_unpack h1
        have B30 : Below w.heap.size w w30 := B11.trans (b30.mono B11.size)
        have I30 := R30.ints (by omega) k4
        have hb0 : b ≠ [] := fun e => by rw [e] at h1; cases h1
        obtain ⟨bb, off, rfl, hb4, hb5⟩ := hb3 hb0
        clear h1 R30 b30
        go_wp2_with fail
        refine (pack_any _ l' w30 I30 k2).mono ?_
        rintro e w31 ⟨u31, rfl, R31, b31⟩
        have B31 : Below w.heap.size w w31 := B30.trans (b31.mono B30.size)
        have hpne : pack l' ≠ [] := by
          unfold pack
          intro e
          exact put_ne _ (List.append_eq_nil_iff.1 e).1
        obtain ⟨g31, c31, rfl, t31⟩ := row_text R31 hpne
        have hcv1 := fun (m : Nat) => run_convert_bytes_back (P := Try.prog) (w31.drewN m) 25 9 5 ⟨g31, 0, none⟩ c31 (pack l') Try.underlying25 Try.underlying5 Try.underlying9 (fun t ht => show w31.cell? _ = _ from t31 t _ (by simp [Lib.byteCells, ht]))
        have hcv2 := fun (m : Nat) => run_convert_bytes_back (P := Try.prog) (w31.drewN m) 25 9 5 ⟨bb, off, none⟩ cb (b.take j) Try.underlying25 Try.underlying5 Try.underlying9 (fun t ht => by
          have ht' : t < b.length := by rw [List.length_take] at ht; omega
          have ea : (⟨bb, off, none⟩ : Addr).add t = ⟨bb, off + t, none⟩ := by unfold Addr.add; split <;> simp_all
          show w31.cell? _ = _
          rw [ea, B31.cell (p := ⟨bb, off + t, none⟩) hb4, hb5 t ht', List.getElem_take])
        have hj : (b.take j).length = j := by rw [List.length_take]; omega
        rw [hj] at hcv2
        rw [k1] at hcv1
        have hpl : (pack l').length = j := by rw [k1, hj]
        rw [hpl]
        rw [hj] at hcv1
        clear t31 R31 b31 k1 hj hpl hpne hb5 hb3 hb0
        generalize b.take j = T at *
        go_wp2
        go_quiet (fail)
        go_wp2
        exact bodyPost_ret (v := .bool true) (by simp [results, Try.results3, go_sem]) rfl ⟨rfl, below_drew B31 nq⟩
      · have B30 : Below w.heap.size w w30 := B11.trans (b30.mono B11.size)
        go_wp2
        go_ret
        exact ⟨rfl, B30⟩
end Go.Proofs.Yteilchcojaakiaa
