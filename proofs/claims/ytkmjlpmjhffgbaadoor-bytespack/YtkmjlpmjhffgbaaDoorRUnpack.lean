/-
  What is proved: the function Unpack of package bookref1, called with any bytes, answers as the mathematics of packed numbers says, and nothing that was there has turned.
  Conditions: the bytes lie in memory.
-/
import Derived.Test.YtkmjlpmjhffgbaaDoorPutLaw
import Derived.Test.YtkmjlpmjhffgbaaDoorUnpackEnd
namespace Go.Proofs.YtkmjlpmjhffgbaaDoor
open Go.RowKit

theorem sums_snoc (l : List Int) (x : Int) : sums (l ++ [x]) = sums l ++ [wrap64 (total l + x)] := by
  have e : sums (l ++ [x]) = (sums (l ++ [x])).take l.length ++ [(sums (l ++ [x]))[l.length]'(by rw [sums_len]; simp)] := by
    rw [← take_snoc _ _ (by rw [sums_len]; simp), List.take_of_length_le (by rw [sums_len]; simp)]
  rw [e, sums_at _ _ (by simp)]
  congr 1
  · refine List.ext_getElem (by rw [List.length_take, sums_len, sums_len, List.length_append]; omega) fun k h1 h2 => ?_
    rw [sums_len] at h2
    rw [List.getElem_take, sums_at _ k (by rw [List.length_append]; omega), sums_at l k h2, List.take_append_of_le_length (by omega), List.getElem_append_left h2]
  · simp

theorem unp_none1 {n : Nat} {b : List UInt8} {D : List Int} {i : Nat} (h : D.length < n) (hg : get (b.drop i) = none) : unp n b D i = none := by
  rw [unp_eq, if_pos h]
  have : getP (b.drop i) = none := by unfold getP; rw [hg]
  rw [this]

theorem unp_none2 {n : Nat} {b : List UInt8} {D : List Int} {i m k : Nat} (h : D.length < n) (hg : get (b.drop i) = some (m, k)) (hm : ¬ (1 ≤ m ∧ m ≤ n - D.length)) : unp n b D i = none := by
  rw [unp_eq, if_pos h]
  unfold getP
  rw [hg]
  simp only
  by_cases h1 : 1 ≤ m ∧ m ≤ 400
  · rw [if_pos h1]
    cases hg2 : get ((b.drop i).drop k) with
    | none => rfl
    | some q =>
      obtain ⟨d, j⟩ := q
      simp only
      rw [if_neg (fun h => hm ⟨h.1, h.2.1⟩)]
  · rw [if_neg h1]

theorem unp_none3 {n : Nat} {b : List UInt8} {D : List Int} {i m k : Nat} (h : D.length < n) (hg : get (b.drop i) = some (m, k)) (hg2 : get (b.drop (i + k)) = none) : unp n b D i = none := by
  rw [unp_eq, if_pos h]
  unfold getP
  rw [hg]
  simp only
  by_cases h1 : 1 ≤ m ∧ m ≤ 400
  · rw [if_pos h1, List.drop_drop, hg2]
  · rw [if_neg h1]

theorem unp_step {n : Nat} {b : List UInt8} {D : List Int} {i m k d j : Nat} (h : D.length < n) (hn : n ≤ 400) (hg : get (b.drop i) = some (m, k)) (hm : 1 ≤ m ∧ m ≤ n - D.length) (hg2 : get (b.drop (i + k)) = some (d, j)) :
    unp n b D i = if D.getLast? = some (zag d) then none else unp n b (D ++ List.replicate m (zag d)) (i + k + j) := by
  rw [unp_eq, if_pos h]
  unfold getP
  rw [hg]
  simp only
  rw [if_pos (by omega), List.drop_drop, hg2]
  simp only
  by_cases hl : D.getLast? = some (zag d)
  · rw [if_pos hl, if_neg (fun h => h.2.2 hl)]
  · rw [if_neg hl, if_pos ⟨hm.1, hm.2, hl⟩, Nat.add_assoc]

/-- What the reference answers where there is nothing. -/
abbrev noUnp : Value := .tuple #[.slice none 0 0, .int .i64 0, .bool false]

set_option maxHeartbeats 2000000 in
theorem rUnpack_no (v : Value) (b : List UInt8) (w : World) (hv : IsBytes w v b) (hn : ∀ n i, get b = some (n, i) → ¬ n ≤ 400) :
    Calls Tryd.prog 22 #[v] w fun e w' => e = .returned noUnp ∧ Below w.heap.size w w' := by
  have C := rGet_any v b w hv
  obtain ⟨a, cap, rfl, _⟩ := id hv
  cases hG : get b with
  | none =>
    rw [hG] at C
    unfold rgetV at C
    clear hn
    go_enter Tryd.func22, Tryd.ntmps22
    go_wp2_with fail
    refine C.mono ?_
    rintro e w1 ⟨rfl, b1⟩
    go_wp2
    go_returns
    exact ⟨rfl, b1⟩
  | some q =>
    obtain ⟨n, i⟩ := q
    have h4 := hn n i hG
    obtain ⟨_, hr, hk1, _, _⟩ := get_some hG
    rw [hG] at C
    unfold rgetV at C
    have q0 : ((i : Int) == 0) = false := by rw [beq_eq_false_iff_ne]; omega
    have g1 : (400 : Int) < n := by omega
    clear hn hG h4
    go_enter Tryd.func22, Tryd.ntmps22
    go_wp2_with fail
    refine C.mono ?_
    rintro e w1 ⟨rfl, b1⟩
    go_wp2
    go_returns
    exact ⟨rfl, b1⟩

set_option maxRecDepth 100000 in
set_option maxHeartbeats 8000000 in
theorem rUnpack_some (v : Value) (b : List UInt8) (n i0 : Nat) (w : World) (hv : IsBytes w v b) (hG : get b = some (n, i0)) (hn : n ≤ 400) :
    Calls Tryd.prog 22 #[v] w fun e w' => ((∃ D j u, unp n b [] i0 = some (D, j) ∧ e = .returned (.tuple #[u, .int .i64 j, .bool true]) ∧ RowI w.heap.size u (sums D) w') ∨ (unp n b [] i0 = none ∧ e = .returned noUnp)) ∧ Below w.heap.size w w' := by
  obtain ⟨t0, hi, hz0, hz1, hz2⟩ := info_parts infoI
  have C := rGet_any v b w hv
  rw [hG] at C
  unfold rgetV at C
  obtain ⟨_, _, e3, e4, e5⟩ := get_some hG
  obtain ⟨a, cap, rfl, h1, h2, h3⟩ := id hv
  obtain ⟨bb, off, rfl, h4, h5⟩ := h3 (fun e => by rw [e] at e4; simp at e4; omega)
  have q0 : ((i0 : Int) == 0) = false := by rw [beq_eq_false_iff_ne]; omega
  have q1 : ¬ (400 : Int) < n := by omega
  clear h3 h5 hG
  go_enter Tryd.func22, Tryd.ntmps22
  go_wp2_with fail
  refine C.mono ?_
  rintro e w1 ⟨rfl, b1⟩
  clear C
  go_wp2_with fail
  go_loopw [6, 7, 8, 9, 10] (fun at' o y z f wr => ∃ (i : Nat) (D : List Int), at' = .int .i64 i ∧ i ≤ b.length ∧ D.length ≤ n ∧ (∀ x ∈ D, I64 x) ∧ unp n b D i = unp n b [] i0 ∧ RowI w.heap.size o (sums D) wr ∧ y = .int .i64 (total D) ∧ z = .int .i64 (D.getLast?.getD 0) ∧ f = .bool (decide (D = [])) ∧ Below w.heap.size w wr) (fun _ o _ _ _ _ => n - lenS o)
  case atStart => exact ⟨i0, [], rfl, e4, Nat.zero_le _, by simp, rfl, World.ownsRow_nil w1 w.heap.size 3 1, rfl, rfl, rfl, b1⟩
  case round =>
    clear b1 q0
    obtain ⟨i, D, rfl, hi1, hD, hDr, hs, hh, rfl, rfl, rfl, hbel⟩ := hrel
    have hz := hbel.size
    obtain ⟨aD, cD, rfl⟩ := rowI_len hh
    rw [sums_len]
    by_cases hlt : D.length < n
    · have g1 : (D.length : Int) < n := by omega
      rcases Nat.lt_or_ge i cap with hic | hic
      · have GP := rGet_any _ _ wr ((hv.drop i hi1).below hbel)
        cases hP : get (b.drop i) with
        | none =>
          rw [hP] at GP
          unfold rgetV at GP
          rw [unp_none1 hlt hP] at hs
          have HS : Hid (unp n b [] i0 = none) := hs.symm
          clear hP hs
          go_wp2_with fail
          refine GP.mono ?_
          rintro e w2 ⟨rfl, b2⟩
          have BF : Below w.heap.size w w2 := hbel.trans (b2.mono hz)
          go_wp2
          go_returns
          exact ⟨Or.inr ⟨HS.out, rfl⟩, BF⟩
        | some q =>
          obtain ⟨m, k⟩ := q
          obtain ⟨_, hm64, hk1, hk2, _⟩ := get_some hP
          rw [List.length_drop] at hk2
          rw [hP] at GP
          unfold rgetV at GP
          have q0 : ((k : Int) == 0) = false := by rw [beq_eq_false_iff_ne]; omega
          by_cases hm : 1 ≤ m ∧ m ≤ n - D.length
          · have g2 : ¬ (m : Int) < 1 := by omega
            have g3 : ¬ (n : Int) - D.length < m := by omega
            rcases Nat.lt_or_ge (i + k) cap with hic2 | hic2
            · have GS := fun (W : World) (hW : Below w.heap.size w W) => rGetSigned_any _ _ W ((hv.drop (i + k) (by omega)).below hW)
              cases hP2 : get (b.drop (i + k)) with
              | none =>
                rw [hP2] at GS
                unfold rgetSV at GS
                rw [unp_none3 hlt hP hP2] at hs
                have HS : Hid (unp n b [] i0 = none) := hs.symm
                clear hP hP2 hs
                go_wp2_with fail
                refine GP.mono ?_
                rintro e w2 ⟨rfl, b2⟩
                have B2 : Below w.heap.size w w2 := hbel.trans (b2.mono hz)
                clear GP b2
                go_wp2_with fail
                refine (GS _ B2).mono ?_
                rintro e w3 ⟨rfl, b3⟩
                have BF : Below w.heap.size w w3 := B2.trans (b3.mono B2.size)
                go_wp2
                go_returns
                exact ⟨Or.inr ⟨HS.out, rfl⟩, BF⟩
              | some q =>
                obtain ⟨d, j⟩ := q
                obtain ⟨_, hd64, hj1, hj2, _⟩ := get_some hP2
                rw [List.length_drop] at hj2
                have hd := zag_range hd64
                rw [hP2] at GS
                unfold rgetSV at GS
                rw [unp_step hlt hn hP hm hP2] at hs
                have q2 : ((j : Int) == 0) = false := by rw [beq_eq_false_iff_ne]; omega
                clear hP hP2
                obtain ⟨x, hx⟩ : ∃ x, zag d = x := ⟨_, rfl⟩
                simp only [hx] at GS hs hd
                clear hx
                by_cases hl : D.getLast? = some x
                · rw [if_pos hl] at hs
                  have HS : Hid (unp n b [] i0 = none) := hs.symm
                  have hD0 : decide (D = []) = false := by
                    rw [decide_eq_false_iff_not]
                    intro e
                    rw [e] at hl
                    cases hl
                  rw [hl, hD0]
                  clear hs hl hD0
                  go_wp2_with fail
                  refine GP.mono ?_
                  rintro e w2 ⟨rfl, b2⟩
                  have B2 : Below w.heap.size w w2 := hbel.trans (b2.mono hz)
                  clear GP b2
                  go_wp2_with fail
                  refine (GS _ B2).mono ?_
                  rintro e w3 ⟨rfl, b3⟩
                  have BF : Below w.heap.size w w3 := B2.trans (b3.mono B2.size)
                  go_wp2
                  go_returns
                  exact ⟨Or.inr ⟨HS.out, rfl⟩, BF⟩
                · rw [if_neg hl] at hs
                  have HS : Hid (unp n b (D ++ List.replicate m x) (i + k + j) = unp n b [] i0) := hs
                  obtain ⟨f, y, hf, hy, hfy⟩ : ∃ (f : Bool) (y : Int), decide (D = []) = f ∧ D.getLast?.getD 0 = y ∧ (f = true ∨ (f = false ∧ (x == y) = false)) := by
                    refine ⟨_, _, rfl, rfl, ?_⟩
                    by_cases h0 : D = []
                    · exact Or.inl (decide_eq_true h0)
                    · refine Or.inr ⟨decide_eq_false h0, ?_⟩
                      rw [beq_eq_false_iff_ne]
                      intro e
                      rw [List.getLast?_eq_some_getLast h0] at hl e
                      exact hl (by rw [e]; rfl)
                  rw [hf, hy]
                  have HH : Hid (RowI w.heap.size (.slice aD D.length cD) (sums D) wr) := by rw [sums_len] at hh; exact hh
                  clear hs hl hf hy hh
                  go_wp2_with fail
                  refine GP.mono ?_
                  rintro e w2 ⟨rfl, b2⟩
                  have B2 : Below w.heap.size w w2 := hbel.trans (b2.mono hz)
                  have H2 : Hid (RowI w.heap.size (.slice aD D.length cD) (sums D) w2) := own_below HH.out b2 (Nat.le_refl _)
                  clear GP b2 HH
                  go_wp2_with fail
                  refine (GS _ B2).mono ?_
                  rintro e w3 ⟨rfl, b3⟩
                  have B3 : Below w.heap.size w w3 := B2.trans (b3.mono B2.size)
                  have H3 : Hid (RowI w.heap.size (.slice aD D.length cD) (sums D) w3) := own_below H2.out b3 (Nat.le_refl _)
                  clear GS b3 H2
                  rcases hfy with rfl | ⟨rfl, hfy⟩
                  · go_wp2_with fail
                    go_loopw [7, 8, 14] (fun o y t' w4 => ∃ t : Nat, t ≤ m ∧ t' = .int .i64 t ∧ y = .int .i64 (total (D ++ List.replicate t x)) ∧ RowI w.heap.size o (sums (D ++ List.replicate t x)) w4 ∧ Below w.heap.size w w4) (fun _ _ t' _ => m - (RowKit.intOf t').toNat)
                    case atStart => exact ⟨0, Nat.zero_le _, rfl, by simp, by simpa using H3.out, B3⟩
                    case round =>
                      clear H3 B3 B2 hbel
                      obtain ⟨t, ht, rfl, rfl, hh, hb2⟩ := hrel
                      have hzb := hb2.size
                      have hl := rowI_len hh
                      by_cases hlm : t < m
                      · have g4 : (t : Int) < m := by omega
                        have HT : Hid (sums (D ++ List.replicate (t + 1) x) = sums (D ++ List.replicate t x) ++ [wrap64 (total (D ++ List.replicate t x) + x)]) := by
                          show _ = _
                          rw [List.replicate_succ', ← List.append_assoc, sums_snoc]
                        have HS2 : Hid (total (D ++ List.replicate (t + 1) x) = wrap64 (total (D ++ List.replicate t x) + x)) := by
                          show total _ = _
                          rw [List.replicate_succ', ← List.append_assoc, total_snoc]
                        have hQ : (sums (D ++ List.replicate t x)).length ≤ 400 := by rw [sums_len, List.length_append, List.length_replicate]; omega
                        generalize hw : wrap64 (total (D ++ List.replicate t x) + x) = y2 at *
                        generalize sums (D ++ List.replicate t x) = Q at *
                        go_wp2_with (first | (at_builtin; refine wpList_append_own _ rfl _ _ 38 rfl w.heap.size 3 t0 (.int .i64 0) 1 8 Tryd.underlying38 hi hz0 hz1 hz2 rfl (by decide) _ _ _ rfl (hh.alloc _) ⟨wr.heap.size, 0, none⟩ 1 1 (intCells [y2]) rfl rfl ?c1 ?c2 ?c3 ?c4 ?c5 ?_))
                        case c1 =>
                          intro j u hj
                          match j, hj with
                          | 0, hj => simp at hj; subst hj; simp [Addr.add]
                        case c2 => intro u hu; simp at hu; subst hu; rfl
                        case c3 => unfold maxLen; omega
                        case c4 => omega
                        case c5 => simp; omega
                        intro v2 w5 hown hgrow _
                        obtain ⟨R2, B2⟩ := rowI_grown (m := [y2]) hh hb2 hzb hgrow hown
                        clear hown hgrow
                        go_wp2
                        go_roundw
                        case rel => exact ⟨t + 1, hlm, by go_num, by rw [HS2.out], by rw [HT.out]; exact R2, B2⟩
                        case measure => simp [RowKit.intOf]; omega
                      · have hte : t = m := by omega
                        subst hte
                        have g4 : ¬ (t : Int) < t := by omega
                        have HQ : Hid ((D ++ List.replicate t x).length = D.length + t) := by show _ = _; rw [List.length_append, List.length_replicate]
                        have HR : Hid (∀ y ∈ D ++ List.replicate t x, I64 y) := by
                          intro y hy
                          rcases List.mem_append.1 hy with h1 | h1
                          · exact hDr y h1
                          · rw [(List.mem_replicate.1 h1).2]; exact hd
                        have HL : Hid ((D ++ List.replicate t x).getLast?.getD 0 = x) := by
                          show _ = _
                          obtain ⟨t', rfl⟩ : ∃ t', t = t' + 1 := ⟨t - 1, by omega⟩
                          rw [List.replicate_succ', ← List.append_assoc, List.getLast?_append]
                          simp
                        have HN : Hid (decide (D ++ List.replicate t x = []) = false) := by
                          show _ = _
                          rw [decide_eq_false_iff_not]
                          intro e
                          have := congrArg List.length e
                          rw [List.length_append, List.length_replicate, List.length_nil] at this
                          omega
                        generalize D ++ List.replicate t x = Q at *
                        obtain ⟨aQ, cQ, rfl⟩ := hl
                        rw [sums_len] at hh
                        go_wp2_with fail
                        go_roundw
                        case rel => exact ⟨i + k + j, Q, by go_num, by omega, by have := HQ.out; omega, HR.out, HS.out, by rw [sums_len]; exact hh, rfl, by rw [HL.out], by rw [HN.out], hb2⟩
                        case measure => simp only [lenS, sums_len]; have := HQ.out; omega
                  · go_wp2_with fail
                    go_loopw [7, 8, 14] (fun o y t' w4 => ∃ t : Nat, t ≤ m ∧ t' = .int .i64 t ∧ y = .int .i64 (total (D ++ List.replicate t x)) ∧ RowI w.heap.size o (sums (D ++ List.replicate t x)) w4 ∧ Below w.heap.size w w4) (fun _ _ t' _ => m - (RowKit.intOf t').toNat)
                    case atStart => exact ⟨0, Nat.zero_le _, rfl, by simp, by simpa using H3.out, B3⟩
                    case round =>
                      clear H3 B3 B2 hbel
                      obtain ⟨t, ht, rfl, rfl, hh, hb2⟩ := hrel
                      have hzb := hb2.size
                      have hl := rowI_len hh
                      by_cases hlm : t < m
                      · have g4 : (t : Int) < m := by omega
                        have HT : Hid (sums (D ++ List.replicate (t + 1) x) = sums (D ++ List.replicate t x) ++ [wrap64 (total (D ++ List.replicate t x) + x)]) := by
                          show _ = _
                          rw [List.replicate_succ', ← List.append_assoc, sums_snoc]
                        have HS2 : Hid (total (D ++ List.replicate (t + 1) x) = wrap64 (total (D ++ List.replicate t x) + x)) := by
                          show total _ = _
                          rw [List.replicate_succ', ← List.append_assoc, total_snoc]
                        have hQ : (sums (D ++ List.replicate t x)).length ≤ 400 := by rw [sums_len, List.length_append, List.length_replicate]; omega
                        generalize hw : wrap64 (total (D ++ List.replicate t x) + x) = y2 at *
                        generalize sums (D ++ List.replicate t x) = Q at *
                        go_wp2_with (first | (at_builtin; refine wpList_append_own _ rfl _ _ 38 rfl w.heap.size 3 t0 (.int .i64 0) 1 8 Tryd.underlying38 hi hz0 hz1 hz2 rfl (by decide) _ _ _ rfl (hh.alloc _) ⟨wr.heap.size, 0, none⟩ 1 1 (intCells [y2]) rfl rfl ?c1 ?c2 ?c3 ?c4 ?c5 ?_))
                        case c1 =>
                          intro j u hj
                          match j, hj with
                          | 0, hj => simp at hj; subst hj; simp [Addr.add]
                        case c2 => intro u hu; simp at hu; subst hu; rfl
                        case c3 => unfold maxLen; omega
                        case c4 => omega
                        case c5 => simp; omega
                        intro v2 w5 hown hgrow _
                        obtain ⟨R2, B2⟩ := rowI_grown (m := [y2]) hh hb2 hzb hgrow hown
                        clear hown hgrow
                        go_wp2
                        go_roundw
                        case rel => exact ⟨t + 1, hlm, by go_num, by rw [HS2.out], by rw [HT.out]; exact R2, B2⟩
                        case measure => simp [RowKit.intOf]; omega
                      · have hte : t = m := by omega
                        subst hte
                        have g4 : ¬ (t : Int) < t := by omega
                        have HQ : Hid ((D ++ List.replicate t x).length = D.length + t) := by show _ = _; rw [List.length_append, List.length_replicate]
                        have HR : Hid (∀ y ∈ D ++ List.replicate t x, I64 y) := by
                          intro y hy
                          rcases List.mem_append.1 hy with h1 | h1
                          · exact hDr y h1
                          · rw [(List.mem_replicate.1 h1).2]; exact hd
                        have HL : Hid ((D ++ List.replicate t x).getLast?.getD 0 = x) := by
                          show _ = _
                          obtain ⟨t', rfl⟩ : ∃ t', t = t' + 1 := ⟨t - 1, by omega⟩
                          rw [List.replicate_succ', ← List.append_assoc, List.getLast?_append]
                          simp
                        have HN : Hid (decide (D ++ List.replicate t x = []) = false) := by
                          show _ = _
                          rw [decide_eq_false_iff_not]
                          intro e
                          have := congrArg List.length e
                          rw [List.length_append, List.length_replicate, List.length_nil] at this
                          omega
                        generalize D ++ List.replicate t x = Q at *
                        obtain ⟨aQ, cQ, rfl⟩ := hl
                        rw [sums_len] at hh
                        go_wp2_with fail
                        go_roundw
                        case rel => exact ⟨i + k + j, Q, by go_num, by omega, by have := HQ.out; omega, HR.out, HS.out, by rw [sums_len]; exact hh, rfl, by rw [HL.out], by rw [HN.out], hb2⟩
                        case measure => simp only [lenS, sums_len]; have := HQ.out; omega
            · have hcap : i + k = cap := by omega
              have hl1 : cap - (i + k) = 0 := by omega
              have hd : b.drop (i + k) = [] := List.drop_eq_nil_of_le (by omega)
              have hl0 : b.length - (i + k) = 0 := by omega
              have GS := fun (W : World) => rGetSigned_any (.slice (some ⟨bb, off, none⟩) 0 0) [] W (isBytes_nil W _ 0)
              rw [get_nil] at GS
              unfold rgetSV at GS
              rw [unp_none3 hlt hP (by rw [hd]; exact get_nil)] at hs
              have HS : Hid (unp n b [] i0 = none) := hs.symm
              clear hP hs hd
              go_wp2_with fail
              refine GP.mono ?_
              rintro e w2 ⟨rfl, b2⟩
              have B2 : Below w.heap.size w w2 := hbel.trans (b2.mono hz)
              clear GP b2
              go_wp2_with fail
              refine (GS _).mono ?_
              rintro e w3 ⟨rfl, b3⟩
              have BF : Below w.heap.size w w3 := B2.trans (b3.mono B2.size)
              go_wp2
              go_returns
              exact ⟨Or.inr ⟨HS.out, rfl⟩, BF⟩
          · rw [unp_none2 hlt hP hm] at hs
            have HS : Hid (unp n b [] i0 = none) := hs.symm
            clear hP hs
            by_cases hm1 : 1 ≤ m
            · have g2 : ¬ (m : Int) < 1 := by omega
              have g3 : (n : Int) - D.length < m := by omega
              go_wp2_with fail
              refine GP.mono ?_
              rintro e w2 ⟨rfl, b2⟩
              have BF : Below w.heap.size w w2 := hbel.trans (b2.mono hz)
              go_wp2
              go_returns
              exact ⟨Or.inr ⟨HS.out, rfl⟩, BF⟩
            · have g2 : (m : Int) < 1 := by omega
              go_wp2_with fail
              refine GP.mono ?_
              rintro e w2 ⟨rfl, b2⟩
              have BF : Below w.heap.size w w2 := hbel.trans (b2.mono hz)
              go_wp2
              go_returns
              exact ⟨Or.inr ⟨HS.out, rfl⟩, BF⟩
      · obtain rfl : cap = i := by omega
        have hd : b.drop cap = [] := List.drop_eq_nil_of_le (by omega)
        have hl0 : b.length - cap = 0 := by omega
        have GP := rGet_any (.slice (some ⟨bb, off, none⟩) 0 0) [] wr (isBytes_nil wr _ 0)
        rw [get_nil] at GP
        unfold rgetV at GP
        rw [unp_none1 hlt (by rw [hd]; exact get_nil)] at hs
        have HS : Hid (unp n b [] i0 = none) := hs.symm
        clear hs hd
        go_wp2_with fail
        refine GP.mono ?_
        rintro e w2 ⟨rfl, b2⟩
        have BF : Below w.heap.size w w2 := hbel.trans (b2.mono hz)
        go_wp2
        go_returns
        exact ⟨Or.inr ⟨HS.out, rfl⟩, BF⟩
    · rw [unp_eq, if_neg hlt] at hs
      have HS : Hid (unp n b [] i0 = some (D, i)) := hs.symm
      have g1 : ¬ (D.length : Int) < n := by omega
      rw [sums_len] at hh
      clear hs
      go_wp2
      go_returns
      exact ⟨Or.inl ⟨D, i, HS.out, _, rfl, hh⟩, hbel⟩

/-- Unpack of the reference, of any bytes. -/
theorem rUnpack_any (v : Value) (b : List UInt8) (w : World) (hv : IsBytes w v b) :
    Calls Tryd.prog 22 #[v] w fun e w' => ((∃ l j u, unpack b = some (l, j) ∧ e = .returned (.tuple #[u, .int .i64 (j : Nat), .bool true]) ∧ RowI w.heap.size u l w') ∨ (unpack b = none ∧ e = .returned noUnp)) ∧ Below w.heap.size w w' := by
  cases hG : get b with
  | none =>
    refine (rUnpack_no v b w hv (fun n i h => by rw [hG] at h; cases h)).mono fun e w' ⟨he, hb⟩ => ⟨Or.inr ⟨?_, he⟩, hb⟩
    unfold unpack
    rw [hG]
  | some q =>
    obtain ⟨n, i⟩ := q
    by_cases hn : n ≤ 400
    · refine (rUnpack_some v b n i w hv hG hn).mono ?_
      rintro e w' ⟨⟨D, j, u, h1, h2, h3⟩ | ⟨h1, h2⟩, hb⟩
      · refine ⟨Or.inl ⟨sums D, j, u, ?_, h2, h3⟩, hb⟩
        unfold unpack
        rw [hG]
        simp only
        rw [if_pos hn, h1]
      · refine ⟨Or.inr ⟨?_, h2⟩, hb⟩
        unfold unpack
        rw [hG]
        simp only
        rw [if_pos hn, h1]
    · refine (rUnpack_no v b w hv (fun n' i' h => by rw [hG] at h; injection h with h; injection h with h1 h2; omega)).mono fun e w' ⟨he, hb⟩ => ⟨Or.inr ⟨?_, he⟩, hb⟩
      unfold unpack
      rw [hG]
      simp only
      rw [if_neg hn]
end Go.Proofs.YtkmjlpmjhffgbaaDoor
