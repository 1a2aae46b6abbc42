/-
  What is proved: the function Pack of package bookref1, called with any numbers, returns their bytes, and nothing that was there has turned.
  Conditions: the list lies in memory, and has at most 400 numbers.
-/
import Derived.Test.YtkmjlpmjhffgbaaDoorPackWalk
import Derived.Test.YtkmjlpmjhffgbaaDoorRPutWalk
namespace Go.Proofs.YtkmjlpmjhffgbaaDoor
open Go.RowKit

/-- The pieces of the first so many differences, of which the next is another one. -/
structure Cutp (l : List Int) (k : Nat) (p : List Pc) : Prop where
  canon : Canon p
  all : spread p = (deltas l).take k
  next : ∀ q, p.getLast? = some q → ∀ (h : k < (deltas l).length), q.2 ≠ (deltas l)[k]
  many : ∀ q ∈ p, q.1 ≤ 400 ∧ I64 q.2
  len : p.length ≤ k

theorem Cutp.start (l : List Int) : Cutp l 0 [] := ⟨⟨by simp, by simp⟩, by simp [spread], by simp, by simp, by simp⟩

theorem Cutp.more {l : List Int} {k t : Nat} {p : List Pc} {d : Int} (h : Cutp l k p) (hl : l.length ≤ 400) (ht : 1 ≤ t) (hk : k + t ≤ l.length) (hd : ∃ (h : k < (deltas l).length), (deltas l)[k] = d) (he : (deltas l).take (k + t) = (deltas l).take k ++ List.replicate t d)
    (hn : ∀ (h : k + t < (deltas l).length), (deltas l)[k + t] ≠ d) : Cutp l (k + t) (p ++ [((t : Int), d)]) := by
  obtain ⟨hd1, hd2⟩ := hd
  refine ⟨canon_snoc h.canon (by omega) (fun q hq => ?_), ?_, fun q hq h1 => ?_, fun q hq => ?_, by have := h.len; simp; omega⟩
  · rw [← hd2]; exact h.next q hq hd1
  · rw [spread_snoc, h.all, he, Int.toNat_natCast]
  · rw [List.getLast?_append] at hq
    simp at hq
    subst hq
    exact fun e => hn h1 e.symm
  · rcases List.mem_append.1 hq with h2 | h2
    · exact h.many q h2
    · rw [List.mem_singleton.1 h2]
      refine ⟨by simp; omega, ?_⟩
      simp only
      rw [← hd2]
      exact deltas_range l _ (List.getElem_mem hd1)

theorem Cutp.done {l : List Int} {p : List Pc} (h : Cutp l l.length p) : put l.length ++ enc p = pack l := by
  unfold pack
  have e := h.all
  rw [List.take_of_length_le (by rw [deltas_len]; exact Nat.le_refl _)] at e
  rw [← rn_unique h.canon e]

set_option maxRecDepth 100000 in
set_option maxHeartbeats 4000000 in
theorem rPack_any (v : Value) (l : List Int) (w : World) (hv : IsInts w v l) (hl : l.length ≤ 400) :
    Calls Tryd.prog 20 #[v] w fun e w' => ∃ u, e = .returned u ∧ Row w.heap.size u (pack l) w' ∧ Below w.heap.size w w' := by
  obtain ⟨i0, hi, hz0, hz1, hz2⟩ := info_parts infoB
  have P0 := rPut_any l.length w (by omega)
  obtain ⟨a, cap, rfl, h1, h2, hr, h3⟩ := id hv
  go_enter Tryd.func20, Tryd.ntmps20
  go_wp2_with fail
  refine P0.mono ?_
  rintro e w1 ⟨u1, rfl, R1, b1⟩
  clear P0
  have hpl10 := put_len10 (n := l.length) (by omega)
  go_wp2_with fail
  go_loopw [3, 4, 5] (fun o i y wr => ∃ (k : Nat) (p : List Pc), k ≤ l.length ∧ i = .int .i64 k ∧ y = .int .i64 (prev l k) ∧ Cutp l k p ∧ Row w.heap.size o (put l.length ++ enc p) wr ∧ Below w.heap.size w wr) (fun _ i _ _ => l.length - (RowKit.intOf i).toNat)
  case atStart => exact ⟨0, [], Nat.zero_le _, rfl, rfl, Cutp.start l, by simpa [enc] using R1, b1⟩
  case round =>
    clear R1 b1
    obtain ⟨k, p, hk, rfl, rfl, hp, hh, hbel⟩ := hrel
    have hz := hbel.size
    by_cases hlt : k < l.length
    · obtain ⟨b, off, rfl, h4, h5⟩ := h3 (fun e => by rw [e] at hlt; simp at hlt)
      have CL : Hid (∀ j (hj : j < l.length), wr.cell? ⟨b, off + j, none⟩ = some (.int .i64 l[j])) := fun j hj => by rw [hbel.cell (p := ⟨b, off + j, none⟩) h4]; exact h5 j hj
      have x0 := CL.out k hlt
      have g1 : (k : Int) < l.length := by omega
      have hd := deltas_at l k hlt
      have HD : Hid (∃ (h : k < (deltas l).length), (deltas l)[k] = wrap64 (l[k] - prev l k)) := ⟨by rw [deltas_len]; exact hlt, hd⟩
      have hdr : I64 (wrap64 (l[k] - prev l k)) := i64_wrap _
      generalize hx : wrap64 (l[k] - prev l k) = d at *
      have HP : Hid (Cutp l k p) := hp
      have hL : (put l.length ++ enc p).length ≤ 9000 := by
        have h1 := enc_len p (fun q h => ⟨by have := hp.canon.1 q h; omega, hp.many q h⟩)
        have h2 := hp.len
        rw [List.length_append]
        omega
      clear h5 hp
      go_wp2_with fail
      go_loop [4, 5, 7] (fun i y n => ∃ t : Nat, k + t ≤ l.length ∧ i = .int .i64 (k + t : Nat) ∧ y = .int .i64 (prev l (k + t)) ∧ n = .int .i64 t ∧ (deltas l).take (k + t) = (deltas l).take k ++ List.replicate t d) (fun i _ _ => l.length - (RowKit.intOf i).toNat)
      case atStart => exact ⟨0, by omega, by simp, rfl, rfl, by simp⟩
      case round =>
        obtain ⟨t, htl, rfl, rfl, rfl, hte⟩ := hrel
        by_cases hgo : k + t < l.length ∧ ∃ (h : k + t < (deltas l).length), (deltas l)[k + t] = d
        · obtain ⟨hg1, hg2, hg3⟩ := hgo
          have x1 := CL.out (k + t) hg1
          have HT : Hid ((deltas l).take (k + (t + 1)) = (deltas l).take k ++ List.replicate (t + 1) d) := by
            show _ = _
            rw [← Nat.add_assoc, take_snoc _ _ hg2, hte, hg3, List.replicate_succ', List.append_assoc]
          have HV : Hid (prev l (k + (t + 1)) = l[k + t]) := prev_succ l (k + t) hg1
          have g2 : ((k + t : Nat) : Int) < l.length := by omega
          have g3 : wrap64 (l[k + t] - prev l (k + t)) = d := by rw [← deltas_at l (k + t) hg1]; exact hg3
          have g4 : (wrap64 (l[k + t] - prev l (k + t)) == d) = true := by rw [g3]; simp
          clear hte hg3 HD
          generalize l[k + t] = y at *
          generalize prev l (k + t) = z at *
          have HK : Hid (((k + t : Nat) : Int) + 1 = ((k + (t + 1) : Nat) : Int)) := by show _ = _; omega
          go_wp2_with fail
          go_round
          case rel => exact ⟨_, _, _, ⟨t + 1, by omega, rfl, rfl, rfl, HT.out⟩, by go_num, by rw [HV.out], by go_num⟩
          case measure => simp [RowKit.intOf]; omega
        · have ht1 : 1 ≤ t := by
            rcases Nat.eq_zero_or_pos t with e | e
            · subst e
              exact absurd ⟨hlt, HD.out⟩ hgo
            · exact e
          have HC : Hid (Cutp l (k + t) (p ++ [((t : Int), d)])) := HP.out.more hl ht1 htl HD.out hte (fun h e => hgo ⟨by rw [deltas_len] at h; exact h, h, e⟩)
          have HE : Hid (put l.length ++ enc (p ++ [((t : Int), d)]) = (put l.length ++ enc p) ++ put t ++ put (zig d)) := by
            show _ = _
            rw [enc_snoc]
            simp
          have hMl := put_len10 (n := t) (by omega)
          have hXl := put_len10 (zig_lt hdr.1 hdr.2)
          generalize put l.length ++ enc p = L at *
          by_cases hg1 : k + t < l.length
          · have x1 := CL.out (k + t) hg1
            have g2 : ((k + t : Nat) : Int) < l.length := by omega
            have g4 : (wrap64 (l[k + t] - prev l (k + t)) == d) = false := by
              rw [beq_eq_false_iff_ne]
              intro e
              exact hgo ⟨hg1, by rw [deltas_len]; exact hg1, by rw [deltas_at l (k + t) hg1]; exact e⟩
            clear hte hgo HD CL hd
            generalize l[k + t] = y at *
            generalize hzz : prev l (k + t) = z at *
            have HV : Hid (prev l (k + t) = z) := hzz
            clear hzz
            go_wp2_with fail
            refine (rPut_any t _ (by omega)).mono ?_
            rintro e w4 ⟨v4, rfl, R4, b4⟩
            obtain ⟨g4, c4, rfl, t4⟩ := row_text R4 (put_ne _)
            have hh4 : Row w.heap.size _ L w4 := own_below hh b4 (Nat.le_refl _)
            have hbel4 : Below w.heap.size w w4 := hbel.trans (b4.mono hbel.size)
            have hz4 := hbel4.size
            clear b4 R4
            go_wp2_with (first | (at_builtin; refine wpList_append_own _ rfl _ _ 23 rfl w.heap.size 5 i0 (.int .u8 0) 1 1 Tryd.underlying23 hi hz0 hz1 hz2 rfl (by decide) _ _ _ rfl hh4 ⟨g4, 0, none⟩ _ _ (Lib.byteCells (put t)) rfl (cells_len _) t4 (one_cell _) ?c3 ?c4 ?c5 ?_))
            case c3 => unfold maxLen; omega
            case c4 => omega
            case c5 => omega
            intro v5 w5 hown hgrow _
            obtain ⟨R5, B5⟩ := row_grown0 (m := put t) hh4 hbel4 hz4 hgrow hown
            have hL5 : (L ++ put t).length ≤ 9010 := by rw [List.length_append]; omega
            clear hown hgrow t4 hh4 hbel4
            generalize L ++ put t = L5 at *
            go_wp2_with fail
            refine (rPutSigned_any d _ hdr.1 hdr.2).mono ?_
            rintro e w6 ⟨v6, rfl, R6, b6⟩
            obtain ⟨g6, c6, rfl, t6⟩ := row_text R6 (put_ne _)
            have hh6 : Row w.heap.size _ L5 w6 := own_below R5 b6 (Nat.le_refl _)
            have hbel6 : Below w.heap.size w w6 := B5.trans (b6.mono B5.size)
            have hz6 := hbel6.size
            clear R5 R6 b6 B5
            go_wp2_with (first | (at_builtin; refine wpList_append_own _ rfl _ _ 23 rfl w.heap.size 5 i0 (.int .u8 0) 1 1 Tryd.underlying23 hi hz0 hz1 hz2 rfl (by decide) _ _ _ rfl hh6 ⟨g6, 0, none⟩ _ _ (Lib.byteCells (put (zig d))) rfl (cells_len _) t6 (one_cell _) ?c3 ?c4 ?c5 ?_))
            case c3 => unfold maxLen; omega
            case c4 => omega
            case c5 => omega
            intro v7 w7 hown hgrow _
            obtain ⟨R7, B7⟩ := row_grown0 (m := put (zig d)) hh6 hbel6 hz6 hgrow hown
            clear hown hgrow t6 hh6 hbel6
            go_wp2_with fail
            go_roundw
            case rel => exact ⟨k + t, p ++ [((t : Int), d)], htl, by go_num, by rw [HV.out], HC.out, by rw [HE.out]; exact R7, B7⟩
            case measure => simp [RowKit.intOf]; omega
          · have g2 : ¬ ((k + t : Nat) : Int) < l.length := by omega
            clear hte hgo HD CL hd
            generalize hzz : prev l (k + t) = z at *
            have HV : Hid (prev l (k + t) = z) := hzz
            clear hzz
            go_wp2_with fail
            refine (rPut_any t _ (by omega)).mono ?_
            rintro e w4 ⟨v4, rfl, R4, b4⟩
            obtain ⟨g4, c4, rfl, t4⟩ := row_text R4 (put_ne _)
            have hh4 : Row w.heap.size _ L w4 := own_below hh b4 (Nat.le_refl _)
            have hbel4 : Below w.heap.size w w4 := hbel.trans (b4.mono hbel.size)
            have hz4 := hbel4.size
            clear b4 R4
            go_wp2_with (first | (at_builtin; refine wpList_append_own _ rfl _ _ 23 rfl w.heap.size 5 i0 (.int .u8 0) 1 1 Tryd.underlying23 hi hz0 hz1 hz2 rfl (by decide) _ _ _ rfl hh4 ⟨g4, 0, none⟩ _ _ (Lib.byteCells (put t)) rfl (cells_len _) t4 (one_cell _) ?c3 ?c4 ?c5 ?_))
            case c3 => unfold maxLen; omega
            case c4 => omega
            case c5 => omega
            intro v5 w5 hown hgrow _
            obtain ⟨R5, B5⟩ := row_grown0 (m := put t) hh4 hbel4 hz4 hgrow hown
            have hL5 : (L ++ put t).length ≤ 9010 := by rw [List.length_append]; omega
            clear hown hgrow t4 hh4 hbel4
            generalize L ++ put t = L5 at *
            go_wp2_with fail
            refine (rPutSigned_any d _ hdr.1 hdr.2).mono ?_
            rintro e w6 ⟨v6, rfl, R6, b6⟩
            obtain ⟨g6, c6, rfl, t6⟩ := row_text R6 (put_ne _)
            have hh6 : Row w.heap.size _ L5 w6 := own_below R5 b6 (Nat.le_refl _)
            have hbel6 : Below w.heap.size w w6 := B5.trans (b6.mono B5.size)
            have hz6 := hbel6.size
            clear R5 R6 b6 B5
            go_wp2_with (first | (at_builtin; refine wpList_append_own _ rfl _ _ 23 rfl w.heap.size 5 i0 (.int .u8 0) 1 1 Tryd.underlying23 hi hz0 hz1 hz2 rfl (by decide) _ _ _ rfl hh6 ⟨g6, 0, none⟩ _ _ (Lib.byteCells (put (zig d))) rfl (cells_len _) t6 (one_cell _) ?c3 ?c4 ?c5 ?_))
            case c3 => unfold maxLen; omega
            case c4 => omega
            case c5 => omega
            intro v7 w7 hown hgrow _
            obtain ⟨R7, B7⟩ := row_grown0 (m := put (zig d)) hh6 hbel6 hz6 hgrow hown
            clear hown hgrow t6 hh6 hbel6
            go_wp2_with fail
            go_roundw
            case rel => exact ⟨k + t, p ++ [((t : Int), d)], htl, by go_num, by rw [HV.out], HC.out, by rw [HE.out]; exact R7, B7⟩
            case measure => simp [RowKit.intOf]; omega
    · have hke : k = l.length := by omega
      subst hke
      rw [hp.done] at hh
      have g1 : ¬ (l.length : Int) < l.length := by omega
      clear h3
      generalize prev l l.length = y at *
      go_wp2
      go_ret
      exact ⟨_, rfl, hh, hbel⟩
end Go.Proofs.YtkmjlpmjhffgbaaDoor
