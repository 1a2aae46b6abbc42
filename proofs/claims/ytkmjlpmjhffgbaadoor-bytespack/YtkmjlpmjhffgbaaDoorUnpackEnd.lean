/-
  What is proved: the function Unpack of package bytes, called with any bytes, answers as it should, and nothing that was there has turned.
  Conditions: the bytes lie in memory.
-/
import Derived.Test.YtkmjlpmjhffgbaaDoorUnpackWalk
import Derived.Test.YtkmjlpmjhffgbaaDoorGoesOn
namespace Go.Proofs.YtkmjlpmjhffgbaaDoor
open Go.RowKit

set_option maxHeartbeats 2000000 in
theorem unpack_no (v : Value) (b : List UInt8) (w : World) (hv : IsBytes w v b) (hn : ∀ n i, get b = some (n, i) → ¬ n ≤ 400) :
    Calls Tryd.prog 23 #[v] w fun e w' => e = .returned (.tuple #[.slice none 0 0, .int .i64 0, .iface 66 (.int .i64 9)]) ∧ Below w.heap.size w w' := by
  have C := getCount_any v b w hv
  have hC : cntV (get b) = .tuple #[.int .i64 0, .int .i64 0, .iface 66 (.int .i64 9)] := by
    unfold cntV
    cases hG : get b with
    | none => rfl
    | some q => obtain ⟨n, i⟩ := q; simp only [hn n i hG, if_false]
  rw [hC] at C
  obtain ⟨a, cap, rfl, _⟩ := id hv
  clear hC hn
  go_enter Tryd.func23, Tryd.ntmps23
  go_wp2_with fail
  refine C.mono ?_
  rintro e w1 ⟨rfl, b1⟩
  go_wp2
  go_returns
  exact ⟨rfl, b1⟩

/-- How long a slice is. -/
def lenS : Value → Nat | .slice _ n _ => n | _ => 0

theorem own_mono {B C e s n : Nat} {w : World} {v : Value} {xs : List Value} (h : w.ownsRow B e s v n xs) (hC : C ≤ B) : w.ownsRow C e s v n xs := by
  refine ⟨h.1, ?_⟩
  rcases h.2 with h0 | ⟨g, cap, cur, h1, h2, h3⟩
  · exact Or.inl h0
  · exact Or.inr ⟨g, cap, cur, h1, Nat.le_trans hC h2, h3⟩

set_option maxRecDepth 100000 in
set_option maxHeartbeats 4000000 in
theorem unpack_some (v : Value) (b : List UInt8) (n i0 : Nat) (w : World) (hv : IsBytes w v b) (hG : get b = some (n, i0)) (hn : n ≤ 400) :
    Calls Tryd.prog 23 #[v] w fun e w' => ((∃ D j u, unp n b [] i0 = some (D, j) ∧ e = .returned (.tuple #[u, .int .i64 j, .nilIface]) ∧ RowI w.heap.size u (sums D) w') ∨ (unp n b [] i0 = none ∧ e = .returned (.tuple #[.slice none 0 0, .int .i64 0, .iface 66 (.int .i64 9)]))) ∧ Below w.heap.size w w' := by
  obtain ⟨t0, hi, hz0, hz1, hz2⟩ := info_parts infoI
  have C := getCount_any v b w hv
  have hC : cntV (get b) = .tuple #[.int .i64 n, .int .i64 i0, .nilIface] := by
    unfold cntV
    rw [hG]
    simp only [hn, if_true]
  rw [hC] at C
  obtain ⟨_, _, e3, e4, e5⟩ := get_some hG
  obtain ⟨a, cap, rfl, h1, h2, h3⟩ := id hv
  obtain ⟨bb, off, rfl, h4, h5⟩ := h3 (fun e => by rw [e] at e4; simp at e4; omega)
  clear hC h3 h5 hG
  go_enter Tryd.func23, Tryd.ntmps23
  go_wp2_with fail
  refine C.mono ?_
  rintro e w1 ⟨rfl, b1⟩
  clear C
  go_wp2_with fail
  go_loopw [6, 8] (fun at' o wr => ∃ (i : Nat) (D : List Int), at' = .int .i64 i ∧ i ≤ b.length ∧ D.length ≤ n ∧ (∀ x ∈ D, I64 x) ∧ unp n b D i = unp n b [] i0 ∧ RowI w.heap.size o D wr ∧ Below w.heap.size w wr) (fun _ o _ => n - lenS o)
  case atStart => exact ⟨i0, [], rfl, e4, Nat.zero_le _, by simp, rfl, World.ownsRow_nil w1 w.heap.size 3 1, b1⟩
  case round =>
    clear b1
    obtain ⟨i, D, rfl, hi1, hD, hDr, hs, hh, hbel⟩ := hrel
    have hz := hbel.size
    have hI := hh.ints (by omega) hDr
    obtain ⟨aD, cD, rfl⟩ := rowI_len hh
    by_cases hlt : D.length < n
    · have g1 : (D.length : Int) < n := by omega
      rw [unp_eq, if_pos hlt] at hs
      rcases Nat.lt_or_ge i cap with hic | hic
      · have GP := getPiece_any _ _ wr ((hv.drop i hi1).below hbel)
        cases hP : getP (b.drop i) with
        | none =>
          rw [hP] at GP hs
          unfold gpV at GP
          have HS : Hid (unp n b [] i0 = none) := hs.symm
          clear hP hs
          go_wp2_with fail
          refine GP.mono ?_
          rintro e w2 ⟨rfl, b2⟩
          have BF : Below w.heap.size w (w2.alloc (.cells #[.int .i64 0, .int .i64 0] 42)) := (hbel.trans (b2.mono hz)).alloc (Nat.le_trans hz b2.size) _
          go_wp2
          go_returns
          exact ⟨Or.inr ⟨HS.out, rfl⟩, BF⟩
        | some q =>
          obtain ⟨m, d, k⟩ := q
          obtain ⟨_, hm1, hm2, hd, hk⟩ := getP_some hP
          rw [List.length_drop] at hk
          rw [hP] at GP hs
          unfold gpV at GP
          simp only at hs
          clear hP
          have GO := fun (W : World) (hW : Below wr.heap.size wr W) => goesOn_any _ D m d W (hI.below hW)
          by_cases hm3 : m ≤ n - D.length
          · by_cases hl : D.getLast? = some d
            · rw [if_neg (fun h => h.2.2 hl)] at hs
              have HS : Hid (unp n b [] i0 = none) := hs.symm
              rw [decide_eq_true hl] at GO
              have g2 : ¬ (n : Int) - D.length < m := by omega
              clear hs hl
              go_wp2_with fail
              refine GP.mono ?_
              rintro e w2 ⟨rfl, b2⟩
              have BF : Below w.heap.size w (w2.alloc (.cells #[.int .i64 (m : Int), .int .i64 d] 42)) := (hbel.trans (b2.mono hz)).alloc (Nat.le_trans hz b2.size) _
              have BR : Below wr.heap.size wr (w2.alloc (.cells #[.int .i64 (m : Int), .int .i64 d] 42)) := b2.alloc b2.size _
              go_wp2_with fail
              refine (GO _ BR).mono ?_
              rintro e w3 ⟨rfl, b3⟩
              have B3 : Below w.heap.size w w3 := BF.trans (b3.mono BF.size)
              go_wp2
              go_returns
              exact ⟨Or.inr ⟨HS.out, rfl⟩, B3⟩
            · rw [if_pos ⟨hm1, hm3, hl⟩] at hs
              have HS : Hid (unp n b (D ++ List.replicate m d) (i + k) = unp n b [] i0) := hs
              rw [decide_eq_false hl] at GO
              have g2 : ¬ (n : Int) - D.length < m := by omega
              clear hs hl
              go_wp2_with fail
              refine GP.mono ?_
              rintro e w2 ⟨rfl, b2⟩
              have BF : Below w.heap.size w (w2.alloc (.cells #[.int .i64 (m : Int), .int .i64 d] 42)) := (hbel.trans (b2.mono hz)).alloc (Nat.le_trans hz b2.size) _
              have BR : Below wr.heap.size wr (w2.alloc (.cells #[.int .i64 (m : Int), .int .i64 d] 42)) := b2.alloc b2.size _
              have hbx : (w2.alloc (.cells #[.int .i64 (m : Int), .int .i64 d] 42)).heap[w2.heap.size]? = some (.cells #[.int .i64 (m : Int), .int .i64 d] 42) := (MapKept.heap_alloc w2 _).1
              go_wp2_with fail
              refine (GO _ BR).mono ?_
              rintro e w3 ⟨rfl, b3⟩
              have B3 : Below w.heap.size w w3 := BF.trans (b3.mono BF.size)
              have hbx3 := heap_below hbx b3 (Nat.le_refl _)
              have hh3 : RowI w.heap.size _ D w3 := own_below (own_below hh BR (Nat.le_refl _)) b3 (Nat.le_refl _)
              have x3 : w3.cell? ⟨w2.heap.size, 0, none⟩ = some (.int .i64 (m : Int)) := Lib.cell_of_heap hbx3 0
              clear hbx BF BR b2 b3 GO GP hI hh hbel
              generalize w2.heap.size = bx at *
              go_wp2_with fail
              go_loopw [8, 52] (fun o j w4 => ∃ t : Nat, t ≤ m ∧ j = .int .i64 t ∧ RowI w.heap.size o (D ++ List.replicate t d) w4 ∧ w4.heap[bx]? = some (.cells #[.int .i64 (m : Int), .int .i64 d] 42) ∧ Below w.heap.size w w4) (fun _ j _ => m - (RowKit.intOf j).toNat)
              case atStart => exact ⟨0, Nat.zero_le _, rfl, by simpa using hh3, hbx3, B3⟩
              case round =>
                clear hh3 hbx3 B3 x3
                obtain ⟨t, ht, rfl, hh, hbx, hb2⟩ := hrel
                have hzb := hb2.size
                have hl := rowI_len hh
                by_cases hlm : t < m
                · have g3 : (t : Int) < m := by omega
                  have x2 := Lib.cell_of_heap hbx 1
                  simp only [List.getElem?_toArray, List.getElem?_cons_succ, List.getElem?_cons_zero] at x2
                  have HT : Hid (D ++ List.replicate (t + 1) d = (D ++ List.replicate t d) ++ [d]) := by
                    show _ = _
                    rw [List.replicate_succ', List.append_assoc]
                  have hQ : (D ++ List.replicate t d).length ≤ 400 := by rw [List.length_append, List.length_replicate]; omega
                  generalize D ++ List.replicate t d = Q at *
                  go_wp2_with (first | (at_builtin; refine wpList_append_own _ rfl _ _ 38 rfl w.heap.size 3 t0 (.int .i64 0) 1 8 Tryd.underlying38 hi hz0 hz1 hz2 rfl (by decide) _ _ _ rfl (hh.alloc _) ⟨wr.heap.size, 0, none⟩ 1 1 (intCells [d]) rfl rfl ?c1 ?c2 ?c3 ?c4 ?c5 ?_))
                  case c1 =>
                    intro j u hj
                    match j, hj with
                    | 0, hj => simp at hj; subst hj; simp [Addr.add]
                  case c2 => intro u hu; simp at hu; subst hu; rfl
                  case c3 => unfold maxLen; omega
                  case c4 => omega
                  case c5 => simp; omega
                  intro v2 w5 hown hgrow _
                  have hb3 := box_grown hh hbx (by decide) hgrow
                  obtain ⟨R2, B2⟩ := rowI_grown (m := [d]) hh hb2 hzb hgrow hown
                  clear hown hgrow
                  go_wp2
                  go_roundw
                  case rel => exact ⟨t + 1, hlm, by go_num, by rw [HT.out]; exact R2, hb3, B2⟩
                  case measure => simp [RowKit.intOf]; omega
                · have hte : t = m := by omega
                  subst hte
                  have g3 : ¬ (t : Int) < t := by omega
                  have hQ : (D ++ List.replicate t d).length = D.length + t := by rw [List.length_append, List.length_replicate]
                  have hQr : ∀ x ∈ D ++ List.replicate t d, I64 x := by
                    intro x hx
                    rcases List.mem_append.1 hx with h1 | h1
                    · exact hDr x h1
                    · rw [(List.mem_replicate.1 h1).2]; exact hd
                  have HQ : Hid ((D ++ List.replicate t d).length = D.length + t) := hQ
                  have HR : Hid (∀ x ∈ D ++ List.replicate t d, I64 x) := hQr
                  clear hQ hQr
                  generalize D ++ List.replicate t d = Q at *
                  obtain ⟨aQ, cQ, rfl⟩ := hl
                  go_wp2_with fail
                  go_roundw
                  case rel => exact ⟨i + k, Q, by go_num, by omega, by have := HQ.out; omega, HR.out, HS.out, hh, hb2⟩
                  case measure => simp only [lenS]; have := HQ.out; omega
          · rw [if_neg (fun h => hm3 h.2.1)] at hs
            have HS : Hid (unp n b [] i0 = none) := hs.symm
            have g2 : (n : Int) - D.length < m := by omega
            clear hs GO
            go_wp2_with fail
            refine GP.mono ?_
            rintro e w2 ⟨rfl, b2⟩
            have BF : Below w.heap.size w (w2.alloc (.cells #[.int .i64 (m : Int), .int .i64 d] 42)) := (hbel.trans (b2.mono hz)).alloc (Nat.le_trans hz b2.size) _
            go_wp2
            go_returns
            exact ⟨Or.inr ⟨HS.out, rfl⟩, BF⟩
      · obtain rfl : cap = i := by omega
        have hd : b.drop cap = [] := List.drop_eq_nil_of_le (by omega)
        have hl0 : b.length - cap = 0 := by omega
        have GP := getPiece_any (.slice (some ⟨bb, off, none⟩) 0 0) [] wr (isBytes_nil wr _ 0)
        have hgn : getP [] = none := rfl
        rw [hd, hgn] at hs
        rw [hgn] at GP
        unfold gpV at GP
        have HS : Hid (unp n b [] i0 = none) := hs.symm
        clear hs hd
        go_wp2_with fail
        refine GP.mono ?_
        rintro e w2 ⟨rfl, b2⟩
        have BF : Below w.heap.size w (w2.alloc (.cells #[.int .i64 0, .int .i64 0] 42)) := (hbel.trans (b2.mono hz)).alloc (Nat.le_trans hz b2.size) _
        go_wp2
        go_returns
        exact ⟨Or.inr ⟨HS.out, rfl⟩, BF⟩
    · rw [unp_eq, if_neg hlt] at hs
      have HS : Hid (unp n b [] i0 = some (D, i)) := hs.symm
      have g1 : ¬ (D.length : Int) < n := by omega
      have SU := sums_any _ D wr hI
      clear hs
      go_wp2_with fail
      refine SU.mono ?_
      rintro e w2 ⟨u, rfl, R2, b2⟩
      have BF : Below w.heap.size w w2 := hbel.trans (b2.mono hz)
      go_wp2
      go_returns
      exact ⟨Or.inl ⟨D, i, _, HS.out, rfl, own_mono R2 hz⟩, BF⟩

/-- Unpack of any bytes. -/
theorem unpack_any (v : Value) (b : List UInt8) (w : World) (hv : IsBytes w v b) :
    Calls Tryd.prog 23 #[v] w fun e w' => ((∃ l j u, unpack b = some (l, j) ∧ e = .returned (.tuple #[u, .int .i64 (j : Nat), .nilIface]) ∧ RowI w.heap.size u l w') ∨ (unpack b = none ∧ e = .returned (.tuple #[.slice none 0 0, .int .i64 0, .iface 66 (.int .i64 9)]))) ∧ Below w.heap.size w w' := by
  cases hG : get b with
  | none =>
    refine (unpack_no v b w hv (fun n i h => by rw [hG] at h; cases h)).mono fun e w' ⟨he, hb⟩ => ⟨Or.inr ⟨?_, he⟩, hb⟩
    unfold unpack
    rw [hG]
  | some q =>
    obtain ⟨n, i⟩ := q
    by_cases hn : n ≤ 400
    · refine (unpack_some v b n i w hv hG hn).mono ?_
      rintro e w' ⟨⟨D, j, u, h1, h2, h3⟩ | ⟨h1, h2⟩, hb⟩
      · refine ⟨Or.inl ⟨sums D, j, u, ?_, h2, h3⟩, hb⟩
        unfold unpack
        rw [hG]
        simp only
        rw [if_pos hn, h1]
      · refine ⟨Or.inr ⟨?_, h2⟩, hb⟩
        unfold unpack
        rw [hG]
        simp only
        rw [if_pos hn, h1]
    · refine (unpack_no v b w hv (fun n' i' h => by rw [hG] at h; injection h with h; injection h with h1 h2; omega)).mono fun e w' ⟨he, hb⟩ => ⟨Or.inr ⟨?_, he⟩, hb⟩
      unfold unpack
      rw [hG]
      simp only
      rw [if_neg hn]
end Go.Proofs.YtkmjlpmjhffgbaaDoor
