/-
  What is proved: the functions hex and Quote of package bookref1, called with any text that is not too long, return it in quotes, and nothing that was there has turned.
  Conditions: the text has at most 2097152 bytes.
-/
import Derived.Test.YtnbbamonmmlaeaaDoorProg
import Derived.Test.YtnbbamonmmlaeaaDoorQuotes
import Derived.WalkKit
import Derived.WalkSpells
import Derived.WalkLawsBesides
import Derived.Handy
import Derived.Deep.RegionWith
import Derived.Deep.RegionHeld3
import Derived.Deep.QuietTactic
import Derived.BigQuiet
import Derived.Lib.Builder
namespace Go.Proofs.YtnbbamonmmlaeaaDoor
open Go.RowKit

theorem hexd_num : ∀ n : Fin 16, (hexd n.val).toNat = if n.val < 10 then 48 + n.val else 87 + n.val := by decide

set_option maxRecDepth 100000 in
set_option maxHeartbeats 400000 in
theorem rHex_any (n : Nat) (h : n < 16) (w : World) :
    Calls Tryd.prog 27 #[.int .u8 n] w fun e w' => e = .returned (.int .u8 (hexd n).toNat) ∧ w' = w := by
  have e := hexd_num ⟨n, h⟩
  dsimp only at e
  by_cases h1 : n < 10
  · rw [if_pos h1] at e
    rw [e]
    have g : (n : Int) < 10 := by omega
    go_enter Tryd.func27, Tryd.ntmps27
    go_wp2
    go_ret
    exact ⟨by simp, rfl⟩
  · rw [if_neg h1] at e
    rw [e]
    have g : ¬ (n : Int) < 10 := by omega
    go_enter Tryd.func27, Tryd.ntmps27
    go_wp2
    go_ret
    exact ⟨by simp, rfl⟩

theorem infoB : (Tryd.prog.info? 5).map (fun i => (i.zero, i.size, i.bytes)) = some (some (.int .u8 0), 1, 1) := by kernel_rfl

/-- A slice of bytes that the call has made. -/
abbrev Row (B : Nat) (v : Value) (l : List UInt8) (w : World) : Prop := w.ownsRow B 5 1 v l.length (Lib.byteCells l)

theorem row_grown {B : Nat} {w wr w' : World} {v v' : Value} {l m : List UInt8} {o : Obj} (own : Row B v l wr) (bel : Below B w wr) (hB : B ≤ wr.heap.size) (hg : (wr.alloc o).grownBy w' v.ownBlock)
    (own' : w'.ownsRow B 5 1 v' (l.length + m.length) (Lib.byteCells l ++ Lib.byteCells m)) : Row B v' (l ++ m) w' ∧ Below B w w' := by
  refine ⟨?_, (bel.alloc hB o).grown hg (by simp; omega) (fun k hk => (own.lt k hk).1)⟩
  have e : Lib.byteCells (l ++ m) = Lib.byteCells l ++ Lib.byteCells m := by simp [Lib.byteCells]
  unfold Row
  rw [e, List.length_append]
  exact own'

theorem own_row_len {B : Nat} {v : Value} {l : List UInt8} {w : World} (h : Row B v l w) : ∃ a c, v = .slice a l.length c := by
  rcases h.2 with ⟨rfl, h0⟩ | ⟨g, cap, cur, rfl, _⟩
  · exact ⟨none, 0, by rw [h0]⟩
  · exact ⟨_, _, rfl⟩

theorem row_at (g t : Nat) : (⟨g, 0, none⟩ : Addr).add t = ⟨g, t, none⟩ := by cases t <;> simp [Addr.add]

/-- A slice that is not empty, and where its bytes lie. -/
theorem row_text {B : Nat} {v : Value} {l : List UInt8} {w : World} (h : Row B v l w) (h0 : l ≠ []) : ∃ g cap, v = .slice (some ⟨g, 0, none⟩) l.length cap ∧ ∀ t (ht : t < l.length), w.cell? ((⟨g, 0, none⟩ : Addr).add t) = some (.int .u8 l[t].toNat) := by
  rcases h.2 with ⟨rfl, hl⟩ | ⟨g, cap, cur, rfl, hg, hh, hc, hm, hz, ht⟩
  · exact absurd (List.length_eq_zero_iff.1 hl) h0
  · refine ⟨g, cap, rfl, fun t ht => ?_⟩
    rw [row_at, h.cellAt t (by omega)]
    simp [Lib.byteCells, ht]

set_option maxRecDepth 100000 in
set_option maxHeartbeats 1000000 in
theorem rQuote_any (s : ByteArray) (w : World) (hs : s.size ≤ 2097152) :
    Calls Tryd.prog 16 #[.string s] w fun e w' => e = .returned (.string ⟨(quote s.data.toList).toArray⟩) ∧ Below w.heap.size w w' := by
  obtain ⟨i0, hi, hz0, hz1, hz2⟩ := info_parts infoB
  go_enter Tryd.func16, Tryd.ntmps16
  go_wp2_with (at_builtin; refine wpList_append_own _ rfl _ _ 46 rfl w.heap.size 5 i0 (.int .u8 0) 1 1 Tryd.underlying46 hi hz0 hz1 hz2 rfl (by decide) _ _ _ rfl ((World.ownsRow_nil _ _ _ _).alloc _) ⟨w.heap.size, 0, none⟩ 1 1 (Lib.byteCells [34]) rfl rfl ?c1 ?c2 ?c3 ?c4 ?c5 ?_)
  case c1 =>
    intro j u hj
    match j, hj with
    | 0, hj => simp [Lib.byteCells] at hj; subst hj; simp [Addr.add]
  case c2 => intro u hu; simp [Lib.byteCells] at hu; subst hu; rfl
  case c3 => unfold maxLen; omega
  case c4 => omega
  case c5 => simp
  intro v' w1 hown hgrow _
  obtain ⟨R1, B1⟩ := row_grown (l := []) (m := [34]) (World.ownsRow_nil w w.heap.size 5 1) (Below.refl _ w) (Nat.le_refl _) hgrow hown
  clear hown hgrow
  go_wp2_with fail
  go_loopw [3, 4] (fun b i wr => ∃ k : Nat, k ≤ s.size ∧ i = .int .i64 k ∧ Row w.heap.size b (34 :: escs (s.data.toList.take k)) wr ∧ Below w.heap.size w wr) (fun _ i _ => s.size - (RowKit.intOf i).toNat)
  case atStart => exact ⟨0, Nat.zero_le _, rfl, by simpa [escs] using R1, B1⟩
  case round =>
    obtain ⟨k, hk, rfl, hh, hbel⟩ := hrel
    have hz := hbel.size
    have hlen : (34 :: escs (s.data.toList.take k)).length ≤ 8000000 := by
      have h1 := escs_len (s.data.toList.take k)
      have h2 : (s.data.toList.take k).length ≤ k := List.length_take_le _ _
      simp
      omega
    by_cases hlt : k < s.size
    · have hn : 34 :: escs (s.data.toList.take k) ++ esc s[k] = 34 :: escs (s.data.toList.take (k + 1)) := by
        have : s.data.toList.take (k + 1) = s.data.toList.take k ++ [s[k]] := by
          rw [List.take_succ_eq_append_getElem (by rw [Array.length_toList]; exact hlt)]
          rfl
        rw [this, escs_append]
        simp [escs]
      have hl := own_row_len hh
      generalize hL : 34 :: escs (s.data.toList.take k) = L at *
      generalize hc : s[k] = c at *
      have HN : Hid (L ++ esc c = 34 :: escs (s.data.toList.take (k + 1))) := hn
      clear hn hL
      have g1 : (k : Int) < s.size := by omega
      by_cases hm : c.toNat = 34 ∨ c.toNat = 92
      · have he : Hid (esc c = [92, c]) := by
          show esc c = [92, c]
          have h1 : hexB c = false := by simp [hexB]; omega
          have h2 : maskB c = true := by simpa [maskB] using hm
          simp [esc, h1, h2]
        rcases hm with hm | hm
        · obtain rfl : c = 34 := UInt8.toNat_inj.1 hm
          clear hm
          go_wp2_with (first | (at_builtin; refine wpList_append_own _ rfl _ _ 46 rfl w.heap.size 5 i0 (.int .u8 0) 1 1 Tryd.underlying46 hi hz0 hz1 hz2 rfl (by decide) _ _ _ rfl (hh.alloc _) ⟨wr.heap.size, 0, none⟩ 2 2 (Lib.byteCells [92, 34]) rfl rfl ?c1 ?c2 ?c3 ?c4 ?c5 ?_))
          case c1 =>
            intro j u hj
            match j, hj with
            | 0, hj => simp [Lib.byteCells] at hj; subst hj; first | (simp; done) | simp [Addr.add]
            | 1, hj => simp [Lib.byteCells] at hj; subst hj; first | (simp; done) | simp [Addr.add]
          case c2 => intro u hu; simp [Lib.byteCells] at hu; rcases hu with rfl | rfl <;> rfl
          case c3 => unfold maxLen; omega
          case c4 => omega
          case c5 => first | (simp; omega) | omega
          intro v2 w2 hown hgrow _
          obtain ⟨R2, B2⟩ := row_grown (m := [92, 34]) hh hbel hz hgrow hown
          clear hown hgrow
          go_wp2
          go_roundw
          case rel => exact ⟨k + 1, hlt, by go_num, by rw [← HN.out, he.out]; exact R2, B2⟩
          case measure => simp [RowKit.intOf]; omega
        · obtain rfl : c = 92 := UInt8.toNat_inj.1 hm
          clear hm
          go_wp2_with (first | (at_builtin; refine wpList_append_own _ rfl _ _ 46 rfl w.heap.size 5 i0 (.int .u8 0) 1 1 Tryd.underlying46 hi hz0 hz1 hz2 rfl (by decide) _ _ _ rfl (hh.alloc _) ⟨wr.heap.size, 0, none⟩ 2 2 (Lib.byteCells [92, 92]) rfl rfl ?c1 ?c2 ?c3 ?c4 ?c5 ?_))
          case c1 =>
            intro j u hj
            match j, hj with
            | 0, hj => simp [Lib.byteCells] at hj; subst hj; first | (simp; done) | simp [Addr.add]
            | 1, hj => simp [Lib.byteCells] at hj; subst hj; first | (simp; done) | simp [Addr.add]
          case c2 => intro u hu; simp [Lib.byteCells] at hu; rcases hu with rfl | rfl <;> rfl
          case c3 => unfold maxLen; omega
          case c4 => omega
          case c5 => first | (simp; omega) | omega
          intro v2 w2 hown hgrow _
          obtain ⟨R2, B2⟩ := row_grown (m := [92, 92]) hh hbel hz hgrow hown
          clear hown hgrow
          go_wp2
          go_roundw
          case rel => exact ⟨k + 1, hlt, by go_num, by rw [← HN.out, he.out]; exact R2, B2⟩
          case measure => simp [RowKit.intOf]; omega
      · have q1 : ((c.toNat : Int) == 34) = false := by rw [beq_eq_false_iff_ne]; omega
        have q2 : ((c.toNat : Int) == 92) = false := by rw [beq_eq_false_iff_ne]; omega
        by_cases hx : hexB c = true
        · have q3 : (c.toNat : Int) < 32 ∨ ¬ (c.toNat : Int) < 32 ∧ (126 : Int) < c.toNat := by
            simp [hexB] at hx
            omega
          have he : Hid (esc c = [92, hexd (c.toNat / 16), hexd (c.toNat % 16)]) := by
            show esc c = _
            simp [esc, hx]
          have hc8 := c.toNat_lt
          have X1 := rHex_any (c.toNat / 16) (by omega)
          have X2 := rHex_any (c.toNat % 16) (by omega)
          rw [show ((c.toNat / 16 : Nat) : Int) = (c.toNat : Int) / 16 from by omega] at X1
          rw [show ((c.toNat % 16 : Nat) : Int) = (c.toNat : Int) % 16 from by omega] at X2
          rcases q3 with q3 | ⟨q3, q4⟩
          · clear hx
            go_wp2_with fail
            refine (X1 _).mono ?_
            rintro e w3 ⟨rfl, hw⟩
            subst w3
            go_wp2_with fail
            refine (X2 _).mono ?_
            rintro e w3 ⟨rfl, hw⟩
            subst w3
            go_wp2_with (first | (at_builtin; refine wpList_append_own _ rfl _ _ 46 rfl w.heap.size 5 i0 (.int .u8 0) 1 1 Tryd.underlying46 hi hz0 hz1 hz2 rfl (by decide) _ _ _ rfl (hh.alloc _) ⟨wr.heap.size, 0, none⟩ 3 3 (Lib.byteCells [92, hexd (c.toNat / 16), hexd (c.toNat % 16)]) rfl rfl ?c1 ?c2 ?c3 ?c4 ?c5 ?_))
            case c1 =>
              intro j u hj
              match j, hj with
              | 0, hj => simp [Lib.byteCells] at hj; subst hj; first | (simp; done) | simp [Addr.add]
              | 1, hj => simp [Lib.byteCells] at hj; subst hj; first | (simp; done) | simp [Addr.add]
              | 2, hj => simp [Lib.byteCells] at hj; subst hj; first | (simp; done) | simp [Addr.add]
            case c2 => intro u hu; simp [Lib.byteCells] at hu; rcases hu with rfl | rfl | rfl <;> rfl
            case c3 => unfold maxLen; omega
            case c4 => omega
            case c5 => first | (simp; omega) | omega
            intro v2 w2 hown hgrow _
            obtain ⟨R2, B2⟩ := row_grown (m := [92, hexd (c.toNat / 16), hexd (c.toNat % 16)]) hh hbel hz hgrow hown
            clear hown hgrow
            go_wp2
            go_roundw
            case rel => exact ⟨k + 1, hlt, by go_num, by rw [← HN.out, he.out]; exact R2, B2⟩
            case measure => simp [RowKit.intOf]; omega
          · clear hx
            go_wp2_with fail
            refine (X1 _).mono ?_
            rintro e w3 ⟨rfl, hw⟩
            subst w3
            go_wp2_with fail
            refine (X2 _).mono ?_
            rintro e w3 ⟨rfl, hw⟩
            subst w3
            go_wp2_with (first | (at_builtin; refine wpList_append_own _ rfl _ _ 46 rfl w.heap.size 5 i0 (.int .u8 0) 1 1 Tryd.underlying46 hi hz0 hz1 hz2 rfl (by decide) _ _ _ rfl (hh.alloc _) ⟨wr.heap.size, 0, none⟩ 3 3 (Lib.byteCells [92, hexd (c.toNat / 16), hexd (c.toNat % 16)]) rfl rfl ?c1 ?c2 ?c3 ?c4 ?c5 ?_))
            case c1 =>
              intro j u hj
              match j, hj with
              | 0, hj => simp [Lib.byteCells] at hj; subst hj; first | (simp; done) | simp [Addr.add]
              | 1, hj => simp [Lib.byteCells] at hj; subst hj; first | (simp; done) | simp [Addr.add]
              | 2, hj => simp [Lib.byteCells] at hj; subst hj; first | (simp; done) | simp [Addr.add]
            case c2 => intro u hu; simp [Lib.byteCells] at hu; rcases hu with rfl | rfl | rfl <;> rfl
            case c3 => unfold maxLen; omega
            case c4 => omega
            case c5 => first | (simp; omega) | omega
            intro v2 w2 hown hgrow _
            obtain ⟨R2, B2⟩ := row_grown (m := [92, hexd (c.toNat / 16), hexd (c.toNat % 16)]) hh hbel hz hgrow hown
            clear hown hgrow
            go_wp2
            go_roundw
            case rel => exact ⟨k + 1, hlt, by go_num, by rw [← HN.out, he.out]; exact R2, B2⟩
            case measure => simp [RowKit.intOf]; omega
        · have hx' : hexB c = false := by simpa using hx
          have he : Hid (esc c = [c]) := by
            show esc c = _
            have h2 : maskB c = false := by simp [maskB]; omega
            simp [esc, hx', h2]
          have q3 : ¬ (c.toNat : Int) < 32 := by
            simp [hexB] at hx'
            omega
          have q4 : ¬ (126 : Int) < c.toNat := by
            simp [hexB] at hx'
            omega
          clear hx hx'
          go_wp2_with (first | (at_builtin; refine wpList_append_own _ rfl _ _ 46 rfl w.heap.size 5 i0 (.int .u8 0) 1 1 Tryd.underlying46 hi hz0 hz1 hz2 rfl (by decide) _ _ _ rfl (hh.alloc _) ⟨wr.heap.size, 0, none⟩ 1 1 (Lib.byteCells [c]) rfl rfl ?c1 ?c2 ?c3 ?c4 ?c5 ?_))
          case c1 =>
            intro j u hj
            match j, hj with
            | 0, hj => simp [Lib.byteCells] at hj; subst hj; first | (simp; done) | simp [Addr.add]
          case c2 => intro u hu; simp [Lib.byteCells] at hu; subst hu; rfl
          case c3 => unfold maxLen; omega
          case c4 => omega
          case c5 => first | (simp; omega) | omega
          intro v2 w2 hown hgrow _
          obtain ⟨R2, B2⟩ := row_grown (m := [c]) hh hbel hz hgrow hown
          clear hown hgrow
          go_wp2
          go_roundw
          case rel => exact ⟨k + 1, hlt, by go_num, by rw [← HN.out, he.out]; exact R2, B2⟩
          case measure => simp [RowKit.intOf]; omega
    · have hke : k = s.size := by omega
      subst hke
      have hq : 34 :: escs (s.data.toList.take s.size) ++ [34] = quote s.data.toList := by
        rw [List.take_of_length_le (by rw [Array.length_toList]; exact Nat.le_refl _)]
        rfl
      generalize 34 :: escs (s.data.toList.take s.size) = L at *
      have HQ : Hid (L ++ [34] = quote s.data.toList) := hq
      clear hq hlt
      go_wp2_with (first | (at_builtin; refine wpList_append_own _ rfl _ _ 46 rfl w.heap.size 5 i0 (.int .u8 0) 1 1 Tryd.underlying46 hi hz0 hz1 hz2 rfl (by decide) _ _ _ rfl (hh.alloc _) ⟨wr.heap.size, 0, none⟩ 1 1 (Lib.byteCells [34]) rfl rfl ?c1 ?c2 ?c3 ?c4 ?c5 ?_))
      case c1 =>
        intro j u hj
        match j, hj with
        | 0, hj => simp [Lib.byteCells] at hj; subst hj; first | (simp; done) | simp [Addr.add]
      case c2 => intro u hu; simp [Lib.byteCells] at hu; subst hu; rfl
      case c3 => unfold maxLen; omega
      case c4 => omega
      case c5 => first | (simp; omega) | omega
      intro v2 w2 hown hgrow _
      obtain ⟨R2, B2⟩ := row_grown (m := [34]) hh hbel hz hgrow hown
      clear hown hgrow
      rw [HQ.out] at R2
      clear HQ
      obtain ⟨g, cap, rfl, hcs⟩ := row_text R2 (by simp [quote])
      have hcv := run_convert_bytes_back (P := Tryd.prog) w2 46 9 5 ⟨g, 0, none⟩ cap (quote s.data.toList) Tryd.underlying46 Tryd.underlying5 Tryd.underlying9 hcs
      clear hcs R2
      go_wp2
      go_ret
      exact ⟨rfl, B2⟩
end Go.Proofs.YtnbbamonmmlaeaaDoor
