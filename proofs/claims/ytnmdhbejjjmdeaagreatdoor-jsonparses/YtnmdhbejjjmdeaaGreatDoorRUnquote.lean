/-
  What is proved: the functions digit and Unquote of package bookref1, called with any text that is not too long, return what it begins with, and how many bytes that has, or that there is nothing; and nothing that was there has turned.
  Conditions: the text has at most 8000000 bytes.
-/
import Derived.Test.YtnmdhbejjjmdeaaGreatDoorP11
import Derived.Test.YtnmdhbejjjmdeaaGreatDoorP05
namespace Go.Proofs.YtnmdhbejjjmdeaaGreatDoor
open Go.RowKit

/-- What bookref1's Unquote hands back. -/
def runqV : Option (List UInt8 × Nat) → Value
  | none => .tuple #[.string ⟨#[]⟩, .int .i64 0, .bool false]
  | some (l, n) => .tuple #[.string ⟨l.toArray⟩, .int .i64 n, .bool true]

theorem hexv_num : ∀ n : Fin 256, hexv (UInt8.ofNat n.val) = if 48 ≤ n.val ∧ n.val ≤ 57 then (n.val : Int) - 48 else if 97 ≤ n.val ∧ n.val ≤ 102 then (n.val : Int) - 87 else -1 := by decide +kernel

set_option maxRecDepth 100000 in
set_option maxHeartbeats 400000 in
theorem rDigit_any (c : UInt8) (w : World) :
    Calls Tryz.prog 51 #[.int .u8 c.toNat] w fun e w' => e = .returned (.int .i64 (hexv c)) ∧ w' = w := by
  have e := hexv_num ⟨c.toNat, c.toNat_lt⟩
  have hc := c.toNat_lt
  simp only [UInt8.ofNat_toNat] at e
  rw [e]
  clear e
  generalize c.toNat = n at *
  by_cases h1 : 48 ≤ n
  · have g1 : (48 : Int) ≤ n := by omega
    by_cases h2 : n ≤ 57
    · have g2 : (n : Int) ≤ 57 := by omega
      rw [if_pos ⟨h1, h2⟩]
      go_enter Tryz.func51, Tryz.ntmps51
      go_wp2
      go_ret
      exact ⟨by simp, rfl⟩
    · have g2 : ¬ (n : Int) ≤ 57 := by omega
      rw [if_neg (fun h => h2 h.2)]
      by_cases h3 : 97 ≤ n
      · have g3 : (97 : Int) ≤ n := by omega
        by_cases h4 : n ≤ 102
        · have g4 : (n : Int) ≤ 102 := by omega
          rw [if_pos ⟨h3, h4⟩]
          go_enter Tryz.func51, Tryz.ntmps51
          go_wp2
          go_ret
          exact ⟨by simp, rfl⟩
        · have g4 : ¬ (n : Int) ≤ 102 := by omega
          rw [if_neg (fun h => h4 h.2)]
          go_enter Tryz.func51, Tryz.ntmps51
          go_wp2
          go_ret
          exact ⟨rfl, rfl⟩
      · have g3 : ¬ (97 : Int) ≤ n := by omega
        rw [if_neg (fun h => h3 h.1)]
        go_enter Tryz.func51, Tryz.ntmps51
        go_wp2
        go_ret
        exact ⟨rfl, rfl⟩
  · have g1 : ¬ (48 : Int) ≤ n := by omega
    have g3 : ¬ (97 : Int) ≤ n := by omega
    rw [if_neg (fun h => h1 h.1), if_neg (by omega)]
    go_enter Tryz.func51, Tryz.ntmps51
    go_wp2
    go_ret
    exact ⟨rfl, rfl⟩

/-- The reading has come so far. -/
def Live (s : ByteArray) (acc : List UInt8) (k : Nat) (U : Option (List UInt8 × Nat)) : Prop := ∃ f, (s.data.toList.drop k).length < f ∧ run f acc (s.data.toList.drop k) k = U

theorem Live.stop {s : ByteArray} {acc : List UInt8} {k : Nat} {U : Option (List UInt8 × Nat)} (h : Live s acc k U) (hk : k < s.size) (h34 : s[k].toNat = 34) : U = some (acc, k + 1) := by
  obtain ⟨f, hf, e⟩ := h
  cases f with
  | zero => omega
  | succ f =>
    rw [drop_at s k hk, run, if_pos h34] at e
    exact e.symm

theorem Live.none {s : ByteArray} {acc : List UInt8} {k : Nat} {U : Option (List UInt8 × Nat)} (h : Live s acc k U) (hk : k < s.size) (h34 : ¬ s[k].toNat = 34) (hf : (first (s.data.toList.drop k)).2 = 0) : U = .none := by
  obtain ⟨f, hl, e⟩ := h
  cases f with
  | zero => omega
  | succ f =>
    rw [drop_at s k hk] at e hf
    rw [run, if_neg h34, if_pos hf] at e
    exact e.symm

theorem Live.next {s : ByteArray} {acc : List UInt8} {k n : Nat} {b : UInt8} {U : Option (List UInt8 × Nat)} (h : Live s acc k U) (hk : k < s.size) (h34 : ¬ s[k].toNat = 34) (hf : first (s.data.toList.drop k) = (b, n)) (hn : n ≠ 0) : Live s (acc ++ [b]) (k + n) U := by
  obtain ⟨f, hl, e⟩ := h
  cases f with
  | zero => omega
  | succ f =>
    refine ⟨f, ?_, ?_⟩
    · rw [List.length_drop, Array.length_toList] at *
      have : s.data.size = s.size := rfl
      omega
    · rw [drop_at s k hk] at e hf
      rw [run, if_neg h34, hf, if_neg hn, ← drop_at s k hk, List.drop_drop] at e
      exact e

theorem Live.over {s : ByteArray} {acc : List UInt8} {k : Nat} {U : Option (List UInt8 × Nat)} (h : Live s acc k U) (hk : s.size ≤ k) : U = .none := by
  obtain ⟨f, hl, e⟩ := h
  have hd : s.data.toList.drop k = [] := List.drop_of_length_le (by rw [Array.length_toList]; exact hk)
  rw [hd] at e
  cases f with
  | zero => simpa [run] using e.symm
  | succ f => simpa [run] using e.symm

theorem Live.start {s : ByteArray} (h0 : 0 < s.size) (h34 : s[0].toNat = 34) : Live s [] 1 (unq s.data.toList) := by
  obtain ⟨r, er, hr⟩ := list1 s h0
  have ed : s.data.toList.drop 1 = r := by rw [er]; rfl
  refine ⟨r.length + 1, by rw [ed]; exact Nat.lt_succ_self _, ?_⟩
  rw [ed, er, unq, if_pos h34]

theorem conv_nil : ∀ w, (convert 87 9 (.slice none 0 0)).run Tryz.prog w = .ok (.string ⟨#[]⟩) w := fun _ => by kernel_rfl

theorem row_conv {B : Nat} {v : Value} {l : List UInt8} {w : World} (h : Row B v l w) : (convert 87 9 v).run Tryz.prog w = .ok (.string ⟨l.toArray⟩) w := by
  rcases h.2 with ⟨rfl, hl⟩ | ⟨g, cap, cur, rfl, hg, hh, hc, hm, hz, ht⟩
  · rw [List.length_eq_zero_iff.1 hl]
    exact conv_nil w
  · refine run_convert_bytes_back (P := Tryz.prog) w 87 9 5 ⟨g, 0, none⟩ cap l Tryz.underlying87 Tryz.underlying5 Tryz.underlying9 (fun t ht => ?_)
    rw [row_at, h.cellAt t (by omega)]
    simp [Lib.byteCells, ht]

theorem empty_no (s : ByteArray) (h : 0 < s.size) : s.toList.isEmpty = false := by
  rw [ByteArray.toList_eq]
  obtain ⟨r, e, _⟩ := list1 s h
  rw [e]
  rfl
theorem empty_yes (s : ByteArray) (h : ¬ 0 < s.size) : s.toList.isEmpty = true := by
  rw [ByteArray.toList_eq, List.isEmpty_iff]
  exact List.length_eq_zero_iff.1 (by rw [Array.length_toList]; show s.size = 0; omega)

set_option maxHeartbeats 4000000 in
set_option maxRecDepth 100000 in
theorem rUnquote_any (s : ByteArray) (w : World) (hs : s.size ≤ 8000000) :
    Calls Tryz.prog 30 #[.string s] w fun e w' => e = .returned (runqV (unq s.data.toList)) ∧ Below w.heap.size w w' := by
  obtain ⟨i0, hi, hz0, hz1, hz2⟩ := info_parts infoB
  by_cases h0 : 0 < s.size
  · have he := empty_no s h0
    have g0 : (0 : Int) < s.size := by omega
    by_cases h34 : s[0].toNat = 34
    · have L0 : Hid (Live s [] 1 (unq s.data.toList)) := Live.start h0 h34
      generalize unq s.data.toList = U at *
      go_enter Tryz.func30, Tryz.ntmps30
      go_wp2_with fail
      go_loopw [5, 6] (fun b i wr => ∃ (k : Nat) (acc : List UInt8), 1 ≤ k ∧ k ≤ s.size ∧ i = .int .i64 k ∧ acc.length < k ∧ Row w.heap.size b acc wr ∧ Below w.heap.size w wr ∧ Hid (Live s acc k U)) (fun _ i _ => s.size - (RowKit.intOf i).toNat)
      case atStart => exact ⟨1, [], by omega, h0, rfl, by simp, World.ownsRow_nil _ _ _ _, Below.refl _ _, L0⟩
      case round =>
        clear L0 h34
        obtain ⟨k, acc, k1, k2, rfl, hacc, hh, hbel, HL⟩ := hrel
        have hz := hbel.size
        by_cases hlt : k < s.size
        · have hd := drop_at s k hlt
          have g1 : (k : Int) < s.size := by omega
          by_cases h34 : s[k].toNat = 34
          · have HU : Hid (U = some (acc, k + 1)) := HL.out.stop hlt h34
            have hcv := row_conv hh
            clear HL hd
            go_wp2
            go_returns
            rw [HU.out]
            exact ⟨rfl, hbel⟩
          · have g34 : ((s[k].toNat : Int) == 34) = false := by rw [beq_eq_false_iff_ne]; omega
            by_cases h92 : s[k].toNat = 92
            · have hp : ¬ (hexB s[k] = false ∧ maskB s[k] = false) := by
                intro hh
                rw [back_mask h92] at hh
                cases hh.2
              by_cases h1 : k + 1 < s.size
              · have hd1 := drop_at s (k + 1) h1
                rw [hd1] at hd
                have g2 : (k : Int) + 1 < s.size := by omega
                cases hk1 : maskB s[k + 1] with
                | true =>
                  replace HL : Hid (Live s (acc ++ [s[k + 1]]) (k + 2) U) := HL.out.next hlt h34 (by rw [hd, first_m hp h92 hk1]) (by omega)
                  clear hd hd1
                  have q5 : s[k + 1].toNat = 34 ∨ s[k + 1].toNat = 92 := by simpa [maskB] using hk1
                  generalize hc1 : s[k + 1] = c1 at *
                  rcases q5 with q5 | q5
                  · obtain rfl : c1 = 34 := UInt8.toNat_inj.1 q5
                    clear q5
                    go_wp2_with (first | (at_builtin; refine wpList_append_own _ rfl _ _ 87 rfl w.heap.size 5 i0 (.int .u8 0) 1 1 Tryz.underlying87 hi hz0 hz1 hz2 rfl (by decide) _ _ _ rfl (hh.alloc _) ⟨wr.heap.size, 0, none⟩ 1 1 (Lib.byteCells [34]) rfl rfl ?c1 ?c2 ?c3 ?c4 ?c5 ?_))
                    case c1 =>
                      intro j u hj
                      match j, hj with
                      | 0, hj => simp [Lib.byteCells] at hj; subst hj; first | (simp; done) | simp [Addr.add]
                    case c2 => intro u hu; simp [Lib.byteCells] at hu; subst hu; rfl
                    case c3 => unfold maxLen; omega
                    case c4 => omega
                    case c5 => first | (simp; omega) | omega
                    intro v2 w2 hown hgrow _
                    obtain ⟨R2, B2⟩ := row_grown (m := [34]) hh hbel hz hgrow hown
                    clear hown hgrow
                    go_wp2
                    go_roundw
                    case rel => exact ⟨k + 2, _, by omega, by omega, by go_num, by simp; omega, R2, B2, HL⟩
                    case measure => simp [RowKit.intOf]; omega
                  · obtain rfl : c1 = 92 := UInt8.toNat_inj.1 q5
                    clear q5
                    go_wp2_with (first | (at_builtin; refine wpList_append_own _ rfl _ _ 87 rfl w.heap.size 5 i0 (.int .u8 0) 1 1 Tryz.underlying87 hi hz0 hz1 hz2 rfl (by decide) _ _ _ rfl (hh.alloc _) ⟨wr.heap.size, 0, none⟩ 1 1 (Lib.byteCells [92]) rfl rfl ?c1 ?c2 ?c3 ?c4 ?c5 ?_))
                    case c1 =>
                      intro j u hj
                      match j, hj with
                      | 0, hj => simp [Lib.byteCells] at hj; subst hj; first | (simp; done) | simp [Addr.add]
                    case c2 => intro u hu; simp [Lib.byteCells] at hu; subst hu; rfl
                    case c3 => unfold maxLen; omega
                    case c4 => omega
                    case c5 => first | (simp; omega) | omega
                    intro v2 w2 hown hgrow _
                    obtain ⟨R2, B2⟩ := row_grown (m := [92]) hh hbel hz hgrow hown
                    clear hown hgrow
                    go_wp2
                    go_roundw
                    case rel => exact ⟨k + 2, _, by omega, by omega, by go_num, by simp; omega, R2, B2, HL⟩
                    case measure => simp [RowKit.intOf]; omega
                | false =>
                  have q6 : ((s[k + 1].toNat : Int) == 34) = false := by
                    simp [maskB] at hk1
                    rw [beq_eq_false_iff_ne]
                    omega
                  have q7 : ((s[k + 1].toNat : Int) == 92) = false := by
                    simp [maskB] at hk1
                    rw [beq_eq_false_iff_ne]
                    omega
                  by_cases h2 : k + 2 < s.size
                  · have hd2 := drop_at s (k + 1 + 1) h2
                    rw [hd2] at hd
                    have g3 : (k : Int) + 2 < s.size := by omega
                    have X1 := rDigit_any s[k + 1]
                    have X2 := rDigit_any s[k + 2]
                    have rx := hexv_range s[k + 1]
                    have ry := hexv_range s[k + 2]
                    have hf := first_3 (e := s[k + 1 + 1]) (r := s.data.toList.drop (k + 1 + 1 + 1)) hp h92 hk1
                    rw [← hd] at hf
                    clear hd hd1 hd2
                    generalize hc1 : s[k + 1] = c1 at *
                    generalize hc2 : s[k + 1 + 1] = c2 at *
                    have hc2' : s[k + 2] = c2 := hc2
                    generalize hexv c1 = x at *
                    generalize hexv c2 = y at *
                    obtain ⟨x0, x1⟩ := rx
                    obtain ⟨y0, y1⟩ := ry
                    clear hc2
                    by_cases xn : x < 0
                    · have HU : Hid (U = none) := HL.out.none hlt h34 (by rw [hf, if_neg (by intro hh; omega)])
                      clear HL hf
                      go_wp2_with fail
                      refine (X1 _).mono ?_
                      rintro e w3 ⟨rfl, hw⟩
                      subst w3
                      go_wp2_with fail
                      refine (X2 _).mono ?_
                      rintro e w3 ⟨rfl, hw⟩
                      subst w3
                      go_wp2
                      go_returns
                      rw [HU.out]
                      exact ⟨rfl, hbel⟩
                    · by_cases yn : y < 0
                      · have HU : Hid (U = none) := HL.out.none hlt h34 (by rw [hf, if_neg (by intro hh; omega)])
                        clear HL hf
                        go_wp2_with fail
                        refine (X1 _).mono ?_
                        rintro e w3 ⟨rfl, hw⟩
                        subst w3
                        go_wp2_with fail
                        refine (X2 _).mono ?_
                        rintro e w3 ⟨rfl, hw⟩
                        subst w3
                        go_wp2
                        go_returns
                        rw [HU.out]
                        exact ⟨rfl, hbel⟩
                      · have xn' : 0 ≤ x := by omega
                        have yn' : 0 ≤ y := by omega
                        have hby := byte_of x y xn' x1 yn' y1
                        cases hz8 : hexB (UInt8.ofNat (x * 16 + y).toNat) with
                        | true =>
                          replace HL : Hid (Live s (acc ++ [UInt8.ofNat (x * 16 + y).toNat]) (k + 3) U) := HL.out.next hlt h34 (by rw [hf, if_pos ⟨xn', yn', hz8⟩]) (by omega)
                          have q8 : ¬ (32 : Int) ≤ x * 16 + y ∨ (32 : Int) ≤ x * 16 + y ∧ ¬ x * 16 + y ≤ 126 := by
                            simp only [hexB, Bool.or_eq_true, decide_eq_true_eq] at hz8
                            omega
                          clear hz8 hf
                          generalize hB8 : UInt8.ofNat (x * 16 + y).toNat = b8 at *
                          clear hB8
                          rcases q8 with q8 | ⟨q8, q9⟩
                          · go_wp2_with fail
                            refine (X1 _).mono ?_
                            rintro e w3 ⟨rfl, hw⟩
                            subst w3
                            go_wp2_with fail
                            refine (X2 _).mono ?_
                            rintro e w3 ⟨rfl, hw⟩
                            subst w3
                            go_wp2_with (first | (at_builtin; refine wpList_append_own _ rfl _ _ 87 rfl w.heap.size 5 i0 (.int .u8 0) 1 1 Tryz.underlying87 hi hz0 hz1 hz2 rfl (by decide) _ _ _ rfl (hh.alloc _) ⟨wr.heap.size, 0, none⟩ 1 1 (Lib.byteCells [b8]) rfl rfl ?c1 ?c2 ?c3 ?c4 ?c5 ?_))
                            case c1 =>
                              intro j u hj
                              match j, hj with
                              | 0, hj => simp [Lib.byteCells] at hj; subst hj; first | (simp; done) | (simp; exact hby.symm) | (simp; omega) | (simp [Addr.add]; exact hby.symm) | (simp [Addr.add]; omega) | simp [Addr.add]
                            case c2 => intro u hu; simp [Lib.byteCells] at hu; subst hu; rfl
                            case c3 => unfold maxLen; omega
                            case c4 => omega
                            case c5 => first | (simp; omega) | omega
                            intro v2 w2 hown hgrow _
                            obtain ⟨R2, B2⟩ := row_grown (m := [b8]) hh hbel hz hgrow hown
                            clear hown hgrow
                            go_wp2
                            go_roundw
                            case rel => exact ⟨k + 3, _, by omega, by omega, by go_num, by simp; omega, R2, B2, HL⟩
                            case measure => simp [RowKit.intOf]; omega
                          · go_wp2_with fail
                            refine (X1 _).mono ?_
                            rintro e w3 ⟨rfl, hw⟩
                            subst w3
                            go_wp2_with fail
                            refine (X2 _).mono ?_
                            rintro e w3 ⟨rfl, hw⟩
                            subst w3
                            go_wp2_with (first | (at_builtin; refine wpList_append_own _ rfl _ _ 87 rfl w.heap.size 5 i0 (.int .u8 0) 1 1 Tryz.underlying87 hi hz0 hz1 hz2 rfl (by decide) _ _ _ rfl (hh.alloc _) ⟨wr.heap.size, 0, none⟩ 1 1 (Lib.byteCells [b8]) rfl rfl ?c1 ?c2 ?c3 ?c4 ?c5 ?_))
                            case c1 =>
                              intro j u hj
                              match j, hj with
                              | 0, hj => simp [Lib.byteCells] at hj; subst hj; first | (simp; done) | (simp; exact hby.symm) | (simp; omega) | (simp [Addr.add]; exact hby.symm) | (simp [Addr.add]; omega) | simp [Addr.add]
                            case c2 => intro u hu; simp [Lib.byteCells] at hu; subst hu; rfl
                            case c3 => unfold maxLen; omega
                            case c4 => omega
                            case c5 => first | (simp; omega) | omega
                            intro v2 w2 hown hgrow _
                            obtain ⟨R2, B2⟩ := row_grown (m := [b8]) hh hbel hz hgrow hown
                            clear hown hgrow
                            go_wp2
                            go_roundw
                            case rel => exact ⟨k + 3, _, by omega, by omega, by go_num, by simp; omega, R2, B2, HL⟩
                            case measure => simp [RowKit.intOf]; omega
                        | false =>
                          have HU : Hid (U = none) := HL.out.none hlt h34 (by rw [hf, if_neg (by intro hh; rw [hz8] at hh; cases hh.2.2)])
                          have q8 : (32 : Int) ≤ x * 16 + y := by
                            simp only [hexB, Bool.or_eq_false_iff, decide_eq_false_iff_not] at hz8
                            omega
                          have q9 : x * 16 + y ≤ 126 := by
                            simp only [hexB, Bool.or_eq_false_iff, decide_eq_false_iff_not] at hz8
                            omega
                          clear hz8 hf HL hby
                          go_wp2_with fail
                          refine (X1 _).mono ?_
                          rintro e w3 ⟨rfl, hw⟩
                          subst w3
                          go_wp2_with fail
                          refine (X2 _).mono ?_
                          rintro e w3 ⟨rfl, hw⟩
                          subst w3
                          go_wp2
                          go_returns
                          rw [HU.out]
                          exact ⟨rfl, hbel⟩
                  · have hd2 : s.data.toList.drop (k + 1 + 1) = [] := List.drop_of_length_le (by rw [Array.length_toList]; show s.size ≤ k + 1 + 1; omega)
                    rw [hd2] at hd
                    have HU : Hid (U = none) := HL.out.none hlt h34 (by rw [hd, first_2 hp h92 hk1])
                    have g3 : ¬ (k : Int) + 2 < s.size := by omega
                    clear hd hd1 hd2 HL
                    go_wp2
                    go_returns
                    rw [HU.out]
                    exact ⟨rfl, hbel⟩
              · have hd1 : s.data.toList.drop (k + 1) = [] := List.drop_of_length_le (by rw [Array.length_toList]; show s.size ≤ k + 1; omega)
                rw [hd1] at hd
                have HU : Hid (U = none) := HL.out.none hlt h34 (by rw [hd, first_1 hp h92])
                have g2 : ¬ (k : Int) + 1 < s.size := by omega
                have g3 : ¬ (k : Int) + 2 < s.size := by omega
                clear hd hd1 HL
                go_wp2
                go_returns
                rw [HU.out]
                exact ⟨rfl, hbel⟩
            · have g92 : ((s[k].toNat : Int) == 92) = false := by rw [beq_eq_false_iff_ne]; omega
              cases hx : hexB s[k] with
              | true =>
                have HU : Hid (U = none) := HL.out.none hlt h34 (by rw [hd, first_o (by rw [hx]; simp) h92])
                clear HL hd
                have q3 : (s[k].toNat : Int) < 32 ∨ ¬ (s[k].toNat : Int) < 32 ∧ (126 : Int) < s[k].toNat := by
                  simp [hexB] at hx
                  omega
                rcases q3 with q3 | ⟨q3, q4⟩
                · go_wp2
                  go_returns
                  rw [HU.out]
                  exact ⟨rfl, hbel⟩
                · go_wp2
                  go_returns
                  rw [HU.out]
                  exact ⟨rfl, hbel⟩
              | false =>
                have hm : maskB s[k] = false := by simp [maskB]; omega
                replace HL : Hid (Live s (acc ++ [s[k]]) (k + 1) U) := HL.out.next hlt h34 (by rw [hd, first_p ⟨hx, hm⟩]) (by omega)
                clear hd
                have q3 : ¬ (s[k].toNat : Int) < 32 := by
                  simp [hexB] at hx
                  omega
                have q4 : ¬ (126 : Int) < s[k].toNat := by
                  simp [hexB] at hx
                  omega
                generalize hc : s[k] = c at *
                go_wp2_with (first | (at_builtin; refine wpList_append_own _ rfl _ _ 87 rfl w.heap.size 5 i0 (.int .u8 0) 1 1 Tryz.underlying87 hi hz0 hz1 hz2 rfl (by decide) _ _ _ rfl (hh.alloc _) ⟨wr.heap.size, 0, none⟩ 1 1 (Lib.byteCells [c]) rfl rfl ?c1 ?c2 ?c3 ?c4 ?c5 ?_))
                case c1 =>
                  intro j u hj
                  match j, hj with
                  | 0, hj => simp [Lib.byteCells] at hj; subst hj; first | (simp; done) | simp [Addr.add]
                case c2 => intro u hu; simp [Lib.byteCells] at hu; subst hu; rfl
                case c3 => unfold maxLen; omega
                case c4 => omega
                case c5 => first | (simp; omega) | omega
                intro v2 w2 hown hgrow _
                obtain ⟨R2, B2⟩ := row_grown (m := [c]) hh hbel hz hgrow hown
                clear hown hgrow
                go_wp2
                go_roundw
                case rel => exact ⟨k + 1, _, by omega, by omega, by go_num, by simp; omega, R2, B2, HL⟩
                case measure => simp [RowKit.intOf]; omega
        · have HU : Hid (U = none) := HL.out.over (by omega)
          clear HL
          have g1 : ¬ (k : Int) < s.size := by omega
          go_wp2
          go_returns
          rw [HU.out]
          exact ⟨rfl, hbel⟩
    · obtain ⟨r, er, hr⟩ := list1 s h0
      rw [er, unq, if_neg h34]
      unfold runqV
      dsimp only
      have g : ((s[0].toNat : Int) == 34) = false := by rw [beq_eq_false_iff_ne]; omega
      clear er
      go_enter Tryz.func30, Tryz.ntmps30
      go_wp2
      go_returns
      exact ⟨rfl, Below.refl _ _⟩
  · have hn : s.data.toList = [] := List.length_eq_zero_iff.1 (by rw [Array.length_toList]; show s.size = 0; omega)
    have he := empty_yes s h0
    rw [hn]
    unfold unq runqV
    dsimp only
    clear hn
    go_enter Tryz.func30, Tryz.ntmps30
    go_wp2
    go_returns
    exact ⟨rfl, Below.refl _ _⟩
end Go.Proofs.YtnmdhbejjjmdeaaGreatDoor
