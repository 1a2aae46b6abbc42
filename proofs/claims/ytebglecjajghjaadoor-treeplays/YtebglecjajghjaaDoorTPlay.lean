/-
  What is proved: the law TreePlays of booklaw2, called with any lists of numbers, returns true, and nothing that was there has turned.
  Conditions: the lists lie in memory; the package variable errorType of package errors lies as the text lays it.
-/
import Derived.Test.YtebglecjajghjaaDoorTPlayM
import Derived.Test.YtebglecjajghjaaDoorTold
import Derived.Deep.CutBlock
import Derived.Deep.CutRange
import Derived.Deep.LoopGhost
namespace Go.Proofs.YtebglecjajghjaaDoor
open Go.RowKit

/-- A slice value that holds lists of numbers. -/
def IsRows (w : World) (v : Value) (ls : List (List Int)) : Prop :=
  ∃ a cap, v = .slice a ls.length cap ∧ ls.length ≤ cap ∧ ls.length ≤ 17592186044416 ∧ (ls ≠ [] → ∃ b off, a = some ⟨b, off, none⟩ ∧ b < w.heap.size ∧ ∀ i (h : i < ls.length), ∃ u, w.cell? ⟨b, off + i, none⟩ = some u ∧ IsInts w u ls[i])

set_option maxRecDepth 100000 in
set_option maxHeartbeats 4000000 in
theorem pick7 (a : Int) : ∃ r : Nat, r < 7 ∧ ∀ w, Calls Tryd.prog 6 #[.int .i64 a, .int .i64 7] w fun e w' => e = .returned (.int .i64 (r : Int)) ∧ w' = w := by
  obtain ⟨r, h2, h3⟩ := pick_val a 7 (by omega) (by omega)
  refine ⟨r, by omega, fun w => ?_⟩
  have HR : Hid ((wrap64 (a.tmod 7 + 7)).tmod 7 = (r : Int)) := h3
  clear h2 h3
  go_enter Tryd.func6, Tryd.ntmps6
  go_wp2
  go_ret
  exact ⟨by rw [← HR.out]; rfl, rfl⟩

theorem row_form {B : Nat} {v : Value} {l : List Int} {w : World} (h : RowI B v l w) : ∃ a c, v = .slice a l.length c := by
  rcases h.2 with ⟨rfl, h0⟩ | ⟨g, cap, cur, rfl, _⟩
  · exact ⟨none, 0, by rw [h0]⟩
  · exact ⟨_, _, rfl⟩

/-- How much a call may add to what was looked at. -/
theorem cost_next {n kk h k' : Nat} (h1 : kk ≤ n * 4000) (h2 : h ≤ n) (h3 : n < 200) (h4 : k' ≤ kk + 18 * h + 16) : k' ≤ (n + 1) * 4000 := by omega
theorem cost_in {n kk h : Nat} (h1 : kk ≤ n * 4000) (h2 : h ≤ n) (h3 : n < 200) : kk + 18 * h ≤ 4611686018427382000 ∧ kk + 4 * h ≤ 4611686018427382000 ∧ kk + 2 * h ≤ 4611686018427382000 := by omega

theorem atL_i64 {w : World} {v : Value} {l : List Int} (h : IsInts w v l) (i : Nat) : I64 (atL l i) := by
  obtain ⟨_, _, _, _, _, hr, _⟩ := h
  unfold atL
  rw [List.getD_eq_getElem?_getD]
  rcases Nat.lt_or_ge i l.length with h1 | h1
  · rw [List.getElem?_eq_getElem h1]; exact hr _ (List.getElem_mem h1)
  · rw [List.getElem?_eq_none h1]; unfold I64; simp

set_option maxRecDepth 100000 in
set_option maxHeartbeats 40000000 in
theorem plays_any (v : Value) (ls : List (List Int)) (w : World) (hv : IsRows w v ls) (hE : Et w) :
    Calls Tryd.prog 3 #[v] w fun e w' => e = .returned (.bool true) ∧ Below w.heap.size w w' := by
  obtain ⟨a0, cap0, rfl, hc1, hc2, h3⟩ := hv
  have H3 : Hid (ls ≠ [] → ∃ b off, a0 = some ⟨b, off, none⟩ ∧ b < w.heap.size ∧ ∀ i (h : i < ls.length), ∃ u, w.cell? ⟨b, off + i, none⟩ = some u ∧ IsInts w u ls[i]) := h3
  have HET : Hid (Et w) := hE
  have HC : Hid (ls.length ≤ cap0 ∧ ls.length ≤ 17592186044416) := ⟨hc1, hc2⟩
  clear h3 hE hc1 hc2
  go_enter Tryd.func3, Tryd.ntmps3
  go_wp2_with fail
  go_fit (new_any w)
  rintro e w1 ⟨rfl, R0, B0⟩
  have HP0 : Hid (Ply w w.heap.size 0 .nil 0 (.slice none 0 0) (.slice none 0 0) w1) := ⟨R0, World.ownsRow_nil _ _ _ _, World.ownsRow_nil _ _ _ _, (fun z hz => by cases hz), (by simp [Deep.BT.items]), Nat.le_refl _, Nat.le_refl _, B0⟩
  clear R0 B0
  go_wp2_with fail
  go_loopg [4, 5, 6] 200 (fun gk tv wv i wr => ∃ n t kk, i = .int .i64 ((n : Nat) : Int) ∧ n + gk = 200 ∧ n ≤ ls.length ∧ Ply w w.heap.size n t kk tv wv wr)
  case atStart => exact ⟨0, .nil, 0, rfl, by omega, Nat.zero_le _, HP0.out⟩
  case round =>
    clear HP0
    obtain ⟨n, t, kk, rfl, hgk, hnl, hP⟩ := hrel
    obtain ⟨ta, tc, rfl⟩ := row_form hP.th
    obtain ⟨wa, wc, rfl⟩ := row_form hP.wd
    rw [ths_len, wds_len] at hP ⊢
    have HP : Hid (Ply w w.heap.size n t kk (.slice ta t.many tc) (.slice wa t.many wc) wr) := hP
    have HG : Hid (n + gk = 200 ∧ n ≤ ls.length) := ⟨hgk, hnl⟩
    clear hP hgk hnl
    by_cases hlt : n < ls.length
    · by_cases h200 : n < 200
      · obtain ⟨b, off, rfl, h4, h5⟩ := H3.out (fun e => by rw [e] at hlt; simp at hlt)
        obtain ⟨sv, hsc, hsv⟩ := h5 n hlt
        obtain ⟨l, hl⟩ : ∃ l : List Int, ls[n] = l := ⟨_, rfl⟩
        rw [hl] at hsv
        clear hl
        have c0 : wr.cell? ⟨b, off + n, none⟩ = some sv := by rw [HP.out.bel.cell (p := ⟨b, off + n, none⟩) h4]; exact hsc
        have g1 : (n : Int) < ls.length := by omega
        have g2 : (n : Int) < 200 := by omega
        have HS : Hid (IsInts w sv l) := hsv
        have HX : Hid (∀ i, I64 (atL l i)) := fun i => atL_i64 hsv i
        have HL : Hid (n < ls.length ∧ n < 200) := ⟨hlt, h200⟩
        have HAT : Hid (∀ i wx, Below w.heap.size w wx → Calls Tryd.prog 5 #[sv, .int .i64 ((i : Nat) : Int)] wx fun e w' => e = .returned (.int .i64 (atL l i)) ∧ w' = wx) := fun i wx hb => at_any sv l i wx (hsv.below hb)
        obtain ⟨r, hr, hPK⟩ := pick7 (atL l 0)
        have HPK : Hid _ := hPK
        have HR : Hid (r < 7) := hr
        obtain ⟨K, HK⟩ : ∃ K : Int, Hid (K = atL l 1) := ⟨_, rfl⟩
        obtain ⟨X, HXX⟩ : ∃ K : Int, Hid (K = atL l 2) := ⟨_, rfl⟩
        obtain ⟨U, HU⟩ : ∃ K : Int, Hid (K = atL l 3) := ⟨_, rfl⟩
        obtain ⟨M, HM⟩ : ∃ M : Int, Hid (M = (t.many : Int)) := ⟨_, rfl⟩
        obtain ⟨inn, HIN⟩ : ∃ x : Bool, Hid (x = decide (0 ≤ K ∧ K < M)) := ⟨_, rfl⟩
        obtain ⟨good, HGD⟩ : ∃ x : Bool, Hid (x = decide (0 ≤ U ∧ U ≤ 1000000)) := ⟨_, rfl⟩
        clear hlt h200 h5 hsc hsv hPK hr
        have A1 : Calls Tryd.prog 5 #[sv, .int .i64 1] wr fun e w' => e = .returned (.int .i64 K) ∧ w' = wr := by rw [HK.out]; exact HAT.out 1 wr HP.out.bel
        go_wp2_with fail
        go_fit A1
        rintro e w2 ⟨rfl, hw⟩
        subst w2
        clear A1 c0
        go_upto_region 9 with fail
        rw [← HM.out]
        go_cut [10] from 68 to 74 (fun x wx => x = .bool inn ∧ wr = wx)
        case first =>
          by_cases q1 : 0 ≤ K
          · by_cases q2 : K < M
            · go_wp2
              go_meet
              case rel => exact ⟨by rw [HIN.out, decide_eq_true (show 0 ≤ K ∧ K < M by omega)], rfl⟩
            · go_wp2
              go_meet
              case rel => exact ⟨by rw [HIN.out, decide_eq_false (by omega)], rfl⟩
          · go_wp2
            go_meet
            case rel => exact ⟨by rw [HIN.out, decide_eq_false (by omega)], rfl⟩
        case rest =>
          obtain ⟨rfl, rfl⟩ := hcut
          have A3 : Calls Tryd.prog 5 #[sv, .int .i64 3] wr fun e w' => e = .returned (.int .i64 U) ∧ w' = wr := by rw [HU.out]; exact HAT.out 3 wr HP.out.bel
          go_upto_region 10 with fail
          go_cut [11] from 75 to 82 (fun x wx => x = .bool good ∧ wr = wx)
          case first =>
            by_cases q1 : 0 ≤ U
            · by_cases q2 : U ≤ 1000000
              · go_wp2_with fail
                go_fit A3
                rintro e w2 ⟨rfl, hw⟩
                subst w2
                go_wp2_with fail
                go_fit A3
                rintro e w2 ⟨rfl, hw⟩
                subst w2
                go_wp2
                go_meet
                case rel => exact ⟨by rw [HGD.out, decide_eq_true (show 0 ≤ U ∧ U ≤ 1000000 by omega)], rfl⟩
              · go_wp2_with fail
                go_fit A3
                rintro e w2 ⟨rfl, hw⟩
                subst w2
                go_wp2_with fail
                go_fit A3
                rintro e w2 ⟨rfl, hw⟩
                subst w2
                go_wp2
                go_meet
                case rel => exact ⟨by rw [HGD.out, decide_eq_false (show ¬ (0 ≤ U ∧ U ≤ 1000000) by omega), decide_eq_false (show ¬ U ≤ 1000000 by omega)], rfl⟩
            · go_wp2_with fail
              go_fit A3
              rintro e w2 ⟨rfl, hw⟩
              subst w2
              go_wp2
              go_meet
              case rel => exact ⟨by rw [HGD.out, decide_eq_false (by omega)], rfl⟩
          case rest =>
            obtain ⟨rfl, rfl⟩ := hcut
            clear A3
            have HA2 : Hid (∀ wx, Below w.heap.size w wx → Calls Tryd.prog 5 #[sv, .int .i64 2] wx fun e w' => e = .returned (.int .i64 X) ∧ w' = wx) := fun wx hb => by rw [HXX.out]; exact HAT.out 2 wx hb
            have HA3 : Hid (∀ wx, Below w.heap.size w wx → Calls Tryd.prog 5 #[sv, .int .i64 3] wx fun e w' => e = .returned (.int .i64 U) ∧ w' = wx) := fun wx hb => by rw [HU.out]; exact HAT.out 3 wx hb
            have A0 : Calls Tryd.prog 5 #[sv, .int .i64 0] wr fun e w' => e = .returned (.int .i64 (atL l 0)) ∧ w' = wr := HAT.out 0 wr HP.out.bel
            go_wp2_with fail
            go_fit A0
            rintro e w2 ⟨rfl, hw⟩
            subst w2
            go_wp2_with fail
            go_fit (HPK.out wr)
            rintro e w2 ⟨rfl, hw⟩
            subst w2
            clear A0
            have hr := HR.out
            obtain rfl | rfl | rfl | rfl | rfl | rfl | rfl : r = 0 ∨ r = 1 ∨ r = 2 ∨ r = 3 ∨ r = 4 ∨ r = 5 ∨ r = 6 := by omega
            all_goals clear hr HR HPK HAT HS
            · as_aux_lemma =>
                by_cases q1 : K < 0
                · go_wp2_with fail
                  go_fit (HA2.out wr HP.out.bel)
                  rintro e wq ⟨rfl, hw⟩
                  subst wq
                  go_wp2_with fail
                  go_fit (HA3.out wr HP.out.bel)
                  rintro e wq ⟨rfl, hw⟩
                  subst wq
                  go_wp2_with fail
                  go_fit (kinsert_bad1 t K X U w.heap.size w.heap.size kk wr HP.out.row (by omega))
                  rintro e w3 ⟨rfl, R3, K3⟩
                  have HP3 : Hid _ := HP.out.count R3 K3 (by have := HP.out.cst; omega)
                  clear R3 K3
                  go_wp2_with fail
                  go_fit (error_errno 1 w3 (HET.out.below HP3.out.bel))
                  rintro e w4 ⟨rfl, b4⟩
                  have HP4 : Hid _ := HP3.out.below b4
                  clear b4
                  obtain ⟨k9, HP9⟩ : ∃ k9, Hid (Ply w w.heap.size (n + 1) t k9 _ _ w4) := ⟨_, HP4.out⟩
                  go_wp2_with fail
                  go_loopg [45, 46] t.many (fun gk s j wy => ∃ jn : Nat, jn + gk = t.many ∧ j = .int .i64 (jn : Int) ∧ s = .int .i64 (t.pre jn) ∧ w4 = wy)
                  case atStart => exact ⟨0, by omega, rfl, by simp [Deep.BT.pre], rfl⟩
                  case round =>
                    obtain ⟨jn, hj, rfl, rfl, rfl⟩ := hrel
                    by_cases hlt : jn < t.many
                    · obtain ⟨bz, hbz, hbl, hcz⟩ := HP9.out.wcell (j := jn) (Nat.lt_of_lt_of_eq hlt (Eq.symm rfl))
                      first
                        | subst hbz
                        | (injection hbz with hbz; injection hbz with hbz; subst hbz)
                      have g9 : (jn : Int) < t.many := by omega
                      have g7 : (jn : Int) < 1000 := by have := Nat.lt_of_lt_of_le (Nat.lt_of_lt_of_eq hlt (Eq.symm rfl)) (Nat.le_trans HP9.out.mny (show n + 1 ≤ 1000 by have := HL.out; omega)); omega
                      have y9 : wrap64 (t.pre jn + (t.at' jn).2.2) = t.pre (jn + 1) := HP9.out.psum (Nat.lt_of_lt_of_eq hlt (Eq.symm rfl))
                      have HJ : Hid (jn + gk = t.many ∧ jn < t.many) := ⟨hj, hlt⟩
                      have HY : Hid _ := y9
                      have HJB : Hid (jn < 1000) := Nat.lt_of_lt_of_le (Nat.lt_of_lt_of_eq hlt (Eq.symm rfl)) (Nat.le_trans HP9.out.mny (by have := HL.out; omega))
                      clear hj hlt
                      go_wp2
                      go_roundg (gk - 1)
                      case measure => have := HJ.out; omega
                      case rel => exact ⟨jn + 1, by have := HJ.out; omega, by first | rfl | go_num | (congr 1; unfold wrap64; have := HJB.out; omega), by first | rfl | rw [HY.out], rfl⟩
                    · have hje : jn = t.many := by omega
                      have g9 : ¬ (t.many : Int) < t.many := by omega
                      clear hj hlt
                      subst hje
                      rw [show t.pre t.many = t.wide from (congrArg _ (Eq.symm rfl)).trans (pre_all _)]
                      have E7 := len_any t w.heap.size k9 w4 HP9.out.row.at_ HP9.out.row.row
                      go_wp2_with fail
                      go_fit E7
                      rintro e w7 ⟨rfl, b7⟩
                      have HP7 : Hid _ := HP9.out.below b7
                      clear b7 E7
                      go_wp2_with fail
                      go_fit (wide_any t w.heap.size k9 w7 HP7.out.row.at_ HP7.out.row.row)
                      rintro e w8 ⟨rfl, b8⟩
                      have HP8 : Hid _ := HP7.out.below b8
                      clear b8
                      go_wp2
                      go_roundg (199 - n)
                      case measure => have := HG.out; have := HL.out; omega
                      case rel => exact ⟨n + 1, t, k9, by go_num, by have := HL.out; omega, by have := HL.out; omega, HP8.out⟩
                · by_cases q2 : M < K
                  · go_wp2_with fail
                    go_fit (HA2.out wr HP.out.bel)
                    rintro e wq ⟨rfl, hw⟩
                    subst wq
                    go_wp2_with fail
                    go_fit (HA3.out wr HP.out.bel)
                    rintro e wq ⟨rfl, hw⟩
                    subst wq
                    go_wp2_with fail
                    go_fit (kinsert_bad1 t K X U w.heap.size w.heap.size kk wr HP.out.row (by have := HM.out; omega))
                    rintro e w3 ⟨rfl, R3, K3⟩
                    have HP3 : Hid _ := HP.out.count R3 K3 (by have := HP.out.cst; omega)
                    clear R3 K3
                    go_wp2_with fail
                    go_fit (error_errno 1 w3 (HET.out.below HP3.out.bel))
                    rintro e w4 ⟨rfl, b4⟩
                    have HP4 : Hid _ := HP3.out.below b4
                    clear b4
                    obtain ⟨k9, HP9⟩ : ∃ k9, Hid (Ply w w.heap.size (n + 1) t k9 _ _ w4) := ⟨_, HP4.out⟩
                    go_wp2_with fail
                    go_loopg [45, 46] t.many (fun gk s j wy => ∃ jn : Nat, jn + gk = t.many ∧ j = .int .i64 (jn : Int) ∧ s = .int .i64 (t.pre jn) ∧ w4 = wy)
                    case atStart => exact ⟨0, by omega, rfl, by simp [Deep.BT.pre], rfl⟩
                    case round =>
                      obtain ⟨jn, hj, rfl, rfl, rfl⟩ := hrel
                      by_cases hlt : jn < t.many
                      · obtain ⟨bz, hbz, hbl, hcz⟩ := HP9.out.wcell (j := jn) (Nat.lt_of_lt_of_eq hlt (Eq.symm rfl))
                        first
                          | subst hbz
                          | (injection hbz with hbz; injection hbz with hbz; subst hbz)
                        have g9 : (jn : Int) < t.many := by omega
                        have g7 : (jn : Int) < 1000 := by have := Nat.lt_of_lt_of_le (Nat.lt_of_lt_of_eq hlt (Eq.symm rfl)) (Nat.le_trans HP9.out.mny (show n + 1 ≤ 1000 by have := HL.out; omega)); omega
                        have y9 : wrap64 (t.pre jn + (t.at' jn).2.2) = t.pre (jn + 1) := HP9.out.psum (Nat.lt_of_lt_of_eq hlt (Eq.symm rfl))
                        have HJ : Hid (jn + gk = t.many ∧ jn < t.many) := ⟨hj, hlt⟩
                        have HY : Hid _ := y9
                        have HJB : Hid (jn < 1000) := Nat.lt_of_lt_of_le (Nat.lt_of_lt_of_eq hlt (Eq.symm rfl)) (Nat.le_trans HP9.out.mny (by have := HL.out; omega))
                        clear hj hlt
                        go_wp2
                        go_roundg (gk - 1)
                        case measure => have := HJ.out; omega
                        case rel => exact ⟨jn + 1, by have := HJ.out; omega, by first | rfl | go_num | (congr 1; unfold wrap64; have := HJB.out; omega), by first | rfl | rw [HY.out], rfl⟩
                      · have hje : jn = t.many := by omega
                        have g9 : ¬ (t.many : Int) < t.many := by omega
                        clear hj hlt
                        subst hje
                        rw [show t.pre t.many = t.wide from (congrArg _ (Eq.symm rfl)).trans (pre_all _)]
                        have E7 := len_any t w.heap.size k9 w4 HP9.out.row.at_ HP9.out.row.row
                        go_wp2_with fail
                        go_fit E7
                        rintro e w7 ⟨rfl, b7⟩
                        have HP7 : Hid _ := HP9.out.below b7
                        clear b7 E7
                        go_wp2_with fail
                        go_fit (wide_any t w.heap.size k9 w7 HP7.out.row.at_ HP7.out.row.row)
                        rintro e w8 ⟨rfl, b8⟩
                        have HP8 : Hid _ := HP7.out.below b8
                        clear b8
                        go_wp2
                        go_roundg (199 - n)
                        case measure => have := HG.out; have := HL.out; omega
                        case rel => exact ⟨n + 1, t, k9, by go_num, by have := HL.out; omega, by have := HL.out; omega, HP8.out⟩
                  · by_cases hg : good = false
                    · subst hg
                      have hU : ¬ (0 ≤ U ∧ U ≤ 1000000) := of_decide_eq_false HGD.out.symm
                      have HNU : Hid (¬ (0 ≤ U ∧ U ≤ 1000000)) := hU
                      clear hU
                      go_wp2_with fail
                      go_fit (HA2.out wr HP.out.bel)
                      rintro e wq ⟨rfl, hw⟩
                      subst wq
                      go_wp2_with fail
                      go_fit (HA3.out wr HP.out.bel)
                      rintro e wq ⟨rfl, hw⟩
                      subst wq
                      go_wp2_with fail
                      go_fit (kinsert_bad2 t K X U w.heap.size w.heap.size kk wr HP.out.row (by have := HM.out; omega) HNU.out)
                      rintro e w3 ⟨rfl, R3, K3⟩
                      have HP3 : Hid _ := HP.out.count R3 K3 (by have := HP.out.cst; omega)
                      clear R3 K3
                      go_wp2_with fail
                      go_fit (error_errno 1 w3 (HET.out.below HP3.out.bel))
                      rintro e w4 ⟨rfl, b4⟩
                      have HP4 : Hid _ := HP3.out.below b4
                      clear b4
                      obtain ⟨k9, HP9⟩ : ∃ k9, Hid (Ply w w.heap.size (n + 1) t k9 _ _ w4) := ⟨_, HP4.out⟩
                      go_wp2_with fail
                      go_loopg [45, 46] t.many (fun gk s j wy => ∃ jn : Nat, jn + gk = t.many ∧ j = .int .i64 (jn : Int) ∧ s = .int .i64 (t.pre jn) ∧ w4 = wy)
                      case atStart => exact ⟨0, by omega, rfl, by simp [Deep.BT.pre], rfl⟩
                      case round =>
                        obtain ⟨jn, hj, rfl, rfl, rfl⟩ := hrel
                        by_cases hlt : jn < t.many
                        · obtain ⟨bz, hbz, hbl, hcz⟩ := HP9.out.wcell (j := jn) (Nat.lt_of_lt_of_eq hlt (Eq.symm rfl))
                          first
                            | subst hbz
                            | (injection hbz with hbz; injection hbz with hbz; subst hbz)
                          have g9 : (jn : Int) < t.many := by omega
                          have g7 : (jn : Int) < 1000 := by have := Nat.lt_of_lt_of_le (Nat.lt_of_lt_of_eq hlt (Eq.symm rfl)) (Nat.le_trans HP9.out.mny (show n + 1 ≤ 1000 by have := HL.out; omega)); omega
                          have y9 : wrap64 (t.pre jn + (t.at' jn).2.2) = t.pre (jn + 1) := HP9.out.psum (Nat.lt_of_lt_of_eq hlt (Eq.symm rfl))
                          have HJ : Hid (jn + gk = t.many ∧ jn < t.many) := ⟨hj, hlt⟩
                          have HY : Hid _ := y9
                          have HJB : Hid (jn < 1000) := Nat.lt_of_lt_of_le (Nat.lt_of_lt_of_eq hlt (Eq.symm rfl)) (Nat.le_trans HP9.out.mny (by have := HL.out; omega))
                          clear hj hlt
                          go_wp2
                          go_roundg (gk - 1)
                          case measure => have := HJ.out; omega
                          case rel => exact ⟨jn + 1, by have := HJ.out; omega, by first | rfl | go_num | (congr 1; unfold wrap64; have := HJB.out; omega), by first | rfl | rw [HY.out], rfl⟩
                        · have hje : jn = t.many := by omega
                          have g9 : ¬ (t.many : Int) < t.many := by omega
                          clear hj hlt
                          subst hje
                          rw [show t.pre t.many = t.wide from (congrArg _ (Eq.symm rfl)).trans (pre_all _)]
                          have E7 := len_any t w.heap.size k9 w4 HP9.out.row.at_ HP9.out.row.row
                          go_wp2_with fail
                          go_fit E7
                          rintro e w7 ⟨rfl, b7⟩
                          have HP7 : Hid _ := HP9.out.below b7
                          clear b7 E7
                          go_wp2_with fail
                          go_fit (wide_any t w.heap.size k9 w7 HP7.out.row.at_ HP7.out.row.row)
                          rintro e w8 ⟨rfl, b8⟩
                          have HP8 : Hid _ := HP7.out.below b8
                          clear b8
                          go_wp2
                          go_roundg (199 - n)
                          case measure => have := HG.out; have := HL.out; omega
                          case rel => exact ⟨n + 1, t, k9, by go_num, by have := HL.out; omega, by have := HL.out; omega, HP8.out⟩
                    · obtain rfl : good = true := by simpa using hg
                      have hU : 0 ≤ U ∧ U ≤ 1000000 := of_decide_eq_true HGD.out.symm
                      obtain ⟨a, rfl⟩ : ∃ a : Nat, K = (a : Int) := ⟨K.toNat, by omega⟩
                      have ha : a ≤ t.many := by have := HM.out; omega
                      have HO : Hid (a ≤ t.many ∧ (0 ≤ U ∧ U ≤ 1000000) ∧ t.many < 100000) := ⟨ha, hU, by have := HP.out.mny; have := HL.out; omega⟩
                      clear ha hU
                      go_wp2_with fail
                      go_fit (HA2.out wr HP.out.bel)
                      rintro e wq ⟨rfl, hw⟩
                      subst wq
                      go_wp2_with fail
                      go_fit (HA3.out wr HP.out.bel)
                      rintro e wq ⟨rfl, hw⟩
                      subst wq
                      go_wp2_with fail
                      go_fit (kinsert_ok t a X U w.heap.size w.heap.size kk wr (cost_in HP.out.cst HP.out.high HL.out.2).1 HP.out.row HO.out.1 HO.out.2.1 HO.out.2.2)
                      rintro e w3 ⟨rfl, ⟨nb, k3, R3, hk3⟩, K3⟩
                      have HR3 : Hid (_ ∧ _ ∧ _) := ⟨R3, K3, hk3⟩
                      have HB3 : Hid (Below w.heap.size w w3) := HP.out.bel.trans (kp_low HP.out.row K3)
                      clear R3 K3 hk3
                      go_wp2_with fail
                      go_fit (error_nil w3)
                      rintro e w4 ⟨rfl, b4⟩
                      have HK4 : Hid (Kp (w.heap.size :: t.blocks) wr w4) := HR3.out.2.1.trans (Kp.of b4)
                      have HB4 : Hid (Below w.heap.size w w4) := HB3.out.trans (b4.mono HB3.out.size)
                      have HR4 : Hid _ := HR3.out.1.below b4
                      clear b4
                      go_wp2_with fail
                      go_fit (HA2.out w4 HB4.out)
                      rintro e wq ⟨rfl, hw⟩
                      subst wq
                      go_wp2_with fail
                      go_fit (put_any w.heap.size _ t.ths a X w4 (rowI_kp HP.out.th HK4.out (rowI_off HP.out.th HP.out.row)) HP.out.i64t (by rw [ths_len]; have := HO.out.1; have := HP.out.mny; have := HL.out; omega) (by rw [ths_len]; exact HO.out.1))
                      rintro e w5 ⟨tu, rfl, T5, b5⟩
                      have HT5 : Hid (_ ∧ _) := ⟨T5, b5⟩
                      have HB5 : Hid (Below w.heap.size w w5) := HB4.out.trans (b5.mono HB4.out.size)
                      clear T5 b5
                      go_wp2_with fail
                      go_fit (HA3.out w5 HB5.out)
                      rintro e wq ⟨rfl, hw⟩
                      subst wq
                      go_wp2_with fail
                      go_fit (put_any w.heap.size _ t.wds a U w5 (rowI_kp HP.out.wd (HK4.out.trans (Kp.of HT5.out.2)) (rowI_off HP.out.wd HP.out.row)) HP.out.i64w (by rw [wds_len]; have := HO.out.1; have := HP.out.mny; have := HL.out; omega) (by rw [wds_len]; exact HO.out.1))
                      rintro e w6 ⟨wu, rfl, W6, b6⟩
                      have HW6 : Hid (_ ∧ _) := ⟨W6, b6⟩
                      clear W6 b6
                      obtain ⟨T, k9, HP9⟩ : ∃ T k9, Hid (Ply w w.heap.size (n + 1) T k9 tu wu w6) := ⟨_, _, HP.out.ins HO.out.1 (by rw [HXX.out]; exact HX.out 2) HR4.out HK4.out (cost_next HP.out.cst HP.out.high HL.out.2 HR3.out.2.2) HT5.out.1 HT5.out.2 HW6.out.1 HW6.out.2⟩
                      obtain ⟨ta9, tc9, rfl⟩ := row_form HP9.out.th
                      obtain ⟨wa9, wc9, rfl⟩ := row_form HP9.out.wd
                      rw [ths_len, wds_len] at HP9 ⊢
                      go_wp2_with fail
                      go_loopg [45, 46] T.many (fun gk s j wy => ∃ jn : Nat, jn + gk = T.many ∧ j = .int .i64 (jn : Int) ∧ s = .int .i64 (T.pre jn) ∧ w6 = wy)
                      case atStart => exact ⟨0, by omega, rfl, by simp [Deep.BT.pre], rfl⟩
                      case round =>
                        obtain ⟨jn, hj, rfl, rfl, rfl⟩ := hrel
                        by_cases hlt : jn < T.many
                        · obtain ⟨bz, hbz, hbl, hcz⟩ := HP9.out.wcell (j := jn) (Nat.lt_of_lt_of_eq hlt (Eq.symm rfl))
                          first
                            | subst hbz
                            | (injection hbz with hbz; injection hbz with hbz; subst hbz)
                          have g9 : (jn : Int) < T.many := by omega
                          have g7 : (jn : Int) < 1000 := by have := Nat.lt_of_lt_of_le (Nat.lt_of_lt_of_eq hlt (Eq.symm rfl)) (Nat.le_trans HP9.out.mny (show n + 1 ≤ 1000 by have := HL.out; omega)); omega
                          have y9 : wrap64 (T.pre jn + (T.at' jn).2.2) = T.pre (jn + 1) := HP9.out.psum (Nat.lt_of_lt_of_eq hlt (Eq.symm rfl))
                          have HJ : Hid (jn + gk = T.many ∧ jn < T.many) := ⟨hj, hlt⟩
                          have HY : Hid _ := y9
                          have HJB : Hid (jn < 1000) := Nat.lt_of_lt_of_le (Nat.lt_of_lt_of_eq hlt (Eq.symm rfl)) (Nat.le_trans HP9.out.mny (by have := HL.out; omega))
                          clear hj hlt
                          go_wp2
                          go_roundg (gk - 1)
                          case measure => have := HJ.out; omega
                          case rel => exact ⟨jn + 1, by have := HJ.out; omega, by first | rfl | go_num | (congr 1; unfold wrap64; have := HJB.out; omega), by first | rfl | rw [HY.out], rfl⟩
                        · have hje : jn = T.many := by omega
                          have g9 : ¬ (T.many : Int) < T.many := by omega
                          clear hj hlt
                          subst hje
                          rw [show T.pre T.many = T.wide from (congrArg _ (Eq.symm rfl)).trans (pre_all _)]
                          have E7 := len_any T w.heap.size k9 w6 HP9.out.row.at_ HP9.out.row.row
                          go_wp2_with fail
                          go_fit E7
                          rintro e w7 ⟨rfl, b7⟩
                          have HP7 : Hid _ := HP9.out.below b7
                          clear b7 E7
                          go_wp2_with fail
                          go_fit (wide_any T w.heap.size k9 w7 HP7.out.row.at_ HP7.out.row.row)
                          rintro e w8 ⟨rfl, b8⟩
                          have HP8 : Hid _ := HP7.out.below b8
                          clear b8
                          go_wp2
                          go_roundg (199 - n)
                          case measure => have := HG.out; have := HL.out; omega
                          case rel => exact ⟨n + 1, T, k9, by go_num, by have := HL.out; omega, by have := HL.out; omega, HP8.out⟩
            · as_aux_lemma =>
                by_cases q1 : K < 0
                · go_wp2_with fail
                  go_fit (HA2.out wr HP.out.bel)
                  rintro e wq ⟨rfl, hw⟩
                  subst wq
                  go_wp2_with fail
                  go_fit (HA3.out wr HP.out.bel)
                  rintro e wq ⟨rfl, hw⟩
                  subst wq
                  go_wp2_with fail
                  go_fit (kinsert_bad1 t K X U w.heap.size w.heap.size kk wr HP.out.row (by omega))
                  rintro e w3 ⟨rfl, R3, K3⟩
                  have HP3 : Hid _ := HP.out.count R3 K3 (by have := HP.out.cst; omega)
                  clear R3 K3
                  go_wp2_with fail
                  go_fit (error_errno 1 w3 (HET.out.below HP3.out.bel))
                  rintro e w4 ⟨rfl, b4⟩
                  have HP4 : Hid _ := HP3.out.below b4
                  clear b4
                  obtain ⟨k9, HP9⟩ : ∃ k9, Hid (Ply w w.heap.size (n + 1) t k9 _ _ w4) := ⟨_, HP4.out⟩
                  go_wp2_with fail
                  go_loopg [45, 46] t.many (fun gk s j wy => ∃ jn : Nat, jn + gk = t.many ∧ j = .int .i64 (jn : Int) ∧ s = .int .i64 (t.pre jn) ∧ w4 = wy)
                  case atStart => exact ⟨0, by omega, rfl, by simp [Deep.BT.pre], rfl⟩
                  case round =>
                    obtain ⟨jn, hj, rfl, rfl, rfl⟩ := hrel
                    by_cases hlt : jn < t.many
                    · obtain ⟨bz, hbz, hbl, hcz⟩ := HP9.out.wcell (j := jn) (Nat.lt_of_lt_of_eq hlt (Eq.symm rfl))
                      first
                        | subst hbz
                        | (injection hbz with hbz; injection hbz with hbz; subst hbz)
                      have g9 : (jn : Int) < t.many := by omega
                      have g7 : (jn : Int) < 1000 := by have := Nat.lt_of_lt_of_le (Nat.lt_of_lt_of_eq hlt (Eq.symm rfl)) (Nat.le_trans HP9.out.mny (show n + 1 ≤ 1000 by have := HL.out; omega)); omega
                      have y9 : wrap64 (t.pre jn + (t.at' jn).2.2) = t.pre (jn + 1) := HP9.out.psum (Nat.lt_of_lt_of_eq hlt (Eq.symm rfl))
                      have HJ : Hid (jn + gk = t.many ∧ jn < t.many) := ⟨hj, hlt⟩
                      have HY : Hid _ := y9
                      have HJB : Hid (jn < 1000) := Nat.lt_of_lt_of_le (Nat.lt_of_lt_of_eq hlt (Eq.symm rfl)) (Nat.le_trans HP9.out.mny (by have := HL.out; omega))
                      clear hj hlt
                      go_wp2
                      go_roundg (gk - 1)
                      case measure => have := HJ.out; omega
                      case rel => exact ⟨jn + 1, by have := HJ.out; omega, by first | rfl | go_num | (congr 1; unfold wrap64; have := HJB.out; omega), by first | rfl | rw [HY.out], rfl⟩
                    · have hje : jn = t.many := by omega
                      have g9 : ¬ (t.many : Int) < t.many := by omega
                      clear hj hlt
                      subst hje
                      rw [show t.pre t.many = t.wide from (congrArg _ (Eq.symm rfl)).trans (pre_all _)]
                      have E7 := len_any t w.heap.size k9 w4 HP9.out.row.at_ HP9.out.row.row
                      go_wp2_with fail
                      go_fit E7
                      rintro e w7 ⟨rfl, b7⟩
                      have HP7 : Hid _ := HP9.out.below b7
                      clear b7 E7
                      go_wp2_with fail
                      go_fit (wide_any t w.heap.size k9 w7 HP7.out.row.at_ HP7.out.row.row)
                      rintro e w8 ⟨rfl, b8⟩
                      have HP8 : Hid _ := HP7.out.below b8
                      clear b8
                      go_wp2
                      go_roundg (199 - n)
                      case measure => have := HG.out; have := HL.out; omega
                      case rel => exact ⟨n + 1, t, k9, by go_num, by have := HL.out; omega, by have := HL.out; omega, HP8.out⟩
                · by_cases q2 : M < K
                  · go_wp2_with fail
                    go_fit (HA2.out wr HP.out.bel)
                    rintro e wq ⟨rfl, hw⟩
                    subst wq
                    go_wp2_with fail
                    go_fit (HA3.out wr HP.out.bel)
                    rintro e wq ⟨rfl, hw⟩
                    subst wq
                    go_wp2_with fail
                    go_fit (kinsert_bad1 t K X U w.heap.size w.heap.size kk wr HP.out.row (by have := HM.out; omega))
                    rintro e w3 ⟨rfl, R3, K3⟩
                    have HP3 : Hid _ := HP.out.count R3 K3 (by have := HP.out.cst; omega)
                    clear R3 K3
                    go_wp2_with fail
                    go_fit (error_errno 1 w3 (HET.out.below HP3.out.bel))
                    rintro e w4 ⟨rfl, b4⟩
                    have HP4 : Hid _ := HP3.out.below b4
                    clear b4
                    obtain ⟨k9, HP9⟩ : ∃ k9, Hid (Ply w w.heap.size (n + 1) t k9 _ _ w4) := ⟨_, HP4.out⟩
                    go_wp2_with fail
                    go_loopg [45, 46] t.many (fun gk s j wy => ∃ jn : Nat, jn + gk = t.many ∧ j = .int .i64 (jn : Int) ∧ s = .int .i64 (t.pre jn) ∧ w4 = wy)
                    case atStart => exact ⟨0, by omega, rfl, by simp [Deep.BT.pre], rfl⟩
                    case round =>
                      obtain ⟨jn, hj, rfl, rfl, rfl⟩ := hrel
                      by_cases hlt : jn < t.many
                      · obtain ⟨bz, hbz, hbl, hcz⟩ := HP9.out.wcell (j := jn) (Nat.lt_of_lt_of_eq hlt (Eq.symm rfl))
                        first
                          | subst hbz
                          | (injection hbz with hbz; injection hbz with hbz; subst hbz)
                        have g9 : (jn : Int) < t.many := by omega
                        have g7 : (jn : Int) < 1000 := by have := Nat.lt_of_lt_of_le (Nat.lt_of_lt_of_eq hlt (Eq.symm rfl)) (Nat.le_trans HP9.out.mny (show n + 1 ≤ 1000 by have := HL.out; omega)); omega
                        have y9 : wrap64 (t.pre jn + (t.at' jn).2.2) = t.pre (jn + 1) := HP9.out.psum (Nat.lt_of_lt_of_eq hlt (Eq.symm rfl))
                        have HJ : Hid (jn + gk = t.many ∧ jn < t.many) := ⟨hj, hlt⟩
                        have HY : Hid _ := y9
                        have HJB : Hid (jn < 1000) := Nat.lt_of_lt_of_le (Nat.lt_of_lt_of_eq hlt (Eq.symm rfl)) (Nat.le_trans HP9.out.mny (by have := HL.out; omega))
                        clear hj hlt
                        go_wp2
                        go_roundg (gk - 1)
                        case measure => have := HJ.out; omega
                        case rel => exact ⟨jn + 1, by have := HJ.out; omega, by first | rfl | go_num | (congr 1; unfold wrap64; have := HJB.out; omega), by first | rfl | rw [HY.out], rfl⟩
                      · have hje : jn = t.many := by omega
                        have g9 : ¬ (t.many : Int) < t.many := by omega
                        clear hj hlt
                        subst hje
                        rw [show t.pre t.many = t.wide from (congrArg _ (Eq.symm rfl)).trans (pre_all _)]
                        have E7 := len_any t w.heap.size k9 w4 HP9.out.row.at_ HP9.out.row.row
                        go_wp2_with fail
                        go_fit E7
                        rintro e w7 ⟨rfl, b7⟩
                        have HP7 : Hid _ := HP9.out.below b7
                        clear b7 E7
                        go_wp2_with fail
                        go_fit (wide_any t w.heap.size k9 w7 HP7.out.row.at_ HP7.out.row.row)
                        rintro e w8 ⟨rfl, b8⟩
                        have HP8 : Hid _ := HP7.out.below b8
                        clear b8
                        go_wp2
                        go_roundg (199 - n)
                        case measure => have := HG.out; have := HL.out; omega
                        case rel => exact ⟨n + 1, t, k9, by go_num, by have := HL.out; omega, by have := HL.out; omega, HP8.out⟩
                  · by_cases hg : good = false
                    · subst hg
                      have hU : ¬ (0 ≤ U ∧ U ≤ 1000000) := of_decide_eq_false HGD.out.symm
                      have HNU : Hid (¬ (0 ≤ U ∧ U ≤ 1000000)) := hU
                      clear hU
                      go_wp2_with fail
                      go_fit (HA2.out wr HP.out.bel)
                      rintro e wq ⟨rfl, hw⟩
                      subst wq
                      go_wp2_with fail
                      go_fit (HA3.out wr HP.out.bel)
                      rintro e wq ⟨rfl, hw⟩
                      subst wq
                      go_wp2_with fail
                      go_fit (kinsert_bad2 t K X U w.heap.size w.heap.size kk wr HP.out.row (by have := HM.out; omega) HNU.out)
                      rintro e w3 ⟨rfl, R3, K3⟩
                      have HP3 : Hid _ := HP.out.count R3 K3 (by have := HP.out.cst; omega)
                      clear R3 K3
                      go_wp2_with fail
                      go_fit (error_errno 1 w3 (HET.out.below HP3.out.bel))
                      rintro e w4 ⟨rfl, b4⟩
                      have HP4 : Hid _ := HP3.out.below b4
                      clear b4
                      obtain ⟨k9, HP9⟩ : ∃ k9, Hid (Ply w w.heap.size (n + 1) t k9 _ _ w4) := ⟨_, HP4.out⟩
                      go_wp2_with fail
                      go_loopg [45, 46] t.many (fun gk s j wy => ∃ jn : Nat, jn + gk = t.many ∧ j = .int .i64 (jn : Int) ∧ s = .int .i64 (t.pre jn) ∧ w4 = wy)
                      case atStart => exact ⟨0, by omega, rfl, by simp [Deep.BT.pre], rfl⟩
                      case round =>
                        obtain ⟨jn, hj, rfl, rfl, rfl⟩ := hrel
                        by_cases hlt : jn < t.many
                        · obtain ⟨bz, hbz, hbl, hcz⟩ := HP9.out.wcell (j := jn) (Nat.lt_of_lt_of_eq hlt (Eq.symm rfl))
                          first
                            | subst hbz
                            | (injection hbz with hbz; injection hbz with hbz; subst hbz)
                          have g9 : (jn : Int) < t.many := by omega
                          have g7 : (jn : Int) < 1000 := by have := Nat.lt_of_lt_of_le (Nat.lt_of_lt_of_eq hlt (Eq.symm rfl)) (Nat.le_trans HP9.out.mny (show n + 1 ≤ 1000 by have := HL.out; omega)); omega
                          have y9 : wrap64 (t.pre jn + (t.at' jn).2.2) = t.pre (jn + 1) := HP9.out.psum (Nat.lt_of_lt_of_eq hlt (Eq.symm rfl))
                          have HJ : Hid (jn + gk = t.many ∧ jn < t.many) := ⟨hj, hlt⟩
                          have HY : Hid _ := y9
                          have HJB : Hid (jn < 1000) := Nat.lt_of_lt_of_le (Nat.lt_of_lt_of_eq hlt (Eq.symm rfl)) (Nat.le_trans HP9.out.mny (by have := HL.out; omega))
                          clear hj hlt
                          go_wp2
                          go_roundg (gk - 1)
                          case measure => have := HJ.out; omega
                          case rel => exact ⟨jn + 1, by have := HJ.out; omega, by first | rfl | go_num | (congr 1; unfold wrap64; have := HJB.out; omega), by first | rfl | rw [HY.out], rfl⟩
                        · have hje : jn = t.many := by omega
                          have g9 : ¬ (t.many : Int) < t.many := by omega
                          clear hj hlt
                          subst hje
                          rw [show t.pre t.many = t.wide from (congrArg _ (Eq.symm rfl)).trans (pre_all _)]
                          have E7 := len_any t w.heap.size k9 w4 HP9.out.row.at_ HP9.out.row.row
                          go_wp2_with fail
                          go_fit E7
                          rintro e w7 ⟨rfl, b7⟩
                          have HP7 : Hid _ := HP9.out.below b7
                          clear b7 E7
                          go_wp2_with fail
                          go_fit (wide_any t w.heap.size k9 w7 HP7.out.row.at_ HP7.out.row.row)
                          rintro e w8 ⟨rfl, b8⟩
                          have HP8 : Hid _ := HP7.out.below b8
                          clear b8
                          go_wp2
                          go_roundg (199 - n)
                          case measure => have := HG.out; have := HL.out; omega
                          case rel => exact ⟨n + 1, t, k9, by go_num, by have := HL.out; omega, by have := HL.out; omega, HP8.out⟩
                    · obtain rfl : good = true := by simpa using hg
                      have hU : 0 ≤ U ∧ U ≤ 1000000 := of_decide_eq_true HGD.out.symm
                      obtain ⟨a, rfl⟩ : ∃ a : Nat, K = (a : Int) := ⟨K.toNat, by omega⟩
                      have ha : a ≤ t.many := by have := HM.out; omega
                      have HO : Hid (a ≤ t.many ∧ (0 ≤ U ∧ U ≤ 1000000) ∧ t.many < 100000) := ⟨ha, hU, by have := HP.out.mny; have := HL.out; omega⟩
                      clear ha hU
                      go_wp2_with fail
                      go_fit (HA2.out wr HP.out.bel)
                      rintro e wq ⟨rfl, hw⟩
                      subst wq
                      go_wp2_with fail
                      go_fit (HA3.out wr HP.out.bel)
                      rintro e wq ⟨rfl, hw⟩
                      subst wq
                      go_wp2_with fail
                      go_fit (kinsert_ok t a X U w.heap.size w.heap.size kk wr (cost_in HP.out.cst HP.out.high HL.out.2).1 HP.out.row HO.out.1 HO.out.2.1 HO.out.2.2)
                      rintro e w3 ⟨rfl, ⟨nb, k3, R3, hk3⟩, K3⟩
                      have HR3 : Hid (_ ∧ _ ∧ _) := ⟨R3, K3, hk3⟩
                      have HB3 : Hid (Below w.heap.size w w3) := HP.out.bel.trans (kp_low HP.out.row K3)
                      clear R3 K3 hk3
                      go_wp2_with fail
                      go_fit (error_nil w3)
                      rintro e w4 ⟨rfl, b4⟩
                      have HK4 : Hid (Kp (w.heap.size :: t.blocks) wr w4) := HR3.out.2.1.trans (Kp.of b4)
                      have HB4 : Hid (Below w.heap.size w w4) := HB3.out.trans (b4.mono HB3.out.size)
                      have HR4 : Hid _ := HR3.out.1.below b4
                      clear b4
                      go_wp2_with fail
                      go_fit (HA2.out w4 HB4.out)
                      rintro e wq ⟨rfl, hw⟩
                      subst wq
                      go_wp2_with fail
                      go_fit (put_any w.heap.size _ t.ths a X w4 (rowI_kp HP.out.th HK4.out (rowI_off HP.out.th HP.out.row)) HP.out.i64t (by rw [ths_len]; have := HO.out.1; have := HP.out.mny; have := HL.out; omega) (by rw [ths_len]; exact HO.out.1))
                      rintro e w5 ⟨tu, rfl, T5, b5⟩
                      have HT5 : Hid (_ ∧ _) := ⟨T5, b5⟩
                      have HB5 : Hid (Below w.heap.size w w5) := HB4.out.trans (b5.mono HB4.out.size)
                      clear T5 b5
                      go_wp2_with fail
                      go_fit (HA3.out w5 HB5.out)
                      rintro e wq ⟨rfl, hw⟩
                      subst wq
                      go_wp2_with fail
                      go_fit (put_any w.heap.size _ t.wds a U w5 (rowI_kp HP.out.wd (HK4.out.trans (Kp.of HT5.out.2)) (rowI_off HP.out.wd HP.out.row)) HP.out.i64w (by rw [wds_len]; have := HO.out.1; have := HP.out.mny; have := HL.out; omega) (by rw [wds_len]; exact HO.out.1))
                      rintro e w6 ⟨wu, rfl, W6, b6⟩
                      have HW6 : Hid (_ ∧ _) := ⟨W6, b6⟩
                      clear W6 b6
                      obtain ⟨T, k9, HP9⟩ : ∃ T k9, Hid (Ply w w.heap.size (n + 1) T k9 tu wu w6) := ⟨_, _, HP.out.ins HO.out.1 (by rw [HXX.out]; exact HX.out 2) HR4.out HK4.out (cost_next HP.out.cst HP.out.high HL.out.2 HR3.out.2.2) HT5.out.1 HT5.out.2 HW6.out.1 HW6.out.2⟩
                      obtain ⟨ta9, tc9, rfl⟩ := row_form HP9.out.th
                      obtain ⟨wa9, wc9, rfl⟩ := row_form HP9.out.wd
                      rw [ths_len, wds_len] at HP9 ⊢
                      go_wp2_with fail
                      go_loopg [45, 46] T.many (fun gk s j wy => ∃ jn : Nat, jn + gk = T.many ∧ j = .int .i64 (jn : Int) ∧ s = .int .i64 (T.pre jn) ∧ w6 = wy)
                      case atStart => exact ⟨0, by omega, rfl, by simp [Deep.BT.pre], rfl⟩
                      case round =>
                        obtain ⟨jn, hj, rfl, rfl, rfl⟩ := hrel
                        by_cases hlt : jn < T.many
                        · obtain ⟨bz, hbz, hbl, hcz⟩ := HP9.out.wcell (j := jn) (Nat.lt_of_lt_of_eq hlt (Eq.symm rfl))
                          first
                            | subst hbz
                            | (injection hbz with hbz; injection hbz with hbz; subst hbz)
                          have g9 : (jn : Int) < T.many := by omega
                          have g7 : (jn : Int) < 1000 := by have := Nat.lt_of_lt_of_le (Nat.lt_of_lt_of_eq hlt (Eq.symm rfl)) (Nat.le_trans HP9.out.mny (show n + 1 ≤ 1000 by have := HL.out; omega)); omega
                          have y9 : wrap64 (T.pre jn + (T.at' jn).2.2) = T.pre (jn + 1) := HP9.out.psum (Nat.lt_of_lt_of_eq hlt (Eq.symm rfl))
                          have HJ : Hid (jn + gk = T.many ∧ jn < T.many) := ⟨hj, hlt⟩
                          have HY : Hid _ := y9
                          have HJB : Hid (jn < 1000) := Nat.lt_of_lt_of_le (Nat.lt_of_lt_of_eq hlt (Eq.symm rfl)) (Nat.le_trans HP9.out.mny (by have := HL.out; omega))
                          clear hj hlt
                          go_wp2
                          go_roundg (gk - 1)
                          case measure => have := HJ.out; omega
                          case rel => exact ⟨jn + 1, by have := HJ.out; omega, by first | rfl | go_num | (congr 1; unfold wrap64; have := HJB.out; omega), by first | rfl | rw [HY.out], rfl⟩
                        · have hje : jn = T.many := by omega
                          have g9 : ¬ (T.many : Int) < T.many := by omega
                          clear hj hlt
                          subst hje
                          rw [show T.pre T.many = T.wide from (congrArg _ (Eq.symm rfl)).trans (pre_all _)]
                          have E7 := len_any T w.heap.size k9 w6 HP9.out.row.at_ HP9.out.row.row
                          go_wp2_with fail
                          go_fit E7
                          rintro e w7 ⟨rfl, b7⟩
                          have HP7 : Hid _ := HP9.out.below b7
                          clear b7 E7
                          go_wp2_with fail
                          go_fit (wide_any T w.heap.size k9 w7 HP7.out.row.at_ HP7.out.row.row)
                          rintro e w8 ⟨rfl, b8⟩
                          have HP8 : Hid _ := HP7.out.below b8
                          clear b8
                          go_wp2
                          go_roundg (199 - n)
                          case measure => have := HG.out; have := HL.out; omega
                          case rel => exact ⟨n + 1, T, k9, by go_num, by have := HL.out; omega, by have := HL.out; omega, HP8.out⟩
            · as_aux_lemma =>
                by_cases hi : inn = false
                · subst hi
                  have hN : ¬ (0 ≤ K ∧ K < M) := of_decide_eq_false HIN.out.symm
                  have hN' : ¬ (0 ≤ K ∧ K ≤ (t.many : Int) - 1) := by have := HM.out; omega
                  have HN : Hid (¬ (0 ≤ K ∧ K ≤ (t.many : Int) - 1)) := hN'
                  clear hN'
                  clear hN
                  go_wp2_with fail
                  go_fit (kremove_bad t K w.heap.size w.heap.size kk wr HP.out.row HN.out)
                  rintro e w3 ⟨rfl, R3, K3⟩
                  have HP3 : Hid _ := HP.out.count R3 K3 (by have := HP.out.cst; omega)
                  clear R3 K3
                  go_wp2_with fail
                  go_fit (error_errno 1 w3 (HET.out.below HP3.out.bel))
                  rintro e w4 ⟨rfl, b4⟩
                  have HP4 : Hid _ := HP3.out.below b4
                  clear b4
                  obtain ⟨k9, HP9⟩ : ∃ k9, Hid (Ply w w.heap.size (n + 1) t k9 _ _ w4) := ⟨_, HP4.out⟩
                  go_wp2_with fail
                  go_loopg [45, 46] t.many (fun gk s j wy => ∃ jn : Nat, jn + gk = t.many ∧ j = .int .i64 (jn : Int) ∧ s = .int .i64 (t.pre jn) ∧ w4 = wy)
                  case atStart => exact ⟨0, by omega, rfl, by simp [Deep.BT.pre], rfl⟩
                  case round =>
                    obtain ⟨jn, hj, rfl, rfl, rfl⟩ := hrel
                    by_cases hlt : jn < t.many
                    · obtain ⟨bz, hbz, hbl, hcz⟩ := HP9.out.wcell (j := jn) (Nat.lt_of_lt_of_eq hlt (Eq.symm rfl))
                      first
                        | subst hbz
                        | (injection hbz with hbz; injection hbz with hbz; subst hbz)
                      have g9 : (jn : Int) < t.many := by omega
                      have g7 : (jn : Int) < 1000 := by have := Nat.lt_of_lt_of_le (Nat.lt_of_lt_of_eq hlt (Eq.symm rfl)) (Nat.le_trans HP9.out.mny (show n + 1 ≤ 1000 by have := HL.out; omega)); omega
                      have y9 : wrap64 (t.pre jn + (t.at' jn).2.2) = t.pre (jn + 1) := HP9.out.psum (Nat.lt_of_lt_of_eq hlt (Eq.symm rfl))
                      have HJ : Hid (jn + gk = t.many ∧ jn < t.many) := ⟨hj, hlt⟩
                      have HY : Hid _ := y9
                      have HJB : Hid (jn < 1000) := Nat.lt_of_lt_of_le (Nat.lt_of_lt_of_eq hlt (Eq.symm rfl)) (Nat.le_trans HP9.out.mny (by have := HL.out; omega))
                      clear hj hlt
                      go_wp2
                      go_roundg (gk - 1)
                      case measure => have := HJ.out; omega
                      case rel => exact ⟨jn + 1, by have := HJ.out; omega, by first | rfl | go_num | (congr 1; unfold wrap64; have := HJB.out; omega), by first | rfl | rw [HY.out], rfl⟩
                    · have hje : jn = t.many := by omega
                      have g9 : ¬ (t.many : Int) < t.many := by omega
                      clear hj hlt
                      subst hje
                      rw [show t.pre t.many = t.wide from (congrArg _ (Eq.symm rfl)).trans (pre_all _)]
                      have E7 := len_any t w.heap.size k9 w4 HP9.out.row.at_ HP9.out.row.row
                      go_wp2_with fail
                      go_fit E7
                      rintro e w7 ⟨rfl, b7⟩
                      have HP7 : Hid _ := HP9.out.below b7
                      clear b7 E7
                      go_wp2_with fail
                      go_fit (wide_any t w.heap.size k9 w7 HP7.out.row.at_ HP7.out.row.row)
                      rintro e w8 ⟨rfl, b8⟩
                      have HP8 : Hid _ := HP7.out.below b8
                      clear b8
                      go_wp2
                      go_roundg (199 - n)
                      case measure => have := HG.out; have := HL.out; omega
                      case rel => exact ⟨n + 1, t, k9, by go_num, by have := HL.out; omega, by have := HL.out; omega, HP8.out⟩
                · obtain rfl : inn = true := by simpa using hi
                  have hN : 0 ≤ K ∧ K < M := of_decide_eq_true HIN.out.symm
                  obtain ⟨a, rfl⟩ : ∃ a : Nat, K = (a : Int) := ⟨K.toNat, by omega⟩
                  have ha : a < t.many := by have := HM.out; omega
                  have HA : Hid (a < t.many) := ha
                  have ga : (a : Int) < t.many := by omega
                  clear hN
                  obtain ⟨bt, ct, et, hct, hbt, _, _⟩ := rowI_cell HP.out.th (ths_at t a ha)
                  obtain ⟨bw, cw, ew, hcw, hbw, _, _⟩ := rowI_cell HP.out.wd (wds_at t a ha)
                  obtain rfl : ta = some ⟨bt, 0, none⟩ := by injection et
                  obtain rfl : wa = some ⟨bw, 0, none⟩ := by injection ew
                  clear et ew
                  clear ha
                  go_wp2_with fail
                  go_fit (kremove_ok t a w.heap.size w.heap.size kk wr (cost_in HP.out.cst HP.out.high HL.out.2).1 HP.out.row HA.out)
                  rintro e w3 ⟨rfl, ⟨k3, R3, hk3⟩, K3⟩
                  have T3 := rowI_kp HP.out.th K3 (rowI_off HP.out.th HP.out.row)
                  have W3 := rowI_kp HP.out.wd K3 (rowI_off HP.out.wd HP.out.row)
                  obtain ⟨bt', ct', et, _, hbt3, ct3, _⟩ := rowI_cell T3 (ths_at t a HA.out)
                  obtain ⟨bw', cw', ew, _, hbw3, cw3, _⟩ := rowI_cell W3 (wds_at t a HA.out)
                  obtain rfl : bt = bt' := by injection et with e1; injection e1 with e1; injection e1
                  obtain rfl : bw = bw' := by injection ew with e1; injection e1 with e1; injection e1
                  have HR3 : Hid (_ ∧ _ ∧ _ ∧ _ ∧ _) := ⟨R3, K3, hk3, T3, W3⟩
                  have HB3 : Hid (Below w.heap.size w w3) := HP.out.bel.trans (kp_low HP.out.row K3)
                  clear R3 K3 hk3 T3 W3 et ew
                  generalize (t.at' a).2.1 = x1 at *
                  generalize (t.at' a).2.2 = x2 at *
                  go_wp2_with fail
                  go_fit (cut_any w.heap.size _ t.ths a w3 HR3.out.2.2.2.1 HP.out.i64t (by rw [ths_len]; have := HP.out.mny; have := HL.out; omega) (by rw [ths_len]; exact HA.out))
                  rintro e w4 ⟨tu, rfl, T4, b4⟩
                  have HT4 : Hid (_ ∧ _) := ⟨T4, b4⟩
                  clear T4 b4
                  go_wp2_with fail
                  go_fit (cut_any w.heap.size _ t.wds a w4 (rowI_kp HR3.out.2.2.2.2 (Kp.of (S := []) HT4.out.2) (by simp)) HP.out.i64w (by rw [wds_len]; have := HP.out.mny; have := HL.out; omega) (by rw [wds_len]; exact HA.out))
                  rintro e w5 ⟨wu, rfl, W5, b5⟩
                  have HP5 : Hid _ := HP.out.rem HA.out HR3.out.1 HR3.out.2.1 (cost_next HP.out.cst HP.out.high HL.out.2 (Nat.le_add_right_of_le HR3.out.2.2.1)) HT4.out.1 HT4.out.2 W5 b5
                  clear W5 b5
                  go_wp2_with fail
                  go_fit (error_nil w5)
                  rintro e w6 ⟨rfl, b6⟩
                  have HP6 : Hid _ := HP5.out.below b6
                  clear b6
                  obtain ⟨T, k9, HP9⟩ : ∃ T k9, Hid (Ply w w.heap.size (n + 1) T k9 tu wu w6) := ⟨_, _, HP6.out⟩
                  obtain ⟨ta9, tc9, rfl⟩ := row_form HP9.out.th
                  obtain ⟨wa9, wc9, rfl⟩ := row_form HP9.out.wd
                  rw [ths_len, wds_len] at HP9 ⊢
                  go_wp2_with fail
                  go_loopg [45, 46] T.many (fun gk s j wy => ∃ jn : Nat, jn + gk = T.many ∧ j = .int .i64 (jn : Int) ∧ s = .int .i64 (T.pre jn) ∧ w6 = wy)
                  case atStart => exact ⟨0, by omega, rfl, by simp [Deep.BT.pre], rfl⟩
                  case round =>
                    obtain ⟨jn, hj, rfl, rfl, rfl⟩ := hrel
                    by_cases hlt : jn < T.many
                    · obtain ⟨bz, hbz, hbl, hcz⟩ := HP9.out.wcell (j := jn) (Nat.lt_of_lt_of_eq hlt (Eq.symm rfl))
                      first
                        | subst hbz
                        | (injection hbz with hbz; injection hbz with hbz; subst hbz)
                      have g9 : (jn : Int) < T.many := by omega
                      have g7 : (jn : Int) < 1000 := by have := Nat.lt_of_lt_of_le (Nat.lt_of_lt_of_eq hlt (Eq.symm rfl)) (Nat.le_trans HP9.out.mny (show n + 1 ≤ 1000 by have := HL.out; omega)); omega
                      have y9 : wrap64 (T.pre jn + (T.at' jn).2.2) = T.pre (jn + 1) := HP9.out.psum (Nat.lt_of_lt_of_eq hlt (Eq.symm rfl))
                      have HJ : Hid (jn + gk = T.many ∧ jn < T.many) := ⟨hj, hlt⟩
                      have HY : Hid _ := y9
                      have HJB : Hid (jn < 1000) := Nat.lt_of_lt_of_le (Nat.lt_of_lt_of_eq hlt (Eq.symm rfl)) (Nat.le_trans HP9.out.mny (by have := HL.out; omega))
                      clear hj hlt
                      go_wp2
                      go_roundg (gk - 1)
                      case measure => have := HJ.out; omega
                      case rel => exact ⟨jn + 1, by have := HJ.out; omega, by first | rfl | go_num | (congr 1; unfold wrap64; have := HJB.out; omega), by first | rfl | rw [HY.out], rfl⟩
                    · have hje : jn = T.many := by omega
                      have g9 : ¬ (T.many : Int) < T.many := by omega
                      clear hj hlt
                      subst hje
                      rw [show T.pre T.many = T.wide from (congrArg _ (Eq.symm rfl)).trans (pre_all _)]
                      have E7 := len_any T w.heap.size k9 w6 HP9.out.row.at_ HP9.out.row.row
                      go_wp2_with fail
                      go_fit E7
                      rintro e w7 ⟨rfl, b7⟩
                      have HP7 : Hid _ := HP9.out.below b7
                      clear b7 E7
                      go_wp2_with fail
                      go_fit (wide_any T w.heap.size k9 w7 HP7.out.row.at_ HP7.out.row.row)
                      rintro e w8 ⟨rfl, b8⟩
                      have HP8 : Hid _ := HP7.out.below b8
                      clear b8
                      go_wp2
                      go_roundg (199 - n)
                      case measure => have := HG.out; have := HL.out; omega
                      case rel => exact ⟨n + 1, T, k9, by go_num, by have := HL.out; omega, by have := HL.out; omega, HP8.out⟩
            · as_aux_lemma =>
                by_cases hi : inn = false
                · subst hi
                  have hN : ¬ (0 ≤ K ∧ K < M) := of_decide_eq_false HIN.out.symm
                  have hN' : ¬ (0 ≤ K ∧ K ≤ (t.many : Int) - 1) := by have := HM.out; omega
                  have HN : Hid (¬ (0 ≤ K ∧ K ≤ (t.many : Int) - 1)) := hN'
                  clear hN'
                  clear hN
                  go_wp2_with fail
                  go_fit (kget_bad t K w.heap.size w.heap.size kk wr HP.out.row HN.out)
                  rintro e w3 ⟨rfl, R3, K3⟩
                  have HP3 : Hid _ := HP.out.count R3 K3 (by have := HP.out.cst; omega)
                  clear R3 K3
                  go_wp2_with fail
                  go_fit (error_errno 1 w3 (HET.out.below HP3.out.bel))
                  rintro e w4 ⟨rfl, b4⟩
                  have HP4 : Hid _ := HP3.out.below b4
                  clear b4
                  obtain ⟨k9, HP9⟩ : ∃ k9, Hid (Ply w w.heap.size (n + 1) t k9 _ _ w4) := ⟨_, HP4.out⟩
                  go_wp2_with fail
                  go_loopg [45, 46] t.many (fun gk s j wy => ∃ jn : Nat, jn + gk = t.many ∧ j = .int .i64 (jn : Int) ∧ s = .int .i64 (t.pre jn) ∧ w4 = wy)
                  case atStart => exact ⟨0, by omega, rfl, by simp [Deep.BT.pre], rfl⟩
                  case round =>
                    obtain ⟨jn, hj, rfl, rfl, rfl⟩ := hrel
                    by_cases hlt : jn < t.many
                    · obtain ⟨bz, hbz, hbl, hcz⟩ := HP9.out.wcell (j := jn) (Nat.lt_of_lt_of_eq hlt (Eq.symm rfl))
                      first
                        | subst hbz
                        | (injection hbz with hbz; injection hbz with hbz; subst hbz)
                      have g9 : (jn : Int) < t.many := by omega
                      have g7 : (jn : Int) < 1000 := by have := Nat.lt_of_lt_of_le (Nat.lt_of_lt_of_eq hlt (Eq.symm rfl)) (Nat.le_trans HP9.out.mny (show n + 1 ≤ 1000 by have := HL.out; omega)); omega
                      have y9 : wrap64 (t.pre jn + (t.at' jn).2.2) = t.pre (jn + 1) := HP9.out.psum (Nat.lt_of_lt_of_eq hlt (Eq.symm rfl))
                      have HJ : Hid (jn + gk = t.many ∧ jn < t.many) := ⟨hj, hlt⟩
                      have HY : Hid _ := y9
                      have HJB : Hid (jn < 1000) := Nat.lt_of_lt_of_le (Nat.lt_of_lt_of_eq hlt (Eq.symm rfl)) (Nat.le_trans HP9.out.mny (by have := HL.out; omega))
                      clear hj hlt
                      go_wp2
                      go_roundg (gk - 1)
                      case measure => have := HJ.out; omega
                      case rel => exact ⟨jn + 1, by have := HJ.out; omega, by first | rfl | go_num | (congr 1; unfold wrap64; have := HJB.out; omega), by first | rfl | rw [HY.out], rfl⟩
                    · have hje : jn = t.many := by omega
                      have g9 : ¬ (t.many : Int) < t.many := by omega
                      clear hj hlt
                      subst hje
                      rw [show t.pre t.many = t.wide from (congrArg _ (Eq.symm rfl)).trans (pre_all _)]
                      have E7 := len_any t w.heap.size k9 w4 HP9.out.row.at_ HP9.out.row.row
                      go_wp2_with fail
                      go_fit E7
                      rintro e w7 ⟨rfl, b7⟩
                      have HP7 : Hid _ := HP9.out.below b7
                      clear b7 E7
                      go_wp2_with fail
                      go_fit (wide_any t w.heap.size k9 w7 HP7.out.row.at_ HP7.out.row.row)
                      rintro e w8 ⟨rfl, b8⟩
                      have HP8 : Hid _ := HP7.out.below b8
                      clear b8
                      go_wp2
                      go_roundg (199 - n)
                      case measure => have := HG.out; have := HL.out; omega
                      case rel => exact ⟨n + 1, t, k9, by go_num, by have := HL.out; omega, by have := HL.out; omega, HP8.out⟩
                · obtain rfl : inn = true := by simpa using hi
                  have hN : 0 ≤ K ∧ K < M := of_decide_eq_true HIN.out.symm
                  obtain ⟨a, rfl⟩ : ∃ a : Nat, K = (a : Int) := ⟨K.toNat, by omega⟩
                  have ha : a < t.many := by have := HM.out; omega
                  have HA : Hid (a < t.many) := ha
                  have ga : (a : Int) < t.many := by omega
                  clear hN
                  obtain ⟨bt, ct, et, hct, hbt, _, _⟩ := rowI_cell HP.out.th (ths_at t a ha)
                  obtain ⟨bw, cw, ew, hcw, hbw, _, _⟩ := rowI_cell HP.out.wd (wds_at t a ha)
                  obtain rfl : ta = some ⟨bt, 0, none⟩ := by injection et
                  obtain rfl : wa = some ⟨bw, 0, none⟩ := by injection ew
                  clear et ew
                  clear ha
                  go_wp2_with fail
                  go_fit (kget_ok t a w.heap.size w.heap.size kk wr (cost_in HP.out.cst HP.out.high HL.out.2).2.2 HP.out.row HA.out)
                  rintro e w3 ⟨rfl, ⟨k3, R3, hk3⟩, K3⟩
                  have HP3 : Hid _ := HP.out.count R3 K3 (cost_next HP.out.cst HP.out.high HL.out.2 (by omega))
                  obtain ⟨bt', ct', et, _, hbt3, ct3, _⟩ := rowI_cell HP3.out.th (ths_at t a HA.out)
                  obtain ⟨bw', cw', ew, _, hbw3, cw3, _⟩ := rowI_cell HP3.out.wd (wds_at t a HA.out)
                  obtain rfl : bt = bt' := by injection et with e1; injection e1 with e1; injection e1
                  obtain rfl : bw = bw' := by injection ew with e1; injection e1 with e1; injection e1
                  clear R3 K3 hk3 et ew
                  generalize (t.at' a).2.1 = x1 at *
                  generalize (t.at' a).2.2 = x2 at *
                  go_wp2_with fail
                  go_fit (error_nil w3)
                  rintro e w6 ⟨rfl, b6⟩
                  have HP6 : Hid _ := HP3.out.below b6
                  clear b6
                  obtain ⟨k9, HP9⟩ : ∃ k9, Hid (Ply w w.heap.size (n + 1) t k9 _ _ w6) := ⟨_, HP6.out⟩
                  go_wp2_with fail
                  go_loopg [45, 46] t.many (fun gk s j wy => ∃ jn : Nat, jn + gk = t.many ∧ j = .int .i64 (jn : Int) ∧ s = .int .i64 (t.pre jn) ∧ w6 = wy)
                  case atStart => exact ⟨0, by omega, rfl, by simp [Deep.BT.pre], rfl⟩
                  case round =>
                    obtain ⟨jn, hj, rfl, rfl, rfl⟩ := hrel
                    by_cases hlt : jn < t.many
                    · obtain ⟨bz, hbz, hbl, hcz⟩ := HP9.out.wcell (j := jn) (Nat.lt_of_lt_of_eq hlt (Eq.symm rfl))
                      first
                        | subst hbz
                        | (injection hbz with hbz; injection hbz with hbz; subst hbz)
                      have g9 : (jn : Int) < t.many := by omega
                      have g7 : (jn : Int) < 1000 := by have := Nat.lt_of_lt_of_le (Nat.lt_of_lt_of_eq hlt (Eq.symm rfl)) (Nat.le_trans HP9.out.mny (show n + 1 ≤ 1000 by have := HL.out; omega)); omega
                      have y9 : wrap64 (t.pre jn + (t.at' jn).2.2) = t.pre (jn + 1) := HP9.out.psum (Nat.lt_of_lt_of_eq hlt (Eq.symm rfl))
                      have HJ : Hid (jn + gk = t.many ∧ jn < t.many) := ⟨hj, hlt⟩
                      have HY : Hid _ := y9
                      have HJB : Hid (jn < 1000) := Nat.lt_of_lt_of_le (Nat.lt_of_lt_of_eq hlt (Eq.symm rfl)) (Nat.le_trans HP9.out.mny (by have := HL.out; omega))
                      clear hj hlt
                      go_wp2
                      go_roundg (gk - 1)
                      case measure => have := HJ.out; omega
                      case rel => exact ⟨jn + 1, by have := HJ.out; omega, by first | rfl | go_num | (congr 1; unfold wrap64; have := HJB.out; omega), by first | rfl | rw [HY.out], rfl⟩
                    · have hje : jn = t.many := by omega
                      have g9 : ¬ (t.many : Int) < t.many := by omega
                      clear hj hlt
                      subst hje
                      rw [show t.pre t.many = t.wide from (congrArg _ (Eq.symm rfl)).trans (pre_all _)]
                      have E7 := len_any t w.heap.size k9 w6 HP9.out.row.at_ HP9.out.row.row
                      go_wp2_with fail
                      go_fit E7
                      rintro e w7 ⟨rfl, b7⟩
                      have HP7 : Hid _ := HP9.out.below b7
                      clear b7 E7
                      go_wp2_with fail
                      go_fit (wide_any t w.heap.size k9 w7 HP7.out.row.at_ HP7.out.row.row)
                      rintro e w8 ⟨rfl, b8⟩
                      have HP8 : Hid _ := HP7.out.below b8
                      clear b8
                      go_wp2
                      go_roundg (199 - n)
                      case measure => have := HG.out; have := HL.out; omega
                      case rel => exact ⟨n + 1, t, k9, by go_num, by have := HL.out; omega, by have := HL.out; omega, HP8.out⟩
            · as_aux_lemma =>
                by_cases hi : inn = false
                · subst hi
                  have hN : ¬ (0 ≤ K ∧ K < M) := of_decide_eq_false HIN.out.symm
                  have hN' : ¬ (0 ≤ K ∧ K ≤ (t.many : Int) - 1) := by have := HM.out; omega
                  have HN : Hid (¬ (0 ≤ K ∧ K ≤ (t.many : Int) - 1)) := hN'
                  clear hN'
                  clear hN
                  go_wp2_with fail
                  go_fit (HA3.out wr HP.out.bel)
                  rintro e wq ⟨rfl, hw⟩
                  subst wq
                  go_wp2_with fail
                  go_fit (kset_bad1 t K U w.heap.size w.heap.size kk wr HP.out.row HN.out)
                  rintro e w3 ⟨rfl, R3, K3⟩
                  have HP3 : Hid _ := HP.out.count R3 K3 (by have := HP.out.cst; omega)
                  clear R3 K3
                  go_wp2_with fail
                  go_fit (error_errno 1 w3 (HET.out.below HP3.out.bel))
                  rintro e w4 ⟨rfl, b4⟩
                  have HP4 : Hid _ := HP3.out.below b4
                  clear b4
                  obtain ⟨k9, HP9⟩ : ∃ k9, Hid (Ply w w.heap.size (n + 1) t k9 _ _ w4) := ⟨_, HP4.out⟩
                  go_wp2_with fail
                  go_loopg [45, 46] t.many (fun gk s j wy => ∃ jn : Nat, jn + gk = t.many ∧ j = .int .i64 (jn : Int) ∧ s = .int .i64 (t.pre jn) ∧ w4 = wy)
                  case atStart => exact ⟨0, by omega, rfl, by simp [Deep.BT.pre], rfl⟩
                  case round =>
                    obtain ⟨jn, hj, rfl, rfl, rfl⟩ := hrel
                    by_cases hlt : jn < t.many
                    · obtain ⟨bz, hbz, hbl, hcz⟩ := HP9.out.wcell (j := jn) (Nat.lt_of_lt_of_eq hlt (Eq.symm rfl))
                      first
                        | subst hbz
                        | (injection hbz with hbz; injection hbz with hbz; subst hbz)
                      have g9 : (jn : Int) < t.many := by omega
                      have g7 : (jn : Int) < 1000 := by have := Nat.lt_of_lt_of_le (Nat.lt_of_lt_of_eq hlt (Eq.symm rfl)) (Nat.le_trans HP9.out.mny (show n + 1 ≤ 1000 by have := HL.out; omega)); omega
                      have y9 : wrap64 (t.pre jn + (t.at' jn).2.2) = t.pre (jn + 1) := HP9.out.psum (Nat.lt_of_lt_of_eq hlt (Eq.symm rfl))
                      have HJ : Hid (jn + gk = t.many ∧ jn < t.many) := ⟨hj, hlt⟩
                      have HY : Hid _ := y9
                      have HJB : Hid (jn < 1000) := Nat.lt_of_lt_of_le (Nat.lt_of_lt_of_eq hlt (Eq.symm rfl)) (Nat.le_trans HP9.out.mny (by have := HL.out; omega))
                      clear hj hlt
                      go_wp2
                      go_roundg (gk - 1)
                      case measure => have := HJ.out; omega
                      case rel => exact ⟨jn + 1, by have := HJ.out; omega, by first | rfl | go_num | (congr 1; unfold wrap64; have := HJB.out; omega), by first | rfl | rw [HY.out], rfl⟩
                    · have hje : jn = t.many := by omega
                      have g9 : ¬ (t.many : Int) < t.many := by omega
                      clear hj hlt
                      subst hje
                      rw [show t.pre t.many = t.wide from (congrArg _ (Eq.symm rfl)).trans (pre_all _)]
                      have E7 := len_any t w.heap.size k9 w4 HP9.out.row.at_ HP9.out.row.row
                      go_wp2_with fail
                      go_fit E7
                      rintro e w7 ⟨rfl, b7⟩
                      have HP7 : Hid _ := HP9.out.below b7
                      clear b7 E7
                      go_wp2_with fail
                      go_fit (wide_any t w.heap.size k9 w7 HP7.out.row.at_ HP7.out.row.row)
                      rintro e w8 ⟨rfl, b8⟩
                      have HP8 : Hid _ := HP7.out.below b8
                      clear b8
                      go_wp2
                      go_roundg (199 - n)
                      case measure => have := HG.out; have := HL.out; omega
                      case rel => exact ⟨n + 1, t, k9, by go_num, by have := HL.out; omega, by have := HL.out; omega, HP8.out⟩
                · obtain rfl : inn = true := by simpa using hi
                  have hN : 0 ≤ K ∧ K < M := of_decide_eq_true HIN.out.symm
                  have hN' : 0 ≤ K ∧ K ≤ (t.many : Int) - 1 := by have := HM.out; omega
                  have HN : Hid (0 ≤ K ∧ K ≤ (t.many : Int) - 1) := hN'
                  clear hN'
                  by_cases hg : good = false
                  · clear hN
                    subst hg
                    have hU : ¬ (0 ≤ U ∧ U ≤ 1000000) := of_decide_eq_false HGD.out.symm
                    have HNU : Hid (¬ (0 ≤ U ∧ U ≤ 1000000)) := hU
                    clear hU
                    go_wp2_with fail
                    go_fit (HA3.out wr HP.out.bel)
                    rintro e wq ⟨rfl, hw⟩
                    subst wq
                    go_wp2_with fail
                    go_fit (kset_bad2 t K U w.heap.size w.heap.size kk wr HP.out.row HN.out HNU.out)
                    rintro e w3 ⟨rfl, R3, K3⟩
                    have HP3 : Hid _ := HP.out.count R3 K3 (by have := HP.out.cst; omega)
                    clear R3 K3
                    go_wp2_with fail
                    go_fit (error_errno 1 w3 (HET.out.below HP3.out.bel))
                    rintro e w4 ⟨rfl, b4⟩
                    have HP4 : Hid _ := HP3.out.below b4
                    clear b4
                    obtain ⟨k9, HP9⟩ : ∃ k9, Hid (Ply w w.heap.size (n + 1) t k9 _ _ w4) := ⟨_, HP4.out⟩
                    go_wp2_with fail
                    go_loopg [45, 46] t.many (fun gk s j wy => ∃ jn : Nat, jn + gk = t.many ∧ j = .int .i64 (jn : Int) ∧ s = .int .i64 (t.pre jn) ∧ w4 = wy)
                    case atStart => exact ⟨0, by omega, rfl, by simp [Deep.BT.pre], rfl⟩
                    case round =>
                      obtain ⟨jn, hj, rfl, rfl, rfl⟩ := hrel
                      by_cases hlt : jn < t.many
                      · obtain ⟨bz, hbz, hbl, hcz⟩ := HP9.out.wcell (j := jn) (Nat.lt_of_lt_of_eq hlt (Eq.symm rfl))
                        first
                          | subst hbz
                          | (injection hbz with hbz; injection hbz with hbz; subst hbz)
                        have g9 : (jn : Int) < t.many := by omega
                        have g7 : (jn : Int) < 1000 := by have := Nat.lt_of_lt_of_le (Nat.lt_of_lt_of_eq hlt (Eq.symm rfl)) (Nat.le_trans HP9.out.mny (show n + 1 ≤ 1000 by have := HL.out; omega)); omega
                        have y9 : wrap64 (t.pre jn + (t.at' jn).2.2) = t.pre (jn + 1) := HP9.out.psum (Nat.lt_of_lt_of_eq hlt (Eq.symm rfl))
                        have HJ : Hid (jn + gk = t.many ∧ jn < t.many) := ⟨hj, hlt⟩
                        have HY : Hid _ := y9
                        have HJB : Hid (jn < 1000) := Nat.lt_of_lt_of_le (Nat.lt_of_lt_of_eq hlt (Eq.symm rfl)) (Nat.le_trans HP9.out.mny (by have := HL.out; omega))
                        clear hj hlt
                        go_wp2
                        go_roundg (gk - 1)
                        case measure => have := HJ.out; omega
                        case rel => exact ⟨jn + 1, by have := HJ.out; omega, by first | rfl | go_num | (congr 1; unfold wrap64; have := HJB.out; omega), by first | rfl | rw [HY.out], rfl⟩
                      · have hje : jn = t.many := by omega
                        have g9 : ¬ (t.many : Int) < t.many := by omega
                        clear hj hlt
                        subst hje
                        rw [show t.pre t.many = t.wide from (congrArg _ (Eq.symm rfl)).trans (pre_all _)]
                        have E7 := len_any t w.heap.size k9 w4 HP9.out.row.at_ HP9.out.row.row
                        go_wp2_with fail
                        go_fit E7
                        rintro e w7 ⟨rfl, b7⟩
                        have HP7 : Hid _ := HP9.out.below b7
                        clear b7 E7
                        go_wp2_with fail
                        go_fit (wide_any t w.heap.size k9 w7 HP7.out.row.at_ HP7.out.row.row)
                        rintro e w8 ⟨rfl, b8⟩
                        have HP8 : Hid _ := HP7.out.below b8
                        clear b8
                        go_wp2
                        go_roundg (199 - n)
                        case measure => have := HG.out; have := HL.out; omega
                        case rel => exact ⟨n + 1, t, k9, by go_num, by have := HL.out; omega, by have := HL.out; omega, HP8.out⟩
                  · obtain rfl : good = true := by simpa using hg
                    have hU : 0 ≤ U ∧ U ≤ 1000000 := of_decide_eq_true HGD.out.symm
                    obtain ⟨a, rfl⟩ : ∃ a : Nat, K = (a : Int) := ⟨K.toNat, by omega⟩
                    have ha : a < t.many := by have := HN.out; omega
                    have HA : Hid (a < t.many ∧ (0 ≤ U ∧ U ≤ 1000000)) := ⟨ha, hU⟩
                    have ga : (a : Int) < t.many := by omega
                    obtain ⟨bw, cw, ew, hcw, hbw, cw0, cwf⟩ := rowI_cell HP.out.wd (wds_at t a ha)
                    obtain rfl : wa = some ⟨bw, 0, none⟩ := by injection ew
                    obtain rfl : wc = cw := by injection ew
                    clear ew ha hU
                    have HPW : Hid (Ply w w.heap.size n t kk (.slice ta t.many tc) (.slice (some ⟨bw, 0, none⟩) t.wds.length wc) wr) := by rw [wds_len]; exact HP.out
                    go_wp2_with fail
                    go_fit (HA3.out wr HP.out.bel)
                    rintro e wq ⟨rfl, hw⟩
                    subst wq
                    have HBS : Hid (Below w.heap.size w (wr.setCell ⟨bw, a, none⟩ (.int .i64 U))) := HP.out.bel.trans ((Below.refl _ wr).setCell (HP.out.wd.lt bw rfl).1 _)
                    go_wp2_with fail
                    go_fit (HA3.out _ HBS.out)
                    rintro e wq ⟨rfl, hw⟩
                    subst wq
                    go_wp2_with fail
                    go_fit (kset_ok t a U w.heap.size w.heap.size kk _ (cost_in HP.out.cst HP.out.high HL.out.2).2.1 (HPW.out.setRow (a := a) (u := U)) HA.out.1 HA.out.2)
                    rintro e w3 ⟨rfl, ⟨k3, R3, hk3⟩, K3⟩
                    have HP3 := HPW.out.set HA.out.1 R3 K3 (cost_next HP.out.cst HP.out.high HL.out.2 (by omega))
                    rw [wds_len] at HP3
                    have HP3' : Hid _ := HP3
                    clear R3 K3 hk3 HP3 cw0 cwf
                    go_wp2_with fail
                    go_fit (error_nil w3)
                    rintro e w6 ⟨rfl, b6⟩
                    have HP6 : Hid _ := HP3'.out.below b6
                    clear b6
                    obtain ⟨T, k9, HP9, hN⟩ : ∃ T k9, Hid (Ply w w.heap.size (n + 1) T k9 _ _ w6) ∧ Hid (T.many = t.many) := ⟨_, _, HP6.out, many_set t a U⟩
                    go_wp2_with fail
                    go_loopg [45, 46] t.many (fun gk s j wy => ∃ jn : Nat, jn + gk = t.many ∧ j = .int .i64 (jn : Int) ∧ s = .int .i64 (T.pre jn) ∧ w6 = wy)
                    case atStart => exact ⟨0, by omega, rfl, by simp [Deep.BT.pre], rfl⟩
                    case round =>
                      obtain ⟨jn, hj, rfl, rfl, rfl⟩ := hrel
                      by_cases hlt : jn < t.many
                      · obtain ⟨bz, hbz, hbl, hcz⟩ := HP9.out.wcell (j := jn) (Nat.lt_of_lt_of_eq hlt (Eq.symm hN.out))
                        first
                          | subst hbz
                          | (injection hbz with hbz; injection hbz with hbz; subst hbz)
                        have g9 : (jn : Int) < t.many := by omega
                        have g7 : (jn : Int) < 1000 := by have := Nat.lt_of_lt_of_le (Nat.lt_of_lt_of_eq hlt (Eq.symm hN.out)) (Nat.le_trans HP9.out.mny (show n + 1 ≤ 1000 by have := HL.out; omega)); omega
                        have y9 : wrap64 (T.pre jn + (T.at' jn).2.2) = T.pre (jn + 1) := HP9.out.psum (Nat.lt_of_lt_of_eq hlt (Eq.symm hN.out))
                        have HJ : Hid (jn + gk = t.many ∧ jn < t.many) := ⟨hj, hlt⟩
                        have HY : Hid _ := y9
                        have HJB : Hid (jn < 1000) := Nat.lt_of_lt_of_le (Nat.lt_of_lt_of_eq hlt (Eq.symm hN.out)) (Nat.le_trans HP9.out.mny (by have := HL.out; omega))
                        clear hj hlt
                        go_wp2
                        go_roundg (gk - 1)
                        case measure => have := HJ.out; omega
                        case rel => exact ⟨jn + 1, by have := HJ.out; omega, by first | rfl | go_num | (congr 1; unfold wrap64; have := HJB.out; omega), by first | rfl | rw [HY.out], rfl⟩
                      · have hje : jn = t.many := by omega
                        have g9 : ¬ (t.many : Int) < t.many := by omega
                        clear hj hlt
                        subst hje
                        rw [show T.pre t.many = T.wide from (congrArg _ (Eq.symm hN.out)).trans (pre_all _)]
                        have E7 := len_any T w.heap.size k9 w6 HP9.out.row.at_ HP9.out.row.row
                        rw [hN.out] at E7
                        go_wp2_with fail
                        go_fit E7
                        rintro e w7 ⟨rfl, b7⟩
                        have HP7 : Hid _ := HP9.out.below b7
                        clear b7 E7
                        go_wp2_with fail
                        go_fit (wide_any T w.heap.size k9 w7 HP7.out.row.at_ HP7.out.row.row)
                        rintro e w8 ⟨rfl, b8⟩
                        have HP8 : Hid _ := HP7.out.below b8
                        clear b8
                        go_wp2
                        go_roundg (199 - n)
                        case measure => have := HG.out; have := HL.out; omega
                        case rel => exact ⟨n + 1, T, k9, by go_num, by have := HL.out; omega, by have := HL.out; omega, HP8.out⟩
            · as_aux_lemma =>
                by_cases q1 : K < 0
                · have q1' : ¬ (0 ≤ K ∧ K < t.wide) := by omega
                  have HQ : Hid _ := q1'
                  clear q1'
                  go_wp2_with fail
                  go_fit (kfind_bad1 t K w.heap.size w.heap.size kk wr HP.out.row q1)
                  rintro e w3 ⟨rfl, R3, K3⟩
                  have HP3 : Hid _ := HP.out.count R3 K3 (by have := HP.out.cst; omega)
                  clear R3 K3
                  go_wp2_with fail
                  go_loopg [33, 34, 35, 36, 37] t.many (fun gk e a b s j wy => ∃ jn : Nat, jn + gk = t.many ∧ j = .int .i64 (jn : Int) ∧ s = .int .i64 (t.pre jn) ∧ e = .int .i64 (fres t K jn).1 ∧ a = .int .i64 (fres t K jn).2.1 ∧ b = .int .i64 (fres t K jn).2.2 ∧ w3 = wy)
                  case atStart => exact ⟨0, by omega, rfl, by rw [pre_zero], by rw [fres_zero], by rw [fres_zero], by rw [fres_zero], rfl⟩
                  case round =>
                    obtain ⟨jn, hj, rfl, rfl, rfl, rfl, rfl, rfl⟩ := hrel
                    by_cases hlt : jn < t.many
                    · obtain ⟨bz, hbz, hbl, hcz⟩ := HP3.out.wcell (j := jn) hlt
                      first
                        | subst hbz
                        | (injection hbz with hbz; injection hbz with hbz; subst hbz)
                      have g9 : (jn : Int) < M := by have := HM.out; omega
                      have g8 : (jn : Int) < t.many := by omega
                      have g7 : (jn : Int) < 1000 := by have := Nat.le_trans HP.out.mny (show n ≤ 999 by have := HL.out; omega); omega
                      have y9 : wrap64 (t.pre jn + (t.at' jn).2.2) = t.pre (jn + 1) := HP3.out.psum hlt
                      have HJ : Hid (jn + gk = t.many ∧ jn < t.many) := ⟨hj, hlt⟩
                      have HJB : Hid (jn < 1000) := Nat.lt_of_lt_of_le hlt (Nat.le_trans HP.out.mny (by have := HL.out; omega))
                      have hpb := (pre_bounds t HP3.out.row.fit jn hlt).1
                      by_cases c1 : K < t.pre jn
                      · have HFR : Hid (fres t K (jn + 1) = fres t K jn) := fres_lo t HP3.out.row.itm K jn hlt c1
                        generalize fres t K jn = fq at *
                        have HY : Hid _ := y9
                        have c1' : ¬ t.pre jn ≤ K := by omega
                        clear hj hlt hpb
                        go_wp2
                        go_roundg (gk - 1)
                        case measure => have := HJ.out; omega
                        case rel => exact ⟨jn + 1, by have := HJ.out; omega, by first | rfl | go_num | (congr 1; unfold wrap64; have := HJB.out; omega), by first | rfl | rw [HY.out], by rw [HFR.out], by rw [HFR.out], by rw [HFR.out], rfl⟩
                      · by_cases c2 : K < t.pre (jn + 1)
                        · have HFR : Hid (fres t K (jn + 1) = (0, (jn : Int), K - t.pre jn)) := fres_hit t HP3.out.row.itm K jn hlt (by omega) c2
                          generalize fres t K jn = fq at *
                          have y8 : wrap64 (K - t.pre jn) = K - t.pre jn := by have := pre_bounds t HP3.out.row.fit jn hlt; have := pre_succ t jn hlt; unfold wrap64; omega
                          have HY : Hid _ := y9
                          have c1' : t.pre jn ≤ K := by omega
                          clear hj hlt hpb
                          go_wp2
                          go_roundg (gk - 1)
                          case measure => have := HJ.out; omega
                          case rel => exact ⟨jn + 1, by have := HJ.out; omega, by first | rfl | go_num | (congr 1; unfold wrap64; have := HJB.out; omega), by first | rfl | rw [HY.out], by rw [HFR.out], by rw [HFR.out], by rw [HFR.out], rfl⟩
                        · have HFR : Hid (fres t K (jn + 1) = fres t K jn) := fres_hi t HP3.out.row.itm K jn hlt (by omega)
                          generalize fres t K jn = fq at *
                          have HY : Hid _ := y9
                          have c1' : t.pre jn ≤ K := by omega
                          clear hj hlt hpb
                          go_wp2
                          go_roundg (gk - 1)
                          case measure => have := HJ.out; omega
                          case rel => exact ⟨jn + 1, by have := HJ.out; omega, by first | rfl | go_num | (congr 1; unfold wrap64; have := HJB.out; omega), by first | rfl | rw [HY.out], by rw [HFR.out], by rw [HFR.out], by rw [HFR.out], rfl⟩
                    · have hje : jn = t.many := by omega
                      have g9 : ¬ (t.many : Int) < M := by have := HM.out; omega
                      clear hj hlt
                      subst hje
                      rw [fres_none t K HQ.out]
                      go_wp2_with fail
                      go_fit (error_errno 1 w3 (HET.out.below HP3.out.bel))
                      rintro e w4 ⟨rfl, b4⟩
                      have HP4 : Hid _ := HP3.out.below b4
                      clear b4
                      obtain ⟨k9, HP9⟩ : ∃ k9, Hid (Ply w w.heap.size (n + 1) t k9 _ _ w4) := ⟨_, HP4.out⟩
                      go_wp2_with fail
                      go_loopg [45, 46] t.many (fun gk s j wy => ∃ jn : Nat, jn + gk = t.many ∧ j = .int .i64 (jn : Int) ∧ s = .int .i64 (t.pre jn) ∧ w4 = wy)
                      case atStart => exact ⟨0, by omega, rfl, by simp [Deep.BT.pre], rfl⟩
                      case round =>
                        obtain ⟨jn, hj, rfl, rfl, rfl⟩ := hrel
                        by_cases hlt : jn < t.many
                        · obtain ⟨bz, hbz, hbl, hcz⟩ := HP9.out.wcell (j := jn) (Nat.lt_of_lt_of_eq hlt (Eq.symm rfl))
                          first
                            | subst hbz
                            | (injection hbz with hbz; injection hbz with hbz; subst hbz)
                          have g9 : (jn : Int) < t.many := by omega
                          have g7 : (jn : Int) < 1000 := by have := Nat.lt_of_lt_of_le (Nat.lt_of_lt_of_eq hlt (Eq.symm rfl)) (Nat.le_trans HP9.out.mny (show n + 1 ≤ 1000 by have := HL.out; omega)); omega
                          have y9 : wrap64 (t.pre jn + (t.at' jn).2.2) = t.pre (jn + 1) := HP9.out.psum (Nat.lt_of_lt_of_eq hlt (Eq.symm rfl))
                          have HJ : Hid (jn + gk = t.many ∧ jn < t.many) := ⟨hj, hlt⟩
                          have HY : Hid _ := y9
                          have HJB : Hid (jn < 1000) := Nat.lt_of_lt_of_le (Nat.lt_of_lt_of_eq hlt (Eq.symm rfl)) (Nat.le_trans HP9.out.mny (by have := HL.out; omega))
                          clear hj hlt
                          go_wp2
                          go_roundg (gk - 1)
                          case measure => have := HJ.out; omega
                          case rel => exact ⟨jn + 1, by have := HJ.out; omega, by first | rfl | go_num | (congr 1; unfold wrap64; have := HJB.out; omega), by first | rfl | rw [HY.out], rfl⟩
                        · have hje : jn = t.many := by omega
                          have g9 : ¬ (t.many : Int) < t.many := by omega
                          clear hj hlt
                          subst hje
                          rw [show t.pre t.many = t.wide from (congrArg _ (Eq.symm rfl)).trans (pre_all _)]
                          have E7 := len_any t w.heap.size k9 w4 HP9.out.row.at_ HP9.out.row.row
                          go_wp2_with fail
                          go_fit E7
                          rintro e w7 ⟨rfl, b7⟩
                          have HP7 : Hid _ := HP9.out.below b7
                          clear b7 E7
                          go_wp2_with fail
                          go_fit (wide_any t w.heap.size k9 w7 HP7.out.row.at_ HP7.out.row.row)
                          rintro e w8 ⟨rfl, b8⟩
                          have HP8 : Hid _ := HP7.out.below b8
                          clear b8
                          go_wp2
                          go_roundg (199 - n)
                          case measure => have := HG.out; have := HL.out; omega
                          case rel => exact ⟨n + 1, t, k9, by go_num, by have := HL.out; omega, by have := HL.out; omega, HP8.out⟩
                · by_cases q2 : t.wide ≤ K
                  · have q1' : ¬ (0 ≤ K ∧ K < t.wide) := by omega
                    have HQ : Hid _ := q1'
                    clear q1'
                    go_wp2_with fail
                    go_fit (kfind_bad2 t K w.heap.size w.heap.size kk wr HP.out.row (by omega) q2)
                    rintro e w3 ⟨rfl, R3, K3⟩
                    have HP3 : Hid _ := HP.out.count R3 K3 (by have := HP.out.cst; omega)
                    clear R3 K3
                    go_wp2_with fail
                    go_loopg [33, 34, 35, 36, 37] t.many (fun gk e a b s j wy => ∃ jn : Nat, jn + gk = t.many ∧ j = .int .i64 (jn : Int) ∧ s = .int .i64 (t.pre jn) ∧ e = .int .i64 (fres t K jn).1 ∧ a = .int .i64 (fres t K jn).2.1 ∧ b = .int .i64 (fres t K jn).2.2 ∧ w3 = wy)
                    case atStart => exact ⟨0, by omega, rfl, by rw [pre_zero], by rw [fres_zero], by rw [fres_zero], by rw [fres_zero], rfl⟩
                    case round =>
                      obtain ⟨jn, hj, rfl, rfl, rfl, rfl, rfl, rfl⟩ := hrel
                      by_cases hlt : jn < t.many
                      · obtain ⟨bz, hbz, hbl, hcz⟩ := HP3.out.wcell (j := jn) hlt
                        first
                          | subst hbz
                          | (injection hbz with hbz; injection hbz with hbz; subst hbz)
                        have g9 : (jn : Int) < M := by have := HM.out; omega
                        have g8 : (jn : Int) < t.many := by omega
                        have g7 : (jn : Int) < 1000 := by have := Nat.le_trans HP.out.mny (show n ≤ 999 by have := HL.out; omega); omega
                        have y9 : wrap64 (t.pre jn + (t.at' jn).2.2) = t.pre (jn + 1) := HP3.out.psum hlt
                        have HJ : Hid (jn + gk = t.many ∧ jn < t.many) := ⟨hj, hlt⟩
                        have HJB : Hid (jn < 1000) := Nat.lt_of_lt_of_le hlt (Nat.le_trans HP.out.mny (by have := HL.out; omega))
                        have hpb := (pre_bounds t HP3.out.row.fit jn hlt).1
                        by_cases c1 : K < t.pre jn
                        · have HFR : Hid (fres t K (jn + 1) = fres t K jn) := fres_lo t HP3.out.row.itm K jn hlt c1
                          generalize fres t K jn = fq at *
                          have HY : Hid _ := y9
                          have c1' : ¬ t.pre jn ≤ K := by omega
                          clear hj hlt hpb
                          go_wp2
                          go_roundg (gk - 1)
                          case measure => have := HJ.out; omega
                          case rel => exact ⟨jn + 1, by have := HJ.out; omega, by first | rfl | go_num | (congr 1; unfold wrap64; have := HJB.out; omega), by first | rfl | rw [HY.out], by rw [HFR.out], by rw [HFR.out], by rw [HFR.out], rfl⟩
                        · by_cases c2 : K < t.pre (jn + 1)
                          · have HFR : Hid (fres t K (jn + 1) = (0, (jn : Int), K - t.pre jn)) := fres_hit t HP3.out.row.itm K jn hlt (by omega) c2
                            generalize fres t K jn = fq at *
                            have y8 : wrap64 (K - t.pre jn) = K - t.pre jn := by have := pre_bounds t HP3.out.row.fit jn hlt; have := pre_succ t jn hlt; unfold wrap64; omega
                            have HY : Hid _ := y9
                            have c1' : t.pre jn ≤ K := by omega
                            clear hj hlt hpb
                            go_wp2
                            go_roundg (gk - 1)
                            case measure => have := HJ.out; omega
                            case rel => exact ⟨jn + 1, by have := HJ.out; omega, by first | rfl | go_num | (congr 1; unfold wrap64; have := HJB.out; omega), by first | rfl | rw [HY.out], by rw [HFR.out], by rw [HFR.out], by rw [HFR.out], rfl⟩
                          · have HFR : Hid (fres t K (jn + 1) = fres t K jn) := fres_hi t HP3.out.row.itm K jn hlt (by omega)
                            generalize fres t K jn = fq at *
                            have HY : Hid _ := y9
                            have c1' : t.pre jn ≤ K := by omega
                            clear hj hlt hpb
                            go_wp2
                            go_roundg (gk - 1)
                            case measure => have := HJ.out; omega
                            case rel => exact ⟨jn + 1, by have := HJ.out; omega, by first | rfl | go_num | (congr 1; unfold wrap64; have := HJB.out; omega), by first | rfl | rw [HY.out], by rw [HFR.out], by rw [HFR.out], by rw [HFR.out], rfl⟩
                      · have hje : jn = t.many := by omega
                        have g9 : ¬ (t.many : Int) < M := by have := HM.out; omega
                        clear hj hlt
                        subst hje
                        rw [fres_none t K HQ.out]
                        go_wp2_with fail
                        go_fit (error_errno 1 w3 (HET.out.below HP3.out.bel))
                        rintro e w4 ⟨rfl, b4⟩
                        have HP4 : Hid _ := HP3.out.below b4
                        clear b4
                        obtain ⟨k9, HP9⟩ : ∃ k9, Hid (Ply w w.heap.size (n + 1) t k9 _ _ w4) := ⟨_, HP4.out⟩
                        go_wp2_with fail
                        go_loopg [45, 46] t.many (fun gk s j wy => ∃ jn : Nat, jn + gk = t.many ∧ j = .int .i64 (jn : Int) ∧ s = .int .i64 (t.pre jn) ∧ w4 = wy)
                        case atStart => exact ⟨0, by omega, rfl, by simp [Deep.BT.pre], rfl⟩
                        case round =>
                          obtain ⟨jn, hj, rfl, rfl, rfl⟩ := hrel
                          by_cases hlt : jn < t.many
                          · obtain ⟨bz, hbz, hbl, hcz⟩ := HP9.out.wcell (j := jn) (Nat.lt_of_lt_of_eq hlt (Eq.symm rfl))
                            first
                              | subst hbz
                              | (injection hbz with hbz; injection hbz with hbz; subst hbz)
                            have g9 : (jn : Int) < t.many := by omega
                            have g7 : (jn : Int) < 1000 := by have := Nat.lt_of_lt_of_le (Nat.lt_of_lt_of_eq hlt (Eq.symm rfl)) (Nat.le_trans HP9.out.mny (show n + 1 ≤ 1000 by have := HL.out; omega)); omega
                            have y9 : wrap64 (t.pre jn + (t.at' jn).2.2) = t.pre (jn + 1) := HP9.out.psum (Nat.lt_of_lt_of_eq hlt (Eq.symm rfl))
                            have HJ : Hid (jn + gk = t.many ∧ jn < t.many) := ⟨hj, hlt⟩
                            have HY : Hid _ := y9
                            have HJB : Hid (jn < 1000) := Nat.lt_of_lt_of_le (Nat.lt_of_lt_of_eq hlt (Eq.symm rfl)) (Nat.le_trans HP9.out.mny (by have := HL.out; omega))
                            clear hj hlt
                            go_wp2
                            go_roundg (gk - 1)
                            case measure => have := HJ.out; omega
                            case rel => exact ⟨jn + 1, by have := HJ.out; omega, by first | rfl | go_num | (congr 1; unfold wrap64; have := HJB.out; omega), by first | rfl | rw [HY.out], rfl⟩
                          · have hje : jn = t.many := by omega
                            have g9 : ¬ (t.many : Int) < t.many := by omega
                            clear hj hlt
                            subst hje
                            rw [show t.pre t.many = t.wide from (congrArg _ (Eq.symm rfl)).trans (pre_all _)]
                            have E7 := len_any t w.heap.size k9 w4 HP9.out.row.at_ HP9.out.row.row
                            go_wp2_with fail
                            go_fit E7
                            rintro e w7 ⟨rfl, b7⟩
                            have HP7 : Hid _ := HP9.out.below b7
                            clear b7 E7
                            go_wp2_with fail
                            go_fit (wide_any t w.heap.size k9 w7 HP7.out.row.at_ HP7.out.row.row)
                            rintro e w8 ⟨rfl, b8⟩
                            have HP8 : Hid _ := HP7.out.below b8
                            clear b8
                            go_wp2
                            go_roundg (199 - n)
                            case measure => have := HG.out; have := HL.out; omega
                            case rel => exact ⟨n + 1, t, k9, by go_num, by have := HL.out; omega, by have := HL.out; omega, HP8.out⟩
                  · have q3' : 0 ≤ K ∧ K < t.wide := by omega
                    have HQ : Hid _ := q3'
                    clear q3'
                    go_wp2_with fail
                    go_fit (kfind_ok t K w.heap.size w.heap.size kk wr (cost_in HP.out.cst HP.out.high HL.out.2).2.2 HP.out.row HQ.out.1 HQ.out.2)
                    rintro e w3 ⟨rfl, ⟨k3, R3, hk3⟩, K3⟩
                    have HP3 : Hid _ := HP.out.count R3 K3 (cost_next HP.out.cst HP.out.high HL.out.2 (by omega))
                    clear R3 K3 hk3
                    go_wp2_with fail
                    go_loopg [33, 34, 35, 36, 37] t.many (fun gk e a b s j wy => ∃ jn : Nat, jn + gk = t.many ∧ j = .int .i64 (jn : Int) ∧ s = .int .i64 (t.pre jn) ∧ e = .int .i64 (fres t K jn).1 ∧ a = .int .i64 (fres t K jn).2.1 ∧ b = .int .i64 (fres t K jn).2.2 ∧ w3 = wy)
                    case atStart => exact ⟨0, by omega, rfl, by rw [pre_zero], by rw [fres_zero], by rw [fres_zero], by rw [fres_zero], rfl⟩
                    case round =>
                      obtain ⟨jn, hj, rfl, rfl, rfl, rfl, rfl, rfl⟩ := hrel
                      by_cases hlt : jn < t.many
                      · obtain ⟨bz, hbz, hbl, hcz⟩ := HP3.out.wcell (j := jn) hlt
                        first
                          | subst hbz
                          | (injection hbz with hbz; injection hbz with hbz; subst hbz)
                        have g9 : (jn : Int) < M := by have := HM.out; omega
                        have g8 : (jn : Int) < t.many := by omega
                        have g7 : (jn : Int) < 1000 := by have := Nat.le_trans HP.out.mny (show n ≤ 999 by have := HL.out; omega); omega
                        have y9 : wrap64 (t.pre jn + (t.at' jn).2.2) = t.pre (jn + 1) := HP3.out.psum hlt
                        have HJ : Hid (jn + gk = t.many ∧ jn < t.many) := ⟨hj, hlt⟩
                        have HJB : Hid (jn < 1000) := Nat.lt_of_lt_of_le hlt (Nat.le_trans HP.out.mny (by have := HL.out; omega))
                        have hpb := (pre_bounds t HP3.out.row.fit jn hlt).1
                        by_cases c1 : K < t.pre jn
                        · have HFR : Hid (fres t K (jn + 1) = fres t K jn) := fres_lo t HP3.out.row.itm K jn hlt c1
                          generalize fres t K jn = fq at *
                          have HY : Hid _ := y9
                          have c1' : ¬ t.pre jn ≤ K := by omega
                          clear hj hlt hpb
                          go_wp2
                          go_roundg (gk - 1)
                          case measure => have := HJ.out; omega
                          case rel => exact ⟨jn + 1, by have := HJ.out; omega, by first | rfl | go_num | (congr 1; unfold wrap64; have := HJB.out; omega), by first | rfl | rw [HY.out], by rw [HFR.out], by rw [HFR.out], by rw [HFR.out], rfl⟩
                        · by_cases c2 : K < t.pre (jn + 1)
                          · have HFR : Hid (fres t K (jn + 1) = (0, (jn : Int), K - t.pre jn)) := fres_hit t HP3.out.row.itm K jn hlt (by omega) c2
                            generalize fres t K jn = fq at *
                            have y8 : wrap64 (K - t.pre jn) = K - t.pre jn := by have := pre_bounds t HP3.out.row.fit jn hlt; have := pre_succ t jn hlt; unfold wrap64; omega
                            have HY : Hid _ := y9
                            have c1' : t.pre jn ≤ K := by omega
                            clear hj hlt hpb
                            go_wp2
                            go_roundg (gk - 1)
                            case measure => have := HJ.out; omega
                            case rel => exact ⟨jn + 1, by have := HJ.out; omega, by first | rfl | go_num | (congr 1; unfold wrap64; have := HJB.out; omega), by first | rfl | rw [HY.out], by rw [HFR.out], by rw [HFR.out], by rw [HFR.out], rfl⟩
                          · have HFR : Hid (fres t K (jn + 1) = fres t K jn) := fres_hi t HP3.out.row.itm K jn hlt (by omega)
                            generalize fres t K jn = fq at *
                            have HY : Hid _ := y9
                            have c1' : t.pre jn ≤ K := by omega
                            clear hj hlt hpb
                            go_wp2
                            go_roundg (gk - 1)
                            case measure => have := HJ.out; omega
                            case rel => exact ⟨jn + 1, by have := HJ.out; omega, by first | rfl | go_num | (congr 1; unfold wrap64; have := HJB.out; omega), by first | rfl | rw [HY.out], by rw [HFR.out], by rw [HFR.out], by rw [HFR.out], rfl⟩
                      · have hje : jn = t.many := by omega
                        have g9 : ¬ (t.many : Int) < M := by have := HM.out; omega
                        clear hj hlt
                        subst hje
                        rw [fres_some t K HQ.out]
                        go_wp2_with fail
                        go_fit (error_nil w3)
                        rintro e w4 ⟨rfl, b4⟩
                        have HP4 : Hid _ := HP3.out.below b4
                        clear b4
                        obtain ⟨k9, HP9⟩ : ∃ k9, Hid (Ply w w.heap.size (n + 1) t k9 _ _ w4) := ⟨_, HP4.out⟩
                        go_wp2_with fail
                        go_loopg [45, 46] t.many (fun gk s j wy => ∃ jn : Nat, jn + gk = t.many ∧ j = .int .i64 (jn : Int) ∧ s = .int .i64 (t.pre jn) ∧ w4 = wy)
                        case atStart => exact ⟨0, by omega, rfl, by simp [Deep.BT.pre], rfl⟩
                        case round =>
                          obtain ⟨jn, hj, rfl, rfl, rfl⟩ := hrel
                          by_cases hlt : jn < t.many
                          · obtain ⟨bz, hbz, hbl, hcz⟩ := HP9.out.wcell (j := jn) (Nat.lt_of_lt_of_eq hlt (Eq.symm rfl))
                            first
                              | subst hbz
                              | (injection hbz with hbz; injection hbz with hbz; subst hbz)
                            have g9 : (jn : Int) < t.many := by omega
                            have g7 : (jn : Int) < 1000 := by have := Nat.lt_of_lt_of_le (Nat.lt_of_lt_of_eq hlt (Eq.symm rfl)) (Nat.le_trans HP9.out.mny (show n + 1 ≤ 1000 by have := HL.out; omega)); omega
                            have y9 : wrap64 (t.pre jn + (t.at' jn).2.2) = t.pre (jn + 1) := HP9.out.psum (Nat.lt_of_lt_of_eq hlt (Eq.symm rfl))
                            have HJ : Hid (jn + gk = t.many ∧ jn < t.many) := ⟨hj, hlt⟩
                            have HY : Hid _ := y9
                            have HJB : Hid (jn < 1000) := Nat.lt_of_lt_of_le (Nat.lt_of_lt_of_eq hlt (Eq.symm rfl)) (Nat.le_trans HP9.out.mny (by have := HL.out; omega))
                            clear hj hlt
                            go_wp2
                            go_roundg (gk - 1)
                            case measure => have := HJ.out; omega
                            case rel => exact ⟨jn + 1, by have := HJ.out; omega, by first | rfl | go_num | (congr 1; unfold wrap64; have := HJB.out; omega), by first | rfl | rw [HY.out], rfl⟩
                          · have hje : jn = t.many := by omega
                            have g9 : ¬ (t.many : Int) < t.many := by omega
                            clear hj hlt
                            subst hje
                            rw [show t.pre t.many = t.wide from (congrArg _ (Eq.symm rfl)).trans (pre_all _)]
                            have E7 := len_any t w.heap.size k9 w4 HP9.out.row.at_ HP9.out.row.row
                            go_wp2_with fail
                            go_fit E7
                            rintro e w7 ⟨rfl, b7⟩
                            have HP7 : Hid _ := HP9.out.below b7
                            clear b7 E7
                            go_wp2_with fail
                            go_fit (wide_any t w.heap.size k9 w7 HP7.out.row.at_ HP7.out.row.row)
                            rintro e w8 ⟨rfl, b8⟩
                            have HP8 : Hid _ := HP7.out.below b8
                            clear b8
                            go_wp2
                            go_roundg (199 - n)
                            case measure => have := HG.out; have := HL.out; omega
                            case rel => exact ⟨n + 1, t, k9, by go_num, by have := HL.out; omega, by have := HL.out; omega, HP8.out⟩
            · as_aux_lemma =>
                by_cases q1 : K < 0
                · go_wp2_with fail
                  go_fit (kahead_bad t K w.heap.size w.heap.size kk wr HP.out.row (by omega))
                  rintro e w3 ⟨rfl, R3, K3⟩
                  have HP3 : Hid _ := HP.out.count R3 K3 (by have := HP.out.cst; omega)
                  clear R3 K3
                  go_wp2_with fail
                  go_fit (error_errno 1 w3 (HET.out.below HP3.out.bel))
                  rintro e w4 ⟨rfl, b4⟩
                  have HP4 : Hid _ := HP3.out.below b4
                  clear b4
                  obtain ⟨k9, HP9⟩ : ∃ k9, Hid (Ply w w.heap.size (n + 1) t k9 _ _ w4) := ⟨_, HP4.out⟩
                  go_wp2_with fail
                  go_loopg [45, 46] t.many (fun gk s j wy => ∃ jn : Nat, jn + gk = t.many ∧ j = .int .i64 (jn : Int) ∧ s = .int .i64 (t.pre jn) ∧ w4 = wy)
                  case atStart => exact ⟨0, by omega, rfl, by simp [Deep.BT.pre], rfl⟩
                  case round =>
                    obtain ⟨jn, hj, rfl, rfl, rfl⟩ := hrel
                    by_cases hlt : jn < t.many
                    · obtain ⟨bz, hbz, hbl, hcz⟩ := HP9.out.wcell (j := jn) (Nat.lt_of_lt_of_eq hlt (Eq.symm rfl))
                      first
                        | subst hbz
                        | (injection hbz with hbz; injection hbz with hbz; subst hbz)
                      have g9 : (jn : Int) < t.many := by omega
                      have g7 : (jn : Int) < 1000 := by have := Nat.lt_of_lt_of_le (Nat.lt_of_lt_of_eq hlt (Eq.symm rfl)) (Nat.le_trans HP9.out.mny (show n + 1 ≤ 1000 by have := HL.out; omega)); omega
                      have y9 : wrap64 (t.pre jn + (t.at' jn).2.2) = t.pre (jn + 1) := HP9.out.psum (Nat.lt_of_lt_of_eq hlt (Eq.symm rfl))
                      have HJ : Hid (jn + gk = t.many ∧ jn < t.many) := ⟨hj, hlt⟩
                      have HY : Hid _ := y9
                      have HJB : Hid (jn < 1000) := Nat.lt_of_lt_of_le (Nat.lt_of_lt_of_eq hlt (Eq.symm rfl)) (Nat.le_trans HP9.out.mny (by have := HL.out; omega))
                      clear hj hlt
                      go_wp2
                      go_roundg (gk - 1)
                      case measure => have := HJ.out; omega
                      case rel => exact ⟨jn + 1, by have := HJ.out; omega, by first | rfl | go_num | (congr 1; unfold wrap64; have := HJB.out; omega), by first | rfl | rw [HY.out], rfl⟩
                    · have hje : jn = t.many := by omega
                      have g9 : ¬ (t.many : Int) < t.many := by omega
                      clear hj hlt
                      subst hje
                      rw [show t.pre t.many = t.wide from (congrArg _ (Eq.symm rfl)).trans (pre_all _)]
                      have E7 := len_any t w.heap.size k9 w4 HP9.out.row.at_ HP9.out.row.row
                      go_wp2_with fail
                      go_fit E7
                      rintro e w7 ⟨rfl, b7⟩
                      have HP7 : Hid _ := HP9.out.below b7
                      clear b7 E7
                      go_wp2_with fail
                      go_fit (wide_any t w.heap.size k9 w7 HP7.out.row.at_ HP7.out.row.row)
                      rintro e w8 ⟨rfl, b8⟩
                      have HP8 : Hid _ := HP7.out.below b8
                      clear b8
                      go_wp2
                      go_roundg (199 - n)
                      case measure => have := HG.out; have := HL.out; omega
                      case rel => exact ⟨n + 1, t, k9, by go_num, by have := HL.out; omega, by have := HL.out; omega, HP8.out⟩
                · by_cases q2 : M < K
                  · go_wp2_with fail
                    go_fit (kahead_bad t K w.heap.size w.heap.size kk wr HP.out.row (by have := HM.out; omega))
                    rintro e w3 ⟨rfl, R3, K3⟩
                    have HP3 : Hid _ := HP.out.count R3 K3 (by have := HP.out.cst; omega)
                    clear R3 K3
                    go_wp2_with fail
                    go_fit (error_errno 1 w3 (HET.out.below HP3.out.bel))
                    rintro e w4 ⟨rfl, b4⟩
                    have HP4 : Hid _ := HP3.out.below b4
                    clear b4
                    obtain ⟨k9, HP9⟩ : ∃ k9, Hid (Ply w w.heap.size (n + 1) t k9 _ _ w4) := ⟨_, HP4.out⟩
                    go_wp2_with fail
                    go_loopg [45, 46] t.many (fun gk s j wy => ∃ jn : Nat, jn + gk = t.many ∧ j = .int .i64 (jn : Int) ∧ s = .int .i64 (t.pre jn) ∧ w4 = wy)
                    case atStart => exact ⟨0, by omega, rfl, by simp [Deep.BT.pre], rfl⟩
                    case round =>
                      obtain ⟨jn, hj, rfl, rfl, rfl⟩ := hrel
                      by_cases hlt : jn < t.many
                      · obtain ⟨bz, hbz, hbl, hcz⟩ := HP9.out.wcell (j := jn) (Nat.lt_of_lt_of_eq hlt (Eq.symm rfl))
                        first
                          | subst hbz
                          | (injection hbz with hbz; injection hbz with hbz; subst hbz)
                        have g9 : (jn : Int) < t.many := by omega
                        have g7 : (jn : Int) < 1000 := by have := Nat.lt_of_lt_of_le (Nat.lt_of_lt_of_eq hlt (Eq.symm rfl)) (Nat.le_trans HP9.out.mny (show n + 1 ≤ 1000 by have := HL.out; omega)); omega
                        have y9 : wrap64 (t.pre jn + (t.at' jn).2.2) = t.pre (jn + 1) := HP9.out.psum (Nat.lt_of_lt_of_eq hlt (Eq.symm rfl))
                        have HJ : Hid (jn + gk = t.many ∧ jn < t.many) := ⟨hj, hlt⟩
                        have HY : Hid _ := y9
                        have HJB : Hid (jn < 1000) := Nat.lt_of_lt_of_le (Nat.lt_of_lt_of_eq hlt (Eq.symm rfl)) (Nat.le_trans HP9.out.mny (by have := HL.out; omega))
                        clear hj hlt
                        go_wp2
                        go_roundg (gk - 1)
                        case measure => have := HJ.out; omega
                        case rel => exact ⟨jn + 1, by have := HJ.out; omega, by first | rfl | go_num | (congr 1; unfold wrap64; have := HJB.out; omega), by first | rfl | rw [HY.out], rfl⟩
                      · have hje : jn = t.many := by omega
                        have g9 : ¬ (t.many : Int) < t.many := by omega
                        clear hj hlt
                        subst hje
                        rw [show t.pre t.many = t.wide from (congrArg _ (Eq.symm rfl)).trans (pre_all _)]
                        have E7 := len_any t w.heap.size k9 w4 HP9.out.row.at_ HP9.out.row.row
                        go_wp2_with fail
                        go_fit E7
                        rintro e w7 ⟨rfl, b7⟩
                        have HP7 : Hid _ := HP9.out.below b7
                        clear b7 E7
                        go_wp2_with fail
                        go_fit (wide_any t w.heap.size k9 w7 HP7.out.row.at_ HP7.out.row.row)
                        rintro e w8 ⟨rfl, b8⟩
                        have HP8 : Hid _ := HP7.out.below b8
                        clear b8
                        go_wp2
                        go_roundg (199 - n)
                        case measure => have := HG.out; have := HL.out; omega
                        case rel => exact ⟨n + 1, t, k9, by go_num, by have := HL.out; omega, by have := HL.out; omega, HP8.out⟩
                  · obtain ⟨a, rfl⟩ : ∃ a : Nat, K = (a : Int) := ⟨K.toNat, by omega⟩
                    have ha : a ≤ t.many := by have := HM.out; omega
                    have HA : Hid (a ≤ t.many) := ha
                    have q3 : (a : Int) ≤ M := by omega
                    clear ha q1 q2
                    go_wp2_with fail
                    go_fit (kahead_le t a w.heap.size w.heap.size kk wr (cost_in HP.out.cst HP.out.high HL.out.2).2.2 HP.out.row HA.out)
                    rintro e w3 ⟨rfl, ⟨k3, R3, hk3⟩, K3⟩
                    have HP3 : Hid _ := HP.out.count R3 K3 (cost_next HP.out.cst HP.out.high HL.out.2 (by omega))
                    clear R3 K3 hk3
                    go_wp2_with fail
                    go_loopg [42, 43] a (fun gk s j wy => ∃ jn : Nat, jn + gk = a ∧ j = .int .i64 (jn : Int) ∧ s = .int .i64 (t.pre jn) ∧ w3 = wy)
                    case atStart => exact ⟨0, by omega, rfl, by rw [pre_zero], rfl⟩
                    case round =>
                      obtain ⟨jn, hj, rfl, rfl, rfl⟩ := hrel
                      by_cases hlt : jn < a
                      · have hjm : jn < t.many := Nat.lt_of_lt_of_le hlt HA.out
                        obtain ⟨bz, hbz, hbl, hcz⟩ := HP3.out.wcell (j := jn) hjm
                        first
                          | subst hbz
                          | (injection hbz with hbz; injection hbz with hbz; subst hbz)
                        have g9 : (jn : Int) < a := by omega
                        have g8 : (jn : Int) < t.many := by omega
                        have g7 : (jn : Int) < 1000 := by have := Nat.le_trans HP.out.mny (show n ≤ 999 by have := HL.out; omega); omega
                        have y9 : wrap64 (t.pre jn + (t.at' jn).2.2) = t.pre (jn + 1) := HP3.out.psum hjm
                        have HJ : Hid (jn + gk = a ∧ jn < a) := ⟨hj, hlt⟩
                        have HY : Hid _ := y9
                        have HJB : Hid (jn < 1000) := Nat.lt_of_lt_of_le hjm (Nat.le_trans HP.out.mny (by have := HL.out; omega))
                        clear hj hlt hjm
                        go_wp2
                        go_roundg (gk - 1)
                        case measure => have := HJ.out; omega
                        case rel => exact ⟨jn + 1, by have := HJ.out; omega, by first | rfl | go_num | (congr 1; unfold wrap64; have := HJB.out; omega), by first | rfl | rw [HY.out], rfl⟩
                      · have hje : jn = a := by omega
                        have g9 : ¬ (a : Int) < a := by omega
                        clear hj hlt
                        subst hje
                        go_wp2_with fail
                        go_fit (error_nil w3)
                        rintro e w4 ⟨rfl, b4⟩
                        have HP4 : Hid _ := HP3.out.below b4
                        clear b4
                        obtain ⟨k9, HP9⟩ : ∃ k9, Hid (Ply w w.heap.size (n + 1) t k9 _ _ w4) := ⟨_, HP4.out⟩
                        go_wp2_with fail
                        go_loopg [45, 46] t.many (fun gk s j wy => ∃ jn : Nat, jn + gk = t.many ∧ j = .int .i64 (jn : Int) ∧ s = .int .i64 (t.pre jn) ∧ w4 = wy)
                        case atStart => exact ⟨0, by omega, rfl, by simp [Deep.BT.pre], rfl⟩
                        case round =>
                          obtain ⟨jn, hj, rfl, rfl, rfl⟩ := hrel
                          by_cases hlt : jn < t.many
                          · obtain ⟨bz, hbz, hbl, hcz⟩ := HP9.out.wcell (j := jn) (Nat.lt_of_lt_of_eq hlt (Eq.symm rfl))
                            first
                              | subst hbz
                              | (injection hbz with hbz; injection hbz with hbz; subst hbz)
                            have g9 : (jn : Int) < t.many := by omega
                            have g7 : (jn : Int) < 1000 := by have := Nat.lt_of_lt_of_le (Nat.lt_of_lt_of_eq hlt (Eq.symm rfl)) (Nat.le_trans HP9.out.mny (show n + 1 ≤ 1000 by have := HL.out; omega)); omega
                            have y9 : wrap64 (t.pre jn + (t.at' jn).2.2) = t.pre (jn + 1) := HP9.out.psum (Nat.lt_of_lt_of_eq hlt (Eq.symm rfl))
                            have HJ : Hid (jn + gk = t.many ∧ jn < t.many) := ⟨hj, hlt⟩
                            have HY : Hid _ := y9
                            have HJB : Hid (jn < 1000) := Nat.lt_of_lt_of_le (Nat.lt_of_lt_of_eq hlt (Eq.symm rfl)) (Nat.le_trans HP9.out.mny (by have := HL.out; omega))
                            clear hj hlt
                            go_wp2
                            go_roundg (gk - 1)
                            case measure => have := HJ.out; omega
                            case rel => exact ⟨jn + 1, by have := HJ.out; omega, by first | rfl | go_num | (congr 1; unfold wrap64; have := HJB.out; omega), by first | rfl | rw [HY.out], rfl⟩
                          · have hje : jn = t.many := by omega
                            have g9 : ¬ (t.many : Int) < t.many := by omega
                            clear hj hlt
                            subst hje
                            rw [show t.pre t.many = t.wide from (congrArg _ (Eq.symm rfl)).trans (pre_all _)]
                            have E7 := len_any t w.heap.size k9 w4 HP9.out.row.at_ HP9.out.row.row
                            go_wp2_with fail
                            go_fit E7
                            rintro e w7 ⟨rfl, b7⟩
                            have HP7 : Hid _ := HP9.out.below b7
                            clear b7 E7
                            go_wp2_with fail
                            go_fit (wide_any t w.heap.size k9 w7 HP7.out.row.at_ HP7.out.row.row)
                            rintro e w8 ⟨rfl, b8⟩
                            have HP8 : Hid _ := HP7.out.below b8
                            clear b8
                            go_wp2
                            go_roundg (199 - n)
                            case measure => have := HG.out; have := HL.out; omega
                            case rel => exact ⟨n + 1, t, k9, by go_num, by have := HL.out; omega, by have := HL.out; omega, HP8.out⟩
      · have g1 : (n : Int) < ls.length := by omega
        have g2 : ¬ (n : Int) < 200 := by omega
        have HF : Hid (Below w.heap.size w wr) := HP.out.bel
        clear hlt h200
        go_wp2
        go_ret
        exact ⟨rfl, HF.out⟩
    · have g1 : ¬ (n : Int) < ls.length := by omega
      have HF : Hid (Below w.heap.size w wr) := HP.out.bel
      clear hlt
      go_wp2
      go_ret
      exact ⟨rfl, HF.out⟩
end Go.Proofs.YtebglecjajghjaaDoor
