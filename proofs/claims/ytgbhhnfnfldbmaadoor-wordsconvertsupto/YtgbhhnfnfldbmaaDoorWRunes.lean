/-
  What is proved: the function Runes of bookref4, called with any text, gives its runes, or tells that it is no UTF-8, and nothing that was there has turned.
  Conditions: the text has at most 1048576 bytes.
-/
import Derived.Test.YtgbhhnfnfldbmaaDoorWBrk
import Derived.Test.YtgbhhnfnfldbmaaDoorWStep
namespace Go.Proofs.YtgbhhnfnfldbmaaDoor
open Go.RowKit

theorem get_lt (s : ByteArray) (p : Nat) (h : p < s.size) : s.get! p = s[p]'h := by simpa using get_at s p h

theorem okAt_end {s : ByteArray} {p : Nat} (h : ¬ p < s.size) : okAt s p = true := by
  unfold okAt
  rw [List.drop_eq_nil_of_le (by rw [size_len]; omega)]
  rfl

theorem hd_none {s : ByteArray} {p : Nat} (hp : p < s.size) (h : hdB (s.get! p).toNat = none) : okAt s p = false := by
  have h1 := stB_decode hp
  unfold stB at h1
  rw [h] at h1
  simp only at h1
  rw [okAt_step s p hp]
  split at h1
  · rename_i h2
    rw [if_pos h2]
  · cases h1

theorem hd_some {s : ByteArray} {p n c l : Nat} (hp : p < s.size) (h : hdB (s.get! p).toNat = some (n, c, l)) :
    (s.size ≤ p + n → okAt s p = false) ∧ (lpB s p n 1 c = none → okAt s p = false) ∧
    (∀ d, lpB s p n 1 c = some d → noR l d = true → okAt s p = false) ∧
    (∀ d, lpB s p n 1 c = some d → ¬ s.size ≤ p + n → noR l d = false → okAt s p = okAt s (p + n + 1) ∧ rns s p = d :: rns s (p + n + 1)) := by
  have h1 := stB_decode hp
  unfold stB at h1
  rw [h] at h1
  simp only at h1
  have hno : none = (if (Utf8.decode s p).1 = 65533 ∧ (Utf8.decode s p).2 = 1 then none else some (Utf8.decode s p)) → okAt s p = false := by
    intro h2
    rw [okAt_step s p hp]
    split at h2
    · rename_i h3
      rw [if_pos h3]
    · cases h2
  refine ⟨fun h2 => ?_, fun h2 => ?_, fun d h2 h3 => ?_, fun d h2 h3 h4 => ?_⟩
  · rw [if_pos h2] at h1
    exact hno h1
  · rw [h2] at h1
    simp only [ite_self] at h1
    exact hno h1
  · rw [h2] at h1
    simp only [h3, if_true, ite_self] at h1
    exact hno h1
  · rw [h2, if_neg h3] at h1
    simp only [h4, Bool.false_eq_true, if_false] at h1
    split at h1
    · cases h1
    · rename_i h5
      have h6 := Option.some.inj h1
      rw [okAt_step s p hp, if_neg h5, rns_cons hp]
      unfold nxt
      rw [← h6]
      exact ⟨rfl, rfl⟩

/-- The runes as numbers. -/
abbrev asI (l : List Nat) : List Int := l.map fun c : Nat => (c : Int)

/-- What Runes answers. -/
def RunesP (s : ByteArray) (w : World) (e : Ending) (w' : World) : Prop :=
  ((Lib.validD s.data.toList = true ∧ ∃ u, e = .returned (.tuple #[u, .bool true]) ∧ RowI w.heap.size u (asI (rns s 0)) w') ∨
   (Lib.validD s.data.toList = false ∧ e = .returned (.tuple #[.slice none 0 0, .bool false]))) ∧ Below w.heap.size w w'

set_option maxRecDepth 100000 in
set_option maxHeartbeats 16000000 in
theorem runes_any (s : ByteArray) (w : World) (hs : s.size ≤ 1048576) :
    Calls Tryd.prog 11 #[.string s] w (RunesP s w) := by
  obtain ⟨i0, hi, hz0, hz1, hz2⟩ := info_parts infoI
  obtain ⟨V, hVe⟩ : ∃ V, okAt s 0 = V := ⟨_, rfl⟩
  obtain ⟨R, hR⟩ : ∃ R, asI (rns s 0) = R := ⟨_, rfl⟩
  have HFT : Hid (∀ u w', V = true → RowI w.heap.size u R w' → Below w.heap.size w w' → RunesP s w (.returned (.tuple #[u, .bool true])) w') :=
    fun u w' hv hr hb => ⟨.inl ⟨by rw [← okAt_zero, hVe, hv], u, rfl, by rw [hR]; exact hr⟩, hb⟩
  have HFF : Hid (∀ w', V = false → Below w.heap.size w w' → RunesP s w (.returned (.tuple #[.slice none 0 0, .bool false])) w') :=
    fun w' hv hb => ⟨.inr ⟨by rw [← okAt_zero, hVe, hv], rfl⟩, hb⟩
  obtain ⟨post, hpost⟩ : ∃ post, RunesP s w = post := ⟨_, rfl⟩
  rw [hpost] at HFT HFF ⊢
  clear hpost
  go_enter Tryd.func11, Tryd.ntmps11
  go_wp2_with fail
  go_loopw [4, 5] (fun o i wr => ∃ (p : Nat) (L : List Int), p ≤ s.size ∧ okAt s p = V ∧ i = .int .i64 p ∧ RowI w.heap.size o L wr ∧ L.length ≤ p ∧ Below w.heap.size w wr ∧ L ++ asI (rns s p) = R) (fun _ i _ => s.size - (RowKit.intOf i).toNat)
  case atStart => exact ⟨0, [], Nat.zero_le _, hVe, rfl, World.ownsRow_nil _ _ 3 1, Nat.le_refl _, Below.refl _ _, hR⟩
  case round =>
    clear hR hVe
    obtain ⟨p, L, hp, hok, rfl, hh, hLp, bw, hR⟩ := hrel
    have hz := bw.size
    have hl := rowI_len hh
    by_cases hlt : p < s.size
    · have g0 : (p : Int) < s.size := by omega
      have hgl := get_lt s p hlt
      obtain ⟨b0, hb0⟩ : ∃ b0, (s[p]'hlt).toNat = b0 := ⟨_, rfl⟩
      have hb0' : (s.get! p).toNat = b0 := by rw [hgl]; exact hb0
      have hbl : b0 < 256 := by rw [← hb0]; exact UInt8.toNat_lt _
      have hno := hd_none hlt
      have hso := fun n c l => hd_some (n := n) (c := c) (l := l) hlt
      rw [hb0'] at hno hso
      have HR : Hid (L ++ asI (rns s p) = R) := hR
      clear hR hgl hb0'
      have HOK : Hid (okAt s p = V) := hok
      clear hok
      by_cases k0 : b0 < 128
      · have f0 : (b0 : Int) < 128 := by omega
        have hc0 : b0 ≤ 128 := by omega

        obtain ⟨h1, h2, h3, h4⟩ := hso 0 b0 0 (by unfold hdB; rw [if_pos k0])
        clear hso hno
        have H1 : Hid (s.size ≤ p + 0 → okAt s p = false) := h1
        have H2 : Hid (lpB s p 0 1 b0 = none → okAt s p = false) := h2
        have H3 : Hid (∀ d, lpB s p 0 1 b0 = some d → noR 0 d = true → okAt s p = false) := h3
        have H4 : Hid (∀ d, lpB s p 0 1 b0 = some d → ¬ s.size ≤ p + 0 → noR 0 d = false → okAt s p = okAt s (p + 0 + 1) ∧ rns s p = d :: rns s (p + 0 + 1)) := h4
        clear h1 h2 h3 h4
        obtain ⟨Rl, hRl⟩ : ∃ Rl, lpB s p 0 1 b0 = Rl := ⟨_, rfl⟩
        rw [hRl] at H2 H3 H4
        by_cases hsz1 : s.size ≤ p + 0
        · omega
        · have g1 : ¬ (s.size : Int) ≤ p + 0 := by omega
          clear H1
          obtain ⟨ad, cap, he⟩ := hl
          subst he
          go_wp2_with fail
          go_loopw [6, 9] (fun c k w2 => ∃ (C K : Nat), 1 ≤ K ∧ K ≤ 1 ∧ Bd K C ∧ c = .int .i64 C ∧ k = .int .i64 K ∧ w2 = wr ∧ lpB s p (1 - K) K C = Rl) (fun _ k _ => 1 - (RowKit.intOf k).toNat)
          case atStart => exact ⟨b0, 1, Nat.le_refl _, by omega, Or.inl ⟨rfl, hc0⟩, rfl, rfl, rfl, hRl⟩
          case round =>
            clear hRl hc0
            obtain ⟨C, K, hK1, hK2, hBd, rfl, rfl, rfl, hRl⟩ := hrel
            have hCl := hBd.le
            have hCz : (C : Int) ≤ 35000000 := by omega
            by_cases hKn : K < 1
            · omega
            · obtain rfl : K = 1 := by omega
              rw [Nat.sub_self, lpB] at hRl
              have H3' := fun h => H3.out C hRl.symm h
              have H4' := fun h => H4.out C hRl.symm hsz1 h
              have HB3 : Hid (noR 0 C = true → okAt s p = false) := H3'
              have HB4 : Hid (noR 0 C = false → okAt s p = okAt s (p + 0 + 1) ∧ rns s p = C :: rns s (p + 0 + 1)) := H4'
              clear H2 H3 H4 H3' H4' hRl hBd hK1 hK2 hKn hCz hCl
              have r1 : decide ((C : Int) < 0) = false := decide_eq_false (by omega)
              by_cases q2 : 1114111 < C
              · have r2 : decide ((1114111 : Int) < C) = true := decide_eq_true (by omega)
                have HN := HB3.out (noR_of.2 (Or.inr (Or.inl q2)))
                clear HB4 q2
                go_wp2
                refine HFF.out _ ?_ bw
                rw [← HOK.out]
                exact HN
              · have r2 : decide ((1114111 : Int) < C) = false := decide_eq_false (by omega)
                by_cases q3 : 55296 ≤ C
                · have r3 : decide ((55296 : Int) ≤ C) = true := decide_eq_true (by omega)
                  by_cases q4 : C ≤ 57343
                  · have r4 : decide ((C : Int) ≤ 57343) = true := decide_eq_true (by omega)
                    have HN := HB3.out (noR_of.2 (Or.inr (Or.inr ⟨q3, q4⟩)))
                    clear HB4 q2 q3 q4
                    go_wp2
                    refine HFF.out _ ?_ bw
                    rw [← HOK.out]
                    exact HN
                  · have r4 : decide ((C : Int) ≤ 57343) = false := decide_eq_false (by omega)
                    have hN : noR 0 C = false := by rw [← Bool.not_eq_true, noR_of]; omega
                    obtain ⟨e1, e2⟩ := HB4.out hN
                    have HV : Hid (okAt s (p + 0 + 1) = V) := by show _ = _; rw [← e1]; exact HOK.out
                    have HRR : Hid ((L ++ [(C : Int)]) ++ asI (rns s (p + 0 + 1)) = R) := by show _ = _; rw [← HR.out, e2]; simp
                    clear HB3 HB4 HR HOK hN e1 e2 q2 q3 q4
                    go_wp2_with (first | (at_builtin; refine wpList_append_own _ rfl _ _ 29 rfl w.heap.size 3 i0 (.int .i64 0) 1 8 Tryd.underlying29 hi hz0 hz1 hz2 rfl (by decide) _ _ _ rfl (hh.alloc _) ⟨wr.heap.size, 0, none⟩ 1 1 (intCells [(C : Int)]) rfl rfl ?c1 ?c2 ?c3 ?c4 ?c5 ?_))
                    try (case c1 =>
                      intro j u hj
                      match j, hj with
                      | 0, hj => simp at hj; subst hj; simp [Addr.add])
                    case c2 => first | rfl | (intro u hu; simp at hu; subst hu; rfl)
                    case c3 => unfold maxLen; omega
                    case c4 => omega
                    case c5 => first | omega | (simp; omega)
                    intro v2 w3 hown hgrow _
                    obtain ⟨R2, B2⟩ := rowI_grown (m := [(C : Int)]) hh bw hz hgrow hown
                    clear hown hgrow
                    go_wp2_with fail
                    go_roundw
                    case rel => exact ⟨p + 0 + 1, L ++ [(C : Int)], by omega, HV.out, by go_num, R2, by rw [List.length_append]; simp; omega, B2, HRR.out⟩
                    case measure => simp [RowKit.intOf]; omega
                · have r3 : decide ((55296 : Int) ≤ C) = false := decide_eq_false (by omega)
                  have hN : noR 0 C = false := by rw [← Bool.not_eq_true, noR_of]; omega
                  obtain ⟨e1, e2⟩ := HB4.out hN
                  have HV : Hid (okAt s (p + 0 + 1) = V) := by show _ = _; rw [← e1]; exact HOK.out
                  have HRR : Hid ((L ++ [(C : Int)]) ++ asI (rns s (p + 0 + 1)) = R) := by show _ = _; rw [← HR.out, e2]; simp
                  clear HB3 HB4 HR HOK hN e1 e2 q2 q3
                  go_wp2_with (first | (at_builtin; refine wpList_append_own _ rfl _ _ 29 rfl w.heap.size 3 i0 (.int .i64 0) 1 8 Tryd.underlying29 hi hz0 hz1 hz2 rfl (by decide) _ _ _ rfl (hh.alloc _) ⟨wr.heap.size, 0, none⟩ 1 1 (intCells [(C : Int)]) rfl rfl ?c1 ?c2 ?c3 ?c4 ?c5 ?_))
                  try (case c1 =>
                    intro j u hj
                    match j, hj with
                    | 0, hj => simp at hj; subst hj; simp [Addr.add])
                  case c2 => first | rfl | (intro u hu; simp at hu; subst hu; rfl)
                  case c3 => unfold maxLen; omega
                  case c4 => omega
                  case c5 => first | omega | (simp; omega)
                  intro v2 w3 hown hgrow _
                  obtain ⟨R2, B2⟩ := rowI_grown (m := [(C : Int)]) hh bw hz hgrow hown
                  clear hown hgrow
                  go_wp2_with fail
                  go_roundw
                  case rel => exact ⟨p + 0 + 1, L ++ [(C : Int)], by omega, HV.out, by go_num, R2, by rw [List.length_append]; simp; omega, B2, HRR.out⟩
                  case measure => simp [RowKit.intOf]; omega
      · have f0 : ¬ (b0 : Int) < 128 := by omega
        by_cases k1 : 192 ≤ b0 ∧ b0 < 224
        · have f1a : (192 : Int) ≤ b0 := by omega
          have f1b : (b0 : Int) < 224 := by omega
          obtain ⟨c0, hcc⟩ : ∃ c0, b0 - 192 = c0 := ⟨_, rfl⟩
          have hcc2 : (b0 : Int) - 192 = c0 := by omega
          have hc0 : c0 ≤ 128 := by omega

          obtain ⟨h1, h2, h3, h4⟩ := hso 1 c0 128 (by unfold hdB; rw [if_neg k0, if_pos k1, hcc])
          clear hso hno
          have H1 : Hid (s.size ≤ p + 1 → okAt s p = false) := h1
          have H2 : Hid (lpB s p 1 1 c0 = none → okAt s p = false) := h2
          have H3 : Hid (∀ d, lpB s p 1 1 c0 = some d → noR 128 d = true → okAt s p = false) := h3
          have H4 : Hid (∀ d, lpB s p 1 1 c0 = some d → ¬ s.size ≤ p + 1 → noR 128 d = false → okAt s p = okAt s (p + 1 + 1) ∧ rns s p = d :: rns s (p + 1 + 1)) := h4
          clear h1 h2 h3 h4
          obtain ⟨Rl, hRl⟩ : ∃ Rl, lpB s p 1 1 c0 = Rl := ⟨_, rfl⟩
          rw [hRl] at H2 H3 H4
          by_cases hsz1 : s.size ≤ p + 1
          · have g1 : (s.size : Int) ≤ p + 1 := by omega
            clear hRl
            go_wp2
            refine HFF.out _ ?_ bw
            rw [← HOK.out]
            exact H1.out hsz1
          · have g1 : ¬ (s.size : Int) ≤ p + 1 := by omega
            clear H1
            obtain ⟨ad, cap, he⟩ := hl
            subst he
            go_wp2_with fail
            go_loopw [6, 9] (fun c k w2 => ∃ (C K : Nat), 1 ≤ K ∧ K ≤ 2 ∧ Bd K C ∧ c = .int .i64 C ∧ k = .int .i64 K ∧ w2 = wr ∧ lpB s p (2 - K) K C = Rl) (fun _ k _ => 2 - (RowKit.intOf k).toNat)
            case atStart => exact ⟨c0, 1, Nat.le_refl _, by omega, Or.inl ⟨rfl, hc0⟩, rfl, rfl, rfl, hRl⟩
            case round =>
              clear hRl hc0
              obtain ⟨C, K, hK1, hK2, hBd, rfl, rfl, rfl, hRl⟩ := hrel
              have hCl := hBd.le
              have hCz : (C : Int) ≤ 35000000 := by omega
              by_cases hKn : K < 2
              · have hlt2 : p + K < s.size := by omega
                have g2 : (K : Int) ≤ 1 := by omega
                have g3 : (p : Int) + K < s.size := by omega
                have hgl := get_lt s (p + K) hlt2
                obtain ⟨d, hd⟩ : ∃ d, (s[p + K]'hlt2).toNat = d := ⟨_, rfl⟩
                have hdl : d < 256 := by rw [← hd]; exact UInt8.toNat_lt _
                have hdz : (d : Int) < 256 := by omega
                obtain ⟨m, hm⟩ : ∃ m, 2 - K = m + 1 := ⟨1 - K, by omega⟩
                rw [hm, lpB, hgl, hd] at hRl
                by_cases hd1 : d < 128
                · rw [if_pos (Or.inl hd1)] at hRl
                  have g4 : (d : Int) < 128 := by omega
                  have HN := H2.out hRl.symm
                  clear hBd hRl hm hd1
                  go_wp2
                  refine HFF.out _ ?_ bw
                  rw [← HOK.out]
                  exact HN
                · have g4 : ¬ (d : Int) < 128 := by omega
                  by_cases hd2 : 191 < d
                  · rw [if_pos (Or.inr hd2)] at hRl
                    have g5 : (191 : Int) < d := by omega
                    have HN := H2.out hRl.symm
                    clear hBd hRl hm hd1 hd2
                    go_wp2
                    refine HFF.out _ ?_ bw
                    rw [← HOK.out]
                    exact HN
                  · rw [if_neg (fun h => h.elim hd1 hd2)] at hRl
                    have g5 : ¬ (191 : Int) < d := by omega
                    have HB := hBd.next (by omega) (show d - 128 < 64 by omega)
                    have HRl : Hid (lpB s p (2 - (K + 1)) (K + 1) (C * 64 + (d - 128)) = Rl) := by
                      show _ = _
                      rw [show 2 - (K + 1) = m by omega]
                      exact hRl
                    have HBd : Hid (Bd (K + 1) (C * 64 + (d - 128))) := HB
                    clear hBd hRl hm HB
                    go_wp2_with fail
                    go_roundw
                    case rel => exact ⟨C * 64 + (d - 128), K + 1, by omega, by omega, HBd.out, by go_num, by go_num, by trivial, HRl.out⟩
                    case measure => simp [RowKit.intOf]; omega
              · obtain rfl : K = 2 := by omega
                rw [Nat.sub_self, lpB] at hRl
                have H3' := fun h => H3.out C hRl.symm h
                have H4' := fun h => H4.out C hRl.symm hsz1 h
                have HB3 : Hid (noR 128 C = true → okAt s p = false) := H3'
                have HB4 : Hid (noR 128 C = false → okAt s p = okAt s (p + 1 + 1) ∧ rns s p = C :: rns s (p + 1 + 1)) := H4'
                clear H2 H3 H4 H3' H4' hRl hBd hK1 hK2 hKn hCz hCl
                by_cases q1 : C < 128
                · have r1 : decide ((C : Int) < 128) = true := decide_eq_true (by omega)
                  have HN := HB3.out (noR_of.2 (Or.inl q1))
                  clear HB4 q1
                  go_wp2
                  refine HFF.out _ ?_ bw
                  rw [← HOK.out]
                  exact HN
                · have r1 : decide ((C : Int) < 128) = false := decide_eq_false (by omega)
                  by_cases q2 : 1114111 < C
                  · have r2 : decide ((1114111 : Int) < C) = true := decide_eq_true (by omega)
                    have HN := HB3.out (noR_of.2 (Or.inr (Or.inl q2)))
                    clear HB4 q2
                    go_wp2
                    refine HFF.out _ ?_ bw
                    rw [← HOK.out]
                    exact HN
                  · have r2 : decide ((1114111 : Int) < C) = false := decide_eq_false (by omega)
                    by_cases q3 : 55296 ≤ C
                    · have r3 : decide ((55296 : Int) ≤ C) = true := decide_eq_true (by omega)
                      by_cases q4 : C ≤ 57343
                      · have r4 : decide ((C : Int) ≤ 57343) = true := decide_eq_true (by omega)
                        have HN := HB3.out (noR_of.2 (Or.inr (Or.inr ⟨q3, q4⟩)))
                        clear HB4 q2 q3 q4
                        go_wp2
                        refine HFF.out _ ?_ bw
                        rw [← HOK.out]
                        exact HN
                      · have r4 : decide ((C : Int) ≤ 57343) = false := decide_eq_false (by omega)
                        have hN : noR 128 C = false := by rw [← Bool.not_eq_true, noR_of]; omega
                        obtain ⟨e1, e2⟩ := HB4.out hN
                        have HV : Hid (okAt s (p + 1 + 1) = V) := by show _ = _; rw [← e1]; exact HOK.out
                        have HRR : Hid ((L ++ [(C : Int)]) ++ asI (rns s (p + 1 + 1)) = R) := by show _ = _; rw [← HR.out, e2]; simp
                        clear HB3 HB4 HR HOK hN e1 e2 q1 q2 q3 q4
                        go_wp2_with (first | (at_builtin; refine wpList_append_own _ rfl _ _ 29 rfl w.heap.size 3 i0 (.int .i64 0) 1 8 Tryd.underlying29 hi hz0 hz1 hz2 rfl (by decide) _ _ _ rfl (hh.alloc _) ⟨wr.heap.size, 0, none⟩ 1 1 (intCells [(C : Int)]) rfl rfl ?c1 ?c2 ?c3 ?c4 ?c5 ?_))
                        try (case c1 =>
                          intro j u hj
                          match j, hj with
                          | 0, hj => simp at hj; subst hj; simp [Addr.add])
                        case c2 => first | rfl | (intro u hu; simp at hu; subst hu; rfl)
                        case c3 => unfold maxLen; omega
                        case c4 => omega
                        case c5 => first | omega | (simp; omega)
                        intro v2 w3 hown hgrow _
                        obtain ⟨R2, B2⟩ := rowI_grown (m := [(C : Int)]) hh bw hz hgrow hown
                        clear hown hgrow
                        go_wp2_with fail
                        go_roundw
                        case rel => exact ⟨p + 1 + 1, L ++ [(C : Int)], by omega, HV.out, by go_num, R2, by rw [List.length_append]; simp; omega, B2, HRR.out⟩
                        case measure => simp [RowKit.intOf]; omega
                    · have r3 : decide ((55296 : Int) ≤ C) = false := decide_eq_false (by omega)
                      have hN : noR 128 C = false := by rw [← Bool.not_eq_true, noR_of]; omega
                      obtain ⟨e1, e2⟩ := HB4.out hN
                      have HV : Hid (okAt s (p + 1 + 1) = V) := by show _ = _; rw [← e1]; exact HOK.out
                      have HRR : Hid ((L ++ [(C : Int)]) ++ asI (rns s (p + 1 + 1)) = R) := by show _ = _; rw [← HR.out, e2]; simp
                      clear HB3 HB4 HR HOK hN e1 e2 q1 q2 q3
                      go_wp2_with (first | (at_builtin; refine wpList_append_own _ rfl _ _ 29 rfl w.heap.size 3 i0 (.int .i64 0) 1 8 Tryd.underlying29 hi hz0 hz1 hz2 rfl (by decide) _ _ _ rfl (hh.alloc _) ⟨wr.heap.size, 0, none⟩ 1 1 (intCells [(C : Int)]) rfl rfl ?c1 ?c2 ?c3 ?c4 ?c5 ?_))
                      try (case c1 =>
                        intro j u hj
                        match j, hj with
                        | 0, hj => simp at hj; subst hj; simp [Addr.add])
                      case c2 => first | rfl | (intro u hu; simp at hu; subst hu; rfl)
                      case c3 => unfold maxLen; omega
                      case c4 => omega
                      case c5 => first | omega | (simp; omega)
                      intro v2 w3 hown hgrow _
                      obtain ⟨R2, B2⟩ := rowI_grown (m := [(C : Int)]) hh bw hz hgrow hown
                      clear hown hgrow
                      go_wp2_with fail
                      go_roundw
                      case rel => exact ⟨p + 1 + 1, L ++ [(C : Int)], by omega, HV.out, by go_num, R2, by rw [List.length_append]; simp; omega, B2, HRR.out⟩
                      case measure => simp [RowKit.intOf]; omega
        · have f1c : ¬ ((192 : Int) ≤ b0 ∧ (b0 : Int) < 224) := by omega
          by_cases k2 : 224 ≤ b0 ∧ b0 < 240
          · have f2a : (224 : Int) ≤ b0 := by omega
            have f2b : (b0 : Int) < 240 := by omega
            obtain ⟨c0, hcc⟩ : ∃ c0, b0 - 224 = c0 := ⟨_, rfl⟩
            have hcc2 : (b0 : Int) - 224 = c0 := by omega
            have hc0 : c0 ≤ 128 := by omega

            obtain ⟨h1, h2, h3, h4⟩ := hso 2 c0 2048 (by unfold hdB; rw [if_neg k0, if_neg k1, if_pos k2, hcc])
            clear hso hno
            have H1 : Hid (s.size ≤ p + 2 → okAt s p = false) := h1
            have H2 : Hid (lpB s p 2 1 c0 = none → okAt s p = false) := h2
            have H3 : Hid (∀ d, lpB s p 2 1 c0 = some d → noR 2048 d = true → okAt s p = false) := h3
            have H4 : Hid (∀ d, lpB s p 2 1 c0 = some d → ¬ s.size ≤ p + 2 → noR 2048 d = false → okAt s p = okAt s (p + 2 + 1) ∧ rns s p = d :: rns s (p + 2 + 1)) := h4
            clear h1 h2 h3 h4
            obtain ⟨Rl, hRl⟩ : ∃ Rl, lpB s p 2 1 c0 = Rl := ⟨_, rfl⟩
            rw [hRl] at H2 H3 H4
            by_cases hsz1 : s.size ≤ p + 2
            · have g1 : (s.size : Int) ≤ p + 2 := by omega
              clear hRl
              go_wp2
              refine HFF.out _ ?_ bw
              rw [← HOK.out]
              exact H1.out hsz1
            · have g1 : ¬ (s.size : Int) ≤ p + 2 := by omega
              clear H1
              obtain ⟨ad, cap, he⟩ := hl
              subst he
              go_wp2_with fail
              go_loopw [6, 9] (fun c k w2 => ∃ (C K : Nat), 1 ≤ K ∧ K ≤ 3 ∧ Bd K C ∧ c = .int .i64 C ∧ k = .int .i64 K ∧ w2 = wr ∧ lpB s p (3 - K) K C = Rl) (fun _ k _ => 3 - (RowKit.intOf k).toNat)
              case atStart => exact ⟨c0, 1, Nat.le_refl _, by omega, Or.inl ⟨rfl, hc0⟩, rfl, rfl, rfl, hRl⟩
              case round =>
                clear hRl hc0
                obtain ⟨C, K, hK1, hK2, hBd, rfl, rfl, rfl, hRl⟩ := hrel
                have hCl := hBd.le
                have hCz : (C : Int) ≤ 35000000 := by omega
                by_cases hKn : K < 3
                · have hlt2 : p + K < s.size := by omega
                  have g2 : (K : Int) ≤ 2 := by omega
                  have g3 : (p : Int) + K < s.size := by omega
                  have hgl := get_lt s (p + K) hlt2
                  obtain ⟨d, hd⟩ : ∃ d, (s[p + K]'hlt2).toNat = d := ⟨_, rfl⟩
                  have hdl : d < 256 := by rw [← hd]; exact UInt8.toNat_lt _
                  have hdz : (d : Int) < 256 := by omega
                  obtain ⟨m, hm⟩ : ∃ m, 3 - K = m + 1 := ⟨2 - K, by omega⟩
                  rw [hm, lpB, hgl, hd] at hRl
                  by_cases hd1 : d < 128
                  · rw [if_pos (Or.inl hd1)] at hRl
                    have g4 : (d : Int) < 128 := by omega
                    have HN := H2.out hRl.symm
                    clear hBd hRl hm hd1
                    go_wp2
                    refine HFF.out _ ?_ bw
                    rw [← HOK.out]
                    exact HN
                  · have g4 : ¬ (d : Int) < 128 := by omega
                    by_cases hd2 : 191 < d
                    · rw [if_pos (Or.inr hd2)] at hRl
                      have g5 : (191 : Int) < d := by omega
                      have HN := H2.out hRl.symm
                      clear hBd hRl hm hd1 hd2
                      go_wp2
                      refine HFF.out _ ?_ bw
                      rw [← HOK.out]
                      exact HN
                    · rw [if_neg (fun h => h.elim hd1 hd2)] at hRl
                      have g5 : ¬ (191 : Int) < d := by omega
                      have HB := hBd.next (by omega) (show d - 128 < 64 by omega)
                      have HRl : Hid (lpB s p (3 - (K + 1)) (K + 1) (C * 64 + (d - 128)) = Rl) := by
                        show _ = _
                        rw [show 3 - (K + 1) = m by omega]
                        exact hRl
                      have HBd : Hid (Bd (K + 1) (C * 64 + (d - 128))) := HB
                      clear hBd hRl hm HB
                      go_wp2_with fail
                      go_roundw
                      case rel => exact ⟨C * 64 + (d - 128), K + 1, by omega, by omega, HBd.out, by go_num, by go_num, by trivial, HRl.out⟩
                      case measure => simp [RowKit.intOf]; omega
                · obtain rfl : K = 3 := by omega
                  rw [Nat.sub_self, lpB] at hRl
                  have H3' := fun h => H3.out C hRl.symm h
                  have H4' := fun h => H4.out C hRl.symm hsz1 h
                  have HB3 : Hid (noR 2048 C = true → okAt s p = false) := H3'
                  have HB4 : Hid (noR 2048 C = false → okAt s p = okAt s (p + 2 + 1) ∧ rns s p = C :: rns s (p + 2 + 1)) := H4'
                  clear H2 H3 H4 H3' H4' hRl hBd hK1 hK2 hKn hCz hCl
                  by_cases q1 : C < 2048
                  · have r1 : decide ((C : Int) < 2048) = true := decide_eq_true (by omega)
                    have HN := HB3.out (noR_of.2 (Or.inl q1))
                    clear HB4 q1
                    go_wp2
                    refine HFF.out _ ?_ bw
                    rw [← HOK.out]
                    exact HN
                  · have r1 : decide ((C : Int) < 2048) = false := decide_eq_false (by omega)
                    by_cases q2 : 1114111 < C
                    · have r2 : decide ((1114111 : Int) < C) = true := decide_eq_true (by omega)
                      have HN := HB3.out (noR_of.2 (Or.inr (Or.inl q2)))
                      clear HB4 q2
                      go_wp2
                      refine HFF.out _ ?_ bw
                      rw [← HOK.out]
                      exact HN
                    · have r2 : decide ((1114111 : Int) < C) = false := decide_eq_false (by omega)
                      by_cases q3 : 55296 ≤ C
                      · have r3 : decide ((55296 : Int) ≤ C) = true := decide_eq_true (by omega)
                        by_cases q4 : C ≤ 57343
                        · have r4 : decide ((C : Int) ≤ 57343) = true := decide_eq_true (by omega)
                          have HN := HB3.out (noR_of.2 (Or.inr (Or.inr ⟨q3, q4⟩)))
                          clear HB4 q2 q3 q4
                          go_wp2
                          refine HFF.out _ ?_ bw
                          rw [← HOK.out]
                          exact HN
                        · have r4 : decide ((C : Int) ≤ 57343) = false := decide_eq_false (by omega)
                          have hN : noR 2048 C = false := by rw [← Bool.not_eq_true, noR_of]; omega
                          obtain ⟨e1, e2⟩ := HB4.out hN
                          have HV : Hid (okAt s (p + 2 + 1) = V) := by show _ = _; rw [← e1]; exact HOK.out
                          have HRR : Hid ((L ++ [(C : Int)]) ++ asI (rns s (p + 2 + 1)) = R) := by show _ = _; rw [← HR.out, e2]; simp
                          clear HB3 HB4 HR HOK hN e1 e2 q1 q2 q3 q4
                          go_wp2_with (first | (at_builtin; refine wpList_append_own _ rfl _ _ 29 rfl w.heap.size 3 i0 (.int .i64 0) 1 8 Tryd.underlying29 hi hz0 hz1 hz2 rfl (by decide) _ _ _ rfl (hh.alloc _) ⟨wr.heap.size, 0, none⟩ 1 1 (intCells [(C : Int)]) rfl rfl ?c1 ?c2 ?c3 ?c4 ?c5 ?_))
                          try (case c1 =>
                            intro j u hj
                            match j, hj with
                            | 0, hj => simp at hj; subst hj; simp [Addr.add])
                          case c2 => first | rfl | (intro u hu; simp at hu; subst hu; rfl)
                          case c3 => unfold maxLen; omega
                          case c4 => omega
                          case c5 => first | omega | (simp; omega)
                          intro v2 w3 hown hgrow _
                          obtain ⟨R2, B2⟩ := rowI_grown (m := [(C : Int)]) hh bw hz hgrow hown
                          clear hown hgrow
                          go_wp2_with fail
                          go_roundw
                          case rel => exact ⟨p + 2 + 1, L ++ [(C : Int)], by omega, HV.out, by go_num, R2, by rw [List.length_append]; simp; omega, B2, HRR.out⟩
                          case measure => simp [RowKit.intOf]; omega
                      · have r3 : decide ((55296 : Int) ≤ C) = false := decide_eq_false (by omega)
                        have hN : noR 2048 C = false := by rw [← Bool.not_eq_true, noR_of]; omega
                        obtain ⟨e1, e2⟩ := HB4.out hN
                        have HV : Hid (okAt s (p + 2 + 1) = V) := by show _ = _; rw [← e1]; exact HOK.out
                        have HRR : Hid ((L ++ [(C : Int)]) ++ asI (rns s (p + 2 + 1)) = R) := by show _ = _; rw [← HR.out, e2]; simp
                        clear HB3 HB4 HR HOK hN e1 e2 q1 q2 q3
                        go_wp2_with (first | (at_builtin; refine wpList_append_own _ rfl _ _ 29 rfl w.heap.size 3 i0 (.int .i64 0) 1 8 Tryd.underlying29 hi hz0 hz1 hz2 rfl (by decide) _ _ _ rfl (hh.alloc _) ⟨wr.heap.size, 0, none⟩ 1 1 (intCells [(C : Int)]) rfl rfl ?c1 ?c2 ?c3 ?c4 ?c5 ?_))
                        try (case c1 =>
                          intro j u hj
                          match j, hj with
                          | 0, hj => simp at hj; subst hj; simp [Addr.add])
                        case c2 => first | rfl | (intro u hu; simp at hu; subst hu; rfl)
                        case c3 => unfold maxLen; omega
                        case c4 => omega
                        case c5 => first | omega | (simp; omega)
                        intro v2 w3 hown hgrow _
                        obtain ⟨R2, B2⟩ := rowI_grown (m := [(C : Int)]) hh bw hz hgrow hown
                        clear hown hgrow
                        go_wp2_with fail
                        go_roundw
                        case rel => exact ⟨p + 2 + 1, L ++ [(C : Int)], by omega, HV.out, by go_num, R2, by rw [List.length_append]; simp; omega, B2, HRR.out⟩
                        case measure => simp [RowKit.intOf]; omega
          · have f2c : ¬ ((224 : Int) ≤ b0 ∧ (b0 : Int) < 240) := by omega
            by_cases k3 : 240 ≤ b0 ∧ b0 < 248
            · have f3a : (240 : Int) ≤ b0 := by omega
              have f3b : (b0 : Int) < 248 := by omega
              obtain ⟨c0, hcc⟩ : ∃ c0, b0 - 240 = c0 := ⟨_, rfl⟩
              have hcc2 : (b0 : Int) - 240 = c0 := by omega
              have hc0 : c0 ≤ 128 := by omega

              obtain ⟨h1, h2, h3, h4⟩ := hso 3 c0 65536 (by unfold hdB; rw [if_neg k0, if_neg k1, if_neg k2, if_pos k3, hcc])
              clear hso hno
              have H1 : Hid (s.size ≤ p + 3 → okAt s p = false) := h1
              have H2 : Hid (lpB s p 3 1 c0 = none → okAt s p = false) := h2
              have H3 : Hid (∀ d, lpB s p 3 1 c0 = some d → noR 65536 d = true → okAt s p = false) := h3
              have H4 : Hid (∀ d, lpB s p 3 1 c0 = some d → ¬ s.size ≤ p + 3 → noR 65536 d = false → okAt s p = okAt s (p + 3 + 1) ∧ rns s p = d :: rns s (p + 3 + 1)) := h4
              clear h1 h2 h3 h4
              obtain ⟨Rl, hRl⟩ : ∃ Rl, lpB s p 3 1 c0 = Rl := ⟨_, rfl⟩
              rw [hRl] at H2 H3 H4
              by_cases hsz1 : s.size ≤ p + 3
              · have g1 : (s.size : Int) ≤ p + 3 := by omega
                clear hRl
                go_wp2
                refine HFF.out _ ?_ bw
                rw [← HOK.out]
                exact H1.out hsz1
              · have g1 : ¬ (s.size : Int) ≤ p + 3 := by omega
                clear H1
                obtain ⟨ad, cap, he⟩ := hl
                subst he
                go_wp2_with fail
                go_loopw [6, 9] (fun c k w2 => ∃ (C K : Nat), 1 ≤ K ∧ K ≤ 4 ∧ Bd K C ∧ c = .int .i64 C ∧ k = .int .i64 K ∧ w2 = wr ∧ lpB s p (4 - K) K C = Rl) (fun _ k _ => 4 - (RowKit.intOf k).toNat)
                case atStart => exact ⟨c0, 1, Nat.le_refl _, by omega, Or.inl ⟨rfl, hc0⟩, rfl, rfl, rfl, hRl⟩
                case round =>
                  clear hRl hc0
                  obtain ⟨C, K, hK1, hK2, hBd, rfl, rfl, rfl, hRl⟩ := hrel
                  have hCl := hBd.le
                  have hCz : (C : Int) ≤ 35000000 := by omega
                  by_cases hKn : K < 4
                  · have hlt2 : p + K < s.size := by omega
                    have g2 : (K : Int) ≤ 3 := by omega
                    have g3 : (p : Int) + K < s.size := by omega
                    have hgl := get_lt s (p + K) hlt2
                    obtain ⟨d, hd⟩ : ∃ d, (s[p + K]'hlt2).toNat = d := ⟨_, rfl⟩
                    have hdl : d < 256 := by rw [← hd]; exact UInt8.toNat_lt _
                    have hdz : (d : Int) < 256 := by omega
                    obtain ⟨m, hm⟩ : ∃ m, 4 - K = m + 1 := ⟨3 - K, by omega⟩
                    rw [hm, lpB, hgl, hd] at hRl
                    by_cases hd1 : d < 128
                    · rw [if_pos (Or.inl hd1)] at hRl
                      have g4 : (d : Int) < 128 := by omega
                      have HN := H2.out hRl.symm
                      clear hBd hRl hm hd1
                      go_wp2
                      refine HFF.out _ ?_ bw
                      rw [← HOK.out]
                      exact HN
                    · have g4 : ¬ (d : Int) < 128 := by omega
                      by_cases hd2 : 191 < d
                      · rw [if_pos (Or.inr hd2)] at hRl
                        have g5 : (191 : Int) < d := by omega
                        have HN := H2.out hRl.symm
                        clear hBd hRl hm hd1 hd2
                        go_wp2
                        refine HFF.out _ ?_ bw
                        rw [← HOK.out]
                        exact HN
                      · rw [if_neg (fun h => h.elim hd1 hd2)] at hRl
                        have g5 : ¬ (191 : Int) < d := by omega
                        have HB := hBd.next (by omega) (show d - 128 < 64 by omega)
                        have HRl : Hid (lpB s p (4 - (K + 1)) (K + 1) (C * 64 + (d - 128)) = Rl) := by
                          show _ = _
                          rw [show 4 - (K + 1) = m by omega]
                          exact hRl
                        have HBd : Hid (Bd (K + 1) (C * 64 + (d - 128))) := HB
                        clear hBd hRl hm HB
                        go_wp2_with fail
                        go_roundw
                        case rel => exact ⟨C * 64 + (d - 128), K + 1, by omega, by omega, HBd.out, by go_num, by go_num, by trivial, HRl.out⟩
                        case measure => simp [RowKit.intOf]; omega
                  · obtain rfl : K = 4 := by omega
                    rw [Nat.sub_self, lpB] at hRl
                    have H3' := fun h => H3.out C hRl.symm h
                    have H4' := fun h => H4.out C hRl.symm hsz1 h
                    have HB3 : Hid (noR 65536 C = true → okAt s p = false) := H3'
                    have HB4 : Hid (noR 65536 C = false → okAt s p = okAt s (p + 3 + 1) ∧ rns s p = C :: rns s (p + 3 + 1)) := H4'
                    clear H2 H3 H4 H3' H4' hRl hBd hK1 hK2 hKn hCz hCl
                    by_cases q1 : C < 65536
                    · have r1 : decide ((C : Int) < 65536) = true := decide_eq_true (by omega)
                      have HN := HB3.out (noR_of.2 (Or.inl q1))
                      clear HB4 q1
                      go_wp2
                      refine HFF.out _ ?_ bw
                      rw [← HOK.out]
                      exact HN
                    · have r1 : decide ((C : Int) < 65536) = false := decide_eq_false (by omega)
                      by_cases q2 : 1114111 < C
                      · have r2 : decide ((1114111 : Int) < C) = true := decide_eq_true (by omega)
                        have HN := HB3.out (noR_of.2 (Or.inr (Or.inl q2)))
                        clear HB4 q2
                        go_wp2
                        refine HFF.out _ ?_ bw
                        rw [← HOK.out]
                        exact HN
                      · have r2 : decide ((1114111 : Int) < C) = false := decide_eq_false (by omega)
                        by_cases q3 : 55296 ≤ C
                        · have r3 : decide ((55296 : Int) ≤ C) = true := decide_eq_true (by omega)
                          by_cases q4 : C ≤ 57343
                          · have r4 : decide ((C : Int) ≤ 57343) = true := decide_eq_true (by omega)
                            have HN := HB3.out (noR_of.2 (Or.inr (Or.inr ⟨q3, q4⟩)))
                            clear HB4 q2 q3 q4
                            go_wp2
                            refine HFF.out _ ?_ bw
                            rw [← HOK.out]
                            exact HN
                          · have r4 : decide ((C : Int) ≤ 57343) = false := decide_eq_false (by omega)
                            have hN : noR 65536 C = false := by rw [← Bool.not_eq_true, noR_of]; omega
                            obtain ⟨e1, e2⟩ := HB4.out hN
                            have HV : Hid (okAt s (p + 3 + 1) = V) := by show _ = _; rw [← e1]; exact HOK.out
                            have HRR : Hid ((L ++ [(C : Int)]) ++ asI (rns s (p + 3 + 1)) = R) := by show _ = _; rw [← HR.out, e2]; simp
                            clear HB3 HB4 HR HOK hN e1 e2 q1 q2 q3 q4
                            go_wp2_with (first | (at_builtin; refine wpList_append_own _ rfl _ _ 29 rfl w.heap.size 3 i0 (.int .i64 0) 1 8 Tryd.underlying29 hi hz0 hz1 hz2 rfl (by decide) _ _ _ rfl (hh.alloc _) ⟨wr.heap.size, 0, none⟩ 1 1 (intCells [(C : Int)]) rfl rfl ?c1 ?c2 ?c3 ?c4 ?c5 ?_))
                            try (case c1 =>
                              intro j u hj
                              match j, hj with
                              | 0, hj => simp at hj; subst hj; simp [Addr.add])
                            case c2 => first | rfl | (intro u hu; simp at hu; subst hu; rfl)
                            case c3 => unfold maxLen; omega
                            case c4 => omega
                            case c5 => first | omega | (simp; omega)
                            intro v2 w3 hown hgrow _
                            obtain ⟨R2, B2⟩ := rowI_grown (m := [(C : Int)]) hh bw hz hgrow hown
                            clear hown hgrow
                            go_wp2_with fail
                            go_roundw
                            case rel => exact ⟨p + 3 + 1, L ++ [(C : Int)], by omega, HV.out, by go_num, R2, by rw [List.length_append]; simp; omega, B2, HRR.out⟩
                            case measure => simp [RowKit.intOf]; omega
                        · have r3 : decide ((55296 : Int) ≤ C) = false := decide_eq_false (by omega)
                          have hN : noR 65536 C = false := by rw [← Bool.not_eq_true, noR_of]; omega
                          obtain ⟨e1, e2⟩ := HB4.out hN
                          have HV : Hid (okAt s (p + 3 + 1) = V) := by show _ = _; rw [← e1]; exact HOK.out
                          have HRR : Hid ((L ++ [(C : Int)]) ++ asI (rns s (p + 3 + 1)) = R) := by show _ = _; rw [← HR.out, e2]; simp
                          clear HB3 HB4 HR HOK hN e1 e2 q1 q2 q3
                          go_wp2_with (first | (at_builtin; refine wpList_append_own _ rfl _ _ 29 rfl w.heap.size 3 i0 (.int .i64 0) 1 8 Tryd.underlying29 hi hz0 hz1 hz2 rfl (by decide) _ _ _ rfl (hh.alloc _) ⟨wr.heap.size, 0, none⟩ 1 1 (intCells [(C : Int)]) rfl rfl ?c1 ?c2 ?c3 ?c4 ?c5 ?_))
                          try (case c1 =>
                            intro j u hj
                            match j, hj with
                            | 0, hj => simp at hj; subst hj; simp [Addr.add])
                          case c2 => first | rfl | (intro u hu; simp at hu; subst hu; rfl)
                          case c3 => unfold maxLen; omega
                          case c4 => omega
                          case c5 => first | omega | (simp; omega)
                          intro v2 w3 hown hgrow _
                          obtain ⟨R2, B2⟩ := rowI_grown (m := [(C : Int)]) hh bw hz hgrow hown
                          clear hown hgrow
                          go_wp2_with fail
                          go_roundw
                          case rel => exact ⟨p + 3 + 1, L ++ [(C : Int)], by omega, HV.out, by go_num, R2, by rw [List.length_append]; simp; omega, B2, HRR.out⟩
                          case measure => simp [RowKit.intOf]; omega
            · have HN := hno (by unfold hdB; rw [if_neg k0, if_neg k1, if_neg k2, if_neg k3])
              clear hso hno
              by_cases j1 : b0 < 192
              · have f3 : ¬ (192 : Int) ≤ b0 := by omega
                have f4 : ¬ (224 : Int) ≤ b0 := by omega
                have f5 : ¬ (240 : Int) ≤ b0 := by omega
                clear f1c f2c k0 k1 k2 k3 j1
                go_wp2
                refine HFF.out _ ?_ bw
                rw [← HOK.out]
                exact HN
              · have f3 : (192 : Int) ≤ b0 := by omega
                have f4 : (224 : Int) ≤ b0 := by omega
                have f5 : (240 : Int) ≤ b0 := by omega
                have f6 : ¬ (b0 : Int) < 224 := by omega
                have f7 : ¬ (b0 : Int) < 240 := by omega
                have f8 : ¬ (b0 : Int) < 248 := by omega
                clear f1c f2c k0 k1 k2 k3 j1
                go_wp2
                refine HFF.out _ ?_ bw
                rw [← HOK.out]
                exact HN
    · have g0 : ¬ (p : Int) < s.size := by omega
      rw [rns_end hlt, asI, List.map_nil, List.append_nil] at hR
      have HV : Hid (V = true) := by show _ = _; rw [← hok, okAt_end hlt]
      have HRR : Hid (L = R) := hR
      clear hR hok
      go_wp2
      refine HFT.out _ _ HV.out ?_ bw
      rw [← HRR.out]
      exact hh
end Go.Proofs.YtgbhhnfnfldbmaaDoor
