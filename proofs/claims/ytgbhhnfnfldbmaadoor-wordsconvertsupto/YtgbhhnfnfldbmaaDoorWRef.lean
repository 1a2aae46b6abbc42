/-
  What is proved: the functions Size, Convert, wordly and Breaks of bookref4 answer as they should, and nothing that was there has turned.
  Conditions: the text has at most 1048576 bytes.
-/
import Derived.Test.YtgbhhnfnfldbmaaDoorWRunes
namespace Go.Proofs.YtgbhhnfnfldbmaaDoor
open Go.RowKit

set_option maxRecDepth 100000 in
set_option maxHeartbeats 4000000 in
theorem size_any (c : Nat) (k : Int) (w : World) :
    Calls Tryd.prog 12 #[.int .i64 c, .int .i64 k] w fun e w' => e = .returned (.int .i64 (wd k c : Nat)) ∧ w' = w := by
  by_cases h1 : k = 1
  · subst h1
    have e1 : wd 1 c = szB c := if_pos rfl
    rw [e1]
    unfold szB
    by_cases c1 : c < 128
    · rw [if_pos c1]
      have g1 : decide ((c : Int) < 128) = true := decide_eq_true (by omega)
      clear c1 e1
      go_enter Tryd.func12, Tryd.ntmps12
      go_wp2
      go_ret
      exact ⟨rfl, rfl⟩
    · rw [if_neg c1]
      have g1 : decide ((c : Int) < 128) = false := decide_eq_false (by omega)
      by_cases c2 : c < 2048
      · rw [if_pos c2]
        have g2 : decide ((c : Int) < 2048) = true := decide_eq_true (by omega)
        clear c1 c2 e1
        go_enter Tryd.func12, Tryd.ntmps12
        go_wp2
        go_ret
        exact ⟨rfl, rfl⟩
      · rw [if_neg c2]
        have g2 : decide ((c : Int) < 2048) = false := decide_eq_false (by omega)
        by_cases c3 : c < 65536
        · rw [if_pos c3]
          have g3 : decide ((c : Int) < 65536) = true := decide_eq_true (by omega)
          clear c1 c2 c3 e1
          go_enter Tryd.func12, Tryd.ntmps12
          go_wp2
          go_ret
          exact ⟨rfl, rfl⟩
        · rw [if_neg c3]
          have g3 : decide ((c : Int) < 65536) = false := decide_eq_false (by omega)
          clear c1 c2 c3 e1
          go_enter Tryd.func12, Tryd.ntmps12
          go_wp2
          go_ret
          exact ⟨rfl, rfl⟩
  · have e1 : (k == 1) = false := by rw [beq_eq_false_iff_ne]; exact h1
    by_cases h3 : k = 3
    · subst h3
      by_cases h4 : 65536 ≤ c
      · have e2 : wd 3 c = 2 := by unfold wd; rw [if_neg (by decide), if_pos ⟨rfl, h4⟩]
        rw [e2]
        have g1 : decide ((65536 : Int) ≤ c) = true := decide_eq_true (by omega)
        clear h1 e2 e1 h4
        go_enter Tryd.func12, Tryd.ntmps12
        go_wp2
        go_ret
        exact ⟨rfl, rfl⟩
      · have e2 : wd 3 c = 1 := by unfold wd; rw [if_neg (by decide), if_neg (by omega)]
        rw [e2]
        have g1 : decide ((65536 : Int) ≤ c) = false := decide_eq_false (by omega)
        clear h1 e2 e1 h4
        go_enter Tryd.func12, Tryd.ntmps12
        go_wp2
        go_ret
        exact ⟨rfl, rfl⟩
    · have e3 : (k == 3) = false := by rw [beq_eq_false_iff_ne]; exact h3
      have e2 : wd k c = 1 := by unfold wd; rw [if_neg h1, if_neg (by omega)]
      rw [e2]
      clear h1 e2 h3
      go_enter Tryd.func12, Tryd.ntmps12
      go_wp2
      go_ret
      exact ⟨rfl, rfl⟩

theorem rnsF_le (s : ByteArray) : ∀ (n p : Nat), ∀ c ∈ rnsF s n p, c ≤ 1114111
  | 0, p, c, h => by cases h
  | n + 1, p, c, h => by
    rw [rnsF] at h
    split at h
    · rcases List.mem_cons.1 h with h | h
      · rw [h]; exact Lib.rune_le s p
      · exact rnsF_le s n _ c h
    · cases h

theorem asI_range (s : ByteArray) (p : Nat) : ∀ x ∈ asI (rns s p), I64 x := by
  intro x hx
  obtain ⟨c, hc, rfl⟩ := List.mem_map.1 hx
  have := rnsF_le s s.size p c hc
  unfold I64
  omega

theorem asI_get {l : List Nat} {i : Nat} (h : i < l.length) (h' : i < (asI l).length) : (asI l)[i] = (l[i] : Int) := by simp [asI]
theorem asI_len (l : List Nat) : (asI l).length = l.length := by simp [asI]

theorem cnvR_at {a f t : Int} {l : List Nat} {i X Y : Nat} (h : i < l.length) (hne : ¬ (X : Int) = a) :
    cnvR a f t (l.drop i) X Y = cnvR a f t (l.drop (i + 1)) (X + wd f l[i]) (Y + wd t l[i]) := by
  rw [List.drop_eq_getElem_cons h, cnvR, if_neg hne]

theorem cnvR_hit {a f t : Int} {l : List Nat} {X Y : Nat} (he : (X : Int) = a) : cnvR a f t l X Y = some Y := by
  cases l with
  | nil => rw [cnvR, if_pos he]
  | cons c r => rw [cnvR, if_pos he]

set_option maxRecDepth 100000 in
set_option maxHeartbeats 8000000 in
theorem rConvert_any (s : ByteArray) (a f t : Int) (w : World) (hs : s.size ≤ 1048576) :
    Calls Tryd.prog 5 #[.string s, .int .i64 a, .int .i64 f, .int .i64 t] w fun e w' => e = .returned (.tuple #[.int .i64 (cvr s a f t).1, .int .i64 (cvr s a f t).2]) ∧ Below w.heap.size w w' := by
  have cR := runes_any s w hs
  obtain ⟨A, hA⟩ : ∃ A, cvr s a f t = A := ⟨_, rfl⟩
  rw [hA]
  have hlen := rns_len s s.size 0 (by omega)
  go_enter Tryd.func5, Tryd.ntmps5
  go_wp2_with fail
  refine cR.mono ?_
  rintro e w1 ⟨hR, b1⟩
  clear cR
  rcases hR with ⟨hv, u, rfl, hr⟩ | ⟨hv, rfl⟩
  · have H1 : Hid (¬ ((1 ≤ f ∧ f ≤ 3) ∧ (1 ≤ t ∧ t ≤ 3)) → A = (0, 1)) := by
      intro h
      rw [← hA]
      unfold cvr
      rw [if_pos hv, if_neg h]
    by_cases f1 : f < 1
    · have HA := H1.out (by omega)
      subst HA
      have g1 : decide (f < 1) = true := decide_eq_true f1
      clear f1 hA H1
      go_wp2
      go_returns
      exact ⟨rfl, b1⟩
    · have g1 : decide (f < 1) = false := decide_eq_false f1
      by_cases f2 : 3 < f
      · have HA := H1.out (by omega)
        subst HA
        have g2 : decide (3 < f) = true := decide_eq_true f2
        clear f1 f2 hA H1
        go_wp2
        go_returns
        exact ⟨rfl, b1⟩
      · have g2 : decide (3 < f) = false := decide_eq_false f2
        by_cases f3 : t < 1
        · have HA := H1.out (by omega)
          subst HA
          have g3 : decide (t < 1) = true := decide_eq_true f3
          clear f1 f2 f3 hA H1
          go_wp2
          go_returns
          exact ⟨rfl, b1⟩
        · have g3 : decide (t < 1) = false := decide_eq_false f3
          by_cases f4 : 3 < t
          · have HA := H1.out (by omega)
            subst HA
            have g4 : decide (3 < t) = true := decide_eq_true f4
            clear f1 f2 f3 f4 hA H1
            go_wp2
            go_returns
            exact ⟨rfl, b1⟩
          · have g4 : decide (3 < t) = false := decide_eq_false f4
            obtain ⟨R, hRR⟩ : ∃ R, cnvR a f t (rns s 0) 0 0 = R := ⟨_, rfl⟩
            have HC : Hid (∀ y, R = some y → A = ((y : Int), 0)) := by
              intro y hy
              rw [← hA]
              unfold cvr
              rw [if_pos hv, if_pos ⟨⟨by omega, by omega⟩, ⟨by omega, by omega⟩⟩, cnv_eq, hRR, hy]
            have HN : Hid (R = none → A = (0, 1)) := by
              intro hy
              rw [← hA]
              unfold cvr
              rw [if_pos hv, if_pos ⟨⟨by omega, by omega⟩, ⟨by omega, by omega⟩⟩, cnv_eq, hRR, hy]
            clear f1 f2 f3 f4 hA H1 hv
            have hI := hr.ints (by rw [asI_len]; omega) (asI_range s 0)
            generalize rns s 0 = l at *
            obtain ⟨ad, cap, rfl, hl1, hl2, hlr, hl3⟩ := hI
            rw [asI_len] at hl1 hl2 ⊢
            have g5 : (l.length : Int) ≤ 1048576 := by omega
            clear hr hl1 hl2 hlr
            obtain ⟨N, hN⟩ : ∃ N, l.length = N := ⟨_, rfl⟩
            have CELL : Hid (∀ (W : World), Below w1.heap.size w1 W → ∀ i (h : i < l.length), ∃ b off, ad = some ⟨b, off, none⟩ ∧ W.cell? ⟨b, off + i, none⟩ = some (.int .i64 (l[i] : Nat))) := by
              intro W hW i h
              obtain ⟨b, off, e, h4, h5⟩ := hl3 (fun e => by have := asI_len l; rw [e] at this; simp at this; omega)
              refine ⟨b, off, e, ?_⟩
              rw [hW.cell (p := ⟨b, off + i, none⟩) h4, h5 i (by rw [asI_len]; exact h), asI_get h]
            clear hl3
            rw [hN] at g5 hlen ⊢
            go_wp2_with fail
            go_loopw [12, 13, 14] (fun x y i wr => ∃ (X Y k : Nat), k ≤ N + 1 ∧ x = .int .i64 X ∧ y = .int .i64 Y ∧ i = .int .i64 k ∧ X ≤ 4 * k ∧ Y ≤ 4 * k ∧ Below w1.heap.size w1 wr ∧ ((k ≤ N ∧ cnvR a f t (l.drop k) X Y = R) ∨ (k = N + 1 ∧ R = none))) (fun _ _ i _ => N + 1 - (RowKit.intOf i).toNat)
            case atStart => exact ⟨0, 0, 0, Nat.zero_le _, rfl, rfl, rfl, Nat.le_refl _, Nat.le_refl _, Below.refl _ _, .inl ⟨Nat.zero_le _, hRR⟩⟩
            case round =>
              clear hRR
              obtain ⟨X, Y, k, hk, rfl, rfl, rfl, hX, hY, bw, hor⟩ := hrel
              by_cases hkN : k ≤ N
              · have g6 : (k : Int) ≤ N := by omega
                have hR : cnvR a f t (l.drop k) X Y = R := hor.elim (fun h => h.2) (fun h => by omega)
                clear hor
                by_cases hx : (X : Int) = a
                · have HA : Hid (A = ((Y : Int), 0)) := HC.out Y (by rw [← hR]; exact cnvR_hit hx)
                  have d1 : ((X : Int) == a) = true := by simp [hx]
                  have bb : Below w.heap.size w wr := b1.trans (bw.mono b1.size)
                  clear HC HN hR hx
                  go_wp2
                  go_returns
                  exact ⟨by rw [HA.out]; rfl, bb⟩
                · have d1 : ((X : Int) == a) = false := by simp [hx]
                  by_cases hlt : k < N
                  · have g7 : (k : Int) < N := by omega
                    obtain ⟨b, off, rfl, x0⟩ := CELL.out wr bw k (by omega)
                    rw [cnvR_at (by omega) hx] at hR
                    have l1 := wd_pos f (l[k]'(by omega))
                    have l2 := wd_pos t (l[k]'(by omega))
                    have c1 := fun W => size_any (l[k]'(by omega)) f W
                    have c2 := fun W => size_any (l[k]'(by omega)) t W
                    have HR : Hid (cnvR a f t (l.drop (k + 1)) (X + wd f (l[k]'(by omega))) (Y + wd t (l[k]'(by omega))) = R) := hR
                    clear hR hx
                    generalize wd f (l[k]'(by omega)) = m1 at *
                    generalize wd t (l[k]'(by omega)) = m2 at *
                    generalize (l[k]'(by omega)) = c at *
                    go_wp2_with fail
                    refine (c1 _).mono ?_
                    rintro e w2 ⟨rfl, rfl⟩
                    go_wp2_with fail
                    refine (c2 _).mono ?_
                    rintro e w3 ⟨rfl, rfl⟩
                    clear c1 c2
                    go_wp2_with fail
                    go_roundw
                    case rel => exact ⟨X + m1, Y + m2, k + 1, by omega, by go_num, by go_num, by go_num, by omega, by omega, bw, .inl ⟨by omega, HR.out⟩⟩
                    case measure => simp [RowKit.intOf]; omega
                  · obtain rfl : k = N := by omega
                    have g7 : ¬ (k : Int) < k := by omega
                    have HR : Hid (R = none) := by
                      show _ = _
                      rw [← hR, List.drop_eq_nil_of_le (by omega), cnvR, if_neg hx]
                    clear hR hx
                    go_wp2_with fail
                    go_roundw
                    case rel => exact ⟨X, Y, k + 1, by omega, rfl, rfl, by go_num, by omega, by omega, bw, .inr ⟨rfl, HR.out⟩⟩
                    case measure => simp [RowKit.intOf] <;> omega
              · have g6 : ¬ (k : Int) ≤ N := by omega
                have HA := HN.out (hor.elim (fun h => absurd h.1 hkN) (fun h => h.2))
                have bb : Below w.heap.size w wr := b1.trans (bw.mono b1.size)
                subst HA
                clear hor HC HN
                go_wp2
                go_returns
                exact ⟨rfl, bb⟩
  · have HA : A = (0, 2) := by
      rw [← hA]
      unfold cvr
      rw [if_neg (by rw [hv]; decide)]
    subst HA
    clear hA hv
    go_wp2
    go_returns
    exact ⟨rfl, b1⟩
end Go.Proofs.YtgbhhnfnfldbmaaDoor
