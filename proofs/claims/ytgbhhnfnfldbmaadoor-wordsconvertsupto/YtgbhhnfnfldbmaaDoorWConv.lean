/-
  What is proved: the function Convert of package words, called with any text, place and counts, answers as it should, and nothing that was there has turned.
  Conditions: the text has at most 17592186044416 bytes; two tables of package utf8 lie as the text lays them.
-/
import Derived.Test.YtgbhhnfnfldbmaaDoorWCall
import Derived.Lib.OthersKept
namespace Go.Proofs.YtgbhhnfnfldbmaaDoor
open Go.RowKit

/-- An error by its number. -/
def errV (e : Int) : Value := if e = 0 then .nilIface else .iface 41 (.int .i64 e)

theorem iter_pos {wr : World} {k : Nat} {s : ByteArray} {p : Nat} (h : wr.heap[k]? = some (.stringIter s p)) : wr.iterPos k = p := by
  simp [World.iterPos, h]

set_option maxRecDepth 100000 in
set_option maxHeartbeats 4000000 in
theorem convert_any (s : ByteArray) (a f t : Int) (w : World) (hs : s.size ≤ 17592186044416) (hT : Tb w) :
    Calls Tryd.prog 6 #[.string s, .int .i64 a, .int .i64 f, .int .i64 t] w fun e w' => e = .returned (.tuple #[.int .i64 (cvr s a f t).1, errV (cvr s a f t).2]) ∧ Below w.heap.size w w' := by
  obtain ⟨V, hVe⟩ : ∃ V, Lib.validD s.data.toList = V := ⟨_, rfl⟩
  have cV := valid_any s w hs hT
  rw [hVe] at cV
  clear hT
  cases V with
  | false =>
    have e1 : cvr s a f t = (0, 2) := by unfold cvr; rw [hVe]; rfl
    rw [e1]
    clear hVe e1
    go_enter Tryd.func6, Tryd.ntmps6
    go_wp2_with (refine cV.mono ?_; rintro e w1 ⟨rfl, b1⟩)
    go_wp2
    go_returns
    exact ⟨rfl, b1⟩
  | true =>
    by_cases hf : 1 ≤ f ∧ f ≤ 3
    · by_cases ht : 1 ≤ t ∧ t ≤ 3
      · obtain ⟨R, hR⟩ : ∃ R, cnv a f t (rns s 0) 0 0 = R := ⟨_, rfl⟩
        have HC : Hid (∀ y, R = some y → cvr s a f t = ((y : Int), 0)) := by
          intro y hy
          unfold cvr
          rw [if_pos hVe, if_pos ⟨hf, ht⟩, hR, hy]
        have HN : Hid (R = none → cvr s a f t = (0, 1)) := by
          intro hy
          unfold cvr
          rw [if_pos hVe, if_pos ⟨hf, ht⟩, hR, hy]
        have h0 : okAt s 0 = true := by rw [okAt_zero]; exact hVe
        clear hVe
        have c1 := fun W => counted_any f W
        have c2 := fun W => counted_any t W
        rw [decide_eq_true hf] at c1
        rw [decide_eq_true ht] at c2
        generalize cvr s a f t = A at HC HN ⊢
        go_enter Tryd.func6, Tryd.ntmps6
        go_wp2_with (refine cV.mono ?_; rintro e w1 ⟨rfl, b1⟩)
        go_wp2_with fail
        refine (c1 _).mono ?_
        rintro e w2 ⟨rfl, rfl⟩
        go_wp2_with fail
        refine (c2 _).mono ?_
        rintro e w3 ⟨rfl, rfl⟩
        clear c1 c2
        go_wp2_with fail
        clear hf ht cV
        obtain ⟨K, hK⟩ : ∃ K, w3.heap.size = K := ⟨_, rfl⟩
        rw [hK]
        go_loopw [10, 11] (fun x y wr => ∃ (p X Y : Nat), p ≤ s.size ∧ okAt s p = true ∧ x = .int .i64 X ∧ y = .int .i64 Y ∧ X ≤ 4 * p ∧ Y ≤ 4 * p ∧ wr.heap[K]? = some (.stringIter s p) ∧ Below K w3 wr ∧ cnv a f t (rns s p) X Y = R) (fun _ _ wr => s.size - wr.iterPos K)
        case atStart =>
          refine ⟨0, 0, 0, Nat.zero_le _, h0, rfl, rfl, Nat.le_refl _, Nat.le_refl _, ?_, (Below.refl _ _).alloc (Nat.le_of_eq hK.symm) _, hR⟩
          have := World.iter_heap w3 s 0
          rw [← hK]
          simpa using this
        case round =>
          clear hR h0
          obtain ⟨p, X, Y, hp, hok, rfl, rfl, hX, hY, hit, hb, hR⟩ := hrel
          have hsz : K < wr.heap.size := (Array.getElem?_eq_some_iff.1 hit).1
          have bw : Below w.heap.size w wr := b1.trans (hb.mono (by rw [← hK]; exact b1.size))
          by_cases hlt : p < s.size
          · have hnx : ∀ ty, (Instr.next (.pointer (some ⟨K, 0, none⟩)) true ty).run Tryd.prog wr = _ := fun ty => Lib.run_next_any_at wr K s p ty hit hlt
            obtain ⟨hne, hok2⟩ := okAt_next hlt hok
            have hru := (decode_rune hne).1
            have hnl := nxt_le hlt
            have hng := nxt_gt s p
            have hit2 := Lib.iterAt_heap wr K s p (nxt s p) hit
            have hb2 := Lib.below_iterAt hb (k := K) (Nat.le_refl _) s (nxt s p)
            have bw2 : Below w.heap.size w (wr.iterAt K s (nxt s p)) := b1.trans (hb2.mono (by rw [← hK]; exact b1.size))
            have hp2 : (wr.iterAt K s (nxt s p)).iterPos K = nxt s p := iter_pos hit2
            have hp1 : wr.iterPos K = p := iter_pos hit
            rw [rns_cons hlt] at hR
            have hnx' : ∀ ty, (Instr.next (.pointer (some ⟨K, 0, none⟩)) true ty).run Tryd.prog wr = .ok (.tuple #[.bool true, .int .i64 p, .int .i32 (Utf8.decode s p).1]) (wr.iterAt K s (nxt s p)) := hnx
            clear hnx hne hok
            generalize (Utf8.decode s p).1 = c at *
            generalize nxt s p = q at *
            generalize wr.iterAt K s q = w5 at *
            rw [cnv] at hR
            by_cases hge : a ≤ X
            · rw [if_pos hge] at hR
              by_cases hx : (X : Int) = a
              · rw [if_pos hx] at hR
                have HA : Hid (A = ((Y : Int), 0)) := HC.out Y hR.symm
                have d1 : ((X : Int) != a) = false := by simp [hx]
                clear HC HN hR hru hx
                go_wp2
                go_returns
                exact ⟨by rw [HA.out]; rfl, bw2⟩
              · rw [if_neg hx] at hR
                have HA : Hid (A = (0, 1)) := HN.out hR.symm
                have d1 : ((X : Int) != a) = true := by simp [hx]
                clear HC HN hR hru hx
                go_wp2
                go_returns
                exact ⟨by rw [HA.out]; rfl, bw2⟩
            · rw [if_neg hge] at hR
              have HR : Hid (cnv a f t (rns s q) (X + wd f c) (Y + wd t c) = R) := hR
              have c1 := fun W => width_any c f W hru
              have c2 := fun W => width_any c t W hru
              have l1 := wd_pos f c
              have l2 := wd_pos t c
              clear HC HN hR
              generalize wd f c = m1 at *
              generalize wd t c = m2 at *
              go_wp2_with fail
              refine (c1 _).mono ?_
              rintro e w6 ⟨rfl, rfl⟩
              go_wp2_with fail
              refine (c2 _).mono ?_
              rintro e w7 ⟨rfl, rfl⟩
              clear c1 c2
              go_wp2_with fail
              go_roundw
              case rel => exact ⟨q, X + m1, Y + m2, hnl, hok2, by go_num, by go_num, by omega, by omega, hit2, hb2, HR.out⟩
              case measure => rw [hp2, hp1]; omega
          · have hnx : ∀ ty, (Instr.next (.pointer (some ⟨K, 0, none⟩)) true ty).run Tryd.prog wr = _ := fun ty => Lib.run_next_end_at wr K s p ty hit hlt
            rw [rns_end hlt, cnv] at hR
            by_cases hx : (X : Int) = a
            · rw [if_pos hx] at hR
              have HA : Hid (A = ((Y : Int), 0)) := HC.out Y hR.symm
              have d1 : ((X : Int) != a) = false := by simp [hx]
              clear HC HN hR hx
              go_wp2
              go_returns
              exact ⟨by rw [HA.out]; rfl, bw⟩
            · rw [if_neg hx] at hR
              have HA : Hid (A = (0, 1)) := HN.out hR.symm
              have d1 : ((X : Int) != a) = true := by simp [hx]
              clear HC HN hR hx
              go_wp2
              go_returns
              exact ⟨by rw [HA.out]; rfl, bw⟩
      · have e1 : cvr s a f t = (0, 1) := by unfold cvr; rw [if_pos hVe, if_neg (fun h => ht h.2)]
        rw [e1]
        have c1 := fun W => counted_any f W
        have c2 := fun W => counted_any t W
        rw [decide_eq_true hf] at c1
        rw [decide_eq_false ht] at c2
        clear hVe e1 hf ht
        go_enter Tryd.func6, Tryd.ntmps6
        go_wp2_with (refine cV.mono ?_; rintro e w1 ⟨rfl, b1⟩)
        go_wp2_with fail
        refine (c1 _).mono ?_
        rintro e w2 ⟨rfl, rfl⟩
        go_wp2_with fail
        refine (c2 _).mono ?_
        rintro e w3 ⟨rfl, rfl⟩
        clear c1 c2
        go_wp2
        go_returns
        exact ⟨rfl, b1⟩
    · have e1 : cvr s a f t = (0, 1) := by unfold cvr; rw [if_pos hVe, if_neg (fun h => hf h.1)]
      rw [e1]
      have c1 := fun W => counted_any f W
      rw [decide_eq_false hf] at c1
      clear hVe e1 hf
      go_enter Tryd.func6, Tryd.ntmps6
      go_wp2_with (refine cV.mono ?_; rintro e w1 ⟨rfl, b1⟩)
      go_wp2_with fail
      refine (c1 _).mono ?_
      rintro e w2 ⟨rfl, rfl⟩
      clear c1
      go_wp2
      go_returns
      exact ⟨rfl, b1⟩
end Go.Proofs.YtgbhhnfnfldbmaaDoor
