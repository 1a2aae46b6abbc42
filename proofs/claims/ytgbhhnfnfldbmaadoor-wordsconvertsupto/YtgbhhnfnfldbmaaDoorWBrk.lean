/-
  What is proved: the function Breaks of package words, called with any text, answers as it should, and nothing that was there has turned.
  Conditions: the text has at most 1048576 bytes; two tables of package utf8 lie as the text lays them.
-/
import Derived.Test.YtgbhhnfnfldbmaaDoorWConv
namespace Go.Proofs.YtgbhhnfnfldbmaaDoor
open Go.RowKit

theorem row_iter {B k : Nat} {v : Value} {L : List Int} {w : World} (h : RowI B v L w) (hk : k < B) (s : ByteArray) (p : Nat) : RowI B v L (w.iterAt k s p) := by
  refine ⟨h.1, ?_⟩
  rcases h.2 with h2 | ⟨g, cap, cur, e, hg, hh, r⟩
  · exact .inl h2
  · exact .inr ⟨g, cap, cur, e, hg, by rw [Lib.iterAt_other w k g s p (by omega)]; exact hh, r⟩

theorem row_down {B B' : Nat} {v : Value} {L : List Int} {w : World} (h : RowI B v L w) (hk : B' ≤ B) : RowI B' v L w := by
  refine ⟨h.1, ?_⟩
  rcases h.2 with h2 | ⟨g, cap, cur, e, hg, r⟩
  · exact .inl h2
  · exact .inr ⟨g, cap, cur, e, Nat.le_trans hk hg, r⟩

/-- What Breaks answers. -/
def BreaksP (s : ByteArray) (w : World) (e : Ending) (w' : World) : Prop :=
  ((Lib.validD s.data.toList = true ∧ ∃ u, e = .returned (.tuple #[u, .nilIface]) ∧ RowI w.heap.size u (brk (rns s 0) 0 false) w') ∨
   (Lib.validD s.data.toList = false ∧ e = .returned (.tuple #[.slice none 0 0, errV 2]))) ∧ Below w.heap.size w w'

set_option maxRecDepth 100000 in
set_option maxHeartbeats 4000000 in
theorem breaks_any (s : ByteArray) (w : World) (hs : s.size ≤ 1048576) (hT : Tb w) :
    Calls Tryd.prog 9 #[.string s] w (BreaksP s w) := by
  obtain ⟨i0, hi, hz0, hz1, hz2⟩ := info_parts infoI
  obtain ⟨V, hVe⟩ : ∃ V, Lib.validD s.data.toList = V := ⟨_, rfl⟩
  have cV := valid_any s w (by omega) hT
  rw [hVe] at cV
  clear hT
  cases V with
  | false =>
    have HV : Hid (Lib.validD s.data.toList = false) := hVe
    clear hVe
    go_enter Tryd.func9, Tryd.ntmps9
    go_wp2_with (refine cV.mono ?_; rintro e w1 ⟨rfl, b1⟩)
    go_wp2
    go_returns
    exact ⟨.inr ⟨HV.out, rfl⟩, b1⟩
  | true =>
    have HV : Hid (Lib.validD s.data.toList = true) := hVe
    obtain ⟨R, hR⟩ : ∃ R, brk (rns s 0) 0 false = R := ⟨_, rfl⟩
    have HF : Hid (∀ u e w', e = .returned (.tuple #[u, .nilIface]) → RowI w.heap.size u R w' → Below w.heap.size w w' → BreaksP s w e w') :=
      fun u e w' he hr hb => ⟨.inl ⟨hVe, u, he, by rw [hR]; exact hr⟩, hb⟩
    have h0 : okAt s 0 = true := by rw [okAt_zero]; exact hVe
    clear hVe
    obtain ⟨post, hpost⟩ : ∃ post, BreaksP s w = post := ⟨_, rfl⟩
    rw [hpost] at HF ⊢
    clear hpost
    go_enter Tryd.func9, Tryd.ntmps9
    go_wp2_with (refine cV.mono ?_; rintro e w1 ⟨rfl, b1⟩)
    go_wp2_with fail
    clear cV
    obtain ⟨K, hK⟩ : ∃ K, w1.heap.size = K := ⟨_, rfl⟩
    rw [hK]
    go_loopw [4, 5, 6] (fun o x y wr => ∃ (p k : Nat) (b : Bool) (L : List Int), p ≤ s.size ∧ okAt s p = true ∧ x = .int .i64 k ∧ y = .bool b ∧ RowI (K + 1) o L wr ∧ L.length ≤ k ∧ k ≤ p ∧ wr.heap[K]? = some (.stringIter s p) ∧ Below K w1 wr ∧ L ++ brk (rns s p) k b = R) (fun _ _ _ wr => s.size - wr.iterPos K)
    case atStart =>
      refine ⟨0, 0, false, [], Nat.zero_le _, h0, rfl, rfl, World.ownsRow_nil _ _ 3 1, Nat.le_refl _, Nat.le_refl _, ?_, (Below.refl _ _).alloc (Nat.le_of_eq hK.symm) _, hR⟩
      have := World.iter_heap w1 s 0
      rw [← hK]
      simpa using this
    case round =>
      clear hR h0
      obtain ⟨p, k, b, L, hp, hok, rfl, rfl, hh, hLk, hkp, hit, hb, hR⟩ := hrel
      have hsz : K < wr.heap.size := (Array.getElem?_eq_some_iff.1 hit).1
      have hl := rowI_len hh
      have bw : Below w.heap.size w wr := b1.trans (hb.mono (by rw [← hK]; exact b1.size))
      by_cases hlt : p < s.size
      · have hnx : ∀ ty, (Instr.next (.pointer (some ⟨K, 0, none⟩)) true ty).run Tryd.prog wr = .ok (.tuple #[.bool true, .int .i64 p, .int .i32 (Utf8.decode s p).1]) (wr.iterAt K s (nxt s p)) := fun ty => Lib.run_next_any_at wr K s p ty hit hlt
        obtain ⟨hne, hok2⟩ := okAt_next hlt hok
        have hnl := nxt_le hlt
        have hng := nxt_gt s p
        have hit2 := Lib.iterAt_heap wr K s p (nxt s p) hit
        have hb2 := Lib.below_iterAt hb (k := K) (Nat.le_refl _) s (nxt s p)
        have hh2 := row_iter hh (Nat.lt_succ_self K) s (nxt s p)
        have hsz2 : K < (wr.iterAt K s (nxt s p)).heap.size := by rw [Lib.iterAt_size]; exact hsz
        have hp2 : (wr.iterAt K s (nxt s p)).iterPos K = nxt s p := iter_pos hit2
        have hp1 : wr.iterPos K = p := iter_pos hit
        rw [rns_cons hlt] at hR
        clear hne hok hh
        generalize (Utf8.decode s p).1 = c at *
        generalize nxt s p = q at *
        generalize wr.iterAt K s q = w5 at *
        rw [brk] at hR
        have c1 := fun W => word_any c W
        by_cases hw : isW c = b
        · rw [if_pos hw] at hR
          rw [hw] at c1
          have HR : Hid (L ++ brk (rns s q) (k + 1) b = R) := hR
          have d1 : (b != b) = false := by simp
          clear hR HF hw
          go_wp2_with fail
          refine (c1 _).mono ?_
          rintro e w6 ⟨rfl, rfl⟩
          clear c1
          go_wp2_with fail
          go_roundw
          case rel => exact ⟨q, k + 1, b, L, hnl, hok2, by go_num, rfl, hh2, by omega, by omega, hit2, hb2, HR.out⟩
          case measure => rw [hp2, hp1]; omega
        · rw [if_neg hw] at hR
          have hw' : isW c = !b := by cases b <;> simpa using hw
          rw [hw'] at c1
          have HR : Hid ((L ++ [(k : Int)]) ++ brk (rns s q) (k + 1) (!b) = R) := by show _ = _; rw [← hR]; simp
          have d1 : ((!b) != b) = true := by cases b <;> rfl
          clear hR HF hw hw'
          go_wp2_with fail
          refine (c1 _).mono ?_
          rintro e w6 ⟨rfl, rfl⟩
          clear c1
          have hL : L.length ≤ 1048576 := by omega
          obtain ⟨a0, c0, he⟩ := hl
          subst he
          go_wp2_with (first | (at_builtin; refine wpList_append_own _ rfl _ _ 29 rfl (K + 1) 3 i0 (.int .i64 0) 1 8 Tryd.underlying29 hi hz0 hz1 hz2 rfl (by decide) _ _ _ rfl (hh2.alloc _) ⟨w6.heap.size, 0, none⟩ 1 1 (intCells [(k : Int)]) rfl rfl ?c1 ?c2 ?c3 ?c4 ?c5 ?_))
          case c1 =>
            intro j u hj
            match j, hj with
            | 0, hj => simp at hj; subst hj; simp [Addr.add]
          case c2 => intro u hu; simp at hu; subst hu; rfl
          case c3 => unfold maxLen; omega
          case c4 => omega
          case c5 => simp; omega
          intro v2 w2 hown hgrow _
          obtain ⟨R2, B2⟩ := rowI_grown (m := [(k : Int)]) hh2 (Below.refl (K + 1) w6) hsz2 hgrow hown
          clear hown hgrow
          have hit3 : w2.heap[K]? = some (.stringIter s q) := by rw [B2.block K (Nat.lt_succ_self K)]; exact hit2
          have hp3 : w2.iterPos K = q := iter_pos hit3
          have hb3 : Below K w1 w2 := hb2.trans (B2.mono (Nat.le_succ K))
          have HL : Hid ((L ++ [(k : Int)]).length ≤ k + 1) := by show _ ≤ _; rw [List.length_append]; simp; omega
          go_wp2_with fail
          go_roundw
          case rel => exact ⟨q, k + 1, !b, L ++ [(k : Int)], hnl, hok2, by go_num, rfl, R2, HL.out, by omega, hit3, hb3, HR.out⟩
          case measure => rw [hp3, hp1]; omega
      · have hnx : ∀ ty, (Instr.next (.pointer (some ⟨K, 0, none⟩)) true ty).run Tryd.prog wr = _ := fun ty => Lib.run_next_end_at wr K s p ty hit hlt
        rw [rns_end hlt, brk] at hR
        have hwK : w.heap.size ≤ K := by rw [← hK]; exact b1.size
        cases b with
        | false =>
          have HR : Hid (R = L) := by show _ = _; rw [← hR]; simp
          clear hR
          go_wp2
          refine HF.out _ _ _ rfl ?_ bw
          rw [HR.out]
          exact row_down hh (by omega)
        | true =>
          have HR : Hid (R = L ++ [(k : Int)]) := by show _ = _; rw [← hR]; simp
          clear hR
          have hL : L.length ≤ 1048576 := by omega
          obtain ⟨a0, c0, he⟩ := hl
          subst he
          go_wp2_with (first | (at_builtin; refine wpList_append_own _ rfl _ _ 29 rfl (K + 1) 3 i0 (.int .i64 0) 1 8 Tryd.underlying29 hi hz0 hz1 hz2 rfl (by decide) _ _ _ rfl (hh.alloc _) ⟨wr.heap.size, 0, none⟩ 1 1 (intCells [(k : Int)]) rfl rfl ?c1 ?c2 ?c3 ?c4 ?c5 ?_))
          case c1 =>
            intro j u hj
            match j, hj with
            | 0, hj => simp at hj; subst hj; simp [Addr.add]
          case c2 => intro u hu; simp at hu; subst hu; rfl
          case c3 => unfold maxLen; omega
          case c4 => omega
          case c5 => simp; omega
          intro v2 w2 hown hgrow _
          obtain ⟨R2, B2⟩ := rowI_grown (m := [(k : Int)]) hh (Below.refl (K + 1) wr) hsz hgrow hown
          clear hown hgrow
          have bw2 : Below w.heap.size w w2 := bw.trans (B2.mono (by omega))
          go_wp2
          refine HF.out _ _ _ rfl ?_ bw2
          rw [HR.out]
          exact row_down R2 (by omega)
end Go.Proofs.YtgbhhnfnfldbmaaDoor
