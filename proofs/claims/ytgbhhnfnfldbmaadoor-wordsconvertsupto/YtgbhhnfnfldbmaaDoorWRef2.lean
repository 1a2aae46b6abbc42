/-
  What is proved: the functions wordly and Breaks of bookref4 answer as they should, and nothing that was there has turned.
  Conditions: the text has at most 1048576 bytes.
-/
import Derived.Test.YtgbhhnfnfldbmaaDoorWRef
namespace Go.Proofs.YtgbhhnfnfldbmaaDoor
open Go.RowKit

set_option maxRecDepth 100000 in
set_option maxHeartbeats 4000000 in
theorem wordly_in (ad : Option Addr) (n cap i c : Nat) (w : World) (hi : i < n) (b off : Nat) (ha : ad = some ⟨b, off, none⟩) (_hn : n ≤ 1048576) (x0 : w.cell? ⟨b, off + i, none⟩ = some (.int .i64 c)) :
    Calls Tryd.prog 17 #[.slice ad n cap, .int .i64 i] w fun e w' => e = .returned (.bool (isW c)) ∧ w' = w := by
  subst ha
  obtain ⟨r, hr⟩ : ∃ r, isW c = r := ⟨_, rfl⟩
  rw [hr]
  have HR : Hid (isW c = r) := hr
  have g1 : ¬ (i : Int) < 0 := by omega
  have g2 : ¬ (n : Int) ≤ i := by omega
  clear hr
  go_enter Tryd.func17, Tryd.ntmps17
  go_wp2
  all_goals (go_ret; refine ⟨?_, rfl⟩; rw [← HR.out]; refine congrArg (fun b => Ending.returned (Value.bool b)) ?_; unfold isW; rw [Bool.eq_iff_iff]; first | (simp only [Bool.or_eq_true, decide_eq_true_eq]; omega) | (simp; omega))

set_option maxRecDepth 100000 in
set_option maxHeartbeats 4000000 in
theorem wordly_ahead (ad : Option Addr) (n cap : Nat) (w : World) :
    Calls Tryd.prog 17 #[.slice ad n cap, .int .i64 (-1)] w fun e w' => e = .returned (.bool false) ∧ w' = w := by
  go_enter Tryd.func17, Tryd.ntmps17
  go_wp2
  go_ret
  exact ⟨rfl, rfl⟩

set_option maxRecDepth 100000 in
set_option maxHeartbeats 4000000 in
theorem wordly_end (ad : Option Addr) (n cap : Nat) (w : World) :
    Calls Tryd.prog 17 #[.slice ad n cap, .int .i64 n] w fun e w' => e = .returned (.bool false) ∧ w' = w := by
  have g1 : ¬ (n : Int) < 0 := by omega
  go_enter Tryd.func17, Tryd.ntmps17
  go_wp2
  go_ret
  exact ⟨rfl, rfl⟩

/-- Is the rune ahead of a place part of a word? -/
def wB (l : List Nat) (i : Nat) : Bool := match l[i]? with | some c => isW c | none => false
def wA (l : List Nat) : Nat → Bool
  | 0 => false
  | i + 1 => wB l i

theorem brk_at {l : List Nat} {i : Nat} (h : i < l.length) : brk (l.drop i) i (wA l i) = (if wA l i = wB l i then [] else [(i : Int)]) ++ brk (l.drop (i + 1)) (i + 1) (wA l (i + 1)) := by
  have e : wB l i = isW l[i] := by unfold wB; rw [List.getElem?_eq_getElem h]
  rw [List.drop_eq_getElem_cons h, brk]
  show _ = _ ++ brk _ _ (wB l i)
  rw [e]
  by_cases h1 : isW l[i] = wA l i
  · rw [if_pos h1, if_pos h1.symm, h1]; rfl
  · rw [if_neg h1, if_neg (fun h => h1 h.symm)]
    have h2 : (!wA l i) = isW l[i] := by cases h3 : wA l i <;> cases h4 : isW l[i] <;> simp_all
    rw [h2]
    rfl

theorem brk_last {l : List Nat} {i : Nat} (h : i = l.length) : brk (l.drop i) i (wA l i) = (if wA l i = wB l i then [] else [(i : Int)]) := by
  have e : wB l i = false := by unfold wB; rw [List.getElem?_eq_none (by omega)]
  rw [List.drop_eq_nil_of_le (by omega), brk, e]
  cases wA l i <;> rfl

/-- What Breaks of bookref4 answers. -/
def RBreaksP (s : ByteArray) (w : World) (e : Ending) (w' : World) : Prop :=
  ((Lib.validD s.data.toList = true ∧ ∃ u, e = .returned (.tuple #[u, .int .i64 0]) ∧ RowI w.heap.size u (brk (rns s 0) 0 false) w') ∨
   (Lib.validD s.data.toList = false ∧ e = .returned (.tuple #[.slice none 0 0, .int .i64 2]))) ∧ Below w.heap.size w w'

set_option maxRecDepth 100000 in
set_option maxHeartbeats 8000000 in
theorem rBreaks_any (s : ByteArray) (w : World) (hs : s.size ≤ 1048576) :
    Calls Tryd.prog 8 #[.string s] w (RBreaksP s w) := by
  obtain ⟨i0, hi, hz0, hz1, hz2⟩ := info_parts infoI
  have cR := runes_any s w hs
  have hlen := rns_len s s.size 0 (by omega)
  obtain ⟨R, hR⟩ : ∃ R, brk (rns s 0) 0 false = R := ⟨_, rfl⟩
  have HFT : Hid (∀ u w', Lib.validD s.data.toList = true → RowI w.heap.size u R w' → Below w.heap.size w w' → RBreaksP s w (.returned (.tuple #[u, .int .i64 0])) w') :=
    fun u w' hv hr hb => ⟨.inl ⟨hv, u, rfl, by rw [hR]; exact hr⟩, hb⟩
  have HFF : Hid (∀ w', Lib.validD s.data.toList = false → Below w.heap.size w w' → RBreaksP s w (.returned (.tuple #[.slice none 0 0, .int .i64 2])) w') :=
    fun w' hv hb => ⟨.inr ⟨hv, rfl⟩, hb⟩
  obtain ⟨post, hpost⟩ : ∃ post, RBreaksP s w = post := ⟨_, rfl⟩
  rw [hpost] at HFT HFF ⊢
  clear hpost
  go_enter Tryd.func8, Tryd.ntmps8
  go_wp2_with fail
  refine cR.mono ?_
  rintro e w1 ⟨hR1, b1⟩
  clear cR
  rcases hR1 with ⟨hv, u, rfl, hr⟩ | ⟨hv, rfl⟩
  · have HV : Hid (Lib.validD s.data.toList = true) := hv
    clear hv HFF
    have hI := hr.ints (by rw [asI_len]; omega) (asI_range s 0)
    generalize rns s 0 = l at *
    obtain ⟨ad, cap, rfl, hl1, hl2, hlr, hl3⟩ := hI
    rw [asI_len] at hl1 hl2 ⊢
    have g5 : (l.length : Int) ≤ 1048576 := by omega
    clear hr hl1 hl2 hlr
    obtain ⟨N, hN⟩ : ∃ N, l.length = N := ⟨_, rfl⟩
    have CELL : Hid (∀ (W : World), Below w1.heap.size w1 W → ∀ i (h : i < l.length), ∃ b off, ad = some ⟨b, off, none⟩ ∧ W.cell? ⟨b, off + i, none⟩ = some (.int .i64 (l[i] : Nat))) := by
      intro W hW i h
      obtain ⟨b, off, e, h4, h5⟩ := hl3 (fun e => by have := asI_len l; rw [e] at this; simp at this; omega)
      refine ⟨b, off, e, ?_⟩
      rw [hW.cell (p := ⟨b, off + i, none⟩) h4, h5 i (by rw [asI_len]; exact h), asI_get h]
    clear hl3
    rw [hN] at g5 hlen ⊢
    have WA : Hid (∀ (W : World) (k : Nat), k ≤ N → Below w1.heap.size w1 W → Calls Tryd.prog 17 #[.slice ad N cap, .int .i64 ((k : Int) - 1)] W fun e w' => e = .returned (.bool (wA l k)) ∧ w' = W) := by
      intro W k hk hW
      cases k with
      | zero => exact wordly_ahead ad N cap W
      | succ k =>
        obtain ⟨b, off, e, x0⟩ := CELL.out W hW k (by omega)
        have h := wordly_in ad N cap k (l[k]'(by omega)) W (by omega) b off e (by omega) x0
        have e1 : wA l (k + 1) = isW (l[k]'(by omega)) := by show wB l k = _; unfold wB; rw [List.getElem?_eq_getElem (by omega)]
        rw [e1, show ((k + 1 : Nat) : Int) - 1 = k by omega]
        exact h
    have WB : Hid (∀ (W : World) (k : Nat), k ≤ N → Below w1.heap.size w1 W → Calls Tryd.prog 17 #[.slice ad N cap, .int .i64 k] W fun e w' => e = .returned (.bool (wB l k)) ∧ w' = W) := by
      intro W k hk hW
      by_cases hlt : k < N
      · obtain ⟨b, off, e, x0⟩ := CELL.out W hW k (by omega)
        have h := wordly_in ad N cap k (l[k]'(by omega)) W hlt b off e (by omega) x0
        have e1 : wB l k = isW (l[k]'(by omega)) := by unfold wB; rw [List.getElem?_eq_getElem (by omega)]
        rw [e1]
        exact h
      · obtain rfl : k = N := by omega
        have e1 : wB l k = false := by unfold wB; rw [List.getElem?_eq_none (by omega)]
        rw [e1]
        exact wordly_end ad k cap W
    clear CELL
    go_wp2_with fail
    go_loopw [6, 7] (fun o i wr => ∃ (L : List Int) (k : Nat), k ≤ N + 1 ∧ i = .int .i64 k ∧ RowI w1.heap.size o L wr ∧ L.length ≤ k ∧ Below w1.heap.size w1 wr ∧ ((k ≤ N ∧ L ++ brk (l.drop k) k (wA l k) = R) ∨ (k = N + 1 ∧ L = R))) (fun _ i _ => N + 1 - (RowKit.intOf i).toNat)
    case atStart => exact ⟨[], 0, Nat.zero_le _, rfl, World.ownsRow_nil _ _ 3 1, Nat.le_refl _, Below.refl _ _, .inl ⟨Nat.zero_le _, hR⟩⟩
    case round =>
      clear hR
      obtain ⟨L, k, hk, rfl, hh, hLk, bw, hor⟩ := hrel
      have hz := bw.size
      have hl := rowI_len hh
      by_cases hkN : k ≤ N
      · have g6 : (k : Int) ≤ N := by omega
        have hR : L ++ brk (l.drop k) k (wA l k) = R := hor.elim (fun h => h.2) (fun h => by omega)
        clear hor
        have HB : Hid (L ++ (if wA l k = wB l k then [] else [(k : Int)]) ++ (if k < N then brk (l.drop (k + 1)) (k + 1) (wA l (k + 1)) else []) = R) := by
          show _ = _
          by_cases hlt : k < N
          · rw [if_pos hlt, ← hR, brk_at (l := l) (i := k) (by omega), List.append_assoc]
          · rw [if_neg hlt, ← hR, brk_last (l := l) (i := k) (by omega), List.append_nil]
        have hLs : L.length ≤ 1048577 := by omega
        have c1 := WA.out wr k hkN bw
        have c2 := WB.out wr k hkN bw
        clear hR
        have NX : Hid (∀ (M : List Int), M ++ (if k < N then brk (l.drop (k + 1)) (k + 1) (wA l (k + 1)) else []) = R → (k + 1 ≤ N ∧ M ++ brk (l.drop (k + 1)) (k + 1) (wA l (k + 1)) = R) ∨ (k + 1 = N + 1 ∧ M = R)) := by
          intro M hM
          by_cases hlt : k < N
          · rw [if_pos hlt] at hM
            exact .inl ⟨hlt, hM⟩
          · rw [if_neg hlt, List.append_nil] at hM
            exact .inr ⟨by omega, hM⟩
        generalize (if k < N then brk (l.drop (k + 1)) (k + 1) (wA l (k + 1)) else []) = REST at *
        generalize wA l k = a at *
        generalize wB l k = b at *
        go_wp2_with fail
        refine c1.mono ?_
        rintro e w2 ⟨rfl, rfl⟩
        go_wp2_with fail
        refine c2.mono ?_
        rintro e w3 ⟨rfl, rfl⟩
        clear c1 c2
        by_cases hab : a = b
        · have d1 : (a == b) = true := by simp [hab]
          have H := NX.out L (by have := HB.out; rw [if_pos hab, List.append_nil] at this; exact this)
          have HX : Hid _ := H
          clear HB NX H hab
          go_wp2_with fail
          go_roundw
          case rel => exact ⟨L, k + 1, by omega, by go_num, hh, by omega, bw, HX.out⟩
          case measure => simp [RowKit.intOf]; omega
        · have d1 : (a == b) = false := by simp [hab]
          have H := NX.out (L ++ [(k : Int)]) (by have := HB.out; rw [if_neg hab] at this; exact this)
          have HX : Hid _ := H
          clear HB NX H hab
          obtain ⟨a0, c0, he⟩ := hl
          subst he
          go_wp2_with (first | (at_builtin; refine wpList_append_own _ rfl _ _ 29 rfl w1.heap.size 3 i0 (.int .i64 0) 1 8 Tryd.underlying29 hi hz0 hz1 hz2 rfl (by decide) _ _ _ rfl (hh.alloc _) ⟨w3.heap.size, 0, none⟩ 1 1 (intCells [(k : Int)]) rfl rfl ?c1 ?c2 ?c3 ?c4 ?c5 ?_))
          case c1 =>
            intro j u hj
            match j, hj with
            | 0, hj => simp at hj; subst hj; simp [Addr.add]
          case c2 => intro u hu; simp at hu; subst hu; rfl
          case c3 => unfold maxLen; omega
          case c4 => omega
          case c5 => simp; omega
          intro v2 w4 hown hgrow _
          obtain ⟨R2, B2⟩ := rowI_grown (m := [(k : Int)]) hh bw hz hgrow hown
          clear hown hgrow
          go_wp2_with fail
          go_roundw
          case rel => exact ⟨L ++ [(k : Int)], k + 1, by omega, by go_num, R2, by rw [List.length_append]; simp; omega, B2, HX.out⟩
          case measure => simp [RowKit.intOf]; omega
      · have g6 : ¬ (k : Int) ≤ N := by omega
        have HX : Hid (L = R) := hor.elim (fun h => absurd h.1 hkN) (fun h => h.2)
        have bb : Below w.heap.size w wr := b1.trans (bw.mono b1.size)
        clear hor
        go_wp2
        refine HFT.out _ _ HV.out ?_ bb
        rw [← HX.out]
        exact row_down hh b1.size
  · have HV : Hid (Lib.validD s.data.toList = false) := hv
    clear hv HFT
    go_wp2
    exact HFF.out _ HV.out b1
end Go.Proofs.YtgbhhnfnfldbmaaDoor
