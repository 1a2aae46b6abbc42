/-
  What is proved: json's reader: what is left of its text, and going on behind a piece of text, or not. what is read as a quoted text is that text, quoted. package value's firstQuoted, called with any text that is not empty, returns what its first signs stand for, and nothing has turned.
  Conditions: as each theorem says.
-/
import Derived.Test.YtnmdhbejjjmdeaaGreatDoorP01
import Derived.Test.YtnmdhbejjjmdeaaGreatDoorShelf
import Derived.Deep.CutBlock
import Derived.Test.YtnmdhbejjjmdeaaGreatDoorP05
namespace Go.Proofs.YtnmdhbejjjmdeaaGreatDoor
open Go.RowKit

/-- A reader in its box: its text, where it stands, how many trees have begun. -/
def RB (w : World) (p : Nat) (s : ByteArray) (k m : Nat) : Prop := w.heap[p]? = some (.cells #[.string s, .int .i64 (k : Int), .int .i64 (m : Int)] 47)
/-- What is left. -/
def lft (s : ByteArray) (k : Nat) : List UInt8 := s.data.toList.drop k
theorem lft_ex (s : ByteArray) (k : Nat) : (s.extract k s.size).data.toList = lft s k := by
  unfold lft
  rw [ByteArray.data_extract, Array.toList_extract, List.extract_eq_take_drop]
  apply List.take_of_length_le
  rw [List.length_drop, Array.length_toList]
  exact Nat.le_refl _
theorem RB.lt {w : World} {p : Nat} {s : ByteArray} {k m : Nat} (h : RB w p s k m) : p < w.heap.size := by
  rcases Nat.lt_or_ge p w.heap.size with h1 | h1
  · exact h1
  · unfold RB at h
    rw [Array.getElem?_eq_none h1] at h
    cases h
theorem RB.below {w w' : World} {p : Nat} {s : ByteArray} {k m : Nat} (h : RB w p s k m) (hb : Below w.heap.size w w') : RB w' p s k m := (hb.block p h.lt).trans h

theorem below_drewR {B : Nat} {w wr : World} (h : Below B w wr) (n : Nat) : Below B w (wr.drewN n) := ⟨h.os, h.tape, h.output, h.size, h.block⟩
theorem set_atR {w : World} {g : Nat} {T : TypeId} {cs : Array Value} (h : w.heap[g]? = some (.cells cs T)) (i : Nat) (v : Value) : (w.setCell ⟨g, i, none⟩ v).heap[g]? = some (.cells (cs.setIfInBounds i v) T) := by
  exact heap_setCell_same w g i _ _ v h
set_option maxRecDepth 100000 in
set_option maxHeartbeats 2000000 in
theorem rest_any (p : Nat) (s : ByteArray) (k m : Nat) (w : World) (h : RB w p s k m) (hk : k ≤ s.size) :
    Calls Tryz.prog 24 #[.pointer (some ⟨p, 0, none⟩)] w fun e w' => e = .returned (.string (s.extract k s.size)) ∧ Below w.heap.size w w' := by
  have c0 : w.cell? ⟨p, 0, none⟩ = some (.string s) := Lib.cell_of_heap h 0
  have c1 : w.cell? ⟨p, 1, none⟩ = some (.int .i64 (k : Int)) := Lib.cell_of_heap h 1
  have g1 : (k : Int) ≤ s.size := by omega
  have g2 : (0 : Int) ≤ (k : Int) := by omega
  clear h hk
  go_enter Tryz.func24, Tryz.ntmps24
  go_upto_region 1 with fail
  go_quiet (fail)
  go_wp2
  go_ret
  exact ⟨rfl, below_drewR (Below.refl _ _) _⟩
/-- All but the reader's box is as it was. -/
structure Rk (p : Nat) (w w' : World) : Prop where
  os : w'.os = w.os
  tape : w'.tape = w.tape
  output : w'.output = w.output
  size : w.heap.size ≤ w'.heap.size
  block : ∀ b, b < w.heap.size → b ≠ p → w'.heap[b]? = w.heap[b]?
theorem Rk.of {p : Nat} {w w' : World} (h : Below w.heap.size w w') : Rk p w w' := ⟨h.os, h.tape, h.output, h.size, fun b hb _ => h.block b hb⟩
theorem Rk.trans {p : Nat} {w w1 w2 : World} (h : Rk p w w1) (g : Rk p w1 w2) : Rk p w w2 := ⟨g.os.trans h.os, g.tape.trans h.tape, g.output.trans h.output, Nat.le_trans h.size g.size, fun b hb hp => (g.block b (Nat.lt_of_lt_of_le hb h.size) hp).trans (h.block b hb hp)⟩
/-- What skip leaves. -/
def SkipP (w : World) (p : Nat) (s : ByteArray) (k m : Nat) (q : ByteArray) (e : Ending) (w' : World) : Prop :=
  (Lib.hasPrefix (lft s k) q.data.toList = true ∧ e = .returned (.bool true) ∧ RB w' p s (k + q.size) m ∧ Rk p w w') ∨ (Lib.hasPrefix (lft s k) q.data.toList = false ∧ e = .returned (.bool false) ∧ RB w' p s k m ∧ Rk p w w')
set_option maxRecDepth 100000 in
set_option maxHeartbeats 2000000 in
theorem skip_any (p : Nat) (s : ByteArray) (k m : Nat) (q : ByteArray) (w : World) (h : RB w p s k m) (hk : k ≤ s.size) (hs : s.size ≤ 60000) (hq : q.size ≤ 60) :
    Calls Tryz.prog 20 #[.pointer (some ⟨p, 0, none⟩), .string q] w fun e w' => SkipP w p s k m q e w' := by
  have E1 := rest_any p s k m w h hk
  have E2 := fun W => Tryz.hasPrefix (s.extract k s.size) q W
  rw [lft_ex] at E2
  obtain ⟨hp, HP⟩ : ∃ hp, Hid (Lib.hasPrefix (lft s k) q.data.toList = hp) := ⟨_, rfl⟩
  rw [HP.out] at E2
  obtain ⟨post, hpost⟩ : ∃ post, post = SkipP w p s k m q := ⟨_, rfl⟩
  rw [← hpost]
  have HPO : Hid (post = SkipP w p s k m q) := hpost
  have HR : Hid (RB w p s k m ∧ k ≤ s.size ∧ s.size ≤ 60000 ∧ q.size ≤ 60) := ⟨h, hk, hs, hq⟩
  clear hpost h hk hs hq
  generalize s.extract k s.size = sx at *
  go_enter Tryz.func20, Tryz.ntmps20
  go_wp2_with fail
  go_fit E1
  rintro e w1 ⟨rfl, b1⟩
  clear E1
  have E3 := E2 w1
  clear E2
  go_wp2_with fail
  go_fit E3
  rintro e w2 ⟨rfl, hw2⟩
  subst w2
  clear E3
  have HB1 : Hid (Below w.heap.size w w1) := b1
  have HR1 : Hid (RB w1 p s k m) := HR.out.1.below b1
  clear b1
  cases hp with
  | false =>
    have HEND : Hid (post (.returned (.bool false)) w1) := by
      show post _ _
      rw [HPO.out]
      exact Or.inr ⟨HP.out, rfl, HR1.out, Rk.of HB1.out⟩
    go_wp2
    exact HEND.out
  | true =>
    have c1 : w1.cell? ⟨p, 1, none⟩ = some (.int .i64 (k : Int)) := Lib.cell_of_heap HR1.out 1
    have cf := Lib.frozen_of_heap HR1.out
    have HEND : Hid (post (.returned (.bool true)) (w1.setCell ⟨p, 1, none⟩ (.int .i64 ((k : Int) + q.size)))) := by
      show post _ _
      rw [HPO.out]
      refine Or.inl ⟨HP.out, rfl, ?_, (Rk.of HB1.out).trans ⟨rfl, rfl, rfl, by simp, fun b _ hne => Below.heap_setCell _ _ _ _ (by simpa using hne)⟩⟩
      unfold RB
      rw [set_atR HR1.out 1 _]
      simp
    have g1 : (k : Int) + q.size ≤ 70000 := by have := HR.out.2; omega
    have g0 : (0 : Int) ≤ (k : Int) + q.size := by omega
    go_wp2
    exact HEND.out
/-- A fault of the text, as it is thrown. -/
abbrev faultV (k : Nat) (e : Int) : Value := .iface 45 (.agg #[.int .i64 (k : Int), .int .i64 e])
/-- What need leaves. -/
def NeedP (w : World) (p : Nat) (s : ByteArray) (k m : Nat) (q : ByteArray) (e : Ending) (w' : World) : Prop :=
  (Lib.hasPrefix (lft s k) q.data.toList = true ∧ e = .returned (.tuple #[]) ∧ RB w' p s (k + q.size) m ∧ Rk p w w') ∨ (Lib.hasPrefix (lft s k) q.data.toList = false ∧ e = .panicked [{ v := faultV k 2, recovered := false }] ∧ Rk p w w')
set_option maxRecDepth 100000 in
set_option maxHeartbeats 2000000 in
theorem need_any (p : Nat) (s : ByteArray) (k m : Nat) (q : ByteArray) (w : World) (h : RB w p s k m) (hk : k ≤ s.size) (hs : s.size ≤ 60000) (hq : q.size ≤ 60) :
    Calls Tryz.prog 42 #[.pointer (some ⟨p, 0, none⟩), .string q] w fun e w' => NeedP w p s k m q e w' := by
  have E1 := skip_any p s k m q w h hk hs hq
  obtain ⟨post, hpost⟩ : ∃ post, post = NeedP w p s k m q := ⟨_, rfl⟩
  rw [← hpost]
  have HPO : Hid (post = NeedP w p s k m q) := hpost
  clear hpost h hk hs hq
  go_enter Tryz.func42, Tryz.ntmps42
  go_wp2_with fail
  go_fit E1
  rintro e w1 hS
  clear E1
  rcases hS with ⟨h1, rfl, h2, h3⟩ | ⟨h1, rfl, h2, h3⟩
  · have HEND : Hid (post (.returned (.tuple #[])) w1) := by
      show post _ _
      rw [HPO.out]
      exact Or.inl ⟨h1, rfl, h2, h3⟩
    clear h1 h2 h3
    go_wp2
    first
    | exact HEND.out
    | (go_end0; exact HEND.out)
  · have c1 : w1.cell? ⟨p, 1, none⟩ = some (.int .i64 (k : Int)) := Lib.cell_of_heap h2 1
    have HEND : Hid (post (.panicked [{ v := faultV k 2, recovered := false }]) w1) := by
      show post _ _
      rw [HPO.out]
      exact Or.inr ⟨h1, rfl, h3⟩
    clear h1 h2 h3
    go_wp2
    exact ⟨rfl, HEND.out⟩
end Go.Proofs.YtnmdhbejjjmdeaaGreatDoor

namespace Go.Proofs.YtnmdhbejjjmdeaaGreatDoor
open Go

theorem hexv_all : ∀ n : Fin 256, hexv (UInt8.ofNat n.val) < 16 ∧ (0 ≤ hexv (UInt8.ofNat n.val) → hexd (hexv (UInt8.ofNat n.val)).toNat = UInt8.ofNat n.val) := by decide +kernel
theorem hexv_back (c : UInt8) : hexv c < 16 ∧ (0 ≤ hexv c → hexd (hexv c).toNat = c) := by
  have h := hexv_all ⟨c.toNat, c.toNat_lt⟩
  have e : UInt8.ofNat c.toNat = c := UInt8.ofNat_toNat
  rw [show (⟨c.toNat, c.toNat_lt⟩ : Fin 256).val = c.toNat from rfl, e] at h
  exact h
theorem u8_of {c : UInt8} {n : Nat} (h : c.toNat = n) : c = UInt8.ofNat n := by
  rw [← h]
  exact UInt8.ofNat_toNat.symm
/-- What the first signs are read as is written as they are. -/
theorem first_back (c : UInt8) (r : List UInt8) (h : (first (c :: r)).2 ≠ 0) : c :: r = esc (first (c :: r)).1 ++ (c :: r).drop (first (c :: r)).2 := by
  by_cases hp : hexB c = false ∧ maskB c = false
  · rw [first_p hp]
    unfold esc
    simp [hp.1, hp.2]
  · by_cases h92 : c.toNat = 92
    · have ec : c = 92 := u8_of h92
      cases r with
      | nil =>
        rw [first_1 hp h92] at h
        exact absurd rfl h
      | cons d r =>
        by_cases hk : maskB d = true
        · rw [first_m hp h92 hk]
          have hd : hexB d = false := by
            unfold maskB at hk
            unfold hexB
            simp only [Bool.or_eq_true, decide_eq_true_eq] at hk
            simp only [Bool.or_eq_false_iff, decide_eq_false_iff_not]
            omega
          unfold esc
          simp [hd, hk, ec]
        · have hk' : maskB d = false := by simpa using hk
          cases r with
          | nil =>
            rw [first_2 hp h92 hk'] at h
            exact absurd rfl h
          | cons e r =>
            rw [first_3 hp h92 hk'] at h ⊢
            by_cases hc : 0 ≤ hexv d ∧ 0 ≤ hexv e ∧ hexB (UInt8.ofNat (hexv d * 16 + hexv e).toNat) = true
            · rw [if_pos hc]
              have bd := hexv_back d
              have be := hexv_back e
              have hd := bd.2 hc.1
              have he := be.2 hc.2.1
              have hv : (UInt8.ofNat (hexv d * 16 + hexv e).toNat).toNat = (hexv d * 16 + hexv e).toNat := by
                rw [UInt8.toNat_ofNat']
                have := bd.1
                have := be.1
                omega
              unfold esc
              rw [if_pos hc.2.2, hv]
              have e1 : (hexv d * 16 + hexv e).toNat / 16 = (hexv d).toNat := by
                have := bd.1
                have := be.1
                omega
              have e2 : (hexv d * 16 + hexv e).toNat % 16 = (hexv e).toNat := by
                have := bd.1
                have := be.1
                omega
              rw [e1, e2, hd, he, ec]
              rfl
            · rw [if_neg hc] at h
              exact absurd rfl h
    · rw [first_o hp h92] at h
      exact absurd rfl h
theorem run_back : ∀ (f : Nat) (acc l : List UInt8) (k : Nat) (t : List UInt8) (n : Nat), run f acc l k = some (t, n) → ∃ mid rest, t = acc ++ mid ∧ l = escs mid ++ 34 :: rest ∧ n = k + (escs mid).length + 1
  | 0, _, _, _, _, _, h => by rw [run] at h; cases h
  | _ + 1, _, [], _, _, _, h => by rw [run] at h; cases h
  | f + 1, acc, c :: r, k, t, n, h => by
    rw [run] at h
    by_cases h34 : c.toNat = 34
    · rw [if_pos h34] at h
      have e := Option.some.inj h
      have e1 := Prod.mk.inj e
      exact ⟨[], r, by rw [← e1.1]; simp, by rw [u8_of h34]; rfl, by rw [← e1.2]; rfl⟩
    · rw [if_neg h34] at h
      by_cases h0 : (first (c :: r)).2 = 0
      · rw [if_pos h0] at h; cases h
      · rw [if_neg h0] at h
        obtain ⟨mid, rest, e1, e2, e3⟩ := run_back f _ _ _ t n h
        have hb := first_back c r h0
        refine ⟨(first (c :: r)).1 :: mid, rest, by rw [e1]; simp, ?_, ?_⟩
        · show _ = (esc (first (c :: r)).1 ++ escs mid) ++ 34 :: rest
          rw [List.append_assoc, ← e2]
          exact hb
        · rw [e3]
          have hl : (esc (first (c :: r)).1).length = (first (c :: r)).2 := by
            have h1 := congrArg List.length hb
            have h2 : (first (c :: r)).2 ≤ (c :: r).length := by
              rcases Nat.lt_or_ge (c :: r).length (first (c :: r)).2 with h9 | h9
              · exfalso
                have h3 : (c :: r).drop (first (c :: r)).2 = [] := List.drop_eq_nil_of_le (by omega)
                rw [h3] at e2
                have := congrArg List.length e2
                simp at this
              · exact h9
            rw [List.length_append, List.length_drop] at h1
            omega
          have h4 : (escs ((first (c :: r)).1 :: mid)).length = (esc (first (c :: r)).1).length + (escs mid).length := by
            show (esc _ ++ escs mid).length = _
            rw [List.length_append]
          rw [h4, hl]
          omega
/-- What is read is what was quoted. -/
theorem unq_back {l t : List UInt8} {n : Nat} (h : unq l = some (t, n)) : ∃ rest, l = quote t ++ rest ∧ n = (quote t).length := by
  cases l with
  | nil => rw [unq] at h; cases h
  | cons c r =>
    rw [unq] at h
    by_cases h34 : c.toNat = 34
    · rw [if_pos h34] at h
      obtain ⟨mid, rest, e1, e2, e3⟩ := run_back _ _ _ _ t n h
      rw [List.nil_append] at e1
      subst e1
      refine ⟨rest, ?_, ?_⟩
      · rw [u8_of h34, e2]
        unfold quote
        simp
      · rw [e3]
        unfold quote
        simp
        omega
    · rw [if_neg h34] at h; cases h
end Go.Proofs.YtnmdhbejjjmdeaaGreatDoor

namespace Go.Proofs.YtnmdhbejjjmdeaaGreatDoor
open Go.RowKit

theorem list1 (s : ByteArray) (h : 0 < s.size) : ∃ r, s.data.toList = s[0] :: r ∧ r.length = s.size - 1 := by
  have hl : s.data.toList.length = s.size := Array.length_toList
  cases e : s.data.toList with
  | nil => rw [e] at hl; simp at hl; omega
  | cons c r =>
    have e0 : s[0] = c := by
      have h0 : s.data.toList[0]'(by omega) = s[0] := rfl
      rw [← h0]
      simp [e]
    rw [e] at hl
    simp at hl
    exact ⟨r, by rw [e0], by omega⟩

theorem list2 (s : ByteArray) (h : 1 < s.size) : ∃ r, s.data.toList = s[0] :: s[1] :: r ∧ r.length = s.size - 2 := by
  have hl : s.data.toList.length = s.size := Array.length_toList
  match e : s.data.toList with
  | [] => rw [e] at hl; simp at hl; omega
  | [_] => rw [e] at hl; simp at hl; omega
  | c :: d :: r =>
    have e0 : s[0] = c := by
      have h0 : s.data.toList[0]'(by omega) = s[0] := rfl
      rw [← h0]
      simp [e]
    have e1 : s[1] = d := by
      have h0 : s.data.toList[1]'(by omega) = s[1] := rfl
      rw [← h0]
      simp [e]
    rw [e] at hl
    simp at hl
    exact ⟨r, by rw [e0, e1], by omega⟩

theorem list3 (s : ByteArray) (h : 2 < s.size) : ∃ r, s.data.toList = s[0] :: s[1] :: s[2] :: r := by
  have hl : s.data.toList.length = s.size := Array.length_toList
  match e : s.data.toList with
  | [] => rw [e] at hl; simp at hl; omega
  | [_] => rw [e] at hl; simp at hl; omega
  | [_, _] => rw [e] at hl; simp at hl; omega
  | c :: d :: f :: r =>
    have e0 : s[0] = c := by
      have h0 : s.data.toList[0]'(by omega) = s[0] := rfl
      rw [← h0]
      simp [e]
    have e1 : s[1] = d := by
      have h0 : s.data.toList[1]'(by omega) = s[1] := rfl
      rw [← h0]
      simp [e]
    have e2 : s[2] = f := by
      have h0 : s.data.toList[2]'(by omega) = s[2] := rfl
      rw [← h0]
      simp [e]
    exact ⟨r, by rw [e0, e1, e2]⟩

/-- What firstQuoted hands back. -/
def pair (x : UInt8 × Nat) : Ending := .returned (.tuple #[.int .u8 x.1.toNat, .int .i64 x.2])

set_option maxRecDepth 100000 in
set_option maxHeartbeats 1000000 in
theorem first_plain (s : ByteArray) (w : World) (h : 0 < s.size) (hx : hexB s[0] = false) (hm : maskB s[0] = false) :
    Calls Tryz.prog 57 #[.string s] w fun e w' => e = pair (s[0], 1) ∧ ∃ m, w' = w.drewN m := by
  have Hi := isHex_any s[0]
  have Hm := isMasked_any s[0]
  rw [hx] at Hi
  rw [hm] at Hm
  have h' : (0 : Int) < s.size := by omega
  go_enter Tryz.func57, Tryz.ntmps57
  go_wp2_with (first
    | (go_at_call 73; refine (Hi _).mono ?_; rintro e w' ⟨rfl, rfl⟩)
    | (go_at_call 74; refine (Hm _).mono ?_; rintro e w' ⟨rfl, rfl⟩))
  go_returns
  exact ⟨rfl, 0, rfl⟩

set_option maxRecDepth 100000 in
set_option maxHeartbeats 1000000 in
theorem first_other (s : ByteArray) (w : World) (h : 0 < s.size) (hp : ¬ (hexB s[0] = false ∧ maskB s[0] = false)) (h92 : ¬ s[0].toNat = 92) :
    Calls Tryz.prog 57 #[.string s] w fun e w' => e = pair (0, 0) ∧ ∃ m, w' = w.drewN m := by
  have Hi := isHex_any s[0]
  have Hm := isMasked_any s[0]
  have h' : (0 : Int) < s.size := by omega
  have g : ¬ (s[0].toNat : Int) = 92 := by omega
  cases hx : hexB s[0] with
  | true =>
    rw [hx] at Hi
    clear hp
    go_enter Tryz.func57, Tryz.ntmps57
    go_wp2_with (first
      | (go_at_call 73; refine (Hi _).mono ?_; rintro e w' ⟨rfl, rfl⟩))
    go_returns
    exact ⟨rfl, 0, rfl⟩
  | false =>
    have hm : maskB s[0] = true := by
      cases e : maskB s[0] with
      | true => rfl
      | false => exact absurd ⟨hx, e⟩ hp
    rw [hx] at Hi
    rw [hm] at Hm
    clear hp
    go_enter Tryz.func57, Tryz.ntmps57
    go_wp2_with (first
      | (go_at_call 73; refine (Hi _).mono ?_; rintro e w' ⟨rfl, rfl⟩)
      | (go_at_call 74; refine (Hm _).mono ?_; rintro e w' ⟨rfl, rfl⟩))
    go_returns
    exact ⟨rfl, 0, rfl⟩

theorem back_hex {c : UInt8} (h : c.toNat = 92) : hexB c = false := by simp [hexB, h]
theorem back_mask {c : UInt8} (h : c.toNat = 92) : maskB c = true := by simp [maskB, h]
theorem hex_back (w : World) : Calls Tryz.prog 73 #[.int .u8 92] w fun e w' => e = .returned (.bool false) ∧ w' = w := isHex_any 92 w
theorem mask_back (w : World) : Calls Tryz.prog 74 #[.int .u8 92] w fun e w' => e = .returned (.bool true) ∧ w' = w := isMasked_any 92 w

set_option maxRecDepth 100000 in
set_option maxHeartbeats 1000000 in
theorem first_one (s : ByteArray) (w : World) (h : 0 < s.size) (h92 : s[0].toNat = 92) (h2 : s.size < 2) :
    Calls Tryz.prog 57 #[.string s] w fun e w' => e = pair (0, 0) ∧ ∃ m, w' = w.drewN m := by
  have h' : (0 : Int) < s.size := by omega
  have h2' : (s.size : Int) < 2 := by omega
  go_enter Tryz.func57, Tryz.ntmps57
  go_wp2_with (first
    | (go_at_call 73; refine (hex_back _).mono ?_; rintro e w' ⟨rfl, rfl⟩)
    | (go_at_call 74; refine (mask_back _).mono ?_; rintro e w' ⟨rfl, rfl⟩))
  go_returns
  exact ⟨rfl, 0, rfl⟩

set_option maxRecDepth 100000 in
set_option maxHeartbeats 1000000 in
theorem first_mask (s : ByteArray) (w : World) (c1 : UInt8) (h : 1 < s.size) (h92 : s[0].toNat = 92) (hc1 : s[1] = c1) (hk : maskB c1 = true) :
    Calls Tryz.prog 57 #[.string s] w fun e w' => e = pair (c1, 2) ∧ ∃ m, w' = w.drewN m := by
  have Hk := isMasked_any c1
  rw [hk] at Hk
  have h' : (1 : Int) < s.size := by omega
  have h0' : (0 : Int) < s.size := by omega
  have h2' : ¬ (s.size : Int) < 2 := by omega
  go_enter Tryz.func57, Tryz.ntmps57
  go_wp2_with (first
    | (go_at_call 73; refine (hex_back _).mono ?_; rintro e w' ⟨rfl, rfl⟩)
    | (go_at_call_of 74 (92 : Int); refine (mask_back _).mono ?_; rintro e w' ⟨rfl, rfl⟩)
    | (go_at_call 74; refine (Hk _).mono ?_; rintro e w' ⟨rfl, rfl⟩))
  go_returns
  exact ⟨rfl, 0, rfl⟩

set_option maxRecDepth 100000 in
set_option maxHeartbeats 1000000 in
theorem first_two (s : ByteArray) (w : World) (c1 : UInt8) (h : 1 < s.size) (h92 : s[0].toNat = 92) (hc1 : s[1] = c1) (hk : maskB c1 = false) (h3 : s.size < 3) :
    Calls Tryz.prog 57 #[.string s] w fun e w' => e = pair (0, 0) ∧ ∃ m, w' = w.drewN m := by
  have Hk := isMasked_any c1
  rw [hk] at Hk
  have h' : (1 : Int) < s.size := by omega
  have h0' : (0 : Int) < s.size := by omega
  have h2' : ¬ (s.size : Int) < 2 := by omega
  have h3' : (s.size : Int) < 3 := by omega
  go_enter Tryz.func57, Tryz.ntmps57
  go_wp2_with (first
    | (go_at_call 73; refine (hex_back _).mono ?_; rintro e w' ⟨rfl, rfl⟩)
    | (go_at_call_of 74 (92 : Int); refine (mask_back _).mono ?_; rintro e w' ⟨rfl, rfl⟩)
    | (go_at_call 74; refine (Hk _).mono ?_; rintro e w' ⟨rfl, rfl⟩))
  go_returns
  exact ⟨rfl, 0, rfl⟩

theorem indexB_any (c : UInt8) (w : World) :
    Calls Tryz.prog 75 #[.string ⟨#[48, 49, 50, 51, 52, 53, 54, 55, 56, 57, 97, 98, 99, 100, 101, 102]⟩, .int .u8 c.toNat] w fun e w' => e = .returned (.int .i64 (hexv c)) ∧ w' = w := by
  refine (Tryz.indexByte _ _ w).mono ?_
  rintro e w' ⟨rfl, rfl⟩
  refine ⟨?_, rfl⟩
  have : ((c.toNat : Int).toNat).toUInt8 = c := by simp
  rw [this]
  rfl

theorem hexv_range (c : UInt8) : -1 ≤ hexv c ∧ hexv c < 16 := by
  have h : ∀ n : Fin 256, -1 ≤ hexv (UInt8.ofNat n.val) ∧ hexv (UInt8.ofNat n.val) < 16 := by decide +kernel
  have := h ⟨c.toNat, c.toNat_lt⟩
  simpa using this

theorem byte_of (x y : Int) (x0 : 0 ≤ x) (x1 : x < 16) (y0 : 0 ≤ y) (y1 : y < 16) : ((UInt8.ofNat (x * 16 + y).toNat).toNat : Int) = x * 16 + y := by
  rw [UInt8.toNat_ofNat']
  omega

set_option maxRecDepth 100000 in
set_option maxHeartbeats 1000000 in
theorem first_hex (s : ByteArray) (w : World) (c1 c2 : UInt8) (h : 2 < s.size) (h92 : s[0].toNat = 92) (hc1 : s[1] = c1) (hc2 : s[2] = c2) (hk : maskB c1 = false) (x y : Int) (hx : hexv c1 = x) (hy : hexv c2 = y) (x0 : 0 ≤ x) (x1 : x < 16) (y0 : 0 ≤ y) (y1 : y < 16) (hz : hexB (UInt8.ofNat (x * 16 + y).toNat) = true) :
    Calls Tryz.prog 57 #[.string s] w fun e w' => e = pair (UInt8.ofNat (x * 16 + y).toNat, 3) ∧ ∃ m, w' = w.drewN m := by
  unfold pair
  dsimp only
  have Hz := isHex_any (UInt8.ofNat (x * 16 + y).toNat)
  rw [hz, byte_of x y x0 x1 y0 y1] at Hz
  rw [byte_of x y x0 x1 y0 y1]
  clear hz
  have Hk := isMasked_any c1
  have H1 := indexB_any c1
  have H2 := indexB_any c2
  rw [hk] at Hk
  rw [hx] at H1
  rw [hy] at H2
  clear hx hy
  have h' : (1 : Int) < s.size := by omega
  have h0' : (0 : Int) < s.size := by omega
  have h2' : (2 : Int) < s.size := by omega
  have h4' : ¬ (s.size : Int) < 2 := by omega
  have h3' : ¬ (s.size : Int) < 3 := by omega
  go_enter Tryz.func57, Tryz.ntmps57
  go_wp2_with (first
    | (go_at_call 73; refine (hex_back _).mono ?_; rintro e w' ⟨rfl, rfl⟩)
    | (go_at_call_of 74 (92 : Int); refine (mask_back _).mono ?_; rintro e w' ⟨rfl, rfl⟩)
    | (go_at_call 74; refine (Hk _).mono ?_; rintro e w' ⟨rfl, rfl⟩))
  go_quiet ((first | (go_at_call 75; exact Calls.quiet_of_same (H1 _)) | (go_at_call 75; exact Calls.quiet_of_same (H2 _))))
  go_wp2_with (go_at_call 73; refine (Hz _).mono ?_; rintro e w2 ⟨rfl, rfl⟩)
  go_returns
  exact ⟨rfl, nq, rfl⟩

set_option maxRecDepth 100000 in
set_option maxHeartbeats 1000000 in
theorem first_seen (s : ByteArray) (w : World) (c1 c2 : UInt8) (h : 2 < s.size) (h92 : s[0].toNat = 92) (hc1 : s[1] = c1) (hc2 : s[2] = c2) (hk : maskB c1 = false) (x y : Int) (hx : hexv c1 = x) (hy : hexv c2 = y) (x0 : 0 ≤ x) (x1 : x < 16) (y0 : 0 ≤ y) (y1 : y < 16) (hz : hexB (UInt8.ofNat (x * 16 + y).toNat) = false) :
    Calls Tryz.prog 57 #[.string s] w fun e w' => e = pair (0, 0) ∧ ∃ m, w' = w.drewN m := by
  have Hz := isHex_any (UInt8.ofNat (x * 16 + y).toNat)
  rw [hz, byte_of x y x0 x1 y0 y1] at Hz
  clear hz
  have Hk := isMasked_any c1
  have H1 := indexB_any c1
  have H2 := indexB_any c2
  rw [hk] at Hk
  rw [hx] at H1
  rw [hy] at H2
  clear hx hy
  have h' : (1 : Int) < s.size := by omega
  have h0' : (0 : Int) < s.size := by omega
  have h2' : (2 : Int) < s.size := by omega
  have h4' : ¬ (s.size : Int) < 2 := by omega
  have h3' : ¬ (s.size : Int) < 3 := by omega
  go_enter Tryz.func57, Tryz.ntmps57
  go_wp2_with (first
    | (go_at_call 73; refine (hex_back _).mono ?_; rintro e w' ⟨rfl, rfl⟩)
    | (go_at_call_of 74 (92 : Int); refine (mask_back _).mono ?_; rintro e w' ⟨rfl, rfl⟩)
    | (go_at_call 74; refine (Hk _).mono ?_; rintro e w' ⟨rfl, rfl⟩))
  go_quiet ((first | (go_at_call 75; exact Calls.quiet_of_same (H1 _)) | (go_at_call 75; exact Calls.quiet_of_same (H2 _))))
  go_wp2_with (go_at_call 73; refine (Hz _).mono ?_; rintro e w2 ⟨rfl, rfl⟩)
  go_returns
  exact ⟨rfl, nq, rfl⟩

set_option maxRecDepth 100000 in
set_option maxHeartbeats 1000000 in
theorem first_high (s : ByteArray) (w : World) (c1 c2 : UInt8) (h : 2 < s.size) (h92 : s[0].toNat = 92) (hc1 : s[1] = c1) (hc2 : s[2] = c2) (hk : maskB c1 = false) (x y : Int) (hx : hexv c1 = x) (hy : hexv c2 = y) (x0 : x < 0) :
    Calls Tryz.prog 57 #[.string s] w fun e w' => e = pair (0, 0) ∧ ∃ m, w' = w.drewN m := by
  have Hk := isMasked_any c1
  have H1 := indexB_any c1
  have H2 := indexB_any c2
  rw [hk] at Hk
  rw [hx] at H1
  rw [hy] at H2
  clear hx hy
  have h' : (1 : Int) < s.size := by omega
  have h0' : (0 : Int) < s.size := by omega
  have h2' : (2 : Int) < s.size := by omega
  have h4' : ¬ (s.size : Int) < 2 := by omega
  have h3' : ¬ (s.size : Int) < 3 := by omega
  go_enter Tryz.func57, Tryz.ntmps57
  go_wp2_with (first
    | (go_at_call 73; refine (hex_back _).mono ?_; rintro e w' ⟨rfl, rfl⟩)
    | (go_at_call_of 74 (92 : Int); refine (mask_back _).mono ?_; rintro e w' ⟨rfl, rfl⟩)
    | (go_at_call 74; refine (Hk _).mono ?_; rintro e w' ⟨rfl, rfl⟩))
  go_quiet ((first | (go_at_call 75; exact Calls.quiet_of_same (H1 _)) | (go_at_call 75; exact Calls.quiet_of_same (H2 _))))
  go_wp2
  go_returns
  exact ⟨rfl, nq, rfl⟩

set_option maxRecDepth 100000 in
set_option maxHeartbeats 1000000 in
theorem first_low (s : ByteArray) (w : World) (c1 c2 : UInt8) (h : 2 < s.size) (h92 : s[0].toNat = 92) (hc1 : s[1] = c1) (hc2 : s[2] = c2) (hk : maskB c1 = false) (x y : Int) (hx : hexv c1 = x) (hy : hexv c2 = y) (x0 : 0 ≤ x) (y0 : y < 0) :
    Calls Tryz.prog 57 #[.string s] w fun e w' => e = pair (0, 0) ∧ ∃ m, w' = w.drewN m := by
  have x2 : ¬ x < 0 := by omega
  have Hk := isMasked_any c1
  have H1 := indexB_any c1
  have H2 := indexB_any c2
  rw [hk] at Hk
  rw [hx] at H1
  rw [hy] at H2
  clear hx hy
  have h' : (1 : Int) < s.size := by omega
  have h0' : (0 : Int) < s.size := by omega
  have h2' : (2 : Int) < s.size := by omega
  have h4' : ¬ (s.size : Int) < 2 := by omega
  have h3' : ¬ (s.size : Int) < 3 := by omega
  go_enter Tryz.func57, Tryz.ntmps57
  go_wp2_with (first
    | (go_at_call 73; refine (hex_back _).mono ?_; rintro e w' ⟨rfl, rfl⟩)
    | (go_at_call_of 74 (92 : Int); refine (mask_back _).mono ?_; rintro e w' ⟨rfl, rfl⟩)
    | (go_at_call 74; refine (Hk _).mono ?_; rintro e w' ⟨rfl, rfl⟩))
  go_quiet ((first | (go_at_call 75; exact Calls.quiet_of_same (H1 _)) | (go_at_call 75; exact Calls.quiet_of_same (H2 _))))
  go_wp2
  go_returns
  exact ⟨rfl, nq, rfl⟩

/-- firstQuoted, at any text that is not empty. -/
theorem first_any (s : ByteArray) (w : World) (h : 0 < s.size) :
    Calls Tryz.prog 57 #[.string s] w fun e w' => e = pair (first s.data.toList) ∧ ∃ m, w' = w.drewN m := by
  by_cases hp : hexB s[0] = false ∧ maskB s[0] = false
  · obtain ⟨r, e, _⟩ := list1 s h
    rw [e, first_p hp]
    exact first_plain s w h hp.1 hp.2
  by_cases h92 : s[0].toNat = 92
  · by_cases h2 : 1 < s.size
    · obtain ⟨r, e, hr⟩ := list2 s h2
      cases hk : maskB s[1] with
      | true =>
        rw [e, first_m hp h92 hk]
        exact first_mask s w _ h2 h92 rfl hk
      | false =>
        by_cases h3 : 2 < s.size
        · obtain ⟨r3, e3⟩ := list3 s h3
          have rx := hexv_range s[1]
          have ry := hexv_range s[2]
          rw [e3, first_3 hp h92 hk]
          by_cases x0 : 0 ≤ hexv s[1]
          · by_cases y0 : 0 ≤ hexv s[2]
            · cases hz : hexB (UInt8.ofNat (hexv s[1] * 16 + hexv s[2]).toNat) with
              | true =>
                rw [if_pos ⟨x0, y0, rfl⟩]
                exact first_hex s w _ _ h3 h92 rfl rfl hk _ _ rfl rfl x0 rx.2 y0 ry.2 hz
              | false =>
                rw [if_neg (by simp)]
                exact first_seen s w _ _ h3 h92 rfl rfl hk _ _ rfl rfl x0 rx.2 y0 ry.2 hz
            · rw [if_neg (by intro hh; exact y0 hh.2.1)]
              exact first_low s w _ _ h3 h92 rfl rfl hk _ _ rfl rfl x0 (by omega)
          · rw [if_neg (by intro hh; exact x0 hh.1)]
            exact first_high s w _ _ h3 h92 rfl rfl hk _ _ rfl rfl (by omega)
        · have hr0 : r = [] := List.length_eq_zero_iff.1 (by omega)
          rw [e, hr0, first_2 hp h92 hk]
          exact first_two s w _ h2 h92 rfl hk (by omega)
    · obtain ⟨r, e, hr⟩ := list1 s h
      have hr0 : r = [] := List.length_eq_zero_iff.1 (by omega)
      rw [e, hr0, first_1 hp h92]
      exact first_one s w h h92 (by omega)
  · obtain ⟨r, e, _⟩ := list1 s h
    rw [e, first_o hp h92]
    exact first_other s w h hp h92
end Go.Proofs.YtnmdhbejjjmdeaaGreatDoor
