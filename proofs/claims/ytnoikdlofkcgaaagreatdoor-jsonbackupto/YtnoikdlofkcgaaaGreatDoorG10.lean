/-
  What is proved: json's reader: what is left of its text, and going on behind a piece of text, or not. what is read as a quoted text is that text, quoted.
  Conditions: as each theorem says.
-/
import Derived.Test.YtnoikdlofkcgaaaGreatDoorG01
import Derived.Test.YtnoikdlofkcgaaaGreatDoorShelf
import Derived.Deep.CutBlock
import Derived.Test.YtnoikdlofkcgaaaGreatDoorG05
namespace Go.Proofs.YtnoikdlofkcgaaaGreatDoor
open Go.RowKit

/-- A reader in its box: its text, where it stands, how many trees have begun. -/
def RB (w : World) (p : Nat) (s : ByteArray) (k m : Nat) : Prop := w.heap[p]? = some (.cells #[.string s, .int .i64 (k : Int), .int .i64 (m : Int)] 48)
/-- What is left. -/
def lft (s : ByteArray) (k : Nat) : List UInt8 := s.data.toList.drop k
theorem lft_ex (s : ByteArray) (k : Nat) : (s.extract k s.size).data.toList = lft s k := by
  unfold lft
  rw [ByteArray.data_extract, Array.toList_extract, List.extract_eq_take_drop]
  apply List.take_of_length_le
  rw [List.length_drop, Array.length_toList]
  exact Nat.le_refl _
theorem RB.lt {w : World} {p : Nat} {s : ByteArray} {k m : Nat} (h : RB w p s k m) : p < w.heap.size := by
  rcases Nat.lt_or_ge p w.heap.size with h1 | h1
  · exact h1
  · unfold RB at h
    rw [Array.getElem?_eq_none h1] at h
    cases h
theorem RB.below {w w' : World} {p : Nat} {s : ByteArray} {k m : Nat} (h : RB w p s k m) (hb : Below w.heap.size w w') : RB w' p s k m := (hb.block p h.lt).trans h

theorem below_drewR {B : Nat} {w wr : World} (h : Below B w wr) (n : Nat) : Below B w (wr.drewN n) := ⟨h.os, h.tape, h.output, h.size, h.block⟩
theorem set_atR {w : World} {g : Nat} {T : TypeId} {cs : Array Value} (h : w.heap[g]? = some (.cells cs T)) (i : Nat) (v : Value) : (w.setCell ⟨g, i, none⟩ v).heap[g]? = some (.cells (cs.setIfInBounds i v) T) := by
  exact heap_setCell_same w g i _ _ v h
set_option maxRecDepth 100000 in
set_option maxHeartbeats 2000000 in
theorem rest_any (p : Nat) (s : ByteArray) (k m : Nat) (w : World) (h : RB w p s k m) (hk : k ≤ s.size) :
    Calls Tryz.prog 23 #[.pointer (some ⟨p, 0, none⟩)] w fun e w' => e = .returned (.string (s.extract k s.size)) ∧ Below w.heap.size w w' := by
  have c0 : w.cell? ⟨p, 0, none⟩ = some (.string s) := Lib.cell_of_heap h 0
  have c1 : w.cell? ⟨p, 1, none⟩ = some (.int .i64 (k : Int)) := Lib.cell_of_heap h 1
  have g1 : (k : Int) ≤ s.size := by omega
  have g2 : (0 : Int) ≤ (k : Int) := by omega
  clear h hk
  go_enter Tryz.func23, Tryz.ntmps23
  go_upto_region 1 with fail
  go_quiet (fail)
  go_wp2
  go_ret
  exact ⟨rfl, below_drewR (Below.refl _ _) _⟩
/-- All but the reader's box is as it was. -/
structure Rk (p : Nat) (w w' : World) : Prop where
  os : w'.os = w.os
  tape : w'.tape = w.tape
  output : w'.output = w.output
  size : w.heap.size ≤ w'.heap.size
  block : ∀ b, b < w.heap.size → b ≠ p → w'.heap[b]? = w.heap[b]?
theorem Rk.of {p : Nat} {w w' : World} (h : Below w.heap.size w w') : Rk p w w' := ⟨h.os, h.tape, h.output, h.size, fun b hb _ => h.block b hb⟩
theorem Rk.trans {p : Nat} {w w1 w2 : World} (h : Rk p w w1) (g : Rk p w1 w2) : Rk p w w2 := ⟨g.os.trans h.os, g.tape.trans h.tape, g.output.trans h.output, Nat.le_trans h.size g.size, fun b hb hp => (g.block b (Nat.lt_of_lt_of_le hb h.size) hp).trans (h.block b hb hp)⟩
/-- What skip leaves. -/
def SkipP (w : World) (p : Nat) (s : ByteArray) (k m : Nat) (q : ByteArray) (e : Ending) (w' : World) : Prop :=
  (Lib.hasPrefix (lft s k) q.data.toList = true ∧ e = .returned (.bool true) ∧ RB w' p s (k + q.size) m ∧ Rk p w w') ∨ (Lib.hasPrefix (lft s k) q.data.toList = false ∧ e = .returned (.bool false) ∧ RB w' p s k m ∧ Rk p w w')
set_option maxRecDepth 100000 in
set_option maxHeartbeats 2000000 in
theorem skip_any (p : Nat) (s : ByteArray) (k m : Nat) (q : ByteArray) (w : World) (h : RB w p s k m) (hk : k ≤ s.size) (hs : s.size ≤ 60000) (hq : q.size ≤ 60) :
    Calls Tryz.prog 19 #[.pointer (some ⟨p, 0, none⟩), .string q] w fun e w' => SkipP w p s k m q e w' := by
  have E1 := rest_any p s k m w h hk
  have E2 := fun W => Tryz.hasPrefix (s.extract k s.size) q W
  rw [lft_ex] at E2
  obtain ⟨hp, HP⟩ : ∃ hp, Hid (Lib.hasPrefix (lft s k) q.data.toList = hp) := ⟨_, rfl⟩
  rw [HP.out] at E2
  obtain ⟨post, hpost⟩ : ∃ post, post = SkipP w p s k m q := ⟨_, rfl⟩
  rw [← hpost]
  have HPO : Hid (post = SkipP w p s k m q) := hpost
  have HR : Hid (RB w p s k m ∧ k ≤ s.size ∧ s.size ≤ 60000 ∧ q.size ≤ 60) := ⟨h, hk, hs, hq⟩
  clear hpost h hk hs hq
  generalize s.extract k s.size = sx at *
  go_enter Tryz.func19, Tryz.ntmps19
  go_wp2_with fail
  go_fit E1
  rintro e w1 ⟨rfl, b1⟩
  clear E1
  have E3 := E2 w1
  clear E2
  go_wp2_with fail
  go_fit E3
  rintro e w2 ⟨rfl, hw2⟩
  subst w2
  clear E3
  have HB1 : Hid (Below w.heap.size w w1) := b1
  have HR1 : Hid (RB w1 p s k m) := HR.out.1.below b1
  clear b1
  cases hp with
  | false =>
    have HEND : Hid (post (.returned (.bool false)) w1) := by
      show post _ _
      rw [HPO.out]
      exact Or.inr ⟨HP.out, rfl, HR1.out, Rk.of HB1.out⟩
    go_wp2
    exact HEND.out
  | true =>
    have c1 : w1.cell? ⟨p, 1, none⟩ = some (.int .i64 (k : Int)) := Lib.cell_of_heap HR1.out 1
    have cf := Lib.frozen_of_heap HR1.out
    have HEND : Hid (post (.returned (.bool true)) (w1.setCell ⟨p, 1, none⟩ (.int .i64 ((k : Int) + q.size)))) := by
      show post _ _
      rw [HPO.out]
      refine Or.inl ⟨HP.out, rfl, ?_, (Rk.of HB1.out).trans ⟨rfl, rfl, rfl, by simp, fun b _ hne => Below.heap_setCell _ _ _ _ (by simpa using hne)⟩⟩
      unfold RB
      rw [set_atR HR1.out 1 _]
      simp
    have g1 : (k : Int) + q.size ≤ 70000 := by have := HR.out.2; omega
    have g0 : (0 : Int) ≤ (k : Int) + q.size := by omega
    go_wp2
    exact HEND.out
/-- A fault of the text, as it is thrown. -/
abbrev faultV (k : Nat) (e : Int) : Value := .iface 46 (.agg #[.int .i64 (k : Int), .int .i64 e])
/-- What need leaves. -/
def NeedP (w : World) (p : Nat) (s : ByteArray) (k m : Nat) (q : ByteArray) (e : Ending) (w' : World) : Prop :=
  (Lib.hasPrefix (lft s k) q.data.toList = true ∧ e = .returned (.tuple #[]) ∧ RB w' p s (k + q.size) m ∧ Rk p w w') ∨ (Lib.hasPrefix (lft s k) q.data.toList = false ∧ e = .panicked [{ v := faultV k 2, recovered := false }] ∧ Rk p w w')
set_option maxRecDepth 100000 in
set_option maxHeartbeats 2000000 in
theorem need_any (p : Nat) (s : ByteArray) (k m : Nat) (q : ByteArray) (w : World) (h : RB w p s k m) (hk : k ≤ s.size) (hs : s.size ≤ 60000) (hq : q.size ≤ 60) :
    Calls Tryz.prog 39 #[.pointer (some ⟨p, 0, none⟩), .string q] w fun e w' => NeedP w p s k m q e w' := by
  have E1 := skip_any p s k m q w h hk hs hq
  obtain ⟨post, hpost⟩ : ∃ post, post = NeedP w p s k m q := ⟨_, rfl⟩
  rw [← hpost]
  have HPO : Hid (post = NeedP w p s k m q) := hpost
  clear hpost h hk hs hq
  go_enter Tryz.func39, Tryz.ntmps39
  go_wp2_with fail
  go_fit E1
  rintro e w1 hS
  clear E1
  rcases hS with ⟨h1, rfl, h2, h3⟩ | ⟨h1, rfl, h2, h3⟩
  · have HEND : Hid (post (.returned (.tuple #[])) w1) := by
      show post _ _
      rw [HPO.out]
      exact Or.inl ⟨h1, rfl, h2, h3⟩
    clear h1 h2 h3
    go_wp2
    first
    | exact HEND.out
    | (go_end0; exact HEND.out)
  · have c1 : w1.cell? ⟨p, 1, none⟩ = some (.int .i64 (k : Int)) := Lib.cell_of_heap h2 1
    have HEND : Hid (post (.panicked [{ v := faultV k 2, recovered := false }]) w1) := by
      show post _ _
      rw [HPO.out]
      exact Or.inr ⟨h1, rfl, h3⟩
    clear h1 h2 h3
    go_wp2
    exact ⟨rfl, HEND.out⟩
end Go.Proofs.YtnoikdlofkcgaaaGreatDoor

namespace Go.Proofs.YtnoikdlofkcgaaaGreatDoor
open Go

theorem hexv_all : ∀ n : Fin 256, hexv (UInt8.ofNat n.val) < 16 ∧ (0 ≤ hexv (UInt8.ofNat n.val) → hexd (hexv (UInt8.ofNat n.val)).toNat = UInt8.ofNat n.val) := by decide +kernel
theorem hexv_back (c : UInt8) : hexv c < 16 ∧ (0 ≤ hexv c → hexd (hexv c).toNat = c) := by
  have h := hexv_all ⟨c.toNat, c.toNat_lt⟩
  have e : UInt8.ofNat c.toNat = c := UInt8.ofNat_toNat
  rw [show (⟨c.toNat, c.toNat_lt⟩ : Fin 256).val = c.toNat from rfl, e] at h
  exact h
theorem u8_of {c : UInt8} {n : Nat} (h : c.toNat = n) : c = UInt8.ofNat n := by
  rw [← h]
  exact UInt8.ofNat_toNat.symm
/-- What the first signs are read as is written as they are. -/
theorem first_back (c : UInt8) (r : List UInt8) (h : (first (c :: r)).2 ≠ 0) : c :: r = esc (first (c :: r)).1 ++ (c :: r).drop (first (c :: r)).2 := by
  by_cases hp : hexB c = false ∧ maskB c = false
  · rw [first_p hp]
    unfold esc
    simp [hp.1, hp.2]
  · by_cases h92 : c.toNat = 92
    · have ec : c = 92 := u8_of h92
      cases r with
      | nil =>
        rw [first_1 hp h92] at h
        exact absurd rfl h
      | cons d r =>
        by_cases hk : maskB d = true
        · rw [first_m hp h92 hk]
          have hd : hexB d = false := by
            unfold maskB at hk
            unfold hexB
            simp only [Bool.or_eq_true, decide_eq_true_eq] at hk
            simp only [Bool.or_eq_false_iff, decide_eq_false_iff_not]
            omega
          unfold esc
          simp [hd, hk, ec]
        · have hk' : maskB d = false := by simpa using hk
          cases r with
          | nil =>
            rw [first_2 hp h92 hk'] at h
            exact absurd rfl h
          | cons e r =>
            rw [first_3 hp h92 hk'] at h ⊢
            by_cases hc : 0 ≤ hexv d ∧ 0 ≤ hexv e ∧ hexB (UInt8.ofNat (hexv d * 16 + hexv e).toNat) = true
            · rw [if_pos hc]
              have bd := hexv_back d
              have be := hexv_back e
              have hd := bd.2 hc.1
              have he := be.2 hc.2.1
              have hv : (UInt8.ofNat (hexv d * 16 + hexv e).toNat).toNat = (hexv d * 16 + hexv e).toNat := by
                rw [UInt8.toNat_ofNat']
                have := bd.1
                have := be.1
                omega
              unfold esc
              rw [if_pos hc.2.2, hv]
              have e1 : (hexv d * 16 + hexv e).toNat / 16 = (hexv d).toNat := by
                have := bd.1
                have := be.1
                omega
              have e2 : (hexv d * 16 + hexv e).toNat % 16 = (hexv e).toNat := by
                have := bd.1
                have := be.1
                omega
              rw [e1, e2, hd, he, ec]
              rfl
            · rw [if_neg hc] at h
              exact absurd rfl h
    · rw [first_o hp h92] at h
      exact absurd rfl h
theorem run_back : ∀ (f : Nat) (acc l : List UInt8) (k : Nat) (t : List UInt8) (n : Nat), run f acc l k = some (t, n) → ∃ mid rest, t = acc ++ mid ∧ l = escs mid ++ 34 :: rest ∧ n = k + (escs mid).length + 1
  | 0, _, _, _, _, _, h => by rw [run] at h; cases h
  | _ + 1, _, [], _, _, _, h => by rw [run] at h; cases h
  | f + 1, acc, c :: r, k, t, n, h => by
    rw [run] at h
    by_cases h34 : c.toNat = 34
    · rw [if_pos h34] at h
      have e := Option.some.inj h
      have e1 := Prod.mk.inj e
      exact ⟨[], r, by rw [← e1.1]; simp, by rw [u8_of h34]; rfl, by rw [← e1.2]; rfl⟩
    · rw [if_neg h34] at h
      by_cases h0 : (first (c :: r)).2 = 0
      · rw [if_pos h0] at h; cases h
      · rw [if_neg h0] at h
        obtain ⟨mid, rest, e1, e2, e3⟩ := run_back f _ _ _ t n h
        have hb := first_back c r h0
        refine ⟨(first (c :: r)).1 :: mid, rest, by rw [e1]; simp, ?_, ?_⟩
        · show _ = (esc (first (c :: r)).1 ++ escs mid) ++ 34 :: rest
          rw [List.append_assoc, ← e2]
          exact hb
        · rw [e3]
          have hl : (esc (first (c :: r)).1).length = (first (c :: r)).2 := by
            have h1 := congrArg List.length hb
            have h2 : (first (c :: r)).2 ≤ (c :: r).length := by
              rcases Nat.lt_or_ge (c :: r).length (first (c :: r)).2 with h9 | h9
              · exfalso
                have h3 : (c :: r).drop (first (c :: r)).2 = [] := List.drop_eq_nil_of_le (by omega)
                rw [h3] at e2
                have := congrArg List.length e2
                simp at this
              · exact h9
            rw [List.length_append, List.length_drop] at h1
            omega
          have h4 : (escs ((first (c :: r)).1 :: mid)).length = (esc (first (c :: r)).1).length + (escs mid).length := by
            show (esc _ ++ escs mid).length = _
            rw [List.length_append]
          rw [h4, hl]
          omega
/-- What is read is what was quoted. -/
theorem unq_back {l t : List UInt8} {n : Nat} (h : unq l = some (t, n)) : ∃ rest, l = quote t ++ rest ∧ n = (quote t).length := by
  cases l with
  | nil => rw [unq] at h; cases h
  | cons c r =>
    rw [unq] at h
    by_cases h34 : c.toNat = 34
    · rw [if_pos h34] at h
      obtain ⟨mid, rest, e1, e2, e3⟩ := run_back _ _ _ _ t n h
      rw [List.nil_append] at e1
      subst e1
      refine ⟨rest, ?_, ?_⟩
      · rw [u8_of h34, e2]
        unfold quote
        simp
      · rw [e3]
        unfold quote
        simp
        omega
    · rw [if_neg h34] at h; cases h
end Go.Proofs.YtnoikdlofkcgaaaGreatDoor
