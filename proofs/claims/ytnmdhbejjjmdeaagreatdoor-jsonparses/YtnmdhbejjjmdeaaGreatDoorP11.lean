/-
  What is proved: package value's Unquote, called with any text that is not too long, returns what it begins with, and how many bytes that has, or the error that it does not begin so; and nothing that was there has turned. json's reader reads a quoted text of so many bytes at most, or throws a fault. json's reader reads a key that stands behind others, or throws a fault. json's reader reads things, one by one, up to an end, or throws a fault, whatever it is that reads one.
  Conditions: as each theorem says.
-/
import Derived.Test.YtnmdhbejjjmdeaaGreatDoorP10
import Derived.Test.YtnmdhbejjjmdeaaGreatDoorP01
import Derived.Deep.LoopGhost
import Derived.Shelf.Abstract
namespace Go.Proofs.YtnmdhbejjjmdeaaGreatDoor
open Go.RowKit

/-- What Unquote hands back. -/
def unqV : Option (List UInt8 × Nat) → Value
  | none => .tuple #[.string ⟨#[]⟩, .int .i64 0, .iface 43 (.int .i64 2)]
  | some (l, n) => .tuple #[.string ⟨l.toArray⟩, .int .i64 n, .nilIface]

theorem Holds.drewN {B b : Nat} {l : List UInt8} {w : World} (h : Holds B b l w) (m : Nat) : Holds B b l (w.drewN m) := h
theorem is_drewN {B b : Nat} {l : List Value} {w : World} (h : Lib.IsBuilder 96 5 B b l w) (m : Nat) : Lib.IsBuilder 96 5 B b l (w.drewN m) := h
theorem Below.drewN {B : Nat} {a w : World} (h : Below B a w) (m : Nat) : Below B a (w.drewN m) := ⟨h.os, h.tape, h.output, h.size, h.block⟩

theorem drop_at (s : ByteArray) (k : Nat) (h : k < s.size) : s.data.toList.drop k = s[k] :: s.data.toList.drop (k + 1) :=
  List.drop_eq_getElem_cons (by rw [Array.length_toList]; exact h)

theorem ex_drop (s : ByteArray) (k : Nat) : (s.extract k s.size).data.toList = s.data.toList.drop k := by
  rw [ByteArray.data_extract, Array.toList_extract, List.extract_eq_take_drop]
  apply List.take_of_length_le
  rw [List.length_drop, Array.length_toList]
  exact Nat.le_refl _

theorem ex_size (s : ByteArray) (k : Nat) (h : k < s.size) : 0 < (s.extract k s.size).size := by
  rw [ByteArray.size_extract]
  omega

theorem first_le (l : List UInt8) : (first l).2 ≤ l.length := by
  match l with
  | [] => simp [first]
  | c :: r =>
    by_cases hp : hexB c = false ∧ maskB c = false
    · rw [first_p hp]; simp
    by_cases h : c.toNat = 92
    · match r with
      | [] => rw [first_1 hp h]; simp
      | d :: r' =>
        cases hk : maskB d with
        | true => rw [first_m hp h hk]; simp
        | false =>
          match r' with
          | [] => rw [first_2 hp h hk]; simp
          | e :: r'' => rw [first_3 hp h hk]; split <;> simp
    · rw [first_o hp h]; simp

set_option maxRecDepth 100000 in
set_option maxHeartbeats 1000000 in
theorem unquote_any (s : ByteArray) (w : World) (hs : s.size ≤ 8000000) :
    Calls Tryz.prog 45 #[.string s] w fun e w' => e = .returned (unqV (unq s.data.toList)) ∧ Below w.heap.size w w' := by
  have Hp := Tryz.hasPrefix s ⟨#[34]⟩
  by_cases h0 : 0 < s.size
  · obtain ⟨r, er, hr⟩ := list1 s h0
    by_cases h34 : s[0].toNat = 34
    · have hp : Lib.hasPrefix s.data.toList [34] = true := by
        have e0 : s[0] = 34 := UInt8.toNat_inj.1 h34
        rw [er, e0]
        simp [Lib.hasPrefix]
      have hu : unq s.data.toList = run (r.length + 1) [] (s.data.toList.drop 1) 1 := by
        rw [er, unq, if_pos h34]
        rfl
      rw [show (⟨#[34]⟩ : ByteArray).data.toList = [34] from rfl, hp] at Hp
      clear hp h34
      generalize hU : unq s.data.toList = U at *
      go_enter Tryz.func45, Tryz.ntmps45
      go_wp2_with (go_at_call 23; refine (Hp _).mono ?_; rintro e w' ⟨rfl, hw⟩; subst w')
      have R0 : Hid (∃ f, (s.data.toList.drop 1).length < f ∧ run f [] (s.data.toList.drop 1) 1 = U) := by
        refine ⟨r.length + 1, ?_, hu.symm⟩
        rw [List.length_drop, Array.length_toList]
        exact Nat.lt_succ_of_le (Nat.le_of_eq hr.symm)
      clear hu hU er
      go_loopw [6] (fun i wr => ∃ (k : Nat) (acc : List UInt8), 1 ≤ k ∧ k ≤ s.size ∧ i = .int .i64 k ∧ acc.length < k ∧ Lib.IsBuilder 96 5 w.heap.size w.heap.size (Lib.byteCells acc) wr ∧ Below w.heap.size w wr ∧ Hid (∃ f, (s.data.toList.drop k).length < f ∧ run f acc (s.data.toList.drop k) k = U)) (fun i _ => s.size - (RowKit.intOf i).toNat)
      case atStart => exact ⟨1, [], by omega, h0, rfl, by simp, Lib.fresh_isBuilder _ _ w, (Below.refl _ _).alloc (Nat.le_refl _) _, R0⟩
      case round =>
        clear R0
        obtain ⟨k, acc, k1, k2, rfl, hacc, hb, hbel, hR⟩ := hrel
        have hz := hbel.size
        by_cases hlt : k < s.size
        · have hd := drop_at s k hlt
          by_cases h34 : s[k].toNat = 34
          · have HU : Hid (U = some (acc, k + 1)) := by
              obtain ⟨f, hf, e⟩ := hR
              cases f with
              | zero => omega
              | succ f =>
                rw [hd, run, if_pos h34] at e
                exact e.symm
            clear hR hd
            have W := Tryz.builderString w.heap.size w.heap.size acc wr hb hz
            have g1 : (k : Int) < s.size := by omega
            go_wp2_with (go_at_call 56; refine W.mono ?_; rintro e w3 ⟨rfl, b3⟩)
            go_returns
            rw [HU.out]
            exact ⟨rfl, hbel.trans b3⟩
          · have F := first_any (s.extract k s.size)
            have hle := first_le (s.data.toList.drop k)
            rw [ex_drop] at F
            have HR : Hid (∃ f, (s.data.toList.drop k).length < f + 1 ∧ (if (first (s.data.toList.drop k)).2 = 0 then none else run f (acc ++ [(first (s.data.toList.drop k)).1]) ((s.data.toList.drop k).drop (first (s.data.toList.drop k)).2) (k + (first (s.data.toList.drop k)).2)) = U) := by
              obtain ⟨f, hf, e⟩ := hR
              cases f with
              | zero => omega
              | succ f =>
                refine ⟨f, hf, ?_⟩
                rw [hd, run, if_neg h34] at e
                rw [hd]
                exact e
            have hlen : (s.data.toList.drop k).length = s.size - k := by rw [List.length_drop, Array.length_toList]; rfl
            rw [List.drop_drop] at HR
            rw [hlen] at HR hle
            generalize first (s.data.toList.drop k) = x at *
            obtain ⟨c, n⟩ := x
            dsimp only at HR hle
            unfold pair at F
            dsimp only at F
            clear hR hd hlen
            have g1 : (k : Int) < s.size := by omega
            have g2 : (0 : Int) ≤ k := by omega
            have g3 : (k : Int) ≤ s.size := by omega
            have g4 : ((s[k].toNat : Int) == 34) = false := by rw [beq_eq_false_iff_ne]; omega
            have hex := ex_size s k hlt
            by_cases hn : n = 0
            · subst hn
              have HU : Hid (U = none) := by
                obtain ⟨f, _, e⟩ := HR
                show U = none
                simpa using e.symm
              clear HR
              go_wp2_with (go_at_call 57; refine (F _ hex).mono ?_; rintro e w2 ⟨rfl, m, hw⟩; subst w2)
              go_returns
              rw [HU.out]
              exact ⟨rfl, Below.drewN hbel m⟩
            · have HU : Hid (∃ f, (s.data.toList.drop (k + n)).length < f ∧ run f (acc ++ [c]) (s.data.toList.drop (k + n)) (k + n) = U) := by
                obtain ⟨f, hf, e⟩ := HR
                rw [if_neg hn] at e
                refine ⟨f, ?_, e⟩
                rw [List.length_drop, Array.length_toList]
                show s.size - (k + n) < f
                omega
              clear HR
              have g5 : ¬ (n : Int) = 0 := by omega
              have g6 : (n : Int) ≤ s.size := by omega
              have g7 : (k : Int) + n ≤ 8000000 := by omega
              go_wp2_with (first
                | (go_at_call 57; refine (F _ hex).mono ?_; rintro e w2 ⟨rfl, m, hw⟩; subst w2)
                | (go_at_call 58; refine (write_any w.heap.size w.heap.size acc c _ (is_drewN hb m) (by omega) hz).mono ?_; rintro e w3 ⟨rfl, h3, b3⟩))
              go_roundw
              case rel => exact ⟨k + n, acc ++ [c], by omega, by omega, by go_num, by simp; omega, Or.inr h3, (Below.drewN hbel m).trans b3, HU⟩
              case measure => simp [RowKit.intOf]; omega
        · have hke : k = s.size := by omega
          have HU : Hid (U = none) := by
            obtain ⟨f, hf, e⟩ := hR
            have hd : s.data.toList.drop k = [] := List.drop_of_length_le (by rw [Array.length_toList]; show s.size ≤ k; omega)
            rw [hd] at e
            show U = none
            cases f with
            | zero => simpa [run] using e.symm
            | succ f => simpa [run] using e.symm
          clear hR
          subst hke
          clear hlt
          go_wp2
          go_returns
          rw [HU.out]
          exact ⟨rfl, hbel⟩
    · have hp : Lib.hasPrefix s.data.toList [34] = false := by
        have e0 : ¬ s[0] = 34 := fun e => h34 (by rw [e]; rfl)
        rw [er]
        simp only [Lib.hasPrefix, List.isPrefixOf, Bool.and_eq_false_iff]
        exact Or.inl (beq_eq_false_iff_ne.2 (Ne.symm e0))
      have hu : unq s.data.toList = none := by
        rw [er, unq, if_neg h34]
      rw [show (⟨#[34]⟩ : ByteArray).data.toList = [34] from rfl, hp] at Hp
      rw [hu]
      unfold unqV
      dsimp only
      clear hp h34 hu er
      go_enter Tryz.func45, Tryz.ntmps45
      go_wp2_with (go_at_call 23; refine (Hp _).mono ?_; rintro e w' ⟨rfl, hw⟩; subst w')
      go_returns
      exact ⟨rfl, Below.refl _ _⟩
  · have hn : s.data.toList = [] := List.length_eq_zero_iff.1 (by rw [Array.length_toList]; show s.size = 0; omega)
    rw [show (⟨#[34]⟩ : ByteArray).data.toList = [34] from rfl, hn] at Hp
    have hp : Lib.hasPrefix [] [34] = false := rfl
    rw [hp] at Hp
    rw [hn]
    unfold unq unqV
    dsimp only
    clear hp hn
    go_enter Tryz.func45, Tryz.ntmps45
    go_wp2_with (go_at_call 23; refine (Hp _).mono ?_; rintro e w' ⟨rfl, hw⟩; subst w')
    go_returns
    exact ⟨rfl, Below.refl _ _⟩
end Go.Proofs.YtnmdhbejjjmdeaaGreatDoor

namespace Go.Proofs.YtnmdhbejjjmdeaaGreatDoor
open Go.RowKit

/-- A quoted text of so many bytes at most, with which something begins. -/
def qtd (most : Nat) (l : List UInt8) : Option (List UInt8 × Nat) := (unq l).bind fun x => if x.1.length ≤ most then some x else none
theorem qtd_back {most : Nat} {l t : List UInt8} {n : Nat} (h : qtd most l = some (t, n)) : t.length ≤ most ∧ ∃ rest, l = quote t ++ rest ∧ n = (quote t).length := by
  unfold qtd at h
  obtain ⟨⟨a, b⟩, h1, h2⟩ := Option.bind_eq_some_iff.1 h
  by_cases h3 : a.length ≤ most
  · rw [if_pos h3] at h2
    obtain ⟨rfl, rfl⟩ := Prod.mk.inj (Option.some.inj h2)
    exact ⟨h3, unq_back h1⟩
  · rw [if_neg h3] at h2; cases h2
theorem qtd_quote {most : Nat} {t rest : List UInt8} (h : t.length ≤ most) : qtd most (quote t ++ rest) = some (t, (quote t).length) := by
  unfold qtd
  rw [unq_quote]
  show (if t.length ≤ most then _ else _) = _
  rw [if_pos h]
/-- What quoted leaves. -/
def QuotedP (w : World) (p : Nat) (s : ByteArray) (k m most : Nat) (e : Ending) (w' : World) : Prop :=
  (∃ t n, qtd most (lft s k) = some (t, n) ∧ e = .returned (.string ⟨t.toArray⟩) ∧ RB w' p s (k + n) m ∧ k + n ≤ s.size ∧ Rk p w w') ∨ (qtd most (lft s k) = none ∧ e = .panicked [{ v := faultV k 2, recovered := false }] ∧ Rk p w w')
set_option maxRecDepth 100000 in
set_option maxHeartbeats 2000000 in
theorem quoted_any (p : Nat) (s : ByteArray) (k m most : Nat) (w : World) (h : RB w p s k m) (hk : k ≤ s.size) (hs : s.size ≤ 60000) (hm : most ≤ 60) :
    Calls Tryz.prog 25 #[.pointer (some ⟨p, 0, none⟩), .int .i64 (most : Int)] w fun e w' => QuotedP w p s k m most e w' := by
  have E1 := rest_any p s k m w h hk
  have E2 := fun W => unquote_any (s.extract k s.size) W (by rw [ByteArray.size_extract]; omega)
  rw [lft_ex] at E2
  obtain ⟨post, hpost⟩ : ∃ post, post = QuotedP w p s k m most := ⟨_, rfl⟩
  rw [← hpost]
  have HPO : Hid (post = QuotedP w p s k m most) := hpost
  have HR : Hid (RB w p s k m ∧ k ≤ s.size ∧ s.size ≤ 60000) := ⟨h, hk, hs⟩
  clear hpost h hk hs
  generalize s.extract k s.size = sx at *
  have HM : Hid (most ≤ 60) := hm
  clear hm
  obtain ⟨q, hq⟩ : ∃ q, unq (lft s k) = q := ⟨_, rfl⟩
  rw [hq] at E2
  have HQ : Hid (unq (lft s k) = q) := hq
  clear hq
  go_enter Tryz.func25, Tryz.ntmps25
  go_wp2_with fail
  go_fit E1
  rintro e w1 ⟨rfl, b1⟩
  clear E1
  have E3 := E2 w1
  clear E2
  go_wp2_with fail
  go_fit E3
  rintro e w2 ⟨rfl, b2⟩
  clear E3
  have HB2 : Hid (Below w.heap.size w w2) := b1.trans (b2.mono b1.size)
  have HR2 : Hid (RB w2 p s k m) := HR.out.1.below HB2.out
  clear b1 b2
  have c1 : w2.cell? ⟨p, 1, none⟩ = some (.int .i64 (k : Int)) := Lib.cell_of_heap HR2.out 1
  have cf := Lib.frozen_of_heap HR2.out
  cases q with
  | none =>
    have HEND : Hid (post (.panicked [{ v := faultV k 2, recovered := false }]) w2) := by
      show post _ _
      rw [HPO.out]
      exact Or.inr ⟨by unfold qtd; rw [HQ.out]; rfl, rfl, Rk.of HB2.out⟩
    dsimp only [unqV]
    go_wp2
    exact ⟨rfl, HEND.out⟩
  | some x =>
    obtain ⟨t, n⟩ := x
    dsimp only [unqV]
    have hsz : (⟨t.toArray⟩ : ByteArray).size = t.length := by simp [ByteArray.size]
    obtain ⟨ts, hts⟩ : ∃ ts : ByteArray, ts = ⟨t.toArray⟩ := ⟨_, rfl⟩
    rw [← hts] at hsz ⊢
    have HTS : Hid (ts = ⟨t.toArray⟩ ∧ ts.size = t.length) := ⟨hts, hsz⟩
    clear hts hsz
    by_cases hl : (most : Int) < ts.size
    · have HEND : Hid (post (.panicked [{ v := faultV k 2, recovered := false }]) w2) := by
        show post _ _
        rw [HPO.out]
        refine Or.inr ⟨?_, rfl, Rk.of HB2.out⟩
        unfold qtd
        rw [HQ.out]
        show (if t.length ≤ most then _ else _) = _
        rw [if_neg (by have := HTS.out.2; omega)]
      go_wp2
      exact ⟨rfl, HEND.out⟩
    · have hq2 : qtd most (lft s k) = some (t, n) := by
        unfold qtd
        rw [HQ.out]
        show (if t.length ≤ most then _ else _) = _
        rw [if_pos (by have := HTS.out.2; omega)]
      have hb := qtd_back hq2
      obtain ⟨rest, e1, e2⟩ := hb.2
      have hlen : k + n ≤ s.size := by
        have h1 := congrArg List.length e1
        unfold lft at h1
        rw [List.length_drop, List.length_append, Array.length_toList] at h1
        have h2 : s.data.size = s.size := rfl
        have h3 := HR.out.2.1
        omega
      have HEND : Hid (post (.returned (.string ts)) (w2.setCell ⟨p, 1, none⟩ (.int .i64 ((k : Int) + n)))) := by
        show post _ _
        rw [HPO.out]
        refine Or.inl ⟨t, n, hq2, by rw [HTS.out.1], ?_, hlen, (Rk.of HB2.out).trans ⟨rfl, rfl, rfl, by simp, fun b _ hne => Below.heap_setCell _ _ _ _ (by simpa using hne)⟩⟩
        unfold RB
        rw [set_atR HR2.out 1 _]
        simp
      have HL : Hid (k + n ≤ 60000) := by show _ ≤ _; have := HR.out.2.2; omega
      clear hq2 hb e1 e2 hlen
      have g1 : (k : Int) + n ≤ 70000 := by have := HL.out; omega
      have g0 : (0 : Int) ≤ (k : Int) + n := by omega
      go_wp2
      exact HEND.out
end Go.Proofs.YtnmdhbejjjmdeaaGreatDoor

namespace Go.Proofs.YtnmdhbejjjmdeaaGreatDoor
open Go.RowKit

/-- May a text be a key behind others? -/
def keyOk (ks : List ByteArray) (t : List UInt8) : Prop := t ≠ [] ∧ ∀ x ∈ ks.getLast?, x.toList < t
/-- What key leaves. -/
def KeyP (w : World) (p : Nat) (s : ByteArray) (k m : Nat) (ks : List ByteArray) (e : Ending) (w' : World) : Prop :=
  (∃ t n, qtd 20 (lft s k) = some (t, n) ∧ keyOk ks t ∧ e = .returned (.string ⟨t.toArray⟩) ∧ RB w' p s (k + n) m ∧ k + n ≤ s.size ∧ Rk p w w') ∨ ((∀ t n, qtd 20 (lft s k) = some (t, n) → ¬ keyOk ks t) ∧ e = .panicked [{ v := faultV k 2, recovered := false }] ∧ Rk p w w')
theorem ts_list (t : List UInt8) : (⟨t.toArray⟩ : ByteArray).toList = t := by
  rw [Lib.toList_data]
set_option maxRecDepth 100000 in
set_option maxHeartbeats 2000000 in
theorem key_any (p : Nat) (s : ByteArray) (k m : Nat) (a : Option Addr) (c : Nat) (ks : List ByteArray) (w : World) (h : RB w p s k m) (hk : k ≤ s.size) (hs : s.size ≤ 60000) (ho : IsStrs w (.slice a ks.length c) ks) (hap : ∀ b off, a = some ⟨b, off, none⟩ → b ≠ p) (hkl : ks.length ≤ 1000) :
    Calls Tryz.prog 41 #[.pointer (some ⟨p, 0, none⟩), .slice a ks.length c] w fun e w' => KeyP w p s k m ks e w' := by
  have E1 := quoted_any p s k m 20 w h hk hs (by omega)
  obtain ⟨post, hpost⟩ : ∃ post, post = KeyP w p s k m ks := ⟨_, rfl⟩
  rw [← hpost]
  have HPO : Hid (post = KeyP w p s k m ks) := hpost
  have c1 : w.cell? ⟨p, 1, none⟩ = some (.int .i64 (k : Int)) := Lib.cell_of_heap h 1
  have HO : Hid (IsStrs w (.slice a ks.length c) ks ∧ ∀ b off, a = some ⟨b, off, none⟩ → b ≠ p) := ⟨ho, hap⟩
  obtain ⟨kn, hkn⟩ : ∃ kn, kn = ks.length := ⟨_, rfl⟩
  have HKN : Hid (kn = ks.length ∧ ks.length ≤ 1000) := ⟨hkn, hkl⟩
  rw [← hkn]
  clear hpost h hk hs ho hap hkn hkl
  have e20 : ((20 : Nat) : Int) = 20 := rfl
  rw [e20] at E1
  clear e20
  go_enter Tryz.func41, Tryz.ntmps41
  go_wp2_with fail
  go_fit E1
  rintro e w1 hQ
  clear E1 c1
  rcases hQ with ⟨t, n, hq, rfl, hrb, hkn, hrk⟩ | ⟨hq, rfl, hrk⟩
  · have HT : Hid (qtd 20 (lft s k) = some (t, n) ∧ RB w1 p s (k + n) m ∧ k + n ≤ s.size ∧ Rk p w w1) := ⟨hq, hrb, hkn, hrk⟩
    clear hq hrb hkn hrk
    obtain ⟨ts, hts⟩ : ∃ ts : ByteArray, ts = ⟨t.toArray⟩ := ⟨_, rfl⟩
    rw [← hts]
    have HTS : Hid (ts = ⟨t.toArray⟩ ∧ ts.toList = t) := ⟨hts, by rw [hts]; exact ts_list t⟩
    clear hts
    have HBAD : Hid (¬ keyOk ks t → post (.panicked [{ v := faultV k 2, recovered := false }]) w1) := by
      intro hno
      rw [HPO.out]
      refine Or.inr ⟨fun t' n' h' => ?_, rfl, HT.out.2.2.2⟩
      rw [HT.out.1] at h'
      obtain ⟨rfl, _⟩ := Prod.mk.inj (Option.some.inj h')
      exact hno
    have HGOOD : Hid (keyOk ks t → post (.returned (.string ts)) w1) := by
      intro hok
      rw [HPO.out]
      exact Or.inl ⟨t, n, HT.out.1, hok, by rw [HTS.out.1], HT.out.2.1, HT.out.2.2.1, HT.out.2.2.2⟩
    by_cases h0 : t = []
    · have hbe : ts.toList.isEmpty = true := by rw [HTS.out.2, h0]; rfl
      have HEND : Hid (post (.panicked [{ v := faultV k 2, recovered := false }]) w1) := HBAD.out (fun hok => hok.1 h0)
      clear h0 HBAD HGOOD
      go_wp2
      exact ⟨rfl, HEND.out⟩
    · have hbe : ts.toList.isEmpty = false := by
        rw [HTS.out.2]
        cases t with
        | nil => exact absurd rfl h0
        | cons x r => rfl
      by_cases hz : kn = 0
      · have hks : ks = [] := List.length_eq_zero_iff.1 (by have := HKN.out.1; omega)
        have HEND : Hid (post (.returned (.string ts)) w1) := HGOOD.out ⟨h0, fun x hx => by rw [hks] at hx; cases hx⟩
        subst hz
        clear h0 HBAD HGOOD hks
        go_wp2
        exact HEND.out
      · have hne : ks ≠ [] := fun e => hz (by have := HKN.out.1; rw [e] at this; exact this)
        obtain ⟨l0, hl0⟩ : ∃ l0, l0 = ks.length - 1 := ⟨_, rfl⟩
        have hll : l0 < ks.length := by have := HKN.out.1; omega
        obtain ⟨a', c', ea, q1, q2, q3⟩ := HO.out.1
        obtain ⟨ea1, ea2, ea3⟩ := Value.slice.inj ea
        obtain ⟨b, off, eb, hb4, hb5⟩ := q3 hne
        have hbp := HO.out.2 b off (ea1.trans eb)
        obtain ⟨x, hx⟩ : ∃ x, ks[l0]'hll = x := ⟨_, rfl⟩
        have hlast : ks.getLast? = some x := by
          rw [List.getLast?_eq_getElem?, ← hl0, List.getElem?_eq_getElem hll, hx]
        have c9 : w1.cell? ⟨b, off + l0, none⟩ = some (.string x) := by
          rw [World.cell?_of_block (w := w) (HT.out.2.2.2.block b hb4 hbp), hb5 l0 hll, hx]
        have hea : a = some ⟨b, off, none⟩ := ea1.trans eb
        have g1 : (0 : Int) < kn := by omega
        have hw1 : wrap64 ((kn : Int) - 1) = (l0 : Int) := by have := HKN.out; unfold wrap64; omega
        have g2 : (l0 : Int) < kn := by have := HKN.out.1; omega
        clear ea ea1 ea2 ea3 q1 q2 q3 eb hb4 hb5 hbp hx hll hl0 hne
        subst hea
        by_cases hlt : x.toList < t
        · have HEND : Hid (post (.returned (.string ts)) w1) := HGOOD.out ⟨h0, fun y hy => by
            rw [hlast] at hy
            obtain rfl := Option.some.inj hy
            exact hlt⟩
          obtain ⟨f1, f2⟩ := leq_no hlt
          rw [← HTS.out.2] at f1 f2
          clear h0 HBAD HGOOD hlast hlt hz
          go_wp2
          exact HEND.out
        · have HEND : Hid (post (.panicked [{ v := faultV k 2, recovered := false }]) w1) := HBAD.out (fun hok => hlt (hok.2 x (by rw [hlast]; rfl)))
          have f0 := leq_yes hlt
          rw [← HTS.out.2] at f0
          clear h0 HBAD HGOOD hlast hlt hz
          rcases f0 with f1 | ⟨f1, f2⟩
          · go_wp2
            exact ⟨rfl, HEND.out⟩
          · go_wp2
            exact ⟨rfl, HEND.out⟩
  · have HEND : Hid (post (.panicked [{ v := faultV k 2, recovered := false }]) w1) := by
      show post _ _
      rw [HPO.out]
      exact Or.inr ⟨fun t n h9 => (by rw [hq] at h9; cases h9), rfl, hrk⟩
    clear hq hrk
    go_wp2
    exact ⟨rfl, HEND.out⟩
end Go.Proofs.YtnmdhbejjjmdeaaGreatDoor

namespace Go.Proofs.YtnmdhbejjjmdeaaGreatDoor
open Go.RowKit

/-- Does it go on with this? -/
def preB (s : ByteArray) (k : Nat) (q : ByteArray) : Bool := Lib.hasPrefix (lft s k) q.data.toList
/-- A comma. -/
abbrev com : ByteArray := ⟨#[44]⟩
/-- So many things read, one behind the other: where the reader stands then, and how many trees have begun. -/
def Ch {σ : Type} (s en : ByteArray) (N : σ → Nat → Nat → σ → Nat → Nat → Prop) (x0 : σ) (k0 m0 : Nat) : Nat → σ → Nat → Nat → Prop
  | 0, x, k, m => x = x0 ∧ k = k0 ∧ m = m0
  | n + 1, x, k, m => ∃ x1 k1 m1, Ch s en N x0 k0 m0 n x1 k1 m1 ∧ preB s k1 en = false ∧ ((n = 0 ∧ N x1 k1 m1 x k m) ∨ (n ≠ 0 ∧ preB s k1 com = true ∧ N x1 (k1 + 1) m1 x k m))
/-- What reads one thing keeps to. -/
structure One {σ : Type} (p : Nat) (s : ByteArray) (f : FuncId) (lb : Array Value) (J : σ → Nat → Nat → World → Prop) (Q : World → Prop) (N : σ → Nat → Nat → σ → Nat → Nat → Prop) (B : σ → Nat → Nat → Value → Prop) : Prop where
  box : ∀ x k m w, J x k m w → RB w p s k m ∧ k ≤ s.size
  move : ∀ x k m w w' k', J x k m w → RB w' p s k' m → k ≤ k' → k' ≤ s.size → Rk p w w' → J x k' m w'
  kept : ∀ x k m w w', J x k m w → Rk p w w' → Q w'
  call : ∀ x k m w, J x k m w → Calls Tryz.prog f lb w fun e w' => (∃ x' k' m', e = .returned (.tuple #[]) ∧ N x k m x' k' m' ∧ k < k' ∧ J x' k' m' w') ∨ (∃ v, e = .panicked [{ v := v, recovered := false }] ∧ B x k m v ∧ Q w')
/-- What row leaves. -/
def RowsP {σ : Type} (s en : ByteArray) (J : σ → Nat → Nat → World → Prop) (Q : World → Prop) (N : σ → Nat → Nat → σ → Nat → Nat → Prop) (B : σ → Nat → Nat → Value → Prop) (x0 : σ) (k0 m0 : Nat) (e : Ending) (w' : World) : Prop :=
  (∃ n x k m, Ch s en N x0 k0 m0 n x k m ∧ preB s k en = true ∧ e = .returned (.tuple #[]) ∧ J x (k + 1) m w') ∨
  (∃ n x k m v, Ch s en N x0 k0 m0 n x k m ∧ preB s k en = false ∧ e = .panicked [{ v := v, recovered := false }] ∧ ((n = 0 ∧ B x k m v) ∨ (n ≠ 0 ∧ preB s k com = false ∧ v = faultV k 2) ∨ (n ≠ 0 ∧ preB s k com = true ∧ B x (k + 1) m v)) ∧ Q w')
theorem pre_room {s q : ByteArray} {k : Nat} (h : preB s k q = true) (hq : q.size = 1) : k + 1 ≤ s.size := by
  rcases Nat.lt_or_ge k s.size with h1 | h1
  · exact h1
  · exfalso
    have e : lft s k = [] := by
      unfold lft
      exact List.drop_eq_nil_of_le (by rw [Array.length_toList]; exact h1)
    unfold preB at h
    rw [e] at h
    have hl : q.data.toList.length = 1 := by rw [Array.length_toList]; exact hq
    cases hd : q.data.toList with
    | nil => rw [hd] at hl; cases hl
    | cons c r => rw [hd] at h; simp [Lib.hasPrefix] at h
set_option maxRecDepth 100000 in
set_option maxHeartbeats 4000000 in
theorem row_any {σ : Type} (p : Nat) (s en : ByteArray) (f : FuncId) (lb : Array Value) (J : σ → Nat → Nat → World → Prop) (Q : World → Prop) (N : σ → Nat → Nat → σ → Nat → Nat → Prop) (B : σ → Nat → Nat → Value → Prop) (x0 : σ) (k0 m0 : Nat) (w : World) (eg : ∀ args w, (callFunc f args).run Tryz.prog w = .ok (.enter f args) w)
    (H : One p s f lb J Q N B) (hs : s.size ≤ 60000) (hen : en.size = 1) (h0 : J x0 k0 m0 w) :
    Calls Tryz.prog 39 #[.pointer (some ⟨p, 0, none⟩), .string en, .func (Fn.func f) #[] lb] w fun e w' => RowsP s en J Q N B x0 k0 m0 e w' := by
  obtain ⟨post, hpost⟩ : ∃ post, post = RowsP s en J Q N B x0 k0 m0 := ⟨_, rfl⟩
  rw [← hpost]
  have HPO : Hid (post = RowsP s en J Q N B x0 k0 m0) := hpost
  have HH : Hid (One p s f lb J Q N B ∧ s.size ≤ 60000 ∧ en.size = 1) := ⟨H, hs, hen⟩
  have HSK : Hid (∀ (i : σ) k m W, J i k m W → Calls Tryz.prog 20 #[.pointer (some ⟨p, 0, none⟩), .string en] W fun e w' => (preB s k en = true ∧ e = .returned (.bool true) ∧ J i (k + 1) m w') ∨ (preB s k en = false ∧ e = .returned (.bool false) ∧ J i k m w')) := by
    intro i k m W hJ
    have hb := H.box i k m W hJ
    refine (skip_any p s k m en W hb.1 hb.2 hs (by omega)).mono ?_
    rintro e w' (⟨a1, a2, a3, a4⟩ | ⟨a1, a2, a3, a4⟩)
    · rw [hen] at a3
      exact Or.inl ⟨a1, a2, H.move i k m W w' (k + 1) hJ a3 (by omega) (pre_room a1 hen) a4⟩
    · exact Or.inr ⟨a1, a2, H.move i k m W w' k hJ a3 (Nat.le_refl _) hb.2 a4⟩
  have HND : Hid (∀ (i : σ) k m W, J i k m W → Calls Tryz.prog 42 #[.pointer (some ⟨p, 0, none⟩), .string com] W fun e w' => (preB s k com = true ∧ e = .returned (.tuple #[]) ∧ J i (k + 1) m w') ∨ (preB s k com = false ∧ e = .panicked [{ v := faultV k 2, recovered := false }] ∧ Q w')) := by
    intro i k m W hJ
    have hb := H.box i k m W hJ
    refine (need_any p s k m com W hb.1 hb.2 hs (by decide)).mono ?_
    rintro e w' (⟨a1, a2, a3, a4⟩ | ⟨a1, a2, a4⟩)
    · exact Or.inl ⟨a1, a2, H.move i k m W w' (k + 1) hJ a3 (by omega) (pre_room a1 rfl) a4⟩
    · exact Or.inr ⟨a1, a2, H.kept i k m W w' hJ a4⟩
  have HJ0 : Hid (J x0 k0 m0 w) := h0
  have E0 := HSK.out x0 k0 m0 w h0
  clear hpost H hs hen h0
  go_enter Tryz.func39, Tryz.ntmps39
  go_wp2_with fail
  go_fit E0
  rintro e w1 hS
  clear E0 HJ0
  rcases hS with ⟨a1, rfl, a3⟩ | ⟨a1, rfl, a3⟩
  · have HEND : Hid (post (.returned (.tuple #[])) w1) := by
      show post _ _
      rw [HPO.out]
      exact Or.inl ⟨0, x0, k0, m0, ⟨rfl, rfl, rfl⟩, a1, rfl, a3⟩
    clear a1 a3
    go_wp2
    first
    | exact HEND.out
    | (refine bodyPost_ret (results_none rfl _ _ _) rfl ?_; exact HEND.out)
    | (go_end0; exact HEND.out)
  · have E1 := HH.out.1.call x0 k0 m0 w1 a3
    have HA1 : Hid (preB s k0 en = false) := a1
    clear a1 a3
    go_wp2_with fail
    go_fit E1
    rintro e w2 hO
    clear E1
    rcases hO with ⟨x1, k1, m1, rfl, hN, hlt, hJ⟩ | ⟨v, rfl, hB, hQ⟩
    · have HR : Hid (Ch s en N x0 k0 m0 1 x1 k1 m1 ∧ J x1 k1 m1 w2) := ⟨⟨x0, k0, m0, ⟨rfl, rfl, rfl⟩, HA1.out, Or.inl ⟨rfl, hN⟩⟩, hJ⟩
      clear hN hlt hJ
      go_wp2_with fail
      go_loopg [] (s.size + 1) (fun gk wr => ∃ (n : Nat) (x : σ) (k m : Nat), n ≠ 0 ∧ s.size < k + gk ∧ Hid (Ch s en N x0 k0 m0 n x k m ∧ J x k m wr))
      case atStart => exact ⟨1, x1, k1, m1, by omega, by omega, HR.out⟩
      case round =>
        clear HR
        obtain ⟨n, x, k, m, hn, hgk, HC⟩ := hrel
        have HG : Hid (n ≠ 0 ∧ s.size < k + gk) := ⟨hn, hgk⟩
        clear hn hgk
        have E2 := HSK.out x k m wr HC.out.2
        go_wp2_with fail
        go_fit E2
        rintro e w3 hS
        clear E2
        rcases hS with ⟨a1, rfl, a3⟩ | ⟨a1, rfl, a3⟩
        · have HEND : Hid (post (.returned (.tuple #[])) w3) := by
            show post _ _
            rw [HPO.out]
            exact Or.inl ⟨n, x, k, m, HC.out.1, a1, rfl, a3⟩
          clear a1 a3
          go_wp2
          first
          | exact HEND.out
          | (refine bodyPost_ret (results_none rfl _ _ _) rfl ?_; exact HEND.out)
          | (go_end0; exact HEND.out)
        · have E3 := HND.out x k m w3 a3
          have HA : Hid (preB s k en = false) := a1
          clear a1 a3
          go_wp2_with fail
          go_fit E3
          rintro e w4 hD
          clear E3
          rcases hD with ⟨b1, rfl, b3⟩ | ⟨b1, rfl, b3⟩
          · have E4 := HH.out.1.call x (k + 1) m w4 b3
            have HBC : Hid (preB s k com = true) := b1
            have HKS : Hid (k + 1 ≤ s.size) := (HH.out.1.box x (k + 1) m w4 b3).2
            clear b1 b3
            go_wp2_with fail
            go_fit E4
            rintro e w5 hO
            clear E4
            rcases hO with ⟨x2, k2, m2, rfl, hN, hlt, hJ⟩ | ⟨v, rfl, hB, hQ⟩
            · have HR2 : Hid ((Ch s en N x0 k0 m0 (n + 1) x2 k2 m2 ∧ J x2 k2 m2 w5) ∧ k + 1 < k2) := ⟨⟨⟨x, k, m, HC.out.1, HA.out, Or.inr ⟨HG.out.1, HBC.out, hN⟩⟩, hJ⟩, hlt⟩
              clear hN hlt hJ
              go_wp2_with fail
              go_roundg (gk - 1)
              case measure => have := HG.out.2; have := HKS.out; omega
              case rel => exact ⟨n + 1, x2, k2, m2, by omega, by have := HR2.out.2; have := HG.out.2; omega, HR2.out.1⟩
            · have HEND : Hid (post (.panicked [{ v := v, recovered := false }]) w5) := by
                show post _ _
                rw [HPO.out]
                exact Or.inr ⟨n, x, k, m, v, HC.out.1, HA.out, rfl, Or.inr (Or.inr ⟨HG.out.1, HBC.out, hB⟩), hQ⟩
              clear hB hQ
              go_wp2
              exact ⟨rfl, HEND.out⟩
          · have HEND : Hid (post (.panicked [{ v := faultV k 2, recovered := false }]) w4) := by
              show post _ _
              rw [HPO.out]
              exact Or.inr ⟨n, x, k, m, _, HC.out.1, HA.out, rfl, Or.inr (Or.inl ⟨HG.out.1, b1, rfl⟩), b3⟩
            clear b1 b3
            go_wp2
            exact ⟨rfl, HEND.out⟩
    · have HEND : Hid (post (.panicked [{ v := v, recovered := false }]) w2) := by
        show post _ _
        rw [HPO.out]
        exact Or.inr ⟨0, x0, k0, m0, v, ⟨rfl, rfl, rfl⟩, HA1.out, rfl, Or.inl ⟨rfl, hB⟩, hQ⟩
      clear hB hQ
      go_wp2
      exact ⟨rfl, HEND.out⟩
end Go.Proofs.YtnmdhbejjjmdeaaGreatDoor
