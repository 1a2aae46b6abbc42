/-
  What is proved: slices.BinarySearch of keys that rise finds where a key stands, or would stand.
  Conditions: the keys lie in memory and rise.
-/
import Derived.Test.YtegbjkjeoegfbaaDoorJFormed
namespace Go.Proofs.YtegbjkjeoegfbaaDoor
open Go.RowKit Go.Sort

theorem up_all {p : List UInt8} {l : List ByteArray} (h : upB p l = true) : ∀ i (hi : i < l.length), p < l[i].toList := by
  induction l generalizing p with
  | nil => intro i hi; simp at hi
  | cons k r ih =>
    rw [upB_cons] at h
    simp only [Bool.and_eq_true, decide_eq_true_eq] at h
    intro i hi
    cases i with
    | zero => exact h.1
    | succ i => exact List.lt_trans h.1 (ih h.2.2 i (by simpa using hi))
theorem up_pair {p : List UInt8} {l : List ByteArray} (h : upB p l = true) : ∀ i j (hi : i < j) (hj : j < l.length), l[i].toList < l[j].toList := by
  induction l generalizing p with
  | nil => intro i j hi hj; simp at hj
  | cons k r ih =>
    rw [upB_cons] at h
    simp only [Bool.and_eq_true, decide_eq_true_eq] at h
    intro i j hi hj
    cases j with
    | zero => omega
    | succ j =>
      cases i with
      | zero => exact up_all h.2.2 j (by simpa using hj)
      | succ i => exact ih h.2.2 i j (by omega) (by simpa using hj)

set_option maxRecDepth 100000 in
set_option maxHeartbeats 4000000 in
theorem lessS_any (x y : ByteArray) (w : World) :
    Calls Tryd.prog 62 #[.string x, .string y] w fun e w' => e = .returned (.bool (decide (x.toList < y.toList))) ∧ Below w.heap.size w w' := by
  have e1 : Op.bytesLess x.toList y.toList = decide (x.toList < y.toList) := by rw [bytesLess_eq]
  rw [← e1]
  clear e1
  go_enter Tryd.func62, Tryd.ntmps62
  go_wp2
  go_ret
  exact ⟨rfl, Below.refl _ _⟩

/-- What a search answers. -/
def Found (ks : List ByteArray) (x : List UInt8) (i : Nat) (ok : Bool) : Prop :=
  i ≤ ks.length ∧ (∀ t (h : t < ks.length), t < i → ks[t].toList < x) ∧ (∀ t (h : t < ks.length), i ≤ t → ¬ ks[t].toList < x) ∧ (ok = true ↔ ∃ h : i < ks.length, ks[i].toList = x)

/-- The same, of an ending. -/
def SearchP (ks : List ByteArray) (x : List UInt8) (e : Ending) : Prop := ∃ (i : Nat) (ok : Bool), e = .returned (.tuple #[.int .i64 i, .bool ok]) ∧ Found ks x i ok

set_option maxRecDepth 100000 in
set_option maxHeartbeats 4000000 in
theorem search_any (v : Value) (ks : List ByteArray) (x : ByteArray) (w : World) (hv : IsStrs w v ks) (hu : upB [] ks = true) :
    Calls Tryd.prog 53 #[v, .string x] w fun e w' => SearchP ks x.toList e ∧ Below w.heap.size w w' := by
  have HS : Hid (IsStrs w v ks) := hv
  obtain ⟨a, cap, rfl, h1, h2, h3⟩ := hv
  have HZ : Hid (ks.length ≤ cap ∧ ks.length ≤ 8796093022208) := ⟨h1.1, h2⟩
  have HP : Hid (∀ i j (hi : i < j) (hj : j < ks.length), ks[i].toList < ks[j].toList) := up_pair hu
  clear h1 h2 h3 hu
  go_enter Tryd.func53, Tryd.ntmps53
  go_wp2_with fail
  go_loopw [7, 8, 9] (fun i j _ wr => ∃ lo hi : Nat, lo ≤ hi ∧ hi ≤ ks.length ∧ i = .int .i64 lo ∧ j = .int .i64 hi ∧ Hid (∀ t (h : t < ks.length), t < lo → ks[t].toList < x.toList) ∧ Hid (∀ t (h : t < ks.length), hi ≤ t → ¬ ks[t].toList < x.toList) ∧ Hid (Below w.heap.size w wr)) (fun i j _ _ => (RowKit.intOf j).toNat - (RowKit.intOf i).toNat)
  case atStart => exact ⟨0, ks.length, Nat.zero_le _, Nat.le_refl _, rfl, rfl, fun t _ h => absurd h (Nat.not_lt_zero _), fun t h h' => absurd h (Nat.not_lt.2 h'), Below.refl _ _⟩
  case round =>
    obtain ⟨lo, hi, hlh, hhn, rfl, rfl, HA, HC, HB⟩ := hrel
    by_cases hlt : lo < hi
    · have g1 : (lo : Int) < hi := by omega
      have g2 : (hi : Int) ≤ 8796093022208 := by have := HZ.out; omega
      have g3 : (hi : Int) ≤ ks.length := by omega
      obtain ⟨m, hm⟩ : ∃ m, m = (lo + hi) / 2 := ⟨_, rfl⟩
      have gm : ((lo : Int) + hi) / 2 = m := by omega
      have hmn : m < ks.length := by omega
      obtain ⟨b, off, rfl, hb4, hmem⟩ := HS.out.cells HB.out (show ks ≠ [] from fun e => by rw [e] at hmn; simp at hmn)
      have x0 := hmem m hmn
      have g4 : (m : Int) < ks.length := by omega
      have HM : Hid (lo ≤ m ∧ m < hi ∧ hi ≤ ks.length) := ⟨by omega, by omega, hhn⟩
      have E := lessS_any ks[m] x wr
      by_cases hk : ks[m].toList < x.toList
      · rw [decide_eq_true hk] at E
        have HA2 : Hid (∀ t (h : t < ks.length), t < m + 1 → ks[t].toList < x.toList) := by
          intro t h ht
          rcases Nat.lt_or_ge t m with e | e
          · exact List.lt_trans (HP.out t m e hmn) hk
          · obtain rfl : t = m := by omega
            exact hk
        clear hmem hk
        generalize ks[m] = sm at *
        clear hm hlt hlh hhn hmn
        go_wp2_with fail
        go_fit E
        rintro e w1 ⟨rfl, b1⟩
        have HB1 : Hid (Below w.heap.size w w1) := HB.out.trans (b1.mono HB.out.size)
        clear b1 E x0
        go_wp2
        go_roundw
        case rel => exact ⟨m + 1, hi, HM.out.2.1, HM.out.2.2, by go_num, rfl, HA2, HC, HB1⟩
        case measure => simp [RowKit.intOf]; have := HM.out; omega
      · rw [decide_eq_false hk] at E
        have HC2 : Hid (∀ t (h : t < ks.length), m ≤ t → ¬ ks[t].toList < x.toList) := by
          intro t h ht
          rcases Nat.lt_or_ge m t with e | e
          · exact fun h' => hk (List.lt_trans (HP.out m t e h) h')
          · obtain rfl : t = m := by omega
            exact hk
        clear hmem hk
        generalize ks[m] = sm at *
        clear hm hlt hlh hhn hmn
        go_wp2_with fail
        go_fit E
        rintro e w1 ⟨rfl, b1⟩
        have HB1 : Hid (Below w.heap.size w w1) := HB.out.trans (b1.mono HB.out.size)
        clear b1 E x0
        go_wp2
        go_roundw
        case rel => exact ⟨lo, m, HM.out.1, by have := HM.out; omega, rfl, rfl, HA, HC2, HB1⟩
        case measure => simp [RowKit.intOf]; have := HM.out; omega
    · have g1 : ¬ (lo : Int) < hi := by omega
      have hle : lo = hi := by omega
      subst hle
      by_cases hn : lo < ks.length
      · have g2 : (lo : Int) < ks.length := by omega
        obtain ⟨b, off, rfl, hb4, hmem⟩ := HS.out.cells HB.out (show ks ≠ [] from fun e => by rw [e] at hn; simp at hn)
        have x0 := hmem lo hn
        by_cases hk : ks[lo].toList = x.toList
        · have e1 : (ks[lo].toList == x.toList) = true := by simpa using hk
          have HF : Hid (Found ks x.toList lo true) := ⟨hhn, HA.out, HC.out, ⟨fun _ => ⟨hn, hk⟩, fun _ => rfl⟩⟩
          clear hmem hk
          generalize ks[lo] = sm at *
          clear hn hlt hlh hhn
          go_wp2
          go_returns
          exact ⟨⟨lo, true, rfl, HF.out⟩, HB.out⟩
        · have e1 : (ks[lo].toList == x.toList) = false := by simpa using hk
          have HF : Hid (Found ks x.toList lo false) := ⟨hhn, HA.out, HC.out, ⟨(fun e => by cases e), fun ⟨_, h⟩ => absurd h hk⟩⟩
          clear hmem hk
          generalize ks[lo] = sm at *
          clear hn hlt hlh hhn
          go_wp2
          go_returns
          exact ⟨⟨lo, false, rfl, HF.out⟩, HB.out⟩
      · have g2 : ¬ (lo : Int) < ks.length := by omega
        have HF : Hid (Found ks x.toList lo false) := ⟨hhn, HA.out, HC.out, ⟨(fun e => by cases e), fun ⟨h, _⟩ => absurd h hn⟩⟩
        clear hn hlt hlh hhn
        go_wp2
        go_returns
        exact ⟨⟨lo, false, rfl, HF.out⟩, HB.out⟩
end Go.Proofs.YtegbjkjeoegfbaaDoor
