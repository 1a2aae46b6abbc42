/-
  What is proved: the mathematics of reading a number's digits with a sign ahead: what is read, fits 64 bits and is written so again is what Atoi reads and Itoa writes. the mathematics of bookref3's Tree: what stands where, and what number digits are; how it ends. the mathematics of numbers as rows of words of 32 bits.
  Conditions: as each theorem says.
-/
import Derived.Test.YtnmdhbejjjmdeaaGreatDoorP12
import Derived.Test.YtnmdhbejjjmdeaaGreatDoorP21
import Derived.Test.YtnmdhbejjjmdeaaGreatDoorJXTr
import Derived.Test.YtnmdhbejjjmdeaaGreatDoorProg
namespace Go.Proofs.YtnmdhbejjjmdeaaGreatDoor
open Go.RowKit Go.Sort

/-- The number of digits that stand behind those of a number; none where one is no digit. -/
def dval : Nat → List UInt8 → Option Nat
  | a, [] => some a
  | a, c :: r => if 48 ≤ c.toNat ∧ c.toNat ≤ 57 then dval (a * 10 + (c.toNat - 48)) r else none
/-- Digits with a sign ahead. -/
def sstr (l : List UInt8) : Option (Bool × Nat) :=
  if l.head? = some 45 then (if l.tail = [] then none else (dval 0 l.tail).map fun u => (true, u)) else (if l = [] then none else (dval 0 l).map fun u => (false, u))
/-- Does a number fit 64 bits? -/
def i64B (neg : Bool) (u : Nat) : Bool := decide (u < 9223372036854775808) || (decide (u = 9223372036854775808) && neg)
/-- How it is written. -/
def sgnT (neg : Bool) (u : Nat) : List UInt8 := if u = 0 then [48] else (if neg = true then [45] else []) ++ Lib.decDigits u
/-- The number that a text is. -/
def num64 (l : List UInt8) : Option Int :=
  match sstr l with
  | none => none
  | some (neg, u) => if i64B neg u = true ∧ sgnT neg u = l then some (if neg = true then -(u : Int) else u) else none
theorem dval_step (a d : Nat) (r : List UInt8) (hd : d < 10) : dval a (UInt8.ofNat (48 + d) :: r) = dval (a * 10 + d) r := by
  have e : (UInt8.ofNat (48 + d)).toNat = 48 + d := by
    rw [UInt8.toNat_ofNat']
    omega
  rw [dval]
  simp only [e]
  rw [if_pos (by omega), show 48 + d - 48 = d by omega]
theorem dval_dec (u : Nat) (r : List UInt8) : dval 0 (Lib.decDigits u ++ r) = dval u r := by
  induction u using Nat.strongRecOn generalizing r with
  | _ u ih =>
    rw [Lib.decDigits]
    by_cases h : u < 10
    · rw [dif_pos h, List.singleton_append, dval_step 0 u r h, Nat.zero_mul, Nat.zero_add]
    · rw [dif_neg h, List.append_assoc, ih (u / 10) (by omega), List.singleton_append, dval_step _ _ _ (by omega)]
      rw [show u / 10 * 10 + u % 10 = u by omega]
theorem dval_all (u : Nat) : dval 0 (Lib.decDigits u) = some u := by
  have h := dval_dec u []
  rw [List.append_nil] at h
  rw [h]
  rfl
theorem dval_lt : ∀ (l : List UInt8) (a u k : Nat), dval a l = some u → a < 10 ^ k → u < 10 ^ (k + l.length)
  | [], a, u, k, h, ha => by
    obtain rfl : a = u := by simpa [dval] using h
    simpa using ha
  | c :: r, a, u, k, h, ha => by
    rw [dval] at h
    by_cases hc : 48 ≤ c.toNat ∧ c.toNat ≤ 57
    · rw [if_pos hc] at h
      have := dval_lt r _ u (k + 1) h (by rw [Nat.pow_succ]; omega)
      rw [List.length_cons, show k + (r.length + 1) = k + 1 + r.length by omega]
      exact this
    · rw [if_neg hc] at h
      cases h
theorem dec_head (u : Nat) : (Lib.decDigits u).head? ≠ some 45 := by
  intro h
  cases hd : Lib.decDigits u with
  | nil => rw [hd] at h; cases h
  | cons c t =>
    rw [hd] at h
    obtain rfl : c = 45 := by simpa using h
    exact dec_sign u t hd
theorem sstr_neg (r : List UInt8) (h0 : r ≠ []) : sstr (45 :: r) = (dval 0 r).map fun u => (true, u) := by
  unfold sstr
  rw [if_pos List.head?_cons, if_neg (show (45 :: r).tail ≠ [] from h0)]
  rfl
theorem sstr_itoa (v : Int) : sstr (Lib.itoa v) = some (decide (v < 0), v.natAbs) := by
  unfold Lib.itoa
  by_cases hv : v < 0
  · rw [if_pos hv]
    rw [sstr_neg _ (decR_ne _), dval_all, decide_eq_true hv]
    rfl
  · rw [if_neg hv]
    unfold sstr
    rw [if_neg (dec_head _), if_neg (decR_ne _), dval_all, decide_eq_false hv]
    simp only [Option.map_some]
    rw [show v.toNat = v.natAbs by omega]
theorem num64_some {l : List UInt8} {v : Int} (h : num64 l = some v) : Lib.atoiAll l = .ok v ∧ Lib.itoa v = l := by
  unfold num64 at h
  cases hs : sstr l with
  | none => rw [hs] at h; cases h
  | some x =>
    obtain ⟨neg, u⟩ := x
    rw [hs] at h
    simp only at h
    by_cases hc : i64B neg u = true ∧ sgnT neg u = l
    · rw [if_pos hc] at h
      obtain ⟨h1, h2⟩ := hc
      have hv : (if neg = true then -(u : Int) else u) = v := by simpa using h
      have hr : -9223372036854775808 ≤ v ∧ v ≤ 9223372036854775807 := by
        unfold i64B at h1
        rw [← hv]
        cases neg with
        | true =>
          simp only [if_true, Bool.and_true, Bool.or_eq_true, decide_eq_true_eq] at h1 ⊢
          omega
        | false =>
          simp only [Bool.false_eq_true, if_false, Bool.and_false, Bool.or_false, decide_eq_true_eq] at h1 ⊢
          omega
      have hi : Lib.itoa v = l := by
        rw [← h2, ← hv]
        unfold sgnT Lib.itoa
        by_cases h0 : u = 0
        · subst h0
          cases neg <;> (simp; exact Lib.decDigits_one (by omega))
        · rw [if_neg h0]
          cases neg with
          | true =>
            simp only [if_true]
            rw [if_pos (by omega)]
            simp
          | false =>
            simp only [Bool.false_eq_true, if_false]
            rw [if_neg (by omega)]
            simp
      refine ⟨?_, hi⟩
      rw [← hi]
      exact atoi_back v hr.1 hr.2
    · rw [if_neg hc] at h
      cases h
theorem num64_of {l : List UInt8} {v : Int} (h : Lib.atoiAll l = .ok v) (hi : Lib.itoa v = l) : num64 l = some v := by
  have hr := atoi_rng h
  have hs := sstr_itoa v
  rw [hi] at hs
  unfold num64
  rw [hs]
  simp only
  rw [if_pos]
  · congr 1
    by_cases hv : v < 0
    · rw [decide_eq_true hv, if_pos rfl]; omega
    · rw [decide_eq_false hv, if_neg (by decide)]; omega
  · constructor
    · unfold i64B
      by_cases hv : v < 0
      · rw [decide_eq_true hv]; simp; omega
      · rw [decide_eq_false hv]; simp; omega
    · rw [← hi]
      unfold sgnT Lib.itoa
      by_cases h0 : v = 0
      · subst h0
        exact (Lib.decDigits_one (i := 0) (by omega)).symm
      · rw [if_neg (by omega)]
        by_cases hv : v < 0
        · rw [if_pos hv, decide_eq_true hv]; rfl
        · rw [if_neg hv, decide_eq_false hv, show v.natAbs = v.toNat by omega]; rfl
/-- What json reads of a text's digits. -/
theorem num64_atoi (l : List UInt8) : (match Lib.atoiAll l with | .ok v => if Lib.itoa v = l then some v else none | _ => none) = num64 l := by
  cases hn : num64 l with
  | some v =>
    obtain ⟨h1, h2⟩ := num64_some hn
    rw [h1]
    simp only
    rw [if_pos h2]
  | none =>
    cases ha : Lib.atoiAll l with
    | ok v =>
      simp only
      rw [if_neg]
      intro h
      rw [num64_of ha h] at hn
      cases hn
    | _ => rfl
end Go.Proofs.YtnmdhbejjjmdeaaGreatDoor

namespace Go.Proofs.YtnmdhbejjjmdeaaGreatDoor
open Go.RowKit Go.Sort

theorem pre_head {s : ByteArray} {k : Nat} {q : ByteArray} {c : UInt8} {r : List UInt8} (h : preB s k q = true) (hq : q.data.toList = c :: r) : ∃ t, lft s k = c :: t := by
  have h1 := pre_split h
  rw [hq] at h1
  exact ⟨r ++ lft s (k + q.size), h1⟩
theorem pre_other {s : ByteArray} {k : Nat} {c d : UInt8} {t : List UInt8} (h : lft s k = c :: t) (hd : d ≠ c) : preB s k ⟨#[d]⟩ = false := by
  cases hp : preB s k ⟨#[d]⟩ with
  | false => rfl
  | true =>
    have h1 := lft_step hp
    rw [h] at h1
    exact absurd (List.cons.inj h1).1.symm hd
theorem word_other {s : ByteArray} {k : Nat} {c d : UInt8} {t r : List UInt8} {q : ByteArray} (h : lft s k = c :: t) (hq : q.data.toList = d :: r) (hd : d ≠ c) : preB s k q = false := by
  cases hp : preB s k q with
  | false => rfl
  | true =>
    obtain ⟨t2, h2⟩ := pre_head hp hq
    rw [h] at h2
    exact absurd (List.cons.inj h2).1.symm hd
theorem dgs_none {l t : List UInt8} {c : UInt8} (h : l = c :: t) (hc : digS.data.toList.contains c = false) : dgs l = [] := by
  rw [h]
  unfold dgs
  rw [List.takeWhile_cons, hc]
  rfl
theorem dig_num : ∀ n : Fin 256, digS.data.toList.contains (UInt8.ofNat n.val) = decide (n.val = 45 ∨ (48 ≤ n.val ∧ n.val ≤ 57)) := by decide +kernel
theorem dig_iff (c : UInt8) : digS.data.toList.contains c = true ↔ c.toNat = 45 ∨ (48 ≤ c.toNat ∧ c.toNat ≤ 57) := by
  have h := dig_num ⟨c.toNat, c.toNat_lt⟩
  simp only [UInt8.ofNat_toNat] at h
  rw [h]
  simp
theorem take_len {α : Type} (f : α → Bool) : ∀ (l : List α) (h : (l.takeWhile f).length < l.length), f (l[(l.takeWhile f).length]) = false
  | [], h => by simp at h
  | a :: r, h => by
    cases hf : f a with
    | false =>
      have e : (a :: r).takeWhile f = [] := by rw [List.takeWhile_cons, hf]; rfl
      simp only [e, List.length_nil, List.getElem_cons_zero]
      exact hf
    | true =>
      have e : (a :: r).takeWhile f = a :: r.takeWhile f := by rw [List.takeWhile_cons, hf]; rfl
      have h2 : (r.takeWhile f).length < r.length := by rw [e] at h; simpa using h
      have := take_len f r h2
      simp only [e, List.length_cons, List.getElem_cons_succ]
      exact this
theorem take_at {α : Type} (f : α → Bool) : ∀ (l : List α) (i : Nat) (_ : i < (l.takeWhile f).length), ∃ h2 : i < l.length, f (l[i]'h2) = true
  | [], i, h => by simp at h
  | a :: r, i, h => by
    cases hf : f a with
    | false =>
      have e : (a :: r).takeWhile f = [] := by rw [List.takeWhile_cons, hf]; rfl
      rw [e] at h
      simp at h
    | true =>
      have e : (a :: r).takeWhile f = a :: r.takeWhile f := by rw [List.takeWhile_cons, hf]; rfl
      cases i with
      | zero => exact ⟨by simp, hf⟩
      | succ i =>
        obtain ⟨h2, h3⟩ := take_at f r i (by rw [e] at h; simpa using h)
        exact ⟨by simp; omega, h3⟩
theorem lft_at (s : ByteArray) (k i : Nat) (_h : k + i < s.size) : (lft s k)[i]'(by unfold lft; rw [List.length_drop, Array.length_toList]; show i < s.size - k; omega) = s[k + i] := by
  unfold lft
  rw [List.getElem_drop]
  rfl
theorem lft_length (s : ByteArray) (k : Nat) : (lft s k).length = s.size - k := by
  unfold lft
  rw [List.length_drop, Array.length_toList]
  rfl
theorem dgs_at {s : ByteArray} {k i : Nat} (h : i < (dgs (lft s k)).length) : ∃ h2 : k + i < s.size, (s[k + i].toNat = 45 ∨ (48 ≤ s[k + i].toNat ∧ s[k + i].toNat ≤ 57)) := by
  obtain ⟨h2, h3⟩ := take_at _ (lft s k) i h
  have hl := lft_length s k
  have h4 : k + i < s.size := by omega
  refine ⟨h4, ?_⟩
  rw [← dig_iff, ← lft_at s k i h4]
  exact h3
theorem dgs_stop {s : ByteArray} {k : Nat} (h : k + (dgs (lft s k)).length < s.size) : ¬ (s[k + (dgs (lft s k)).length].toNat = 45 ∨ (48 ≤ s[k + (dgs (lft s k)).length].toNat ∧ s[k + (dgs (lft s k)).length].toNat ≤ 57)) := by
  have hl := lft_length s k
  have h3 := take_len (digS.data.toList.contains ·) (lft s k) (by show (dgs (lft s k)).length < _; omega)
  rw [← dig_iff, ← lft_at s k _ h]
  intro e
  have h4 : digS.data.toList.contains ((lft s k)[(dgs (lft s k)).length]'(by omega)) = false := h3
  rw [h4] at e
  cases e
theorem dgs_ex {s : ByteArray} {k i : Nat} (h : i = k + (dgs (lft s k)).length) : (s.extract k i).data.toList = dgs (lft s k) ∧ ∀ c ∈ (s.extract k i).data.toList, c.toNat = 45 ∨ (48 ≤ c.toNat ∧ c.toNat ≤ 57) := by
  have e : (s.extract k i).data.toList = dgs (lft s k) := by
    rw [ex_take, h, show k + (dgs (lft s k)).length - k = (dgs (lft s k)).length by omega]
    have h2 := List.takeWhile_prefix (p := (digS.data.toList.contains ·)) (l := lft s k)
    exact (List.prefix_iff_eq_take.1 h2).symm
  refine ⟨e, fun c hc => ?_⟩
  rw [e] at hc
  obtain ⟨j, hj, rfl⟩ := List.getElem_of_mem hc
  obtain ⟨h2, h3⟩ := take_at _ (lft s k) j hj
  rw [← dig_iff]
  have e2 : (dgs (lft s k))[j] = (lft s k)[j] := by
    have h4 := List.takeWhile_prefix (p := (digS.data.toList.contains ·)) (l := lft s k)
    exact h4.getElem hj
  rw [e2]
  exact h3
/-- The sign that is kept. -/
theorem num64_eq {l : List UInt8} {ng : Bool} {u : Nat} (h : sstr l = some (ng, u)) : num64 l = if i64B (ng && decide (0 < u)) u = true ∧ sgnT (ng && decide (0 < u)) u = l then some (if (ng && decide (0 < u)) = true then -(u : Int) else u) else none := by
  unfold num64
  rw [h]
  simp only
  by_cases h0 : u = 0
  · subst h0
    cases ng <;> simp [i64B, sgnT]
  · have e : (ng && decide (0 < u)) = ng := by rw [decide_eq_true (by omega)]; simp
    rw [e]
section
variable {n k m : Nat} {s : ByteArray}
/-- No digits, or no number. -/
theorem rd_no (hm : m + 1 ≤ 400) (h1 : preB s k ⟨#[123]⟩ = false) (h2 : preB s k ⟨#[91]⟩ = false) (h3 : preB s k ⟨#[34]⟩ = false) (w1 : preB s k wNil = false) (w2 : preB s k wNo = false) (w3 : preB s k wYes = false) (hn : num64 (dgs (lft s k)) = none) : rdT (n + 1) s k m = .error (k, 2) := by
  by_cases h4 : dgs (lft s k) = []
  · rw [rd_word hm h1 h2 h3 h4, if_neg (by rw [w1]; decide), if_neg (by rw [w2]; decide), if_neg (by rw [w3]; decide)]
  · refine rd_num_bad hm h1 h2 h3 h4 (fun v hv e => ?_)
    have := num64_of (l := dgs (lft s k)) (v := v) (by rw [← e]; exact atoi_back v hv.1 hv.2) e
    rw [hn] at this
    cases this
theorem rd_yes (hm : m + 1 ≤ 400) (h1 : preB s k ⟨#[123]⟩ = false) (h2 : preB s k ⟨#[91]⟩ = false) (h3 : preB s k ⟨#[34]⟩ = false) {v : Int} (hn : num64 (dgs (lft s k)) = some v) : rdT (n + 1) s k m = .ok (lfT ⟨2, v, ⟨#[]⟩, 0, 0⟩, k + (dgs (lft s k)).length) ∧ 0 < (dgs (lft s k)).length := by
  obtain ⟨ha, hi⟩ := num64_some hn
  have h4 : dgs (lft s k) ≠ [] := by
    intro e
    rw [e] at ha
    cases ha
  exact ⟨rd_num hm h1 h2 h3 h4 (atoi_rng ha) hi, List.length_pos_iff.2 h4⟩
/-- A word. -/
theorem rd_w (hm : m + 1 ≤ 400) {c : UInt8} {t : List UInt8} (h : lft s k = c :: t) (c1 : c ≠ 123) (c2 : c ≠ 91) (c3 : c ≠ 34) (hc : digS.data.toList.contains c = false) : rdT (n + 1) s k m = (if preB s k wNil = true then .ok (lfT ⟨0, 0, ⟨#[]⟩, 0, 0⟩, k + 4) else if preB s k wNo = true then .ok (lfT ⟨1, 0, ⟨#[]⟩, 0, 0⟩, k + 5) else if preB s k wYes = true then .ok (lfT ⟨1, 1, ⟨#[]⟩, 0, 0⟩, k + 4) else .error (k, 2)) :=
  rd_word hm (pre_other h c1.symm) (pre_other h c2.symm) (pre_other h c3.symm) (dgs_none h hc)
theorem rd_nil (hm : m + 1 ≤ 400) (h : preB s k wNil = true) : rdT (n + 1) s k m = .ok (lfT ⟨0, 0, ⟨#[]⟩, 0, 0⟩, k + 4) := by
  obtain ⟨t, ht⟩ := pre_head h rfl
  rw [rd_w hm ht (by decide) (by decide) (by decide) (by decide), if_pos h]
theorem rd_true (hm : m + 1 ≤ 400) (h : preB s k wYes = true) : rdT (n + 1) s k m = .ok (lfT ⟨1, 1, ⟨#[]⟩, 0, 0⟩, k + 4) := by
  obtain ⟨t, ht⟩ := pre_head h rfl
  rw [rd_w hm ht (by decide) (by decide) (by decide) (by decide), if_neg (by rw [word_other ht (q := wNil) rfl (by decide)]; decide), if_neg (by rw [word_other ht (q := wNo) rfl (by decide)]; decide), if_pos h]
theorem rd_false (hm : m + 1 ≤ 400) (h : preB s k wNo = true) : rdT (n + 1) s k m = .ok (lfT ⟨1, 0, ⟨#[]⟩, 0, 0⟩, k + 5) := by
  obtain ⟨t, ht⟩ := pre_head h rfl
  rw [rd_w hm ht (by decide) (by decide) (by decide) (by decide), if_neg (by rw [word_other ht (q := wNil) rfl (by decide)]; decide), if_pos h]
end
/-- While bookref3's Tree reads: the reader, the result's box. -/
structure Tn (w : World) (p : Nat) (s : ByteArray) (k m wr : Nat) (bd : Int) (W : World) : Prop where
  pb : PB W p s k m wr bd
  box : W.heap[w.heap.size]? = some zO
  rk : Rk p w W
theorem Tn.move {w : World} {p : Nat} {s : ByteArray} {k m wr k' m' wr' : Nat} {bd bd' : Int} {W W' : World} (hp : p < w.heap.size) (h : Tn w p s k m wr bd W) (hr : Rk p W W') (hb : PB W' p s k' m' wr' bd') : Tn w p s k' m' wr' bd' W' :=
  ⟨hb, (hr.block _ (lt_of_heap h.box) (by omega)).trans h.box, h.rk.trans hr⟩
theorem Tn.below {w : World} {p : Nat} {s : ByteArray} {k m wr : Nat} {bd : Int} {W W' : World} (hp : p < w.heap.size) (h : Tn w p s k m wr bd W) (hb : Below W.heap.size W W') : Tn w p s k m wr bd W' := h.move hp (Rk.of hb) (h.pb.below hb)
theorem tn_start {w : World} {p k m : Nat} {s : ByteArray} (h : PB w p s k m 0 0) : Tn w p s k (m + 1) 0 0 ((w.alloc zO).setCell ⟨p, 2, none⟩ (.int .i64 ((m : Int) + 1))) := by
  have hp := h.lt
  have b1 : Below w.heap.size w (w.alloc zO) := (Below.refl _ _).alloc (Nat.le_refl _) _
  have h1 := h.below b1
  refine ⟨?_, ?_, ?_⟩
  · unfold PB
    rw [set_atR h1 2 _]
    rfl
  · rw [Below.heap_setCell _ _ _ _ (by simp; omega)]
    exact one_new w zO
  · exact (Rk.of b1).trans ⟨rfl, rfl, rfl, by simp, fun b _ hne => Below.heap_setCell _ _ _ _ (by simpa using hne)⟩
/-- A tree's fields, stored into the result's box. -/
def sv7 (w : World) (br : Nat) (u : TV) : World := ((((((w.setCell ⟨br, 0, none⟩ (.int .i64 u.1.k)).setCell ⟨br, 1, none⟩ (.int .i64 u.1.n)).setCell ⟨br, 2, none⟩ (.string u.1.t)).setCell ⟨br, 3, none⟩ (.int .i64 u.1.o)).setCell ⟨br, 4, none⟩ (.int .i64 u.1.a)).setCell ⟨br, 5, none⟩ u.2.1).setCell ⟨br, 6, none⟩ u.2.2
/-- What is left when Tree returns. -/
def EndT (p : Nat) (w W : World) (s : ByteArray) (k m wr : Nat) (bd : Int) (u : TV) (W7 : World) : Prop :=
  W7.heap[w.heap.size]? = some (.cells #[.int .i64 u.1.k, .int .i64 u.1.n, .string u.1.t, .int .i64 u.1.o, .int .i64 u.1.a, u.2.1, u.2.2] 29) ∧ PB W7 p s k m wr bd ∧ Rk p w W7 ∧ (∀ (P : Nat → Prop) (T : JT) (v : Value), IsTP P W v T → (∀ b, P b → b ≠ w.heap.size) → IsTP P W7 v T)
theorem tree_end {w W : World} {p : Nat} {s : ByteArray} {k m wr : Nat} {bd : Int} (hp : p < w.heap.size) (h : Tn w p s k m wr bd W) (u : TV) : EndT p w W s k m wr bd u (sv7 W w.heap.size u) := by
  have hz := h.box
  unfold zO at hz
  have hpl := h.pb.lt
  have hbl : Below w.heap.size W (sv7 W w.heap.size u) := set7_below (Below.refl _ _) (Nat.le_refl _) (.int .i64 u.1.k) (.int .i64 u.1.n) (.string u.1.t) (.int .i64 u.1.o) (.int .i64 u.1.a) u.2.1 u.2.2
  have hot : ∀ b, b ≠ w.heap.size → b < W.heap.size → (sv7 W w.heap.size u).heap[b]? = W.heap[b]? := fun b hb hlt => by
    have h9 : W.heap[b]? = some W.heap[b] := Array.getElem?_eq_getElem hlt
    rw [h9]
    exact set7_other h9 hb (.int .i64 u.1.k) (.int .i64 u.1.n) (.string u.1.t) (.int .i64 u.1.o) (.int .i64 u.1.a) u.2.1 u.2.2
  refine ⟨set7 hz (.int .i64 u.1.k) (.int .i64 u.1.n) (.string u.1.t) (.int .i64 u.1.o) (.int .i64 u.1.a) u.2.1 u.2.2, (hot p (by omega) hpl).trans h.pb, ?_, fun P T v hT hP => ?_⟩
  · exact ⟨hbl.os.trans h.rk.os, hbl.tape.trans h.rk.tape, hbl.output.trans h.rk.output, Nat.le_trans h.rk.size hbl.size, fun b h1 h2 => (hot b (by omega) (by have := h.rk.size; omega)).trans (h.rk.block b h1 h2)⟩
  · exact hT.move hbl.size (fun b hb hlt => hot b (hP b hb) hlt) (fun _ h => h)
/-- A leaf was read. -/
theorem leaf_end {n p : Nat} {w W W7 : World} {s : ByteArray} {k m k' : Nat} {x : V} (hE : EndT p w W s k' (m + 1) 0 0 (x, .slice none 0 0, .slice none 0 0) W7) (hr : rdT (n + 1) s k m = .ok (lfT x, k')) (hm : m + 1 ≤ 400) (hk : k < k') (hle : k' ≤ s.size) : TreeHP (n + 1) p s k m w (.returned (tval (x, .slice none 0 0, .slice none 0 0))) W7 := by
  have hs : (lfT x).size = 1 := by unfold lfT; rw [size_node]; rfl
  exact Or.inl ⟨_, lfT x, k', rfl, leaf_is _ _ _, hr, by omega, hk, hle, by rw [hs]; exact hE.2.1, hE.2.2.1⟩
theorem bad_end {n p : Nat} {w W W7 : World} {s : ByteArray} {k m k2 m2 kf : Nat} {fe : Int} {u : TV} (hE : EndT p w W s k2 m2 kf fe u W7) (hu : slU u) (hr : rdT (n + 1) s k m = .error (kf, fe)) (hf : fe ≠ 0) : TreeHP (n + 1) p s k m w (.returned (tval u)) W7 :=
  Or.inr ⟨u, k2, m2, kf, fe, rfl, hu, hr, hf, hE.2.1, hE.2.2.1⟩
theorem zU_sl : slU zU := ⟨⟨_, _, _, rfl⟩, _, _, _, rfl⟩
theorem slU_nil (x : V) : slU (x, .slice none 0 0, .slice none 0 0) := ⟨⟨_, _, _, rfl⟩, _, _, _, rfl⟩
/-- What kids read, as a tree. -/
theorem kids_tree {n p : Nat} {mp : Bool} {w W W7 : World} {s : ByteArray} {k m kk mm : Nat} {x : Sg} {u : TV} (hE : EndT p w W s kk mm 0 0 u W7) (hI : IsTP (fun b => w.heap.size + 1 ≤ b) W (tval u) (.node (cx mp) x.1 x.2)) (hr : rdT (n + 1) s k m = .ok (.node (cx mp) x.1 x.2, kk)) (hmm : mm = m + 1 + sizes x.2) (hm4 : mm ≤ 400) (hk : k < kk) (hle : kk ≤ s.size) : TreeHP (n + 1) p s k m w (.returned (tval u)) W7 := by
  have hs := size_node (cx mp) x.1 x.2
  refine Or.inl ⟨u, _, kk, rfl, (hE.2.2.2 _ _ _ hI (fun b hb => by omega)).move (Nat.le_refl _) (fun _ _ _ => rfl) (fun b hb => by omega), hr, by omega, hk, hle, ?_, hE.2.2.1⟩
  have e : m + (JT.node (cx mp) x.1 x.2).size = mm := by omega
  rw [e]
  exact hE.2.1
end Go.Proofs.YtnmdhbejjjmdeaaGreatDoor

namespace Go.Proofs.YtnmdhbejjjmdeaaGreatDoor

/-- The number of words, the least first. -/
def nwv : List Nat → Nat
  | [] => 0
  | a :: r => a + 4294967296 * nwv r

/-- The last word is not 0. -/
def Norm (ws : List Nat) : Prop := ∀ x ∈ ws.getLast?, x ≠ 0

theorem nwv_set : ∀ (l : List Nat) (k x : Nat) (h : k < l.length), nwv (l.set k x) + l[k] * 4294967296 ^ k = nwv l + x * 4294967296 ^ k
  | [], k, x, h => by simp at h
  | a :: r, 0, x, h => by simp [nwv]; omega
  | a :: r, k + 1, x, h => by
    have hk : k < r.length := by simpa using h
    have := nwv_set r k x hk
    simp only [List.set_cons_succ, nwv, List.getElem_cons_succ, Nat.pow_succ]
    generalize 4294967296 ^ k = P at *
    generalize r[k] = y at *
    grind

theorem nwv_take : ∀ (l : List Nat) (k : Nat) (h : k < l.length), nwv (l.take (k + 1)) = nwv (l.take k) + l[k] * 4294967296 ^ k
  | [], k, h => by simp at h
  | a :: r, 0, h => by simp [nwv]
  | a :: r, k + 1, h => by
    have hk : k < r.length := by simpa using h
    have := nwv_take r k hk
    simp only [List.take_succ_cons, nwv, List.getElem_cons_succ, Nat.pow_succ]
    rw [this]
    generalize 4294967296 ^ k = P at *
    generalize r[k] = y at *
    grind

theorem nwv_zeros (n : Nat) : nwv (List.replicate n 0) = 0 := by
  induction n with
  | zero => rfl
  | succ n ih => simp [List.replicate_succ, nwv, ih]

theorem nwv_lt : ∀ (l : List Nat), (∀ y ∈ l, y < 4294967296) → nwv l < 4294967296 ^ l.length
  | [], _ => by simp [nwv]
  | a :: r, h => by
    have h1 := nwv_lt r (fun y hy => h y (List.mem_cons_of_mem _ hy))
    have h2 := h a (List.mem_cons_self ..)
    rw [nwv, List.length_cons, Nat.pow_succ]
    omega

/-- A number without a nought at the end has as many words as it needs. -/
theorem norm_le {l : List Nat} (hn : Norm l) (h : l ≠ []) : 4294967296 ^ (l.length - 1) ≤ nwv l := by
  have hl : 0 < l.length := List.length_pos_iff.2 h
  have e := nwv_take l (l.length - 1) (by omega)
  rw [show l.length - 1 + 1 = l.length from by omega, List.take_of_length_le (Nat.le_refl _)] at e
  have hx : l[l.length - 1] ≠ 0 := hn _ (by rw [List.getLast?_eq_getElem?, List.getElem?_eq_getElem (by omega)]; rfl)
  have : 1 * 4294967296 ^ (l.length - 1) ≤ l[l.length - 1] * 4294967296 ^ (l.length - 1) := Nat.mul_le_mul_right _ (by omega)
  omega

theorem norm_lenN {l : List Nat} {n : Nat} (hn : Norm l) (hv : nwv l < 4294967296 ^ n) : l.length ≤ n := by
  by_cases h : l = []
  · subst h; simp
  · have h1 := norm_le hn h
    rcases Nat.lt_or_ge n l.length with h2 | h2
    · have : (4294967296 : Nat) ^ n ≤ 4294967296 ^ (l.length - 1) := Nat.pow_le_pow_right (by omega) (by omega)
      omega
    · exact h2

theorem mul_step (R R' rij Pi Pj c c' ai bj W Tb Tb2 : Nat) (hs : R' + rij * (Pi * Pj) = R + (c' % 4294967296) * (Pi * Pj)) (hc : c' = c + ai * bj + rij)
    (hT : Tb2 = Tb + bj * Pj) (h : R + c * (Pi * Pj) = W + ai * Tb * Pi) : R' + (c' / 4294967296) * (Pi * (Pj * 4294967296)) = W + ai * Tb2 * Pi := by
  have hd : c' = c' % 4294967296 + 4294967296 * (c' / 4294967296) := by omega
  generalize c' % 4294967296 = x at *
  generalize c' / 4294967296 = y at *
  subst hT
  grind

theorem add_step (R R' ri P c c' ai bi A B A2 B2 : Nat) (hr : ri = 0) (hs : R' + ri * P = R + (c' % 4294967296) * P) (hc : c' = c + ai + bi)
    (hA : A2 = A + ai * P) (hB : B2 = B + bi * P) (h : R + c * P = A + B) : R' + (c' / 4294967296) * (P * 4294967296) = A2 + B2 := by
  have hd : c' = c' % 4294967296 + 4294967296 * (c' / 4294967296) := by omega
  generalize c' % 4294967296 = x at *
  generalize c' / 4294967296 = y at *
  subst hA hB hr
  grind
end Go.Proofs.YtnmdhbejjjmdeaaGreatDoor
