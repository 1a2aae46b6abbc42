/-
  What is proved: the functions Parse of package id and of package bookref1 answer alike at any text.
  Conditions: the package variables that they look at lie as the text lays them; a text is no longer than a row's reach.
-/
import Derived.Test.YtgiggobpbddlbaaDoorRParse
namespace Go.Proofs.YtgiggobpbddlbaaDoor
open Go.RowKit Go.Sort

theorem head_dec : ∀ (k u : Nat), u < k → 1 ≤ u → ¬ (Lib.decDigits u).head? = some 48
  | 0, _, h, _ => by omega
  | k + 1, u, h, h1 => by
    by_cases h10 : u < 10
    · rw [Lib.decDigits_one h10]
      intro e
      have e1 : UInt8.ofNat (48 + u) = 48 := Option.some.inj e
      have e2 := digit_nat u h10
      rw [e1] at e2
      simp at e2
      omega
    · have ih := head_dec k (u / 10) (by omega) (by omega)
      obtain ⟨b, r, hd⟩ := dec_ne (u / 10)
      rw [Lib.decDigits, dif_neg h10]
      rw [hd] at ih ⊢
      exact ih

theorem wholeV_itoa (n : Int) (m : Nat) (h1 : 1 ≤ n) (hl : (Lib.itoa n).length ≤ m) : wholeV (Lib.itoa n) m = n := by
  have hd := dec_back (n.toNat + 1) n.toNat (by omega)
  obtain ⟨b, r, hc⟩ := dec_ne n.toNat
  rw [itoa_nat n (by omega)] at hl ⊢
  unfold wholeV
  rw [if_neg (by
    rintro (e | e | ⟨e, _⟩)
    · rw [hc] at e; cases e
    · omega
    · exact head_dec (n.toNat + 1) n.toNat (by omega) (by omega) e), decV_some hd]
  omega

theorem byte_of (c : UInt8) (h1 : 48 ≤ c.toNat) (h2 : c.toNat ≤ 57) : UInt8.ofNat (48 + (c.toNat - 48)) = c := by
  rw [show 48 + (c.toNat - 48) = c.toNat from by omega]
  simp

theorem digits_back : ∀ (k : Nat) (x : List UInt8) (v : Nat), x.length = k + 1 → (x.head? = some 48 → x.length = 1) → Lib.decFrom 0 x = some v → Lib.decDigits v = x
  | 0, x, v, hl, _, hv => by
    match x, hl with
    | [c], _ =>
      simp only [Lib.decFrom] at hv
      cases hd : Lib.digitVal c with
      | none => rw [hd] at hv; cases hv
      | some d =>
        rw [hd] at hv
        obtain ⟨h1, h2, h3⟩ := Lib.digitVal_eq hd
        have hv' := Option.some.inj hv
        have : v = c.toNat - 48 := by omega
        subst this
        rw [Lib.decDigits_one (by omega), byte_of c h1 h2]
  | k + 1, x, v, hl, hh, hv => by
    rcases List.eq_nil_or_concat x with rfl | ⟨l, c, rfl⟩
    · simp at hl
    · rw [List.concat_eq_append] at hl hh hv ⊢
      have hll : l.length = k + 1 := by simpa using hl
      have hne : ∃ b r, l = b :: r := by
        cases l with
        | nil => simp at hll
        | cons b r => exact ⟨b, r, rfl⟩
      obtain ⟨b, r, hbr⟩ := hne
      have h48 : ¬ l.head? = some 48 := by
        intro e
        have := hh (by rw [hbr] at e ⊢; exact e)
        rw [hl] at this
        omega
      rw [decFrom_append] at hv
      cases hu : Lib.decFrom 0 l with
      | none => rw [hu] at hv; cases hv
      | some u =>
        rw [hu] at hv
        simp only [Option.bind_some, Lib.decFrom] at hv
        cases hd : Lib.digitVal c with
        | none => rw [hd] at hv; cases hv
        | some d =>
          rw [hd] at hv
          obtain ⟨h1, h2, h3⟩ := Lib.digitVal_eq hd
          have hv' := Option.some.inj hv
          have ih := digits_back k l u hll (fun e => absurd e h48) hu
          have hu1 : 1 ≤ u := by
            rcases Nat.eq_zero_or_pos u with e | e
            · subst e
              rw [Lib.decDigits_one (by omega)] at ih
              rw [← ih] at h48
              exact absurd rfl h48
            · exact e
          rw [Lib.decDigits, dif_neg (by omega), show v / 10 = u from by omega, ih, show v % 10 = c.toNat - 48 from by omega, byte_of c h1 h2]

theorem whole_back (x : List UInt8) (m : Nat) (n : Int) (hn : 1 ≤ n) (h : wholeV x m = n) : x = Lib.itoa n := by
  unfold wholeV at h
  split at h
  · omega
  · rename_i hc
    have hne : x ≠ [] := fun e => hc (Or.inl e)
    unfold decV at h
    split at h
    · rename_i v hv
      subst h
      rw [itoa_nat _ (by omega), Int.toNat_natCast]
      have hl : ∃ k, x.length = k + 1 := by
        cases x with
        | nil => exact absurd rfl hne
        | cons b r => exact ⟨r.length, rfl⟩
      obtain ⟨k, hk⟩ := hl
      refine (digits_back k x v hk (fun e => ?_) hv).symm
      have : ¬ 1 < x.length := fun e2 => hc (Or.inr (Or.inr ⟨e, e2⟩))
      omega
    · omega

theorem split_at (l : List UInt8) (h : (64 : UInt8) ∈ l) : ∃ x y, l = x ++ 64 :: y ∧ (64 : UInt8) ∉ x := by
  induction l with
  | nil => simp at h
  | cons b r ih =>
    by_cases hb : b = 64
    · exact ⟨[], r, by rw [hb]; rfl, by simp⟩
    · obtain ⟨x, y, e, hx⟩ := ih (by
        rcases List.mem_cons.1 h with e | e
        · exact absurd e.symm hb
        · exact e)
      refine ⟨b :: x, y, by rw [e]; rfl, ?_⟩
      intro hm
      rcases List.mem_cons.1 hm with e2 | e2
      · exact hb e2.symm
      · exact hx e2

theorem get_data (s : ByteArray) (k : Nat) (h : k < s.size) : s[k] = s.data.toList[k]'(by rw [len_data]; exact h) := rfl

/-- What Parse answers beside the id. -/
def errV (ok : Bool) : Value := if ok then .nilIface else .iface 39 (.int .i64 2)

/-- Both Parses, at one text, answer one id, and alike whether there is one. -/
def Alike (t : ByteArray) : Prop := ∃ (n a : Int) (ok : Bool),
  (∀ w, Calls Tryd.prog 12 #[.string t] w fun e w' => e = .returned (.tuple #[.agg #[.int .i64 n, .int .i64 a], .bool ok]) ∧ Below w.heap.size w w') ∧
  (∀ w, Env w → Calls Tryd.prog 13 #[.string t] w fun e w' => e = .returned (.tuple #[.agg #[.int .i64 n, .int .i64 a], errV ok]) ∧ Below w.heap.size w w')

theorem byte64 (b : UInt8) (h : (b.toNat : Int) = 64) : b = 64 := UInt8.toNat_inj.1 (show b.toNat = 64 by omega)

theorem ne_at (s : ByteArray) (x y : List UInt8) (h : s.data.toList = x ++ 64 :: y) (hx : (64 : UInt8) ∉ x) (k : Nat) (hk : k < x.length) (hks : k < s.size) : ((s[k].toNat : Int) == 64) = false := by
  rw [beq_eq_false_iff_ne]
  intro e
  have e1 : s[k] = x[k] := by
    rw [get_data s k hks]
    simp only [h]
    rw [List.getElem_append_left hk]
  have e2 : s[k] = 64 := byte64 _ e
  exact hx (by rw [← e2, e1]; exact List.getElem_mem hk)

theorem at_at (s : ByteArray) (x y : List UInt8) (h : s.data.toList = x ++ 64 :: y) (hks : x.length < s.size) : s[x.length].toNat = 64 := by
  rw [get_data s _ hks]
  simp only [h]
  rw [List.getElem_append_right (Nat.le_refl _)]
  simp

theorem size_at (s : ByteArray) (x y : List UInt8) (h : s.data.toList = x ++ 64 :: y) : x.length < s.size ∧ x.length ≤ s.size ∧ y.length ≤ s.size := by
  have := len_data s
  rw [h, List.length_append, List.length_cons] at this
  omega

theorem whole_front (s : ByteArray) (x y : List UInt8) (h : s.data.toList = x ++ 64 :: y) (w : World) :
    Calls Tryd.prog 22 #[.string (s.extract 0 x.length), .int .i64 7] w fun e w' => e = .returned (.int .i64 (wholeV x 7)) ∧ w' = w := by
  have hw := whole_any (s.extract 0 x.length) 7 w (by omega)
  rw [ex_front s x y h] at hw ⊢
  exact hw

theorem whole_rest (s : ByteArray) (x y : List UInt8) (h : s.data.toList = x ++ 64 :: y) (w : World) :
    Calls Tryd.prog 22 #[.string (s.extract (x.length + 1) s.size), .int .i64 2] w fun e w' => e = .returned (.int .i64 (wholeV y 2)) ∧ w' = w := by
  have hw := whole_any (s.extract (x.length + 1) s.size) 2 w (by omega)
  rw [ex_back s x y h] at hw ⊢
  exact hw

theorem num_list (l : List UInt8) (hl : l.length ≤ 281474976710656) (w : World) (hE : Errs w) : Calls Tryd.prog 24 #[.string ⟨l.toArray⟩] w fun e w' => e = .returned (.int .i64 (numV l)) ∧ Below w.heap.size w w' := by
  have hn := number_any ⟨l.toArray⟩ w (by simpa [ByteArray.size] using hl) hE
  exact hn

theorem name_ne (t : ByteArray) (n a : Int) (hroot : (t.toList == [114, 111, 111, 116]) = false) (hbad : Bad n a → ¬ t.data.toList = []) (hno : Real n a → ¬ t.data.toList = nameL n a) :
    ∃ nm : ByteArray, (nm.toList == t.toList) = false ∧ ∀ w, Tab w → Calls Tryd.prog 6 #[.agg #[.int .i64 n, .int .i64 a]] w fun e w' => e = .returned (.string nm) ∧ Below w.heap.size w w' := by
  by_cases hr : n = 0 ∧ a = 0
  · obtain ⟨rfl, rfl⟩ := hr
    refine ⟨⟨#[114, 111, 111, 116]⟩, ?_, fun w _ => name_root w⟩
    rw [beq_eq_false_iff_ne] at hroot ⊢
    intro e
    exact hroot (by rw [← e]; decide +kernel)
  · by_cases hR : Real n a
    · refine ⟨⟨(nameL n a).toArray⟩, ?_, fun w ht => name_real n a w hR ht⟩
      rw [beq_eq_false_iff_ne]
      intro e
      rw [toList_data, toList_data] at e
      exact hno hR (by rw [← e])
    · refine ⟨⟨#[]⟩, ?_, fun w _ => name_bad n a w ⟨hr, hR⟩⟩
      rw [beq_eq_false_iff_ne]
      intro e
      rw [toList_data, toList_data] at e
      exact hbad ⟨hr, hR⟩ (by rw [← e])

theorem alike (t : ByteArray) (hs : t.size ≤ 140737488351232) : Alike t := by
  have hm : t.size ≤ maxLen := by unfold maxLen; omega
  by_cases h1 : t.data.toList = [114, 111, 111, 116]
  · have e : t = ⟨#[114, 111, 111, 116]⟩ := ByteArray.ext (Array.ext' (by rw [h1]))
    subst e
    exact ⟨0, 0, true, rparse_root, fun w _ => parse_root w⟩
  · have hroot : (t.toList == [114, 111, 111, 116]) = false := by rw [beq_eq_false_iff_ne, toList_data]; exact h1
    by_cases h2 : ∃ n a, Real n a ∧ t.data.toList = nameL n a
    · obtain ⟨n, a, hR, e⟩ := h2
      have et : t = ⟨(nameL n a).toArray⟩ := ByteArray.ext (Array.ext' (by rw [e]))
      obtain ⟨r1, r2, r3, r4⟩ := hR
      have l1 := itoa_len n (by omega) (by omega)
      have hx := itoa_at n (by omega)
      have hz := size_at t (Lib.itoa n) (Lib.itoa a) e
      have w1 := wholeV_itoa n 7 r1 l1
      have l2 : (Lib.itoa a).length ≤ 2 := by
        rw [itoa_nat a (by omega), Lib.decDigits_length]
        exact nDigits_le 1 a.toNat (by omega)
      have w2 := wholeV_itoa a 2 r3 l2
      refine ⟨n, a, true, fun w => ?_, fun w E => ?_⟩
      · refine rparse_hit t (Lib.itoa n).length n a w hm hroot hz.1 (at_at t _ _ e hz.1) (fun k hk => ne_at t _ _ e hx k hk (by omega)) (fun w => ?_) (fun w => ?_) ⟨r1, r2, r3, r4⟩
        · have := whole_front t _ _ e w
          rw [w1] at this
          exact this
        · have := whole_rest t _ _ e w
          rw [w2] at this
          exact this
      · rw [et]
        exact parse_real n a w ⟨r1, r2, r3, r4⟩ E
    · refine ⟨0, 0, false, ?_⟩
      by_cases h3 : (64 : UInt8) ∈ t.data.toList
      · obtain ⟨x, y, e, hx⟩ := split_at _ h3
        have hz := size_at t x y e
        refine ⟨fun w => ?_, fun w E => ?_⟩
        · refine rparse_no t x.length (wholeV x 7) (wholeV y 2) w hm hroot hz.1 (at_at t _ _ e hz.1) (fun k hk => ne_at t _ _ e hx k hk (by omega)) (whole_front t x y e) (whole_rest t x y e) (fun hR => h2 ⟨_, _, hR, ?_⟩)
          have b1 := whole_back x 7 _ hR.1 rfl
          have b2 := whole_back y 2 _ hR.2.2.1 rfl
          unfold nameL
          rw [← b1, ← b2]
          exact e
        · obtain ⟨nm, hne, hnm⟩ := name_ne t (numV x) (numV y) hroot (fun _ e0 => by rw [e] at e0; simp at e0) (fun hR e0 => h2 ⟨_, _, hR, e0⟩)
          exact parse_no t ⟨x.toArray⟩ ⟨y.toArray⟩ nm true (numV x) (numV y) w hne hroot (fun w => cut_hit x y t w hx e hm) (fun w hE => num_list x (by omega) w hE) (fun w hE => num_list y (by omega) w hE) hnm E
      · refine ⟨fun w => ?_, fun w E => ?_⟩
        · refine rparse_miss t w hm hroot (fun k hk => ?_)
          rw [beq_eq_false_iff_ne]
          intro e
          have e2 : t[k] = 64 := byte64 _ e
          exact h3 (by rw [← e2, get_data t k hk]; exact List.getElem_mem _)
        · obtain ⟨nm, hne, hnm⟩ := name_ne t (numV t.data.toList) (numV []) hroot (fun hb e0 => by
            rw [e0] at hb
            exact hb.1 ⟨by decide, by decide⟩) (fun hR e0 => h2 ⟨_, _, hR, e0⟩)
          exact parse_no t t ⟨#[]⟩ nm false (numV t.data.toList) (numV []) w hne hroot (fun w => cut_miss t w h3) (fun w hE => number_any t w (by omega) hE) (fun w hE => num_list [] (by simp) w hE) hnm E
end Go.Proofs.YtgiggobpbddlbaaDoor
