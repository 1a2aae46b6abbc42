/-
  What is proved: the law WordsThere: called with any text and numbers it returns true, and nothing that was there has turned.
  Conditions: the text has at most 1048576 bytes; two tables of package utf8 lie as the text lays them.
-/
import Derived.Test.YtgbhhnfnfldbmaaDoorWBrk
namespace Go.Proofs.YtgbhhnfnfldbmaaDoor
open Go.RowKit

theorem cvr_ok {s : ByteArray} {a f t : Int} (h : (cvr s a f t).2 = 0) : ∃ x : Nat, cvr s a f t = ((x : Int), 0) ∧ Lib.validD s.data.toList = true ∧ (1 ≤ f ∧ f ≤ 3) ∧ (1 ≤ t ∧ t ≤ 3) ∧ cnv a f t (rns s 0) 0 0 = some x := by
  unfold cvr at h ⊢
  by_cases hv : Lib.validD s.data.toList = true
  · rw [if_pos hv] at h ⊢
    by_cases hr : (1 ≤ f ∧ f ≤ 3) ∧ (1 ≤ t ∧ t ≤ 3)
    · rw [if_pos hr] at h ⊢
      cases hc : cnv a f t (rns s 0) 0 0 with
      | some y => exact ⟨y, rfl, hv, hr.1, hr.2, rfl⟩
      | none => rw [hc] at h; cases h
    · rw [if_neg hr] at h; cases h
  · rw [if_neg hv] at h; cases h

theorem cvr_of {s : ByteArray} {a f t : Int} {x : Nat} (hv : Lib.validD s.data.toList = true) (hf : 1 ≤ f ∧ f ≤ 3) (ht : 1 ≤ t ∧ t ≤ 3) (hc : cnv a f t (rns s 0) 0 0 = some x) : cvr s a f t = ((x : Int), 0) := by
  unfold cvr
  rw [if_pos hv, if_pos ⟨hf, ht⟩, hc]

theorem cvr_bad {s : ByteArray} {a f t : Int} (hv : Lib.validD s.data.toList = false) : cvr s a f t = (0, 2) := by
  unfold cvr
  rw [if_neg (by rw [hv]; decide)]

theorem cvr_back {s : ByteArray} {a f t x : Int} (h : cvr s a f t = (x, 0)) : cvr s x t f = (a, 0) := by
  obtain ⟨y, h1, hv, hf, ht, hc⟩ := cvr_ok (s := s) (a := a) (f := f) (t := t) (by rw [h])
  rw [h] at h1
  obtain rfl := (Prod.mk.inj h1).1
  obtain ⟨h2, h3⟩ := cnv_back hc
  rw [cvr_of hv ht hf h2]
  exact congrArg (·, (0 : Int)) (Int.toNat_of_nonneg (by omega))

theorem cvr_less {s : ByteArray} {a b f t x y : Int} (h : cvr s a f t = (x, 0)) (h' : cvr s b f t = (y, 0)) (hab : a < b) : x < y := by
  obtain ⟨x', h1, _, _, _, hc⟩ := cvr_ok (s := s) (a := a) (f := f) (t := t) (by rw [h])
  obtain ⟨y', h2, _, _, _, hd⟩ := cvr_ok (s := s) (a := b) (f := f) (t := t) (by rw [h'])
  rw [h] at h1
  rw [h'] at h2
  obtain rfl := (Prod.mk.inj h1).1
  obtain rfl := (Prod.mk.inj h2).1
  have := cnv_less hab hc hd
  omega

theorem cvr_order {s : ByteArray} {a b f t x y : Int} (h : cvr s a f t = (x, 0)) (h' : cvr s b f t = (y, 0)) : (a < b ∧ x < y) ∨ (¬ a < b ∧ ¬ x < y) := by
  by_cases hab : a < b
  · exact .inl ⟨hab, cvr_less h h' hab⟩
  · refine .inr ⟨hab, ?_⟩
    by_cases he : a = b
    · subst he
      rw [h] at h'
      obtain rfl := (Prod.mk.inj h').1
      omega
    · have := cvr_less h' h (by omega)
      omega

theorem cvr_end {s : ByteArray} (hv : Lib.validD s.data.toList = true) : cvr s s.size 1 2 = (((rns s 0).length : Int), 0) := by
  have h0 : okAt s 0 = true := by rw [okAt_zero]; exact hv
  have h1 := rns_bytes s s.size 0 (by omega) (by omega) h0
  have h2 := cnv_end 1 2 (rns s 0) 0 0
  rw [h1, tot_two] at h2
  exact cvr_of hv (by decide) (by decide) (by simpa using h2)

theorem errV_neg {e : Int} (h : ¬ e = 0) : errV e = .iface 41 (.int .i64 e) := if_neg h

set_option maxRecDepth 100000 in
set_option maxHeartbeats 8000000 in
theorem there_any (s : ByteArray) (a b f t : Int) (w : World) (hs : s.size ≤ 1048576) (hT : Tb w) :
    Calls Tryd.prog 4 #[.string s, .int .i64 a, .int .i64 b, .int .i64 f, .int .i64 t] w fun e w' => e = .returned (.bool true) ∧ Below w.heap.size w w' := by
  have cF : Calls Tryd.prog 6 #[.string ⟨#[97, 195, 169, 32, 98]⟩, .int .i64 3, .int .i64 1, .int .i64 2] w fun e w' => e = .returned (.tuple #[.int .i64 2, .nilIface]) ∧ Below w.heap.size w w' := by
    have h := convert_any ⟨#[97, 195, 169, 32, 98]⟩ 3 1 2 w (by decide) hT
    rw [show cvr ⟨#[97, 195, 169, 32, 98]⟩ 3 1 2 = (2, 0) by decide +kernel] at h
    exact h
  go_enter Tryd.func4, Tryd.ntmps4
  go_wp2_with fail
  refine cF.mono ?_
  rintro e w1 ⟨rfl, b1⟩
  clear cF
  go_wp2_with fail
  refine (breaks_any s w1 hs (hT.below b1)).mono ?_
  rintro e w2 ⟨h2, b2⟩
  have b12 : Below w.heap.size w w2 := b1.trans (b2.mono b1.size)
  have hT2 := hT.below b12
  rcases h2 with ⟨hv, u, rfl, hr⟩ | ⟨hv, rfl⟩
  · obtain ⟨L, hL⟩ : ∃ L, brk (rns s 0) 0 false = L := ⟨_, rfl⟩
    rw [hL] at hr
    have hev := brk_even (rns s 0) 0 false
    have htop := brk_top (rns s 0) 0 false
    have hlen := brk_len (rns s 0) 0 false
    have hrl := rns_len s s.size 0 (by omega)
    rw [hL] at hev htop hlen
    have c2 := convert_any s s.size 1 2 w2 (by omega) hT2
    rw [cvr_end hv] at c2
    generalize (rns s 0).length = N at *
    have c3 := fun W hW => convert_any s a f t W (by omega) hW
    have c4 := fun W hW => convert_any s b f t W (by omega) hW
    obtain ⟨⟨x, ex⟩, hA⟩ : ∃ q, cvr s a f t = q := ⟨_, rfl⟩
    obtain ⟨⟨y, ey⟩, hB⟩ : ∃ q, cvr s b f t = q := ⟨_, rfl⟩
    rw [hA] at c3
    rw [hB] at c4
    simp only at c3 c4
    clear hv hL
    obtain ⟨a0, c0, he⟩ := rowI_len hr
    subst he
    have em : Int.tmod (L.length : Int) 2 = 0 := by rw [Int.tmod_eq_emod_of_nonneg (by omega)]; simp at hev; omega
    clear hev
    go_wp2_with fail
    refine c2.mono ?_
    rintro e w3 ⟨rfl, b3⟩
    clear c2
    have b13 : Below w.heap.size w w3 := b12.trans (b3.mono b12.size)
    have hT3 := hT.below b13
    have ez : errV 0 = .nilIface := rfl
    rw [ez]
    have HI := (hr.ints (by omega) (fun z hz => by have := htop z hz; unfold I64; omega)).below b3
    have HTOP : Hid (∀ z ∈ L, z ≤ (N : Int)) := fun z hz => by have := htop z hz; omega
    clear htop hr b3
    have LAST : Hid (∀ (w4 : World), Below w.heap.size w w4 → Calls Tryd.prog 6 #[.string s, .int .i64 a, .int .i64 f, .int .i64 t] w4 fun e w' => e = .returned (.tuple #[.int .i64 x, errV ex]) ∧ Below w4.heap.size w4 w') :=
      fun w4 h4 => c3 w4 (hT.below h4)
    have LAST2 : Hid (∀ (w4 : World), Below w.heap.size w w4 → Calls Tryd.prog 6 #[.string s, .int .i64 b, .int .i64 f, .int .i64 t] w4 fun e w' => e = .returned (.tuple #[.int .i64 y, errV ey]) ∧ Below w4.heap.size w4 w') :=
      fun w4 h4 => c4 w4 (hT.below h4)
    have BACK : Hid (ex = 0 → ∀ (w4 : World), Below w.heap.size w w4 → Calls Tryd.prog 6 #[.string s, .int .i64 x, .int .i64 t, .int .i64 f] w4 fun e w' => e = .returned (.tuple #[.int .i64 a, .nilIface]) ∧ Below w4.heap.size w4 w') := by
      intro h0 w4 h4
      subst h0
      have h := convert_any s x t f w4 (by omega) (hT.below h4)
      rw [cvr_back hA] at h
      exact h
    have ORD : Hid (ex = 0 → ey = 0 → (a < b ∧ x < y) ∨ (¬ a < b ∧ ¬ x < y)) := by
      intro h0 h1
      subst h0 h1
      exact cvr_order hA hB
    have EX : Hid (¬ ex = 0 → errV ex = .iface 41 (.int .i64 ex)) := errV_neg
    have EY : Hid (¬ ey = 0 → errV ey = .iface 41 (.int .i64 ey)) := errV_neg
    clear c3 c4 hA hB hT hT2 hT3 em
    have VX : Hid (ex = 0 → errV ex = .nilIface) := fun h => by rw [h]; rfl
    have VY : Hid (ey = 0 → errV ey = .nilIface) := fun h => by rw [h]; rfl
    generalize errV ex = vx at *
    generalize errV ey = vy at *
    by_cases hn0 : L.length = 0
    · rw [hn0]
      clear HI HTOP hn0
      go_wp2_with fail
      refine (LAST.out _ b13).mono ?_
      rintro e w5 ⟨rfl, b5⟩
      have b15 := b13.trans (b5.mono b13.size)
      go_wp2_with fail
      refine (LAST2.out _ b15).mono ?_
      rintro e w6 ⟨rfl, b6⟩
      have b16 := b15.trans (b6.mono b15.size)
      clear LAST LAST2 b5 b6
      by_cases hx : ex = 0
      · have hvx := VX.out hx
        subst hvx
        go_wp2_with fail
        refine (BACK.out hx _ b16).mono ?_
        rintro e w7 ⟨rfl, b7⟩
        have b17 := b16.trans (b7.mono b16.size)
        clear BACK b7
        have na : (a != a) = false := by simp
        by_cases hy : ey = 0
        · have hvy := VY.out hy
          subst hvy
          rcases ORD.out hx hy with ⟨o1, o2⟩ | ⟨o1, o2⟩
          · have q1 : decide (a < b) = true := decide_eq_true o1
            have q2 : decide (x < y) = true := decide_eq_true o2
            clear hx hy ORD o1 o2 VX VY EX EY
            go_wp2
            go_ret
            exact ⟨rfl, b17⟩
          · have q1 : decide (a < b) = false := decide_eq_false (by omega)
            have q2 : decide (x < y) = false := decide_eq_false (by omega)
            clear hx hy ORD o1 o2 VX VY EX EY
            go_wp2
            go_ret
            exact ⟨rfl, b17⟩
        · have hvy := EY.out hy
          subst hvy
          clear hx hy ORD VX VY EX EY
          go_wp2
          go_ret
          exact ⟨rfl, b17⟩
      · have hvx := EX.out hx
        subst hvx
        clear hx ORD VX VY EX EY BACK
        go_wp2
        go_ret
        exact ⟨rfl, b16⟩
    · obtain ⟨n, hn⟩ : ∃ n, L.length = n + 1 := ⟨L.length - 1, by omega⟩
      obtain ⟨a1, cap1, e1, h1, h2, h6, h3⟩ := HI
      have e3 := Value.slice.inj e1
      obtain ⟨e4, e6, e5⟩ := e3
      subst e4 e5
      obtain ⟨bk, off, rfl, h4, h5⟩ := h3 (fun e => by rw [e] at hn; simp at hn)
      have y0 := h5 n (by omega)
      have g3 : ¬ (N : Int) < L[n] := by have := HTOP.out L[n] (List.getElem_mem _); omega
      generalize L[n] = z at *
      rw [hn]
      have hnb : n ≤ 1048577 := by omega
      clear HTOP h1 h2 h3 h4 h5 h6 e1 e6 hn0
      clear hn hlen
      go_wp2_with fail
      refine (LAST.out _ b13).mono ?_
      rintro e w5 ⟨rfl, b5⟩
      have b15 := b13.trans (b5.mono b13.size)
      go_wp2_with fail
      refine (LAST2.out _ b15).mono ?_
      rintro e w6 ⟨rfl, b6⟩
      have b16 := b15.trans (b6.mono b15.size)
      clear LAST LAST2 b5 b6
      by_cases hx : ex = 0
      · have hvx := VX.out hx
        subst hvx
        go_wp2_with fail
        refine (BACK.out hx _ b16).mono ?_
        rintro e w7 ⟨rfl, b7⟩
        have b17 := b16.trans (b7.mono b16.size)
        clear BACK b7
        have na : (a != a) = false := by simp
        by_cases hy : ey = 0
        · have hvy := VY.out hy
          subst hvy
          rcases ORD.out hx hy with ⟨o1, o2⟩ | ⟨o1, o2⟩
          · have q1 : decide (a < b) = true := decide_eq_true o1
            have q2 : decide (x < y) = true := decide_eq_true o2
            clear hx hy ORD o1 o2 VX VY EX EY
            go_wp2
            go_ret
            exact ⟨rfl, b17⟩
          · have q1 : decide (a < b) = false := decide_eq_false (by omega)
            have q2 : decide (x < y) = false := decide_eq_false (by omega)
            clear hx hy ORD o1 o2 VX VY EX EY
            go_wp2
            go_ret
            exact ⟨rfl, b17⟩
        · have hvy := EY.out hy
          subst hvy
          clear hx hy ORD VX VY EX EY
          go_wp2
          go_ret
          exact ⟨rfl, b17⟩
      · have hvx := EX.out hx
        subst hvx
        clear hx ORD VX VY EX EY BACK
        go_wp2
        go_ret
        exact ⟨rfl, b16⟩
  · have c2 := convert_any s 0 1 1 w2 (by omega) hT2
    rw [cvr_bad hv] at c2
    have e2 : errV 2 = .iface 41 (.int .i64 2) := rfl
    rw [e2] at c2
    clear hv
    rw [e2]
    go_wp2_with fail
    refine c2.mono ?_
    rintro e w3 ⟨rfl, b3⟩
    clear c2
    have b13 : Below w.heap.size w w3 := b12.trans (b3.mono b12.size)
    go_wp2
    go_ret
    exact ⟨rfl, b13⟩
end Go.Proofs.YtgbhhnfnfldbmaaDoor
