/-
  What is proved: the law WordsConverts: called with any text and numbers it returns true, and nothing that was there has turned.
  Conditions: the text has at most 1048576 bytes; the listed package variables lie as the text lays them.
-/
import Derived.Test.YtgbhhnfnfldbmaaDoorWRef2
import Derived.Test.YtgbhhnfnfldbmaaDoorToldW
import Derived.Test.YtgbhhnfnfldbmaaDoorSameInts
namespace Go.Proofs.YtgbhhnfnfldbmaaDoor
open Go.RowKit

theorem err_any (e : Int) (w : World) (h : Et w) : Calls Tryd.prog 7 #[errV e, .int .i64 e] w fun e w' => e = .returned (.bool true) ∧ Below w.heap.size w w' := by
  by_cases h0 : e = 0
  · subst h0
    exact error_nil w
  · unfold errV
    rw [if_neg h0]
    exact error_errno e w h

theorem brk_range {s : ByteArray} (hs : s.size ≤ 1048576) : (brk (rns s 0) 0 false).length ≤ 17592186044416 ∧ ∀ x ∈ brk (rns s 0) 0 false, I64 x := by
  have h1 := rns_len s s.size 0 (by omega)
  have h2 := brk_len (rns s 0) 0 false
  refine ⟨by omega, fun x hx => ?_⟩
  have h3 := brk_top _ _ _ x hx
  unfold I64
  omega

theorem nil_ints (w : World) : IsInts w (.slice none 0 0) [] := ⟨none, 0, rfl, by simp, by simp, by simp, fun h => absurd rfl h⟩

set_option maxRecDepth 100000 in
set_option maxHeartbeats 8000000 in
theorem converts_any (s : ByteArray) (a f t : Int) (w : World) (hs : s.size ≤ 1048576) (hT : Tb w) (hE : Et w) :
    Calls Tryd.prog 3 #[.string s, .int .i64 a, .int .i64 f, .int .i64 t] w fun e w' => e = .returned (.bool true) ∧ Below w.heap.size w w' := by
  have c1 := rConvert_any s a f t w hs
  have c2 := fun W (h : Below w.heap.size w W) => convert_any s a f t W (by omega) (hT.below h)
  generalize cvr s a f t = A at *
  obtain ⟨x, e0⟩ := A
  simp only at c1 c2
  have C3 := fun W (h : Below w.heap.size w W) => err_any e0 W (hE.below h)
  have C6 := fun W (h : Below w.heap.size w W) => err_any 2 W (hE.below h)
  have C6' := fun W (h : Below w.heap.size w W) => error_nil W
  have e2 : errV 2 = .iface 41 (.int .i64 2) := rfl
  rw [e2] at C6
  have C4 := fun W (_ : Below w.heap.size w W) => rBreaks_any s W hs
  have C5 := fun W (h : Below w.heap.size w W) => breaks_any s W hs (hT.below h)
  have H2 : Hid _ := c2
  have H3 : Hid _ := C3
  have H4 : Hid _ := C4
  have H5 : Hid _ := C5
  have H6 : Hid _ := C6
  have H6' : Hid _ := C6'
  clear c2 C3 C4 C5 C6 C6' hE hT
  generalize errV e0 = v at *
  go_enter Tryd.func3, Tryd.ntmps3
  go_wp2_with fail
  refine c1.mono ?_
  rintro e w1 ⟨rfl, b1⟩
  clear c1
  go_wp2_with fail
  refine (H2.out w1 b1).mono ?_
  rintro e w2 ⟨rfl, b2⟩
  have b12 := b1.trans (b2.mono b1.size)
  go_wp2_with fail
  refine (H3.out w2 b12).mono ?_
  rintro e w3 ⟨rfl, b3⟩
  have b13 := b12.trans (b3.mono b12.size)
  go_wp2_with fail
  refine (H4.out w3 b13).mono ?_
  rintro e w4 ⟨r4, b4⟩
  have b14 := b13.trans (b4.mono b13.size)
  clear b1 b2 b3 b12 H2 H3 H4
  have hxx : (x == x) = true := by simp
  rcases r4 with ⟨hv, u, rfl, hr⟩ | ⟨hv, rfl⟩
  · have I4 := (hr.ints (brk_range hs).1 (brk_range hs).2)
    go_wp2_with fail
    refine (H5.out w4 b14).mono ?_
    rintro e w5 ⟨r5, b5⟩
    have b15 := b14.trans (b5.mono b14.size)
    rcases r5 with ⟨_, v5, rfl, hr5⟩ | ⟨hv', _⟩
    · have I5 := (hr5.ints (brk_range hs).1 (brk_range hs).2)
      have I4' := I4.below b5
      clear hr hr5 I4 hv H5
      generalize brk (rns s 0) 0 false = R at *
      go_wp2_with fail
      refine (H6'.out w5 b15).mono ?_
      rintro e w6 ⟨rfl, b6⟩
      have b16 := b15.trans (b6.mono b15.size)
      have c7 := ints_any _ _ R R w6 (I5.below b6) (I4'.below b6)
      rw [decide_eq_true (rfl : R = R)] at c7
      clear H6 H6' I5 I4'
      go_wp2_with fail
      refine c7.mono ?_
      rintro e w7 ⟨rfl, b7⟩
      have b17 := b16.trans (b7.mono b16.size)
      clear c7
      go_wp2
      go_ret
      exact ⟨rfl, b17⟩
    · rw [hv] at hv'; cases hv'
  · go_wp2_with fail
    refine (H5.out w4 b14).mono ?_
    rintro e w5 ⟨r5, b5⟩
    have b15 := b14.trans (b5.mono b14.size)
    rcases r5 with ⟨hv', _⟩ | ⟨_, rfl⟩
    · rw [hv] at hv'; cases hv'
    · clear hv H5
      rw [e2]
      go_wp2_with fail
      refine (H6.out w5 b15).mono ?_
      rintro e w6 ⟨rfl, b6⟩
      have b16 := b15.trans (b6.mono b15.size)
      have c7 := ints_any _ _ [] [] w6 (nil_ints w6) (nil_ints w6)
      rw [decide_eq_true (rfl : ([] : List Int) = [])] at c7
      clear H6 H6'
      go_wp2_with fail
      refine c7.mono ?_
      rintro e w7 ⟨rfl, b7⟩
      have b17 := b16.trans (b7.mono b16.size)
      clear c7
      go_wp2
      go_ret
      exact ⟨rfl, b17⟩
end Go.Proofs.YtgbhhnfnfldbmaaDoor
