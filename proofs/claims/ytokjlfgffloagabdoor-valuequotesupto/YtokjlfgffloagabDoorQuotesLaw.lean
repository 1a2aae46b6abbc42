/-
  What is proved: the law ValueQuotes, called with any two texts that are not too long, returns true, and nothing that was there has turned.
  Conditions: each text has at most 1048576 bytes; the package variable errorType of package errors lies as the text lays it.
-/
import Derived.Test.YtokjlfgffloagabDoorRUnquote
import Derived.Test.YtokjlfgffloagabDoorTold
namespace Go.Proofs.YtokjlfgffloagabDoor
open Go.RowKit

set_option maxHeartbeats 1000000 in
theorem quotes_any (s t : ByteArray) (w : World) (hs : s.size ≤ 1048576) (ht : t.size ≤ 1048576) (E : Et w) :
    Calls Tryd.prog 3 #[.string s, .string t] w fun e w' => e = .returned (.bool true) ∧ Below w.heap.size w w' := by
  have Q1 := quote_any s
  have Q2 := rQuote_any s
  have U1 := unquote_any t
  have U2 := rUnquote_any t
  generalize (⟨(quote s.data.toList).toArray⟩ : ByteArray) = q at *
  generalize unq t.data.toList = u at *
  cases u with
  | none =>
    unfold unqV at U1
    unfold runqV at U2
    dsimp only at U1 U2
    go_enter Tryd.func3, Tryd.ntmps3
    go_wp2_with fail
    refine (Q1 _ (by omega)).mono ?_
    rintro e w1 ⟨rfl, b1⟩
    go_wp2_with fail
    refine (Q2 _ (by omega)).mono ?_
    rintro e w2 ⟨rfl, b2⟩
    replace b2 := b1.trans (b2.mono b1.size)
    go_wp2_with fail
    refine (U2 _ (by omega)).mono ?_
    rintro e w3 ⟨rfl, b3⟩
    replace b3 := b2.trans (b3.mono b2.size)
    go_wp2_with fail
    refine (U1 _ (by omega)).mono ?_
    rintro e w4 ⟨rfl, b4⟩
    replace b4 := b3.trans (b4.mono b3.size)
    clear Q1 Q2 U1 U2 b1 b2 b3
    go_wp2_with fail
    refine (error_errno 2 _ (E.below b4)).mono ?_
    rintro e w5 ⟨rfl, b5⟩
    replace b5 := b4.trans (b5.mono b4.size)
    clear b4
    go_wp2
    go_ret
    exact ⟨by simp, b5⟩
  | some x =>
    obtain ⟨l, n⟩ := x
    unfold unqV at U1
    unfold runqV at U2
    dsimp only at U1 U2
    generalize (⟨l.toArray⟩ : ByteArray) = r at *
    go_enter Tryd.func3, Tryd.ntmps3
    go_wp2_with fail
    refine (Q1 _ (by omega)).mono ?_
    rintro e w1 ⟨rfl, b1⟩
    go_wp2_with fail
    refine (Q2 _ (by omega)).mono ?_
    rintro e w2 ⟨rfl, b2⟩
    replace b2 := b1.trans (b2.mono b1.size)
    go_wp2_with fail
    refine (U2 _ (by omega)).mono ?_
    rintro e w3 ⟨rfl, b3⟩
    replace b3 := b2.trans (b3.mono b2.size)
    go_wp2_with fail
    refine (U1 _ (by omega)).mono ?_
    rintro e w4 ⟨rfl, b4⟩
    replace b4 := b3.trans (b4.mono b3.size)
    clear Q1 Q2 U1 U2 b1 b2 b3
    go_wp2_with fail
    refine (error_nil _).mono ?_
    rintro e w5 ⟨rfl, b5⟩
    replace b5 := b4.trans (b5.mono b4.size)
    clear b4
    go_wp2
    go_ret
    exact ⟨by simp, b5⟩
end Go.Proofs.YtokjlfgffloagabDoor
