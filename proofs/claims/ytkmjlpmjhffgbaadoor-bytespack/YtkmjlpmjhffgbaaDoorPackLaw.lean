/-
  What is proved: the law BytesPack: called with any numbers and bytes it returns true, and nothing that was there has turned.
  Conditions: the lists lie in memory; the package variable errorType of package errors lies as the text lays it.
-/
import Derived.Test.YtkmjlpmjhffgbaaDoorRPack
import Derived.Test.YtkmjlpmjhffgbaaDoorRUnpack
import Derived.Test.YtkmjlpmjhffgbaaDoorSameInts
import Derived.Lib.BufferRead
namespace Go.Proofs.YtkmjlpmjhffgbaaDoor
open Go.RowKit

theorem pack_ne (l : List Int) : pack l ≠ [] := by
  unfold pack
  intro e
  exact put_ne _ (List.append_eq_nil_iff.1 e).1

set_option maxRecDepth 100000 in
set_option maxHeartbeats 8000000 in
theorem packLaw_any (vl vb : Value) (l : List Int) (b : List UInt8) (w : World) (hl : IsInts w vl l) (hb : IsBytes w vb b) (he : Et w) :
    Calls Tryd.prog 5 #[vl, vb] w fun e w' => e = .returned (.bool true) ∧ Below w.heap.size w w' := by
  obtain ⟨al, cl, rfl, _⟩ := id hl
  obtain ⟨ab, cb, rfl, _⟩ := id hb
  have END : ∀ W, Below w.heap.size w W → (Calls Tryd.prog 22 #[.slice ab b.length cb] W fun e w' => ((∃ l j u, unpack b = some (l, j) ∧ e = .returned (.tuple #[u, .int .i64 (j : Nat), .bool true]) ∧ RowI W.heap.size u l w') ∨ (unpack b = none ∧ e = .returned noUnp)) ∧ Below W.heap.size W w') ∧ (Calls Tryd.prog 23 #[.slice ab b.length cb] W fun e w' => ((∃ l j u, unpack b = some (l, j) ∧ e = .returned (.tuple #[u, .int .i64 (j : Nat), .nilIface]) ∧ RowI W.heap.size u l w') ∨ (unpack b = none ∧ e = .returned (.tuple #[.slice none 0 0, .int .i64 0, .iface 66 (.int .i64 9)]))) ∧ Below W.heap.size W w') :=
    fun W hW => ⟨rUnpack_any _ b W (hb.below hW), unpack_any _ b W (hb.below hW)⟩
  by_cases h400 : l.length ≤ 400
  · have g1 : ¬ (400 : Int) < l.length := by omega
    go_enter Tryd.func5, Tryd.ntmps5
    go_wp2_with fail
    refine (rPack_any _ l w hl h400).mono ?_
    rintro e w1 ⟨u1, rfl, R1, b1⟩
    go_wp2_with fail
    refine (pack_any _ l w1 (hl.below b1) h400).mono ?_
    rintro e w2 ⟨u2, rfl, R2, b2⟩
    have B2 : Below w.heap.size w w2 := b1.trans (b2.mono b1.size)
    go_wp2_with fail
    refine (error_nil w2).mono ?_
    rintro e w3 ⟨rfl, b3⟩
    have B3 : Below w.heap.size w w3 := B2.trans (b3.mono B2.size)
    obtain ⟨g2, c2, rfl, t2⟩ := row_cv R2 (pack_ne _) b3
    obtain ⟨g1', c1, rfl, t1⟩ := row_cv R1 (pack_ne _) (b2.trans (b3.mono b2.size))
    have v1 := run_convert_bytes_back (P := Tryd.prog) w3 23 9 5 ⟨g1', 0, none⟩ c1 (pack l) Tryd.underlying23 Tryd.underlying5 Tryd.underlying9 t1
    have v2 := run_convert_bytes_back (P := Tryd.prog) w3 23 9 5 ⟨g2, 0, none⟩ c2 (pack l) Tryd.underlying23 Tryd.underlying5 Tryd.underlying9 t2
    clear t1 t2 R1 R2 b1 b2 b3 B2
    generalize pack l = P at *
    go_wp2_with fail
    refine (END w3 B3).1.mono ?_
    rintro e w4 ⟨⟨m, j, u, hu, rfl, R4⟩ | ⟨hu, rfl⟩, b4⟩
    · have B4 : Below w.heap.size w w4 := B3.trans (b4.mono B3.size)
      obtain ⟨hu1, hu2, hu3, hu4⟩ := pack_unpack hu
      go_wp2_with fail
      refine (END w4 B4).2.mono ?_
      rintro e w5 ⟨⟨m', j', u', hu', rfl, R5⟩ | ⟨hu', rfl⟩, b5⟩
      · rw [hu] at hu'
        injection hu' with hu'
        injection hu' with e1 e2
        subst e1 e2
        have B5 : Below w.heap.size w w5 := B4.trans (b5.mono B4.size)
        go_wp2_with fail
        refine (error_nil w5).mono ?_
        rintro e w6 ⟨rfl, b6⟩
        have B6 : Below w.heap.size w w6 := B5.trans (b6.mono B5.size)
        have I1 := ((R4.ints (by omega) hu4).below b5).below b6
        have I2 := (R5.ints (by omega) hu4).below b6
        go_wp2_with fail
        refine (ints_any _ _ m m w6 I2 I1).mono ?_
        rintro e w7 ⟨rfl, b7⟩
        have B7 : Below w.heap.size w w7 := B6.trans (b7.mono B6.size)
        clear hu hu1
        go_wp2
        go_ret
        exact ⟨by simp, B7⟩
      · rw [hu] at hu'
        cases hu'
    · have B4 : Below w.heap.size w w4 := B3.trans (b4.mono B3.size)
      go_wp2_with fail
      refine (END w4 B4).2.mono ?_
      rintro e w5 ⟨⟨m', j', u', hu', rfl, R5⟩ | ⟨hu', rfl⟩, b5⟩
      · rw [hu] at hu'
        cases hu'
      · have B5 : Below w.heap.size w w5 := B4.trans (b5.mono B4.size)
        go_wp2_with fail
        refine (error_errno 9 w5 (he.below B5)).mono ?_
        rintro e w6 ⟨rfl, b6⟩
        have B6 : Below w.heap.size w w6 := B5.trans (b6.mono B5.size)
        have I0 : ∀ W, IsInts W (.slice none 0 0) [] := fun W => ⟨none, 0, rfl, by simp, by simp, by simp, fun h => absurd rfl h⟩
        go_wp2_with fail
        refine (ints_any _ _ [] [] w6 (I0 w6) (I0 w6)).mono ?_
        rintro e w7 ⟨rfl, b7⟩
        have B7 : Below w.heap.size w w7 := B6.trans (b7.mono B6.size)
        clear hu
        go_wp2
        go_ret
        exact ⟨by simp, B7⟩
  · have g1 : (400 : Int) < l.length := by omega
    go_enter Tryd.func5, Tryd.ntmps5
    go_wp2_with fail
    refine (pack_full _ l w hl (by omega)).mono ?_
    rintro e w2 ⟨rfl, B2⟩
    go_wp2_with fail
    refine (error_errno 4 w2 (he.below B2)).mono ?_
    rintro e w3 ⟨rfl, b3⟩
    have B3 : Below w.heap.size w w3 := B2.trans (b3.mono B2.size)
    clear B2 b3
    have v1 := Lib.run_convert_nil_bytes (P := Tryd.prog) w3 23 9 5 0 Tryd.underlying23 Tryd.underlying5 Tryd.underlying9
    go_wp2_with fail
    refine (END w3 B3).1.mono ?_
    rintro e w4 ⟨⟨m, j, u, hu, rfl, R4⟩ | ⟨hu, rfl⟩, b4⟩
    · have B4 : Below w.heap.size w w4 := B3.trans (b4.mono B3.size)
      obtain ⟨hu1, hu2, hu3, hu4⟩ := pack_unpack hu
      go_wp2_with fail
      refine (END w4 B4).2.mono ?_
      rintro e w5 ⟨⟨m', j', u', hu', rfl, R5⟩ | ⟨hu', rfl⟩, b5⟩
      · rw [hu] at hu'
        injection hu' with hu'
        injection hu' with e1 e2
        subst e1 e2
        have B5 : Below w.heap.size w w5 := B4.trans (b5.mono B4.size)
        go_wp2_with fail
        refine (error_nil w5).mono ?_
        rintro e w6 ⟨rfl, b6⟩
        have B6 : Below w.heap.size w w6 := B5.trans (b6.mono B5.size)
        have I1 := ((R4.ints (by omega) hu4).below b5).below b6
        have I2 := (R5.ints (by omega) hu4).below b6
        go_wp2_with fail
        refine (ints_any _ _ m m w6 I2 I1).mono ?_
        rintro e w7 ⟨rfl, b7⟩
        have B7 : Below w.heap.size w w7 := B6.trans (b7.mono B6.size)
        clear hu hu1
        go_wp2
        go_ret
        exact ⟨by simp, B7⟩
      · rw [hu] at hu'
        cases hu'
    · have B4 : Below w.heap.size w w4 := B3.trans (b4.mono B3.size)
      go_wp2_with fail
      refine (END w4 B4).2.mono ?_
      rintro e w5 ⟨⟨m', j', u', hu', rfl, R5⟩ | ⟨hu', rfl⟩, b5⟩
      · rw [hu] at hu'
        cases hu'
      · have B5 : Below w.heap.size w w5 := B4.trans (b5.mono B4.size)
        go_wp2_with fail
        refine (error_errno 9 w5 (he.below B5)).mono ?_
        rintro e w6 ⟨rfl, b6⟩
        have B6 : Below w.heap.size w w6 := B5.trans (b6.mono B5.size)
        have I0 : ∀ W, IsInts W (.slice none 0 0) [] := fun W => ⟨none, 0, rfl, by simp, by simp, by simp, fun h => absurd rfl h⟩
        go_wp2_with fail
        refine (ints_any _ _ [] [] w6 (I0 w6) (I0 w6)).mono ?_
        rintro e w7 ⟨rfl, b7⟩
        have B7 : Below w.heap.size w w7 := B6.trans (b7.mono B6.size)
        clear hu
        go_wp2
        go_ret
        exact ⟨by simp, B7⟩
end Go.Proofs.YtkmjlpmjhffgbaaDoor
