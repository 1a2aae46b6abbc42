/-
  What is proved: the function GetSigned of package bookref1 and the law BytesPut: called with any numbers and bytes the law returns true, and nothing that was there has turned.
  Conditions: the bytes lie in memory; the package variable errorType of package errors lies as the text lays it.
-/
import Derived.Test.YtkmjlpmjhffgbaaDoorRGet
import Derived.Test.YtkmjlpmjhffgbaaDoorRPutWalk
import Derived.Test.YtkmjlpmjhffgbaaDoorPackWalk
import Derived.Test.YtkmjlpmjhffgbaaDoorTold
namespace Go.Proofs.YtkmjlpmjhffgbaaDoor
open Go.RowKit

/-- What a reading of the reference of a number that may be below 0 answers. -/
def rgetSV (o : Option (Nat × Nat)) : Value :=
  match o with
  | some (n, k) => .tuple #[.int .i64 (zag n), .int .i64 k]
  | none => .tuple #[.int .i64 0, .int .i64 0]

set_option maxHeartbeats 1000000 in
theorem rGetSigned_any (v : Value) (l : List UInt8) (w : World) (hv : IsBytes w v l) :
    Calls Tryd.prog 13 #[v] w fun e w' => e = .returned (rgetSV (get l)) ∧ Below w.heap.size w w' := by
  have G := rGet_any v l w hv
  obtain ⟨a, cap, rfl, _⟩ := id hv
  cases hG : get l with
  | none =>
    rw [hG] at G
    unfold rgetV at G
    unfold rgetSV
    go_enter Tryd.func13, Tryd.ntmps13
    go_wp2_with fail
    refine G.mono ?_
    rintro e w1 ⟨rfl, b1⟩
    go_wp2
    go_returns
    exact ⟨rfl, b1⟩
  | some q =>
    obtain ⟨n, k⟩ := q
    obtain ⟨_, hr, hk1, _, _⟩ := get_some hG
    rw [hG] at G
    unfold rgetV at G
    unfold rgetSV
    have q0 : ((k : Int) == 0) = false := by rw [beq_eq_false_iff_ne]; omega
    by_cases ho : n % 2 = 1
    · have HZ : Hid (-((n / 2 : Nat) : Int) - 1 = zag n) := by
        show _ = zag n
        unfold zag
        rw [if_pos ho]
      have g1 : (((n : Int) % 2) == 1) = true := by rw [beq_iff_eq]; omega
      clear hG
      go_enter Tryd.func13, Tryd.ntmps13
      go_wp2_with fail
      refine G.mono ?_
      rintro e w1 ⟨rfl, b1⟩
      go_wp2
      go_returns
      exact ⟨by rw [← HZ.out]; simp, b1⟩
    · have HZ : Hid (((n / 2 : Nat) : Int) = zag n) := by
        show _ = zag n
        unfold zag
        rw [if_neg ho]
      have g1 : (((n : Int) % 2) == 1) = false := by rw [beq_eq_false_iff_ne]; omega
      clear hG
      go_enter Tryd.func13, Tryd.ntmps13
      go_wp2_with fail
      refine G.mono ?_
      rintro e w1 ⟨rfl, b1⟩
      go_wp2
      go_returns
      exact ⟨by rw [← HZ.out]; simp, b1⟩

/-- A row of bytes as a text. -/
theorem row_cv {B : Nat} {v : Value} {l : List UInt8} {w w' : World} (h : Row B v l w) (h0 : l ≠ []) (hb : Below w.heap.size w w') : ∃ g cap, v = .slice (some ⟨g, 0, none⟩) l.length cap ∧ ∀ t (ht : t < l.length), w'.cell? ((⟨g, 0, none⟩ : Addr).add t) = some (.int .u8 l[t].toNat) := by
  obtain ⟨g, cap, rfl, hc⟩ := row_text (own_below h hb (Nat.le_refl _)) h0
  exact ⟨g, cap, rfl, fun t ht => hc t _ (by simp [Lib.byteCells, ht])⟩

set_option maxRecDepth 100000 in
set_option maxHeartbeats 8000000 in
theorem putLaw_any (n : Nat) (k : Int) (vb : Value) (b : List UInt8) (w : World) (hn : n < 18446744073709551616) (hk1 : -9223372036854775808 ≤ k) (hk2 : k < 9223372036854775808) (hb : IsBytes w vb b) (he : Et w) :
    Calls Tryd.prog 3 #[.int .u64 n, .int .i64 k, vb] w fun e w' => e = .returned (.bool true) ∧ Below w.heap.size w w' := by
  obtain ⟨ab, cb, rfl, _⟩ := id hb
  go_enter Tryd.func3, Tryd.ntmps3
  go_wp2_with fail
  refine (put_any n w hn).mono ?_
  rintro e w1 ⟨u1, rfl, R1, b1⟩
  go_wp2_with fail
  refine (rPut_any n w1 hn).mono ?_
  rintro e w2 ⟨u2, rfl, R2, b2⟩
  go_wp2_with fail
  refine (putSigned_any k w2 hk1 hk2).mono ?_
  rintro e w3 ⟨u3, rfl, R3, b3⟩
  go_wp2_with fail
  refine (rPutSigned_any k w3 hk1 hk2).mono ?_
  rintro e w4 ⟨u4, rfl, R4, b4⟩
  have B2 : Below w.heap.size w w2 := b1.trans (b2.mono b1.size)
  have B3 : Below w.heap.size w w3 := B2.trans (b3.mono B2.size)
  have B4 : Below w.heap.size w w4 := B3.trans (b4.mono B3.size)
  have C3 : Below w3.heap.size w3 w4 := b4
  have C2 : Below w2.heap.size w2 w4 := b3.trans (b4.mono b3.size)
  have C1 : Below w1.heap.size w1 w4 := b2.trans (C2.mono b2.size)
  obtain ⟨g1, c1, rfl, t1⟩ := row_cv R1 (put_ne _) C1
  obtain ⟨g2, c2, rfl, t2⟩ := row_cv R2 (put_ne _) C2
  obtain ⟨g3, c3, rfl, t3⟩ := row_cv R3 (put_ne _) C3
  obtain ⟨g4, c4, rfl, t4⟩ := row_cv R4 (put_ne _) (Below.refl _ _)
  have v1 := run_convert_bytes_back (P := Tryd.prog) w4 23 9 5 ⟨g1, 0, none⟩ c1 (put n) Tryd.underlying23 Tryd.underlying5 Tryd.underlying9 t1
  have v2 := run_convert_bytes_back (P := Tryd.prog) w4 23 9 5 ⟨g2, 0, none⟩ c2 (put n) Tryd.underlying23 Tryd.underlying5 Tryd.underlying9 t2
  have v3 := run_convert_bytes_back (P := Tryd.prog) w4 23 9 5 ⟨g3, 0, none⟩ c3 (put (zig k)) Tryd.underlying23 Tryd.underlying5 Tryd.underlying9 t3
  have v4 := run_convert_bytes_back (P := Tryd.prog) w4 23 9 5 ⟨g4, 0, none⟩ c4 (put (zig k)) Tryd.underlying23 Tryd.underlying5 Tryd.underlying9 t4
  clear t1 t2 t3 t4 R1 R2 R3 R4 b1 b2 b3 b4 B2 B3 C1 C2 C3
  generalize put n = P at *
  generalize put (zig k) = Z at *
  cases hG : get b with
  | none =>
      go_wp2_with fail
      refine (rGet_any _ b w4 (hb.below B4)).mono ?_
      rintro e w5 ⟨rfl, b5⟩
      have B5 : Below w.heap.size w w5 := B4.trans (b5.mono B4.size)
      rw [hG]
      unfold rgetV
      clear v1 v2 v3 v4 b5 B4
      go_wp2_with fail
      refine (get_any _ b w5 (hb.below B5)).mono ?_
      rintro e w6 ⟨rfl, b6⟩
      have B6 : Below w.heap.size w w6 := B5.trans (b6.mono B5.size)
      rw [hG]
      unfold getV
      clear b6 B5
      go_wp2_with fail
      refine (error_errno 9 w6 (he.below B6)).mono ?_
      rintro e w7 ⟨rfl, b7⟩
      have B7 : Below w.heap.size w w7 := B6.trans (b7.mono B6.size)
      clear b7 B6
      go_wp2_with fail
      refine (rGetSigned_any _ b w7 (hb.below B7)).mono ?_
      rintro e w8 ⟨rfl, b8⟩
      have B8 : Below w.heap.size w w8 := B7.trans (b8.mono B7.size)
      rw [hG]
      unfold rgetSV
      clear b8 B7
      go_wp2_with fail
      refine (getSigned_any _ b w8 (hb.below B8)).mono ?_
      rintro e w9 ⟨rfl, b9⟩
      have B9 : Below w.heap.size w w9 := B8.trans (b9.mono B8.size)
      rw [hG]
      unfold getSV
      clear b9 B8
      go_wp2_with fail
      refine (error_errno 9 w9 (he.below B9)).mono ?_
      rintro e w10 ⟨rfl, b10⟩
      have B10 : Below w.heap.size w w10 := B9.trans (b10.mono B9.size)
      clear b10 B9
      go_wp2
      go_ret
      exact ⟨by simp, B10⟩
  | some q =>
      obtain ⟨x, j⟩ := q
      obtain ⟨_, hr, hj1, _, _⟩ := get_some hG
      have q0 : ((j : Int) == 0) = false := by rw [beq_eq_false_iff_ne]; omega
      go_wp2_with fail
      refine (rGet_any _ b w4 (hb.below B4)).mono ?_
      rintro e w5 ⟨rfl, b5⟩
      have B5 : Below w.heap.size w w5 := B4.trans (b5.mono B4.size)
      rw [hG]
      unfold rgetV
      clear v1 v2 v3 v4 b5 B4
      go_wp2_with fail
      refine (get_any _ b w5 (hb.below B5)).mono ?_
      rintro e w6 ⟨rfl, b6⟩
      have B6 : Below w.heap.size w w6 := B5.trans (b6.mono B5.size)
      rw [hG]
      unfold getV
      clear b6 B5
      go_wp2_with fail
      refine (error_nil w6).mono ?_
      rintro e w7 ⟨rfl, b7⟩
      have B7 : Below w.heap.size w w7 := B6.trans (b7.mono B6.size)
      clear b7 B6
      go_wp2_with fail
      refine (rGetSigned_any _ b w7 (hb.below B7)).mono ?_
      rintro e w8 ⟨rfl, b8⟩
      have B8 : Below w.heap.size w w8 := B7.trans (b8.mono B7.size)
      rw [hG]
      unfold rgetSV
      clear b8 B7
      go_wp2_with fail
      refine (getSigned_any _ b w8 (hb.below B8)).mono ?_
      rintro e w9 ⟨rfl, b9⟩
      have B9 : Below w.heap.size w w9 := B8.trans (b9.mono B8.size)
      rw [hG]
      unfold getSV
      clear b9 B8
      go_wp2_with fail
      refine (error_nil w9).mono ?_
      rintro e w10 ⟨rfl, b10⟩
      have B10 : Below w.heap.size w w10 := B9.trans (b10.mono B9.size)
      clear b10 B9
      go_wp2
      go_ret
      exact ⟨by simp, B10⟩
end Go.Proofs.YtkmjlpmjhffgbaaDoor
