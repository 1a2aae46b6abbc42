/-
  What is proved: the method text of package bookref1's reader, called with any bytes, reads as the mathematics says, and turns nothing but the reader.
  Conditions: the bytes lie in memory, and so does the reader.
-/
import Derived.Test.YtgecgemfniiciaaGreatDoorQRead2
namespace Go.Proofs.YtgecgemfniiciaaGreatDoor
open Go.RowKit

set_option maxRecDepth 100000 in
set_option maxHeartbeats 4000000 in
theorem qtxt_any (w0 wr : World) (g : Nat) (vb : Value) (b : List UInt8) (s : St) (most : Int) (h0 : 0 ≤ most) (h1 : most ≤ 1000000) (hb : IsBytes w0 vb b) (hw : Wh vb) (hl : b.length ≤ 4611686018427387904) (hg : w0.heap.size ≤ g) (bel : Below w0.heap.size w0 wr) (h : DAt g vb b s wr) :
    Calls Tryz.prog 9 #[.pointer (some ⟨g, 0, none⟩), .int .i64 most] wr fun e w' => e = .returned (.string (asText (rTxt most s).1)) ∧ DAt g vb b (rTxt most s).2 w' ∧ Off g wr w' := by
  have C := qnum_any w0 wr g vb b s most h0 h1 hb hw hl bel h
  have hr := rCnt_range most h0 s
  have HE : Hid ((rCnt most s).2 = none → (rCnt most s).1 = 0) := rCnt_end
  have HLV : Hid (∀ r, (rCnt most s).2 = some r → b ≠ []) := by
    intro r hr e
    refine rCnt_live hr ?_
    obtain ⟨a, _, hs, _⟩ := h
    rcases hs with rfl | rfl
    · rfl
    · rw [e]; simp [rest]
  have HT : Hid (rTxt most s = if ((rest (rCnt most s).2).length : Int) < (rCnt most s).1 then ([], none) else ((rest (rCnt most s).2).take (rCnt most s).1.toNat, (rCnt most s).2.map fun l => l.drop (rCnt most s).1.toNat)) := rfl
  generalize (rCnt most s).1 = n at *
  generalize (rCnt most s).2 = s1 at *
  generalize rTxt most s = R at *
  clear h
  obtain ⟨N, rfl⟩ : ∃ N : Nat, n = N := ⟨n.toNat, by omega⟩
  rw [Int.toNat_natCast] at HT
  go_enter Tryz.func9, Tryz.ntmps9
  go_wp2_with fail
  refine C.mono ?_
  rintro e w1 ⟨rfl, D1, O1⟩
  obtain ⟨a, ha, hs, hx⟩ := D1
  rcases hs with rfl | rfl
  · have hx' : w1.heap[g]? = some (.cells #[vb, .int .i64 a, .bool true] 38) := hx
    have c2 : w1.cell? ⟨g, 2, none⟩ = some (.bool true) := Lib.cell_of_heap hx' 2
    obtain rfl : N = 0 := by have := HE.out rfl; omega
    have HR : Hid (R = ([], none)) := by show _ = _; rw [HT.out]; simp [rest]
    clear hx HT HE
    go_wp2
    go_quiet (fail)
    have h2 := heap_below hx' (below_drew (Below.refl w1.heap.size w1) nq) (Nat.le_refl _)
    have O2 : Off g w1 (w1.drewN nq) := Off.of (below_drew (Below.refl w1.heap.size w1) nq)
    generalize w1.drewN nq = W at *
    have d2 : W.cell? ⟨g, 2, none⟩ = some (.bool true) := Lib.cell_of_heap h2 2
    have df := Lib.frozen_of_heap h2
    clear c2
    go_wp2
    go_ret
    exact ⟨by rw [HR.out]; rfl, by rw [HR.out]; exact ⟨a, ha, Or.inl rfl, set_at h2 2 (.bool true)⟩, (O1.trans O2).set 2 _⟩
  · have hx' : w1.heap[g]? = some (.cells #[vb, .int .i64 a, .bool false] 38) := hx
    have hne := HLV.out _ rfl
    clear hx HE HLV
    rcases hw with rfl | ⟨ad, m, c, rfl⟩
    · exact absurd (by
        obtain ⟨a', c', e, -⟩ := id hb
        injection e with _ e _
        exact List.length_eq_zero_iff.1 e.symm) hne
    · obtain rfl : m = b.length := by
        obtain ⟨a', c', e, -⟩ := id hb
        injection e
      have hcap : b.length ≤ c := by
        obtain ⟨a', c', e, h3, -⟩ := id hb
        injection e with _ _ e
        subst e
        exact h3
      have hrl : (rest (some (b.drop a))).length = b.length - a := by rw [rest_some, List.length_drop]
      have c0 : w1.cell? ⟨g, 0, none⟩ = some (.slice (some ad) b.length c) := Lib.cell_of_heap hx' 0
      have c1 : w1.cell? ⟨g, 1, none⟩ = some (.int .i64 a) := Lib.cell_of_heap hx' 1
      have c2 : w1.cell? ⟨g, 2, none⟩ = some (.bool false) := Lib.cell_of_heap hx' 2
      have wla : IntKind.i64.wrap ((b.length : Int) - a) = (b.length : Int) - a := IntWalk.i64_in _ (by omega)
      by_cases hn : b.length - a < N
      · have HR : Hid (R = ([], none)) := by show _ = _; rw [HT.out, hrl, if_pos (by omega)]
        have g1 : decide ((b.length : Int) - a < N) = true := by rw [decide_eq_true_eq]; omega
        have g2 : (b.length : Int) - a < N := by omega
        clear HT
        go_wp2
        go_quiet (fail)
        have h2 := heap_below hx' (below_drew (Below.refl w1.heap.size w1) nq) (Nat.le_refl _)
        have O2 : Off g w1 (w1.drewN nq) := Off.of (below_drew (Below.refl w1.heap.size w1) nq)
        generalize w1.drewN nq = W at *
        have d2 : W.cell? ⟨g, 2, none⟩ = some (.bool false) := Lib.cell_of_heap h2 2
        have df := Lib.frozen_of_heap h2
        clear c0 c1 c2
        go_wp2
        go_ret
        exact ⟨by rw [HR.out]; rfl, by rw [HR.out]; exact ⟨a, ha, Or.inl rfl, set_at h2 2 (.bool true)⟩, (O1.trans O2).set 2 _⟩
      · have HR : Hid (R = ((b.drop a).take N, some (b.drop (a + N)))) := by show _ = _; rw [HT.out, hrl, if_neg (by omega), rest_some, Option.map_some, List.drop_drop]
        have g1 : decide ((b.length : Int) - a < N) = false := by rw [decide_eq_false_iff_not]; omega
        have g2 : ¬ (b.length : Int) - a < N := by omega
        clear HT
        go_wp2
        go_quiet (fail)
        have hbd := below_drew (Below.refl w1.heap.size w1) nq
        have h2 := heap_below hx' hbd (Nat.le_refl _)
        have O2 : Off g w1 (w1.drewN nq) := Off.of hbd
        clear hbd
        generalize w1.drewN nq = W at *
        have e1 : W.cell? ⟨g, 1, none⟩ = some (.int .i64 a) := Lib.cell_of_heap h2 1
        have ef := Lib.frozen_of_heap h2
        clear c0 c1 c2
        have wan : wrap64 ((a : Int) + N) = (a : Int) + N := by unfold wrap64; omega
        have h3 := set_at h2 1 (.int .i64 ((a : Int) + N))
        have O3 := (O1.trans O2).set 1 (.int .i64 ((a : Int) + N))
        go_wp2
        clear e1 ef h2 O2 wla wan
        generalize W.setCell ⟨g, 1, none⟩ (.int .i64 ((a : Int) + N)) = W2 at *
        have B3 : Below w0.heap.size w0 W2 := bel.trans (O3.below hg bel.size)
        have HX3 : Hid (W2.heap[g]? = some (.cells #[.slice (some ad) b.length c, .int .i64 ((a + N : Nat) : Int), .bool false] 38)) := h3
        have HNl : Hid (((b.drop a).take N).length = N) := by show _ = _; rw [List.length_take, List.length_drop]; omega
        obtain ⟨E, hE⟩ : ∃ E : Nat, E = a + N := ⟨_, rfl⟩
        have f0 : W2.cell? ⟨g, 0, none⟩ = some (.slice (some ad) b.length c) := Lib.cell_of_heap HX3.out 0
        have f1 : W2.cell? ⟨g, 1, none⟩ = some (.int .i64 E) := by rw [hE]; exact Lib.cell_of_heap HX3.out 1
        have wsub : IntKind.i64.wrap ((E : Int) - N) = a := by rw [IntWalk.i64_in _ (by omega)]; omega
        have k1 : a ≤ E := by omega
        have k2 : E ≤ c := by omega
        have HEN : Hid (E - a = N) := by show _ = _; omega
        have HAE : Hid (a + N ≤ b.length) := by show _ ≤ _; omega
        by_cases hca : c = a
        · obtain rfl : N = 0 := by omega
          have v1 := run_convert_bytes_back (P := Tryz.prog) W2.drew 22 9 5 ad 0 [] Tryz.underlying22 Tryz.underlying5 Tryz.underlying9 (fun j hj => by simp at hj)
          obtain rfl : E = c := by omega
          subst hca
          have HTE : Hid (asText ((b.drop E).take 0) = ⟨([] : List UInt8).toArray⟩) := by show _ = _; rw [List.take_zero]; rfl
          have s0 : E - E = 0 := by omega
          have we : wrap64 (E : Int) = E := by unfold wrap64; omega
          rw [List.length_nil] at v1
          have O4 := O3
          clear h3 hb bel B3 C hne hE hrl hl hcap hn g1 g2 hr h1 h0 hx' nq O1 k1 k2
          go_region
          all_goals
            go_wp2
            go_ret
            exact ⟨by rw [HR.out, HTE.out]; rfl, by rw [HR.out]; exact ⟨_, HAE.out, Or.inr rfl, HX3.out⟩, ⟨O4.os, O4.tape, O4.output, O4.size, O4.block⟩⟩
        · obtain ⟨T, hT⟩ : ∃ T, T = (b.drop a).take N := ⟨_, rfl⟩
          have v1 := run_convert_bytes_back (P := Tryz.prog) W2.drew 22 9 5 (ad.add a) (c - a) T Tryz.underlying22 Tryz.underlying5 Tryz.underlying9 (fun j hj => by
            have hDB := (bytes_from2 hb a ha).1 (by omega)
            have hlen : (b.drop a).length = b.length - a := List.length_drop
            rw [← hlen] at hDB
            obtain ⟨-, -, f3⟩ := bytes_from2 hDB N (by rw [List.length_drop]; omega)
            subst hT
            exact f3 W2.drew B3.drew j hj)
          have hTl : T.length = E - a := by rw [hT, HNl.out, HEN.out]
          rw [hTl] at v1
          have HT2 : Hid (T = (b.drop a).take N) := hT
          have O4 := O3
          clear h3 hb bel B3 C hne hTl hT hE hrl hl hcap hn g1 g2 hr h1 h0 ha hx' nq O1
          go_region
          all_goals
            go_wp2
            go_ret
            exact ⟨by rw [HR.out, ← HT2.out]; rfl, by rw [HR.out]; exact ⟨_, HAE.out, Or.inr rfl, HX3.out⟩, ⟨O4.os, O4.tape, O4.output, O4.size, O4.block⟩⟩
end Go.Proofs.YtgecgemfniiciaaGreatDoor
