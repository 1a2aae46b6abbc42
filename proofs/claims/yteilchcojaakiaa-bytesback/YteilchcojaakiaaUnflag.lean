/-
  What is proved: the functions checkCounts and Unflag of package bytes take counts of at most 400 flags apart, and nothing that was there has turned.
  Conditions: as each theorem says.
-/
import Derived.Test.YteilchcojaakiaaFlags
namespace Go.Proofs.Yteilchcojaakiaa
open Go.RowKit

theorem unfl_take (l : List Int) (k : Nat) (h : k < l.length) : unfl (l.take (k + 1)) = unfl (l.take k) ++ List.replicate l[k].toNat (k % 2 == 1) := by
  rw [take_snoc l k h, unfl_snoc, List.length_take, Nat.min_eq_left (by omega)]

theorem unfl_le (l : List Int) : ∀ (d k : Nat), l.length - k ≤ d → k ≤ l.length → (unfl (l.take k)).length ≤ (unfl l).length := by
  intro d
  induction d with
  | zero => intro k h1 h2; rw [List.take_of_length_le (by omega)]; exact Nat.le_refl _
  | succ d ih =>
    intro k h1 h2
    by_cases h : k < l.length
    · have := ih (k + 1) (by omega) (by omega)
      rw [unfl_take l k h, List.length_append] at this
      omega
    · rw [List.take_of_length_le (by omega)]; exact Nat.le_refl _

set_option maxHeartbeats 2000000 in
theorem counts_any (v : Value) (l : List Int) (w : World) (hv : IsInts w v l) (hc : Counts l) (ht : (unfl l).length ≤ 400) (hlast : l = [] ∨ ∃ r m, l = r ++ [m] ∧ 1 ≤ m) :
    Calls Try.prog 22 #[v] w fun e w' => e = .returned .nilIface ∧ Below w.heap.size w w' := by
  obtain ⟨a, cap, rfl, h1, h2, hr, h3⟩ := hv
  go_enter Try.func22, Try.ntmps22
  go_wp2_with fail
  go_loop [10] (fun i => ∃ k : Nat, k ≤ l.length ∧ i = .int .i64 k) (fun i => l.length - (RowKit.intOf i).toNat)
  case atStart => exact ⟨0, Nat.zero_le _, rfl⟩
  case round =>
    obtain ⟨k, hk, rfl⟩ := hrel
    by_cases hlt : k < l.length
    · obtain ⟨b, off, rfl, h4, h5⟩ := h3 (fun e => by rw [e] at hlt; simp at hlt)
      have x0 := h5 k hlt
      have hck := hc k hlt
      have g1 : (k : Int) < l.length := by omega
      clear h3 h5 hr hlast
      by_cases hk0 : k = 0
      · subst hk0
        simp only [if_true] at hck
        rw [Nat.add_zero] at x0
        have g2 : ¬ l[0] < 0 := by omega
        generalize l[0] = y at *
        go_wp2
        go_round
        case rel => exact ⟨0 + 1, by omega, by go_num⟩
        case measure => simp [RowKit.intOf]; omega
      · rw [if_neg hk0] at hck
        have g2 : ¬ l[k] < 1 := by omega
        generalize l[k] = y at *
        by_cases hk1 : k = 1
        · subst hk1
          have g3 : (1 : Int) ≤ 1 := by omega
          go_wp2
          go_round
          case rel => exact ⟨1 + 1, by omega, by go_num⟩
          case measure => simp [RowKit.intOf]; omega
        · have g3 : ¬ (k : Int) ≤ 1 := by omega
          go_wp2
          go_round
          case rel => exact ⟨k + 1, by omega, by go_num⟩
          case measure => simp [RowKit.intOf]; omega
    · have g1 : ¬ (k : Int) < l.length := by omega
      go_wp2_with fail
      go_loop [5, 23] (fun q i => ∃ k : Nat, k ≤ l.length ∧ i = .int .i64 k ∧ q = .int .i64 (400 - ((unfl (l.take k)).length : Int))) (fun _ i => l.length - (RowKit.intOf i).toNat)
      case atStart => exact ⟨0, Nat.zero_le _, rfl, by simp [unfl, unflF]⟩
      case round =>
        clear g1 hk
        obtain ⟨k, hk, rfl, rfl⟩ := hrel
        by_cases hlt : k < l.length
        · obtain ⟨b, off, rfl, h4, h5⟩ := h3 (fun e => by rw [e] at hlt; simp at hlt)
          have x0 := h5 k hlt
          have hck := hc k hlt
          have g1 : (k : Int) < l.length := by omega
          have e1 : (unfl (l.take (k + 1))).length = (unfl (l.take k)).length + l[k].toNat := by rw [unfl_take l k hlt, List.length_append, List.length_replicate]
          have e2 := unfl_le l (l.length - (k + 1)) (k + 1) (Nat.le_refl _) hlt
          have e3 : 0 ≤ l[k] := by split at hck <;> omega
          have HQ : Hid ((400 : Int) - ((unfl (l.take k)).length : Int) - l[k] = 400 - ((unfl (l.take (k + 1))).length : Int)) := by show _ = _; omega
          have g2 : ¬ (400 : Int) - ((unfl (l.take k)).length : Int) < l[k] := by omega
          have g3 : (unfl (l.take k)).length ≤ 400 := by omega
          have g4 : l[k] ≤ 400 := by omega
          clear h3 h5 hr hlast hck e1 e2
          generalize (unfl (l.take k)).length = S at *
          generalize l[k] = y at *
          go_wp2
          go_round
          case rel => exact ⟨k + 1, hlt, by go_num, by rw [HQ.out]⟩
          case measure => simp [RowKit.intOf]; omega
        · have g1 : ¬ (k : Int) < l.length := by omega
          generalize (unfl (l.take k)).length = S at *
          rcases hlast with rfl | ⟨r, m, rfl, hm⟩
          · go_wp2
            go_ret
            exact ⟨rfl, Below.refl _ _⟩
          · obtain ⟨b, off, rfl, h4, h5⟩ := h3 (by simp)
            by_cases hr0 : r = []
            · subst hr0
              have x0 := h5 0 (by simp)
              simp at x0
              have hm0 : (m == 0) = false := by rw [beq_eq_false_iff_ne]; omega
              clear h3 h5
              go_wp2
              go_ret
              exact ⟨rfl, Below.refl _ _⟩
            · have hrl := List.length_pos_iff.2 hr0
              have hne : (((r ++ [m]).length : Int) == 1) = false := by rw [beq_eq_false_iff_ne, List.length_append, List.length_singleton]; omega
              clear h3 h5 hr hc ht
              generalize (r ++ [m]).length = N at *
              go_wp2
              go_ret
              exact ⟨rfl, Below.refl _ _⟩

set_option maxHeartbeats 4000000 in
theorem unflag_any (v : Value) (l : List Int) (w : World) (hv : IsInts w v l) (hc : Counts l) (ht : (unfl l).length ≤ 400) (hlast : l = [] ∨ ∃ r m, l = r ++ [m] ∧ 1 ≤ m) :
    Calls Try.prog 16 #[v] w fun e w' => ∃ u, e = .returned (.tuple #[u, .nilIface]) ∧ RowF w.heap.size u (unfl l) w' ∧ Below w.heap.size w w' := by
  obtain ⟨i0, hi, hz0, hz1, hz2⟩ := info_parts infoF
  have C := counts_any v l w hv hc ht hlast
  obtain ⟨a, cap, rfl, h1, h2, hr, h3⟩ := hv
  go_enter Try.func16, Try.ntmps16
  go_wp2_with fail
  refine C.mono ?_
  rintro e w1 ⟨rfl, b1⟩
  clear C
  go_wp2_with fail
  go_loopw [2, 14] (fun o i wr => ∃ k : Nat, k ≤ l.length ∧ i = .int .i64 k ∧ RowF w.heap.size o (unfl (l.take k)) wr ∧ Below w.heap.size w wr) (fun _ i _ => l.length - (RowKit.intOf i).toNat)
  case atStart => exact ⟨0, Nat.zero_le _, rfl, World.ownsRow_nil w1 w.heap.size 4 1, b1⟩
  case round =>
    clear b1
    obtain ⟨k, hk, rfl, hh, hbel⟩ := hrel
    by_cases hlt : k < l.length
    · obtain ⟨b, off, rfl, h4, h5⟩ := h3 (fun e => by rw [e] at hlt; simp at hlt)
      have x0 : wr.cell? ⟨b, off + k, none⟩ = some (.int .i64 l[k]) := by rw [hbel.cell (p := ⟨b, off + k, none⟩) h4]; exact h5 k hlt
      have hck := hc k hlt
      have e3 : 0 ≤ l[k] := by split at hck <;> omega
      have g1 : (k : Int) < l.length := by omega
      have e1 := unfl_take l k hlt
      have e2 := unfl_le l (l.length - (k + 1)) (k + 1) (Nat.le_refl _) hlt
      have e4 : (unfl (l.take (k + 1))).length = (unfl (l.take k)).length + l[k].toNat := by rw [e1, List.length_append, List.length_replicate]
      have HU : Hid (unfl (l.take (k + 1)) = unfl (l.take k) ++ List.replicate l[k].toNat (k % 2 == 1)) := e1
      obtain ⟨M, hM⟩ : ∃ M : Nat, l[k] = M := ⟨l[k].toNat, by omega⟩
      rw [hM] at x0 HU e4
      rw [Int.toNat_natCast] at HU e4
      have hS : (unfl (l.take k)).length + M ≤ 400 := by omega
      clear h3 h5 hr hlast hck e1 e2 e3 e4 hM hc
      generalize unfl (l.take k) = L at *
      have hp : ∃ q : Bool, (k % 2 == 1) = q ∧ (((k : Int) % 2) == 1) = q := by
        refine ⟨_, rfl, ?_⟩
        rw [Bool.eq_iff_iff]
        simp
        omega
      obtain ⟨q, hq1, hq2⟩ := hp
      rw [hq1] at HU
      clear hq1
      have hl := rowF_len hh
      go_wp2_with fail
      go_loopw [2, 20] (fun o j w4 => ∃ t : Nat, t ≤ M ∧ j = .int .i64 t ∧ RowF w.heap.size o (L ++ List.replicate t q) w4 ∧ Below w.heap.size w w4) (fun _ j _ => M - (RowKit.intOf j).toNat)
      case atStart => exact ⟨0, Nat.zero_le _, rfl, by simpa using hh, hbel⟩
      case round =>
        clear hh hbel hl x0
        obtain ⟨t, ht2, rfl, hh, hb2⟩ := hrel
        have hzb := hb2.size
        have hl := rowF_len hh
        by_cases hlm : t < M
        · have g3 : (t : Int) < M := by omega
          have HT : Hid (L ++ List.replicate (t + 1) q = (L ++ List.replicate t q) ++ [q]) := by
            show _ = _
            rw [List.replicate_succ', List.append_assoc]
          have hQ : (L ++ List.replicate t q).length ≤ 400 := by rw [List.length_append, List.length_replicate]; omega
          generalize L ++ List.replicate t q = Q at *
          go_wp2_with (first | (at_builtin; refine wpList_append_own _ rfl _ _ 24 rfl w.heap.size 4 i0 (.bool false) 1 1 Try.underlying24 hi hz0 hz1 hz2 rfl (by decide) _ _ _ rfl (hh.alloc _) ⟨wr.heap.size, 0, none⟩ 1 1 ([q].map Value.bool) rfl rfl ?c1 ?c2 ?c3 ?c4 ?c5 ?_))
          case c1 =>
            intro j u hj
            match j, hj with
            | 0, hj => simp at hj; subst hj; simp [Addr.add]
          case c2 => intro u hu; simp at hu; subst hu; rfl
          case c3 => unfold maxLen; omega
          case c4 => omega
          case c5 => simp; omega
          intro v2 w5 hown hgrow _
          obtain ⟨R2, B2⟩ := rowF_grown (m := [q]) hh hb2 hzb hgrow hown
          clear hown hgrow
          go_wp2
          go_roundw
          case rel => exact ⟨t + 1, hlm, by go_num, by rw [HT.out]; exact R2, B2⟩
          case measure => simp [RowKit.intOf]; omega
        · have hte : t = M := by omega
          subst hte
          have g3 : ¬ (t : Int) < t := by omega
          rw [← HU.out] at hh
          go_wp2_with fail
          go_roundw
          case rel => exact ⟨k + 1, hlt, by go_num, hh, hb2⟩
          case measure => simp [RowKit.intOf]; omega
    · have hke : k = l.length := by omega
      subst hke
      have g1 : ¬ (l.length : Int) < l.length := by omega
      rw [List.take_of_length_le (Nat.le_refl _)] at hh
      clear hc hlast
      go_wp2
      go_returns
      exact ⟨_, rfl, hh, hbel⟩
end Go.Proofs.Yteilchcojaakiaa
