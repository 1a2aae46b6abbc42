/-
  What is proved: the law BytesRuns: called with any numbers and pieces it returns true, and nothing that was there has turned.
  Conditions: the lists lie in memory, the first has at most 1048576 numbers; the package variable errorType of package errors lies as the text lays it.
-/
import Derived.Test.YtkmjlpmjhffgbaaDoorSpreadWalk
import Derived.Test.YtkmjlpmjhffgbaaDoorPackWalk
import Derived.Test.YtkmjlpmjhffgbaaDoorSameInts
import Derived.Test.YtkmjlpmjhffgbaaDoorTold
namespace Go.Proofs.YtkmjlpmjhffgbaaDoor
open Go.RowKit

theorem spread_at {r : List Pc} (k : Nat) (hk : k < r.length) : spread r = spread (r.take k) ++ (List.replicate r[k].1.toNat r[k].2 ++ spread (r.drop (k + 1))) := by
  have e : r = r.take k ++ r[k] :: r.drop (k + 1) := by rw [← List.drop_eq_getElem_cons hk, List.take_append_drop]
  have e2 : spread (r[k] :: r.drop (k + 1)) = List.replicate r[k].1.toNat r[k].2 ++ spread (r.drop (k + 1)) := by unfold spread; rw [List.flatMap_cons]
  rw [← e2, ← spread_append, ← e]

theorem spread_len {r : List Pc} (k : Nat) (hk : k < r.length) : (spread (r.take (k + 1))).length = (spread (r.take k)).length + r[k].1.toNat := by
  rw [take_snoc r k hk]
  obtain ⟨m, x⟩ := r[k]
  rw [spread_snoc, List.length_append, List.length_replicate]

theorem spread_in {r : List Pc} {l : List Int} (hs : spread r = l) (k : Nat) (hk : k < r.length) : (spread (r.take k)).length + r[k].1.toNat ≤ l.length ∧ ∀ t, t < r[k].1.toNat → ∃ h : (spread (r.take k)).length + t < l.length, l[(spread (r.take k)).length + t] = r[k].2 := by
  have e := spread_at k hk
  rw [hs] at e
  have hl : (spread (r.take k)).length + r[k].1.toNat ≤ l.length := by rw [e, List.length_append, List.length_append, List.length_replicate]; omega
  refine ⟨hl, fun t ht => ⟨by omega, ?_⟩⟩
  rw [List.getElem_of_eq e (by omega), List.getElem_append_right (by omega), List.getElem_append_left (by rw [List.length_replicate]; omega), List.getElem_replicate]

theorem total_take (l : List Int) (k : Nat) (h : k < l.length) : total (l.take (k + 1)) = wrap64 (total (l.take k) + l[k]) := by rw [take_snoc l k h, total_snoc]

set_option maxRecDepth 100000 in
set_option maxHeartbeats 16000000 in
theorem runsLaw_any (vl vp : Value) (l : List Int) (p : List Pc) (w : World) (hl : IsInts w vl l) (hp : IsPieces w vp p) (hsm : l.length ≤ 1048576) (he : Et w) :
    Calls Tryd.prog 4 #[vl, vp] w fun e w' => e = .returned (.bool true) ∧ Below w.heap.size w w' := by
  obtain ⟨t0, hi, hz0, hz1, hz2⟩ := info_parts infoI
  obtain ⟨al, cl, rfl, hl1, hl2, hlr, hl3⟩ := id hl
  obtain ⟨ap, cp, rfl, hp1, hp2, hpr, hp3⟩ := id hp
  go_enter Tryd.func4, Tryd.ntmps4
  go_wp2_with fail
  refine (runs_any _ l w hl (by omega)).mono ?_
  rintro e w1 ⟨u1, r, rfl, hc, hs, hrl, hrm, R1, b1⟩
  have hrr : ∀ q ∈ r, I64 q.1 ∧ I64 q.2 := fun q hq => ⟨by have h1 := hc.1 q hq; have h2 := hrm q hq; unfold I64; omega, hlr _ (hs ▸ spread_mem hc q hq)⟩
  obtain ⟨ar, cr, rfl, hr1, hr2, _, hr3⟩ := R1.pieces (by omega) hrr
  clear R1
  go_wp2_with fail
  go_loopw [6, 7] (fun a i wr => ∃ k : Nat, k ≤ r.length ∧ i = .int .i64 k ∧ a = .int .i64 ((spread (r.take k)).length : Nat) ∧ Below w1.heap.size w1 wr) (fun _ i _ => r.length - (RowKit.intOf i).toNat)
  case atStart => exact ⟨0, Nat.zero_le _, rfl, rfl, Below.refl _ _⟩
  case round =>
    obtain ⟨k, hk, rfl, rfl, hbel⟩ := hrel
    by_cases hlt : k < r.length
    · obtain ⟨b, off, rfl, h4, h5⟩ := hr3 (fun e => by rw [e] at hlt; simp at hlt)
      have CR : Hid (∀ (W : World), Below w1.heap.size w1 W → ∀ i (h : i < r.length), W.cell? ⟨b, off + i * 2, none⟩ = some (.int .i64 r[i].1) ∧ W.cell? ⟨b, off + i * 2 + 1, none⟩ = some (.int .i64 r[i].2)) :=
        fun W hW i hi => ⟨by rw [hW.cell (p := ⟨b, off + i * 2, none⟩) h4]; exact (h5 i hi).1, by rw [hW.cell (p := ⟨b, off + i * 2 + 1, none⟩) h4]; exact (h5 i hi).2⟩
      obtain ⟨x0, x1⟩ := CR.out wr hbel k hlt
      obtain ⟨hin1, hin2⟩ := spread_in hs k hlt
      have HN : Hid ((spread (r.take (k + 1))).length = (spread (r.take k)).length + r[k].1.toNat) := spread_len k hlt
      have hm1 := hc.1 r[k] (List.getElem_mem hlt)
      have hprev : ∀ (h : k - 1 < r.length), k ≠ 0 → (r[k].2 == r[k - 1].2) = false := by
        intro h h0
        have := hc.2 (k - 1) (by omega)
        rw [beq_eq_false_iff_ne]
        intro e
        apply this
        rw [← e]
        congr 2
        omega
      have HI : Hid (∀ t, t < r[k].1.toNat → ∃ h : (spread (r.take k)).length + t < l.length, l[(spread (r.take k)).length + t] = r[k].2) := hin2
      obtain ⟨⟨m, x⟩, hmx⟩ : ∃ q, r[k] = q := ⟨_, rfl⟩
      simp only [hmx] at x0 x1 hin1 HN hm1 hprev HI
      obtain ⟨M, rfl⟩ : ∃ M : Nat, m = M := ⟨m.toNat, by omega⟩
      simp only [Int.toNat_natCast] at hin1 HN HI
      have CK : Hid (∀ (W : World), Below w1.heap.size w1 W → W.cell? ⟨b, off + k * 2, none⟩ = some (.int .i64 (M : Int)) ∧ W.cell? ⟨b, off + k * 2 + 1, none⟩ = some (.int .i64 x)) := fun W hW => by have := CR.out W hW k hlt; rw [hmx] at this; exact this
      clear h5 hin2 hmx hr3
      generalize (spread (r.take k)).length = A at *
      have d1 : decide ((M : Int) < 1) = false := by rw [decide_eq_false_iff_not]; omega
      have d2 : decide ((l.length : Int) - A < M) = false := by rw [decide_eq_false_iff_not]; omega
      have dw : IntKind.i64.wrap ((l.length : Int) - A) = (l.length : Int) - A := IntWalk.i64_in _ (by omega)
      have g1 : (k : Int) < r.length := by omega
      by_cases hk0 : k = 0
      · subst hk0
        clear hprev
        simp only [Nat.zero_mul, Nat.add_zero] at x0 x1
        go_wp2
        go_quiet (fail)
        go_wp2_with fail
        go_loopw [8] (fun j w2 => ∃ t : Nat, t ≤ M ∧ j = .int .i64 t ∧ Below w1.heap.size w1 w2) (fun j _ => M - (RowKit.intOf j).toNat)
        case atStart => exact ⟨0, Nat.zero_le _, rfl, below_drew hbel nq⟩
        case round =>
          clear hbel x0 x1 
          obtain ⟨t, ht, rfl, hbel⟩ := hrel
          obtain ⟨x0, x1⟩ := CK.out wr hbel
          simp only [Nat.zero_mul, Nat.add_zero] at x0 x1
          by_cases htm : t < M
          · obtain ⟨hat, hlx⟩ := HI.out t htm
            obtain ⟨b2, off2, rfl, k4, k5⟩ := hl3 (fun e => by rw [e] at hat; simp at hat)
            have y2 : wr.cell? ⟨b2, off2 + (A + t), none⟩ = some (.int .i64 x) := by rw [hbel.cell (p := ⟨b2, off2 + (A + t), none⟩) (Nat.lt_of_lt_of_le k4 b1.size), b1.cell (p := ⟨b2, off2 + (A + t), none⟩) k4, ← hlx]; exact k5 (A + t) hat
            have g4 : (t : Int) < M := by omega
            have g5 : (A : Int) + t < l.length := by omega
            have d5 : (x == x) = true := by simp
            clear hlx k5 hl3
            go_wp2
            go_quiet (fail)
            go_wp2_with fail
            go_roundw
            case rel => exact ⟨t + 1, htm, by go_num, below_drew hbel nq⟩
            case measure => simp [RowKit.intOf]; omega
          · obtain rfl : t = M := by omega
            have g4 : ¬ (t : Int) < t := by omega
            go_wp2_with fail
            go_roundw
            case rel => exact ⟨0 + 1, hlt, by go_num, by rw [HN.out]; go_num, hbel⟩
            case measure => simp [RowKit.intOf]; omega
      · have hk1 : k - 1 < r.length := by omega
        have hpv := hprev hk1 hk0
        obtain ⟨y0, y1⟩ := CR.out wr hbel (k - 1) hk1
        have g3 : 0 < k := by omega
        have d3 : decide (0 < k) = true := by rw [decide_eq_true_eq]; omega
        have dw3 : IntKind.i64.wrap ((k : Int) - 1) = (k : Int) - 1 := IntWalk.i64_in _ (by omega)
        generalize r[k - 1] = q at *
        clear hprev
        go_wp2
        go_quiet (fail)
        go_wp2_with fail
        go_loopw [8] (fun j w2 => ∃ t : Nat, t ≤ M ∧ j = .int .i64 t ∧ Below w1.heap.size w1 w2) (fun j _ => M - (RowKit.intOf j).toNat)
        case atStart => exact ⟨0, Nat.zero_le _, rfl, below_drew hbel nq⟩
        case round =>
          clear hbel x0 x1 y0 y1
          obtain ⟨t, ht, rfl, hbel⟩ := hrel
          obtain ⟨x0, x1⟩ := CK.out wr hbel
          by_cases htm : t < M
          · obtain ⟨hat, hlx⟩ := HI.out t htm
            obtain ⟨b2, off2, rfl, k4, k5⟩ := hl3 (fun e => by rw [e] at hat; simp at hat)
            have y2 : wr.cell? ⟨b2, off2 + (A + t), none⟩ = some (.int .i64 x) := by rw [hbel.cell (p := ⟨b2, off2 + (A + t), none⟩) (Nat.lt_of_lt_of_le k4 b1.size), b1.cell (p := ⟨b2, off2 + (A + t), none⟩) k4, ← hlx]; exact k5 (A + t) hat
            have g4 : (t : Int) < M := by omega
            have g5 : (A : Int) + t < l.length := by omega
            have d5 : (x == x) = true := by simp
            clear hlx k5 hl3
            go_wp2
            go_quiet (fail)
            go_wp2_with fail
            go_roundw
            case rel => exact ⟨t + 1, htm, by go_num, below_drew hbel nq⟩
            case measure => simp [RowKit.intOf]; omega
          · obtain rfl : t = M := by omega
            have g4 : ¬ (t : Int) < t := by omega
            go_wp2_with fail
            go_roundw
            case rel => exact ⟨k + 1, hlt, by go_num, by rw [HN.out]; go_num, hbel⟩
            case measure => simp [RowKit.intOf]; omega
    · obtain rfl : k = r.length := by omega
      have hA : (spread (r.take r.length)).length = l.length := by rw [List.take_of_length_le (Nat.le_refl _), hs]
      rw [hA]
      have g1 : ¬ (r.length : Int) < r.length := by omega
      clear hr3 hrr hrm hc hs hA
      have B1 : Below w.heap.size w wr := b1.trans (hbel.mono b1.size)
      clear hbel b1 hr1
      go_wp2_with fail
      go_loopw [9, 10, 11] (fun e o i wr => ∃ (k : Nat) (L : List Int) (c : Int), k ≤ p.length ∧ i = .int .i64 k ∧ e = .int .i64 c ∧ RowI w.heap.size o L wr ∧ L.length ≤ 400 ∧ ((c = 0 ∧ spr L (p.drop k) = spr [] p) ∨ (c = 1 ∧ spr [] p = .error 1) ∨ (c = 4 ∧ spr [] p = .error 4)) ∧ Below w.heap.size w wr) (fun _ _ i _ => p.length - (RowKit.intOf i).toNat)
      case atStart => exact ⟨0, [], 0, Nat.zero_le _, rfl, rfl, World.ownsRow_nil wr w.heap.size 3 1, by simp, Or.inl ⟨rfl, by simp⟩, B1⟩
      case round =>
        clear B1
        obtain ⟨k, L, c, hk, rfl, rfl, hh, hL, ⟨rfl, hs⟩ | ⟨rfl, hs⟩ | ⟨rfl, hs⟩, hbel⟩ := hrel
        · have hz := hbel.size
          by_cases hlt : k < p.length
          · obtain ⟨b, off, rfl, h4, h5⟩ := hp3 (fun e => by rw [e] at hlt; simp at hlt)
            have CK : Hid (∀ (W : World), Below w.heap.size w W → W.cell? ⟨b, off + k * 2, none⟩ = some (.int .i64 p[k].1) ∧ W.cell? ⟨b, off + k * 2 + 1, none⟩ = some (.int .i64 p[k].2)) :=
              fun W hW => ⟨by rw [hW.cell (p := ⟨b, off + k * 2, none⟩) h4]; exact (h5 k hlt).1, by rw [hW.cell (p := ⟨b, off + k * 2 + 1, none⟩) h4]; exact (h5 k hlt).2⟩
            have hrk := hpr p[k] (List.getElem_mem hlt)
            rw [List.drop_eq_getElem_cons hlt, spr] at hs
            obtain ⟨⟨m, x⟩, hmx⟩ : ∃ q, p[k] = q := ⟨_, rfl⟩
            simp only [hmx] at CK hs hrk
            unfold I64 at hrk
            obtain ⟨x0, x1⟩ := CK.out wr hbel
            have g1 : (k : Int) < p.length := by omega
            obtain ⟨aL, cL, rfl⟩ := rowI_len hh
            clear h5 hp3 hmx
            by_cases hm1 : m < 1
            · rw [if_pos hm1] at hs
              have HS : Hid (spr [] p = .error 1) := hs.symm
              have g2 : ¬ (0 : Int) < m := by omega
              clear hs
              go_wp2_with fail
              go_rounds 1
              go_roundw
              case rel => exact ⟨k + 1, L, 1, hlt, by go_num, rfl, hh, hL, Or.inr (Or.inl ⟨rfl, HS.out⟩), hbel⟩
              case measure => simp [RowKit.intOf]; omega
            · rw [if_neg hm1] at hs
              by_cases hm2 : 400 - (L.length : Int) < m
              · rw [if_pos hm2] at hs
                have HS : Hid (spr [] p = .error 4) := hs.symm
                have g2 : (0 : Int) < m := by omega
                clear hs
                go_wp2_with fail
                go_rounds 1
                go_roundw
                case rel => exact ⟨k + 1, L, 4, hlt, by go_num, rfl, hh, hL, Or.inr (Or.inr ⟨rfl, HS.out⟩), hbel⟩
                case measure => simp [RowKit.intOf]; omega
              · rw [if_neg hm2] at hs
                have HS : Hid (spr (L ++ List.replicate m.toNat x) (p.drop (k + 1)) = spr [] p) := hs
                obtain ⟨M, rfl⟩ : ∃ M : Nat, m = M := ⟨m.toNat, by omega⟩
                rw [Int.toNat_natCast] at HS
                clear hs
                have hM : L.length + M ≤ 400 := by omega
                go_wp2_with fail
                go_loopw [10, 12] (fun o j w2 => ∃ t : Nat, t ≤ M ∧ j = .int .i64 t ∧ RowI w.heap.size o (L ++ List.replicate t x) w2 ∧ Below w.heap.size w w2) (fun _ j _ => M - (RowKit.intOf j).toNat)
                case atStart => exact ⟨0, Nat.zero_le _, rfl, by simpa using hh, hbel⟩
                case round =>
                  clear hh hbel x0 x1
                  obtain ⟨t, ht, rfl, hh, hb2⟩ := hrel
                  obtain ⟨x0, x1⟩ := CK.out wr hb2
                  have hzb := hb2.size
                  have hl' := rowI_len hh
                  by_cases hlm : t < M
                  · have g2 : (t : Int) < M := by omega
                    have HT : Hid (L ++ List.replicate (t + 1) x = (L ++ List.replicate t x) ++ [x]) := by
                      show _ = _
                      rw [List.replicate_succ', List.append_assoc]
                    have hQ : (L ++ List.replicate t x).length ≤ 400 := by rw [List.length_append, List.length_replicate]; omega
                    generalize L ++ List.replicate t x = Q at *
                    go_wp2_with (first | (at_builtin; refine wpList_append_own _ rfl _ _ 38 rfl w.heap.size 3 t0 (.int .i64 0) 1 8 Tryd.underlying38 hi hz0 hz1 hz2 rfl (by decide) _ _ _ rfl (hh.alloc _) ⟨wr.heap.size, 0, none⟩ 1 1 (intCells [x]) rfl rfl ?c1 ?c2 ?c3 ?c4 ?c5 ?_))
                    case c1 =>
                      intro j u hj
                      match j, hj with
                      | 0, hj => simp at hj; subst hj; simp [Addr.add]
                    case c2 => intro u hu; simp at hu; subst hu; rfl
                    case c3 => unfold maxLen; omega
                    case c4 => omega
                    case c5 => simp; omega
                    intro v2 w5 hown hgrow _
                    obtain ⟨R2, B2⟩ := rowI_grown (m := [x]) hh hb2 hzb hgrow hown
                    clear hown hgrow
                    go_wp2
                    go_roundw
                    case rel => exact ⟨t + 1, hlm, by go_num, by rw [HT.out]; exact R2, B2⟩
                    case measure => simp [RowKit.intOf]; omega
                  · obtain rfl : t = M := by omega
                    have g2 : ¬ (t : Int) < t := by omega
                    have hQ : (L ++ List.replicate t x).length ≤ 400 := by rw [List.length_append, List.length_replicate]; omega
                    generalize L ++ List.replicate t x = Q at *
                    go_wp2_with fail
                    go_roundw
                    case rel => exact ⟨k + 1, Q, 0, hlt, by go_num, rfl, hh, hQ, Or.inl ⟨rfl, HS.out⟩, hb2⟩
                    case measure => simp [RowKit.intOf]; omega
          · obtain rfl : k = p.length := by omega
            rw [List.drop_length, spr] at hs
            have HS : Hid (spr [] p = .ok L) := hs.symm
            have g1 : ¬ (p.length : Int) < p.length := by omega
            obtain ⟨aL, cL, rfl⟩ := rowI_len hh
            clear hs
            go_wp2_with fail
            refine (spread_any _ p wr (hp.below hbel)).mono ?_
            rintro e w4 ⟨⟨u, L', hL', rfl, R4⟩ | ⟨c', hc', rfl⟩, b4⟩
            · obtain rfl : L = L' := by have := HS.out.symm.trans hL'; injection this
              have B4 : Below w.heap.size w w4 := hbel.trans (b4.mono hbel.size)
              have hLr : ∀ x ∈ L, I64 x := spr_range p [] L (by simp) (fun q hq => (hpr q hq).2) hL'
              have I4 := R4.ints (by omega) hLr
              have I1 := (hh.ints (by omega) hLr).below b4
              clear hL' HS R4 hh
              go_wp2_with fail
              refine (error_nil w4).mono ?_
              rintro e w5 ⟨rfl, b5⟩
              have B5 : Below w.heap.size w w5 := B4.trans (b5.mono B4.size)
              go_wp2_with fail
              refine (ints_any _ _ L L w5 (I4.below b5) (I1.below b5)).mono ?_
              rintro e w6 ⟨rfl, b6⟩
              have B6 : Below w.heap.size w w6 := B5.trans (b6.mono B5.size)
              rw [decide_eq_true (rfl : L = L)]
              clear b4 b5 b6 B4 B5 I4 I1 hbel
              go_wp2_with fail
              refine (deltas_any _ l w6 (hl.below B6)).mono ?_
              rintro e w7 ⟨u7, rfl, R7, b7⟩
              have B7 : Below w.heap.size w w7 := B6.trans (b7.mono B6.size)
              go_wp2_with fail
              refine (sums_any _ l w7 (hl.below B7)).mono ?_
              rintro e w8 ⟨u8, rfl, R8, b8⟩
              have B8 : Below w.heap.size w w8 := B7.trans (b8.mono B7.size)
              obtain ⟨a7, c7, rfl, _, _, _, D7⟩ := (R7.ints (by rw [deltas_len]; omega) (deltas_range l)).below b8
              obtain ⟨a8, c8, rfl, _, _, _, D8⟩ := R8.ints (by rw [sums_len]; omega) (sums_range l)
              simp only [deltas_len, sums_len]
              clear R7 R8 b7 b8 B6 B7
              go_wp2_with fail
              go_loopw [19, 20, 21] (fun y z i wr => ∃ k : Nat, k ≤ l.length ∧ i = .int .i64 k ∧ y = .int .i64 (prev l k) ∧ z = .int .i64 (total (l.take k)) ∧ Below w8.heap.size w8 wr) (fun _ _ i _ => l.length - (RowKit.intOf i).toNat)
              case atStart => exact ⟨0, Nat.zero_le _, rfl, rfl, rfl, Below.refl _ _⟩
              case round =>
                obtain ⟨k, hk, rfl, rfl, rfl, hbel⟩ := hrel
                by_cases hlt : k < l.length
                · have hne : l ≠ [] := fun e => by rw [e] at hlt; simp at hlt
                  obtain ⟨b, off, rfl, h4, h5⟩ := hl3 hne
                  obtain ⟨bd, offd, rfl, d4, d5⟩ := D7 (fun e => hne (List.length_eq_zero_iff.1 (by rw [← deltas_len, e]; rfl)))
                  obtain ⟨bs, offs, rfl, s4, s5⟩ := D8 (fun e => hne (List.length_eq_zero_iff.1 (by rw [← sums_len, e]; rfl)))
                  have x0 : wr.cell? ⟨b, off + k, none⟩ = some (.int .i64 l[k]) := by rw [hbel.cell (p := ⟨b, off + k, none⟩) (Nat.lt_of_lt_of_le h4 B8.size), B8.cell (p := ⟨b, off + k, none⟩) h4]; exact h5 k hlt
                  have x1 : wr.cell? ⟨bd, offd + k, none⟩ = some (.int .i64 (wrap64 (l[k] - prev l k))) := by rw [hbel.cell (p := ⟨bd, offd + k, none⟩) d4, ← deltas_at l k hlt]; exact d5 k (by rw [deltas_len]; exact hlt)
                  have x2 : wr.cell? ⟨bs, offs + k, none⟩ = some (.int .i64 (wrap64 (total (l.take k) + l[k]))) := by rw [hbel.cell (p := ⟨bs, offs + k, none⟩) s4, ← sums_at l k hlt]; exact s5 k (by rw [sums_len]; exact hlt)
                  have HP : Hid (prev l (k + 1) = l[k]) := prev_succ l k hlt
                  have HT : Hid (total (l.take (k + 1)) = wrap64 (total (l.take k) + l[k])) := total_take l k hlt
                  have g1 : (k : Int) < l.length := by omega
                  clear h5 d5 s5 hl3 D7 D8 hne
                  generalize l[k] = x at *
                  generalize prev l k = y at *
                  generalize total (l.take k) = z at *
                  obtain ⟨dd, hdd⟩ : ∃ dd, wrap64 (x - y) = dd := ⟨_, rfl⟩
                  obtain ⟨ss, hss⟩ : ∃ ss, wrap64 (z + x) = ss := ⟨_, rfl⟩
                  have hdd2 : IntKind.i64.wrap (x - y) = dd := (IntWalk.i64_left _).trans hdd
                  have hss2 : IntKind.i64.wrap (z + x) = ss := (IntWalk.i64_left _).trans hss
                  rw [hdd] at x1
                  rw [hss] at x2 HT
                  have q1 : (dd == dd) = true := by simp
                  have q2 : (ss == ss) = true := by simp
                  go_wp2
                  go_quiet (fail)
                  go_wp2
                  go_roundw
                  case rel => exact ⟨k + 1, hlt, by go_num, by rw [HP.out], by rw [HT.out], below_drew hbel nq⟩
                  case measure => simp [RowKit.intOf]; omega
                · have g1 : ¬ (k : Int) < l.length := by omega
                  generalize prev l k = y at *
                  generalize total (l.take k) = z at *
                  go_wp2
                  go_ret
                  exact ⟨rfl, B8.trans (hbel.mono B8.size)⟩
            · have := HS.out.symm.trans hc'
              cases this
        · have HS : Hid (spr [] p = .error 1) := hs
          clear hs
          by_cases hlt : k < p.length
          · have g1 : (k : Int) < p.length := by omega
            go_wp2_with fail
            refine (spread_any _ p wr (hp.below hbel)).mono ?_
            rintro e w4 ⟨⟨u, L', hL', rfl, R4⟩ | ⟨c', hc', rfl⟩, b4⟩
            · have := HS.out.symm.trans hL'
              cases this
            · obtain rfl : 1 = c' := by have := HS.out.symm.trans hc'; injection this
              have B4 : Below w.heap.size w w4 := hbel.trans (b4.mono hbel.size)
              clear hc' HS hh
              go_wp2_with fail
              refine (error_errno 1 w4 (he.below B4)).mono ?_
              rintro e w5 ⟨rfl, b5⟩
              have B5 : Below w.heap.size w w5 := B4.trans (b5.mono B4.size)
              have I0 : ∀ W, IsInts W (.slice none 0 0) [] := fun W => ⟨none, 0, rfl, by simp, by simp, by simp, fun h => absurd rfl h⟩
              go_wp2_with fail
              refine (ints_any _ _ [] [] w5 (I0 w5) (I0 w5)).mono ?_
              rintro e w6 ⟨rfl, b6⟩
              have B6 : Below w.heap.size w w6 := B5.trans (b6.mono B5.size)
              rw [decide_eq_true (rfl : ([] : List Int) = [])]
              clear b4 b5 b6 B4 B5 I0 hbel
              go_wp2_with fail
              refine (deltas_any _ l w6 (hl.below B6)).mono ?_
              rintro e w7 ⟨u7, rfl, R7, b7⟩
              have B7 : Below w.heap.size w w7 := B6.trans (b7.mono B6.size)
              go_wp2_with fail
              refine (sums_any _ l w7 (hl.below B7)).mono ?_
              rintro e w8 ⟨u8, rfl, R8, b8⟩
              have B8 : Below w.heap.size w w8 := B7.trans (b8.mono B7.size)
              obtain ⟨a7, c7, rfl, _, _, _, D7⟩ := (R7.ints (by rw [deltas_len]; omega) (deltas_range l)).below b8
              obtain ⟨a8, c8, rfl, _, _, _, D8⟩ := R8.ints (by rw [sums_len]; omega) (sums_range l)
              simp only [deltas_len, sums_len]
              clear R7 R8 b7 b8 B6 B7
              go_wp2_with fail
              go_loopw [19, 20, 21] (fun y z i wr => ∃ k : Nat, k ≤ l.length ∧ i = .int .i64 k ∧ y = .int .i64 (prev l k) ∧ z = .int .i64 (total (l.take k)) ∧ Below w8.heap.size w8 wr) (fun _ _ i _ => l.length - (RowKit.intOf i).toNat)
              case atStart => exact ⟨0, Nat.zero_le _, rfl, rfl, rfl, Below.refl _ _⟩
              case round =>
                obtain ⟨k, hk, rfl, rfl, rfl, hbel⟩ := hrel
                by_cases hlt : k < l.length
                · have hne : l ≠ [] := fun e => by rw [e] at hlt; simp at hlt
                  obtain ⟨b, off, rfl, h4, h5⟩ := hl3 hne
                  obtain ⟨bd, offd, rfl, d4, d5⟩ := D7 (fun e => hne (List.length_eq_zero_iff.1 (by rw [← deltas_len, e]; rfl)))
                  obtain ⟨bs, offs, rfl, s4, s5⟩ := D8 (fun e => hne (List.length_eq_zero_iff.1 (by rw [← sums_len, e]; rfl)))
                  have x0 : wr.cell? ⟨b, off + k, none⟩ = some (.int .i64 l[k]) := by rw [hbel.cell (p := ⟨b, off + k, none⟩) (Nat.lt_of_lt_of_le h4 B8.size), B8.cell (p := ⟨b, off + k, none⟩) h4]; exact h5 k hlt
                  have x1 : wr.cell? ⟨bd, offd + k, none⟩ = some (.int .i64 (wrap64 (l[k] - prev l k))) := by rw [hbel.cell (p := ⟨bd, offd + k, none⟩) d4, ← deltas_at l k hlt]; exact d5 k (by rw [deltas_len]; exact hlt)
                  have x2 : wr.cell? ⟨bs, offs + k, none⟩ = some (.int .i64 (wrap64 (total (l.take k) + l[k]))) := by rw [hbel.cell (p := ⟨bs, offs + k, none⟩) s4, ← sums_at l k hlt]; exact s5 k (by rw [sums_len]; exact hlt)
                  have HP : Hid (prev l (k + 1) = l[k]) := prev_succ l k hlt
                  have HT : Hid (total (l.take (k + 1)) = wrap64 (total (l.take k) + l[k])) := total_take l k hlt
                  have g1 : (k : Int) < l.length := by omega
                  clear h5 d5 s5 hl3 D7 D8 hne
                  generalize l[k] = x at *
                  generalize prev l k = y at *
                  generalize total (l.take k) = z at *
                  obtain ⟨dd, hdd⟩ : ∃ dd, wrap64 (x - y) = dd := ⟨_, rfl⟩
                  obtain ⟨ss, hss⟩ : ∃ ss, wrap64 (z + x) = ss := ⟨_, rfl⟩
                  have hdd2 : IntKind.i64.wrap (x - y) = dd := (IntWalk.i64_left _).trans hdd
                  have hss2 : IntKind.i64.wrap (z + x) = ss := (IntWalk.i64_left _).trans hss
                  rw [hdd] at x1
                  rw [hss] at x2 HT
                  have q1 : (dd == dd) = true := by simp
                  have q2 : (ss == ss) = true := by simp
                  go_wp2
                  go_quiet (fail)
                  go_wp2
                  go_roundw
                  case rel => exact ⟨k + 1, hlt, by go_num, by rw [HP.out], by rw [HT.out], below_drew hbel nq⟩
                  case measure => simp [RowKit.intOf]; omega
                · have g1 : ¬ (k : Int) < l.length := by omega
                  generalize prev l k = y at *
                  generalize total (l.take k) = z at *
                  go_wp2
                  go_ret
                  exact ⟨rfl, B8.trans (hbel.mono B8.size)⟩
          · have g1 : ¬ (k : Int) < p.length := by omega
            go_wp2_with fail
            refine (spread_any _ p wr (hp.below hbel)).mono ?_
            rintro e w4 ⟨⟨u, L', hL', rfl, R4⟩ | ⟨c', hc', rfl⟩, b4⟩
            · have := HS.out.symm.trans hL'
              cases this
            · obtain rfl : 1 = c' := by have := HS.out.symm.trans hc'; injection this
              have B4 : Below w.heap.size w w4 := hbel.trans (b4.mono hbel.size)
              clear hc' HS hh
              go_wp2_with fail
              refine (error_errno 1 w4 (he.below B4)).mono ?_
              rintro e w5 ⟨rfl, b5⟩
              have B5 : Below w.heap.size w w5 := B4.trans (b5.mono B4.size)
              have I0 : ∀ W, IsInts W (.slice none 0 0) [] := fun W => ⟨none, 0, rfl, by simp, by simp, by simp, fun h => absurd rfl h⟩
              go_wp2_with fail
              refine (ints_any _ _ [] [] w5 (I0 w5) (I0 w5)).mono ?_
              rintro e w6 ⟨rfl, b6⟩
              have B6 : Below w.heap.size w w6 := B5.trans (b6.mono B5.size)
              rw [decide_eq_true (rfl : ([] : List Int) = [])]
              clear b4 b5 b6 B4 B5 I0 hbel
              go_wp2_with fail
              refine (deltas_any _ l w6 (hl.below B6)).mono ?_
              rintro e w7 ⟨u7, rfl, R7, b7⟩
              have B7 : Below w.heap.size w w7 := B6.trans (b7.mono B6.size)
              go_wp2_with fail
              refine (sums_any _ l w7 (hl.below B7)).mono ?_
              rintro e w8 ⟨u8, rfl, R8, b8⟩
              have B8 : Below w.heap.size w w8 := B7.trans (b8.mono B7.size)
              obtain ⟨a7, c7, rfl, _, _, _, D7⟩ := (R7.ints (by rw [deltas_len]; omega) (deltas_range l)).below b8
              obtain ⟨a8, c8, rfl, _, _, _, D8⟩ := R8.ints (by rw [sums_len]; omega) (sums_range l)
              simp only [deltas_len, sums_len]
              clear R7 R8 b7 b8 B6 B7
              go_wp2_with fail
              go_loopw [19, 20, 21] (fun y z i wr => ∃ k : Nat, k ≤ l.length ∧ i = .int .i64 k ∧ y = .int .i64 (prev l k) ∧ z = .int .i64 (total (l.take k)) ∧ Below w8.heap.size w8 wr) (fun _ _ i _ => l.length - (RowKit.intOf i).toNat)
              case atStart => exact ⟨0, Nat.zero_le _, rfl, rfl, rfl, Below.refl _ _⟩
              case round =>
                obtain ⟨k, hk, rfl, rfl, rfl, hbel⟩ := hrel
                by_cases hlt : k < l.length
                · have hne : l ≠ [] := fun e => by rw [e] at hlt; simp at hlt
                  obtain ⟨b, off, rfl, h4, h5⟩ := hl3 hne
                  obtain ⟨bd, offd, rfl, d4, d5⟩ := D7 (fun e => hne (List.length_eq_zero_iff.1 (by rw [← deltas_len, e]; rfl)))
                  obtain ⟨bs, offs, rfl, s4, s5⟩ := D8 (fun e => hne (List.length_eq_zero_iff.1 (by rw [← sums_len, e]; rfl)))
                  have x0 : wr.cell? ⟨b, off + k, none⟩ = some (.int .i64 l[k]) := by rw [hbel.cell (p := ⟨b, off + k, none⟩) (Nat.lt_of_lt_of_le h4 B8.size), B8.cell (p := ⟨b, off + k, none⟩) h4]; exact h5 k hlt
                  have x1 : wr.cell? ⟨bd, offd + k, none⟩ = some (.int .i64 (wrap64 (l[k] - prev l k))) := by rw [hbel.cell (p := ⟨bd, offd + k, none⟩) d4, ← deltas_at l k hlt]; exact d5 k (by rw [deltas_len]; exact hlt)
                  have x2 : wr.cell? ⟨bs, offs + k, none⟩ = some (.int .i64 (wrap64 (total (l.take k) + l[k]))) := by rw [hbel.cell (p := ⟨bs, offs + k, none⟩) s4, ← sums_at l k hlt]; exact s5 k (by rw [sums_len]; exact hlt)
                  have HP : Hid (prev l (k + 1) = l[k]) := prev_succ l k hlt
                  have HT : Hid (total (l.take (k + 1)) = wrap64 (total (l.take k) + l[k])) := total_take l k hlt
                  have g1 : (k : Int) < l.length := by omega
                  clear h5 d5 s5 hl3 D7 D8 hne
                  generalize l[k] = x at *
                  generalize prev l k = y at *
                  generalize total (l.take k) = z at *
                  obtain ⟨dd, hdd⟩ : ∃ dd, wrap64 (x - y) = dd := ⟨_, rfl⟩
                  obtain ⟨ss, hss⟩ : ∃ ss, wrap64 (z + x) = ss := ⟨_, rfl⟩
                  have hdd2 : IntKind.i64.wrap (x - y) = dd := (IntWalk.i64_left _).trans hdd
                  have hss2 : IntKind.i64.wrap (z + x) = ss := (IntWalk.i64_left _).trans hss
                  rw [hdd] at x1
                  rw [hss] at x2 HT
                  have q1 : (dd == dd) = true := by simp
                  have q2 : (ss == ss) = true := by simp
                  go_wp2
                  go_quiet (fail)
                  go_wp2
                  go_roundw
                  case rel => exact ⟨k + 1, hlt, by go_num, by rw [HP.out], by rw [HT.out], below_drew hbel nq⟩
                  case measure => simp [RowKit.intOf]; omega
                · have g1 : ¬ (k : Int) < l.length := by omega
                  generalize prev l k = y at *
                  generalize total (l.take k) = z at *
                  go_wp2
                  go_ret
                  exact ⟨rfl, B8.trans (hbel.mono B8.size)⟩
        · have HS : Hid (spr [] p = .error 4) := hs
          clear hs
          by_cases hlt : k < p.length
          · have g1 : (k : Int) < p.length := by omega
            go_wp2_with fail
            refine (spread_any _ p wr (hp.below hbel)).mono ?_
            rintro e w4 ⟨⟨u, L', hL', rfl, R4⟩ | ⟨c', hc', rfl⟩, b4⟩
            · have := HS.out.symm.trans hL'
              cases this
            · obtain rfl : 4 = c' := by have := HS.out.symm.trans hc'; injection this
              have B4 : Below w.heap.size w w4 := hbel.trans (b4.mono hbel.size)
              clear hc' HS hh
              go_wp2_with fail
              refine (error_errno 4 w4 (he.below B4)).mono ?_
              rintro e w5 ⟨rfl, b5⟩
              have B5 : Below w.heap.size w w5 := B4.trans (b5.mono B4.size)
              have I0 : ∀ W, IsInts W (.slice none 0 0) [] := fun W => ⟨none, 0, rfl, by simp, by simp, by simp, fun h => absurd rfl h⟩
              go_wp2_with fail
              refine (ints_any _ _ [] [] w5 (I0 w5) (I0 w5)).mono ?_
              rintro e w6 ⟨rfl, b6⟩
              have B6 : Below w.heap.size w w6 := B5.trans (b6.mono B5.size)
              rw [decide_eq_true (rfl : ([] : List Int) = [])]
              clear b4 b5 b6 B4 B5 I0 hbel
              go_wp2_with fail
              refine (deltas_any _ l w6 (hl.below B6)).mono ?_
              rintro e w7 ⟨u7, rfl, R7, b7⟩
              have B7 : Below w.heap.size w w7 := B6.trans (b7.mono B6.size)
              go_wp2_with fail
              refine (sums_any _ l w7 (hl.below B7)).mono ?_
              rintro e w8 ⟨u8, rfl, R8, b8⟩
              have B8 : Below w.heap.size w w8 := B7.trans (b8.mono B7.size)
              obtain ⟨a7, c7, rfl, _, _, _, D7⟩ := (R7.ints (by rw [deltas_len]; omega) (deltas_range l)).below b8
              obtain ⟨a8, c8, rfl, _, _, _, D8⟩ := R8.ints (by rw [sums_len]; omega) (sums_range l)
              simp only [deltas_len, sums_len]
              clear R7 R8 b7 b8 B6 B7
              go_wp2_with fail
              go_loopw [19, 20, 21] (fun y z i wr => ∃ k : Nat, k ≤ l.length ∧ i = .int .i64 k ∧ y = .int .i64 (prev l k) ∧ z = .int .i64 (total (l.take k)) ∧ Below w8.heap.size w8 wr) (fun _ _ i _ => l.length - (RowKit.intOf i).toNat)
              case atStart => exact ⟨0, Nat.zero_le _, rfl, rfl, rfl, Below.refl _ _⟩
              case round =>
                obtain ⟨k, hk, rfl, rfl, rfl, hbel⟩ := hrel
                by_cases hlt : k < l.length
                · have hne : l ≠ [] := fun e => by rw [e] at hlt; simp at hlt
                  obtain ⟨b, off, rfl, h4, h5⟩ := hl3 hne
                  obtain ⟨bd, offd, rfl, d4, d5⟩ := D7 (fun e => hne (List.length_eq_zero_iff.1 (by rw [← deltas_len, e]; rfl)))
                  obtain ⟨bs, offs, rfl, s4, s5⟩ := D8 (fun e => hne (List.length_eq_zero_iff.1 (by rw [← sums_len, e]; rfl)))
                  have x0 : wr.cell? ⟨b, off + k, none⟩ = some (.int .i64 l[k]) := by rw [hbel.cell (p := ⟨b, off + k, none⟩) (Nat.lt_of_lt_of_le h4 B8.size), B8.cell (p := ⟨b, off + k, none⟩) h4]; exact h5 k hlt
                  have x1 : wr.cell? ⟨bd, offd + k, none⟩ = some (.int .i64 (wrap64 (l[k] - prev l k))) := by rw [hbel.cell (p := ⟨bd, offd + k, none⟩) d4, ← deltas_at l k hlt]; exact d5 k (by rw [deltas_len]; exact hlt)
                  have x2 : wr.cell? ⟨bs, offs + k, none⟩ = some (.int .i64 (wrap64 (total (l.take k) + l[k]))) := by rw [hbel.cell (p := ⟨bs, offs + k, none⟩) s4, ← sums_at l k hlt]; exact s5 k (by rw [sums_len]; exact hlt)
                  have HP : Hid (prev l (k + 1) = l[k]) := prev_succ l k hlt
                  have HT : Hid (total (l.take (k + 1)) = wrap64 (total (l.take k) + l[k])) := total_take l k hlt
                  have g1 : (k : Int) < l.length := by omega
                  clear h5 d5 s5 hl3 D7 D8 hne
                  generalize l[k] = x at *
                  generalize prev l k = y at *
                  generalize total (l.take k) = z at *
                  obtain ⟨dd, hdd⟩ : ∃ dd, wrap64 (x - y) = dd := ⟨_, rfl⟩
                  obtain ⟨ss, hss⟩ : ∃ ss, wrap64 (z + x) = ss := ⟨_, rfl⟩
                  have hdd2 : IntKind.i64.wrap (x - y) = dd := (IntWalk.i64_left _).trans hdd
                  have hss2 : IntKind.i64.wrap (z + x) = ss := (IntWalk.i64_left _).trans hss
                  rw [hdd] at x1
                  rw [hss] at x2 HT
                  have q1 : (dd == dd) = true := by simp
                  have q2 : (ss == ss) = true := by simp
                  go_wp2
                  go_quiet (fail)
                  go_wp2
                  go_roundw
                  case rel => exact ⟨k + 1, hlt, by go_num, by rw [HP.out], by rw [HT.out], below_drew hbel nq⟩
                  case measure => simp [RowKit.intOf]; omega
                · have g1 : ¬ (k : Int) < l.length := by omega
                  generalize prev l k = y at *
                  generalize total (l.take k) = z at *
                  go_wp2
                  go_ret
                  exact ⟨rfl, B8.trans (hbel.mono B8.size)⟩
          · have g1 : ¬ (k : Int) < p.length := by omega
            go_wp2_with fail
            refine (spread_any _ p wr (hp.below hbel)).mono ?_
            rintro e w4 ⟨⟨u, L', hL', rfl, R4⟩ | ⟨c', hc', rfl⟩, b4⟩
            · have := HS.out.symm.trans hL'
              cases this
            · obtain rfl : 4 = c' := by have := HS.out.symm.trans hc'; injection this
              have B4 : Below w.heap.size w w4 := hbel.trans (b4.mono hbel.size)
              clear hc' HS hh
              go_wp2_with fail
              refine (error_errno 4 w4 (he.below B4)).mono ?_
              rintro e w5 ⟨rfl, b5⟩
              have B5 : Below w.heap.size w w5 := B4.trans (b5.mono B4.size)
              have I0 : ∀ W, IsInts W (.slice none 0 0) [] := fun W => ⟨none, 0, rfl, by simp, by simp, by simp, fun h => absurd rfl h⟩
              go_wp2_with fail
              refine (ints_any _ _ [] [] w5 (I0 w5) (I0 w5)).mono ?_
              rintro e w6 ⟨rfl, b6⟩
              have B6 : Below w.heap.size w w6 := B5.trans (b6.mono B5.size)
              rw [decide_eq_true (rfl : ([] : List Int) = [])]
              clear b4 b5 b6 B4 B5 I0 hbel
              go_wp2_with fail
              refine (deltas_any _ l w6 (hl.below B6)).mono ?_
              rintro e w7 ⟨u7, rfl, R7, b7⟩
              have B7 : Below w.heap.size w w7 := B6.trans (b7.mono B6.size)
              go_wp2_with fail
              refine (sums_any _ l w7 (hl.below B7)).mono ?_
              rintro e w8 ⟨u8, rfl, R8, b8⟩
              have B8 : Below w.heap.size w w8 := B7.trans (b8.mono B7.size)
              obtain ⟨a7, c7, rfl, _, _, _, D7⟩ := (R7.ints (by rw [deltas_len]; omega) (deltas_range l)).below b8
              obtain ⟨a8, c8, rfl, _, _, _, D8⟩ := R8.ints (by rw [sums_len]; omega) (sums_range l)
              simp only [deltas_len, sums_len]
              clear R7 R8 b7 b8 B6 B7
              go_wp2_with fail
              go_loopw [19, 20, 21] (fun y z i wr => ∃ k : Nat, k ≤ l.length ∧ i = .int .i64 k ∧ y = .int .i64 (prev l k) ∧ z = .int .i64 (total (l.take k)) ∧ Below w8.heap.size w8 wr) (fun _ _ i _ => l.length - (RowKit.intOf i).toNat)
              case atStart => exact ⟨0, Nat.zero_le _, rfl, rfl, rfl, Below.refl _ _⟩
              case round =>
                obtain ⟨k, hk, rfl, rfl, rfl, hbel⟩ := hrel
                by_cases hlt : k < l.length
                · have hne : l ≠ [] := fun e => by rw [e] at hlt; simp at hlt
                  obtain ⟨b, off, rfl, h4, h5⟩ := hl3 hne
                  obtain ⟨bd, offd, rfl, d4, d5⟩ := D7 (fun e => hne (List.length_eq_zero_iff.1 (by rw [← deltas_len, e]; rfl)))
                  obtain ⟨bs, offs, rfl, s4, s5⟩ := D8 (fun e => hne (List.length_eq_zero_iff.1 (by rw [← sums_len, e]; rfl)))
                  have x0 : wr.cell? ⟨b, off + k, none⟩ = some (.int .i64 l[k]) := by rw [hbel.cell (p := ⟨b, off + k, none⟩) (Nat.lt_of_lt_of_le h4 B8.size), B8.cell (p := ⟨b, off + k, none⟩) h4]; exact h5 k hlt
                  have x1 : wr.cell? ⟨bd, offd + k, none⟩ = some (.int .i64 (wrap64 (l[k] - prev l k))) := by rw [hbel.cell (p := ⟨bd, offd + k, none⟩) d4, ← deltas_at l k hlt]; exact d5 k (by rw [deltas_len]; exact hlt)
                  have x2 : wr.cell? ⟨bs, offs + k, none⟩ = some (.int .i64 (wrap64 (total (l.take k) + l[k]))) := by rw [hbel.cell (p := ⟨bs, offs + k, none⟩) s4, ← sums_at l k hlt]; exact s5 k (by rw [sums_len]; exact hlt)
                  have HP : Hid (prev l (k + 1) = l[k]) := prev_succ l k hlt
                  have HT : Hid (total (l.take (k + 1)) = wrap64 (total (l.take k) + l[k])) := total_take l k hlt
                  have g1 : (k : Int) < l.length := by omega
                  clear h5 d5 s5 hl3 D7 D8 hne
                  generalize l[k] = x at *
                  generalize prev l k = y at *
                  generalize total (l.take k) = z at *
                  obtain ⟨dd, hdd⟩ : ∃ dd, wrap64 (x - y) = dd := ⟨_, rfl⟩
                  obtain ⟨ss, hss⟩ : ∃ ss, wrap64 (z + x) = ss := ⟨_, rfl⟩
                  have hdd2 : IntKind.i64.wrap (x - y) = dd := (IntWalk.i64_left _).trans hdd
                  have hss2 : IntKind.i64.wrap (z + x) = ss := (IntWalk.i64_left _).trans hss
                  rw [hdd] at x1
                  rw [hss] at x2 HT
                  have q1 : (dd == dd) = true := by simp
                  have q2 : (ss == ss) = true := by simp
                  go_wp2
                  go_quiet (fail)
                  go_wp2
                  go_roundw
                  case rel => exact ⟨k + 1, hlt, by go_num, by rw [HP.out], by rw [HT.out], below_drew hbel nq⟩
                  case measure => simp [RowKit.intOf]; omega
                · have g1 : ¬ (k : Int) < l.length := by omega
                  generalize prev l k = y at *
                  generalize total (l.take k) = z at *
                  go_wp2
                  go_ret
                  exact ⟨rfl, B8.trans (hbel.mono B8.size)⟩
end Go.Proofs.YtkmjlpmjhffgbaaDoor
