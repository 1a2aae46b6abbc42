/-
  What is proved: the function Pack of package bytes, called with any numbers, answers as it should, and nothing that was there has turned.
  Conditions: the list lies in memory.
-/
import Derived.Test.YtkmjlpmjhffgbaaDoorPackMath
import Derived.Test.YtkmjlpmjhffgbaaDoorSignedWalk
namespace Go.Proofs.YtkmjlpmjhffgbaaDoor
open Go.RowKit

theorem own_below {B C e s n : Nat} {w w' : World} {v : Value} {xs : List Value} (h : w.ownsRow B e s v n xs) (hb : Below C w w') (hC : w.heap.size ≤ C) : w'.ownsRow B e s v n xs := by
  refine ⟨h.1, ?_⟩
  rcases h.2 with h0 | ⟨g, cap, cur, h1, h2, h3, h4⟩
  · exact Or.inl h0
  · refine Or.inr ⟨g, cap, cur, h1, h2, ?_, h4⟩
    have hlt : g < w.heap.size := by
      rcases Nat.lt_or_ge g w.heap.size with h | h
      · exact h
      · rw [Array.getElem?_eq_none h] at h3; cases h3
    rw [hb.block g (by omega)]
    exact h3

/-- A row that has grown by another. -/
theorem row_grown0 {B : Nat} {w wr w' : World} {v v' : Value} {l m : List UInt8} (own : Row B v l wr) (bel : Below B w wr) (hB : B ≤ wr.heap.size) (hg : wr.grownBy w' v.ownBlock)
    (own' : w'.ownsRow B 5 1 v' (l.length + m.length) (Lib.byteCells l ++ Lib.byteCells m)) : Row B v' (l ++ m) w' ∧ Below B w w' := by
  refine ⟨?_, bel.grown hg hB (fun k hk => (own.lt k hk).1)⟩
  have e : Lib.byteCells (l ++ m) = Lib.byteCells l ++ Lib.byteCells m := by simp [Lib.byteCells]
  unfold Row
  rw [e, List.length_append]
  exact own'

theorem box_grown0 {B e s b n : Nat} {T : TypeId} {wr w' : World} {v : Value} {xs : List Value} {cs : Array Value} (own : wr.ownsRow B e s v n xs) (hb : wr.heap[b]? = some (.cells cs T)) (hT : T ≠ e) (hg : wr.grownBy w' v.ownBlock) : w'.heap[b]? = some (.cells cs T) := by
  have hlt : b < wr.heap.size := by
    rcases Nat.lt_or_ge b wr.heap.size with h | h
    · exact h
    · rw [Array.getElem?_eq_none h] at hb; cases hb
  have hne : some b ≠ v.ownBlock := by
    intro e1
    rcases own.2 with ⟨rfl, _⟩ | ⟨g, cap, cur, rfl, _, hh, _⟩
    · cases e1
    · have : b = g := Option.some.inj e1
      subst this
      rw [hb] at hh
      injection hh with hh
      injection hh with _ hh _
      exact hT hh
  rw [hg.block b hlt hne]
  exact hb

theorem heap_below {B b : Nat} {w w' : World} {o : Obj} (h : w.heap[b]? = some o) (hb : Below B w w') (hB : w.heap.size ≤ B) : w'.heap[b]? = some o := by
  have hlt : b < w.heap.size := by
    rcases Nat.lt_or_ge b w.heap.size with h1 | h1
    · exact h1
    · rw [Array.getElem?_eq_none h1] at h; cases h
  rw [hb.block b (by omega)]
  exact h

/-- A slice of bytes that is not empty, and where its bytes lie. -/
theorem row_text {B : Nat} {v : Value} {l : List UInt8} {w : World} (h : Row B v l w) (h0 : l ≠ []) : ∃ g cap, v = .slice (some ⟨g, 0, none⟩) l.length cap ∧ ∀ (j : Nat) (u : Value), (Lib.byteCells l)[j]? = some u → w.cell? ((⟨g, 0, none⟩ : Addr).add j) = some u := by
  rcases h.2 with ⟨rfl, hl⟩ | ⟨g, cap, cur, rfl, hg, hh, hc, hm, hz, ht⟩
  · exact absurd (List.length_eq_zero_iff.1 hl) h0
  · refine ⟨g, cap, rfl, fun j u hj => ?_⟩
    have hlt : j < l.length := by
      rcases Nat.lt_or_ge j l.length with h1 | h1
      · exact h1
      · rw [List.getElem?_eq_none (by simpa [Lib.byteCells] using h1)] at hj; cases hj
    rw [row_at, h.cellAt j (by omega)]
    exact hj

theorem one_cell (l : List UInt8) : ∀ u ∈ Lib.byteCells l, u.oneCell' = true := by
  intro u hu
  unfold Lib.byteCells at hu
  rw [List.mem_map] at hu
  obtain ⟨b, _, rfl⟩ := hu
  rfl

theorem cells_len (l : List UInt8) : (Lib.byteCells l).length = l.length * 1 := by simp [Lib.byteCells]

/-- Where pieces lie, as a block. -/
theorem rowP_block {B : Nat} {w : World} {v : Value} {p : List Pc} (h : RowP B v p w) : ∃ a cap, v = .slice a p.length cap ∧ (p ≠ [] → ∃ g cur, a = some ⟨g, 0, none⟩ ∧ w.heap[g]? = some (.cells cur 42) ∧ ∀ i (hi : i < p.length), cur[i * 2]? = some (.int .i64 p[i].1) ∧ cur[i * 2 + 1]? = some (.int .i64 p[i].2)) := by
  rcases h.2 with ⟨rfl, h0⟩ | ⟨g, cap, cur, rfl, hg, hh, hc, hm, hz, ht⟩
  · exact ⟨none, 0, by rw [h0], fun h => absurd (List.length_eq_zero_iff.1 h0) h⟩
  · refine ⟨_, cap, rfl, fun _ => ⟨g, cur, rfl, hh, fun i hi => ?_⟩⟩
    have h1 := h.cellAt (i * 2) (by omega)
    have h2 := h.cellAt (i * 2 + 1) (by omega)
    rw [Lib.cell_of_heap hh, (pcells_at p i hi).1] at h1
    rw [Lib.cell_of_heap hh, (pcells_at p i hi).2] at h2
    exact ⟨h1, h2⟩

set_option maxHeartbeats 2000000 in
theorem pack_full (v : Value) (l : List Int) (w : World) (hv : IsInts w v l) (hl : 400 < l.length) :
    Calls Tryd.prog 21 #[v] w fun e w' => e = .returned (.tuple #[.slice none 0 0, .iface 66 (.int .i64 4)]) ∧ Below w.heap.size w w' := by
  obtain ⟨a, cap, rfl, h1, h2, hr, h3⟩ := hv
  have g1 : (400 : Int) < l.length := by omega
  go_enter Tryd.func21, Tryd.ntmps21
  go_wp2
  go_returns
  exact ⟨rfl, Below.refl _ _⟩

set_option maxHeartbeats 4000000 in
theorem pack_any (v : Value) (l : List Int) (w : World) (hv : IsInts w v l) (hl : l.length ≤ 400) :
    Calls Tryd.prog 21 #[v] w fun e w' => ∃ u, e = .returned (.tuple #[u, .nilIface]) ∧ Row w.heap.size u (pack l) w' ∧ Below w.heap.size w w' := by
  obtain ⟨i0, hi, hz0, hz1, hz2⟩ := info_parts infoB
  have P0 := put_any l.length w (by omega)
  obtain ⟨a, cap, rfl, _⟩ := id hv
  have g1 : ¬ (400 : Int) < l.length := by omega
  go_enter Tryd.func21, Tryd.ntmps21
  go_wp2_with fail
  refine P0.mono ?_
  rintro e w1 ⟨u1, rfl, R1, b1⟩
  clear P0
  go_wp2_with fail
  refine (deltas_any _ l _ (hv.below b1)).mono ?_
  rintro e w2 ⟨u2, rfl, R2, b2⟩
  have I2 := R2.ints (by rw [deltas_len]; omega) (deltas_range l)
  go_wp2_with fail
  refine (runs_any _ _ _ I2 (by rw [deltas_len]; omega)).mono ?_
  rintro e w3 ⟨u3, p, rfl, hc, hs, hpl, hpm, R3, b3⟩
  have RB : Row w.heap.size u1 (put l.length) w3 := own_below (own_below R1 b2 (Nat.le_refl _)) b3 (Nat.le_refl _)
  have B3 : Below w.heap.size w w3 := (b1.trans (b2.mono b1.size)).trans (b3.mono (Nat.le_trans b1.size b2.size))
  rw [deltas_len] at hpl hpm
  have hq : ∀ q ∈ p, 0 ≤ q.1 ∧ q.1 ≤ 400 ∧ I64 q.2 := fun q hq => ⟨by have := hc.1 q hq; omega, by have := hpm q hq; omega, deltas_range l _ (hs ▸ spread_mem hc q hq)⟩
  have HP : Hid (put l.length ++ enc p = pack l) := by
    show _ = _
    unfold pack
    rw [← rn_unique hc hs]
  obtain ⟨ap, cp, rfl, hpb⟩ := rowP_block R3
  have hpl10 := put_len10 (n := l.length) (by omega)
  clear R1 R2 R3 I2 b1 b2 b3 hc hs hpm hv
  go_wp2_with fail
  go_loopw [4, 19] (fun o i wr => ∃ k : Nat, k ≤ p.length ∧ i = .int .i64 k ∧ Row w.heap.size o (put l.length ++ enc (p.take k)) wr ∧ (∀ (g : Nat) (cur : Array Value), w3.heap[g]? = some (.cells cur 42) → wr.heap[g]? = some (.cells cur 42)) ∧ Below w.heap.size w wr) (fun _ i _ => p.length - (RowKit.intOf i).toNat)
  case atStart => exact ⟨0, Nat.zero_le _, rfl, by simpa [enc] using RB, fun _ _ h => h, B3⟩
  case round =>
    clear RB B3
    obtain ⟨k, hk, rfl, hh, hkeep, hbel⟩ := hrel
    have hz := hbel.size
    by_cases hlt : k < p.length
    · obtain ⟨g, cur, rfl, hg, hcur⟩ := hpb (fun e => by rw [e] at hlt; simp at hlt)
      have hg' := hkeep g cur hg
      have x0 : wr.cell? ⟨g, k * 2, none⟩ = some (.int .i64 p[k].1) := by rw [Lib.cell_of_heap hg']; exact (hcur k hlt).1
      have x1 : wr.cell? ⟨g, k * 2 + 1, none⟩ = some (.int .i64 p[k].2) := by rw [Lib.cell_of_heap hg']; exact (hcur k hlt).2
      have g2 : (k : Int) < p.length := by omega
      have hqk := hq p[k] (List.getElem_mem hlt)
      have hL : (put l.length ++ enc (p.take k)).length ≤ 9000 := by
        have h1 := enc_len (p.take k) (fun q h => hq q (List.mem_of_mem_take h))
        have h2 : (p.take k).length ≤ k := List.length_take_le _ _
        rw [List.length_append]
        omega
      have HT : Hid (put l.length ++ enc (p.take (k + 1)) = (put l.length ++ enc (p.take k)) ++ put p[k].1.toNat ++ put (zig p[k].2)) := by
        show _ = _
        rw [take_snoc p k hlt, enc_snoc]
        simp
      obtain ⟨⟨m, x⟩, hmx⟩ : ∃ q, p[k] = q := ⟨_, rfl⟩
      rw [hmx] at x0 x1 hqk HT
      simp only at x0 x1 hqk HT
      obtain ⟨M, rfl⟩ : ∃ M : Nat, m = M := ⟨m.toNat, by omega⟩
      rw [Int.toNat_natCast] at HT
      have hM : M ≤ 400 := by omega
      have hx := hqk.2.2
      have hMl := put_len10 (n := M) (by omega)
      have hXl := put_len10 (zig_lt hx.1 hx.2)
      generalize put l.length ++ enc (p.take k) = L at *
      have hkeep1 : ∀ (g : Nat) (cur : Array Value), w3.heap[g]? = some (.cells cur 42) → (wr.alloc (.cells #[.int .i64 (M : Int), .int .i64 x] 42)).heap[g]? = some (.cells cur 42) := fun g cur h => heap_below (hkeep g cur h) ((Below.refl _ wr).alloc (Nat.le_refl _) _) (Nat.le_refl _)
      have hbx : (wr.alloc (.cells #[.int .i64 (M : Int), .int .i64 x] 42)).heap[wr.heap.size]? = some (.cells #[.int .i64 (M : Int), .int .i64 x] 42) := (MapKept.heap_alloc wr _).1
      have hh1 := hh.alloc (.cells #[.int .i64 (M : Int), .int .i64 x] 42)
      have hbel1 : Below w.heap.size w (wr.alloc (.cells #[.int .i64 (M : Int), .int .i64 x] 42)) := hbel.alloc hz _
      have HK : Hid (∀ (g : Nat) (cur : Array Value), w3.heap[g]? = some (.cells cur 42) → (wr.alloc (.cells #[.int .i64 (M : Int), .int .i64 x] 42)).heap[g]? = some (.cells cur 42)) := hkeep1
      clear hkeep hkeep1 hmx hg hg' hcur hpb
      go_wp2_with fail
      refine (put_any M _ (by omega)).mono ?_
      rintro e w4 ⟨v4, rfl, R4, b4⟩
      obtain ⟨g4, c4, rfl, t4⟩ := row_text R4 (put_ne _)
      have hh4 : Row w.heap.size _ L w4 := own_below hh1 b4 (Nat.le_refl _)
      have hbx4 := heap_below hbx b4 (Nat.le_refl _)
      have hbel4 : Below w.heap.size w w4 := hbel1.trans (b4.mono hbel1.size)
      have hz4 := hbel4.size
      have HK4 : Hid (∀ (g : Nat) (cur : Array Value), w3.heap[g]? = some (.cells cur 42) → w4.heap[g]? = some (.cells cur 42)) := fun g cur h => heap_below (HK.out g cur h) b4 (Nat.le_refl _)
      clear hh hh1 hbx hbel hbel1 HK b4 R4 x0 x1
      go_wp2_with (first | (at_builtin; refine wpList_append_own _ rfl _ _ 23 rfl w.heap.size 5 i0 (.int .u8 0) 1 1 Tryd.underlying23 hi hz0 hz1 hz2 rfl (by decide) _ _ _ rfl hh4 ⟨g4, 0, none⟩ _ _ (Lib.byteCells (put M)) rfl (cells_len _) t4 (one_cell _) ?c3 ?c4 ?c5 ?_))
      case c3 => unfold maxLen; omega
      case c4 => omega
      case c5 => omega
      intro v5 w5 hown hgrow _
      obtain ⟨R5, B5⟩ := row_grown0 (m := put M) hh4 hbel4 hz4 hgrow hown
      have hbx5 := box_grown0 hh4 hbx4 (by decide) hgrow
      have HK5 : Hid (∀ (g : Nat) (cur : Array Value), w3.heap[g]? = some (.cells cur 42) → w5.heap[g]? = some (.cells cur 42)) := fun g cur h => box_grown0 hh4 (HK4.out g cur h) (by decide) hgrow
      have x5 := Lib.cell_of_heap hbx5 1
      simp only [List.getElem?_toArray, List.getElem?_cons_succ, List.getElem?_cons_zero] at x5
      have hL5 : (L ++ put M).length ≤ 9010 := by rw [List.length_append]; omega
      clear hown hgrow t4 hh4 hbx4 hbel4 HK4
      generalize L ++ put M = L5 at *
      go_wp2_with fail
      refine (putSigned_any x _ hx.1 hx.2).mono ?_
      rintro e w6 ⟨v6, rfl, R6, b6⟩
      obtain ⟨g6, c6, rfl, t6⟩ := row_text R6 (put_ne _)
      have hh6 : Row w.heap.size _ L5 w6 := own_below R5 b6 (Nat.le_refl _)
      have hbel6 : Below w.heap.size w w6 := B5.trans (b6.mono B5.size)
      have hz6 := hbel6.size
      have HK6 : Hid (∀ (g : Nat) (cur : Array Value), w3.heap[g]? = some (.cells cur 42) → w6.heap[g]? = some (.cells cur 42)) := fun g cur h => heap_below (HK5.out g cur h) b6 (Nat.le_refl _)
      clear R5 R6 b6 B5 hbx5 HK5 x5
      go_wp2_with (first | (at_builtin; refine wpList_append_own _ rfl _ _ 23 rfl w.heap.size 5 i0 (.int .u8 0) 1 1 Tryd.underlying23 hi hz0 hz1 hz2 rfl (by decide) _ _ _ rfl hh6 ⟨g6, 0, none⟩ _ _ (Lib.byteCells (put (zig x))) rfl (cells_len _) t6 (one_cell _) ?c3 ?c4 ?c5 ?_))
      case c3 => unfold maxLen; omega
      case c4 => omega
      case c5 => omega
      intro v7 w7 hown hgrow _
      obtain ⟨R7, B7⟩ := row_grown0 (m := put (zig x)) hh6 hbel6 hz6 hgrow hown
      have HK7 : Hid (∀ (g : Nat) (cur : Array Value), w3.heap[g]? = some (.cells cur 42) → w7.heap[g]? = some (.cells cur 42)) := fun g cur h => box_grown0 hh6 (HK6.out g cur h) (by decide) hgrow
      clear hown hgrow t6 hh6 hbel6 HK6
      go_wp2_with fail
      go_roundw
      case rel => exact ⟨k + 1, hlt, by go_num, by rw [HT.out]; exact R7, HK7.out, B7⟩
      case measure => simp [RowKit.intOf]; omega
    · have hke : k = p.length := by omega
      subst hke
      rw [List.take_of_length_le (Nat.le_refl _), HP.out] at hh
      clear hkeep hpb hq
      go_wp2
      go_returns
      exact ⟨_, rfl, hh, hbel⟩
end Go.Proofs.YtkmjlpmjhffgbaaDoor
