/-
  What is proved: the function Spread of package bytes, called with any pieces, answers as it should, and nothing that was there has turned.
  Conditions: the list lies in memory.
-/
import Derived.Test.YtkmjlpmjhffgbaaDoorPieces
namespace Go.Proofs.YtkmjlpmjhffgbaaDoor
open Go.RowKit

/-- The numbers of pieces, or what is wrong. -/
def spr (acc : List Int) : List Pc → Except Int (List Int)
  | [] => .ok acc
  | q :: r => if q.1 < 1 then .error 1 else if 400 - (acc.length : Int) < q.1 then .error 4 else spr (acc ++ List.replicate q.1.toNat q.2) r

theorem spr_ok (p : List Pc) (acc : List Int) (h : ∀ q ∈ p, 1 ≤ q.1) (hl : acc.length + (spread p).length ≤ 400) : spr acc p = .ok (acc ++ spread p) := by
  induction p generalizing acc with
  | nil => simp [spr, spread]
  | cons q r ih =>
    have hq := h q (List.mem_cons_self ..)
    have e : spread (q :: r) = List.replicate q.1.toNat q.2 ++ spread r := by simp [spread]
    rw [e, List.length_append, List.length_replicate] at hl
    rw [spr, if_neg (by omega), if_neg (by omega), ih _ (fun x hx => h x (List.mem_cons_of_mem _ hx)) (by rw [List.length_append, List.length_replicate]; omega), e, List.append_assoc]

theorem spr_len (p : List Pc) (acc l : List Int) (h : acc.length ≤ 400) (e : spr acc p = .ok l) : l.length ≤ 400 := by
  induction p generalizing acc with
  | nil => simp [spr] at e; subst e; exact h
  | cons q r ih =>
    rw [spr] at e
    split at e
    · cases e
    · split at e
      · cases e
      · exact ih _ (by rw [List.length_append, List.length_replicate]; omega) e

theorem spr_range (p : List Pc) (acc l : List Int) (h : ∀ x ∈ acc, I64 x) (hp : ∀ q ∈ p, I64 q.2) (e : spr acc p = .ok l) : ∀ x ∈ l, I64 x := by
  induction p generalizing acc with
  | nil => simp [spr] at e; subst e; exact h
  | cons q r ih =>
    rw [spr] at e
    split at e
    · cases e
    · split at e
      · cases e
      · refine ih _ (fun x hx => ?_) (fun y hy => hp y (List.mem_cons_of_mem _ hy)) e
        rcases List.mem_append.1 hx with h1 | h1
        · exact h x h1
        · rw [(List.mem_replicate.1 h1).2]; exact hp q (List.mem_cons_self ..)

/-- A box stays as it is while a row of another type grows. -/
theorem box_grown {B e s b n : Nat} {T : TypeId} {wr w' : World} {v : Value} {xs : List Value} {cs : Array Value} {o : Obj} (own : wr.ownsRow B e s v n xs) (hb : wr.heap[b]? = some (.cells cs T)) (hT : T ≠ e) (hg : (wr.alloc o).grownBy w' v.ownBlock) : w'.heap[b]? = some (.cells cs T) := by
  have hlt : b < wr.heap.size := by
    rcases Nat.lt_or_ge b wr.heap.size with h | h
    · exact h
    · rw [Array.getElem?_eq_none h] at hb; cases hb
  have hne : some b ≠ v.ownBlock := by
    intro e1
    rcases own.2 with ⟨rfl, _⟩ | ⟨g, cap, cur, rfl, _, hh, _⟩
    · cases e1
    · have : b = g := Option.some.inj e1
      subst this
      rw [hb] at hh
      injection hh with hh
      injection hh with _ hh _
      exact hT hh
  rw [hg.block b (by simp; omega) hne, ((Below.refl wr.heap.size wr).alloc (Nat.le_refl _) o).block b hlt]
  exact hb

set_option maxHeartbeats 2000000 in
theorem spread_any (v : Value) (p : List Pc) (w : World) (hv : IsPieces w v p) :
    Calls Tryd.prog 16 #[v] w fun e w' => ((∃ u l, spr [] p = .ok l ∧ e = .returned (.tuple #[u, .nilIface]) ∧ RowI w.heap.size u l w') ∨ ∃ c, spr [] p = .error c ∧ e = .returned (.tuple #[.slice none 0 0, .iface 66 (.int .i64 c)])) ∧ Below w.heap.size w w' := by
  obtain ⟨i0, hi, hz0, hz1, hz2⟩ := info_parts infoI
  obtain ⟨a, cap, rfl, h1, h2, hr, h3⟩ := hv
  go_enter Tryd.func16, Tryd.ntmps16
  go_wp2_with fail
  go_loopw [2, 8] (fun o i wr => ∃ (k : Nat) (L : List Int), k ≤ p.length ∧ i = .int .i64 k ∧ L.length ≤ 400 ∧ spr L (p.drop k) = spr [] p ∧ RowI w.heap.size o L wr ∧ Below w.heap.size w wr) (fun _ i _ => p.length - (RowKit.intOf i).toNat)
  case atStart => exact ⟨0, [], Nat.zero_le _, rfl, by simp, by simp, World.ownsRow_nil w w.heap.size 3 1, Below.refl _ w⟩
  case round =>
    obtain ⟨k, L, hk, rfl, hL, hs, hh, hbel⟩ := hrel
    have hz := hbel.size
    have hl := rowI_len hh
    by_cases hlt : k < p.length
    · obtain ⟨b, off, rfl, h4, h5⟩ := h3 (fun e => by rw [e] at hlt; simp at hlt)
      have x0 : wr.cell? ⟨b, off + k * 2, none⟩ = some (.int .i64 p[k].1) := by rw [hbel.cell (p := ⟨b, off + k * 2, none⟩) h4]; exact (h5 k hlt).1
      have x1 : wr.cell? ⟨b, off + k * 2 + 1, none⟩ = some (.int .i64 p[k].2) := by rw [hbel.cell (p := ⟨b, off + k * 2 + 1, none⟩) h4]; exact (h5 k hlt).2
      have g1 : (k : Int) < p.length := by omega
      have hrk := hr p[k] (List.getElem_mem hlt)
      unfold I64 at hrk
      rw [List.drop_eq_getElem_cons hlt, spr] at hs
      obtain ⟨⟨m, x⟩, hmx⟩ : ∃ q, p[k] = q := ⟨_, rfl⟩
      rw [hmx] at x0 x1 hs hrk
      simp only at x0 x1 hs hrk
      clear h5 h3
      have BA : Below w.heap.size w (wr.alloc (.cells #[.int .i64 m, .int .i64 x] 42)) := hbel.alloc hz _
      by_cases hm1 : m < 1
      · rw [if_pos hm1] at hs
        have HS : Hid (.error 1 = spr [] p) := hs
        clear hs
        go_wp2
        go_returns
        exact ⟨Or.inr ⟨1, HS.out.symm, rfl⟩, BA⟩
      · rw [if_neg hm1] at hs
        by_cases hm2 : 400 - (L.length : Int) < m
        · rw [if_pos hm2] at hs
          have HS : Hid (.error 4 = spr [] p) := hs
          clear hs
          obtain ⟨aL, cL, rfl⟩ := hl
          go_wp2
          go_returns
          exact ⟨Or.inr ⟨4, HS.out.symm, rfl⟩, BA⟩
        · rw [if_neg hm2] at hs
          have HS : Hid (spr (L ++ List.replicate m.toNat x) (p.drop (k + 1)) = spr [] p) := hs
          clear hs
          have hh0 := hh.alloc (.cells #[.int .i64 m, .int .i64 x] 42)
          obtain ⟨aL, cL, rfl⟩ := hl
          have hbx : (wr.alloc (.cells #[.int .i64 m, .int .i64 x] 42)).heap[wr.heap.size]? = some (.cells #[.int .i64 m, .int .i64 x] 42) := (MapKept.heap_alloc wr _).1
          obtain ⟨M, rfl⟩ : ∃ M : Nat, m = M := ⟨m.toNat, by omega⟩
          rw [Int.toNat_natCast] at HS
          have hM : L.length + M ≤ 400 := by omega
          go_wp2_with fail
          generalize hW : wr.alloc (.cells #[.int .i64 (M : Int), .int .i64 x] 42) = W at *
          clear hW
          generalize wr.heap.size = bx at *
          go_loopw [2, 25] (fun o j w2 => ∃ t : Nat, t ≤ M ∧ j = .int .i64 t ∧ RowI w.heap.size o (L ++ List.replicate t x) w2 ∧ w2.heap[bx]? = some (.cells #[.int .i64 (M : Int), .int .i64 x] 42) ∧ Below w.heap.size w w2) (fun _ j _ => M - (RowKit.intOf j).toNat)
          case atStart => exact ⟨0, Nat.zero_le _, rfl, by simpa using hh0, hbx, BA⟩
          case round =>
            clear hh0 hbx BA hh hbel
            obtain ⟨t, ht, rfl, hh, hbx, hb2⟩ := hrel
            have hzb := hb2.size
            have hl := rowI_len hh
            by_cases hlm : t < M
            · have g2 : (t : Int) < M := by omega
              have x2 := Lib.cell_of_heap hbx 1
              simp only [List.getElem?_toArray, List.getElem?_cons_succ, List.getElem?_cons_zero] at x2
              have HT : Hid (L ++ List.replicate (t + 1) x = (L ++ List.replicate t x) ++ [x]) := by
                show _ = _
                rw [List.replicate_succ', List.append_assoc]
              have hQ : (L ++ List.replicate t x).length ≤ 400 := by rw [List.length_append, List.length_replicate]; omega
              generalize L ++ List.replicate t x = Q at *
              go_wp2_with (first | (at_builtin; refine wpList_append_own _ rfl _ _ 38 rfl w.heap.size 3 i0 (.int .i64 0) 1 8 Tryd.underlying38 hi hz0 hz1 hz2 rfl (by decide) _ _ _ rfl (hh.alloc _) ⟨wr.heap.size, 0, none⟩ 1 1 (intCells [x]) rfl rfl ?c1 ?c2 ?c3 ?c4 ?c5 ?_))
              case c1 =>
                intro j u hj
                match j, hj with
                | 0, hj => simp at hj; subst hj; simp [Addr.add]
              case c2 => intro u hu; simp at hu; subst hu; rfl
              case c3 => unfold maxLen; omega
              case c4 => omega
              case c5 => simp; omega
              intro v2 w2 hown hgrow _
              have hb3 := box_grown hh hbx (by decide) hgrow
              obtain ⟨R2, B2⟩ := rowI_grown (m := [x]) hh hb2 hzb hgrow hown
              clear hown hgrow
              go_wp2
              go_roundw
              case rel => exact ⟨t + 1, hlm, by go_num, by rw [HT.out]; exact R2, hb3, B2⟩
              case measure => simp [RowKit.intOf]; omega
            · have hte : t = M := by omega
              subst hte
              have g2 : ¬ (t : Int) < t := by omega
              have hQ : (L ++ List.replicate t x).length ≤ 400 := by rw [List.length_append, List.length_replicate]; omega
              generalize L ++ List.replicate t x = Q at *
              go_wp2_with fail
              go_roundw
              case rel => exact ⟨k + 1, Q, hlt, by go_num, hQ, HS.out, hh, hb2⟩
              case measure => simp [RowKit.intOf]; omega
    · have hke : k = p.length := by omega
      subst hke
      rw [List.drop_length, spr] at hs
      have HS : Hid (.ok L = spr [] p) := hs
      clear hs
      go_wp2
      go_returns
      exact ⟨Or.inl ⟨_, L, HS.out.symm, rfl, hh⟩, hbel⟩
end Go.Proofs.YtkmjlpmjhffgbaaDoor
