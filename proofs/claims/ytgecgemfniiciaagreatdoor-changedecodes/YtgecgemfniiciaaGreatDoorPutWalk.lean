/-
  What is proved: the function Put of package bytes, called with any number, returns its bytes, and nothing that was there has turned.
  Conditions: none.
-/
import Derived.Test.YtgecgemfniiciaaGreatDoorProg
import Derived.Test.YtgecgemfniiciaaGreatDoorNums
import Derived.WalkKit
import Derived.WalkSpells
import Derived.WalkLawsBesides
import Derived.Handy
import Derived.Deep.RegionWith
import Derived.Deep.RegionHeld3
import Derived.Deep.QuietTactic
import Derived.BigQuiet
import Derived.Lib.Builder
import Derived.Laws.BitsAllLaws
namespace Go.Proofs.YtgecgemfniiciaaGreatDoor
open Go.RowKit

theorem infoB : (Tryz.prog.info? 5).map (fun i => (i.zero, i.size, i.bytes)) = some (some (.int .u8 0), 1, 1) := by kernel_rfl

/-- A slice of bytes that the call has made. -/
abbrev Row (B : Nat) (v : Value) (l : List UInt8) (w : World) : Prop := w.ownsRow B 5 1 v l.length (Lib.byteCells l)

theorem row_grown {B : Nat} {w wr w' : World} {v v' : Value} {l m : List UInt8} {o : Obj} (own : Row B v l wr) (bel : Below B w wr) (hB : B ≤ wr.heap.size) (hg : (wr.alloc o).grownBy w' v.ownBlock)
    (own' : w'.ownsRow B 5 1 v' (l.length + m.length) (Lib.byteCells l ++ Lib.byteCells m)) : Row B v' (l ++ m) w' ∧ Below B w w' := by
  refine ⟨?_, (bel.alloc hB o).grown hg (by simp; omega) (fun k hk => (own.lt k hk).1)⟩
  have e : Lib.byteCells (l ++ m) = Lib.byteCells l ++ Lib.byteCells m := by simp [Lib.byteCells]
  unfold Row
  rw [e, List.length_append]
  exact own'

theorem own_row_len {B : Nat} {v : Value} {l : List UInt8} {w : World} (h : Row B v l w) : ∃ a c, v = .slice a l.length c := by
  rcases h.2 with ⟨rfl, h0⟩ | ⟨g, cap, cur, rfl, _⟩
  · exact ⟨none, 0, by rw [h0]⟩
  · exact ⟨_, _, rfl⟩

theorem row_at (g t : Nat) : (⟨g, 0, none⟩ : Addr).add t = ⟨g, t, none⟩ := by cases t <;> simp [Addr.add]

theorem or_more (m : Nat) : bits .or .u8 ((m : Int) % 256) 128 = 128 + (m : Int) % 128 := by
  have h : ∀ k : Fin 256, bits .or .u8 (k.val : Int) 128 = 128 + (k.val : Int) % 128 := by decide +kernel
  have := h ⟨m % 256, by omega⟩
  simp only at this
  rw [show ((m : Int) % 256) = ((m % 256 : Nat) : Int) from by omega, this]
  omega

set_option maxRecDepth 100000 in
set_option maxHeartbeats 1000000 in
theorem put_any (n : Nat) (w : World) (hn : n < 18446744073709551616) :
    Calls Tryz.prog 83 #[.int .u64 n] w fun e w' => ∃ v, e = .returned v ∧ Row w.heap.size v (put n) w' ∧ Below w.heap.size w w' := by
  obtain ⟨i0, hi, hz0, hz1, hz2⟩ := info_parts infoB
  go_enter Tryz.func83, Tryz.ntmps83
  go_wp2_with fail
  go_loopw [0, 2] (fun m b wr => ∃ (k : Nat) (L : List UInt8), m = .int .u64 k ∧ k < 18446744073709551616 ∧ L ++ put k = put n ∧ Row w.heap.size b L wr ∧ Below w.heap.size w wr) (fun m _ _ => (RowKit.intOf m).toNat)
  case atStart => exact ⟨n, [], rfl, hn, rfl, World.ownsRow_nil w w.heap.size 5 1, Below.refl _ w⟩
  case round =>
    obtain ⟨k, L, rfl, hk, he, hh, hbel⟩ := hrel
    have hz := hbel.size
    have hL : L.length ≤ 10 := by
      have h1 := put_len10 hn
      rw [← he, List.length_append] at h1
      omega
    have hl := own_row_len hh
    by_cases hlt : 128 ≤ k
    · have HE : Hid ((L ++ [UInt8.ofNat (128 + k % 128)]) ++ put (k / 128) = put n) := by
        show _ = _
        rw [← he, put_more hlt]
        simp
      have hor := or_more k
      have hb := byte_high k
      generalize hc : UInt8.ofNat (128 + k % 128) = c at *
      have hcn : (128 : Int) + (k : Int) % 128 = (c.toNat : Int) := by omega
      rw [hcn] at hor
      clear hc hb hcn he
      have g1 : (128 : Int) ≤ k := by omega
      go_wp2_with (first | (at_builtin; refine wpList_append_own _ rfl _ _ 22 rfl w.heap.size 5 i0 (.int .u8 0) 1 1 Tryz.underlying22 hi hz0 hz1 hz2 rfl (by decide) _ _ _ rfl (hh.alloc _) ⟨wr.heap.size, 0, none⟩ 1 1 (Lib.byteCells [c]) rfl rfl ?c1 ?c2 ?c3 ?c4 ?c5 ?_))
      case c1 =>
        intro j u hj
        match j, hj with
        | 0, hj => simp [Lib.byteCells] at hj; subst hj; first | (simp; done) | simp [Addr.add]
      case c2 => intro u hu; simp [Lib.byteCells] at hu; subst hu; rfl
      case c3 => unfold maxLen; omega
      case c4 => omega
      case c5 => first | (simp; omega) | omega
      intro v2 w2 hown hgrow _
      obtain ⟨R2, B2⟩ := row_grown (m := [c]) hh hbel hz hgrow hown
      clear hown hgrow
      go_wp2
      go_roundw
      case rel => exact ⟨k / 128, L ++ [c], by go_num, by omega, HE.out, R2, B2⟩
      case measure => simp [RowKit.intOf]; omega
    · have HE : Hid (L ++ [UInt8.ofNat k] = put n) := by
        show _ = _
        rw [← he, put_small (by omega)]
      have hb := byte_low (n := k) (by omega)
      generalize hc : UInt8.ofNat k = c at *
      have hcn : (k : Int) = (c.toNat : Int) := by omega
      have g1 : ¬ (128 : Int) ≤ k := by omega
      have HK : Hid ((k : Int) = (c.toNat : Int)) := hcn
      clear hc hb he hcn
      go_wp2_with (first | (at_builtin; refine wpList_append_own _ rfl _ _ 22 rfl w.heap.size 5 i0 (.int .u8 0) 1 1 Tryz.underlying22 hi hz0 hz1 hz2 rfl (by decide) _ _ _ rfl (hh.alloc _) ⟨wr.heap.size, 0, none⟩ 1 1 (Lib.byteCells [c]) rfl rfl ?c1 ?c2 ?c3 ?c4 ?c5 ?_))
      case c1 =>
        intro j u hj
        match j, hj with
        | 0, hj => simp [Lib.byteCells] at hj; subst hj; simp; exact HK.out
      case c2 => intro u hu; simp [Lib.byteCells] at hu; subst hu; rfl
      case c3 => unfold maxLen; omega
      case c4 => omega
      case c5 => first | (simp; omega) | omega
      intro v2 w2 hown hgrow _
      obtain ⟨R2, B2⟩ := row_grown (m := [c]) hh hbel hz hgrow hown
      clear hown hgrow
      go_wp2
      go_ret
      rw [HE.out] at R2
      exact ⟨_, rfl, R2, B2⟩
end Go.Proofs.YtgecgemfniiciaaGreatDoor
