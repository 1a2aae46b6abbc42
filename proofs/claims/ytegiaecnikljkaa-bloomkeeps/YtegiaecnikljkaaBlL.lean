/-
  What is proved: the law BloomKeeps returns true of any refs and any bits, and nothing that was there has turned.
  Conditions: the refs lie in memory; bits is a number of 64 bits.
-/
import Derived.Test.YtegiaecnikljkaaBlH
namespace Go.Proofs.Ytegiaecnikljkaa
open Go.RowKit

set_option maxHeartbeats 4000000 in
set_option maxRecDepth 100000 in
theorem law_any (v : Value) (l : List BRef) (b : Int) (hb : I64 b) (w : World) (hv : IsRefs w v l) :
    Calls Try.prog 3 #[v, .int .i64 b] w fun e w' => e = .returned (.bool true) ∧ Below w.heap.size w w' := by
  have HV : Hid (IsRefs w v l) := hv
  have HB0 := (Below.refl w.heap.size w).alloc (Nat.le_refl _) (.cells #[.int .i64 1, .int .i64 1] 29)
  have E1 := make_any (.slice (some ⟨w.heap.size, 0, none⟩) 1 1) [(1, 1)] 8 (by unfold I64; omega) (w.alloc (.cells #[.int .i64 1, .int .i64 1] 29))
    ⟨some ⟨w.heap.size, 0, none⟩, 1, rfl, by simp, fun _ => ⟨w.heap.size, 0, rfl, by simp, fun i hi => by
      match i, hi with
      | 0, _ => simp⟩⟩
  obtain ⟨a, cap, rfl, hl0, _⟩ := hv
  obtain ⟨post, hpost⟩ : ∃ post, post = fun (e : Ending) (w' : World) => e = .returned (.bool true) ∧ Below w.heap.size w w' := ⟨_, rfl⟩
  rw [← hpost]
  have HPO : Hid (post = fun (e : Ending) (w' : World) => e = .returned (.bool true) ∧ Below w.heap.size w w') := hpost
  clear hpost
  go_enter Try.func3, Try.ntmps3
  go_wp2_with fail
  refine Calls.mono E1 ?_
  rintro e w1 ⟨⟨u, ev, rfl, h⟩, b1⟩
  rcases h with ⟨_, h⟩ | ⟨rfl, hw8, g, n, F, rfl, hF, hn8, R, hall⟩
  · exfalso
    rcases h with h | h | ⟨r, hr, h⟩
    · simp at h
    · revert h; decide
    · simp at hr
      subst hr
      revert h
      decide
  obtain rfl : n = 1 := by omega
  have B1 : Below w.heap.size w w1 := HB0.trans (b1.mono (by simp))
  have E2 := has_yes g 1 F (1, 1) _ w1 (by omega) hF R (hall _ (by simp))
  clear E1 b1 HB0 hall R hw8 hn8
  go_wp2_with fail
  refine Calls.mono E2 ?_
  rintro e w2 ⟨rfl, b2⟩
  have B2 : Below w.heap.size w w2 := B1.trans (b2.mono B1.size)
  have E3 := make_any (.slice a l.length cap) l b hb w2 (HV.out.below B2)
  have HB2 : Hid (Below w.heap.size w w2) := B2
  clear E2 b2 B1 B2
  go_wp2_with fail
  refine Calls.mono E3 ?_
  rintro e w3 ⟨⟨u, ev, rfl, h⟩, b3⟩
  have HB3 : Hid (Below w.heap.size w w3) := HB2.out.trans (b3.mono HB2.out.size)
  clear b3 E3
  rcases h with ⟨⟨x, rfl⟩, _⟩ | ⟨rfl, hw, g3, n, F3, rfl, hF3, hn8, R, hall⟩
  · go_wp2
    rw [HPO.out]
    exact ⟨rfl, HB3.out⟩
  have hn : 1 ≤ n ∧ n ≤ 512 := by simp [widB] at hw; omega
  have HR : Hid (Row w2.heap.size (.slice (some ⟨g3, 0, none⟩) n n) F3 w3) := R
  have HAL : Hid (∀ r ∈ l, allB F3 b r) := hall
  clear R hall hw hF
  go_wp2_with fail
  go_loopw [11] (fun i wr => ∃ k : Nat, k ≤ l.length ∧ i = .int .i64 k ∧ Below w3.heap.size w3 wr) (fun i _ => l.length - (RowKit.intOf i).toNat)
  case atStart => exact ⟨0, Nat.zero_le _, rfl, Below.refl _ _⟩
  case round =>
    obtain ⟨k, hk, rfl, hbel⟩ := hrel
    by_cases hlt : k < l.length
    · obtain ⟨a2, cap2, ha, _, h3⟩ := HV.out.below (HB3.out)
      obtain ⟨rfl, rfl⟩ : a = a2 ∧ cap = cap2 := by injection ha with h1 h2 h3; exact ⟨h1, h3⟩
      obtain ⟨br, off, rfl, h4, h5⟩ := h3 (fun e => by rw [e] at hlt; simp at hlt)
      have x0 : wr.cell? ⟨br, off + k * 2, none⟩ = some (.int .i64 l[k].1) := by rw [hbel.cell (p := ⟨br, off + k * 2, none⟩) h4]; exact (h5 k hlt).1
      have x1 : wr.cell? ⟨br, off + k * 2 + 1, none⟩ = some (.int .i64 l[k].2) := by rw [hbel.cell (p := ⟨br, off + k * 2 + 1, none⟩) h4]; exact (h5 k hlt).2
      have y1 : (k : Int) < l.length := by omega
      have y2 : (k : Int) < 8796093022208 := by omega
      have E4 := has_yes g3 n F3 l[k] _ wr hn hF3 (own_keep HR.out hbel (Nat.le_refl _)) (by rw [Int.mul_comm, hn8]; exact HAL.out _ (List.getElem_mem hlt))
      obtain ⟨q, hq⟩ : ∃ q : BRef, l[k] = q := ⟨_, rfl⟩
      have HK : Hid (k < l.length) := hlt
      rw [hq] at x0 x1 E4
      obtain ⟨ra, rs⟩ := q
      simp only at x0 x1 E4
      have HBW : Hid (Below w3.heap.size w3 wr) := hbel
      clear hq h5 h3 ha hk hlt hbel
      go_wp2_with fail
      refine Calls.mono E4 ?_
      rintro e w4 ⟨rfl, b4⟩
      have HB4 : Hid (Below w3.heap.size w3 w4) := HBW.out.trans (b4.mono HBW.out.size)
      clear b4 E4
      go_wp2
      go_roundw
      case rel => exact ⟨k + 1, HK.out, by go_num, HB4.out⟩
      case measure => simp [RowKit.intOf]; have := HK.out; omega
    · have hke : k = l.length := by omega
      subst hke
      have HBW : Hid (Below w3.heap.size w3 wr) := hbel
      clear hlt hk hbel
      go_wp2
      rw [HPO.out]
      exact ⟨rfl, HB3.out.trans (HBW.out.mono HB3.out.size)⟩
end Go.Proofs.Ytegiaecnikljkaa
