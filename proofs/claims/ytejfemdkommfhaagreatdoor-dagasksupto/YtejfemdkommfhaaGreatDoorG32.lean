/-
  What is proved: as each theorem says.
  Conditions: as each theorem says.
-/
import Derived.Test.YtejfemdkommfhaaGreatDoorG00
import Derived.Test.YtejfemdkommfhaaGreatDoorG30
import Derived.Test.YtejfemdkommfhaaGreatDoorG04
import Derived.Test.YtejfemdkommfhaaGreatDoorG25
namespace Go.Proofs.YtejfemdkommfhaaGreatDoor
open Go.RowKit
def Shr (s s' : St) : Prop := ∀ r, s' = some r → ∃ l k, s = some l ∧ k ≤ l.length ∧ r = l.drop k
theorem Shr.refl (s : St) : Shr s s := fun r h => ⟨r, 0, h, Nat.zero_le _, by simp⟩
theorem Shr.trans {s s1 s2 : St} (h : Shr s s1) (k : Shr s1 s2) : Shr s s2 := by
 intro r hr
 obtain ⟨l1, k1, h1, h2, rfl⟩ := k r hr
 obtain ⟨l, k0, h3, h4, rfl⟩ := h l1 h1
 rw [List.length_drop] at h2
 exact ⟨l, k0 + k1, h3, by omega, by rw [List.drop_drop]⟩
theorem Shr.some {s s' : St} (h : Shr s s') (hs : s' ≠ none) : s ≠ none := by
 intro e
 cases hs' : s' with
 | none => exact hs hs'
 | some r => obtain ⟨l, _, h1, _⟩ := h r hs'; rw [e] at h1; cases h1
end Go.Proofs.YtejfemdkommfhaaGreatDoor
namespace Go.Proofs.YtejfemdkommfhaaGreatDoor
open Go.RowKit
end Go.Proofs.YtejfemdkommfhaaGreatDoor
namespace Go.Proofs.YtejfemdkommfhaaGreatDoor
open Go.RowKit
theorem Off.drew {g : Nat} {w w' : World} (h : Off g w w') : Off g w w'.drew := ⟨h.os, h.tape, h.output, h.size, h.block⟩
end Go.Proofs.YtejfemdkommfhaaGreatDoor
namespace Go.Proofs.YtejfemdkommfhaaGreatDoor
open Go.RowKit
set_option maxRecDepth 100000 in
set_option maxHeartbeats 400000 in
theorem rRef_any (a s : Int) (w : World) : Calls Tryz.prog 39 #[.agg #[.int .i64 a, .int .i64 s]] w fun e w' => e = .returned (.bool (refB (a, s))) ∧ Below w.heap.size w w' := by
 unfold refB fromB
 dsimp only
 by_cases h1 : 1 ≤ a
 ·by_cases h2 : a ≤ 99
  ·by_cases h3 : 1 ≤ s
   ·by_cases h4 : s ≤ 1000000
    ·go_enter Tryz.func39, Tryz.ntmps39
     go_wp2
     go_ret
     exact ⟨by simp [h1, h2, h3, h4], (Below.refl _ _).alloc (Nat.le_refl _) _⟩
    ·go_enter Tryz.func39, Tryz.ntmps39
     go_wp2
     go_ret
     exact ⟨by simp [h4], (Below.refl _ _).alloc (Nat.le_refl _) _⟩
   ·go_enter Tryz.func39, Tryz.ntmps39
    go_wp2
    go_ret
    exact ⟨by simp; omega, (Below.refl _ _).alloc (Nat.le_refl _) _⟩
  ·go_enter Tryz.func39, Tryz.ntmps39
   go_wp2
   go_ret
   exact ⟨by simp; omega, (Below.refl _ _).alloc (Nat.le_refl _) _⟩
 ·go_enter Tryz.func39, Tryz.ntmps39
  go_wp2
  go_ret
  exact ⟨by simp; omega, (Below.refl _ _).alloc (Nat.le_refl _) _⟩
set_option maxRecDepth 100000 in
set_option maxHeartbeats 400000 in
theorem rObject_any (v : V) (w : World) : Calls Tryz.prog 75 #[v.val] w fun e w' => e = .returned (.bool (decide (v.k = 5 ∨ v.k = 6))) ∧ Below w.heap.size w w' := by
 obtain ⟨k, n, t, o, a⟩ := v
 unfold V.val
 dsimp only
 by_cases h5 : k = 5
 ·subst h5
  go_enter Tryz.func75, Tryz.ntmps75
  go_wp2
  go_ret
  exact ⟨by simp, (Below.refl _ _).alloc (Nat.le_refl _) _⟩
 ·have q5 : (k == 5) = false := by simpa using h5
  go_enter Tryz.func75, Tryz.ntmps75
  go_wp2
  go_ret
  exact ⟨by by_cases h6 : k = 6 <;> simp [h5, h6], (Below.refl _ _).alloc (Nat.le_refl _) _⟩
theorem rReal_any (n a : Int) (w : World) : Calls Tryz.prog 71 #[.agg #[.int .i64 n, .int .i64 a]] w fun e w' => e = .returned (.bool (!rootB (n, a) && idOkB n a)) ∧ Below w.heap.size w w' := by
 by_cases h : Real n a
 ·have e : (!rootB (n, a) && idOkB n a) = true := by
   rw [(idOk_iff n a).2 (Or.inr h), Bool.and_true, rootB]
   have := h.1
   simp
   omega
  rw [e]
  exact rReal_yes n a w h
 ·have e : (!rootB (n, a) && idOkB n a) = false := by
   by_cases hr : n = 0 ∧ a = 0
   ·simp [rootB, hr]
   ·rw [idOk_no n a (fun k => k.elim hr h), Bool.and_false]
  rw [e]
  exact rReal_no n a w h
theorem refsC_zero (l : List Pr) : refsC l = 0 ↔ (∀ i (h : i < l.length), refB l[i] = true) ∧ ∀ i (h : i + 1 < l.length), l[i].1 < l[i + 1].1 := by
 unfold refsC
 by_cases ha : l.all refB = true
 ·rw [if_pos ha]
  have h1 : ∀ i (h : i < l.length), refB l[i] = true := fun i h => List.all_eq_true.1 ha _ (List.getElem_mem h)
  by_cases hc : chainB (fun a b => decide (a.1 < b.1)) l = true
  ·rw [if_pos hc]
   have h2 := (chainB_iff _ _).1 hc
   exact ⟨fun _ => ⟨h1, fun i h => by simpa using h2 i h⟩, fun _ => rfl⟩
  ·rw [if_neg hc]
   refine ⟨fun e => (by cases e), fun q => absurd ?_ hc⟩
   obtain ⟨-, h2⟩ := q
   rw [chainB_iff]
   exact fun i h => by simpa using h2 i h
 ·rw [if_neg ha]
  refine ⟨fun e => (by cases e), fun q => absurd ?_ ha⟩
  obtain ⟨h1, -⟩ := q
  rw [List.all_eq_true]
  intro q hq
  obtain ⟨i, hi, rfl⟩ := List.getElem_of_mem hq
  exact h1 i hi
set_option maxRecDepth 100000 in
set_option maxHeartbeats 4000000 in
theorem rClock_any (v : Value) (l : List Pr) (w : World) (hv : IsPairs w v l) :
 Calls Tryz.prog 44 #[v] w fun e w' => (∃ x, e = .returned (.int .i64 x) ∧ (x = 0 ↔ refsC l = 0)) ∧ Below w.heap.size w w' := by
 obtain ⟨a, cap, rfl, h1, h2, hr, h3⟩ := hv
 have HZ : Hid (refsC l = 0 ↔ (∀ i (h : i < l.length), refB l[i] = true) ∧ ∀ i (h : i + 1 < l.length), l[i].1 < l[i + 1].1) := refsC_zero l
 go_enter Tryz.func44, Tryz.ntmps44
 go_wp2_with fail
 go_loopw [3] (fun i w2 => ∃ k : Nat, k ≤ l.length ∧ i = .int .i64 k ∧ (∀ j (h : j < l.length), j < k → refB l[j] = true) ∧ (∀ j (h : j + 1 < l.length), j + 1 < k → l[j].1 < l[j + 1].1) ∧ Below w.heap.size w w2) (fun i _ => l.length - (RowKit.intOf i).toNat)
 case atStart => exact ⟨0, Nat.zero_le _, rfl, fun j _ h => by omega, fun j _ h => by omega, Below.refl _ _⟩
 case round =>
  obtain ⟨k, hk, rfl, hok, hch, hbel⟩ := hrel
  have hz := hbel.size
  by_cases hlt : k < l.length
  ·obtain ⟨b, off, rfl, h4, h5⟩ := h3 (fun e => by rw [e] at hlt; simp at hlt)
   have x0 : wr.cell? ⟨b, off + k * 2, none⟩ = some (.int .i64 l[k].1) := by rw [hbel.cell (p := ⟨b, off + k * 2, none⟩) h4]; exact (h5 k hlt).1
   have x1 : wr.cell? ⟨b, off + k * 2 + 1, none⟩ = some (.int .i64 l[k].2) := by rw [hbel.cell (p := ⟨b, off + k * 2 + 1, none⟩) h4]; exact (h5 k hlt).2
   have g1 : (k : Int) < l.length := by omega
   have HH : Hid (refB l[k] = true → ∀ j (h : j < l.length), j < k + 1 → refB l[j] = true) := by
    intro e j h hj
    by_cases e2 : j = k
    ·subst e2; exact e
    ·exact hok j h (by omega)
   have HB : Hid (refB l[k] = false → ¬ refsC l = 0) := by
    intro e e2
    have := (HZ.out.1 e2).1 k hlt
    rw [e] at this
    cases this
   have HCh : Hid (∀ j (h : j + 1 < l.length), j + 1 < k → l[j].1 < l[j + 1].1) := hch
   have RR := fun W => rRef_any l[k].1 l[k].2 W
   have HE : Hid ((l[k].1, l[k].2) = l[k]) := rfl
   rw [HE.out] at RR
   clear hok hch
   cases hR : refB l[k] with
   | false =>
    have HB2 : Hid _ := HB.out hR
    simp only [hR] at RR
    clear HB HH h5 h3 HCh HE
    generalize l[k] = y at *
    go_wp2_with fail
    refine (RR _).mono ?_
    rintro e w1 ⟨rfl, b1⟩
    go_wp2
    go_ret
    exact ⟨⟨1, rfl, by simpa using HB2.out⟩, hbel.trans (b1.mono hz)⟩
   | true =>
    have HH2 : Hid _ := HH.out hR
    simp only [hR] at RR
    clear HB HH
    by_cases hk0 : k = 0
    ·subst hk0
     have HC2 : Hid (∀ j (h : j + 1 < l.length), j + 1 < 0 + 1 → l[j].1 < l[j + 1].1) := fun j h hj => by omega
     clear h5 h3 HCh HE
     generalize l[0] = y at *
     simp only [Nat.zero_mul, Nat.add_zero] at x0 x1
     go_wp2_with fail
     refine (RR _).mono ?_
     rintro e w1 ⟨rfl, b1⟩
     have B1 : Below w.heap.size w w1 := hbel.trans (b1.mono hz)
     go_wp2
     go_quiet (fail)
     go_wp2
     go_roundw
     case rel => exact ⟨1, by omega, by go_num, HH2.out, HC2.out, below_drew B1 nq⟩
     case measure => simp [RowKit.intOf]; omega
    ·have hk1 : 0 < k := by omega
     have hkm : k - 1 < l.length := by omega
     have dw : IntKind.i64.wrap ((k : Int) - 1) = (k : Int) - 1 := IntWalk.i64_in _ (by omega)
     have HY : Hid (wr.cell? ⟨b, off + (k - 1) * 2, none⟩ = some (.int .i64 l[k - 1].1)) := by show _ = _; rw [hbel.cell (p := ⟨b, off + (k - 1) * 2, none⟩) h4]; exact (h5 (k - 1) hkm).1
     have hbw : b < wr.heap.size := by omega
     by_cases hle : l[k - 1].1 < l[k].1
     ·have HC2 : Hid (∀ j (h : j + 1 < l.length), j + 1 < k + 1 → l[j].1 < l[j + 1].1) := by
       intro j h hj
       by_cases e : j + 1 < k
       ·exact HCh.out j h e
       ·obtain rfl : j = k - 1 := by omega
        have e2 : k - 1 + 1 = k := by omega
        simp only [e2]
        exact hle
      have d1 : decide (l[k].1 ≤ l[k - 1].1) = false := by rw [decide_eq_false_iff_not]; omega
      clear h5 h3 HCh HE hle
      generalize l[k] = y at *
      generalize l[k - 1].1 = x at *
      go_wp2_with fail
      refine (RR _).mono ?_
      rintro e w1 ⟨rfl, b1⟩
      have B1 : Below w.heap.size w w1 := hbel.trans (b1.mono hz)
      have z0 : w1.cell? ⟨b, off + k * 2, none⟩ = some (.int .i64 y.1) := (b1.cell (p := ⟨b, off + k * 2, none⟩) hbw).trans x0
      have z1 : w1.cell? ⟨b, off + (k - 1) * 2, none⟩ = some (.int .i64 x) := (b1.cell (p := ⟨b, off + (k - 1) * 2, none⟩) hbw).trans HY.out
      clear x0 x1
      go_wp2
      go_quiet (fail)
      go_wp2
      go_roundw
      case rel => exact ⟨k + 1, by omega, by go_num, HH2.out, HC2.out, below_drew B1 nq⟩
      case measure => simp [RowKit.intOf]; omega
     ·have HN : Hid (¬ refsC l = 0) := by
       intro e
       have := (HZ.out.1 e).2 (k - 1) (by omega)
       have e2 : k - 1 + 1 = k := by omega
       simp only [e2] at this
       exact hle this
      have d1 : decide (l[k].1 ≤ l[k - 1].1) = true := by rw [decide_eq_true_eq]; omega
      have g2 : l[k].1 ≤ l[k - 1].1 := by omega
      clear h5 h3 HCh HE hle
      generalize l[k] = y at *
      generalize l[k - 1].1 = x at *
      go_wp2_with fail
      refine (RR _).mono ?_
      rintro e w1 ⟨rfl, b1⟩
      have B1 : Below w.heap.size w w1 := hbel.trans (b1.mono hz)
      have z0 : w1.cell? ⟨b, off + k * 2, none⟩ = some (.int .i64 y.1) := (b1.cell (p := ⟨b, off + k * 2, none⟩) hbw).trans x0
      have z1 : w1.cell? ⟨b, off + (k - 1) * 2, none⟩ = some (.int .i64 x) := (b1.cell (p := ⟨b, off + (k - 1) * 2, none⟩) hbw).trans HY.out
      clear x0 x1
      go_wp2
      go_quiet (fail)
      go_wp2
      go_ret
      exact ⟨⟨5, rfl, by simpa using HN.out⟩, below_drew B1 nq⟩
  ·have HN : Hid (refsC l = 0) := HZ.out.2 ⟨fun i h => hok i h (by omega), fun i h => hch i h (by omega)⟩
   have g1 : ¬ (k : Int) < l.length := by omega
   clear hok hch
   go_wp2
   go_ret
   exact ⟨⟨0, rfl, by simpa using HN.out⟩, hbel⟩
end Go.Proofs.YtejfemdkommfhaaGreatDoor
