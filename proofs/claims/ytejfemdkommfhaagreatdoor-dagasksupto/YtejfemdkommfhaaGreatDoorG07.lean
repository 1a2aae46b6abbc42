/-
  What is proved: as each theorem says.
  Conditions: as each theorem says.
-/
import Derived.Test.YtejfemdkommfhaaGreatDoorG06
import Derived.Deep.LoopGhost
namespace Go.Proofs.YtejfemdkommfhaaGreatDoor
open Go.RowKit Go.Maps
def samePr (a b : Pr) : Bool := a.1 == b.1 && a.2 == b.2
theorem samePr_iff (a b : Pr) : samePr a b = true ↔ a = b := by
 unfold samePr
 simp [Prod.ext_iff]
theorem samePr_no {a b : Pr} (h : samePr a b = false) : a ≠ b := fun e => by rw [(samePr_iff a b).2 e] at h; cases h
theorem take_eq {l m : List Pr} (k : Nat) (h1 : k < l.length) (h2 : k < m.length) (h : l.take k = m.take k) (e : l[k] = m[k]) : l.take (k + 1) = m.take (k + 1) := by
 rw [List.take_succ_eq_append_getElem h1, List.take_succ_eq_append_getElem h2, h, e]
set_option maxRecDepth 100000 in
theorem eqR (a b : Pr) (w : World) : (Op.equalIn 10000 25 (.agg #[.int .i64 a.1, .int .i64 a.2]) (.agg #[.int .i64 b.1, .int .i64 b.2])).run Tryz.prog w = .ok (samePr a b) w := by
 unfold samePr
 go_simp
 by_cases h1 : a.1 = b.1 <;> by_cases h2 : a.2 = b.2 <;> simp [h1, h2]
set_option maxRecDepth 100000 in
set_option maxHeartbeats 4000000 in
theorem equalR_any (v u : Value) (l m : List Pr) (w : World) (hv : IsPairs w v l) (hu : IsPairs w u m) :
 Calls Tryz.prog 50 #[v, u] w fun e w' => (∃ b : Bool, e = .returned (.bool b) ∧ (b = true ↔ l = m)) ∧ Below w.heap.size w w' := by
 obtain ⟨a, cap, rfl, h1, h2, hr, h3⟩ := hv
 obtain ⟨c, cap2, rfl, k1, k2, kr, k3⟩ := hu
 have HA : Hid ((l ≠ [] → ∃ b off, a = some ⟨b, off, none⟩ ∧ b < w.heap.size ∧ ∀ i (h : i < l.length), w.cell? ⟨b, off + i * 2, none⟩ = some (.int .i64 l[i].1) ∧ w.cell? ⟨b, off + i * 2 + 1, none⟩ = some (.int .i64 l[i].2)) ∧ (m ≠ [] → ∃ b off, c = some ⟨b, off, none⟩ ∧ b < w.heap.size ∧ ∀ i (h : i < m.length), w.cell? ⟨b, off + i * 2, none⟩ = some (.int .i64 m[i].1) ∧ w.cell? ⟨b, off + i * 2 + 1, none⟩ = some (.int .i64 m[i].2))) := ⟨h3, k3⟩
 have HZ : Hid (l.length ≤ 8796093022208) := h2
 clear h1 h2 hr h3 k1 k2 kr k3
 have HE := eqR
 by_cases hlen : l.length = m.length
 ·have HL : Hid (l.length = m.length) := hlen
  rw [← hlen]
  clear hlen
  go_enter Tryz.func50, Tryz.ntmps50
  go_wp2_with fail
  go_loopw [13] (fun i wr => ∃ k : Nat, k ≤ l.length ∧ i = .int .i64 k ∧ Hid (l.take k = m.take k) ∧ Below w.heap.size w wr) (fun i _ => l.length - (RowKit.intOf i).toNat)
  case atStart => exact ⟨0, Nat.zero_le _, rfl, by show _ = _; simp, Below.refl _ _⟩
  case round =>
   obtain ⟨k, hk, rfl, hs, hbel⟩ := hrel
   by_cases hlt : k < l.length
   ·have hlm : k < m.length := by have := HL.out; omega
    obtain ⟨b, off, rfl, h4, h5⟩ := HA.out.1 (fun e => by rw [e] at hlt; simp at hlt)
    obtain ⟨b2, off2, rfl, k4, k5⟩ := HA.out.2 (fun e => by rw [e] at hlm; simp at hlm)
    have x0 : wr.cell? ⟨b, off + k * 2, none⟩ = some (.int .i64 l[k].1) := by rw [hbel.cell (p := ⟨b, off + k * 2, none⟩) h4]; exact (h5 k hlt).1
    have x1 : wr.cell? ⟨b, off + k * 2 + 1, none⟩ = some (.int .i64 l[k].2) := by rw [hbel.cell (p := ⟨b, off + k * 2 + 1, none⟩) h4]; exact (h5 k hlt).2
    have y0 : wr.cell? ⟨b2, off2 + k * 2, none⟩ = some (.int .i64 m[k].1) := by rw [hbel.cell (p := ⟨b2, off2 + k * 2, none⟩) k4]; exact (k5 k hlm).1
    have y1 : wr.cell? ⟨b2, off2 + k * 2 + 1, none⟩ = some (.int .i64 m[k].2) := by rw [hbel.cell (p := ⟨b2, off2 + k * 2 + 1, none⟩) k4]; exact (k5 k hlm).2
    have g1 : (k : Int) < l.length := by omega
    have g2 : (k : Int) < 8796093022208 := by have := HZ.out; omega
    obtain ⟨p, hp⟩ : ∃ p : Pr, l[k] = p := ⟨_, rfl⟩
    obtain ⟨q, hq⟩ : ∃ q : Pr, m[k] = q := ⟨_, rfl⟩
    rw [hp] at x0 x1
    rw [hq] at y0 y1
    have HK : Hid (∃ (h1 : k < l.length) (h2 : k < m.length), l[k] = p ∧ m[k] = q) := ⟨hlt, hlm, hp, hq⟩
    have HB : Hid (Below w.heap.size w wr) := hbel
    have E := HE p q
    obtain ⟨sb, hsb⟩ : ∃ s : Bool, samePr p q = s := ⟨_, rfl⟩
    rw [hsb] at E
    have HS : Hid (samePr p q = sb) := hsb
    clear h5 k5 hk hbel hlt hlm hp hq HE hsb
    cases sb with
    | true =>
     go_wp2
     go_quiet (fail)
     go_wp2
     go_roundw
     case rel =>
      obtain ⟨i1, i2, e1, e2⟩ := HK.out
      exact ⟨k + 1, i1, by go_num, take_eq k i1 i2 hs.out (by rw [e1, e2]; exact (samePr_iff p q).1 HS.out), below_drew HB.out nq⟩
     case measure => simp [RowKit.intOf]; obtain ⟨i1, _⟩ := HK.out; omega
    | false =>
     go_wp2
     go_quiet (fail)
     go_wp2
     go_ret
     obtain ⟨i1, i2, e1, e2⟩ := HK.out
     exact ⟨⟨false, rfl, ⟨fun h => (by cases h), fun h => absurd (by rw [← e1, ← e2]; simp [h]) (samePr_no HS.out)⟩⟩, below_drew HB.out nq⟩
   ·have hke : k = l.length := by omega
    have HB : Hid (Below w.heap.size w wr) := hbel
    clear hlt hk hbel
    subst hke
    go_wp2
    go_ret
    have e1 := hs.out
    rw [List.take_of_length_le (Nat.le_refl _), List.take_of_length_le (by have := HL.out; omega)] at e1
    exact ⟨⟨true, rfl, ⟨fun _ => e1, fun _ => rfl⟩⟩, HB.out⟩
 ·have g1 : ¬ (l.length : Int) = m.length := by omega
  have g2 : ((l.length : Int) == m.length) = false := by simp; omega
  have HL : Hid (¬ l.length = m.length) := hlen
  clear hlen
  go_enter Tryz.func50, Tryz.ntmps50
  go_wp2
  go_ret
  exact ⟨⟨false, rfl, ⟨fun h => (by cases h), fun h => absurd (by rw [h]) HL.out⟩⟩, Below.refl _ _⟩
set_option maxRecDepth 100000 in
theorem eqD (a b : Pr) (w : World) : (Op.equalIn 10000 78 (.agg #[.int .i64 a.1, .int .i64 a.2]) (.agg #[.int .i64 b.1, .int .i64 b.2])).run Tryz.prog w = .ok (samePr a b) w := by
 unfold samePr
 go_simp
 by_cases h1 : a.1 = b.1 <;> by_cases h2 : a.2 = b.2 <;> simp [h1, h2]
set_option maxRecDepth 100000 in
set_option maxHeartbeats 4000000 in
theorem equalD_any (v u : Value) (l m : List Pr) (w : World) (hv : IsPairs w v l) (hu : IsPairs w u m) :
 Calls Tryz.prog 86 #[v, u] w fun e w' => (∃ b : Bool, e = .returned (.bool b) ∧ (b = true ↔ l = m)) ∧ Below w.heap.size w w' := by
 obtain ⟨a, cap, rfl, h1, h2, hr, h3⟩ := hv
 obtain ⟨c, cap2, rfl, k1, k2, kr, k3⟩ := hu
 have HA : Hid ((l ≠ [] → ∃ b off, a = some ⟨b, off, none⟩ ∧ b < w.heap.size ∧ ∀ i (h : i < l.length), w.cell? ⟨b, off + i * 2, none⟩ = some (.int .i64 l[i].1) ∧ w.cell? ⟨b, off + i * 2 + 1, none⟩ = some (.int .i64 l[i].2)) ∧ (m ≠ [] → ∃ b off, c = some ⟨b, off, none⟩ ∧ b < w.heap.size ∧ ∀ i (h : i < m.length), w.cell? ⟨b, off + i * 2, none⟩ = some (.int .i64 m[i].1) ∧ w.cell? ⟨b, off + i * 2 + 1, none⟩ = some (.int .i64 m[i].2))) := ⟨h3, k3⟩
 have HZ : Hid (l.length ≤ 8796093022208) := h2
 clear h1 h2 hr h3 k1 k2 kr k3
 have HE := eqD
 by_cases hlen : l.length = m.length
 ·have HL : Hid (l.length = m.length) := hlen
  rw [← hlen]
  clear hlen
  go_enter Tryz.func86, Tryz.ntmps86
  go_wp2_with fail
  go_loopw [13] (fun i wr => ∃ k : Nat, k ≤ l.length ∧ i = .int .i64 k ∧ Hid (l.take k = m.take k) ∧ Below w.heap.size w wr) (fun i _ => l.length - (RowKit.intOf i).toNat)
  case atStart => exact ⟨0, Nat.zero_le _, rfl, by show _ = _; simp, Below.refl _ _⟩
  case round =>
   obtain ⟨k, hk, rfl, hs, hbel⟩ := hrel
   by_cases hlt : k < l.length
   ·have hlm : k < m.length := by have := HL.out; omega
    obtain ⟨b, off, rfl, h4, h5⟩ := HA.out.1 (fun e => by rw [e] at hlt; simp at hlt)
    obtain ⟨b2, off2, rfl, k4, k5⟩ := HA.out.2 (fun e => by rw [e] at hlm; simp at hlm)
    have x0 : wr.cell? ⟨b, off + k * 2, none⟩ = some (.int .i64 l[k].1) := by rw [hbel.cell (p := ⟨b, off + k * 2, none⟩) h4]; exact (h5 k hlt).1
    have x1 : wr.cell? ⟨b, off + k * 2 + 1, none⟩ = some (.int .i64 l[k].2) := by rw [hbel.cell (p := ⟨b, off + k * 2 + 1, none⟩) h4]; exact (h5 k hlt).2
    have y0 : wr.cell? ⟨b2, off2 + k * 2, none⟩ = some (.int .i64 m[k].1) := by rw [hbel.cell (p := ⟨b2, off2 + k * 2, none⟩) k4]; exact (k5 k hlm).1
    have y1 : wr.cell? ⟨b2, off2 + k * 2 + 1, none⟩ = some (.int .i64 m[k].2) := by rw [hbel.cell (p := ⟨b2, off2 + k * 2 + 1, none⟩) k4]; exact (k5 k hlm).2
    have g1 : (k : Int) < l.length := by omega
    have g2 : (k : Int) < 8796093022208 := by have := HZ.out; omega
    obtain ⟨p, hp⟩ : ∃ p : Pr, l[k] = p := ⟨_, rfl⟩
    obtain ⟨q, hq⟩ : ∃ q : Pr, m[k] = q := ⟨_, rfl⟩
    rw [hp] at x0 x1
    rw [hq] at y0 y1
    have HK : Hid (∃ (h1 : k < l.length) (h2 : k < m.length), l[k] = p ∧ m[k] = q) := ⟨hlt, hlm, hp, hq⟩
    have HB : Hid (Below w.heap.size w wr) := hbel
    have E := HE p q
    obtain ⟨sb, hsb⟩ : ∃ s : Bool, samePr p q = s := ⟨_, rfl⟩
    rw [hsb] at E
    have HS : Hid (samePr p q = sb) := hsb
    clear h5 k5 hk hbel hlt hlm hp hq HE hsb
    cases sb with
    | true =>
     go_wp2
     go_quiet (fail)
     go_wp2
     go_roundw
     case rel =>
      obtain ⟨i1, i2, e1, e2⟩ := HK.out
      exact ⟨k + 1, i1, by go_num, take_eq k i1 i2 hs.out (by rw [e1, e2]; exact (samePr_iff p q).1 HS.out), below_drew HB.out nq⟩
     case measure => simp [RowKit.intOf]; obtain ⟨i1, _⟩ := HK.out; omega
    | false =>
     go_wp2
     go_quiet (fail)
     go_wp2
     go_ret
     obtain ⟨i1, i2, e1, e2⟩ := HK.out
     exact ⟨⟨false, rfl, ⟨fun h => (by cases h), fun h => absurd (by rw [← e1, ← e2]; simp [h]) (samePr_no HS.out)⟩⟩, below_drew HB.out nq⟩
   ·have hke : k = l.length := by omega
    have HB : Hid (Below w.heap.size w wr) := hbel
    clear hlt hk hbel
    subst hke
    go_wp2
    go_ret
    have e1 := hs.out
    rw [List.take_of_length_le (Nat.le_refl _), List.take_of_length_le (by have := HL.out; omega)] at e1
    exact ⟨⟨true, rfl, ⟨fun _ => e1, fun _ => rfl⟩⟩, HB.out⟩
 ·have g1 : ¬ (l.length : Int) = m.length := by omega
  have g2 : ((l.length : Int) == m.length) = false := by simp; omega
  have HL : Hid (¬ l.length = m.length) := hlen
  clear hlen
  go_enter Tryz.func86, Tryz.ntmps86
  go_wp2
  go_ret
  exact ⟨⟨false, rfl, ⟨fun h => (by cases h), fun h => absurd (by rw [h]) HL.out⟩⟩, Below.refl _ _⟩
end Go.Proofs.YtejfemdkommfhaaGreatDoor
