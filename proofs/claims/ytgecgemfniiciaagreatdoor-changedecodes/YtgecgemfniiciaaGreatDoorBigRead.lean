/-
  What is proved: IsUint64 and Uint64 of the statements' own package of great numbers, at numbers that are not below 0.
  Conditions: as each theorem says.
-/
import Derived.Test.YtgecgemfniiciaaGreatDoorBigMore
namespace Go.Proofs.YtgecgemfniiciaaGreatDoor
open Go.RowKit

set_option maxRecDepth 100000 in
set_option maxHeartbeats 2000000 in
theorem nIs_any (p x : Nat) (w : World) (hp : IsNum w p x) (hx : x < 79228162514264337593543950336) :
    Calls Tryz.prog 31 #[.pointer (some ⟨p, 0, none⟩)] w fun e w' => e = .returned (.bool (decide (x < 18446744073709551616))) ∧ Below w.heap.size w w' := by
  obtain ⟨x1, x2, x3, v, x4, x5⟩ := hp
  have L := fun (W : World) (hW : Below w.heap.size w W) => nLength_any v x W (x5.below hW) hx
  obtain ⟨a, n, c, rfl⟩ := x5.slice
  clear x5 x3
  go_enter Tryz.func31, Tryz.ntmps31
  go_wp2_with fail
  refine (L _ (Below.refl _ _)).mono ?_
  rintro e w1 ⟨m, rfl, hm, hw⟩
  subst w1
  by_cases h : x < 18446744073709551616
  · have h1 := hm.2 h
    have g1 : (m : Int) ≤ 64 := by omega
    have HD : Hid (decide (x < 18446744073709551616) = true) := decide_eq_true h
    clear hm L h
    go_wp2
    go_ret
    exact ⟨by rw [HD.out]; rfl, Below.refl _ _⟩
  · have h1 : ¬ m ≤ 64 := fun e => h (hm.1 e)
    have g1 : ¬ (m : Int) ≤ 64 := by omega
    have HD : Hid (decide (x < 18446744073709551616) = false) := decide_eq_false h
    clear hm L h
    go_wp2
    go_ret
    exact ⟨by rw [HD.out]; simp; omega, Below.refl _ _⟩

set_option maxRecDepth 100000 in
set_option maxHeartbeats 2000000 in
theorem nUint_any (p x : Nat) (w : World) (hp : IsNum w p x) (hx : x < 18446744073709551616) :
    Calls Tryz.prog 32 #[.pointer (some ⟨p, 0, none⟩)] w fun e w' => e = .returned (.int .u64 x) ∧ Below w.heap.size w w' := by
  obtain ⟨x1, x2, x3, v, x4, a, cap, ws, rfl, rfl, hw, hn, hi⟩ := hp
  have h3 := norm_len3 hn (by omega)
  have hl2 : ws.length ≤ 2 := by
    by_cases h0 : ws = []
    · subst h0; simp
    · have hle := norm_le hn h0
      rcases Nat.lt_or_ge 2 ws.length with h | h
      · have : ws.length = 3 := by omega
        rw [this] at hle
        omega
      · exact h
  clear hn h3
  match ws, hl2 with
  | [], _ =>
    go_enter Tryz.func32, Tryz.ntmps32
    go_wp2
    go_ret
    exact ⟨by simp [wv], Below.refl _ _⟩
  | [y], _ =>
    obtain ⟨g, rfl, hg, hc⟩ := hi (by simp)
    have c0 : w.cell? ⟨g, 0, none⟩ = some (.int .u32 (y : Int)) := hc 0 (by simp)
    have hy := hw y (by simp)
    clear hi hc hw
    simp only [List.length_cons, List.length_nil, Nat.zero_add] at x4
    go_enter Tryz.func32, Tryz.ntmps32
    go_wp2
    go_ret
    exact ⟨by simp [wv], Below.refl _ _⟩
  | [y, z], _ =>
    obtain ⟨g, rfl, hg, hc⟩ := hi (by simp)
    have c0 : w.cell? ⟨g, 0, none⟩ = some (.int .u32 (y : Int)) := hc 0 (by simp)
    have c1 : w.cell? ⟨g, 1, none⟩ = some (.int .u32 (z : Int)) := hc 1 (by simp)
    have hy := hw y (by simp)
    have hz := hw z (by simp)
    have hor : bits .or .u64 (y : Int) ((z : Int) * 4294967296) = (y : Int) + (z : Int) * 4294967296 := by
      rw [u64_or _ _ (by omega) (by omega) (by omega) (by omega)]
      have h1 : ((z : Int) * 4294967296).toNat = 2 ^ 32 * z := by omega
      rw [h1, Int.toNat_natCast, Nat.or_comm, ← Nat.two_pow_add_eq_or_of_lt (by omega)]
      omega
    clear hi hc hw
    simp only [List.length_cons, List.length_nil, Nat.zero_add] at x4
    go_enter Tryz.func32, Tryz.ntmps32
    go_wp2
    go_ret
    exact ⟨by simp [wv]; omega, Below.refl _ _⟩

/-- What a method that gives a number leaves. -/
theorem gave_all {w w1 : World} {p x y B : Nat} {v : Value} (hp : IsNum w p y) (hb : Below w.heap.size w w1) (hv : IsBig w1 v x) (hB : B ≤ p) :
    IsNum (gave w1 p v) p x ∧ (∀ q z, q ≠ p → IsNum w q z → IsNum (gave w1 p v) q z) ∧ Below B w (gave w1 p v) := by
  obtain ⟨y1, y2, y3, u, y4, y5⟩ := hp.below hb
  refine ⟨isNum_gave hv y1 y2 y4 y3, fun q z hq hz => isNum_other (hz.below hb) (fun e => hq e.symm) y2, ?_⟩
  have h1 : Below B w w1 := hb.mono (by have := hp.1; omega)
  exact (h1.setCell hB _).setCell hB _

theorem nMulI_any (px py x y B : Nat) (w : World) (hx : IsNum w px x) (hy : IsNum w py y) (hlx : x < 79228162514264337593543950336) (hly : y < 79228162514264337593543950336) (hB : B ≤ px) :
    Calls Tryz.prog 29 #[.pointer (some ⟨px, 0, none⟩), .pointer (some ⟨px, 0, none⟩), .pointer (some ⟨py, 0, none⟩)] w fun e w' => e = .returned (.pointer (some ⟨px, 0, none⟩)) ∧ IsNum w' px (x * y) ∧ (∀ q z, q ≠ px → IsNum w q z → IsNum w' q z) ∧ Below B w w' := by
  refine (nMulM_any px px py x y w rfl hx hy hlx hly).mono ?_
  rintro e w' ⟨rfl, w1, v, hv, hb, rfl⟩
  exact ⟨rfl, gave_all hx hb hv hB⟩

theorem nAddI_any (px py x y B : Nat) (w : World) (hx : IsNum w px x) (hy : IsNum w py y) (hlx : x < 79228162514264337593543950336) (hly : y < 79228162514264337593543950336) (hB : B ≤ px) :
    Calls Tryz.prog 30 #[.pointer (some ⟨px, 0, none⟩), .pointer (some ⟨px, 0, none⟩), .pointer (some ⟨py, 0, none⟩)] w fun e w' => e = .returned (.pointer (some ⟨px, 0, none⟩)) ∧ IsNum w' px (x + y) ∧ (∀ q z, q ≠ px → IsNum w q z → IsNum w' q z) ∧ Below B w w' := by
  refine (nAddM_any px px py x y w rfl hx hy hlx hly).mono ?_
  rintro e w' ⟨rfl, w1, v, hv, hb, rfl⟩
  exact ⟨rfl, gave_all hx hb hv hB⟩
end Go.Proofs.YtgecgemfniiciaaGreatDoor
