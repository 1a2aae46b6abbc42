/-
  What is proved: the methods Add, IsUint64 and Uint64 of the statements' own package of great numbers, and NewInt, at numbers that are not too great and not below 0.
  Conditions: as each theorem says.
-/
import Derived.Test.YtgecgemfniiciaaGreatDoorBigBoxTry
namespace Go.Proofs.YtgecgemfniiciaaGreatDoor
open Go.RowKit

set_option maxRecDepth 100000 in
set_option maxHeartbeats 1000000 in
theorem nSum_any (va vb : Value) (x y : Nat) (w : World) (ha : IsBig w va x) (hb : IsBig w vb y) (hx : x < 79228162514264337593543950336) (hy : y < 79228162514264337593543950336) :
    Calls Tryz.prog 60 #[.bool false, va, .bool false, vb] w fun e w' => ∃ v, e = .returned (.tuple #[.bool false, v]) ∧ IsBig w' v (x + y) ∧ Below w.heap.size w w' := by
  have A := nAdd_any va vb x y w ha hb hx hy
  obtain ⟨ax, nx, cx, rfl⟩ := ha.slice
  obtain ⟨ay, ny, cy, rfl⟩ := hb.slice
  go_enter Tryz.func60, Tryz.ntmps60
  go_wp2_with fail
  refine A.mono ?_
  rintro e w1 ⟨v, rfl, hv, b1⟩
  obtain ⟨ar, nr, cr, rfl⟩ := hv.slice
  go_wp2
  go_returns
  exact ⟨_, rfl, hv, b1⟩

set_option maxRecDepth 100000 in
set_option maxHeartbeats 40000000 in
theorem nAddM_any (pz px py x y : Nat) (w : World) (hz : px = pz) (hx : IsNum w px x) (hy : IsNum w py y) (hlx : x < 79228162514264337593543950336) (hly : y < 79228162514264337593543950336) :
    Calls Tryz.prog 30 #[.pointer (some ⟨pz, 0, none⟩), .pointer (some ⟨px, 0, none⟩), .pointer (some ⟨py, 0, none⟩)] w fun e w' => e = .returned (.pointer (some ⟨pz, 0, none⟩)) ∧ ∃ w1 v, IsBig w1 v (x + y) ∧ Below w.heap.size w w1 ∧ w' = gave w1 pz v := by
  subst hz
  obtain ⟨x1, x2, x3, vx, x4, x5⟩ := hx
  obtain ⟨y1, y2, y3, vy, y4, y5⟩ := hy
  have M := fun W hW => nSum_any vx vy x y W (x5.below hW) (y5.below hW) hlx hly
  obtain ⟨ax, nx, cx, rfl⟩ := x5.slice
  obtain ⟨ay, ny, cy, rfl⟩ := y5.slice
  clear x5 y5 hlx hly y3
  go_enter Tryz.func30, Tryz.ntmps30
  go_wp2_with fail
  go_region_with (first
    | (go_at_call 60; refine (M _ ?_).mono ?_; exact (Below.refl _ _).drew; rintro e w1 ⟨v, rfl, hv, hb⟩; obtain ⟨ar, nr, cr, rfl⟩ := hv.slice; have c0 : w1.cell? ⟨px, 0, none⟩ = some (.bool false) := (hb.cell (p := ⟨px, 0, none⟩) x1).trans x2; have c1 : w1.cell? ⟨px, 1, none⟩ = some (.slice ax nx cx) := (hb.cell (p := ⟨px, 1, none⟩) x1).trans x4; have cf : ∀ t, w1.frozen? ⟨px, t, none⟩ = false := fun t => (below_frozen hb x1 t).trans (x3 t))
    | (go_at_call 58; refine (nGive_any px false ar nr cr (.slice ax nx cx) w1 c0 c1 cf).mono ?_; rintro e w2 ⟨rfl, rfl⟩))
  all_goals
    go_wp2
    go_ret
    exact ⟨rfl, w1, _, hv, ((Below.refl _ _).drew).trans (hb.mono (Nat.le_refl _)), rfl⟩
end Go.Proofs.YtgecgemfniiciaaGreatDoor
