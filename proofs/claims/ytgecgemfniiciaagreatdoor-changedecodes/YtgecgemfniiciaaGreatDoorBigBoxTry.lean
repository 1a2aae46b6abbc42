/-
  What is proved: the methods of the statements' own package of great numbers that bookref1's Get calls, at numbers that are not too great and not below 0.
  Conditions: as each theorem says.
-/
import Derived.Test.YtgecgemfniiciaaGreatDoorBigAdd
import Derived.Deep.RegionWith
import Derived.Deep.RegionHeld3
namespace Go.Proofs.YtgecgemfniiciaaGreatDoor
open Go.RowKit

/-- A number in its box. -/
def IsNum (w : World) (p x : Nat) : Prop :=
  p < w.heap.size ∧ w.cell? ⟨p, 0, none⟩ = some (.bool false) ∧ (∀ t, w.frozen? ⟨p, t, none⟩ = false) ∧ ∃ v, w.cell? ⟨p, 1, none⟩ = some v ∧ IsBig w v x

theorem IsBig.setBox {w : World} {v : Value} {x p j : Nat} {b : Bool} {u : Value} (h : IsBig w v x) (hp : w.cell? ⟨p, 0, none⟩ = some (.bool b)) : IsBig (w.setCell ⟨p, j, none⟩ u) v x := by
  obtain ⟨a, cap, ws, rfl, h1, h2, h3, h4⟩ := h
  refine ⟨a, cap, ws, rfl, h1, h2, h3, fun hne => ?_⟩
  obtain ⟨g, rfl, h5, h6⟩ := h4 hne
  have hgp : g ≠ p := by
    intro e
    subst e
    have := h6 0 (List.length_pos_iff.2 hne)
    rw [hp] at this
    cases this
  refine ⟨g, rfl, by simpa using h5, fun t ht => ?_⟩
  rw [World.cell?_setCell_other _ _ _ _ (fun e => hgp (by injection e with e _; exact e.symm))]
  exact h6 t ht

theorem IsBig.slice {w : World} {v : Value} {x : Nat} (h : IsBig w v x) : ∃ a n cap, v = .slice a n cap := by
  obtain ⟨a, cap, ws, rfl, _⟩ := h
  exact ⟨a, _, cap, rfl⟩

theorem below_frozen {B : Nat} {w w' : World} (h : Below B w w') {p : Nat} (hp : p < B) (t : Nat) : w'.frozen? ⟨p, t, none⟩ = w.frozen? ⟨p, t, none⟩ := by
  simp only [World.frozen?]
  rw [h.block p hp]

/-- What give leaves. -/
def gave (w : World) (p : Nat) (v : Value) : World := (w.setCell ⟨p, 1, none⟩ v).setCell ⟨p, 0, none⟩ (.bool false)

set_option maxRecDepth 100000 in
set_option maxHeartbeats 1000000 in
theorem nGive_any (p : Nat) (b : Bool) (a : Option Addr) (n cap : Nat) (u : Value) (w : World) (h0 : w.cell? ⟨p, 0, none⟩ = some (.bool b)) (h1 : w.cell? ⟨p, 1, none⟩ = some u) (hf : ∀ t, w.frozen? ⟨p, t, none⟩ = false) :
    Calls Tryz.prog 58 #[.pointer (some ⟨p, 0, none⟩), .bool false, .slice a n cap] w fun e w' => e = .returned (.pointer (some ⟨p, 0, none⟩)) ∧ w' = gave w p (.slice a n cap) := by
  unfold gave
  go_enter Tryz.func58, Tryz.ntmps58
  go_wp2
  go_ret
  exact ⟨rfl, rfl⟩

set_option maxRecDepth 100000 in
set_option maxHeartbeats 40000000 in
theorem nMulM_any (pz px py x y : Nat) (w : World) (hz : px = pz) (hx : IsNum w px x) (hy : IsNum w py y) (hlx : x < 79228162514264337593543950336) (hly : y < 79228162514264337593543950336) :
    Calls Tryz.prog 29 #[.pointer (some ⟨pz, 0, none⟩), .pointer (some ⟨px, 0, none⟩), .pointer (some ⟨py, 0, none⟩)] w fun e w' => e = .returned (.pointer (some ⟨pz, 0, none⟩)) ∧ ∃ w1 v, IsBig w1 v (x * y) ∧ Below w.heap.size w w1 ∧ w' = gave w1 pz v := by
  subst hz
  obtain ⟨x1, x2, x3, vx, x4, x5⟩ := hx
  obtain ⟨y1, y2, y3, vy, y4, y5⟩ := hy
  have M := fun W hW => nMul_any vx vy x y W (x5.below hW) (y5.below hW) hlx hly
  obtain ⟨ax, nx, cx, rfl⟩ := x5.slice
  obtain ⟨ay, ny, cy, rfl⟩ := y5.slice
  clear x5 y5 hlx hly y3
  go_enter Tryz.func29, Tryz.ntmps29
  go_wp2_with fail
  go_region_with (first
    | (go_at_call 59; refine (M _ ?_).mono ?_; exact (Below.refl _ _).drew; rintro e w1 ⟨v, rfl, hv, hb⟩; obtain ⟨ar, nr, cr, rfl⟩ := hv.slice; have c0 : w1.cell? ⟨px, 0, none⟩ = some (.bool false) := (hb.cell (p := ⟨px, 0, none⟩) x1).trans x2; have c1 : w1.cell? ⟨px, 1, none⟩ = some (.slice ax nx cx) := (hb.cell (p := ⟨px, 1, none⟩) x1).trans x4; have c2 : w1.cell? ⟨py, 0, none⟩ = some (.bool false) := (hb.cell (p := ⟨py, 0, none⟩) y1).trans y2; have cf : ∀ t, w1.frozen? ⟨px, t, none⟩ = false := fun t => (below_frozen hb x1 t).trans (x3 t))
    | (go_at_call 58; refine (nGive_any px false ar nr cr (.slice ax nx cx) w1 c0 c1 cf).mono ?_; rintro e w2 ⟨rfl, rfl⟩))
  all_goals
    go_wp2
    go_ret
    exact ⟨rfl, w1, _, hv, ((Below.refl _ _).drew).trans (hb.mono (Nat.le_refl _)), rfl⟩
end Go.Proofs.YtgecgemfniiciaaGreatDoor
