/-
  What is proved: NewInt, IsUint64 and Uint64 of the statements' own package of great numbers, at numbers that are not below 0.
  Conditions: as each theorem says.
-/
import Derived.Test.YtgecgemfniiciaaGreatDoorBigSum
namespace Go.Proofs.YtgecgemfniiciaaGreatDoor
open Go.RowKit

set_option maxRecDepth 100000 in
set_option maxHeartbeats 1000000 in
theorem nWords_any (u : Nat) (w : World) (hu : u < 18446744073709551616) :
    Calls Tryz.prog 77 #[.int .u64 u] w fun e w' => ∃ v, e = .returned v ∧ IsBig w' v u ∧ Below w.heap.size w w' := by
  have q1 : (u : Int) / 4294967296 < 4294967296 := by omega
  have q0 : 0 ≤ (u : Int) / 4294967296 := by omega
  have q2 : (u : Int) / 4294967296 % 4294967296 = (u : Int) / 4294967296 := by omega
  have hv : wv [u % 4294967296, u / 4294967296] = u := by simp only [wv]; omega
  have T := fun (W : World) hc hg => nTrim_any w.heap.size 2 [u % 4294967296, u / 4294967296] W (by simp) (by simp) hc hg (by intro y hy; simp at hy; omega)
  rw [hv] at T
  go_enter Tryz.func77, Tryz.ntmps77
  go_wp2_with fail
  refine (T _ ?_ ?_).mono ?_
  · intro t ht
    match t, ht with
    | 0, _ => simp
    | 1, _ => simp
  · simp
  rintro e w1 ⟨rfl, v, rfl, hb⟩
  go_wp2
  go_ret
  exact ⟨_, rfl, hb, (Below.refl _ _).alloc (Nat.le_refl _) _⟩

theorem isNum_gave {w : World} {p x : Nat} {v u : Value} {b : Bool} (hv : IsBig w v x) (hp : p < w.heap.size) (h0 : w.cell? ⟨p, 0, none⟩ = some (.bool b)) (h1 : w.cell? ⟨p, 1, none⟩ = some u) (hf : ∀ t, w.frozen? ⟨p, t, none⟩ = false) : IsNum (gave w p v) p x := by
  have a0 : (w.setCell ⟨p, 1, none⟩ v).cell? ⟨p, 0, none⟩ = some (.bool b) := (World.cell?_setCell_other _ _ _ _ (fun e => by injection e with _ e; cases e)).trans h0
  refine ⟨by simpa [gave] using hp, World.cell?_setCell_same _ _ _ a0, fun t => by unfold gave; simpa using hf t, v, ?_, ?_⟩
  · unfold gave
    rw [World.cell?_setCell_other _ _ _ _ (fun e => by injection e with _ e; cases e)]
    exact World.cell?_setCell_same _ _ _ h1
  · exact (hv.setBox h0).setBox a0

/-- Another number stays as it is. -/
theorem isNum_other {w : World} {p q x : Nat} {v : Value} (hx : IsNum w q x) (hpq : p ≠ q) (h0 : w.cell? ⟨p, 0, none⟩ = some (.bool false)) : IsNum (gave w p v) q x := by
  obtain ⟨x1, x2, x3, u, x4, x5⟩ := hx
  have ne : ∀ i j : Nat, (⟨p, i, none⟩ : Addr) ≠ ⟨q, j, none⟩ := fun i j e => hpq (by injection e)
  have a0 : (w.setCell ⟨p, 1, none⟩ v).cell? ⟨p, 0, none⟩ = some (.bool false) := (World.cell?_setCell_other _ _ _ _ (fun e => by injection e with _ e; cases e)).trans h0
  refine ⟨by simpa [gave] using x1, ?_, fun t => by unfold gave; simpa using x3 t, u, ?_, (x5.setBox h0).setBox a0⟩
  · unfold gave
    rw [World.cell?_setCell_other _ _ _ _ (ne 0 0), World.cell?_setCell_other _ _ _ _ (ne 1 0)]
    exact x2
  · unfold gave
    rw [World.cell?_setCell_other _ _ _ _ (ne 0 1), World.cell?_setCell_other _ _ _ _ (ne 1 1)]
    exact x4

theorem IsNum.below {w w' : World} {p x : Nat} (h : IsNum w p x) (hb : Below w.heap.size w w') : IsNum w' p x := by
  obtain ⟨x1, x2, x3, u, x4, x5⟩ := h
  exact ⟨Nat.lt_of_lt_of_le x1 hb.size, (hb.cell (p := ⟨p, 0, none⟩) x1).trans x2, fun t => (below_frozen hb x1 t).trans (x3 t), u, (hb.cell (p := ⟨p, 1, none⟩) x1).trans x4, x5.below hb⟩

set_option maxRecDepth 100000 in
set_option maxHeartbeats 2000000 in
theorem nNew_any (u : Nat) (w : World) (hu : u < 9223372036854775808) :
    Calls Tryz.prog 28 #[.int .i64 u] w fun e w' => e = .returned (.pointer (some ⟨w.heap.size, 0, none⟩)) ∧ IsNum w' w.heap.size u ∧ Below w.heap.size w w' := by
  have q : ¬ (u : Int) < 0 := by omega
  go_enter Tryz.func28, Tryz.ntmps28
  go_wp2_with (first | (go_at_call 77; refine (nWords_any u _ (by omega)).mono ?_; rintro e w1 ⟨v, rfl, hv, hb⟩; obtain ⟨a1, n1, c1, rfl⟩ := hv.slice; have h0 : w1.cell? ⟨w.heap.size, 0, none⟩ = some (.bool false) := (hb.cell (p := ⟨w.heap.size, 0, none⟩) (by simp)).trans (by simp); have h1 : w1.cell? ⟨w.heap.size, 1, none⟩ = some (.slice none 0 0) := (hb.cell (p := ⟨w.heap.size, 1, none⟩) (by simp)).trans (by simp); have hf : ∀ t, w1.frozen? ⟨w.heap.size, t, none⟩ = false := fun t => (below_frozen hb (by simp) t).trans (by rw [RowKit.frozen?_alloc_cells]; simp [World.frozen?])) | go_in)
  go_ret
  have BA : Below w.heap.size w (w.alloc (.cells #[.bool false, .slice none 0 0] 79)) := (Below.refl _ w).alloc (Nat.le_refl _) _
  have B1 : Below w.heap.size w w1 := BA.trans (hb.mono BA.size)
  have hp : w.heap.size < w1.heap.size := by have := hb.size; simp at this; omega
  exact ⟨rfl, isNum_gave hv hp h0 h1 hf, (B1.setCell (Nat.le_refl _) _).setCell (Nat.le_refl _) _⟩

set_option maxRecDepth 100000 in
set_option maxHeartbeats 2000000 in
theorem nLength_any (v : Value) (x : Nat) (w : World) (hv : IsBig w v x) (hx : x < 79228162514264337593543950336) :
    Calls Tryz.prog 61 #[v] w fun e w' => ∃ n : Nat, e = .returned (.int .i64 n) ∧ (n ≤ 64 ↔ x < 18446744073709551616) ∧ w' = w := by
  obtain ⟨a, cap, ws, rfl, rfl, hw, hn, hi⟩ := hv
  have h3 := norm_len3 hn hx
  by_cases h0 : ws = []
  · subst h0
    go_enter Tryz.func61, Tryz.ntmps61
    go_wp2
    go_ret
    exact ⟨0, rfl, by simp [wv], rfl⟩
  · obtain ⟨g, rfl, hg, hc⟩ := hi h0
    have hl := List.length_pos_iff.2 h0
    have x0 := hc (ws.length - 1) (by omega)
    have hle := norm_le hn h0
    have hlt := wv_lt ws hw
    have htop : ws[ws.length - 1] ≠ 0 := hn _ (by rw [List.getLast?_eq_getElem?, List.getElem?_eq_getElem (by omega)]; rfl)
    have htop2 := hw ws[ws.length - 1] (List.getElem_mem (by omega))
    have HX : Hid (∀ j : Nat, 1 ≤ j → j ≤ 32 → ((ws.length - 1) * 32 + j ≤ 64 ↔ wv ws < 18446744073709551616)) := by
      intro j j1 j2
      have hl3 : ws.length = 1 ∨ ws.length = 2 ∨ ws.length = 3 := by omega
      rcases hl3 with e | e | e <;> rw [e] at hle hlt ⊢ <;> simp only [Nat.reduceSub, Nat.reducePow] at hle hlt ⊢ <;> omega
    have q0 : ((ws.length : Int) == 0) = false := by rw [beq_eq_false_iff_ne]; omega
    clear hle hlt hc hi hn hw
    generalize ws[ws.length - 1] = top at *
    go_enter Tryz.func61, Tryz.ntmps61
    go_wp2_with fail
    have HT : Hid (top ≠ 0) := htop
    clear htop
    go_loop [3, 4] (fun n t => ∃ j u : Nat, n = .int .i64 j ∧ t = .int .u32 u ∧ u * 2 ^ j < 4294967296 ∧ j ≤ 32 ∧ (1 ≤ j ∨ u = top)) (fun _ t => (RowKit.intOf t).toNat)
    case atStart => exact ⟨0, top, rfl, rfl, by simpa using htop2, by omega, Or.inr rfl⟩
    case round =>
      obtain ⟨j, u, rfl, rfl, hju, hj2, hor⟩ := hrel
      by_cases hu : u = 0
      · subst hu
        have hj1 : 1 ≤ j := by
          rcases hor with h | h
          · exact h
          · exact absurd h.symm HT.out
        have HF := HX.out j hj1 hj2
        have HG : Hid ((ws.length - 1) * 32 + j ≤ 64 ↔ wv ws < 18446744073709551616) := HF
        have hcast : (((ws.length - 1) * 32 + j : Nat) : Int) = ((ws.length : Int) - 1) * 32 + j := by omega
        have HC : Hid ((((ws.length - 1) * 32 + j : Nat) : Int) = ((ws.length : Int) - 1) * 32 + j) := hcast
        clear HF hcast hor
        go_wp2
        go_ret
        refine ⟨(ws.length - 1) * 32 + j, ?_, HG.out, rfl⟩
        rw [HC.out]
        rfl
      · have hj : j ≤ 31 := by
          rcases Nat.lt_or_ge j 32 with h | h
          · omega
          · have h1 := Nat.pow_le_pow_right (n := 2) (by omega) h
            have h2 : 1 * 2 ^ j ≤ u * 2 ^ j := Nat.mul_le_mul_right _ (by omega)
            omega
        have HJ : Hid (u / 2 * 2 ^ (j + 1) < 4294967296) := by
          show _ < _
          rw [Nat.pow_succ]
          generalize 2 ^ j = P at *
          have h1 : u / 2 * 2 ≤ u := by omega
          have h2 := Nat.mul_le_mul_right P h1
          rw [Nat.mul_assoc, Nat.mul_comm 2 P] at h2
          omega
        have qu : ((u : Int) == 0) = false := by rw [beq_eq_false_iff_ne]; omega
        clear hju hor
        go_wp2
        go_round
        case rel => exact ⟨j + 1, u / 2, by go_num, by go_num, HJ.out, by omega, Or.inl (by omega)⟩
        case measure => simp [RowKit.intOf]; omega
end Go.Proofs.YtgecgemfniiciaaGreatDoor
