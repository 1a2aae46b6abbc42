/-
  What is proved: the function add of the statements' own package of great numbers adds any two numbers that are not too great.
  Conditions: as each theorem says.
-/
import Derived.Test.YtgecgemfniiciaaGreatDoorBigNum
namespace Go.Proofs.YtgecgemfniiciaaGreatDoor
open Go.RowKit

set_option maxRecDepth 100000 in
set_option maxHeartbeats 4000000 in
theorem nAdd_any (va vb : Value) (x y : Nat) (w : World) (ha : IsBig w va x) (hb : IsBig w vb y) (hx : x < 79228162514264337593543950336) (hy : y < 79228162514264337593543950336) :
    Calls Tryz.prog 79 #[va, vb] w fun e w' => ∃ v, e = .returned v ∧ IsBig w' v (x + y) ∧ Below w.heap.size w w' := by
  obtain ⟨a, ca, A, rfl, rfl, wA, nA, iA⟩ := ha
  obtain ⟨b, cb, B, rfl, rfl, wB, nB, iB⟩ := hb
  have hA3 := norm_len3 nA hx
  have hB3 := norm_len3 nB hy
  by_cases hle : B.length ≤ A.length
  · have hge := hle
    have g0 : ¬ (A.length : Int) < B.length := by omega
    have hmk := make_words (A.length + 1) (by omega)
    rw [show ((A.length + 1 : Nat) : Int) = (A.length : Int) + 1 from by omega] at hmk
    go_enter Tryz.func79, Tryz.ntmps79
    go_wp2_with fail
    have M0 := made_cells (A.length + 1) w
    have B0 : Below w.heap.size w (w.alloc (.cells (Array.replicate (A.length + 1) (.int .u32 0)) 115)) := (Below.refl _ w).alloc (Nat.le_refl _) _
    go_loopw [6, 7] (fun c i wr => ∃ (k C : Nat) (R : List Nat), i = .int .i64 k ∧ c = .int .u64 C ∧ C < 4294967296 ∧ k ≤ A.length ∧ R.length = A.length + 1 ∧ WCells wr w.heap.size R ∧ (∀ y ∈ R, y < 4294967296) ∧
      wv R + C * 4294967296 ^ k = wv (A.take k) + wv (B.take k) ∧ (∀ t (h : t < R.length), k ≤ t → R[t] = 0) ∧ w.heap.size < wr.heap.size ∧ (∀ t, wr.frozen? ⟨w.heap.size, t, none⟩ = false) ∧ Below w.heap.size w wr) (fun _ i _ => A.length - (RowKit.intOf i).toNat)
    case atStart =>
      refine ⟨0, 0, List.replicate (A.length + 1) 0, rfl, rfl, by omega, Nat.zero_le _, by simp, M0, ?_, by simp [wv_zeros, wv], by simp, by simp, ?_, B0⟩
      · intro y hy
        rw [List.mem_replicate] at hy
        omega
      · intro t
        rw [RowKit.frozen?_alloc_cells]
        simp [World.frozen?]
    case round =>
      obtain ⟨k, C, R, rfl, rfl, hC, hk, hR, cR, wR, eR, zR, hg, hf, hbel⟩ := hrel
      have HC : Hid (WCells wr w.heap.size R) := cR
      have HW : Hid (∀ y ∈ R, y < 4294967296) := wR
      have hkR : k < R.length := by omega
      have xR := cR k hkR
      have z0 := zR k hkR (Nat.le_refl _)
      rw [z0] at xR
      have HZ : Hid (∀ x, ∀ t (h : t < (R.set k x).length), k + 1 ≤ t → (R.set k x)[t] = 0) := fun x => set_zero (by omega) (fun t h h2 => zR t h (by omega))
      by_cases hlt : k < A.length
      · have g1 : (k : Int) < A.length := by omega
        obtain ⟨ga, rfl, hga, cA⟩ := iA (fun e => by rw [e] at hlt; simp at hlt)
        have xA : wr.cell? ⟨ga, k, none⟩ = some (.int .u32 ((A[k] : Nat) : Int)) := by rw [hbel.cell (p := ⟨ga, k, none⟩) hga]; exact cA k hlt
        have hAk := wA A[k] (List.getElem_mem hlt)
        by_cases hlb : k < B.length
        · have g2 : (k : Int) < B.length := by omega
          obtain ⟨gb, rfl, hgb, cB⟩ := iB (fun e => by rw [e] at hlb; simp at hlb)
          have xB : wr.cell? ⟨gb, k, none⟩ = some (.int .u32 ((B[k] : Nat) : Int)) := by rw [hbel.cell (p := ⟨gb, k, none⟩) hgb]; exact cB k hlb
          have hBk := wB B[k] (List.getElem_mem hlb)
          have HE : Hid (∀ c', c' = C + A[k] + B[k] → wv (R.set k (c' % 4294967296)) + c' / 4294967296 * 4294967296 ^ (k + 1) = wv (A.take (k + 1)) + wv (B.take (k + 1))) := by
            intro c' hc'
            have hset := wv_set R k (c' % 4294967296) hkR
            rw [Nat.pow_succ]
            exact add_step _ _ _ _ _ _ _ _ _ _ _ _ z0 hset hc' (wv_take A k hlt) (wv_take B k hlb) eR
          clear eR cR wR zR z0
          generalize A[k] = x at *
          generalize B[k] = y at *
          go_wp2_with fail
          go_roundw
          case rel =>
            refine ⟨k + 1, (C + x + y) / 4294967296, R.set k ((C + x + y) % 4294967296), by go_num, by go_num, by omega, by omega, by simpa using hR, ?_, set_small HW.out (by omega), HE.out _ rfl, HZ.out _, by simpa using hg, fun t => by simpa using hf t, hbel.setCell (Nat.le_refl _) _⟩
            have e := set_cells (x := (C + x + y) % 4294967296) hkR HC.out
            rw [show (((C + x + y) % 4294967296 : Nat) : Int) = ((C : Int) + (x : Int) + (y : Int)) % 4294967296 from by omega] at e
            exact e
          case measure => simp [RowKit.intOf]; omega
        · have g2 : ¬ (k : Int) < B.length := by omega
          have HE : Hid (∀ c', c' = C + A[k] → wv (R.set k (c' % 4294967296)) + c' / 4294967296 * 4294967296 ^ (k + 1) = wv (A.take (k + 1)) + wv (B.take (k + 1))) := by
            intro c' hc'
            have hset := wv_set R k (c' % 4294967296) hkR
            have e1 : B.take (k + 1) = B.take k := by rw [List.take_of_length_le (by omega), List.take_of_length_le (by omega)]
            rw [Nat.pow_succ, e1]
            exact add_step _ _ _ _ _ _ _ 0 _ _ _ _ z0 hset (by omega) (wv_take A k hlt) (by omega) eR
          clear eR cR wR zR z0
          generalize A[k] = x at *
          go_wp2_with fail
          go_roundw
          case rel =>
            refine ⟨k + 1, (C + x) / 4294967296, R.set k ((C + x) % 4294967296), by go_num, by go_num, by omega, by omega, by simpa using hR, ?_, set_small HW.out (by omega), HE.out _ rfl, HZ.out _, by simpa using hg, fun t => by simpa using hf t, hbel.setCell (Nat.le_refl _) _⟩
            have e := set_cells (x := (C + x) % 4294967296) hkR HC.out
            rw [show (((C + x) % 4294967296 : Nat) : Int) = ((C : Int) + (x : Int)) % 4294967296 from by omega] at e
            exact e
          case measure => simp [RowKit.intOf]; omega
      · have hke : k = A.length := by omega
        subst hke
        rw [List.take_of_length_le (Nat.le_refl _), List.take_of_length_le hge] at eR
        have HE : wv (R.set A.length C) = wv A + wv B := by
          have hset := wv_set R A.length C hkR
          rw [z0] at hset
          generalize 4294967296 ^ A.length = P at *
          omega
        have g1 : ¬ (A.length : Int) < A.length := by omega
        have T := nTrim_any w.heap.size (A.length + 1) (R.set A.length C) (wr.setCell ⟨w.heap.size, A.length, none⟩ (.int .u32 ((C : Nat) : Int))) (by simp; omega) (by simp; omega) (set_cells hkR HC.out) (by simpa using hg) (set_small HW.out hC)
        rw [HE, List.length_set, hR] at T
        have HT : Below w.heap.size w (wr.setCell ⟨w.heap.size, A.length, none⟩ (.int .u32 ((C : Nat) : Int))) := hbel.setCell (Nat.le_refl _) _
        clear zR eR wR cR z0 HE HZ
        go_wp2_with fail
        refine T.mono ?_
        rintro e w2 ⟨rfl, v, rfl, hv⟩
        go_wp2
        go_ret
        exact ⟨_, rfl, hv, HT⟩
  · have hge : A.length ≤ B.length := by omega
    have g0 : (A.length : Int) < B.length := by omega
    have hmk := make_words (B.length + 1) (by omega)
    rw [show ((B.length + 1 : Nat) : Int) = (B.length : Int) + 1 from by omega] at hmk
    go_enter Tryz.func79, Tryz.ntmps79
    go_wp2_with fail
    have M0 := made_cells (B.length + 1) w
    have B0 : Below w.heap.size w (w.alloc (.cells (Array.replicate (B.length + 1) (.int .u32 0)) 115)) := (Below.refl _ w).alloc (Nat.le_refl _) _
    go_loopw [6, 7] (fun c i wr => ∃ (k C : Nat) (R : List Nat), i = .int .i64 k ∧ c = .int .u64 C ∧ C < 4294967296 ∧ k ≤ B.length ∧ R.length = B.length + 1 ∧ WCells wr w.heap.size R ∧ (∀ y ∈ R, y < 4294967296) ∧
      wv R + C * 4294967296 ^ k = wv (B.take k) + wv (A.take k) ∧ (∀ t (h : t < R.length), k ≤ t → R[t] = 0) ∧ w.heap.size < wr.heap.size ∧ (∀ t, wr.frozen? ⟨w.heap.size, t, none⟩ = false) ∧ Below w.heap.size w wr) (fun _ i _ => B.length - (RowKit.intOf i).toNat)
    case atStart =>
      refine ⟨0, 0, List.replicate (B.length + 1) 0, rfl, rfl, by omega, Nat.zero_le _, by simp, M0, ?_, by simp [wv_zeros, wv], by simp, by simp, ?_, B0⟩
      · intro y hy
        rw [List.mem_replicate] at hy
        omega
      · intro t
        rw [RowKit.frozen?_alloc_cells]
        simp [World.frozen?]
    case round =>
      obtain ⟨k, C, R, rfl, rfl, hC, hk, hR, cR, wR, eR, zR, hg, hf, hbel⟩ := hrel
      have HC : Hid (WCells wr w.heap.size R) := cR
      have HW : Hid (∀ y ∈ R, y < 4294967296) := wR
      have hkR : k < R.length := by omega
      have xR := cR k hkR
      have z0 := zR k hkR (Nat.le_refl _)
      rw [z0] at xR
      have HZ : Hid (∀ x, ∀ t (h : t < (R.set k x).length), k + 1 ≤ t → (R.set k x)[t] = 0) := fun x => set_zero (by omega) (fun t h h2 => zR t h (by omega))
      by_cases hlt : k < B.length
      · have g1 : (k : Int) < B.length := by omega
        obtain ⟨ga, rfl, hga, cA⟩ := iB (fun e => by rw [e] at hlt; simp at hlt)
        have xA : wr.cell? ⟨ga, k, none⟩ = some (.int .u32 ((B[k] : Nat) : Int)) := by rw [hbel.cell (p := ⟨ga, k, none⟩) hga]; exact cA k hlt
        have hAk := wB B[k] (List.getElem_mem hlt)
        by_cases hlb : k < A.length
        · have g2 : (k : Int) < A.length := by omega
          obtain ⟨gb, rfl, hgb, cB⟩ := iA (fun e => by rw [e] at hlb; simp at hlb)
          have xB : wr.cell? ⟨gb, k, none⟩ = some (.int .u32 ((A[k] : Nat) : Int)) := by rw [hbel.cell (p := ⟨gb, k, none⟩) hgb]; exact cB k hlb
          have hBk := wA A[k] (List.getElem_mem hlb)
          have HE : Hid (∀ c', c' = C + B[k] + A[k] → wv (R.set k (c' % 4294967296)) + c' / 4294967296 * 4294967296 ^ (k + 1) = wv (B.take (k + 1)) + wv (A.take (k + 1))) := by
            intro c' hc'
            have hset := wv_set R k (c' % 4294967296) hkR
            rw [Nat.pow_succ]
            exact add_step _ _ _ _ _ _ _ _ _ _ _ _ z0 hset hc' (wv_take B k hlt) (wv_take A k hlb) eR
          clear eR cR wR zR z0
          generalize B[k] = x at *
          generalize A[k] = y at *
          go_wp2_with fail
          go_roundw
          case rel =>
            refine ⟨k + 1, (C + x + y) / 4294967296, R.set k ((C + x + y) % 4294967296), by go_num, by go_num, by omega, by omega, by simpa using hR, ?_, set_small HW.out (by omega), HE.out _ rfl, HZ.out _, by simpa using hg, fun t => by simpa using hf t, hbel.setCell (Nat.le_refl _) _⟩
            have e := set_cells (x := (C + x + y) % 4294967296) hkR HC.out
            rw [show (((C + x + y) % 4294967296 : Nat) : Int) = ((C : Int) + (x : Int) + (y : Int)) % 4294967296 from by omega] at e
            exact e
          case measure => simp [RowKit.intOf]; omega
        · have g2 : ¬ (k : Int) < A.length := by omega
          have HE : Hid (∀ c', c' = C + B[k] → wv (R.set k (c' % 4294967296)) + c' / 4294967296 * 4294967296 ^ (k + 1) = wv (B.take (k + 1)) + wv (A.take (k + 1))) := by
            intro c' hc'
            have hset := wv_set R k (c' % 4294967296) hkR
            have e1 : A.take (k + 1) = A.take k := by rw [List.take_of_length_le (by omega), List.take_of_length_le (by omega)]
            rw [Nat.pow_succ, e1]
            exact add_step _ _ _ _ _ _ _ 0 _ _ _ _ z0 hset (by omega) (wv_take B k hlt) (by omega) eR
          clear eR cR wR zR z0
          generalize B[k] = x at *
          go_wp2_with fail
          go_roundw
          case rel =>
            refine ⟨k + 1, (C + x) / 4294967296, R.set k ((C + x) % 4294967296), by go_num, by go_num, by omega, by omega, by simpa using hR, ?_, set_small HW.out (by omega), HE.out _ rfl, HZ.out _, by simpa using hg, fun t => by simpa using hf t, hbel.setCell (Nat.le_refl _) _⟩
            have e := set_cells (x := (C + x) % 4294967296) hkR HC.out
            rw [show (((C + x) % 4294967296 : Nat) : Int) = ((C : Int) + (x : Int)) % 4294967296 from by omega] at e
            exact e
          case measure => simp [RowKit.intOf]; omega
      · have hke : k = B.length := by omega
        subst hke
        rw [List.take_of_length_le (Nat.le_refl _), List.take_of_length_le hge] at eR
        have HE : wv (R.set B.length C) = wv B + wv A := by
          have hset := wv_set R B.length C hkR
          rw [z0] at hset
          generalize 4294967296 ^ B.length = P at *
          omega
        have g1 : ¬ (B.length : Int) < B.length := by omega
        have T := nTrim_any w.heap.size (B.length + 1) (R.set B.length C) (wr.setCell ⟨w.heap.size, B.length, none⟩ (.int .u32 ((C : Nat) : Int))) (by simp; omega) (by simp; omega) (set_cells hkR HC.out) (by simpa using hg) (set_small HW.out hC)
        rw [HE, List.length_set, hR] at T
        have HT : Below w.heap.size w (wr.setCell ⟨w.heap.size, B.length, none⟩ (.int .u32 ((C : Nat) : Int))) := hbel.setCell (Nat.le_refl _) _
        clear zR eR wR cR z0 HE HZ
        go_wp2_with fail
        refine T.mono ?_
        rintro e w2 ⟨rfl, v, rfl, hv⟩
        rw [Nat.add_comm (wv B) (wv A)] at hv
        go_wp2
        go_ret
        exact ⟨_, rfl, hv, HT⟩
end Go.Proofs.YtgecgemfniiciaaGreatDoor
