/-
  What is proved: the functions of the statements' own package of great numbers that make, multiply, add and read numbers.
  Conditions: as each theorem says.
-/
import Derived.Test.YtgecgemfniiciaaGreatDoorProg
import Derived.Test.YtgecgemfniiciaaGreatDoorBigMath
import Derived.WalkKit
import Derived.WalkSpells
import Derived.WalkLawsBesides
import Derived.Handy
import Derived.Laws.BitsAllLaws
import Derived.Deep.QuietTactic
import Derived.BigQuiet
namespace Go.Proofs.YtgecgemfniiciaaGreatDoor
open Go.RowKit

/-- Words that lie in a block. -/
def WCells (w : World) (g : Nat) (ws : List Nat) : Prop := ∀ t (h : t < ws.length), w.cell? ⟨g, t, none⟩ = some (.int .u32 ((ws[t] : Nat) : Int))

/-- A slice that holds a number's words. -/
def IsBig (w : World) (v : Value) (x : Nat) : Prop :=
  ∃ a cap ws, v = .slice a ws.length cap ∧ wv ws = x ∧ (∀ y ∈ ws, y < 4294967296) ∧ Norm ws ∧ (ws ≠ [] → ∃ g, a = some ⟨g, 0, none⟩ ∧ g < w.heap.size ∧ WCells w g ws)

theorem IsBig.below {w w' : World} {v : Value} {x : Nat} (h : IsBig w v x) (hb : Below w.heap.size w w') : IsBig w' v x := by
  obtain ⟨a, cap, ws, rfl, h1, h2, h3, h4⟩ := h
  refine ⟨a, cap, ws, rfl, h1, h2, h3, fun hne => ?_⟩
  obtain ⟨g, rfl, h5, h6⟩ := h4 hne
  exact ⟨g, rfl, Nat.lt_of_lt_of_le h5 hb.size, fun t ht => by rw [hb.cell (p := ⟨g, t, none⟩) h5]; exact h6 t ht⟩

theorem take_norm {ws : List Nat} {k : Nat} (hk : k < ws.length) (h : ws[k] ≠ 0) : Norm (ws.take (k + 1)) := by
  intro x hx
  rw [List.take_succ_eq_append_getElem hk, List.getLast?_append] at hx
  simp at hx
  omega

theorem wv_drop0 {ws : List Nat} {k : Nat} (hk : k < ws.length) (h : ws[k] = 0) : wv (ws.take k) = wv (ws.take (k + 1)) := by
  rw [wv_take ws k hk, h]
  omega

set_option maxRecDepth 100000 in
set_option maxHeartbeats 1000000 in
theorem nTrim_any (g cap : Nat) (ws : List Nat) (w : World) (hl : ws.length ≤ cap) (hl9 : ws.length ≤ 9) (hc : WCells w g ws) (hg : g < w.heap.size) (hw : ∀ y ∈ ws, y < 4294967296) :
    Calls Tryz.prog 78 #[.slice (some ⟨g, 0, none⟩) ws.length cap] w fun e w' => w' = w ∧ ∃ v, e = .returned v ∧ IsBig w v (wv ws) := by
  go_enter Tryz.func78, Tryz.ntmps78
  go_wp2_with fail
  go_loop [3] (fun n => ∃ k : Nat, k ≤ ws.length ∧ n = .int .i64 k ∧ wv (ws.take k) = wv ws) (fun n => (RowKit.intOf n).toNat)
  case atStart => exact ⟨ws.length, Nat.le_refl _, rfl, by rw [List.take_of_length_le (Nat.le_refl _)]⟩
  case round =>
    obtain ⟨k, hk, rfl, he⟩ := hrel
    cases k with
    | zero =>
      have HE : Hid (wv (ws.take 0) = wv ws) := he
      clear he
      go_wp2
      go_ret
      exact ⟨rfl, _, rfl, ⟨_, cap, [], rfl, by have := HE.out; simpa using this, by simp, by simp [Norm], fun h => absurd rfl h⟩⟩
    | succ k =>
      have x0 := hc k (by omega)
      by_cases h0 : ws[k] = 0
      · have HE : Hid (wv (ws.take k) = wv ws) := (wv_drop0 (by omega) h0).trans he
        clear he
        rw [h0] at x0
        go_wp2
        go_round
        case rel => exact ⟨k, by omega, by go_num, HE.out⟩
        case measure => simp [RowKit.intOf]
      · have HE : Hid (wv (ws.take (k + 1)) = wv ws) := he
        have HN : Hid (Norm (ws.take (k + 1))) := take_norm (by omega) h0
        have hq : (((ws[k] : Nat) : Int) == 0) = false := by rw [beq_eq_false_iff_ne]; omega
        clear he
        generalize ws[k] = y at *
        go_wp2
        go_ret
        have hle : (ws.take (k + 1)).length = k + 1 := by rw [List.length_take]; omega
        exact ⟨rfl, _, rfl, ⟨_, cap, ws.take (k + 1), by rw [hle]; rfl, HE.out, fun y hy => hw y (List.mem_of_mem_take hy), HN.out, fun _ => ⟨g, rfl, hg, fun t ht => by rw [List.getElem_take]; exact hc t (by omega)⟩⟩⟩

theorem make_words (n : Nat) (h : n ≤ 6) (w : World) : (Instr.makeSlice 77 (.int .i64 n) (.int .i64 n)).run Tryz.prog w = .ok (.slice (some ⟨w.heap.size, 0, none⟩) n n) (w.alloc (.cells (Array.replicate n (.int .u32 0)) 115)) := by
  obtain rfl | rfl | rfl | rfl | rfl | rfl | rfl : n = 0 ∨ n = 1 ∨ n = 2 ∨ n = 3 ∨ n = 4 ∨ n = 5 ∨ n = 6 := by omega
  · kernel_rfl
  · kernel_rfl
  · kernel_rfl
  · kernel_rfl
  · kernel_rfl
  · kernel_rfl
  · kernel_rfl

theorem made_cells (n : Nat) (w : World) : WCells (w.alloc (.cells (Array.replicate n (.int .u32 0)) 115)) w.heap.size (List.replicate n 0) := by
  intro t ht
  have ht' : t < n := by simpa using ht
  simp [ht']

theorem set_cells {w : World} {g k x : Nat} {ws : List Nat} (hk : k < ws.length) (hc : WCells w g ws) : WCells (w.setCell ⟨g, k, none⟩ (.int .u32 ((x : Nat) : Int))) g (ws.set k x) := by
  intro t ht
  have ht' : t < ws.length := by simpa using ht
  by_cases h : t = k
  · subst h
    rw [World.cell?_setCell_same _ _ _ (hc t ht')]
    simp
  · rw [World.cell?_setCell_other _ _ _ _ (fun e => h (by injection e with _ e; exact e.symm)), hc t ht', List.getElem_set_ne (fun e => h e.symm)]

theorem bDrew {B : Nat} {w wr : World} (h : Below B w wr) (n : Nat) : Below B w (wr.drewN n) := ⟨h.os, h.tape, h.output, h.size, h.block⟩

theorem set_small {S : List Nat} {k x : Nat} (h : ∀ y ∈ S, y < 4294967296) (hx : x < 4294967296) : ∀ y ∈ S.set k x, y < 4294967296 := by
  intro y hy
  rcases List.mem_or_eq_of_mem_set hy with h1 | h1
  · exact h y h1
  · omega

theorem set_zero {S : List Nat} {k x n : Nat} (hk : k < n) (h : ∀ t (h : t < S.length), n ≤ t → S[t] = 0) : ∀ t (h : t < (S.set k x).length), n ≤ t → (S.set k x)[t] = 0 := by
  intro t ht hn
  rw [List.getElem_set_ne (by omega)]
  exact h t (by simpa using ht) hn

set_option maxRecDepth 100000 in
set_option maxHeartbeats 2000000 in
theorem nMul_some (ga ca gb cb : Nat) (A B : List Nat) (w : World) (hA : A ≠ []) (hB : B ≠ []) (hA3 : A.length ≤ 3) (hB3 : B.length ≤ 3) (cA : WCells w ga A) (cB : WCells w gb B) (hga : ga < w.heap.size) (hgb : gb < w.heap.size)
    (wA : ∀ y ∈ A, y < 4294967296) (wB : ∀ y ∈ B, y < 4294967296) :
    Calls Tryz.prog 59 #[.slice (some ⟨ga, 0, none⟩) A.length ca, .slice (some ⟨gb, 0, none⟩) B.length cb] w fun e w' => ∃ v, e = .returned v ∧ IsBig w' v (wv A * wv B) ∧ Below w.heap.size w w' := by
  have hA0 : 0 < A.length := List.length_pos_iff.2 hA
  have hB0 : 0 < B.length := List.length_pos_iff.2 hB
  have qA : ((A.length : Int) == 0) = false := by rw [beq_eq_false_iff_ne]; omega
  have qB : ((B.length : Int) == 0) = false := by rw [beq_eq_false_iff_ne]; omega
  have hmk := make_words (A.length + B.length) (by omega)
  rw [show ((A.length + B.length : Nat) : Int) = (A.length : Int) + (B.length : Int) from by omega] at hmk
  go_enter Tryz.func59, Tryz.ntmps59
  go_wp2_with fail
  have M0 := made_cells (A.length + B.length) w
  have B0 : Below w.heap.size w (w.alloc (.cells (Array.replicate (A.length + B.length) (.int .u32 0)) 115)) := (Below.refl _ w).alloc (Nat.le_refl _) _
  go_loopw [6, 7, 8] (fun i _ _ wr => ∃ (k : Nat) (R : List Nat), i = .int .i64 k ∧ k ≤ A.length ∧ R.length = A.length + B.length ∧ WCells wr w.heap.size R ∧ (∀ y ∈ R, y < 4294967296) ∧ wv R = wv (A.take k) * wv B ∧ (∀ t (h : t < R.length), k + B.length ≤ t → R[t] = 0) ∧
    w.heap.size < wr.heap.size ∧ (∀ t, wr.frozen? ⟨w.heap.size, t, none⟩ = false) ∧ Below w.heap.size w wr) (fun i _ _ _ => A.length - (RowKit.intOf i).toNat)
  case atStart =>
    refine ⟨0, List.replicate (A.length + B.length) 0, rfl, Nat.zero_le _, by simp, M0, ?_, by simp [wv_zeros, wv], by simp, by simp, ?_, B0⟩
    · intro y hy
      rw [List.mem_replicate] at hy
      omega
    · intro t
      rw [RowKit.frozen?_alloc_cells]
      simp [World.frozen?]
  case round =>
    obtain ⟨k, R, rfl, hk, hR, cR, wR, eR, zR, hg, hf, hbel⟩ := hrel
    by_cases hlt : k < A.length
    · have g1 : (k : Int) < A.length := by omega
      have xA : wr.cell? ⟨ga, k, none⟩ = some (.int .u32 ((A[k] : Nat) : Int)) := by rw [hbel.cell (p := ⟨ga, k, none⟩) hga]; exact cA k hlt
      have hAk := wA A[k] (List.getElem_mem hlt)
      go_wp2_with fail
      go_loopw [7, 8] (fun c j w2 => ∃ (m C : Nat) (S : List Nat), j = .int .i64 m ∧ c = .int .u64 C ∧ C < 4294967296 ∧ m ≤ B.length ∧ S.length = A.length + B.length ∧ WCells w2 w.heap.size S ∧ (∀ y ∈ S, y < 4294967296) ∧
        wv S + C * (4294967296 ^ k * 4294967296 ^ m) = wv (A.take k) * wv B + A[k] * wv (B.take m) * 4294967296 ^ k ∧ (∀ t (h : t < S.length), k + B.length ≤ t → S[t] = 0) ∧ w.heap.size < w2.heap.size ∧ (∀ t, w2.frozen? ⟨w.heap.size, t, none⟩ = false) ∧ Below w.heap.size w w2) (fun _ j _ => B.length - (RowKit.intOf j).toNat)
      case atStart => exact ⟨0, 0, R, rfl, rfl, by omega, Nat.zero_le _, hR, cR, wR, by simp [wv, eR], zR, hg, hf, hbel⟩
      case round =>
        clear zR eR wR cR hR hbel hg hf xA
        obtain ⟨m, C, S, rfl, rfl, hC, hm, hS, cS, wS, eS, zS, hg, hf, hbel⟩ := hrel
        have xA : wr.cell? ⟨ga, k, none⟩ = some (.int .u32 ((A[k] : Nat) : Int)) := by rw [hbel.cell (p := ⟨ga, k, none⟩) hga]; exact cA k hlt
        by_cases hlm : m < B.length
        · have g2 : (m : Int) < B.length := by omega
          have hBm := wB B[m] (List.getElem_mem hlm)
          have hkm : k + m < S.length := by omega
          have hSm := wS S[k + m] (List.getElem_mem hkm)
          have xB : wr.cell? ⟨gb, m, none⟩ = some (.int .u32 ((B[m] : Nat) : Int)) := by rw [hbel.cell (p := ⟨gb, m, none⟩) hgb]; exact cB m hlm
          have xS := cS (k + m) hkm
          have hM : A[k] * B[m] ≤ 4294967295 * 4294967295 := Nat.mul_le_mul (by omega) (by omega)
          have hMi : ((A[k] : Nat) : Int) * ((B[m] : Nat) : Int) = ((A[k] * B[m] : Nat) : Int) := by simp
          have HC : Hid (WCells wr w.heap.size S) := cS
          have HZ : Hid (∀ x, ∀ t (h : t < (S.set (k + m) x).length), k + B.length ≤ t → (S.set (k + m) x)[t] = 0) := fun x => set_zero (by omega) zS
          have HW : Hid (∀ y ∈ S, y < 4294967296) := wS
          have HE : Hid (∀ c', c' = C + A[k] * B[m] + S[k + m] → wv (S.set (k + m) (c' % 4294967296)) + c' / 4294967296 * (4294967296 ^ k * 4294967296 ^ (m + 1)) = wv (A.take k) * wv B + A[k] * wv (B.take (m + 1)) * 4294967296 ^ k) := by
            intro c' hc'
            have hset := wv_set S (k + m) (c' % 4294967296) hkm
            rw [Nat.pow_add] at hset
            rw [Nat.pow_succ]
            exact mul_step _ _ _ _ _ _ _ _ _ _ _ _ hset hc' (wv_take B m hlm) eS
          clear eS cS wS zS
          generalize hP : A[k] * B[m] = P at *
          generalize A[k] = x at *
          generalize B[m] = y at *
          generalize S[k + m] = z at *
          go_wp2_with fail
          go_quiet (fail)
          go_wp2_with fail
          go_roundw
          case rel =>
            refine ⟨m + 1, (C + P + z) / 4294967296, S.set (k + m) ((C + P + z) % 4294967296), by go_num, by go_num, by omega, by omega, by simpa using hS, ?_, set_small HW.out (by omega), HE.out _ rfl, HZ.out _, by simpa using hg, fun t => by simpa using hf t, (bDrew hbel nq).setCell (Nat.le_refl _) _⟩
            have e := set_cells (x := (C + P + z) % 4294967296) hkm (show WCells (wr.drewN nq) w.heap.size S from HC.out)
            rw [show (((C + P + z) % 4294967296 : Nat) : Int) = ((C : Int) + ((P : Int) + (z : Int))) % 4294967296 from by omega] at e
            exact e
          case measure => simp [RowKit.intOf]; omega
        · have hme : m = B.length := by omega
          subst hme
          have hkm : k + B.length < S.length := by omega
          have xS := cS (k + B.length) hkm
          have z0 := zS (k + B.length) hkm (Nat.le_refl _)
          rw [z0] at xS
          have HC : Hid (WCells wr w.heap.size S) := cS
          have HZ : Hid (∀ x, ∀ t (h : t < (S.set (k + B.length) x).length), k + 1 + B.length ≤ t → (S.set (k + B.length) x)[t] = 0) := fun x => set_zero (by omega) (fun t h h2 => zS t h (by omega))
          have HW : Hid (∀ y ∈ S, y < 4294967296) := wS
          have HE : Hid (wv (S.set (k + B.length) C) = wv (A.take (k + 1)) * wv B) := by
            show _ = _
            have hset := wv_set S (k + B.length) C hkm
            rw [z0, Nat.pow_add] at hset
            rw [wv_take A k hlt, Nat.add_mul]
            rw [List.take_of_length_le (Nat.le_refl _)] at eS
            generalize 4294967296 ^ k * 4294967296 ^ B.length = P at *
            have : A[k] * wv B * 4294967296 ^ k = A[k] * 4294967296 ^ k * wv B := by grind
            omega
          clear eS cS wS zS z0
          go_wp2_with fail
          go_roundw
          case rel => exact ⟨k + 1, S.set (k + B.length) C, by go_num, by omega, by simpa using hS, set_cells hkm HC.out, set_small HW.out hC, HE.out, HZ.out _, by simpa using hg, fun t => by simpa using hf t, hbel.setCell (Nat.le_refl _) _⟩
          case measure => simp [RowKit.intOf]; omega
    · have hke : k = A.length := by omega
      subst hke
      rw [List.take_of_length_le (Nat.le_refl _)] at eR
      have T := nTrim_any w.heap.size (A.length + B.length) R wr (by omega) (by omega) cR hg wR
      rw [hR, eR] at T
      clear zR eR wR cR hR
      go_wp2_with fail
      refine T.mono ?_
      rintro e w2 ⟨rfl, v, rfl, hv⟩
      go_wp2
      go_ret
      exact ⟨_, rfl, hv, hbel⟩

/-- mul, of any two numbers that are not too great. -/
theorem nMul_any (va vb : Value) (x y : Nat) (w : World) (ha : IsBig w va x) (hb : IsBig w vb y) (hx : x < 79228162514264337593543950336) (hy : y < 79228162514264337593543950336) :
    Calls Tryz.prog 59 #[va, vb] w fun e w' => ∃ v, e = .returned v ∧ IsBig w' v (x * y) ∧ Below w.heap.size w w' := by
  obtain ⟨a, ca, A, rfl, rfl, wA, nA, iA⟩ := ha
  obtain ⟨b, cb, B, rfl, rfl, wB, nB, iB⟩ := hb
  have hA3 := norm_len3 nA hx
  have hB3 := norm_len3 nB hy
  have nil : IsBig w (.slice none 0 0) 0 := ⟨none, 0, [], rfl, rfl, by simp, by simp [Norm], fun h => absurd rfl h⟩
  by_cases hA : A = []
  · subst hA
    go_enter Tryz.func59, Tryz.ntmps59
    go_wp2
    go_ret
    exact ⟨_, rfl, by simpa [wv] using nil, Below.refl _ _⟩
  · by_cases hB : B = []
    · subst hB
      have hA0 : 0 < A.length := List.length_pos_iff.2 hA
      have qA : ((A.length : Int) == 0) = false := by rw [beq_eq_false_iff_ne]; omega
      go_enter Tryz.func59, Tryz.ntmps59
      go_wp2
      go_ret
      exact ⟨_, rfl, by simpa [wv] using nil, Below.refl _ _⟩
    · obtain ⟨ga, rfl, hga, cA⟩ := iA hA
      obtain ⟨gb, rfl, hgb, cB⟩ := iB hB
      exact nMul_some ga ca gb cb A B w hA hB hA3 hB3 cA cB hga hgb wA wB
end Go.Proofs.YtgecgemfniiciaaGreatDoor
