/-
  What is proved: the functions of the statements' own package of great numbers that make, multiply, add and read numbers. the function add of the statements' own package of great numbers adds any two numbers that are not too great. how many binary digits a great number has; whether it fits 64 bits.
  Conditions: as each theorem says.
-/
import Derived.Test.YtnmdhbejjjmdeaaGreatDoorProg
import Derived.Test.YtnmdhbejjjmdeaaGreatDoorP22
import Derived.WalkKit
import Derived.WalkSpells
import Derived.WalkLawsBesides
import Derived.Handy
import Derived.Laws.BitsAllLaws
import Derived.Deep.QuietTactic
import Derived.BigQuiet
import Derived.Laws.MakeOwn
namespace Go.Proofs.YtnmdhbejjjmdeaaGreatDoor
open Go.RowKit

/-- Words that lie in a block. -/
def WCells (w : World) (g : Nat) (ws : List Nat) : Prop := ∀ t (h : t < ws.length), w.cell? ⟨g, t, none⟩ = some (.int .u32 ((ws[t] : Nat) : Int))

/-- A slice that holds a number's words. -/
def IsBig (w : World) (v : Value) (x : Nat) : Prop :=
  ∃ a cap ws, v = .slice a ws.length cap ∧ nwv ws = x ∧ (∀ y ∈ ws, y < 4294967296) ∧ Norm ws ∧ (ws ≠ [] → ∃ g, a = some ⟨g, 0, none⟩ ∧ g < w.heap.size ∧ WCells w g ws)

theorem IsBig.below {w w' : World} {v : Value} {x : Nat} (h : IsBig w v x) (hb : Below w.heap.size w w') : IsBig w' v x := by
  obtain ⟨a, cap, ws, rfl, h1, h2, h3, h4⟩ := h
  refine ⟨a, cap, ws, rfl, h1, h2, h3, fun hne => ?_⟩
  obtain ⟨g, rfl, h5, h6⟩ := h4 hne
  exact ⟨g, rfl, Nat.lt_of_lt_of_le h5 hb.size, fun t ht => by rw [hb.cell (p := ⟨g, t, none⟩) h5]; exact h6 t ht⟩

theorem take_norm {ws : List Nat} {k : Nat} (hk : k < ws.length) (h : ws[k] ≠ 0) : Norm (ws.take (k + 1)) := by
  intro x hx
  rw [List.take_succ_eq_append_getElem hk, List.getLast?_append] at hx
  simp at hx
  omega

theorem nwv_drop0 {ws : List Nat} {k : Nat} (hk : k < ws.length) (h : ws[k] = 0) : nwv (ws.take k) = nwv (ws.take (k + 1)) := by
  rw [nwv_take ws k hk, h]
  omega

set_option maxRecDepth 100000 in
set_option maxHeartbeats 1000000 in
theorem nTrim_any (g cap : Nat) (ws : List Nat) (w : World) (hl : ws.length ≤ cap) (hl9 : ws.length ≤ 200000) (hc : WCells w g ws) (hg : g < w.heap.size) (hw : ∀ y ∈ ws, y < 4294967296) :
    Calls Tryz.prog 52 #[.slice (some ⟨g, 0, none⟩) ws.length cap] w fun e w' => w' = w ∧ ∃ v, e = .returned v ∧ IsBig w v (nwv ws) := by
  go_enter Tryz.func52, Tryz.ntmps52
  go_wp2_with fail
  go_loop [3] (fun n => ∃ k : Nat, k ≤ ws.length ∧ n = .int .i64 k ∧ nwv (ws.take k) = nwv ws) (fun n => (RowKit.intOf n).toNat)
  case atStart => exact ⟨ws.length, Nat.le_refl _, rfl, by rw [List.take_of_length_le (Nat.le_refl _)]⟩
  case round =>
    obtain ⟨k, hk, rfl, he⟩ := hrel
    cases k with
    | zero =>
      have HE : Hid (nwv (ws.take 0) = nwv ws) := he
      clear he
      go_wp2
      go_ret
      exact ⟨rfl, _, rfl, ⟨_, cap, [], rfl, by have := HE.out; simpa using this, by simp, by simp [Norm], fun h => absurd rfl h⟩⟩
    | succ k =>
      have x0 := hc k (by omega)
      by_cases h0 : ws[k] = 0
      · have HE : Hid (nwv (ws.take k) = nwv ws) := (nwv_drop0 (by omega) h0).trans he
        clear he
        rw [h0] at x0
        go_wp2
        go_round
        case rel => exact ⟨k, by omega, by go_num, HE.out⟩
        case measure => simp [RowKit.intOf]
      · have HE : Hid (nwv (ws.take (k + 1)) = nwv ws) := he
        have HN : Hid (Norm (ws.take (k + 1))) := take_norm (by omega) h0
        have hq : (((ws[k] : Nat) : Int) == 0) = false := by rw [beq_eq_false_iff_ne]; omega
        clear he
        generalize ws[k] = y at *
        go_wp2
        go_ret
        have hle : (ws.take (k + 1)).length = k + 1 := by rw [List.length_take]; omega
        exact ⟨rfl, _, rfl, ⟨_, cap, ws.take (k + 1), by rw [hle]; rfl, HE.out, fun y hy => hw y (List.mem_of_mem_take hy), HN.out, fun _ => ⟨g, rfl, hg, fun t ht => by rw [List.getElem_take]; exact hc t (by omega)⟩⟩⟩

set_option maxRecDepth 100000 in
theorem make_words (n : Nat) (h : n ≤ 200000) (w : World) : (Instr.makeSlice 54 (.int .i64 n) (.int .i64 n)).run Tryz.prog w = .ok (.slice (some ⟨w.heap.size, 0, none⟩) n n) (w.alloc (.cells (Array.replicate n (.int .u32 0)) 89)) := by
  have hi : (Tryz.prog.info? 89).map (fun i => (i.zero, i.size, i.bytes)) = some (some (.int .u32 0), 1, 4) := by kernel_rfl
  obtain ⟨i, h1, h2⟩ := Option.map_eq_some_iff.1 hi
  injection h2 with h3 h4
  injection h4 with h5 h6
  have e := run_make (P := Tryz.prog) w 54 89 i (.int .u32 0) (by kernel_rfl) h1 h3 .i64 .i64 (n : Int) (n : Int) (by omega) (by omega) (by rw [h6]; omega) (by omega)
  rw [e]
  have e2 : madeCells (Value.cells (.int .u32 0)) ((n : Int).toNat * i.size) = Array.replicate n (.int .u32 0) := by
    rw [h5, Int.toNat_natCast, Nat.mul_one]
    apply Array.ext
    · simp [madeCells]
    · intro t h1 h2
      simp [madeCells, Value.cells, Nat.mod_one]
  rw [e2, Int.toNat_natCast]

theorem made_cells (n : Nat) (w : World) : WCells (w.alloc (.cells (Array.replicate n (.int .u32 0)) 89)) w.heap.size (List.replicate n 0) := by
  intro t ht
  have ht' : t < n := by simpa using ht
  simp [ht']

theorem set_cells {w : World} {g k x : Nat} {ws : List Nat} (hk : k < ws.length) (hc : WCells w g ws) : WCells (w.setCell ⟨g, k, none⟩ (.int .u32 ((x : Nat) : Int))) g (ws.set k x) := by
  intro t ht
  have ht' : t < ws.length := by simpa using ht
  by_cases h : t = k
  · subst h
    rw [World.cell?_setCell_same _ _ _ (hc t ht')]
    simp
  · rw [World.cell?_setCell_other _ _ _ _ (fun e => h (by injection e with _ e; exact e.symm)), hc t ht', List.getElem_set_ne (fun e => h e.symm)]

theorem bDrew {B : Nat} {w wr : World} (h : Below B w wr) (n : Nat) : Below B w (wr.drewN n) := ⟨h.os, h.tape, h.output, h.size, h.block⟩

theorem set_small {S : List Nat} {k x : Nat} (h : ∀ y ∈ S, y < 4294967296) (hx : x < 4294967296) : ∀ y ∈ S.set k x, y < 4294967296 := by
  intro y hy
  rcases List.mem_or_eq_of_mem_set hy with h1 | h1
  · exact h y h1
  · omega

theorem set_zero {S : List Nat} {k x n : Nat} (hk : k < n) (h : ∀ t (h : t < S.length), n ≤ t → S[t] = 0) : ∀ t (h : t < (S.set k x).length), n ≤ t → (S.set k x)[t] = 0 := by
  intro t ht hn
  rw [List.getElem_set_ne (by omega)]
  exact h t (by simpa using ht) hn

set_option maxRecDepth 100000 in
set_option maxHeartbeats 2000000 in
theorem nMul_some (ga ca gb cb : Nat) (A B : List Nat) (w : World) (hA : A ≠ []) (hB : B ≠ []) (hA3 : A.length ≤ 70000) (hB3 : B.length ≤ 70000) (cA : WCells w ga A) (cB : WCells w gb B) (hga : ga < w.heap.size) (hgb : gb < w.heap.size)
    (wA : ∀ y ∈ A, y < 4294967296) (wB : ∀ y ∈ B, y < 4294967296) :
    Calls Tryz.prog 32 #[.slice (some ⟨ga, 0, none⟩) A.length ca, .slice (some ⟨gb, 0, none⟩) B.length cb] w fun e w' => ∃ v, e = .returned v ∧ IsBig w' v (nwv A * nwv B) ∧ Below w.heap.size w w' := by
  have hA0 : 0 < A.length := List.length_pos_iff.2 hA
  have hB0 : 0 < B.length := List.length_pos_iff.2 hB
  have qA : ((A.length : Int) == 0) = false := by rw [beq_eq_false_iff_ne]; omega
  have qB : ((B.length : Int) == 0) = false := by rw [beq_eq_false_iff_ne]; omega
  have hmk := make_words (A.length + B.length) (by omega)
  rw [show ((A.length + B.length : Nat) : Int) = (A.length : Int) + (B.length : Int) from by omega] at hmk
  go_enter Tryz.func32, Tryz.ntmps32
  go_wp2_with fail
  have M0 := made_cells (A.length + B.length) w
  have B0 : Below w.heap.size w (w.alloc (.cells (Array.replicate (A.length + B.length) (.int .u32 0)) 89)) := (Below.refl _ w).alloc (Nat.le_refl _) _
  go_loopw [6, 7, 8] (fun i _ _ wr => ∃ (k : Nat) (R : List Nat), i = .int .i64 k ∧ k ≤ A.length ∧ R.length = A.length + B.length ∧ WCells wr w.heap.size R ∧ (∀ y ∈ R, y < 4294967296) ∧ nwv R = nwv (A.take k) * nwv B ∧ (∀ t (h : t < R.length), k + B.length ≤ t → R[t] = 0) ∧
    w.heap.size < wr.heap.size ∧ (∀ t, wr.frozen? ⟨w.heap.size, t, none⟩ = false) ∧ Below w.heap.size w wr) (fun i _ _ _ => A.length - (RowKit.intOf i).toNat)
  case atStart =>
    refine ⟨0, List.replicate (A.length + B.length) 0, rfl, Nat.zero_le _, by simp, M0, ?_, by simp [nwv_zeros, nwv], by simp, by simp, ?_, B0⟩
    · intro y hy
      rw [List.mem_replicate] at hy
      omega
    · intro t
      rw [RowKit.frozen?_alloc_cells]
      simp [World.frozen?]
  case round =>
    obtain ⟨k, R, rfl, hk, hR, cR, wR, eR, zR, hg, hf, hbel⟩ := hrel
    by_cases hlt : k < A.length
    · have g1 : (k : Int) < A.length := by omega
      have xA : wr.cell? ⟨ga, k, none⟩ = some (.int .u32 ((A[k] : Nat) : Int)) := by rw [hbel.cell (p := ⟨ga, k, none⟩) hga]; exact cA k hlt
      have hAk := wA A[k] (List.getElem_mem hlt)
      go_wp2_with fail
      go_loopw [7, 8] (fun c j w2 => ∃ (m C : Nat) (S : List Nat), j = .int .i64 m ∧ c = .int .u64 C ∧ C < 4294967296 ∧ m ≤ B.length ∧ S.length = A.length + B.length ∧ WCells w2 w.heap.size S ∧ (∀ y ∈ S, y < 4294967296) ∧
        nwv S + C * (4294967296 ^ k * 4294967296 ^ m) = nwv (A.take k) * nwv B + A[k] * nwv (B.take m) * 4294967296 ^ k ∧ (∀ t (h : t < S.length), k + B.length ≤ t → S[t] = 0) ∧ w.heap.size < w2.heap.size ∧ (∀ t, w2.frozen? ⟨w.heap.size, t, none⟩ = false) ∧ Below w.heap.size w w2) (fun _ j _ => B.length - (RowKit.intOf j).toNat)
      case atStart => exact ⟨0, 0, R, rfl, rfl, by omega, Nat.zero_le _, hR, cR, wR, by simp [nwv, eR], zR, hg, hf, hbel⟩
      case round =>
        clear zR eR wR cR hR hbel hg hf xA
        obtain ⟨m, C, S, rfl, rfl, hC, hm, hS, cS, wS, eS, zS, hg, hf, hbel⟩ := hrel
        have xA : wr.cell? ⟨ga, k, none⟩ = some (.int .u32 ((A[k] : Nat) : Int)) := by rw [hbel.cell (p := ⟨ga, k, none⟩) hga]; exact cA k hlt
        by_cases hlm : m < B.length
        · have g2 : (m : Int) < B.length := by omega
          have hBm := wB B[m] (List.getElem_mem hlm)
          have hkm : k + m < S.length := by omega
          have hSm := wS S[k + m] (List.getElem_mem hkm)
          have xB : wr.cell? ⟨gb, m, none⟩ = some (.int .u32 ((B[m] : Nat) : Int)) := by rw [hbel.cell (p := ⟨gb, m, none⟩) hgb]; exact cB m hlm
          have xS := cS (k + m) hkm
          have hM : A[k] * B[m] ≤ 4294967295 * 4294967295 := Nat.mul_le_mul (by omega) (by omega)
          have hMi : ((A[k] : Nat) : Int) * ((B[m] : Nat) : Int) = ((A[k] * B[m] : Nat) : Int) := by simp
          have HC : Hid (WCells wr w.heap.size S) := cS
          have HZ : Hid (∀ x, ∀ t (h : t < (S.set (k + m) x).length), k + B.length ≤ t → (S.set (k + m) x)[t] = 0) := fun x => set_zero (by omega) zS
          have HW : Hid (∀ y ∈ S, y < 4294967296) := wS
          have HE : Hid (∀ c', c' = C + A[k] * B[m] + S[k + m] → nwv (S.set (k + m) (c' % 4294967296)) + c' / 4294967296 * (4294967296 ^ k * 4294967296 ^ (m + 1)) = nwv (A.take k) * nwv B + A[k] * nwv (B.take (m + 1)) * 4294967296 ^ k) := by
            intro c' hc'
            have hset := nwv_set S (k + m) (c' % 4294967296) hkm
            rw [Nat.pow_add] at hset
            rw [Nat.pow_succ]
            exact mul_step _ _ _ _ _ _ _ _ _ _ _ _ hset hc' (nwv_take B m hlm) eS
          clear eS cS wS zS
          generalize hP : A[k] * B[m] = P at *
          generalize A[k] = x at *
          generalize B[m] = y at *
          generalize S[k + m] = z at *
          go_wp2_with fail
          go_quiet (fail)
          go_wp2_with fail
          go_roundw
          case rel =>
            refine ⟨m + 1, (C + P + z) / 4294967296, S.set (k + m) ((C + P + z) % 4294967296), by go_num, by go_num, by omega, by omega, by simpa using hS, ?_, set_small HW.out (by omega), HE.out _ rfl, HZ.out _, by simpa using hg, fun t => by simpa using hf t, (bDrew hbel nq).setCell (Nat.le_refl _) _⟩
            have e := set_cells (x := (C + P + z) % 4294967296) hkm (show WCells (wr.drewN nq) w.heap.size S from HC.out)
            rw [show (((C + P + z) % 4294967296 : Nat) : Int) = ((C : Int) + ((P : Int) + (z : Int))) % 4294967296 from by omega] at e
            exact e
          case measure => simp [RowKit.intOf]; omega
        · have hme : m = B.length := by omega
          subst hme
          have hkm : k + B.length < S.length := by omega
          have xS := cS (k + B.length) hkm
          have z0 := zS (k + B.length) hkm (Nat.le_refl _)
          rw [z0] at xS
          have HC : Hid (WCells wr w.heap.size S) := cS
          have HZ : Hid (∀ x, ∀ t (h : t < (S.set (k + B.length) x).length), k + 1 + B.length ≤ t → (S.set (k + B.length) x)[t] = 0) := fun x => set_zero (by omega) (fun t h h2 => zS t h (by omega))
          have HW : Hid (∀ y ∈ S, y < 4294967296) := wS
          have HE : Hid (nwv (S.set (k + B.length) C) = nwv (A.take (k + 1)) * nwv B) := by
            show _ = _
            have hset := nwv_set S (k + B.length) C hkm
            rw [z0, Nat.pow_add] at hset
            rw [nwv_take A k hlt, Nat.add_mul]
            rw [List.take_of_length_le (Nat.le_refl _)] at eS
            generalize 4294967296 ^ k * 4294967296 ^ B.length = P at *
            have : A[k] * nwv B * 4294967296 ^ k = A[k] * 4294967296 ^ k * nwv B := by grind
            omega
          clear eS cS wS zS z0
          go_wp2_with fail
          go_roundw
          case rel => exact ⟨k + 1, S.set (k + B.length) C, by go_num, by omega, by simpa using hS, set_cells hkm HC.out, set_small HW.out hC, HE.out, HZ.out _, by simpa using hg, fun t => by simpa using hf t, hbel.setCell (Nat.le_refl _) _⟩
          case measure => simp [RowKit.intOf]; omega
    · have hke : k = A.length := by omega
      subst hke
      rw [List.take_of_length_le (Nat.le_refl _)] at eR
      have T := nTrim_any w.heap.size (A.length + B.length) R wr (by omega) (by omega) cR hg wR
      rw [hR, eR] at T
      clear zR eR wR cR hR
      go_wp2_with fail
      refine T.mono ?_
      rintro e w2 ⟨rfl, v, rfl, hv⟩
      go_wp2
      go_ret
      exact ⟨_, rfl, hv, hbel⟩

/-- mul, of any two numbers that are not too great. -/
theorem nMul_any (va vb : Value) (x y : Nat) (w : World) (ha : IsBig w va x) (hb : IsBig w vb y) (L : Nat) (hL : L ≤ 70000) (hx : x < 4294967296 ^ L) (hy : y < 4294967296 ^ L) :
    Calls Tryz.prog 32 #[va, vb] w fun e w' => ∃ v, e = .returned v ∧ IsBig w' v (x * y) ∧ Below w.heap.size w w' := by
  obtain ⟨a, ca, A, rfl, rfl, wA, nA, iA⟩ := ha
  obtain ⟨b, cb, B, rfl, rfl, wB, nB, iB⟩ := hb
  have hA3 := Nat.le_trans (norm_lenN nA hx) hL
  have hB3 := Nat.le_trans (norm_lenN nB hy) hL
  clear hx hy hL
  have nil : IsBig w (.slice none 0 0) 0 := ⟨none, 0, [], rfl, rfl, by simp, by simp [Norm], fun h => absurd rfl h⟩
  by_cases hA : A = []
  · subst hA
    go_enter Tryz.func32, Tryz.ntmps32
    go_wp2
    go_ret
    exact ⟨_, rfl, by simpa [nwv] using nil, Below.refl _ _⟩
  · by_cases hB : B = []
    · subst hB
      have hA0 : 0 < A.length := List.length_pos_iff.2 hA
      have qA : ((A.length : Int) == 0) = false := by rw [beq_eq_false_iff_ne]; omega
      go_enter Tryz.func32, Tryz.ntmps32
      go_wp2
      go_ret
      exact ⟨_, rfl, by simpa [nwv] using nil, Below.refl _ _⟩
    · obtain ⟨ga, rfl, hga, cA⟩ := iA hA
      obtain ⟨gb, rfl, hgb, cB⟩ := iB hB
      exact nMul_some ga ca gb cb A B w hA hB hA3 hB3 cA cB hga hgb wA wB
end Go.Proofs.YtnmdhbejjjmdeaaGreatDoor

namespace Go.Proofs.YtnmdhbejjjmdeaaGreatDoor
open Go.RowKit

set_option maxRecDepth 100000 in
set_option maxHeartbeats 4000000 in
theorem nAdd_any (va vb : Value) (x y : Nat) (w : World) (ha : IsBig w va x) (hb : IsBig w vb y) (L : Nat) (hL : L ≤ 70000) (hx : x < 4294967296 ^ L) (hy : y < 4294967296 ^ L) :
    Calls Tryz.prog 31 #[va, vb] w fun e w' => ∃ v, e = .returned v ∧ IsBig w' v (x + y) ∧ Below w.heap.size w w' := by
  obtain ⟨a, ca, A, rfl, rfl, wA, nA, iA⟩ := ha
  obtain ⟨b, cb, B, rfl, rfl, wB, nB, iB⟩ := hb
  have hA3 := Nat.le_trans (norm_lenN nA hx) hL
  have hB3 := Nat.le_trans (norm_lenN nB hy) hL
  clear hx hy hL
  by_cases hle : B.length ≤ A.length
  · have hge := hle
    have g0 : ¬ (A.length : Int) < B.length := by omega
    have hmk := make_words (A.length + 1) (by omega)
    rw [show ((A.length + 1 : Nat) : Int) = (A.length : Int) + 1 from by omega] at hmk
    go_enter Tryz.func31, Tryz.ntmps31
    go_wp2_with fail
    have M0 := made_cells (A.length + 1) w
    have B0 : Below w.heap.size w (w.alloc (.cells (Array.replicate (A.length + 1) (.int .u32 0)) 89)) := (Below.refl _ w).alloc (Nat.le_refl _) _
    go_loopw [6, 7] (fun c i wr => ∃ (k C : Nat) (R : List Nat), i = .int .i64 k ∧ c = .int .u64 C ∧ C < 4294967296 ∧ k ≤ A.length ∧ R.length = A.length + 1 ∧ WCells wr w.heap.size R ∧ (∀ y ∈ R, y < 4294967296) ∧
      nwv R + C * 4294967296 ^ k = nwv (A.take k) + nwv (B.take k) ∧ (∀ t (h : t < R.length), k ≤ t → R[t] = 0) ∧ w.heap.size < wr.heap.size ∧ (∀ t, wr.frozen? ⟨w.heap.size, t, none⟩ = false) ∧ Below w.heap.size w wr) (fun _ i _ => A.length - (RowKit.intOf i).toNat)
    case atStart =>
      refine ⟨0, 0, List.replicate (A.length + 1) 0, rfl, rfl, by omega, Nat.zero_le _, by simp, M0, ?_, by simp [nwv_zeros, nwv], by simp, by simp, ?_, B0⟩
      · intro y hy
        rw [List.mem_replicate] at hy
        omega
      · intro t
        rw [RowKit.frozen?_alloc_cells]
        simp [World.frozen?]
    case round =>
      obtain ⟨k, C, R, rfl, rfl, hC, hk, hR, cR, wR, eR, zR, hg, hf, hbel⟩ := hrel
      have HC : Hid (WCells wr w.heap.size R) := cR
      have HW : Hid (∀ y ∈ R, y < 4294967296) := wR
      have hkR : k < R.length := by omega
      have xR := cR k hkR
      have z0 := zR k hkR (Nat.le_refl _)
      rw [z0] at xR
      have HZ : Hid (∀ x, ∀ t (h : t < (R.set k x).length), k + 1 ≤ t → (R.set k x)[t] = 0) := fun x => set_zero (by omega) (fun t h h2 => zR t h (by omega))
      by_cases hlt : k < A.length
      · have g1 : (k : Int) < A.length := by omega
        obtain ⟨ga, rfl, hga, cA⟩ := iA (fun e => by rw [e] at hlt; simp at hlt)
        have xA : wr.cell? ⟨ga, k, none⟩ = some (.int .u32 ((A[k] : Nat) : Int)) := by rw [hbel.cell (p := ⟨ga, k, none⟩) hga]; exact cA k hlt
        have hAk := wA A[k] (List.getElem_mem hlt)
        by_cases hlb : k < B.length
        · have g2 : (k : Int) < B.length := by omega
          obtain ⟨gb, rfl, hgb, cB⟩ := iB (fun e => by rw [e] at hlb; simp at hlb)
          have xB : wr.cell? ⟨gb, k, none⟩ = some (.int .u32 ((B[k] : Nat) : Int)) := by rw [hbel.cell (p := ⟨gb, k, none⟩) hgb]; exact cB k hlb
          have hBk := wB B[k] (List.getElem_mem hlb)
          have HE : Hid (∀ c', c' = C + A[k] + B[k] → nwv (R.set k (c' % 4294967296)) + c' / 4294967296 * 4294967296 ^ (k + 1) = nwv (A.take (k + 1)) + nwv (B.take (k + 1))) := by
            intro c' hc'
            have hset := nwv_set R k (c' % 4294967296) hkR
            rw [Nat.pow_succ]
            exact add_step _ _ _ _ _ _ _ _ _ _ _ _ z0 hset hc' (nwv_take A k hlt) (nwv_take B k hlb) eR
          clear eR cR wR zR z0
          generalize A[k] = x at *
          generalize B[k] = y at *
          go_wp2_with fail
          go_roundw
          case rel =>
            refine ⟨k + 1, (C + x + y) / 4294967296, R.set k ((C + x + y) % 4294967296), by go_num, by go_num, by omega, by omega, by simpa using hR, ?_, set_small HW.out (by omega), HE.out _ rfl, HZ.out _, by simpa using hg, fun t => by simpa using hf t, hbel.setCell (Nat.le_refl _) _⟩
            have e := set_cells (x := (C + x + y) % 4294967296) hkR HC.out
            rw [show (((C + x + y) % 4294967296 : Nat) : Int) = ((C : Int) + (x : Int) + (y : Int)) % 4294967296 from by omega] at e
            exact e
          case measure => simp [RowKit.intOf]; omega
        · have g2 : ¬ (k : Int) < B.length := by omega
          have HE : Hid (∀ c', c' = C + A[k] → nwv (R.set k (c' % 4294967296)) + c' / 4294967296 * 4294967296 ^ (k + 1) = nwv (A.take (k + 1)) + nwv (B.take (k + 1))) := by
            intro c' hc'
            have hset := nwv_set R k (c' % 4294967296) hkR
            have e1 : B.take (k + 1) = B.take k := by rw [List.take_of_length_le (by omega), List.take_of_length_le (by omega)]
            rw [Nat.pow_succ, e1]
            exact add_step _ _ _ _ _ _ _ 0 _ _ _ _ z0 hset (by omega) (nwv_take A k hlt) (by omega) eR
          clear eR cR wR zR z0
          generalize A[k] = x at *
          go_wp2_with fail
          go_roundw
          case rel =>
            refine ⟨k + 1, (C + x) / 4294967296, R.set k ((C + x) % 4294967296), by go_num, by go_num, by omega, by omega, by simpa using hR, ?_, set_small HW.out (by omega), HE.out _ rfl, HZ.out _, by simpa using hg, fun t => by simpa using hf t, hbel.setCell (Nat.le_refl _) _⟩
            have e := set_cells (x := (C + x) % 4294967296) hkR HC.out
            rw [show (((C + x) % 4294967296 : Nat) : Int) = ((C : Int) + (x : Int)) % 4294967296 from by omega] at e
            exact e
          case measure => simp [RowKit.intOf]; omega
      · have hke : k = A.length := by omega
        subst hke
        rw [List.take_of_length_le (Nat.le_refl _), List.take_of_length_le hge] at eR
        have HE : nwv (R.set A.length C) = nwv A + nwv B := by
          have hset := nwv_set R A.length C hkR
          rw [z0] at hset
          generalize 4294967296 ^ A.length = P at *
          omega
        have g1 : ¬ (A.length : Int) < A.length := by omega
        have T := nTrim_any w.heap.size (A.length + 1) (R.set A.length C) (wr.setCell ⟨w.heap.size, A.length, none⟩ (.int .u32 ((C : Nat) : Int))) (by simp; omega) (by simp; omega) (set_cells hkR HC.out) (by simpa using hg) (set_small HW.out hC)
        rw [HE, List.length_set, hR] at T
        have HT : Below w.heap.size w (wr.setCell ⟨w.heap.size, A.length, none⟩ (.int .u32 ((C : Nat) : Int))) := hbel.setCell (Nat.le_refl _) _
        clear zR eR wR cR z0 HE HZ
        go_wp2_with fail
        refine T.mono ?_
        rintro e w2 ⟨rfl, v, rfl, hv⟩
        go_wp2
        go_ret
        exact ⟨_, rfl, hv, HT⟩
  · have hge : A.length ≤ B.length := by omega
    have g0 : (A.length : Int) < B.length := by omega
    have hmk := make_words (B.length + 1) (by omega)
    rw [show ((B.length + 1 : Nat) : Int) = (B.length : Int) + 1 from by omega] at hmk
    go_enter Tryz.func31, Tryz.ntmps31
    go_wp2_with fail
    have M0 := made_cells (B.length + 1) w
    have B0 : Below w.heap.size w (w.alloc (.cells (Array.replicate (B.length + 1) (.int .u32 0)) 89)) := (Below.refl _ w).alloc (Nat.le_refl _) _
    go_loopw [6, 7] (fun c i wr => ∃ (k C : Nat) (R : List Nat), i = .int .i64 k ∧ c = .int .u64 C ∧ C < 4294967296 ∧ k ≤ B.length ∧ R.length = B.length + 1 ∧ WCells wr w.heap.size R ∧ (∀ y ∈ R, y < 4294967296) ∧
      nwv R + C * 4294967296 ^ k = nwv (B.take k) + nwv (A.take k) ∧ (∀ t (h : t < R.length), k ≤ t → R[t] = 0) ∧ w.heap.size < wr.heap.size ∧ (∀ t, wr.frozen? ⟨w.heap.size, t, none⟩ = false) ∧ Below w.heap.size w wr) (fun _ i _ => B.length - (RowKit.intOf i).toNat)
    case atStart =>
      refine ⟨0, 0, List.replicate (B.length + 1) 0, rfl, rfl, by omega, Nat.zero_le _, by simp, M0, ?_, by simp [nwv_zeros, nwv], by simp, by simp, ?_, B0⟩
      · intro y hy
        rw [List.mem_replicate] at hy
        omega
      · intro t
        rw [RowKit.frozen?_alloc_cells]
        simp [World.frozen?]
    case round =>
      obtain ⟨k, C, R, rfl, rfl, hC, hk, hR, cR, wR, eR, zR, hg, hf, hbel⟩ := hrel
      have HC : Hid (WCells wr w.heap.size R) := cR
      have HW : Hid (∀ y ∈ R, y < 4294967296) := wR
      have hkR : k < R.length := by omega
      have xR := cR k hkR
      have z0 := zR k hkR (Nat.le_refl _)
      rw [z0] at xR
      have HZ : Hid (∀ x, ∀ t (h : t < (R.set k x).length), k + 1 ≤ t → (R.set k x)[t] = 0) := fun x => set_zero (by omega) (fun t h h2 => zR t h (by omega))
      by_cases hlt : k < B.length
      · have g1 : (k : Int) < B.length := by omega
        obtain ⟨ga, rfl, hga, cA⟩ := iB (fun e => by rw [e] at hlt; simp at hlt)
        have xA : wr.cell? ⟨ga, k, none⟩ = some (.int .u32 ((B[k] : Nat) : Int)) := by rw [hbel.cell (p := ⟨ga, k, none⟩) hga]; exact cA k hlt
        have hAk := wB B[k] (List.getElem_mem hlt)
        by_cases hlb : k < A.length
        · have g2 : (k : Int) < A.length := by omega
          obtain ⟨gb, rfl, hgb, cB⟩ := iA (fun e => by rw [e] at hlb; simp at hlb)
          have xB : wr.cell? ⟨gb, k, none⟩ = some (.int .u32 ((A[k] : Nat) : Int)) := by rw [hbel.cell (p := ⟨gb, k, none⟩) hgb]; exact cB k hlb
          have hBk := wA A[k] (List.getElem_mem hlb)
          have HE : Hid (∀ c', c' = C + B[k] + A[k] → nwv (R.set k (c' % 4294967296)) + c' / 4294967296 * 4294967296 ^ (k + 1) = nwv (B.take (k + 1)) + nwv (A.take (k + 1))) := by
            intro c' hc'
            have hset := nwv_set R k (c' % 4294967296) hkR
            rw [Nat.pow_succ]
            exact add_step _ _ _ _ _ _ _ _ _ _ _ _ z0 hset hc' (nwv_take B k hlt) (nwv_take A k hlb) eR
          clear eR cR wR zR z0
          generalize B[k] = x at *
          generalize A[k] = y at *
          go_wp2_with fail
          go_roundw
          case rel =>
            refine ⟨k + 1, (C + x + y) / 4294967296, R.set k ((C + x + y) % 4294967296), by go_num, by go_num, by omega, by omega, by simpa using hR, ?_, set_small HW.out (by omega), HE.out _ rfl, HZ.out _, by simpa using hg, fun t => by simpa using hf t, hbel.setCell (Nat.le_refl _) _⟩
            have e := set_cells (x := (C + x + y) % 4294967296) hkR HC.out
            rw [show (((C + x + y) % 4294967296 : Nat) : Int) = ((C : Int) + (x : Int) + (y : Int)) % 4294967296 from by omega] at e
            exact e
          case measure => simp [RowKit.intOf]; omega
        · have g2 : ¬ (k : Int) < A.length := by omega
          have HE : Hid (∀ c', c' = C + B[k] → nwv (R.set k (c' % 4294967296)) + c' / 4294967296 * 4294967296 ^ (k + 1) = nwv (B.take (k + 1)) + nwv (A.take (k + 1))) := by
            intro c' hc'
            have hset := nwv_set R k (c' % 4294967296) hkR
            have e1 : A.take (k + 1) = A.take k := by rw [List.take_of_length_le (by omega), List.take_of_length_le (by omega)]
            rw [Nat.pow_succ, e1]
            exact add_step _ _ _ _ _ _ _ 0 _ _ _ _ z0 hset (by omega) (nwv_take B k hlt) (by omega) eR
          clear eR cR wR zR z0
          generalize B[k] = x at *
          go_wp2_with fail
          go_roundw
          case rel =>
            refine ⟨k + 1, (C + x) / 4294967296, R.set k ((C + x) % 4294967296), by go_num, by go_num, by omega, by omega, by simpa using hR, ?_, set_small HW.out (by omega), HE.out _ rfl, HZ.out _, by simpa using hg, fun t => by simpa using hf t, hbel.setCell (Nat.le_refl _) _⟩
            have e := set_cells (x := (C + x) % 4294967296) hkR HC.out
            rw [show (((C + x) % 4294967296 : Nat) : Int) = ((C : Int) + (x : Int)) % 4294967296 from by omega] at e
            exact e
          case measure => simp [RowKit.intOf]; omega
      · have hke : k = B.length := by omega
        subst hke
        rw [List.take_of_length_le (Nat.le_refl _), List.take_of_length_le hge] at eR
        have HE : nwv (R.set B.length C) = nwv B + nwv A := by
          have hset := nwv_set R B.length C hkR
          rw [z0] at hset
          generalize 4294967296 ^ B.length = P at *
          omega
        have g1 : ¬ (B.length : Int) < B.length := by omega
        have T := nTrim_any w.heap.size (B.length + 1) (R.set B.length C) (wr.setCell ⟨w.heap.size, B.length, none⟩ (.int .u32 ((C : Nat) : Int))) (by simp; omega) (by simp; omega) (set_cells hkR HC.out) (by simpa using hg) (set_small HW.out hC)
        rw [HE, List.length_set, hR] at T
        have HT : Below w.heap.size w (wr.setCell ⟨w.heap.size, B.length, none⟩ (.int .u32 ((C : Nat) : Int))) := hbel.setCell (Nat.le_refl _) _
        clear zR eR wR cR z0 HE HZ
        go_wp2_with fail
        refine T.mono ?_
        rintro e w2 ⟨rfl, v, rfl, hv⟩
        rw [Nat.add_comm (nwv B) (nwv A)] at hv
        go_wp2
        go_ret
        exact ⟨_, rfl, hv, HT⟩
end Go.Proofs.YtnmdhbejjjmdeaaGreatDoor

namespace Go.Proofs.YtnmdhbejjjmdeaaGreatDoor
open Go.RowKit

theorem pow_words (n : Nat) : (4294967296 : Nat) ^ n = 2 ^ (n * 32) := by
  rw [Nat.mul_comm, Nat.pow_mul]
/-- A number's binary digits, by its greatest word. -/
theorem top_bits {ws : List Nat} (h0 : ws ≠ []) (hw : ∀ y ∈ ws, y < 4294967296) {j : Nat} (hj : 1 ≤ j) (hlo : 2 ^ (j - 1) ≤ ws[ws.length - 1]'(by have := List.length_pos_iff.2 h0; omega)) (hhi : ws[ws.length - 1]'(by have := List.length_pos_iff.2 h0; omega) < 2 ^ j) :
    2 ^ ((ws.length - 1) * 32 + j - 1) ≤ nwv ws ∧ nwv ws < 2 ^ ((ws.length - 1) * 32 + j) := by
  have hl := List.length_pos_iff.2 h0
  have e := nwv_take ws (ws.length - 1) (by omega)
  rw [show ws.length - 1 + 1 = ws.length from by omega, List.take_of_length_le (Nat.le_refl _)] at e
  have hlt := nwv_lt (ws.take (ws.length - 1)) (fun y hy => hw y (List.mem_of_mem_take hy))
  rw [List.length_take, Nat.min_eq_left (by omega)] at hlt
  rw [pow_words] at e hlt
  generalize ws[ws.length - 1] = top at *
  rw [show (ws.length - 1) * 32 + j - 1 = (ws.length - 1) * 32 + (j - 1) by omega, Nat.pow_add, Nat.pow_add]
  generalize 2 ^ ((ws.length - 1) * 32) = P at *
  constructor
  · rw [e, Nat.mul_comm]
    have := Nat.mul_le_mul_right P hlo
    omega
  · rw [e]
    have h1 : (top + 1) * P ≤ 2 ^ j * P := Nat.mul_le_mul_right P hhi
    rw [Nat.add_mul, Nat.one_mul] at h1
    rw [Nat.mul_comm P]
    omega
/-- A number of so many binary digits fits 64 bits, or not. -/
theorem bits_fit {x n : Nat} (h : (n = 0 ∧ x = 0) ∨ (1 ≤ n ∧ 2 ^ (n - 1) ≤ x ∧ x < 2 ^ n)) : (n < 64 ↔ x < 9223372036854775808) ∧ (n = 64 ↔ 9223372036854775808 ≤ x ∧ x < 18446744073709551616) := by
  rcases h with ⟨rfl, rfl⟩ | ⟨h1, h2, h3⟩
  · constructor <;> omega
  · have a1 : n < 64 → x < 9223372036854775808 := fun h => by
      have : (2 : Nat) ^ n ≤ 2 ^ 63 := Nat.pow_le_pow_right (by omega) (by omega)
      omega
    have a2 : 64 ≤ n → 9223372036854775808 ≤ x := fun h => by
      have : (2 : Nat) ^ 63 ≤ 2 ^ (n - 1) := Nat.pow_le_pow_right (by omega) (by omega)
      omega
    have a3 : 65 ≤ n → 18446744073709551616 ≤ x := fun h => by
      have : (2 : Nat) ^ 64 ≤ 2 ^ (n - 1) := Nat.pow_le_pow_right (by omega) (by omega)
      omega
    have a4 : n = 64 → x < 18446744073709551616 := fun h => by
      subst h
      omega
    constructor
    · constructor
      · exact a1
      · intro h
        rcases Nat.lt_or_ge n 64 with h5 | h5
        · exact h5
        · have := a2 h5; omega
    · constructor
      · intro h
        exact ⟨a2 (by omega), a4 h⟩
      · rintro ⟨h4, h5⟩
        rcases Nat.lt_or_ge n 64 with h6 | h6
        · have := a1 h6; omega
        · rcases Nat.lt_or_ge n 65 with h7 | h7
          · omega
          · have := a3 h7; omega
set_option maxRecDepth 100000 in
set_option maxHeartbeats 2000000 in
theorem nLength_any (v : Value) (x L : Nat) (w : World) (hv : IsBig w v x) (hL : L ≤ 70000) (hx : x < 4294967296 ^ L) :
    Calls Tryz.prog 35 #[v] w fun e w' => ∃ n : Nat, e = .returned (.int .i64 n) ∧ ((n < 64 ↔ x < 9223372036854775808) ∧ (n = 64 ↔ 9223372036854775808 ≤ x ∧ x < 18446744073709551616)) ∧ n ≤ 3000000 ∧ w' = w := by
  obtain ⟨a, cap, ws, rfl, rfl, hw, hn, hi⟩ := hv
  have h3 := Nat.le_trans (norm_lenN hn hx) hL
  clear hx hL
  by_cases h0 : ws = []
  · subst h0
    go_enter Tryz.func35, Tryz.ntmps35
    go_wp2
    go_ret
    exact ⟨0, rfl, bits_fit (Or.inl ⟨rfl, rfl⟩), by omega, rfl⟩
  · obtain ⟨g, rfl, hg, hc⟩ := hi h0
    have hl := List.length_pos_iff.2 h0
    have x0 := hc (ws.length - 1) (by omega)
    have htop : ws[ws.length - 1] ≠ 0 := hn _ (by rw [List.getLast?_eq_getElem?, List.getElem?_eq_getElem (by omega)]; rfl)
    have htop2 := hw ws[ws.length - 1] (List.getElem_mem (by omega))
    have HX : Hid (∀ j : Nat, 1 ≤ j → 2 ^ (j - 1) ≤ ws[ws.length - 1] → ws[ws.length - 1] < 2 ^ j → (((ws.length - 1) * 32 + j < 64 ↔ nwv ws < 9223372036854775808) ∧ ((ws.length - 1) * 32 + j = 64 ↔ 9223372036854775808 ≤ nwv ws ∧ nwv ws < 18446744073709551616))) := by
      intro j j1 j2 j3
      have h := top_bits h0 hw j1 j2 j3
      exact bits_fit (Or.inr ⟨by omega, h.1, h.2⟩)
    have q0 : ((ws.length : Int) == 0) = false := by rw [beq_eq_false_iff_ne]; omega
    clear hc hi hn hw
    generalize ws[ws.length - 1] = top at *
    go_enter Tryz.func35, Tryz.ntmps35
    go_wp2_with fail
    have HT : Hid (top ≠ 0) := htop
    have HT2 : Hid (top < 4294967296) := htop2
    clear htop
    go_loop [3, 4] (fun n t => ∃ j u : Nat, n = .int .i64 j ∧ t = .int .u32 u ∧ Hid (u = top / 2 ^ j) ∧ u < 4294967296 ∧ j ≤ 32 ∧ Hid (1 ≤ j → 2 ^ (j - 1) ≤ top)) (fun _ t => (RowKit.intOf t).toNat)
    case atStart => exact ⟨0, top, rfl, rfl, by show _ = _; simp, htop2, by omega, fun h => by omega⟩
    case round =>
      obtain ⟨j, u, rfl, rfl, hju, hu2, hj2, hor⟩ := hrel
      by_cases hu : u = 0
      · subst hu
        have hlt : top < 2 ^ j := by
          have h := hju.out
          rcases Nat.lt_or_ge top (2 ^ j) with h5 | h5
          · exact h5
          · have := Nat.div_pos h5 (Nat.pow_pos (by omega)); omega
        have hj1 : 1 ≤ j := by
          rcases Nat.eq_zero_or_pos j with h | h
          · subst h; have := HT.out; simp at hlt; omega
          · exact h
        have HG := HX.out j hj1 (hor.out hj1) hlt
        have HG : Hid (((ws.length - 1) * 32 + j < 64 ↔ nwv ws < 9223372036854775808) ∧ ((ws.length - 1) * 32 + j = 64 ↔ 9223372036854775808 ≤ nwv ws ∧ nwv ws < 18446744073709551616)) := HG
        have HC : Hid ((((ws.length - 1) * 32 + j : Nat) : Int) = ((ws.length : Int) - 1) * 32 + j ∧ (ws.length - 1) * 32 + j ≤ 3000000) := ⟨by omega, by omega⟩
        clear hlt hj1
        go_wp2
        go_ret
        refine ⟨(ws.length - 1) * 32 + j, ?_, HG.out, HC.out.2, rfl⟩
        rw [HC.out.1]
        rfl
      · have hge : 2 ^ j ≤ top := by
          have h := hju.out
          rcases Nat.lt_or_ge top (2 ^ j) with h5 | h5
          · rw [Nat.div_eq_of_lt h5] at h; omega
          · exact h5
        have hj : j ≤ 31 := by
          rcases Nat.lt_or_ge j 32 with h | h
          · omega
          · have h1 := Nat.pow_le_pow_right (n := 2) (by omega) h
            have := HT2.out
            omega
        have HJ : Hid (u / 2 = top / 2 ^ (j + 1)) := by
          show _ = _
          rw [Nat.pow_succ, ← Nat.div_div_eq_div_mul, ← hju.out]
        have HK : Hid (1 ≤ j + 1 → 2 ^ (j + 1 - 1) ≤ top) := fun _ => hge
        have qu : ((u : Int) == 0) = false := by rw [beq_eq_false_iff_ne]; omega
        clear hju hor hge
        go_wp2
        go_round
        case rel => exact ⟨j + 1, u / 2, by go_num, by go_num, HJ, by omega, by omega, HK⟩
        case measure => simp [RowKit.intOf]; omega
end Go.Proofs.YtnmdhbejjjmdeaaGreatDoor
