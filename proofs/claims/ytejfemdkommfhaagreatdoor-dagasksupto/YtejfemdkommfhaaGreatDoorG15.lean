/-
  What is proved: as each theorem says.
  Conditions: as each theorem says.
-/
import Derived.Test.YtejfemdkommfhaaGreatDoorG01
import Derived.Test.YtejfemdkommfhaaGreatDoorG14
import Derived.Deep.RegionHeld3
import Derived.Handy
namespace Go.Proofs.YtejfemdkommfhaaGreatDoor
open Go.RowKit Go.Maps
def isCountM (p : OpM) : Bool := p.kind == 1 && p.val.k == 4
def hasValueM (p : OpM) : Bool := p.kind == 1 || p.kind == 2
def placeM (p : OpM) (x : Pr) : Pr := if p.ins = true then x else p.elem
set_option maxRecDepth 100000 in
set_option maxHeartbeats 4000000 in
theorem isCount_any (p : OpM) (qa : Option Addr) (qn qc : Nat) (x : Pr) (w : World) :
 Calls Tryz.prog 118 #[.agg #[.int .i64 p.kind, .int .i64 p.obj.1, .int .i64 p.obj.2, .string p.key, .int .i64 p.elem.1, .int .i64 p.elem.2, .bool p.ins, .int .i64 p.val.k, .int .i64 p.val.n, .string p.val.t, .int .i64 p.val.o, .int .i64 p.val.a, .slice qa qn qc, .int .i64 x.1, .int .i64 x.2]] w fun e w' => e = .returned (.bool (isCountM p)) ∧ Below w.heap.size w w' := by
 have b0 := (Below.refl w.heap.size w).alloc (Nat.le_refl _) (.cells #[.int .i64 p.kind, .int .i64 p.obj.1, .int .i64 p.obj.2, .string p.key, .int .i64 p.elem.1, .int .i64 p.elem.2, .bool p.ins, .int .i64 p.val.k, .int .i64 p.val.n, .string p.val.t, .int .i64 p.val.o, .int .i64 p.val.a, .slice qa qn qc, .int .i64 x.1, .int .i64 x.2] 124)
 have HB : Hid _ := b0
 clear b0
 unfold isCountM
 by_cases h1 : p.kind = 1
 ·by_cases h2 : p.val.k = 4
  ·rw [h1, h2] at HB ⊢
   go_enter Tryz.func118, Tryz.ntmps118
   go_wp2
   go_ret
   exact ⟨by simp, HB.out⟩
  ·have h2b : (p.val.k == 4) = false := by simp [h2]
   rw [h1] at HB ⊢
   go_enter Tryz.func118, Tryz.ntmps118
   go_wp2
   go_ret
   exact ⟨by simp [h2], HB.out⟩
 ·have h1b : (p.kind == 1) = false := by simp [h1]
  go_enter Tryz.func118, Tryz.ntmps118
  go_wp2
  go_ret
  exact ⟨by simp [h1], HB.out⟩
set_option maxRecDepth 100000 in
set_option maxHeartbeats 4000000 in
theorem hasValue_any (p : OpM) (qa : Option Addr) (qn qc : Nat) (x : Pr) (w : World) :
 Calls Tryz.prog 119 #[.agg #[.int .i64 p.kind, .int .i64 p.obj.1, .int .i64 p.obj.2, .string p.key, .int .i64 p.elem.1, .int .i64 p.elem.2, .bool p.ins, .int .i64 p.val.k, .int .i64 p.val.n, .string p.val.t, .int .i64 p.val.o, .int .i64 p.val.a, .slice qa qn qc, .int .i64 x.1, .int .i64 x.2]] w fun e w' => e = .returned (.bool (hasValueM p)) ∧ Below w.heap.size w w' := by
 have b0 := (Below.refl w.heap.size w).alloc (Nat.le_refl _) (.cells #[.int .i64 p.kind, .int .i64 p.obj.1, .int .i64 p.obj.2, .string p.key, .int .i64 p.elem.1, .int .i64 p.elem.2, .bool p.ins, .int .i64 p.val.k, .int .i64 p.val.n, .string p.val.t, .int .i64 p.val.o, .int .i64 p.val.a, .slice qa qn qc, .int .i64 x.1, .int .i64 x.2] 124)
 have HB : Hid _ := b0
 clear b0
 unfold hasValueM
 by_cases h1 : p.kind = 1
 ·rw [h1] at HB ⊢
  go_enter Tryz.func119, Tryz.ntmps119
  go_wp2
  go_ret
  exact ⟨by simp, HB.out⟩
 ·have h1b : (p.kind == 1) = false := by simp [h1]
  go_enter Tryz.func119, Tryz.ntmps119
  go_wp2
  go_ret
  exact ⟨by simp [h1], HB.out⟩
set_option maxRecDepth 100000 in
set_option maxHeartbeats 4000000 in
theorem place_any (p : OpM) (qa : Option Addr) (qn qc : Nat) (x : Pr) (w : World) :
 Calls Tryz.prog 120 #[.agg #[.int .i64 p.kind, .int .i64 p.obj.1, .int .i64 p.obj.2, .string p.key, .int .i64 p.elem.1, .int .i64 p.elem.2, .bool p.ins, .int .i64 p.val.k, .int .i64 p.val.n, .string p.val.t, .int .i64 p.val.o, .int .i64 p.val.a, .slice qa qn qc, .int .i64 x.1, .int .i64 x.2]] w fun e w' => e = .returned (refV (placeM p x)) ∧ Below w.heap.size w w' := by
 unfold placeM
 obtain ⟨ok, oo, oy, oe, oi, ⟨wk, wn, wt, wo, wa⟩, op⟩ := p
 dsimp only at *
 cases oi with
 | true =>
  rw [if_pos rfl]
  go_enter Tryz.func120, Tryz.ntmps120
  go_wp2
  go_returns
  exact ⟨rfl, ((Below.refl _ _).alloc (Nat.le_refl _) _).alloc (by simp) _⟩
 | false =>
  rw [if_neg (by simp)]
  go_enter Tryz.func120, Tryz.ntmps120
  go_wp2
  go_returns
  exact ⟨rfl, ((Below.refl _ _).alloc (Nat.le_refl _) _).alloc (by simp) _⟩
def predFitsM (o p : OpM) (x : Pr) : Bool := if (o.kind == 4 && !isCountM p) = true then false else hasValueM p && samePr p.obj o.obj && (p.key.toList == o.key.toList) && samePr (placeM p x) o.elem
theorem cell_lt {W : World} {a : Addr} {v : Value} (h : W.cell? a = some v) : a.block < W.heap.size := by
 unfold World.cell? at h
 cases hb : W.heap[a.block]? with
 | none => rw [hb] at h; simp at h
 | some o => exact lt_of_heap hb
theorem keepS {w W W' : World} {o p : OpM} {qa : Option Addr} {qn qc : Nat} {x : Pr} (h : W.cell? ⟨w.heap.size, 1, none⟩ = some (.int .i64 o.obj.1) ∧ W.cell? ⟨w.heap.size, 2, none⟩ = some (.int .i64 o.obj.2) ∧ W.cell? ⟨w.heap.size, 3, none⟩ = some (.string o.key) ∧ W.cell? ⟨w.heap.size, 4, none⟩ = some (.int .i64 o.elem.1) ∧ W.cell? ⟨w.heap.size, 5, none⟩ = some (.int .i64 o.elem.2) ∧ W.cell? ⟨w.heap.size + 1, 0, none⟩ = some (.int .i64 p.kind) ∧ W.cell? ⟨w.heap.size + 1, 1, none⟩ = some (.int .i64 p.obj.1) ∧ W.cell? ⟨w.heap.size + 1, 2, none⟩ = some (.int .i64 p.obj.2) ∧ W.cell? ⟨w.heap.size + 1, 3, none⟩ = some (.string p.key) ∧ W.cell? ⟨w.heap.size + 1, 4, none⟩ = some (.int .i64 p.elem.1) ∧ W.cell? ⟨w.heap.size + 1, 5, none⟩ = some (.int .i64 p.elem.2) ∧ W.cell? ⟨w.heap.size + 1, 6, none⟩ = some (.bool p.ins) ∧ W.cell? ⟨w.heap.size + 1, 7, none⟩ = some (.int .i64 p.val.k) ∧ W.cell? ⟨w.heap.size + 1, 8, none⟩ = some (.int .i64 p.val.n) ∧ W.cell? ⟨w.heap.size + 1, 9, none⟩ = some (.string p.val.t) ∧ W.cell? ⟨w.heap.size + 1, 10, none⟩ = some (.int .i64 p.val.o) ∧ W.cell? ⟨w.heap.size + 1, 11, none⟩ = some (.int .i64 p.val.a) ∧ W.cell? ⟨w.heap.size + 1, 12, none⟩ = some (.slice qa qn qc) ∧ W.cell? ⟨w.heap.size + 1, 13, none⟩ = some (.int .i64 x.1) ∧ W.cell? ⟨w.heap.size + 1, 14, none⟩ = some (.int .i64 x.2)) (hb : Below W.heap.size W W') : W'.cell? ⟨w.heap.size, 1, none⟩ = some (.int .i64 o.obj.1) ∧ W'.cell? ⟨w.heap.size, 2, none⟩ = some (.int .i64 o.obj.2) ∧ W'.cell? ⟨w.heap.size, 3, none⟩ = some (.string o.key) ∧ W'.cell? ⟨w.heap.size, 4, none⟩ = some (.int .i64 o.elem.1) ∧ W'.cell? ⟨w.heap.size, 5, none⟩ = some (.int .i64 o.elem.2) ∧ W'.cell? ⟨w.heap.size + 1, 0, none⟩ = some (.int .i64 p.kind) ∧ W'.cell? ⟨w.heap.size + 1, 1, none⟩ = some (.int .i64 p.obj.1) ∧ W'.cell? ⟨w.heap.size + 1, 2, none⟩ = some (.int .i64 p.obj.2) ∧ W'.cell? ⟨w.heap.size + 1, 3, none⟩ = some (.string p.key) ∧ W'.cell? ⟨w.heap.size + 1, 4, none⟩ = some (.int .i64 p.elem.1) ∧ W'.cell? ⟨w.heap.size + 1, 5, none⟩ = some (.int .i64 p.elem.2) ∧ W'.cell? ⟨w.heap.size + 1, 6, none⟩ = some (.bool p.ins) ∧ W'.cell? ⟨w.heap.size + 1, 7, none⟩ = some (.int .i64 p.val.k) ∧ W'.cell? ⟨w.heap.size + 1, 8, none⟩ = some (.int .i64 p.val.n) ∧ W'.cell? ⟨w.heap.size + 1, 9, none⟩ = some (.string p.val.t) ∧ W'.cell? ⟨w.heap.size + 1, 10, none⟩ = some (.int .i64 p.val.o) ∧ W'.cell? ⟨w.heap.size + 1, 11, none⟩ = some (.int .i64 p.val.a) ∧ W'.cell? ⟨w.heap.size + 1, 12, none⟩ = some (.slice qa qn qc) ∧ W'.cell? ⟨w.heap.size + 1, 13, none⟩ = some (.int .i64 x.1) ∧ W'.cell? ⟨w.heap.size + 1, 14, none⟩ = some (.int .i64 x.2) := by
 obtain ⟨h0, h1, h2, h3, h4, h5, h6, h7, h8, h9, h10, h11, h12, h13, h14, h15, h16, h17, h18, h19⟩ := h
 exact ⟨(hb.cell (cell_lt h0)).trans h0, (hb.cell (cell_lt h1)).trans h1, (hb.cell (cell_lt h2)).trans h2, (hb.cell (cell_lt h3)).trans h3, (hb.cell (cell_lt h4)).trans h4, (hb.cell (cell_lt h5)).trans h5, (hb.cell (cell_lt h6)).trans h6, (hb.cell (cell_lt h7)).trans h7, (hb.cell (cell_lt h8)).trans h8, (hb.cell (cell_lt h9)).trans h9, (hb.cell (cell_lt h10)).trans h10, (hb.cell (cell_lt h11)).trans h11, (hb.cell (cell_lt h12)).trans h12, (hb.cell (cell_lt h13)).trans h13, (hb.cell (cell_lt h14)).trans h14, (hb.cell (cell_lt h15)).trans h15, (hb.cell (cell_lt h16)).trans h16, (hb.cell (cell_lt h17)).trans h17, (hb.cell (cell_lt h18)).trans h18, (hb.cell (cell_lt h19)).trans h19⟩
set_option maxRecDepth 100000 in
set_option maxHeartbeats 8000000 in
theorem predFits_any (o p : OpM) (pa qa : Option Addr) (pn pc qn qc : Nat) (x : Pr) (w : World) :
 Calls Tryz.prog 90 #[.agg #[.int .i64 o.kind, .int .i64 o.obj.1, .int .i64 o.obj.2, .string o.key, .int .i64 o.elem.1, .int .i64 o.elem.2, .bool o.ins, .int .i64 o.val.k, .int .i64 o.val.n, .string o.val.t, .int .i64 o.val.o, .int .i64 o.val.a, .slice pa pn pc], .agg #[.int .i64 p.kind, .int .i64 p.obj.1, .int .i64 p.obj.2, .string p.key, .int .i64 p.elem.1, .int .i64 p.elem.2, .bool p.ins, .int .i64 p.val.k, .int .i64 p.val.n, .string p.val.t, .int .i64 p.val.o, .int .i64 p.val.a, .slice qa qn qc, .int .i64 x.1, .int .i64 x.2]] w fun e w' => e = .returned (.bool (predFitsM o p x)) ∧ Below w.heap.size w w' := by
 have b0 := ((Below.refl w.heap.size w).alloc (Nat.le_refl _) (.cells #[.int .i64 o.kind, .int .i64 o.obj.1, .int .i64 o.obj.2, .string o.key, .int .i64 o.elem.1, .int .i64 o.elem.2, .bool o.ins, .int .i64 o.val.k, .int .i64 o.val.n, .string o.val.t, .int .i64 o.val.o, .int .i64 o.val.a, .slice pa pn pc] 83)).alloc (by simp) (.cells #[.int .i64 p.kind, .int .i64 p.obj.1, .int .i64 p.obj.2, .string p.key, .int .i64 p.elem.1, .int .i64 p.elem.2, .bool p.ins, .int .i64 p.val.k, .int .i64 p.val.n, .string p.val.t, .int .i64 p.val.o, .int .i64 p.val.a, .slice qa qn qc, .int .i64 x.1, .int .i64 x.2] 124)
 have x0 := heap_alloc_old (heap_alloc_new w (.cells #[.int .i64 o.kind, .int .i64 o.obj.1, .int .i64 o.obj.2, .string o.key, .int .i64 o.elem.1, .int .i64 o.elem.2, .bool o.ins, .int .i64 o.val.k, .int .i64 o.val.n, .string o.val.t, .int .i64 o.val.o, .int .i64 o.val.a, .slice pa pn pc] 83)) (.cells #[.int .i64 p.kind, .int .i64 p.obj.1, .int .i64 p.obj.2, .string p.key, .int .i64 p.elem.1, .int .i64 p.elem.2, .bool p.ins, .int .i64 p.val.k, .int .i64 p.val.n, .string p.val.t, .int .i64 p.val.o, .int .i64 p.val.a, .slice qa qn qc, .int .i64 x.1, .int .i64 x.2] 124)
 have x1 := heap_alloc_new (w.alloc (.cells #[.int .i64 o.kind, .int .i64 o.obj.1, .int .i64 o.obj.2, .string o.key, .int .i64 o.elem.1, .int .i64 o.elem.2, .bool o.ins, .int .i64 o.val.k, .int .i64 o.val.n, .string o.val.t, .int .i64 o.val.o, .int .i64 o.val.a, .slice pa pn pc] 83)) (.cells #[.int .i64 p.kind, .int .i64 p.obj.1, .int .i64 p.obj.2, .string p.key, .int .i64 p.elem.1, .int .i64 p.elem.2, .bool p.ins, .int .i64 p.val.k, .int .i64 p.val.n, .string p.val.t, .int .i64 p.val.o, .int .i64 p.val.a, .slice qa qn qc, .int .i64 x.1, .int .i64 x.2] 124)
 rw [show (w.alloc (.cells #[.int .i64 o.kind, .int .i64 o.obj.1, .int .i64 o.obj.2, .string o.key, .int .i64 o.elem.1, .int .i64 o.elem.2, .bool o.ins, .int .i64 o.val.k, .int .i64 o.val.n, .string o.val.t, .int .i64 o.val.o, .int .i64 o.val.a, .slice pa pn pc] 83)).heap.size = w.heap.size + 1 from by simp] at x1
 have HA : Hid (_ ∧ _ ∧ _) := ⟨b0, x0, x1⟩
 clear b0 x0 x1
 unfold predFitsM
 have E1 := isCount_any p qa qn qc x
 have E2 := hasValue_any p qa qn qc x
 have E3 := place_any p qa qn qc x
 have Q1 := eqD p.obj o.obj
 have Q2 := eqD (placeM p x) o.elem
 obtain ⟨cb, hcb⟩ : ∃ b : Bool, isCountM p = b := ⟨_, rfl⟩
 obtain ⟨vb, hvb⟩ : ∃ b : Bool, hasValueM p = b := ⟨_, rfl⟩
 obtain ⟨sb, hsb⟩ : ∃ b : Bool, samePr p.obj o.obj = b := ⟨_, rfl⟩
 obtain ⟨pl, hpl⟩ : ∃ b : Pr, placeM p x = b := ⟨_, rfl⟩
 obtain ⟨kb, hkb⟩ : ∃ b : Bool, (p.key.toList == o.key.toList) = b := ⟨_, rfl⟩
 rw [hcb] at E1
 rw [hvb] at E2
 rw [hpl] at E3 Q2
 rw [hsb] at Q1
 obtain ⟨tb, htb⟩ : ∃ b : Bool, samePr pl o.elem = b := ⟨_, rfl⟩
 rw [htb] at Q2
 obtain ⟨rk, hrk⟩ : ∃ rk : Bool, (if (o.kind == 4 && !isCountM p) = true then false else hasValueM p && samePr p.obj o.obj && (p.key.toList == o.key.toList) && samePr (placeM p x) o.elem) = rk := ⟨_, rfl⟩
 rw [hrk]
 rw [hcb, hvb, hsb, hpl, hkb, htb] at hrk
 have HRK : Hid _ := hrk
 clear hrk hcb hvb hsb hpl htb
 go_enter Tryz.func90, Tryz.ntmps90
 by_cases h4 : o.kind = 4
 ·rw [h4] at HA HRK ⊢
  cases cb with
  | false =>
   go_wp2_with fail
   go_fit (E1 ((w.alloc (.cells #[.int .i64 4, .int .i64 o.obj.1, .int .i64 o.obj.2, .string o.key, .int .i64 o.elem.1, .int .i64 o.elem.2, .bool o.ins, .int .i64 o.val.k, .int .i64 o.val.n, .string o.val.t, .int .i64 o.val.o, .int .i64 o.val.a, .slice pa pn pc] 83)).alloc (.cells #[.int .i64 p.kind, .int .i64 p.obj.1, .int .i64 p.obj.2, .string p.key, .int .i64 p.elem.1, .int .i64 p.elem.2, .bool p.ins, .int .i64 p.val.k, .int .i64 p.val.n, .string p.val.t, .int .i64 p.val.o, .int .i64 p.val.a, .slice qa qn qc, .int .i64 x.1, .int .i64 x.2] 124)))
   rintro e w1 ⟨rfl, b1⟩
   have HB : Hid (Below w.heap.size w w1) := HA.out.1.trans (b1.mono HA.out.1.size)
   clear b1
   go_wp2
   go_ret
   exact ⟨by rw [← HRK.out]; simp, HB.out⟩
  | true =>
   go_wp2_with fail
   go_fit (E1 ((w.alloc (.cells #[.int .i64 4, .int .i64 o.obj.1, .int .i64 o.obj.2, .string o.key, .int .i64 o.elem.1, .int .i64 o.elem.2, .bool o.ins, .int .i64 o.val.k, .int .i64 o.val.n, .string o.val.t, .int .i64 o.val.o, .int .i64 o.val.a, .slice pa pn pc] 83)).alloc (.cells #[.int .i64 p.kind, .int .i64 p.obj.1, .int .i64 p.obj.2, .string p.key, .int .i64 p.elem.1, .int .i64 p.elem.2, .bool p.ins, .int .i64 p.val.k, .int .i64 p.val.n, .string p.val.t, .int .i64 p.val.o, .int .i64 p.val.a, .slice qa qn qc, .int .i64 x.1, .int .i64 x.2] 124)))
   rintro e W ⟨rfl, b1⟩
   have hrk : (vb && sb && kb && tb) = rk := by rw [← HRK.out]; simp
   clear HRK
   have HRK : Hid _ := hrk
   have b0 : Below w.heap.size w W := HA.out.1.trans (b1.mono HA.out.1.size)
   have x0 := heap_below HA.out.2.1 b1 (Nat.le_refl _)
   have x1 := heap_below HA.out.2.2 b1 (Nat.le_refl _)
   clear b1 hrk E1 HA
   go_wp2
   have s0 : W.cell? ⟨w.heap.size, 1, none⟩ = some (.int .i64 o.obj.1) := Lib.cell_of_heap x0 1
   have s1 : W.cell? ⟨w.heap.size, 2, none⟩ = some (.int .i64 o.obj.2) := Lib.cell_of_heap x0 2
   have s2 : W.cell? ⟨w.heap.size, 3, none⟩ = some (.string o.key) := Lib.cell_of_heap x0 3
   have s3 : W.cell? ⟨w.heap.size, 4, none⟩ = some (.int .i64 o.elem.1) := Lib.cell_of_heap x0 4
   have s4 : W.cell? ⟨w.heap.size, 5, none⟩ = some (.int .i64 o.elem.2) := Lib.cell_of_heap x0 5
   have s5 : W.cell? ⟨w.heap.size + 1, 0, none⟩ = some (.int .i64 p.kind) := Lib.cell_of_heap x1 0
   have s6 : W.cell? ⟨w.heap.size + 1, 1, none⟩ = some (.int .i64 p.obj.1) := Lib.cell_of_heap x1 1
   have s7 : W.cell? ⟨w.heap.size + 1, 2, none⟩ = some (.int .i64 p.obj.2) := Lib.cell_of_heap x1 2
   have s8 : W.cell? ⟨w.heap.size + 1, 3, none⟩ = some (.string p.key) := Lib.cell_of_heap x1 3
   have s9 : W.cell? ⟨w.heap.size + 1, 4, none⟩ = some (.int .i64 p.elem.1) := Lib.cell_of_heap x1 4
   have s10 : W.cell? ⟨w.heap.size + 1, 5, none⟩ = some (.int .i64 p.elem.2) := Lib.cell_of_heap x1 5
   have s11 : W.cell? ⟨w.heap.size + 1, 6, none⟩ = some (.bool p.ins) := Lib.cell_of_heap x1 6
   have s12 : W.cell? ⟨w.heap.size + 1, 7, none⟩ = some (.int .i64 p.val.k) := Lib.cell_of_heap x1 7
   have s13 : W.cell? ⟨w.heap.size + 1, 8, none⟩ = some (.int .i64 p.val.n) := Lib.cell_of_heap x1 8
   have s14 : W.cell? ⟨w.heap.size + 1, 9, none⟩ = some (.string p.val.t) := Lib.cell_of_heap x1 9
   have s15 : W.cell? ⟨w.heap.size + 1, 10, none⟩ = some (.int .i64 p.val.o) := Lib.cell_of_heap x1 10
   have s16 : W.cell? ⟨w.heap.size + 1, 11, none⟩ = some (.int .i64 p.val.a) := Lib.cell_of_heap x1 11
   have s17 : W.cell? ⟨w.heap.size + 1, 12, none⟩ = some (.slice qa qn qc) := Lib.cell_of_heap x1 12
   have s18 : W.cell? ⟨w.heap.size + 1, 13, none⟩ = some (.int .i64 x.1) := Lib.cell_of_heap x1 13
   have s19 : W.cell? ⟨w.heap.size + 1, 14, none⟩ = some (.int .i64 x.2) := Lib.cell_of_heap x1 14
   have hcase : vb = false ∨ (vb = true ∧ sb = false) ∨ (vb = true ∧ sb = true ∧ kb = false) ∨ (vb = true ∧ sb = true ∧ kb = true) := by cases vb <;> cases sb <;> cases kb <;> simp
   have HX : Hid (_ ∧ _) := ⟨b0, x0⟩
   clear b0 x0 x1
   rcases hcase with rfl | ⟨rfl, rfl⟩ | ⟨rfl, rfl, rfl⟩ | ⟨rfl, rfl, rfl⟩
   ·refine wp_region_noPanic ?_
    refine wp_region_held_drew (S := fun W => W.cell? ⟨w.heap.size, 1, none⟩ = some (.int .i64 o.obj.1) ∧ W.cell? ⟨w.heap.size, 2, none⟩ = some (.int .i64 o.obj.2) ∧ W.cell? ⟨w.heap.size, 3, none⟩ = some (.string o.key) ∧ W.cell? ⟨w.heap.size, 4, none⟩ = some (.int .i64 o.elem.1) ∧ W.cell? ⟨w.heap.size, 5, none⟩ = some (.int .i64 o.elem.2) ∧ W.cell? ⟨w.heap.size + 1, 0, none⟩ = some (.int .i64 p.kind) ∧ W.cell? ⟨w.heap.size + 1, 1, none⟩ = some (.int .i64 p.obj.1) ∧ W.cell? ⟨w.heap.size + 1, 2, none⟩ = some (.int .i64 p.obj.2) ∧ W.cell? ⟨w.heap.size + 1, 3, none⟩ = some (.string p.key) ∧ W.cell? ⟨w.heap.size + 1, 4, none⟩ = some (.int .i64 p.elem.1) ∧ W.cell? ⟨w.heap.size + 1, 5, none⟩ = some (.int .i64 p.elem.2) ∧ W.cell? ⟨w.heap.size + 1, 6, none⟩ = some (.bool p.ins) ∧ W.cell? ⟨w.heap.size + 1, 7, none⟩ = some (.int .i64 p.val.k) ∧ W.cell? ⟨w.heap.size + 1, 8, none⟩ = some (.int .i64 p.val.n) ∧ W.cell? ⟨w.heap.size + 1, 9, none⟩ = some (.string p.val.t) ∧ W.cell? ⟨w.heap.size + 1, 10, none⟩ = some (.int .i64 p.val.o) ∧ W.cell? ⟨w.heap.size + 1, 11, none⟩ = some (.int .i64 p.val.a) ∧ W.cell? ⟨w.heap.size + 1, 12, none⟩ = some (.slice qa qn qc) ∧ W.cell? ⟨w.heap.size + 1, 13, none⟩ = some (.int .i64 x.1) ∧ W.cell? ⟨w.heap.size + 1, 14, none⟩ = some (.int .i64 x.2)) (by kernel_rfl) ⟨s0, s1, s2, s3, s4, s5, s6, s7, s8, s9, s10, s11, s12, s13, s14, s15, s16, s17, s18, s19⟩ (fun hHeld => ?_)
    clear s0 s1 s2 s3 s4 s5 s6 s7 s8 s9 s10 s11 s12 s13 s14 s15 s16 s17 s18 s19
    refine tk 0 rfl ?_
    refine wpAnyH_ready (rs := [1]) (by kernel_rfl) (by simp) (AllReadyH.cons (o := { dst := some 14, op := Op.call { callee := Callee.value (Operand.func 119), args := #[Operand.tmp 13], argTypes := #[124] }, type := 4, pos := "fits.go:98", after := #[aD 0], guard := none }) rfl (fun K hK => ?_) AllReadyH.nil)
    go_simp
    go_at_call 119
    refine (E2 _).mono ?_
    rintro e w1 ⟨rfl, hb1⟩
    go_wp2_with fail
    refine hK.out _ _ (keepS (by assumption) hb1) (fun hHeld1 => ?_)
    clear hK K
    try simp only [Act.put, nm]
    refine tk 2 rfl ?_
    refine sk 3 rfl ?_
    refine sk 4 rfl ?_
    refine sk 5 rfl ?_
    refine sk 6 rfl ?_
    refine sk 7 rfl ?_
    refine sk 8 rfl ?_
    refine tk 9 rfl ?_
    refine tk 10 rfl ?_
    refine sk 11 rfl ?_
    refine sk 12 rfl ?_
    refine sk 13 rfl ?_
    refine sk 14 rfl ?_
    refine sk 15 rfl ?_
    refine sk 16 rfl ?_
    refine tk 17 rfl ?_
    refine tk 18 rfl ?_
    refine sk 19 rfl ?_
    refine sk 20 rfl ?_
    refine sk 21 rfl ?_
    refine sk 22 rfl ?_
    refine sk 23 rfl ?_
    refine tk 24 rfl ?_
    refine tk 25 rfl ?_
    refine wpAnyH_done (by kernel_rfl) ?_ _
    refine NoPanic.normal ?_
    have HZ : Hid (Below w.heap.size w w1) := (drew_of HX.out.1).trans (hb1.mono HX.out.1.size)
    clear hb1 hHeld1
    clear E2 E3 Q1 Q2
    go_wp2
    go_ret
    exact ⟨by rw [← HRK.out]; simp, HZ.out⟩
   ·refine wp_region_noPanic ?_
    refine wp_region_held_drew (S := fun W => W.cell? ⟨w.heap.size, 1, none⟩ = some (.int .i64 o.obj.1) ∧ W.cell? ⟨w.heap.size, 2, none⟩ = some (.int .i64 o.obj.2) ∧ W.cell? ⟨w.heap.size, 3, none⟩ = some (.string o.key) ∧ W.cell? ⟨w.heap.size, 4, none⟩ = some (.int .i64 o.elem.1) ∧ W.cell? ⟨w.heap.size, 5, none⟩ = some (.int .i64 o.elem.2) ∧ W.cell? ⟨w.heap.size + 1, 0, none⟩ = some (.int .i64 p.kind) ∧ W.cell? ⟨w.heap.size + 1, 1, none⟩ = some (.int .i64 p.obj.1) ∧ W.cell? ⟨w.heap.size + 1, 2, none⟩ = some (.int .i64 p.obj.2) ∧ W.cell? ⟨w.heap.size + 1, 3, none⟩ = some (.string p.key) ∧ W.cell? ⟨w.heap.size + 1, 4, none⟩ = some (.int .i64 p.elem.1) ∧ W.cell? ⟨w.heap.size + 1, 5, none⟩ = some (.int .i64 p.elem.2) ∧ W.cell? ⟨w.heap.size + 1, 6, none⟩ = some (.bool p.ins) ∧ W.cell? ⟨w.heap.size + 1, 7, none⟩ = some (.int .i64 p.val.k) ∧ W.cell? ⟨w.heap.size + 1, 8, none⟩ = some (.int .i64 p.val.n) ∧ W.cell? ⟨w.heap.size + 1, 9, none⟩ = some (.string p.val.t) ∧ W.cell? ⟨w.heap.size + 1, 10, none⟩ = some (.int .i64 p.val.o) ∧ W.cell? ⟨w.heap.size + 1, 11, none⟩ = some (.int .i64 p.val.a) ∧ W.cell? ⟨w.heap.size + 1, 12, none⟩ = some (.slice qa qn qc) ∧ W.cell? ⟨w.heap.size + 1, 13, none⟩ = some (.int .i64 x.1) ∧ W.cell? ⟨w.heap.size + 1, 14, none⟩ = some (.int .i64 x.2)) (by kernel_rfl) ⟨s0, s1, s2, s3, s4, s5, s6, s7, s8, s9, s10, s11, s12, s13, s14, s15, s16, s17, s18, s19⟩ (fun hHeld => ?_)
    clear s0 s1 s2 s3 s4 s5 s6 s7 s8 s9 s10 s11 s12 s13 s14 s15 s16 s17 s18 s19
    refine tk 0 rfl ?_
    refine wpAnyH_ready (rs := [1]) (by kernel_rfl) (by simp) (AllReadyH.cons (o := { dst := some 14, op := Op.call { callee := Callee.value (Operand.func 119), args := #[Operand.tmp 13], argTypes := #[124] }, type := 4, pos := "fits.go:98", after := #[aD 0], guard := none }) rfl (fun K hK => ?_) AllReadyH.nil)
    go_simp
    go_at_call 119
    refine (E2 _).mono ?_
    rintro e w1 ⟨rfl, hb1⟩
    go_wp2_with fail
    refine hK.out _ _ (keepS (by assumption) hb1) (fun hHeld1 => ?_)
    clear hK K
    try simp only [Act.put, nm]
    refine tk 2 rfl ?_
    refine tk 3 rfl ?_
    refine tk 4 rfl ?_
    refine tk 5 rfl ?_
    refine tk 6 rfl ?_
    refine tk 7 rfl ?_
    refine tk 8 rfl ?_
    refine tk 9 rfl ?_
    refine tk 10 rfl ?_
    refine sk 11 rfl ?_
    refine sk 12 rfl ?_
    refine sk 13 rfl ?_
    refine sk 14 rfl ?_
    refine sk 15 rfl ?_
    refine sk 16 rfl ?_
    refine tk 17 rfl ?_
    refine tk 18 rfl ?_
    refine sk 19 rfl ?_
    refine sk 20 rfl ?_
    refine sk 21 rfl ?_
    refine sk 22 rfl ?_
    refine sk 23 rfl ?_
    refine tk 24 rfl ?_
    refine tk 25 rfl ?_
    refine wpAnyH_done (by kernel_rfl) ?_ _
    refine NoPanic.normal ?_
    have HZ : Hid (Below w.heap.size w w1) := (drew_of HX.out.1).trans (hb1.mono HX.out.1.size)
    clear hb1 hHeld1
    clear E2 E3 Q1 Q2
    go_wp2
    go_ret
    exact ⟨by rw [← HRK.out]; simp, HZ.out⟩
   ·refine wp_region_noPanic ?_
    refine wp_region_held_drew (S := fun W => W.cell? ⟨w.heap.size, 1, none⟩ = some (.int .i64 o.obj.1) ∧ W.cell? ⟨w.heap.size, 2, none⟩ = some (.int .i64 o.obj.2) ∧ W.cell? ⟨w.heap.size, 3, none⟩ = some (.string o.key) ∧ W.cell? ⟨w.heap.size, 4, none⟩ = some (.int .i64 o.elem.1) ∧ W.cell? ⟨w.heap.size, 5, none⟩ = some (.int .i64 o.elem.2) ∧ W.cell? ⟨w.heap.size + 1, 0, none⟩ = some (.int .i64 p.kind) ∧ W.cell? ⟨w.heap.size + 1, 1, none⟩ = some (.int .i64 p.obj.1) ∧ W.cell? ⟨w.heap.size + 1, 2, none⟩ = some (.int .i64 p.obj.2) ∧ W.cell? ⟨w.heap.size + 1, 3, none⟩ = some (.string p.key) ∧ W.cell? ⟨w.heap.size + 1, 4, none⟩ = some (.int .i64 p.elem.1) ∧ W.cell? ⟨w.heap.size + 1, 5, none⟩ = some (.int .i64 p.elem.2) ∧ W.cell? ⟨w.heap.size + 1, 6, none⟩ = some (.bool p.ins) ∧ W.cell? ⟨w.heap.size + 1, 7, none⟩ = some (.int .i64 p.val.k) ∧ W.cell? ⟨w.heap.size + 1, 8, none⟩ = some (.int .i64 p.val.n) ∧ W.cell? ⟨w.heap.size + 1, 9, none⟩ = some (.string p.val.t) ∧ W.cell? ⟨w.heap.size + 1, 10, none⟩ = some (.int .i64 p.val.o) ∧ W.cell? ⟨w.heap.size + 1, 11, none⟩ = some (.int .i64 p.val.a) ∧ W.cell? ⟨w.heap.size + 1, 12, none⟩ = some (.slice qa qn qc) ∧ W.cell? ⟨w.heap.size + 1, 13, none⟩ = some (.int .i64 x.1) ∧ W.cell? ⟨w.heap.size + 1, 14, none⟩ = some (.int .i64 x.2)) (by kernel_rfl) ⟨s0, s1, s2, s3, s4, s5, s6, s7, s8, s9, s10, s11, s12, s13, s14, s15, s16, s17, s18, s19⟩ (fun hHeld => ?_)
    clear s0 s1 s2 s3 s4 s5 s6 s7 s8 s9 s10 s11 s12 s13 s14 s15 s16 s17 s18 s19
    refine tk 0 rfl ?_
    refine wpAnyH_ready (rs := [1]) (by kernel_rfl) (by simp) (AllReadyH.cons (o := { dst := some 14, op := Op.call { callee := Callee.value (Operand.func 119), args := #[Operand.tmp 13], argTypes := #[124] }, type := 4, pos := "fits.go:98", after := #[aD 0], guard := none }) rfl (fun K hK => ?_) AllReadyH.nil)
    go_simp
    go_at_call 119
    refine (E2 _).mono ?_
    rintro e w1 ⟨rfl, hb1⟩
    go_wp2_with fail
    refine hK.out _ _ (keepS (by assumption) hb1) (fun hHeld1 => ?_)
    clear hK K
    try simp only [Act.put, nm]
    refine tk 2 rfl ?_
    refine tk 3 rfl ?_
    refine tk 4 rfl ?_
    refine tk 5 rfl ?_
    refine tk 6 rfl ?_
    refine tk 7 rfl ?_
    refine tk 8 rfl ?_
    refine tk 9 rfl ?_
    refine tk 10 rfl ?_
    refine tk 11 rfl ?_
    refine tk 12 rfl ?_
    refine tk 13 rfl ?_
    refine tk 14 rfl ?_
    refine tk 15 rfl ?_
    refine tk 16 rfl ?_
    refine tk 17 rfl ?_
    refine tk 18 rfl ?_
    refine sk 19 rfl ?_
    refine sk 20 rfl ?_
    refine sk 21 rfl ?_
    refine sk 22 rfl ?_
    refine sk 23 rfl ?_
    refine tk 24 rfl ?_
    refine tk 25 rfl ?_
    refine wpAnyH_done (by kernel_rfl) ?_ _
    refine NoPanic.normal ?_
    have HZ : Hid (Below w.heap.size w w1) := (drew_of HX.out.1).trans (hb1.mono HX.out.1.size)
    clear hb1 hHeld1
    clear E2 E3 Q1 Q2
    go_wp2
    go_ret
    exact ⟨by rw [← HRK.out]; simp, HZ.out⟩
   ·refine wp_region_noPanic ?_
    refine wp_region_held_drew (S := fun W => W.cell? ⟨w.heap.size, 1, none⟩ = some (.int .i64 o.obj.1) ∧ W.cell? ⟨w.heap.size, 2, none⟩ = some (.int .i64 o.obj.2) ∧ W.cell? ⟨w.heap.size, 3, none⟩ = some (.string o.key) ∧ W.cell? ⟨w.heap.size, 4, none⟩ = some (.int .i64 o.elem.1) ∧ W.cell? ⟨w.heap.size, 5, none⟩ = some (.int .i64 o.elem.2) ∧ W.cell? ⟨w.heap.size + 1, 0, none⟩ = some (.int .i64 p.kind) ∧ W.cell? ⟨w.heap.size + 1, 1, none⟩ = some (.int .i64 p.obj.1) ∧ W.cell? ⟨w.heap.size + 1, 2, none⟩ = some (.int .i64 p.obj.2) ∧ W.cell? ⟨w.heap.size + 1, 3, none⟩ = some (.string p.key) ∧ W.cell? ⟨w.heap.size + 1, 4, none⟩ = some (.int .i64 p.elem.1) ∧ W.cell? ⟨w.heap.size + 1, 5, none⟩ = some (.int .i64 p.elem.2) ∧ W.cell? ⟨w.heap.size + 1, 6, none⟩ = some (.bool p.ins) ∧ W.cell? ⟨w.heap.size + 1, 7, none⟩ = some (.int .i64 p.val.k) ∧ W.cell? ⟨w.heap.size + 1, 8, none⟩ = some (.int .i64 p.val.n) ∧ W.cell? ⟨w.heap.size + 1, 9, none⟩ = some (.string p.val.t) ∧ W.cell? ⟨w.heap.size + 1, 10, none⟩ = some (.int .i64 p.val.o) ∧ W.cell? ⟨w.heap.size + 1, 11, none⟩ = some (.int .i64 p.val.a) ∧ W.cell? ⟨w.heap.size + 1, 12, none⟩ = some (.slice qa qn qc) ∧ W.cell? ⟨w.heap.size + 1, 13, none⟩ = some (.int .i64 x.1) ∧ W.cell? ⟨w.heap.size + 1, 14, none⟩ = some (.int .i64 x.2)) (by kernel_rfl) ⟨s0, s1, s2, s3, s4, s5, s6, s7, s8, s9, s10, s11, s12, s13, s14, s15, s16, s17, s18, s19⟩ (fun hHeld => ?_)
    clear s0 s1 s2 s3 s4 s5 s6 s7 s8 s9 s10 s11 s12 s13 s14 s15 s16 s17 s18 s19
    refine tk 0 rfl ?_
    refine wpAnyH_ready (rs := [1]) (by kernel_rfl) (by simp) (AllReadyH.cons (o := { dst := some 14, op := Op.call { callee := Callee.value (Operand.func 119), args := #[Operand.tmp 13], argTypes := #[124] }, type := 4, pos := "fits.go:98", after := #[aD 0], guard := none }) rfl (fun K hK => ?_) AllReadyH.nil)
    go_simp
    go_at_call 119
    refine (E2 _).mono ?_
    rintro e w1 ⟨rfl, hb1⟩
    go_wp2_with fail
    refine hK.out _ _ (keepS (by assumption) hb1) (fun hHeld1 => ?_)
    clear hK K
    try simp only [Act.put, nm]
    refine tk 2 rfl ?_
    refine tk 3 rfl ?_
    refine tk 4 rfl ?_
    refine tk 5 rfl ?_
    refine tk 6 rfl ?_
    refine tk 7 rfl ?_
    refine tk 8 rfl ?_
    refine tk 9 rfl ?_
    refine tk 10 rfl ?_
    refine tk 11 rfl ?_
    refine tk 12 rfl ?_
    refine tk 13 rfl ?_
    refine tk 14 rfl ?_
    refine tk 15 rfl ?_
    refine tk 16 rfl ?_
    refine tk 17 rfl ?_
    refine tk 18 rfl ?_
    refine tk 19 rfl ?_
    refine tk 21 rfl ?_
    refine tk 22 rfl ?_
    refine wpAnyH_ready (rs := [20]) (by kernel_rfl) (by simp) (AllReadyH.cons (o := { dst := some 33, op := Op.call { callee := Callee.value (Operand.func 120), args := #[Operand.tmp 32], argTypes := #[124] }, type := 78, pos := "fits.go:98", after := #[aD 19, aC 18, aG 18], guard := some (18, true) }) rfl (fun K hK => ?_) AllReadyH.nil)
    go_simp
    go_at_call 120
    refine (E3 _).mono ?_
    rintro e w20 ⟨rfl, hb20⟩
    go_wp2_with fail
    refine hK.out _ _ (keepS (by assumption) hb20) (fun hHeld20 => ?_)
    clear hK K
    try simp only [Act.put, nm]
    refine tk 23 rfl ?_
    refine tk 24 rfl ?_
    refine tk 25 rfl ?_
    refine wpAnyH_done (by kernel_rfl) ?_ _
    refine NoPanic.normal ?_
    have HZ : Hid (Below w.heap.size w w20) := ((drew_of HX.out.1).trans (hb1.mono HX.out.1.size)).trans (hb20.mono (Nat.le_trans HX.out.1.size hb1.size))
    clear hb1 hb20 hHeld20
    clear E2 E3 Q1 Q2
    go_wp2
    go_ret
    exact ⟨by rw [← HRK.out]; simp, HZ.out⟩
 ·have h4b : (o.kind == 4) = false := by simp [h4]
  rw [h4b] at HRK
  simp only [Bool.false_and, Bool.false_eq_true, if_false] at HRK
  go_wp2
  obtain ⟨b0, x0, x1⟩ := HA.out
  clear HA E1
  generalize (w.alloc (.cells #[.int .i64 o.kind, .int .i64 o.obj.1, .int .i64 o.obj.2, .string o.key, .int .i64 o.elem.1, .int .i64 o.elem.2, .bool o.ins, .int .i64 o.val.k, .int .i64 o.val.n, .string o.val.t, .int .i64 o.val.o, .int .i64 o.val.a, .slice pa pn pc] 83)).alloc (.cells #[.int .i64 p.kind, .int .i64 p.obj.1, .int .i64 p.obj.2, .string p.key, .int .i64 p.elem.1, .int .i64 p.elem.2, .bool p.ins, .int .i64 p.val.k, .int .i64 p.val.n, .string p.val.t, .int .i64 p.val.o, .int .i64 p.val.a, .slice qa qn qc, .int .i64 x.1, .int .i64 x.2] 124) = W at *
  have s0 : W.cell? ⟨w.heap.size, 1, none⟩ = some (.int .i64 o.obj.1) := Lib.cell_of_heap x0 1
  have s1 : W.cell? ⟨w.heap.size, 2, none⟩ = some (.int .i64 o.obj.2) := Lib.cell_of_heap x0 2
  have s2 : W.cell? ⟨w.heap.size, 3, none⟩ = some (.string o.key) := Lib.cell_of_heap x0 3
  have s3 : W.cell? ⟨w.heap.size, 4, none⟩ = some (.int .i64 o.elem.1) := Lib.cell_of_heap x0 4
  have s4 : W.cell? ⟨w.heap.size, 5, none⟩ = some (.int .i64 o.elem.2) := Lib.cell_of_heap x0 5
  have s5 : W.cell? ⟨w.heap.size + 1, 0, none⟩ = some (.int .i64 p.kind) := Lib.cell_of_heap x1 0
  have s6 : W.cell? ⟨w.heap.size + 1, 1, none⟩ = some (.int .i64 p.obj.1) := Lib.cell_of_heap x1 1
  have s7 : W.cell? ⟨w.heap.size + 1, 2, none⟩ = some (.int .i64 p.obj.2) := Lib.cell_of_heap x1 2
  have s8 : W.cell? ⟨w.heap.size + 1, 3, none⟩ = some (.string p.key) := Lib.cell_of_heap x1 3
  have s9 : W.cell? ⟨w.heap.size + 1, 4, none⟩ = some (.int .i64 p.elem.1) := Lib.cell_of_heap x1 4
  have s10 : W.cell? ⟨w.heap.size + 1, 5, none⟩ = some (.int .i64 p.elem.2) := Lib.cell_of_heap x1 5
  have s11 : W.cell? ⟨w.heap.size + 1, 6, none⟩ = some (.bool p.ins) := Lib.cell_of_heap x1 6
  have s12 : W.cell? ⟨w.heap.size + 1, 7, none⟩ = some (.int .i64 p.val.k) := Lib.cell_of_heap x1 7
  have s13 : W.cell? ⟨w.heap.size + 1, 8, none⟩ = some (.int .i64 p.val.n) := Lib.cell_of_heap x1 8
  have s14 : W.cell? ⟨w.heap.size + 1, 9, none⟩ = some (.string p.val.t) := Lib.cell_of_heap x1 9
  have s15 : W.cell? ⟨w.heap.size + 1, 10, none⟩ = some (.int .i64 p.val.o) := Lib.cell_of_heap x1 10
  have s16 : W.cell? ⟨w.heap.size + 1, 11, none⟩ = some (.int .i64 p.val.a) := Lib.cell_of_heap x1 11
  have s17 : W.cell? ⟨w.heap.size + 1, 12, none⟩ = some (.slice qa qn qc) := Lib.cell_of_heap x1 12
  have s18 : W.cell? ⟨w.heap.size + 1, 13, none⟩ = some (.int .i64 x.1) := Lib.cell_of_heap x1 13
  have s19 : W.cell? ⟨w.heap.size + 1, 14, none⟩ = some (.int .i64 x.2) := Lib.cell_of_heap x1 14
  have hcase : vb = false ∨ (vb = true ∧ sb = false) ∨ (vb = true ∧ sb = true ∧ kb = false) ∨ (vb = true ∧ sb = true ∧ kb = true) := by cases vb <;> cases sb <;> cases kb <;> simp
  have HX : Hid (_ ∧ _) := ⟨b0, x0⟩
  clear b0 x0 x1
  rcases hcase with rfl | ⟨rfl, rfl⟩ | ⟨rfl, rfl, rfl⟩ | ⟨rfl, rfl, rfl⟩
  ·refine wp_region_noPanic ?_
   refine wp_region_held_drew (S := fun W => W.cell? ⟨w.heap.size, 1, none⟩ = some (.int .i64 o.obj.1) ∧ W.cell? ⟨w.heap.size, 2, none⟩ = some (.int .i64 o.obj.2) ∧ W.cell? ⟨w.heap.size, 3, none⟩ = some (.string o.key) ∧ W.cell? ⟨w.heap.size, 4, none⟩ = some (.int .i64 o.elem.1) ∧ W.cell? ⟨w.heap.size, 5, none⟩ = some (.int .i64 o.elem.2) ∧ W.cell? ⟨w.heap.size + 1, 0, none⟩ = some (.int .i64 p.kind) ∧ W.cell? ⟨w.heap.size + 1, 1, none⟩ = some (.int .i64 p.obj.1) ∧ W.cell? ⟨w.heap.size + 1, 2, none⟩ = some (.int .i64 p.obj.2) ∧ W.cell? ⟨w.heap.size + 1, 3, none⟩ = some (.string p.key) ∧ W.cell? ⟨w.heap.size + 1, 4, none⟩ = some (.int .i64 p.elem.1) ∧ W.cell? ⟨w.heap.size + 1, 5, none⟩ = some (.int .i64 p.elem.2) ∧ W.cell? ⟨w.heap.size + 1, 6, none⟩ = some (.bool p.ins) ∧ W.cell? ⟨w.heap.size + 1, 7, none⟩ = some (.int .i64 p.val.k) ∧ W.cell? ⟨w.heap.size + 1, 8, none⟩ = some (.int .i64 p.val.n) ∧ W.cell? ⟨w.heap.size + 1, 9, none⟩ = some (.string p.val.t) ∧ W.cell? ⟨w.heap.size + 1, 10, none⟩ = some (.int .i64 p.val.o) ∧ W.cell? ⟨w.heap.size + 1, 11, none⟩ = some (.int .i64 p.val.a) ∧ W.cell? ⟨w.heap.size + 1, 12, none⟩ = some (.slice qa qn qc) ∧ W.cell? ⟨w.heap.size + 1, 13, none⟩ = some (.int .i64 x.1) ∧ W.cell? ⟨w.heap.size + 1, 14, none⟩ = some (.int .i64 x.2)) (by kernel_rfl) ⟨s0, s1, s2, s3, s4, s5, s6, s7, s8, s9, s10, s11, s12, s13, s14, s15, s16, s17, s18, s19⟩ (fun hHeld => ?_)
   clear s0 s1 s2 s3 s4 s5 s6 s7 s8 s9 s10 s11 s12 s13 s14 s15 s16 s17 s18 s19
   refine tk 0 rfl ?_
   refine wpAnyH_ready (rs := [1]) (by kernel_rfl) (by simp) (AllReadyH.cons (o := { dst := some 14, op := Op.call { callee := Callee.value (Operand.func 119), args := #[Operand.tmp 13], argTypes := #[124] }, type := 4, pos := "fits.go:98", after := #[aD 0], guard := none }) rfl (fun K hK => ?_) AllReadyH.nil)
   go_simp
   go_at_call 119
   refine (E2 _).mono ?_
   rintro e w1 ⟨rfl, hb1⟩
   go_wp2_with fail
   refine hK.out _ _ (keepS (by assumption) hb1) (fun hHeld1 => ?_)
   clear hK K
   try simp only [Act.put, nm]
   refine tk 2 rfl ?_
   refine sk 3 rfl ?_
   refine sk 4 rfl ?_
   refine sk 5 rfl ?_
   refine sk 6 rfl ?_
   refine sk 7 rfl ?_
   refine sk 8 rfl ?_
   refine tk 9 rfl ?_
   refine tk 10 rfl ?_
   refine sk 11 rfl ?_
   refine sk 12 rfl ?_
   refine sk 13 rfl ?_
   refine sk 14 rfl ?_
   refine sk 15 rfl ?_
   refine sk 16 rfl ?_
   refine tk 17 rfl ?_
   refine tk 18 rfl ?_
   refine sk 19 rfl ?_
   refine sk 20 rfl ?_
   refine sk 21 rfl ?_
   refine sk 22 rfl ?_
   refine sk 23 rfl ?_
   refine tk 24 rfl ?_
   refine tk 25 rfl ?_
   refine wpAnyH_done (by kernel_rfl) ?_ _
   refine NoPanic.normal ?_
   have HZ : Hid (Below w.heap.size w w1) := (drew_of HX.out.1).trans (hb1.mono HX.out.1.size)
   clear hb1 hHeld1
   clear E2 E3 Q1 Q2
   go_wp2
   go_ret
   exact ⟨by rw [← HRK.out]; simp, HZ.out⟩
  ·refine wp_region_noPanic ?_
   refine wp_region_held_drew (S := fun W => W.cell? ⟨w.heap.size, 1, none⟩ = some (.int .i64 o.obj.1) ∧ W.cell? ⟨w.heap.size, 2, none⟩ = some (.int .i64 o.obj.2) ∧ W.cell? ⟨w.heap.size, 3, none⟩ = some (.string o.key) ∧ W.cell? ⟨w.heap.size, 4, none⟩ = some (.int .i64 o.elem.1) ∧ W.cell? ⟨w.heap.size, 5, none⟩ = some (.int .i64 o.elem.2) ∧ W.cell? ⟨w.heap.size + 1, 0, none⟩ = some (.int .i64 p.kind) ∧ W.cell? ⟨w.heap.size + 1, 1, none⟩ = some (.int .i64 p.obj.1) ∧ W.cell? ⟨w.heap.size + 1, 2, none⟩ = some (.int .i64 p.obj.2) ∧ W.cell? ⟨w.heap.size + 1, 3, none⟩ = some (.string p.key) ∧ W.cell? ⟨w.heap.size + 1, 4, none⟩ = some (.int .i64 p.elem.1) ∧ W.cell? ⟨w.heap.size + 1, 5, none⟩ = some (.int .i64 p.elem.2) ∧ W.cell? ⟨w.heap.size + 1, 6, none⟩ = some (.bool p.ins) ∧ W.cell? ⟨w.heap.size + 1, 7, none⟩ = some (.int .i64 p.val.k) ∧ W.cell? ⟨w.heap.size + 1, 8, none⟩ = some (.int .i64 p.val.n) ∧ W.cell? ⟨w.heap.size + 1, 9, none⟩ = some (.string p.val.t) ∧ W.cell? ⟨w.heap.size + 1, 10, none⟩ = some (.int .i64 p.val.o) ∧ W.cell? ⟨w.heap.size + 1, 11, none⟩ = some (.int .i64 p.val.a) ∧ W.cell? ⟨w.heap.size + 1, 12, none⟩ = some (.slice qa qn qc) ∧ W.cell? ⟨w.heap.size + 1, 13, none⟩ = some (.int .i64 x.1) ∧ W.cell? ⟨w.heap.size + 1, 14, none⟩ = some (.int .i64 x.2)) (by kernel_rfl) ⟨s0, s1, s2, s3, s4, s5, s6, s7, s8, s9, s10, s11, s12, s13, s14, s15, s16, s17, s18, s19⟩ (fun hHeld => ?_)
   clear s0 s1 s2 s3 s4 s5 s6 s7 s8 s9 s10 s11 s12 s13 s14 s15 s16 s17 s18 s19
   refine tk 0 rfl ?_
   refine wpAnyH_ready (rs := [1]) (by kernel_rfl) (by simp) (AllReadyH.cons (o := { dst := some 14, op := Op.call { callee := Callee.value (Operand.func 119), args := #[Operand.tmp 13], argTypes := #[124] }, type := 4, pos := "fits.go:98", after := #[aD 0], guard := none }) rfl (fun K hK => ?_) AllReadyH.nil)
   go_simp
   go_at_call 119
   refine (E2 _).mono ?_
   rintro e w1 ⟨rfl, hb1⟩
   go_wp2_with fail
   refine hK.out _ _ (keepS (by assumption) hb1) (fun hHeld1 => ?_)
   clear hK K
   try simp only [Act.put, nm]
   refine tk 2 rfl ?_
   refine tk 3 rfl ?_
   refine tk 4 rfl ?_
   refine tk 5 rfl ?_
   refine tk 6 rfl ?_
   refine tk 7 rfl ?_
   refine tk 8 rfl ?_
   refine tk 9 rfl ?_
   refine tk 10 rfl ?_
   refine sk 11 rfl ?_
   refine sk 12 rfl ?_
   refine sk 13 rfl ?_
   refine sk 14 rfl ?_
   refine sk 15 rfl ?_
   refine sk 16 rfl ?_
   refine tk 17 rfl ?_
   refine tk 18 rfl ?_
   refine sk 19 rfl ?_
   refine sk 20 rfl ?_
   refine sk 21 rfl ?_
   refine sk 22 rfl ?_
   refine sk 23 rfl ?_
   refine tk 24 rfl ?_
   refine tk 25 rfl ?_
   refine wpAnyH_done (by kernel_rfl) ?_ _
   refine NoPanic.normal ?_
   have HZ : Hid (Below w.heap.size w w1) := (drew_of HX.out.1).trans (hb1.mono HX.out.1.size)
   clear hb1 hHeld1
   clear E2 E3 Q1 Q2
   go_wp2
   go_ret
   exact ⟨by rw [← HRK.out]; simp, HZ.out⟩
  ·refine wp_region_noPanic ?_
   refine wp_region_held_drew (S := fun W => W.cell? ⟨w.heap.size, 1, none⟩ = some (.int .i64 o.obj.1) ∧ W.cell? ⟨w.heap.size, 2, none⟩ = some (.int .i64 o.obj.2) ∧ W.cell? ⟨w.heap.size, 3, none⟩ = some (.string o.key) ∧ W.cell? ⟨w.heap.size, 4, none⟩ = some (.int .i64 o.elem.1) ∧ W.cell? ⟨w.heap.size, 5, none⟩ = some (.int .i64 o.elem.2) ∧ W.cell? ⟨w.heap.size + 1, 0, none⟩ = some (.int .i64 p.kind) ∧ W.cell? ⟨w.heap.size + 1, 1, none⟩ = some (.int .i64 p.obj.1) ∧ W.cell? ⟨w.heap.size + 1, 2, none⟩ = some (.int .i64 p.obj.2) ∧ W.cell? ⟨w.heap.size + 1, 3, none⟩ = some (.string p.key) ∧ W.cell? ⟨w.heap.size + 1, 4, none⟩ = some (.int .i64 p.elem.1) ∧ W.cell? ⟨w.heap.size + 1, 5, none⟩ = some (.int .i64 p.elem.2) ∧ W.cell? ⟨w.heap.size + 1, 6, none⟩ = some (.bool p.ins) ∧ W.cell? ⟨w.heap.size + 1, 7, none⟩ = some (.int .i64 p.val.k) ∧ W.cell? ⟨w.heap.size + 1, 8, none⟩ = some (.int .i64 p.val.n) ∧ W.cell? ⟨w.heap.size + 1, 9, none⟩ = some (.string p.val.t) ∧ W.cell? ⟨w.heap.size + 1, 10, none⟩ = some (.int .i64 p.val.o) ∧ W.cell? ⟨w.heap.size + 1, 11, none⟩ = some (.int .i64 p.val.a) ∧ W.cell? ⟨w.heap.size + 1, 12, none⟩ = some (.slice qa qn qc) ∧ W.cell? ⟨w.heap.size + 1, 13, none⟩ = some (.int .i64 x.1) ∧ W.cell? ⟨w.heap.size + 1, 14, none⟩ = some (.int .i64 x.2)) (by kernel_rfl) ⟨s0, s1, s2, s3, s4, s5, s6, s7, s8, s9, s10, s11, s12, s13, s14, s15, s16, s17, s18, s19⟩ (fun hHeld => ?_)
   clear s0 s1 s2 s3 s4 s5 s6 s7 s8 s9 s10 s11 s12 s13 s14 s15 s16 s17 s18 s19
   refine tk 0 rfl ?_
   refine wpAnyH_ready (rs := [1]) (by kernel_rfl) (by simp) (AllReadyH.cons (o := { dst := some 14, op := Op.call { callee := Callee.value (Operand.func 119), args := #[Operand.tmp 13], argTypes := #[124] }, type := 4, pos := "fits.go:98", after := #[aD 0], guard := none }) rfl (fun K hK => ?_) AllReadyH.nil)
   go_simp
   go_at_call 119
   refine (E2 _).mono ?_
   rintro e w1 ⟨rfl, hb1⟩
   go_wp2_with fail
   refine hK.out _ _ (keepS (by assumption) hb1) (fun hHeld1 => ?_)
   clear hK K
   try simp only [Act.put, nm]
   refine tk 2 rfl ?_
   refine tk 3 rfl ?_
   refine tk 4 rfl ?_
   refine tk 5 rfl ?_
   refine tk 6 rfl ?_
   refine tk 7 rfl ?_
   refine tk 8 rfl ?_
   refine tk 9 rfl ?_
   refine tk 10 rfl ?_
   refine tk 11 rfl ?_
   refine tk 12 rfl ?_
   refine tk 13 rfl ?_
   refine tk 14 rfl ?_
   refine tk 15 rfl ?_
   refine tk 16 rfl ?_
   refine tk 17 rfl ?_
   refine tk 18 rfl ?_
   refine sk 19 rfl ?_
   refine sk 20 rfl ?_
   refine sk 21 rfl ?_
   refine sk 22 rfl ?_
   refine sk 23 rfl ?_
   refine tk 24 rfl ?_
   refine tk 25 rfl ?_
   refine wpAnyH_done (by kernel_rfl) ?_ _
   refine NoPanic.normal ?_
   have HZ : Hid (Below w.heap.size w w1) := (drew_of HX.out.1).trans (hb1.mono HX.out.1.size)
   clear hb1 hHeld1
   clear E2 E3 Q1 Q2
   go_wp2
   go_ret
   exact ⟨by rw [← HRK.out]; simp, HZ.out⟩
  ·refine wp_region_noPanic ?_
   refine wp_region_held_drew (S := fun W => W.cell? ⟨w.heap.size, 1, none⟩ = some (.int .i64 o.obj.1) ∧ W.cell? ⟨w.heap.size, 2, none⟩ = some (.int .i64 o.obj.2) ∧ W.cell? ⟨w.heap.size, 3, none⟩ = some (.string o.key) ∧ W.cell? ⟨w.heap.size, 4, none⟩ = some (.int .i64 o.elem.1) ∧ W.cell? ⟨w.heap.size, 5, none⟩ = some (.int .i64 o.elem.2) ∧ W.cell? ⟨w.heap.size + 1, 0, none⟩ = some (.int .i64 p.kind) ∧ W.cell? ⟨w.heap.size + 1, 1, none⟩ = some (.int .i64 p.obj.1) ∧ W.cell? ⟨w.heap.size + 1, 2, none⟩ = some (.int .i64 p.obj.2) ∧ W.cell? ⟨w.heap.size + 1, 3, none⟩ = some (.string p.key) ∧ W.cell? ⟨w.heap.size + 1, 4, none⟩ = some (.int .i64 p.elem.1) ∧ W.cell? ⟨w.heap.size + 1, 5, none⟩ = some (.int .i64 p.elem.2) ∧ W.cell? ⟨w.heap.size + 1, 6, none⟩ = some (.bool p.ins) ∧ W.cell? ⟨w.heap.size + 1, 7, none⟩ = some (.int .i64 p.val.k) ∧ W.cell? ⟨w.heap.size + 1, 8, none⟩ = some (.int .i64 p.val.n) ∧ W.cell? ⟨w.heap.size + 1, 9, none⟩ = some (.string p.val.t) ∧ W.cell? ⟨w.heap.size + 1, 10, none⟩ = some (.int .i64 p.val.o) ∧ W.cell? ⟨w.heap.size + 1, 11, none⟩ = some (.int .i64 p.val.a) ∧ W.cell? ⟨w.heap.size + 1, 12, none⟩ = some (.slice qa qn qc) ∧ W.cell? ⟨w.heap.size + 1, 13, none⟩ = some (.int .i64 x.1) ∧ W.cell? ⟨w.heap.size + 1, 14, none⟩ = some (.int .i64 x.2)) (by kernel_rfl) ⟨s0, s1, s2, s3, s4, s5, s6, s7, s8, s9, s10, s11, s12, s13, s14, s15, s16, s17, s18, s19⟩ (fun hHeld => ?_)
   clear s0 s1 s2 s3 s4 s5 s6 s7 s8 s9 s10 s11 s12 s13 s14 s15 s16 s17 s18 s19
   refine tk 0 rfl ?_
   refine wpAnyH_ready (rs := [1]) (by kernel_rfl) (by simp) (AllReadyH.cons (o := { dst := some 14, op := Op.call { callee := Callee.value (Operand.func 119), args := #[Operand.tmp 13], argTypes := #[124] }, type := 4, pos := "fits.go:98", after := #[aD 0], guard := none }) rfl (fun K hK => ?_) AllReadyH.nil)
   go_simp
   go_at_call 119
   refine (E2 _).mono ?_
   rintro e w1 ⟨rfl, hb1⟩
   go_wp2_with fail
   refine hK.out _ _ (keepS (by assumption) hb1) (fun hHeld1 => ?_)
   clear hK K
   try simp only [Act.put, nm]
   refine tk 2 rfl ?_
   refine tk 3 rfl ?_
   refine tk 4 rfl ?_
   refine tk 5 rfl ?_
   refine tk 6 rfl ?_
   refine tk 7 rfl ?_
   refine tk 8 rfl ?_
   refine tk 9 rfl ?_
   refine tk 10 rfl ?_
   refine tk 11 rfl ?_
   refine tk 12 rfl ?_
   refine tk 13 rfl ?_
   refine tk 14 rfl ?_
   refine tk 15 rfl ?_
   refine tk 16 rfl ?_
   refine tk 17 rfl ?_
   refine tk 18 rfl ?_
   refine tk 19 rfl ?_
   refine tk 21 rfl ?_
   refine tk 22 rfl ?_
   refine wpAnyH_ready (rs := [20]) (by kernel_rfl) (by simp) (AllReadyH.cons (o := { dst := some 33, op := Op.call { callee := Callee.value (Operand.func 120), args := #[Operand.tmp 32], argTypes := #[124] }, type := 78, pos := "fits.go:98", after := #[aD 19, aC 18, aG 18], guard := some (18, true) }) rfl (fun K hK => ?_) AllReadyH.nil)
   go_simp
   go_at_call 120
   refine (E3 _).mono ?_
   rintro e w20 ⟨rfl, hb20⟩
   go_wp2_with fail
   refine hK.out _ _ (keepS (by assumption) hb20) (fun hHeld20 => ?_)
   clear hK K
   try simp only [Act.put, nm]
   refine tk 23 rfl ?_
   refine tk 24 rfl ?_
   refine tk 25 rfl ?_
   refine wpAnyH_done (by kernel_rfl) ?_ _
   refine NoPanic.normal ?_
   have HZ : Hid (Below w.heap.size w w20) := ((drew_of HX.out.1).trans (hb1.mono HX.out.1.size)).trans (hb20.mono (Nat.le_trans HX.out.1.size hb1.size))
   clear hb1 hb20 hHeld20
   clear E2 E3 Q1 Q2
   go_wp2
   go_ret
   exact ⟨by rw [← HRK.out]; simp, HZ.out⟩
end Go.Proofs.YtejfemdkommfhaaGreatDoor
