/-
  What is proved: the way that package tree's method walk takes to an index: where it ends, and what it costs.
  Conditions: the row lies in memory.
-/
import Derived.Test.YtebglecjajghjaaDoorTWay
import Derived.Test.YtebglecjajghjaaDoorTPre
import Derived.Test.YtebglecjajghjaaDoorTLev
import Derived.Deep.LoopGhost
namespace Go.Proofs.YtebglecjajghjaaDoor
open Go.RowKit

/-- What holds at the head of each round of the walk, whatever it looks for: a piece, and what was passed. -/
structure Wk (w : World) (t : (Deep.BT Int)) (g k : Nat) (s : (Deep.BT Int)) (m : Nat) (wd : Int) (kk : Nat) (wr : World) : Prop where
  at_ : s.At wr
  blk : ∀ z ∈ s.blocks, z ∈ t.blocks
  itm : ∀ q ∈ s.items, q ∈ t.items
  mny : m + s.many ≤ t.many
  wd0 : 0 ≤ wd
  wd1 : wd + s.wide ≤ t.wide
  res : wr.heap[w.heap.size]? = some (.cells #[.int .i64 0, .int .i64 0, .int .i64 0] 50)
  box : wr.heap[w.heap.size + 1]? = some (.cells #[.int .i64 (m : Int), .int .i64 wd, .int .i64 0] 50)
  row : RowAt g t.pt kk wr
  cost : kk + 2 * s.high ≤ k + 2 * t.high
  kp : Kp [g] w wr

theorem Wk.lt {w : World} {t : (Deep.BT Int)} {g k : Nat} {s : (Deep.BT Int)} {m : Nat} {wd : Int} {kk : Nat} {wr : World} (h : Wk w t g k s m wd kk wr) : w.heap.size + 1 < wr.heap.size := lt_of_heap h.box

set_option maxRecDepth 100000 in
set_option maxHeartbeats 8000000 in
theorem walkI_any (t : (Deep.BT Int)) (a q g k : Nat) (w : World) (hk : k + 2 * t.high ≤ 4611686018427383000) (ht : t.At w) (hg : g ∉ t.blocks) (hfit : t.fit) (ha : a < t.many) (hR : RowAt g t.pt k w) (hq : w.heap[q]? = some (.cells #[.int .i64 (a : Int)] 3)) (hqg : q ≠ g) :
    Calls Tryd.prog 22 #[.pointer (some ⟨g, 0, none⟩), .func (Fn.func 31) #[] #[.pointer (some ⟨q, 0, none⟩)]] w fun e w' => e = .returned (.tuple #[.pointer (some ⟨(t.at' a).1, 0, none⟩), .agg #[.int .i64 (a : Int), .int .i64 (t.pre a), .int .i64 0]]) ∧ (∃ k', k' ≤ k + 2 * t.high ∧ RowAt g t.pt k' w') ∧ Kp [g] w w' := by
  have c0 : w.cell? ⟨g, 0, none⟩ = some t.pt := Lib.cell_of_heap hR 0
  have hgz := lt_of_heap hR
  have hqz := lt_of_heap hq
  have W0 : Wk w t g k t 0 0 k ((w.alloc (.cells #[.int .i64 0, .int .i64 0, .int .i64 0] 50)).alloc (.cells #[.int .i64 0, .int .i64 0, .int .i64 0] 50)) := by
    have K0 : Kp [g] w ((w.alloc (.cells #[.int .i64 0, .int .i64 0, .int .i64 0] 50)).alloc (.cells #[.int .i64 0, .int .i64 0, .int .i64 0] 50)) := ((Kp.refl _ w).alloc _).alloc _
    refine ⟨ht.kp K0 (off_one hg), fun z h => h, fun q h => h, by omega, by omega, by omega, heap_alloc_old (heap_alloc_new w _) _, heap_at_new _ _ (by simp), heap_alloc_old (heap_alloc_old hR _) _, by omega, K0⟩
  have hw := hfit.wide
  have hm := hfit.1
  have HQ : Hid (w.heap[q]? = some (.cells #[.int .i64 (a : Int)] 3)) := hq
  have HF : Hid (∀ z ∈ t.items, 0 ≤ z.2 ∧ z.2 ≤ 1000000) := hfit.2
  have HT : Hid (t.At w) := ht
  clear ht hR hfit hq
  go_enter Tryd.func22, Tryd.ntmps22
  go_wp2
  go_loopg [7] t.high (fun gk n wr => ∃ s m wd kk, n = s.pt ∧ s.high ≤ gk ∧ (m ≤ a ∧ a - m < s.many ∧ Hid (t.at' a = s.at' (a - m) ∧ t.pre a = wd + s.pre (a - m))) ∧ Wk w t g k s m wd kk wr)
  case atStart => exact ⟨t, 0, 0, k, rfl, Nat.le_refl _, ⟨Nat.zero_le _, ha, ⟨rfl, by simp⟩⟩, W0⟩
  case round =>
    clear W0 c0
    obtain ⟨s, m, wd, kk, rfl, hgk, ⟨hma, hsm, hap⟩, hW⟩ := hrel
    cases s with
    | nil => simp [Deep.BT.many] at hsm
    | node b x u l r =>
      obtain ⟨hB, hL, hQ2⟩ := hW.at_
      have hbt := hW.blk b (by simp [Deep.BT.blocks])
      have hgb : g ≠ b := fun e => hg (by rw [e]; exact hbt)
      have ngl : g ∉ l.blocks := fun e => hg (hW.blk g (by simp [Deep.BT.blocks, e]))
      have ngr : g ∉ r.blocks := fun e => hg (hW.blk g (by simp [Deep.BT.blocks, e]))
      have hcost := hW.cost
      simp only [Deep.BT.high] at hcost hgk
      have HSM : Hid (a - m < l.many + 1 + r.many) := hsm
      clear hsm
      have K0 : Kp [g] wr (wr.setCell ⟨g, 1, none⟩ (.int .i64 ((kk : Int) + 1))) := (Kp.refl [g] wr).set (List.mem_singleton.2 rfl) 1 _
      have R0 : RowAt g t.pt (kk + 1) (wr.setCell ⟨g, 1, none⟩ (.int .i64 ((kk : Int) + 1))) := set_at hW.row 1 _
      have c1 : wr.cell? ⟨g, 1, none⟩ = some (.int .i64 kk) := Lib.cell_of_heap hW.row 1
      have cf := Lib.frozen_of_heap hW.row
      have s0 : (wr.setCell ⟨g, 1, none⟩ (.int .i64 ((kk : Int) + 1))).cell? ⟨b, 2, none⟩ = some l.pt := Lib.cell_of_heap (K0.heap hB (by simpa using Ne.symm hgb)) 2
      have EK := look_any l g t.pt (kk + 1) _ (by omega) (hL.kp K0 (off_one ngl)) ngl R0
      have w1 : wrap64 ((kk : Int) + 1) = (kk : Int) + 1 := by unfold wrap64; omega
      have HWk : Hid (Wk w t g k (.node b x u l r) m wd kk wr) := hW
      have hlz := hW.lt
      clear hW
      have HCO : Hid (kk + 2 * (1 + max l.high r.high) ≤ k + 2 * t.high) := hcost
      have HGK : Hid (1 + max l.high r.high ≤ gk) := hgk
      clear hcost hgk
      rw [show (Deep.BT.node b x u l r).pt = Value.pointer (some ⟨b, 0, none⟩) from rfl]
      go_wp2_with fail
      go_fit EK
      rintro e w2 ⟨rfl, rfl⟩
      have KW : Kp [g] wr (lookW l g (kk + 1) (wr.setCell ⟨g, 1, none⟩ (.int .i64 ((kk : Int) + 1)))) := (K0.set (List.mem_singleton.2 rfl) _ _).alloc _
      have RW : RowAt g t.pt (kk + 1 + l.one) (lookW l g (kk + 1) (wr.setCell ⟨g, 1, none⟩ (.int .i64 ((kk : Int) + 1)))) := heap_alloc_old (row_set (rowE_of R0) rfl) _
      generalize lookW l g (kk + 1) (wr.setCell ⟨g, 1, none⟩ (.int .i64 ((kk : Int) + 1))) = W1 at *
      have X1 := KW.heap HWk.out.box (by simp; omega)
      have hlz1 := lt_of_heap X1
      have p0 : W1.cell? ⟨w.heap.size + 1, 0, none⟩ = some (.int .i64 (m : Int)) := Lib.cell_of_heap X1 0
      have p1 : W1.cell? ⟨w.heap.size + 1, 1, none⟩ = some (.int .i64 wd) := Lib.cell_of_heap X1 1
      have hwd1 := HWk.out.wd1
      have hwd0 := HWk.out.wd0
      have hmny := HWk.out.mny
      have hpos : (0 ≤ l.wide ∧ l.wide ≤ 1000000 * (l.many : Int)) ∧ (0 ≤ r.wide ∧ r.wide ≤ 1000000 * (r.many : Int)) ∧ (0 ≤ u ∧ u ≤ 1000000) := ⟨wide_of l (fun z hz => HF.out z (HWk.out.itm z (by simp [Deep.BT.items, hz]))), wide_of r (fun z hz => HF.out z (HWk.out.itm z (by simp [Deep.BT.items, hz]))), HF.out (th x, u) (HWk.out.itm _ (by simp [Deep.BT.items]))⟩
      simp only [Deep.BT.wide] at hwd1
      simp only [Deep.BT.many] at hmny
      have y1 : wrap64 ((m : Int) + l.many) = (m : Int) + l.many := by unfold wrap64; omega
      have y2 : wrap64 (wd + l.wide) = wd + l.wide := by unfold wrap64; omega
      have HKW : Hid (Kp [g] wr W1) := KW
      have HRW : Hid (RowAt g t.pt (kk + 1 + l.one) W1) := RW
      have HPS : Hid (((0 ≤ l.wide ∧ l.wide ≤ 1000000 * (l.many : Int)) ∧ (0 ≤ r.wide ∧ r.wide ≤ 1000000 * (r.many : Int)) ∧ (0 ≤ u ∧ u ≤ 1000000)) ∧ (wd + (l.wide + u + r.wide) ≤ t.wide ∧ 0 ≤ wd ∧ m + (l.many + 1 + r.many) ≤ t.many) ∧ (0 ≤ t.wide ∧ t.wide ≤ 1000000000000) ∧ t.many ≤ 1000000) := ⟨hpos, ⟨hwd1, hwd0, hmny⟩, hw, hm⟩
      have HQ1 : Hid (W1.heap[q]? = some (.cells #[.int .i64 (a : Int)] 3)) := KW.heap (HWk.out.kp.heap HQ.out (by simpa using hqg)) (by simpa using hqg)
      have q0 : ((W1.alloc (.cells #[.int .i64 (l.many : Int), .int .i64 l.wide, .int .i64 (l.high : Int)] 50)).alloc (.cells #[.int .i64 ((m : Int) + l.many), .int .i64 (wd + l.wide), .int .i64 0] 50)).cell? ⟨q, 0, none⟩ = some (.int .i64 (a : Int)) := Lib.cell_of_heap (heap_alloc_old (heap_alloc_old HQ1.out _) _) 0
      have qz : q < ((W1.alloc (.cells #[.int .i64 (l.many : Int), .int .i64 l.wide, .int .i64 (l.high : Int)] 50)).alloc (.cells #[.int .i64 ((m : Int) + l.many), .int .i64 (wd + l.wide), .int .i64 0] 50)).heap.size := lt_of_heap (heap_alloc_old (heap_alloc_old HQ1.out _) _)
      have EI := index_any (a : Int) ((m : Int) + l.many) (wd + l.wide) 0 (.pointer (some ⟨b, 0, none⟩)) q _ q0 qz _ rfl
      clear c1 cf w1 s0 EK K0 R0 hB hL hQ2 KW RW X1 hpos hwd1 hwd0 hmny hw hm q0 qz
      go_wp2_with fail
      go_fit EI
      rintro e w3 ⟨rfl, rfl⟩
      clear EI p0 p1 y1 y2
      have KA : Kp [g] wr (((W1.alloc (.cells #[.int .i64 (l.many : Int), .int .i64 l.wide, .int .i64 (l.high : Int)] 50)).alloc (.cells #[.int .i64 ((m : Int) + l.many), .int .i64 (wd + l.wide), .int .i64 0] 50)).alloc (.cells #[.int .i64 ((m : Int) + l.many), .int .i64 (wd + l.wide), .int .i64 0] 50)) := ((HKW.out.alloc _).alloc _).alloc _
      have RA : RowAt g t.pt (kk + 1 + l.one) (((W1.alloc (.cells #[.int .i64 (l.many : Int), .int .i64 l.wide, .int .i64 (l.high : Int)] 50)).alloc (.cells #[.int .i64 ((m : Int) + l.many), .int .i64 (wd + l.wide), .int .i64 0] 50)).alloc (.cells #[.int .i64 ((m : Int) + l.many), .int .i64 (wd + l.wide), .int .i64 0] 50)) := heap_alloc_old (heap_alloc_old (heap_alloc_old HRW.out _) _) _
      have NA : (((W1.alloc (.cells #[.int .i64 (l.many : Int), .int .i64 l.wide, .int .i64 (l.high : Int)] 50)).alloc (.cells #[.int .i64 ((m : Int) + l.many), .int .i64 (wd + l.wide), .int .i64 0] 50)).alloc (.cells #[.int .i64 ((m : Int) + l.many), .int .i64 (wd + l.wide), .int .i64 0] 50)).heap[W1.heap.size + 1]? = some (.cells #[.int .i64 ((m : Int) + l.many), .int .i64 (wd + l.wide), .int .i64 0] 50) := heap_alloc_old (heap_at_new _ _ (by simp)) _
      have hz1 : wr.heap.size ≤ W1.heap.size := HKW.out.size
      generalize ((W1.alloc (.cells #[.int .i64 (l.many : Int), .int .i64 l.wide, .int .i64 (l.high : Int)] 50)).alloc (.cells #[.int .i64 ((m : Int) + l.many), .int .i64 (wd + l.wide), .int .i64 0] 50)).alloc (.cells #[.int .i64 ((m : Int) + l.many), .int .i64 (wd + l.wide), .int .i64 0] 50) = W3 at *
      obtain ⟨hB, hL, hQ2⟩ := HWk.out.at_
      have B3 := KA.heap hB (by simpa using Ne.symm hgb)
      have L3 := hL.kp KA (off_one ngl)
      have Q3 := hQ2.kp KA (off_one ngr)
      have X3 := KA.heap HWk.out.box (by simp; omega)
      have Y3 := KA.heap HWk.out.res (by simp; omega)
      have KB := HWk.out.kp.trans KA
      have hol := one_le l
      have HALL : Hid (_ ∧ _ ∧ _ ∧ _ ∧ _ ∧ _) := ⟨L3, Q3, X3, Y3, KB, RA⟩
      clear hB hL hQ2 KA L3 Q3 Y3 KB RA hz1
      have HBW : Hid (_ = _) := B3
      have HNA : Hid (_ = _) := NA
      have hbz : b < w.heap.size := HT.out.lt b hbt
      have hbw : b ≠ w.heap.size + 1 := by omega
      have hbw0 : b ≠ w.heap.size := by omega
      have hzn : w.heap.size + 1 < W1.heap.size + 1 := by omega
      by_cases hlo : a < m + l.many
      · rw [show cmpI (a : Int) ((m : Int) + l.many) = -1 from by unfold cmpI; rw [if_pos (by omega)]]
        have b2 : W3.cell? ⟨b, 2, none⟩ = some l.pt := Lib.cell_of_heap B3 2
        clear B3 NA X3
        go_wp2
        go_roundg l.high
        case measure => have := HGK.out; omega
        case rel =>
          have h2 := HPS.out
          have h3 := HCO.out
          refine ⟨l, m, wd, kk + 1 + l.one, rfl, Nat.le_refl _, ⟨hma, by omega, ?_⟩, ⟨HALL.out.1, fun z hz => HWk.out.blk z (by simp [Deep.BT.blocks, hz]), fun z hz => HWk.out.itm z (by simp [Deep.BT.items, hz]), by omega, by omega, by omega, HALL.out.2.2.2.1, HALL.out.2.2.1, HALL.out.2.2.2.2.2, by omega, HALL.out.2.2.2.2.1⟩⟩
          rw [at_lo b x u l r (a - m) (by omega), pre_lo b x u l r (a - m) (by omega)] at hap
          exact hap
      · by_cases hhi : m + l.many < a
        · rw [show cmpI (a : Int) ((m : Int) + l.many) = 1 from by unfold cmpI; rw [if_neg (by omega), if_pos (by omega)]]
          have hps := HPS.out
          have n0 : W3.cell? ⟨W1.heap.size + 1, 0, none⟩ = some (.int .i64 ((m : Int) + l.many)) := Lib.cell_of_heap NA 0
          have n1 : W3.cell? ⟨W1.heap.size + 1, 1, none⟩ = some (.int .i64 (wd + l.wide)) := Lib.cell_of_heap NA 1
          have b1 : W3.cell? ⟨b, 1, none⟩ = some (.int .i64 u) := Lib.cell_of_heap B3 1
          have z0 : W3.cell? ⟨w.heap.size + 1, 0, none⟩ = some (.int .i64 (m : Int)) := Lib.cell_of_heap X3 0
          have z1 : W3.cell? ⟨w.heap.size + 1, 1, none⟩ = some (.int .i64 wd) := Lib.cell_of_heap X3 1
          have z2 : W3.cell? ⟨w.heap.size + 1, 2, none⟩ = some (.int .i64 0) := Lib.cell_of_heap X3 2
          have zf := Lib.frozen_of_heap X3
          have y1 : IntKind.i64.wrap ((m : Int) + l.many + 1) = (m : Int) + l.many + 1 := IntWalk.i64_in _ (by omega)
          have y2 : IntKind.i64.wrap (wd + l.wide + u) = wd + l.wide + u := IntWalk.i64_in _ (by omega)
          have KX : Kp [w.heap.size + 1] W3 (((W3.setCell ⟨w.heap.size + 1, 0, none⟩ (.int .i64 ((m : Int) + l.many + 1))).setCell ⟨w.heap.size + 1, 1, none⟩ (.int .i64 (wd + l.wide + u))).setCell ⟨w.heap.size + 1, 2, none⟩ (.int .i64 0)).drew := ((((Kp.refl _ W3).set (by simp) _ _).set (by simp) _ _).set (by simp) _ _).drew
          have KY : Kp [g] w (((W3.setCell ⟨w.heap.size + 1, 0, none⟩ (.int .i64 ((m : Int) + l.many + 1))).setCell ⟨w.heap.size + 1, 1, none⟩ (.int .i64 (wd + l.wide + u))).setCell ⟨w.heap.size + 1, 2, none⟩ (.int .i64 0)).drew := (((HALL.out.2.2.2.2.1.setNew (by omega) _ _).setNew (by omega) _ _).setNew (by omega) _ _).drew
          have X4 : (((W3.setCell ⟨w.heap.size + 1, 0, none⟩ (.int .i64 ((m : Int) + l.many + 1))).setCell ⟨w.heap.size + 1, 1, none⟩ (.int .i64 (wd + l.wide + u))).setCell ⟨w.heap.size + 1, 2, none⟩ (.int .i64 0)).drew.heap[w.heap.size + 1]? = some (.cells #[.int .i64 ((m : Int) + l.many + 1), .int .i64 (wd + l.wide + u), .int .i64 0] 50) := heap_drew (box_set ⟨_, _, _, X3⟩ _ _ _)
          have HKX : Hid _ := KX
          have HKY : Hid _ := KY
          have HX4 : Hid _ := X4
          clear KX KY X4 B3 NA X3 hps
          go_wp2
          go_region
          all_goals
            have B4 := HKX.out.heap HBW.out (by simpa using hbw)
            have Q4 := HALL.out.2.1.kp HKX.out (fun z hz e => by
              have h1 := HT.out.lt z (HWk.out.blk z (by simp [Deep.BT.blocks, hz]))
              rw [List.mem_singleton.1 e] at h1
              omega)
            have Y4 := HKX.out.heap HALL.out.2.2.2.1 (by simp)
            have R4 := HKX.out.heap HALL.out.2.2.2.2.2 (by simp; omega)
            have K4 := HKY.out
            have X4 := HX4.out
            clear HKX HKY HX4 n0 n1 b1 z0 z1 z2 zf y1 y2
            generalize (((W3.setCell ⟨w.heap.size + 1, 0, none⟩ (.int .i64 ((m : Int) + l.many + 1))).setCell ⟨w.heap.size + 1, 1, none⟩ (.int .i64 (wd + l.wide + u))).setCell ⟨w.heap.size + 1, 2, none⟩ (.int .i64 0)).drew = W4 at *
            have b3 : W4.cell? ⟨b, 3, none⟩ = some r.pt := Lib.cell_of_heap B4 3
            have HAL4 : Hid (_ ∧ _ ∧ _ ∧ _ ∧ _) := ⟨Q4, Y4, R4, K4, X4⟩
            clear B4 Q4 Y4 R4 K4 X4
            go_wp2
            go_roundg r.high
            case measure => have := HGK.out; omega
            case rel =>
              have h2 := HPS.out
              have h3 := HCO.out
              have hsm := HSM.out
              refine ⟨r, m + l.many + 1, wd + l.wide + u, kk + 1 + l.one, rfl, Nat.le_refl _, ⟨by omega, by omega, ?_⟩, ⟨HAL4.out.1, fun z hz => HWk.out.blk z (by simp [Deep.BT.blocks, hz]), fun z hz => HWk.out.itm z (by simp [Deep.BT.items, hz]), by omega, by omega, by omega, HAL4.out.2.1, HAL4.out.2.2.2.2, HAL4.out.2.2.1, by omega, HAL4.out.2.2.2.1⟩⟩
              have e1 : a - m = l.many + 1 + (a - (m + l.many + 1)) := by omega
              have h4 := hap.out
              rw [e1, at_hi, pre_hi] at h4
              exact ⟨h4.1, by rw [h4.2]; omega⟩
        · have hmid : a = m + l.many := by omega
          rw [show cmpI (a : Int) ((m : Int) + l.many) = 0 from by unfold cmpI; rw [if_neg (by omega), if_neg (by omega)]]
          have Y3 := HALL.out.2.2.2.1
          have n0 : W3.cell? ⟨W1.heap.size + 1, 0, none⟩ = some (.int .i64 ((m : Int) + l.many)) := Lib.cell_of_heap NA 0
          have n1 : W3.cell? ⟨W1.heap.size + 1, 1, none⟩ = some (.int .i64 (wd + l.wide)) := Lib.cell_of_heap NA 1
          have n2 : W3.cell? ⟨W1.heap.size + 1, 2, none⟩ = some (.int .i64 0) := Lib.cell_of_heap NA 2
          have z0 : W3.cell? ⟨w.heap.size, 0, none⟩ = some (.int .i64 0) := Lib.cell_of_heap Y3 0
          have z1 : W3.cell? ⟨w.heap.size, 1, none⟩ = some (.int .i64 0) := Lib.cell_of_heap Y3 1
          have z2 : W3.cell? ⟨w.heap.size, 2, none⟩ = some (.int .i64 0) := Lib.cell_of_heap Y3 2
          have zf := Lib.frozen_of_heap Y3
          have KY : Kp [g] w (((W3.setCell ⟨w.heap.size, 0, none⟩ (.int .i64 ((m : Int) + l.many))).setCell ⟨w.heap.size, 1, none⟩ (.int .i64 (wd + l.wide))).setCell ⟨w.heap.size, 2, none⟩ (.int .i64 0)).drew := (((HALL.out.2.2.2.2.1.setNew (by omega) _ _).setNew (by omega) _ _).setNew (by omega) _ _).drew
          have X4 : (((W3.setCell ⟨w.heap.size, 0, none⟩ (.int .i64 ((m : Int) + l.many))).setCell ⟨w.heap.size, 1, none⟩ (.int .i64 (wd + l.wide))).setCell ⟨w.heap.size, 2, none⟩ (.int .i64 0)).drew.heap[w.heap.size]? = some (.cells #[.int .i64 ((m : Int) + l.many), .int .i64 (wd + l.wide), .int .i64 0] 50) := heap_drew (box_set ⟨_, _, _, Y3⟩ _ _ _)
          have R4 : RowAt g t.pt (kk + 1 + l.one) (((W3.setCell ⟨w.heap.size, 0, none⟩ (.int .i64 ((m : Int) + l.many))).setCell ⟨w.heap.size, 1, none⟩ (.int .i64 (wd + l.wide))).setCell ⟨w.heap.size, 2, none⟩ (.int .i64 0)).drew := heap_drew (heap_set_other (heap_set_other (heap_set_other HALL.out.2.2.2.2.2 (by omega)) (by omega)) (by omega))
          have HXX : Hid (_ ∧ _ ∧ _) := ⟨KY, X4, R4⟩
          clear KY X4 R4 B3 NA X3 Y3
          go_wp2
          go_region
          all_goals
            obtain ⟨K4, X4, R4⟩ := HXX.out
            clear HXX n0 n1 n2 z0 z1 z2 zf
            go_wp2
            generalize (((W3.setCell ⟨w.heap.size, 0, none⟩ (.int .i64 ((m : Int) + l.many))).setCell ⟨w.heap.size, 1, none⟩ (.int .i64 (wd + l.wide))).setCell ⟨w.heap.size, 2, none⟩ (.int .i64 0)).drew = W4 at *
            have q0 : W4.cell? ⟨w.heap.size, 0, none⟩ = some (.int .i64 ((m : Int) + l.many)) := Lib.cell_of_heap X4 0
            have q1 : W4.cell? ⟨w.heap.size, 1, none⟩ = some (.int .i64 (wd + l.wide)) := Lib.cell_of_heap X4 1
            have q2 : W4.cell? ⟨w.heap.size, 2, none⟩ = some (.int .i64 0) := Lib.cell_of_heap X4 2
            have h3 := HCO.out
            have h4 := hap.out
            rw [show a - m = l.many from by omega, at_mid, pre_mid] at h4
            refine bodyPost_ret (v := .tuple #[.pointer (some ⟨b, 0, none⟩), .agg #[.int .i64 ((m : Int) + l.many), .int .i64 (wd + l.wide), .int .i64 0]]) (by simp [results, Tryd.results22, go_sem, q0, q1, q2]) rfl ⟨?_, ⟨kk + 1 + l.one, by omega, R4⟩, K4⟩
            rw [h4.1, h4.2, show (a : Int) = (m : Int) + l.many from by omega]
end Go.Proofs.YtebglecjajghjaaDoor
