/-
  What is proved: the way that package tree's method walk takes to an index with the function that Set hands to it: where it ends, and what the tree is then, once the thing found is made that wide.
  Conditions: the row lies in memory.
-/
import Derived.Test.YtebglecjajghjaaDoorTSetC
import Derived.Deep.LoopGhost
namespace Go.Proofs.YtebglecjajghjaaDoor
open Go.RowKit

/-- What holds at the head of each round: a piece, what was passed, and that the whole is as it should be once the piece is. -/
structure Wz (w : World) (t : (Deep.BT Int)) (g k a : Nat) (nu : Int) (s : (Deep.BT Int)) (m : Nat) (wd : Int) (kk : Nat) (wr : World) : Prop where
  at_ : s.At wr
  nd : s.blocks.Nodup
  blk : ∀ z ∈ s.blocks, z ∈ t.blocks
  itm : ∀ q ∈ s.items, q ∈ t.items
  mny : m + s.many ≤ t.many
  wd0 : 0 ≤ wd
  wd1 : wd + s.wide ≤ t.wide
  res : wr.heap[w.heap.size]? = some (.cells #[.int .i64 0, .int .i64 0, .int .i64 0] 50)
  box : wr.heap[w.heap.size + 1]? = some (.cells #[.int .i64 (m : Int), .int .i64 wd, .int .i64 0] 50)
  row : RowAt g t.pt kk wr
  cost : kk + 2 * s.high ≤ k + 2 * t.high
  kp : Kp (g :: t.blocks) w wr
  go : ∀ w', Kp (g :: w.heap.size :: (w.heap.size + 1) :: s.blocks) wr w' → (setT s (a - m) nu).At w' → (setT t a nu).At w'

theorem Wz.lt {w : World} {t : (Deep.BT Int)} {g k a : Nat} {nu : Int} {s : (Deep.BT Int)} {m : Nat} {wd : Int} {kk : Nat} {wr : World} (h : Wz w t g k a nu s m wd kk wr) : w.heap.size + 1 < wr.heap.size := lt_of_heap h.box

/-- One step of the way: the side gone to is as it should be, so the piece is. -/
theorem go_left {w' : World} {b x : Nat} {u : Int} {l r : (Deep.BT Int)} {k : Nat} {nu mo : Int} (hk : k < l.many) (hmo : mo = nu - (l.at' k).2.2)
    (hb : w'.heap[b]? = some (.cells (ncells (th x) u l.pt r.pt ((l.many + 1 + r.many : Nat) : Int) (l.wide + u + r.wide + mo) ((1 + max l.high r.high : Nat) : Int)) 52)) (hl : (setT l k nu).At w') (hr : r.At w') : (setT (.node b x u l r) k nu).At w' := by
  rw [set_lo _ _ _ _ _ _ _ hk]
  refine ⟨?_, hl, hr⟩
  rw [ptr_set, many_set, high_set, wide_set l k nu hk, show l.wide + (nu - (l.at' k).2.2) + u + r.wide = l.wide + u + r.wide + mo from by omega]
  exact hb
theorem go_right {w' : World} {b x : Nat} {u : Int} {l r : (Deep.BT Int)} {k : Nat} {nu mo : Int} (hk : k < r.many) (hmo : mo = nu - (r.at' k).2.2)
    (hb : w'.heap[b]? = some (.cells (ncells (th x) u l.pt r.pt ((l.many + 1 + r.many : Nat) : Int) (l.wide + u + r.wide + mo) ((1 + max l.high r.high : Nat) : Int)) 52)) (hl : l.At w') (hr : (setT r k nu).At w') : (setT (.node b x u l r) (l.many + 1 + k) nu).At w' := by
  rw [set_hi]
  refine ⟨?_, hl, hr⟩
  rw [ptr_set, many_set, high_set, wide_set r k nu hk, show l.wide + u + (r.wide + (nu - (r.at' k).2.2)) = l.wide + u + r.wide + mo from by omega]
  exact hb
theorem go_mid {w' : World} {b x : Nat} {u : Int} {l r : (Deep.BT Int)} {nu mo : Int} (hmo : mo = nu - u)
    (hb : w'.heap[b]? = some (.cells (ncells (th x) nu l.pt r.pt ((l.many + 1 + r.many : Nat) : Int) (l.wide + u + r.wide + mo) ((1 + max l.high r.high : Nat) : Int)) 52)) (hl : l.At w') (hr : r.At w') : (setT (.node b x u l r) l.many nu).At w' := by
  rw [set_mid]
  refine ⟨?_, hl, hr⟩
  rw [show l.wide + nu + r.wide = l.wide + u + r.wide + mo from by omega]
  exact hb

theorem not_mem2 {g b z : Nat} (h1 : z ≠ g) (h2 : z ≠ b) : z ∉ [g, b] := by simp [h1, h2]
theorem off_two {g b : Nat} {t : (Deep.BT Int)} (h : g ∉ t.blocks) (k : b ∉ t.blocks) : ∀ c ∈ t.blocks, c ∉ [g, b] := fun c hc e => by
  simp only [List.mem_cons, List.not_mem_nil, or_false] at e
  rcases e with e | e
  · exact h (e ▸ hc)
  · exact k (e ▸ hc)

set_option maxRecDepth 100000 in
set_option maxHeartbeats 8000000 in
theorem walkS_any (t : (Deep.BT Int)) (a q mo wh g k : Nat) (nu more : Int) (w : World) (hk : k + 2 * t.high ≤ 4611686018427383000) (ht : t.At w) (hnd : t.blocks.Nodup) (hg : g ∉ t.blocks) (hfit : t.fit) (ha : a < t.many) (hR : RowAt g t.pt k w)
    (hq : w.heap[q]? = some (.cells #[.int .i64 (a : Int)] 3)) (hmo : w.heap[mo]? = some (.cells #[.int .i64 more] 3)) (hwh : w.heap[wh]? = some (.cells #[.func (Fn.func 31) #[] #[.pointer (some ⟨q, 0, none⟩)]] 58))
    (hmore : more = nu - (t.at' a).2.2) (hnu : 0 ≤ nu ∧ nu ≤ 1000000) (hold : 0 ≤ (t.at' a).2.2 ∧ (t.at' a).2.2 ≤ 1000000) :
    Calls Tryd.prog 22 #[.pointer (some ⟨g, 0, none⟩), .func (Fn.func 24) #[] #[.pointer (some ⟨mo, 0, none⟩), .pointer (some ⟨wh, 0, none⟩)]] w fun e w' => (∃ p s, e = .returned (.tuple #[p, s])) ∧ (∃ k', k' ≤ k + 2 * t.high ∧ RowAt g t.pt k' w') ∧ Kp (g :: t.blocks) w w' ∧ (∃ cs, w'.heap[(t.at' a).1]? = some (.cells cs 52) ∧ cs.size = 7) ∧ (setT t a nu).At (w'.setCell ⟨(t.at' a).1, 1, none⟩ (.int .i64 nu)) := by
  have c0 : w.cell? ⟨g, 0, none⟩ = some t.pt := Lib.cell_of_heap hR 0
  have hgz := lt_of_heap hR
  have hqz := lt_of_heap hq
  have W0 : Wz w t g k a nu t 0 0 k ((w.alloc (.cells #[.int .i64 0, .int .i64 0, .int .i64 0] 50)).alloc (.cells #[.int .i64 0, .int .i64 0, .int .i64 0] 50)) := by
    have K0 : Kp [] w ((w.alloc (.cells #[.int .i64 0, .int .i64 0, .int .i64 0] 50)).alloc (.cells #[.int .i64 0, .int .i64 0, .int .i64 0] 50)) := ((Kp.refl _ w).alloc _).alloc _
    refine ⟨ht.kp K0 (by simp), hnd, fun z h => h, fun q h => h, by omega, by omega, by omega, heap_alloc_old (heap_alloc_new w _) _, heap_at_new _ _ (by simp), heap_alloc_old (heap_alloc_old hR _) _, by omega, K0.mono (by simp), fun w' _ h => h⟩
  have hw := hfit.wide
  have hm := hfit.1
  have HQ : Hid (w.heap[q]? = some (.cells #[.int .i64 (a : Int)] 3) ∧ w.heap[mo]? = some (.cells #[.int .i64 more] 3) ∧ w.heap[wh]? = some (.cells #[.func (Fn.func 31) #[] #[.pointer (some ⟨q, 0, none⟩)]] 58)) := ⟨hq, hmo, hwh⟩
  have HO : Hid ((q ∉ g :: t.blocks) ∧ (mo ∉ g :: t.blocks) ∧ (wh ∉ g :: t.blocks)) := by
    refine ⟨?_, ?_, ?_⟩
    · simp only [List.mem_cons, not_or]; exact ⟨off_row hR hq (by decide), off_kind ht hq (by decide)⟩
    · simp only [List.mem_cons, not_or]; exact ⟨off_row hR hmo (by decide), off_kind ht hmo (by decide)⟩
    · simp only [List.mem_cons, not_or]; exact ⟨off_row hR hwh (by decide), off_kind ht hwh (by decide)⟩
  have HF : Hid (∀ z ∈ t.items, 0 ≤ z.2 ∧ z.2 ≤ 1000000) := hfit.2
  have HT : Hid (t.At w) := ht
  have HMO : Hid (more = nu - (t.at' a).2.2 ∧ (0 ≤ nu ∧ nu ≤ 1000000) ∧ (0 ≤ (t.at' a).2.2 ∧ (t.at' a).2.2 ≤ 1000000)) := ⟨hmore, hnu, hold⟩
  clear ht hR hfit hq hmo hwh hnd hmore hnu hold
  go_enter Tryd.func22, Tryd.ntmps22
  go_wp2
  go_loopg [7] t.high (fun gk n wr => ∃ s m wd kk, n = s.pt ∧ s.high ≤ gk ∧ (m ≤ a ∧ a - m < s.many ∧ Hid (t.at' a = s.at' (a - m))) ∧ Wz w t g k a nu s m wd kk wr)
  case atStart => exact ⟨t, 0, 0, k, rfl, Nat.le_refl _, ⟨Nat.zero_le _, ha, rfl⟩, W0⟩
  case round =>
    clear W0 c0
    obtain ⟨s, m, wd, kk, rfl, hgk, ⟨hma, hsm, hap⟩, hW⟩ := hrel
    cases s with
    | nil => simp [Deep.BT.many] at hsm
    | node b x u l r =>
      obtain ⟨hB, hL, hQ2⟩ := hW.at_
      have hbt := hW.blk b (by simp [Deep.BT.blocks])
      have hgb : g ≠ b := fun e => hg (by rw [e]; exact hbt)
      have ngl : g ∉ l.blocks := fun e => hg (hW.blk g (by simp [Deep.BT.blocks, e]))
      have ngr : g ∉ r.blocks := fun e => hg (hW.blk g (by simp [Deep.BT.blocks, e]))
      have hnb := hW.nd
      simp only [Deep.BT.blocks, List.nodup_cons, List.mem_append, not_or, List.nodup_append] at hnb
      obtain ⟨⟨nbl, nbr⟩, ndl, ndr, hlr⟩ := hnb
      have HLR : Hid (l.blocks.Nodup ∧ r.blocks.Nodup ∧ ∀ z ∈ l.blocks, ∀ y ∈ r.blocks, z ≠ y) := ⟨ndl, ndr, hlr⟩
      clear ndl ndr hlr
      have hcost := hW.cost
      simp only [Deep.BT.high] at hcost hgk
      have HSM : Hid (a - m < l.many + 1 + r.many) := hsm
      clear hsm
      have K0 : Kp [g] wr (wr.setCell ⟨g, 1, none⟩ (.int .i64 ((kk : Int) + 1))) := (Kp.refl [g] wr).set (List.mem_singleton.2 rfl) 1 _
      have R0 : RowAt g t.pt (kk + 1) (wr.setCell ⟨g, 1, none⟩ (.int .i64 ((kk : Int) + 1))) := set_at hW.row 1 _
      have c1 : wr.cell? ⟨g, 1, none⟩ = some (.int .i64 kk) := Lib.cell_of_heap hW.row 1
      have cf := Lib.frozen_of_heap hW.row
      have s0 : (wr.setCell ⟨g, 1, none⟩ (.int .i64 ((kk : Int) + 1))).cell? ⟨b, 2, none⟩ = some l.pt := Lib.cell_of_heap (K0.heap hB (by simpa using Ne.symm hgb)) 2
      have EK := look_any l g t.pt (kk + 1) _ (by omega) (hL.kp K0 (fun c hc e => ngl (by rw [List.mem_singleton.1 e] at hc; exact hc))) ngl R0
      have w1 : wrap64 ((kk : Int) + 1) = (kk : Int) + 1 := by unfold wrap64; omega
      have HWk : Hid (Wz w t g k a nu (.node b x u l r) m wd kk wr) := hW
      have hlz := hW.lt
      clear hW
      have HCO : Hid (kk + 2 * (1 + max l.high r.high) ≤ k + 2 * t.high) := hcost
      have HGK : Hid (1 + max l.high r.high ≤ gk) := hgk
      clear hcost hgk
      rw [show (Deep.BT.node b x u l r).pt = Value.pointer (some ⟨b, 0, none⟩) from rfl]
      go_wp2_with fail
      go_fit EK
      rintro e w2 ⟨rfl, rfl⟩
      have KW : Kp [g] wr (lookW l g (kk + 1) (wr.setCell ⟨g, 1, none⟩ (.int .i64 ((kk : Int) + 1)))) := (K0.set (List.mem_singleton.2 rfl) _ _).alloc _
      have RW : RowAt g t.pt (kk + 1 + l.one) (lookW l g (kk + 1) (wr.setCell ⟨g, 1, none⟩ (.int .i64 ((kk : Int) + 1)))) := heap_alloc_old (row_set (rowE_of R0) rfl) _
      generalize lookW l g (kk + 1) (wr.setCell ⟨g, 1, none⟩ (.int .i64 ((kk : Int) + 1))) = W1 at *
      have X1 := KW.heap HWk.out.box (by simp; omega)
      have hlz1 := lt_of_heap X1
      have p0 : W1.cell? ⟨w.heap.size + 1, 0, none⟩ = some (.int .i64 (m : Int)) := Lib.cell_of_heap X1 0
      have p1 : W1.cell? ⟨w.heap.size + 1, 1, none⟩ = some (.int .i64 wd) := Lib.cell_of_heap X1 1
      have hwd1 := HWk.out.wd1
      have hwd0 := HWk.out.wd0
      have hmny := HWk.out.mny
      have hpos : (0 ≤ l.wide ∧ l.wide ≤ 1000000 * (l.many : Int)) ∧ (0 ≤ r.wide ∧ r.wide ≤ 1000000 * (r.many : Int)) ∧ (0 ≤ u ∧ u ≤ 1000000) := ⟨wide_of l (fun z hz => HF.out z (HWk.out.itm z (by simp [Deep.BT.items, hz]))), wide_of r (fun z hz => HF.out z (HWk.out.itm z (by simp [Deep.BT.items, hz]))), HF.out (th x, u) (HWk.out.itm _ (by simp [Deep.BT.items]))⟩
      simp only [Deep.BT.wide] at hwd1
      simp only [Deep.BT.many] at hmny
      have y1 : wrap64 ((m : Int) + l.many) = (m : Int) + l.many := by unfold wrap64; omega
      have y2 : wrap64 (wd + l.wide) = wd + l.wide := by unfold wrap64; omega
      have HKW : Hid (Kp [g] wr W1) := KW
      have HRW : Hid (RowAt g t.pt (kk + 1 + l.one) W1) := RW
      have HPS : Hid (((0 ≤ l.wide ∧ l.wide ≤ 1000000 * (l.many : Int)) ∧ (0 ≤ r.wide ∧ r.wide ≤ 1000000 * (r.many : Int)) ∧ (0 ≤ u ∧ u ≤ 1000000)) ∧ (wd + (l.wide + u + r.wide) ≤ t.wide ∧ 0 ≤ wd ∧ m + (l.many + 1 + r.many) ≤ t.many) ∧ (0 ≤ t.wide ∧ t.wide ≤ 1000000000000) ∧ t.many ≤ 1000000) := ⟨hpos, ⟨hwd1, hwd0, hmny⟩, hw, hm⟩
      have nog : ∀ z, z ∉ g :: t.blocks → z ∉ [g] := fun z h e => h (by rw [List.mem_singleton.1 e]; simp)
      have Q1 := KW.heap (HWk.out.kp.heap HQ.out.1 HO.out.1) (nog _ HO.out.1)
      have M1 := KW.heap (HWk.out.kp.heap HQ.out.2.1 HO.out.2.1) (nog _ HO.out.2.1)
      have F1 := KW.heap (HWk.out.kp.heap HQ.out.2.2 HO.out.2.2) (nog _ HO.out.2.2)
      have b1 := KW.heap hB (by simpa using Ne.symm hgb)
      have ES := setc_any (a : Int) ((m : Int) + l.many) (wd + l.wide) 0 b q mo wh (th x) u ((l.many + 1 + r.many : Nat) : Int) (l.wide + u + r.wide) ((1 + max l.high r.high : Nat) : Int) more l.pt r.pt ((W1.alloc (.cells #[.int .i64 (l.many : Int), .int .i64 l.wide, .int .i64 (l.high : Int)] 50)).alloc (.cells #[.int .i64 ((m : Int) + l.many), .int .i64 (wd + l.wide), .int .i64 0] 50))
        (heap_alloc_old (heap_alloc_old b1 _) _) (heap_alloc_old (heap_alloc_old M1 _) _) (heap_alloc_old (heap_alloc_old F1 _) _) (heap_alloc_old (heap_alloc_old Q1 _) _) (IntWalk.i64_in _ (by have := HMO.out; omega))
      clear c1 cf w1 s0 EK K0 R0 hB hL hQ2 KW RW X1 hpos hwd1 hwd0 hmny hw hm nog Q1 M1 F1 b1
      go_wp2_with fail
      go_fit ES
      rintro e w3 ⟨rfl, K3, B3⟩
      clear ES p0 p1 y1 y2
      have hbz1 : b < W1.heap.size := Nat.lt_of_lt_of_le (Nat.lt_of_lt_of_le (HT.out.lt b hbt) HWk.out.kp.size) HKW.out.size
      have KA : Kp [g, b] wr w3 := (((HKW.out.alloc (.cells #[.int .i64 (l.many : Int), .int .i64 l.wide, .int .i64 (l.high : Int)] 50)).alloc (.cells #[.int .i64 ((m : Int) + l.many), .int .i64 (wd + l.wide), .int .i64 0] 50)).mono (by simp)).trans (K3.mono (by simp))
      have RA : RowAt g t.pt (kk + 1 + l.one) w3 := K3.heap (heap_alloc_old (heap_alloc_old HRW.out _) _) (by simpa using hgb)
      have NA : w3.heap[W1.heap.size + 1]? = some (.cells #[.int .i64 ((m : Int) + l.many), .int .i64 (wd + l.wide), .int .i64 0] 50) := K3.heap (heap_at_new _ _ (by simp)) (by simp; omega)
      have hz1 : wr.heap.size ≤ W1.heap.size := HKW.out.size
      obtain ⟨hB, hL, hQ2⟩ := HWk.out.at_
      have L3 := hL.kp KA (off_two ngl nbl)
      have Q3 := hQ2.kp KA (off_two ngr nbr)
      have hbz : b < w.heap.size := HT.out.lt b hbt
      have X3 := KA.heap HWk.out.box (not_mem2 (by omega) (by omega))
      have Y3 := KA.heap HWk.out.res (not_mem2 (by omega) (by omega))
      have KB := HWk.out.kp.trans (KA.mono (by simp [hbt]))
      have hol := one_le l
      have HALL : Hid (_ ∧ _ ∧ _ ∧ _ ∧ _ ∧ _) := ⟨L3, Q3, X3, Y3, KB, RA⟩
      have HKA : Hid (Kp [g, b] wr w3) := KA
      clear hB hL hQ2 KA L3 Q3 Y3 KB RA hz1 K3
      have HBW : Hid (_ = _) := B3
      have HNA : Hid (_ = _) := NA
      have hbw : b ≠ w.heap.size + 1 := by omega
      have hbw0 : b ≠ w.heap.size := by omega
      have hzn : w.heap.size + 1 < W1.heap.size + 1 := by omega
      by_cases hlo : a < m + l.many
      · rw [show cmpI (a : Int) ((m : Int) + l.many) = -1 from by unfold cmpI; rw [if_pos (by omega)]]
        have b2 : w3.cell? ⟨b, 2, none⟩ = some l.pt := Lib.cell_of_heap B3 2
        clear B3 NA X3
        go_wp2
        go_roundg l.high
        case measure => have := HGK.out; omega
        case rel =>
          have h2 := HPS.out
          have h3 := HCO.out
          have h4 := hap.out
          rw [at_lo b x u l r (a - m) (by omega)] at h4
          refine ⟨l, m, wd, kk + 1 + l.one, rfl, Nat.le_refl _, ⟨hma, by omega, h4⟩, ⟨HALL.out.1, HLR.out.1, fun z hz => HWk.out.blk z (by simp [Deep.BT.blocks, hz]), fun z hz => HWk.out.itm z (by simp [Deep.BT.items, hz]), by omega, by omega, by omega, HALL.out.2.2.2.1, HALL.out.2.2.1, HALL.out.2.2.2.2.2, by omega, HALL.out.2.2.2.2.1, fun w' K hA => ?_⟩⟩
          refine HWk.out.go w' ((HKA.out.mono (by simp [Deep.BT.blocks])).trans (K.mono (fun z hz => by
            simp only [Deep.BT.blocks, List.mem_cons, List.mem_append] at hz ⊢
            rcases hz with h | h | h | h
            · exact Or.inl h
            · exact Or.inr (Or.inl h)
            · exact Or.inr (Or.inr (Or.inl h))
            · exact Or.inr (Or.inr (Or.inr (Or.inr (Or.inl h))))))) ?_
          refine go_left (by omega) (by rw [← h4]; exact HMO.out.1) (K.heap HBW.out ?_) hA (HALL.out.2.1.kp K (fun z hz e => ?_))
          · simp only [List.mem_cons, not_or]
            exact ⟨Ne.symm hgb, hbw0, hbw, nbl⟩
          · have h1 := HT.out.lt z (HWk.out.blk z (by simp [Deep.BT.blocks, hz]))
            simp only [List.mem_cons] at e
            rcases e with e | e | e | e
            · exact ngr (e ▸ hz)
            · omega
            · omega
            · exact HLR.out.2.2 z e z hz rfl
      · by_cases hhi : m + l.many < a
        · rw [show cmpI (a : Int) ((m : Int) + l.many) = 1 from by unfold cmpI; rw [if_neg (by omega), if_pos (by omega)]]
          have hps := HPS.out
          have n0 : w3.cell? ⟨W1.heap.size + 1, 0, none⟩ = some (.int .i64 ((m : Int) + l.many)) := Lib.cell_of_heap NA 0
          have n1 : w3.cell? ⟨W1.heap.size + 1, 1, none⟩ = some (.int .i64 (wd + l.wide)) := Lib.cell_of_heap NA 1
          have b1 : w3.cell? ⟨b, 1, none⟩ = some (.int .i64 u) := Lib.cell_of_heap B3 1
          have z0 : w3.cell? ⟨w.heap.size + 1, 0, none⟩ = some (.int .i64 (m : Int)) := Lib.cell_of_heap X3 0
          have z1 : w3.cell? ⟨w.heap.size + 1, 1, none⟩ = some (.int .i64 wd) := Lib.cell_of_heap X3 1
          have z2 : w3.cell? ⟨w.heap.size + 1, 2, none⟩ = some (.int .i64 0) := Lib.cell_of_heap X3 2
          have zf := Lib.frozen_of_heap X3
          have y1 : IntKind.i64.wrap ((m : Int) + l.many + 1) = (m : Int) + l.many + 1 := IntWalk.i64_in _ (by omega)
          have y2 : IntKind.i64.wrap (wd + l.wide + u) = wd + l.wide + u := IntWalk.i64_in _ (by omega)
          have KX : Kp [w.heap.size + 1] w3 (((w3.setCell ⟨w.heap.size + 1, 0, none⟩ (.int .i64 ((m : Int) + l.many + 1))).setCell ⟨w.heap.size + 1, 1, none⟩ (.int .i64 (wd + l.wide + u))).setCell ⟨w.heap.size + 1, 2, none⟩ (.int .i64 0)).drew := ((((Kp.refl _ w3).set (by simp) _ _).set (by simp) _ _).set (by simp) _ _).drew
          have KY : Kp (g :: t.blocks) w (((w3.setCell ⟨w.heap.size + 1, 0, none⟩ (.int .i64 ((m : Int) + l.many + 1))).setCell ⟨w.heap.size + 1, 1, none⟩ (.int .i64 (wd + l.wide + u))).setCell ⟨w.heap.size + 1, 2, none⟩ (.int .i64 0)).drew := (((HALL.out.2.2.2.2.1.setNew (by omega) _ _).setNew (by omega) _ _).setNew (by omega) _ _).drew
          have X4 : (((w3.setCell ⟨w.heap.size + 1, 0, none⟩ (.int .i64 ((m : Int) + l.many + 1))).setCell ⟨w.heap.size + 1, 1, none⟩ (.int .i64 (wd + l.wide + u))).setCell ⟨w.heap.size + 1, 2, none⟩ (.int .i64 0)).drew.heap[w.heap.size + 1]? = some (.cells #[.int .i64 ((m : Int) + l.many + 1), .int .i64 (wd + l.wide + u), .int .i64 0] 50) := heap_drew (box_set ⟨_, _, _, X3⟩ _ _ _)
          have HKX : Hid _ := KX
          have HKY : Hid _ := KY
          have HX4 : Hid _ := X4
          clear KX KY X4 B3 NA X3 hps
          go_wp2
          go_region
          all_goals
            have B4 := HKX.out.heap HBW.out (by simpa using hbw)
            have Q4 := HALL.out.2.1.kp HKX.out (fun z hz e => by
              have h1 := HT.out.lt z (HWk.out.blk z (by simp [Deep.BT.blocks, hz]))
              rw [List.mem_singleton.1 e] at h1
              omega)
            have L4 := HALL.out.1.kp HKX.out (fun z hz e => by
              have h1 := HT.out.lt z (HWk.out.blk z (by simp [Deep.BT.blocks, hz]))
              rw [List.mem_singleton.1 e] at h1
              omega)
            have Y4 := HKX.out.heap HALL.out.2.2.2.1 (by simp)
            have R4 := HKX.out.heap HALL.out.2.2.2.2.2 (by simp; omega)
            have K4 := HKY.out
            have X4 := HX4.out
            have KK4 : Kp (g :: w.heap.size :: (w.heap.size + 1) :: (Deep.BT.node b x u l r).blocks) wr _ := (HKA.out.mono (by simp [Deep.BT.blocks])).trans (HKX.out.mono (by simp))
            clear HKX HKY HX4 n0 n1 b1 z0 z1 z2 zf y1 y2
            generalize (((w3.setCell ⟨w.heap.size + 1, 0, none⟩ (.int .i64 ((m : Int) + l.many + 1))).setCell ⟨w.heap.size + 1, 1, none⟩ (.int .i64 (wd + l.wide + u))).setCell ⟨w.heap.size + 1, 2, none⟩ (.int .i64 0)).drew = W4 at *
            have b3 : W4.cell? ⟨b, 3, none⟩ = some r.pt := Lib.cell_of_heap B4 3
            have HAL4 : Hid (_ ∧ _ ∧ _ ∧ _ ∧ _ ∧ _ ∧ _ ∧ _) := ⟨Q4, Y4, R4, K4, X4, L4, B4, KK4⟩
            clear B4 Q4 Y4 R4 K4 X4 L4 KK4
            go_wp2
            go_roundg r.high
            case measure => have := HGK.out; omega
            case rel =>
              have h2 := HPS.out
              have h3 := HCO.out
              have hsm := HSM.out
              have e1 : a - m = l.many + 1 + (a - (m + l.many + 1)) := by omega
              have h4 := hap.out
              rw [e1, at_hi] at h4
              refine ⟨r, m + l.many + 1, wd + l.wide + u, kk + 1 + l.one, rfl, Nat.le_refl _, ⟨by omega, by omega, h4⟩, ⟨HAL4.out.1, HLR.out.2.1, fun z hz => HWk.out.blk z (by simp [Deep.BT.blocks, hz]), fun z hz => HWk.out.itm z (by simp [Deep.BT.items, hz]), by omega, by omega, by omega, HAL4.out.2.1, HAL4.out.2.2.2.2.1, HAL4.out.2.2.1, by omega, HAL4.out.2.2.2.1, fun w' K hA => ?_⟩⟩
              refine HWk.out.go w' (HAL4.out.2.2.2.2.2.2.2.trans (K.mono (fun z hz => by
                simp only [Deep.BT.blocks, List.mem_cons, List.mem_append] at hz ⊢
                rcases hz with h | h | h | h
                · exact Or.inl h
                · exact Or.inr (Or.inl h)
                · exact Or.inr (Or.inr (Or.inl h))
                · exact Or.inr (Or.inr (Or.inr (Or.inr (Or.inr h))))))) ?_
              rw [e1]
              refine go_right (by omega) (by rw [← h4]; exact HMO.out.1) (K.heap HAL4.out.2.2.2.2.2.2.1 ?_) (HAL4.out.2.2.2.2.2.1.kp K (fun z hz e => ?_)) hA
              · simp only [List.mem_cons, not_or]
                exact ⟨Ne.symm hgb, hbw0, hbw, nbr⟩
              · have h1 := HT.out.lt z (HWk.out.blk z (by simp [Deep.BT.blocks, hz]))
                simp only [List.mem_cons] at e
                rcases e with e | e | e | e
                · exact ngl (e ▸ hz)
                · omega
                · omega
                · exact HLR.out.2.2 z hz z e rfl
        · have hmid : a = m + l.many := by omega
          rw [show cmpI (a : Int) ((m : Int) + l.many) = 0 from by unfold cmpI; rw [if_neg (by omega), if_neg (by omega)]]
          have Y3 := HALL.out.2.2.2.1
          have n0 : w3.cell? ⟨W1.heap.size + 1, 0, none⟩ = some (.int .i64 ((m : Int) + l.many)) := Lib.cell_of_heap NA 0
          have n1 : w3.cell? ⟨W1.heap.size + 1, 1, none⟩ = some (.int .i64 (wd + l.wide)) := Lib.cell_of_heap NA 1
          have n2 : w3.cell? ⟨W1.heap.size + 1, 2, none⟩ = some (.int .i64 0) := Lib.cell_of_heap NA 2
          have z0 : w3.cell? ⟨w.heap.size, 0, none⟩ = some (.int .i64 0) := Lib.cell_of_heap Y3 0
          have z1 : w3.cell? ⟨w.heap.size, 1, none⟩ = some (.int .i64 0) := Lib.cell_of_heap Y3 1
          have z2 : w3.cell? ⟨w.heap.size, 2, none⟩ = some (.int .i64 0) := Lib.cell_of_heap Y3 2
          have zf := Lib.frozen_of_heap Y3
          have KX : Kp [w.heap.size] w3 (((w3.setCell ⟨w.heap.size, 0, none⟩ (.int .i64 ((m : Int) + l.many))).setCell ⟨w.heap.size, 1, none⟩ (.int .i64 (wd + l.wide))).setCell ⟨w.heap.size, 2, none⟩ (.int .i64 0)).drew := ((((Kp.refl _ w3).set (by simp) _ _).set (by simp) _ _).set (by simp) _ _).drew
          have KY : Kp (g :: t.blocks) w (((w3.setCell ⟨w.heap.size, 0, none⟩ (.int .i64 ((m : Int) + l.many))).setCell ⟨w.heap.size, 1, none⟩ (.int .i64 (wd + l.wide))).setCell ⟨w.heap.size, 2, none⟩ (.int .i64 0)).drew := (((HALL.out.2.2.2.2.1.setNew (by omega) _ _).setNew (by omega) _ _).setNew (by omega) _ _).drew
          have X4 : (((w3.setCell ⟨w.heap.size, 0, none⟩ (.int .i64 ((m : Int) + l.many))).setCell ⟨w.heap.size, 1, none⟩ (.int .i64 (wd + l.wide))).setCell ⟨w.heap.size, 2, none⟩ (.int .i64 0)).drew.heap[w.heap.size]? = some (.cells #[.int .i64 ((m : Int) + l.many), .int .i64 (wd + l.wide), .int .i64 0] 50) := heap_drew (box_set ⟨_, _, _, Y3⟩ _ _ _)
          have R4 : RowAt g t.pt (kk + 1 + l.one) (((w3.setCell ⟨w.heap.size, 0, none⟩ (.int .i64 ((m : Int) + l.many))).setCell ⟨w.heap.size, 1, none⟩ (.int .i64 (wd + l.wide))).setCell ⟨w.heap.size, 2, none⟩ (.int .i64 0)).drew := heap_drew (heap_set_other (heap_set_other (heap_set_other HALL.out.2.2.2.2.2 (by omega)) (by omega)) (by omega))
          have HXX : Hid (_ ∧ _ ∧ _ ∧ _) := ⟨KY, X4, R4, KX⟩
          clear KY X4 R4 KX B3 NA X3 Y3
          go_wp2
          go_region
          all_goals
            obtain ⟨K4, X4, R4, KX⟩ := HXX.out
            clear HXX n0 n1 n2 z0 z1 z2 zf
            go_wp2
            generalize (((w3.setCell ⟨w.heap.size, 0, none⟩ (.int .i64 ((m : Int) + l.many))).setCell ⟨w.heap.size, 1, none⟩ (.int .i64 (wd + l.wide))).setCell ⟨w.heap.size, 2, none⟩ (.int .i64 0)).drew = W4 at *
            have q0 : W4.cell? ⟨w.heap.size, 0, none⟩ = some (.int .i64 ((m : Int) + l.many)) := Lib.cell_of_heap X4 0
            have q1 : W4.cell? ⟨w.heap.size, 1, none⟩ = some (.int .i64 (wd + l.wide)) := Lib.cell_of_heap X4 1
            have q2 : W4.cell? ⟨w.heap.size, 2, none⟩ = some (.int .i64 0) := Lib.cell_of_heap X4 2
            have h3 := HCO.out
            have h4 := hap.out
            have e1 : a - m = l.many := by omega
            rw [e1, at_mid] at h4
            have B4 := KX.heap HBW.out (by simpa using hbw0)
            have Q4 := HALL.out.2.1.kp KX (fun z hz e => by
              have h1 := HT.out.lt z (HWk.out.blk z (by simp [Deep.BT.blocks, hz]))
              rw [List.mem_singleton.1 e] at h1
              omega)
            have L4 := HALL.out.1.kp KX (fun z hz e => by
              have h1 := HT.out.lt z (HWk.out.blk z (by simp [Deep.BT.blocks, hz]))
              rw [List.mem_singleton.1 e] at h1
              omega)
            have KS : Kp [b] W4 (W4.setCell ⟨b, 1, none⟩ (.int .i64 nu)) := (Kp.refl _ W4).set (by simp) _ _
            have hmo := HMO.out.1
            rw [h4] at hmo
            refine bodyPost_ret (v := .tuple #[.pointer (some ⟨b, 0, none⟩), .agg #[.int .i64 ((m : Int) + l.many), .int .i64 (wd + l.wide), .int .i64 0]]) (by simp [results, Tryd.results22, go_sem, q0, q1, q2]) rfl ⟨⟨_, _, rfl⟩, ⟨kk + 1 + l.one, by omega, R4⟩, K4, ?_, ?_⟩
            · rw [h4]; exact ⟨_, B4, rfl⟩
            · rw [h4]
              refine HWk.out.go _ (((HKA.out.mono (by simp [Deep.BT.blocks])).trans (KX.mono (by simp))).trans (KS.mono (by simp [Deep.BT.blocks]))) ?_
              rw [e1]
              exact go_mid hmo (set_at B4 1 _) (L4.kp KS (fun z hz e => nbl (by rw [List.mem_singleton.1 e] at hz; exact hz))) (Q4.kp KS (fun z hz e => nbr (by rw [List.mem_singleton.1 e] at hz; exact hz)))
end Go.Proofs.YtebglecjajghjaaDoor
