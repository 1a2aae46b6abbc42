/-
  What is proved: what package tree's Ahead, Get and Find answer of a row that lies in memory, and what they cost.
  Conditions: the row lies in memory.
-/
import Derived.Test.YtebglecjajghjaaDoorTTop
import Derived.Test.YtebglecjajghjaaDoorTWalkP
namespace Go.Proofs.YtebglecjajghjaaDoor
open Go.RowKit

set_option maxRecDepth 100000 in
set_option maxHeartbeats 1000000 in
theorem toIndex_any (a : Int) (w : World) : Calls Tryd.prog 23 #[.int .i64 a] w fun e w' => e = .returned (.func (Fn.func 31) #[] #[.pointer (some ⟨w.heap.size, 0, none⟩)]) ∧ w' = w.alloc (.cells #[.int .i64 a] 3) := by
  go_enter Tryd.func23, Tryd.ntmps23
  go_wp2
  go_ret
  exact ⟨rfl, rfl⟩

set_option maxRecDepth 100000 in
set_option maxHeartbeats 1000000 in
theorem toPlace_any (a : Int) (w : World) : Calls Tryd.prog 25 #[.int .i64 a] w fun e w' => e = .returned (.func (Fn.func 33) #[] #[.pointer (some ⟨w.heap.size, 0, none⟩)]) ∧ w' = w.alloc (.cells #[.int .i64 a] 3) := by
  go_enter Tryd.func25, Tryd.ntmps25
  go_wp2
  go_ret
  exact ⟨rfl, rfl⟩

/-- A row stays one while what is looked at is counted. -/
theorem IsRow.count {w w' : World} {lo g : Nat} {t : (Deep.BT Int)} {k k' : Nat} (h : IsRow w lo g t k) (K : Kp [g] w w') (R : RowAt g t.pt k' w') : IsRow w' lo g t k' :=
  ⟨R, h.at_.kp K (off_one (List.nodup_cons.1 h.nd).1), h.nd, h.low, h.itm, h.mny⟩

theorem sum_pos (l : List Int) (h : ∀ x ∈ l, 0 ≤ x) : 0 ≤ l.sum := by
  induction l with
  | nil => simp
  | cons x r ih =>
    rw [List.sum_cons]
    have := h x (by simp)
    have := ih (fun y hy => h y (by simp [hy]))
    omega

theorem pre_pos (t : (Deep.BT Int)) (h : ∀ q ∈ t.items, 0 ≤ q.2) (k : Nat) : 0 ≤ t.pre k := by
  unfold Deep.BT.pre
  refine sum_pos _ fun x hx => ?_
  obtain ⟨q, hq, rfl⟩ := List.mem_map.1 hx
  exact h q (List.mem_of_mem_take hq)

theorem at_heap {w : World} {t : (Deep.BT Int)} (h : t.At w) {a : Nat} (ha : a < t.many) : ∃ l r m s n, w.heap[(t.at' a).1]? = some (.cells (ncells (t.at' a).2.1 (t.at' a).2.2 l r m s n) 52) := by
  induction t generalizing a with
  | nil => simp [Deep.BT.many] at ha
  | node b x u l r il ir =>
    obtain ⟨h1, h2, h3⟩ := h
    simp only [Deep.BT.many] at ha
    simp only [Deep.BT.at']
    split
    · exact il h2 (by assumption)
    · split
      · exact ir h3 (by omega)
      · exact ⟨_, _, _, _, _, h1⟩

set_option maxRecDepth 100000 in
set_option maxHeartbeats 4000000 in
theorem ahead_ok (t : (Deep.BT Int)) (a : Nat) (lo g k : Nat) (w : World) (hk : k + 2 * t.high ≤ 4611686018427382000) (h : IsRow w lo g t k) (ha : a < t.many) :
    Calls Tryd.prog 15 #[.pointer (some ⟨g, 0, none⟩), .int .i64 (a : Int)] w fun e w' => e = .returned (.tuple #[.int .i64 (t.pre a), .nilIface]) ∧ (∃ k', IsRow w' lo g t k' ∧ k' ≤ k + 2 * t.high) ∧ Below lo w w' := by
  have E1 := len_any t g k w h.at_ h.row
  have E2 := upTo_any (a : Int) (t.many : Int)
  rw [decide_eq_true (show 0 ≤ (a : Int) ∧ (a : Int) ≤ (t.many : Int) from ⟨by omega, by omega⟩)] at E2
  obtain ⟨M, HM⟩ : ∃ M : Int, Hid (M = (t.many : Int)) := ⟨_, rfl⟩
  obtain ⟨Aa, HAa⟩ : ∃ A : Int, Hid (A = (a : Int)) := ⟨_, rfl⟩
  rw [← HM.out] at E1 E2
  rw [← HAa.out] at E2 ⊢
  have g1 : ¬ Aa = M := by have := HM.out; have := HAa.out; omega
  have HH : Hid (IsRow w lo g t k) := h
  have HK : Hid (k + 2 * t.high ≤ 4611686018427382000 ∧ a < t.many) := ⟨hk, ha⟩
  clear h hk ha
  go_enter Tryd.func15, Tryd.ntmps15
  go_wp2_with fail
  go_fit E1
  rintro e w1 ⟨rfl, b1⟩
  go_wp2_with fail
  go_fit (E2 w1)
  rintro e w2 ⟨rfl, rfl⟩
  have H1 := HH.out.below b1
  have E4 := len_any t g k w2 H1.at_ H1.row
  rw [← HM.out] at E4
  have HH1 : Hid (IsRow w2 lo g t k) := H1
  have HB1 : Hid (Below w.heap.size w w2) := b1
  clear E1 E2 H1 b1
  go_wp2_with fail
  go_fit E4
  rintro e w4 ⟨rfl, b2⟩
  have H2 := HH1.out.below b2
  have HH2 : Hid (IsRow w4 lo g t k) := H2
  have HB2 : Hid (Below w2.heap.size w2 w4) := b2
  clear E4 H2 b2
  go_wp2_with fail
  go_fit (toIndex_any Aa w4)
  rintro e w5 ⟨rfl, rfl⟩
  have b3 := (Below.refl w4.heap.size w4).alloc (Nat.le_refl _) (.cells #[.int .i64 Aa] 3)
  have H3 := HH2.out.below b3
  have EW := walkI_any t a w4.heap.size g k (w4.alloc (.cells #[.int .i64 Aa] 3)) (by have := HK.out; omega) H3.at_ (List.nodup_cons.1 H3.nd).1 H3.fit HK.out.2 H3.row (by rw [HAa.out]; exact heap_alloc_new w4 _) (by have := lt_of_heap HH2.out.row; omega)
  have HH3 : Hid (IsRow (w4.alloc (.cells #[.int .i64 Aa] 3)) lo g t k) := H3
  have HB3 : Hid (Below w4.heap.size w4 (w4.alloc (.cells #[.int .i64 Aa] 3))) := b3
  clear H3 b3
  go_wp2_with fail
  go_fit EW
  rintro e w6 ⟨rfl, ⟨k6, hk6, R6⟩, K6⟩
  have HF : Hid (∀ w', Below w6.heap.size w6 w' → (∃ k', IsRow w' lo g t k' ∧ k' ≤ k + 2 * t.high) ∧ Below lo w w') := fun w' b => by
    have I6 := HH3.out.count K6 R6
    refine ⟨⟨k6, I6.below b, hk6⟩, ?_⟩
    exact ((((HB1.out.mono HH.out.lo_le).trans (HB2.out.mono HH1.out.lo_le)).trans (HB3.out.mono HH2.out.lo_le)).trans (K6.below (fun z hz => by rw [List.mem_singleton.1 hz]; exact HH.out.low.1) HH3.out.lo_le)).trans (b.mono I6.lo_le)
  have b7 := (Below.refl w6.heap.size w6).alloc (Nat.le_refl _) (.cells #[.int .i64 (a : Int), .int .i64 (t.pre a), .int .i64 0] 50)
  clear EW R6 K6
  go_wp2
  go_returns
  exact ⟨rfl, HF.out _ b7⟩

set_option maxRecDepth 100000 in
set_option maxHeartbeats 4000000 in
theorem ahead_end (t : (Deep.BT Int)) (lo g k : Nat) (w : World) (h : IsRow w lo g t k) :
    Calls Tryd.prog 15 #[.pointer (some ⟨g, 0, none⟩), .int .i64 (t.many : Int)] w fun e w' => e = .returned (.tuple #[.int .i64 t.wide, .nilIface]) ∧ IsRow w' lo g t k ∧ Below lo w w' := by
  have E1 := len_any t g k w h.at_ h.row
  have E2 := upTo_any (t.many : Int) (t.many : Int)
  rw [decide_eq_true (show 0 ≤ (t.many : Int) ∧ (t.many : Int) ≤ (t.many : Int) from ⟨by omega, by omega⟩)] at E2
  obtain ⟨M, HM⟩ : ∃ M : Int, Hid (M = (t.many : Int)) := ⟨_, rfl⟩
  rw [← HM.out] at E1 E2 ⊢
  have HH : Hid (IsRow w lo g t k) := h
  clear h
  go_enter Tryd.func15, Tryd.ntmps15
  go_wp2_with fail
  go_fit E1
  rintro e w1 ⟨rfl, b1⟩
  go_wp2_with fail
  go_fit (E2 w1)
  rintro e w2 ⟨rfl, rfl⟩
  have H1 := HH.out.below b1
  have E4 := len_any t g k w2 H1.at_ H1.row
  rw [← HM.out] at E4
  have HH1 : Hid (IsRow w2 lo g t k) := H1
  have HB1 : Hid (Below w.heap.size w w2) := b1
  clear E1 E2 H1 b1
  go_wp2_with fail
  go_fit E4
  rintro e w4 ⟨rfl, b2⟩
  have H2 := HH1.out.below b2
  have E5 := wide_any t g k w4 H2.at_ H2.row
  have HH2 : Hid (IsRow w4 lo g t k) := H2
  have HB2 : Hid (Below w2.heap.size w2 w4) := b2
  clear E4 H2 b2
  go_wp2_with fail
  go_fit E5
  rintro e w5 ⟨rfl, b3⟩
  have HF : Hid (IsRow w5 lo g t k ∧ Below lo w w5) := ⟨HH2.out.below b3, ((HB1.out.mono HH.out.lo_le).trans (HB2.out.mono HH1.out.lo_le)).trans (b3.mono HH2.out.lo_le)⟩
  clear E5 b3
  go_wp2
  go_returns
  exact ⟨rfl, HF.out⟩

set_option maxRecDepth 100000 in
set_option maxHeartbeats 4000000 in
theorem get_ok (t : (Deep.BT Int)) (a : Nat) (lo g k : Nat) (w : World) (hk : k + 2 * t.high ≤ 4611686018427382000) (h : IsRow w lo g t k) (ha : a < t.many) :
    Calls Tryd.prog 12 #[.pointer (some ⟨g, 0, none⟩), .int .i64 (a : Int)] w fun e w' => e = .returned (.tuple #[.int .i64 (t.at' a).2.1, .int .i64 (t.at' a).2.2, .nilIface]) ∧ (∃ k', IsRow w' lo g t k' ∧ k' ≤ k + 2 * t.high) ∧ Below lo w w' := by
  have E1 := len_any t g k w h.at_ h.row
  have E2 := upTo_any (a : Int) ((t.many : Int) - 1)
  rw [decide_eq_true (show 0 ≤ (a : Int) ∧ (a : Int) ≤ (t.many : Int) - 1 from ⟨by omega, by omega⟩)] at E2
  obtain ⟨M, HM⟩ : ∃ M : Int, Hid (M = (t.many : Int)) := ⟨_, rfl⟩
  obtain ⟨Aa, HAa⟩ : ∃ A : Int, Hid (A = (a : Int)) := ⟨_, rfl⟩
  rw [← HM.out] at E1 E2
  rw [← HAa.out] at E2 ⊢
  have y1 : wrap64 (M - 1) = M - 1 := by have := HM.out; have := h.mny; unfold wrap64; omega
  have HH : Hid (IsRow w lo g t k) := h
  have HK : Hid (k + 2 * t.high ≤ 4611686018427382000 ∧ a < t.many) := ⟨hk, ha⟩
  clear h hk ha
  go_enter Tryd.func12, Tryd.ntmps12
  go_wp2_with fail
  go_fit E1
  rintro e w1 ⟨rfl, b1⟩
  go_wp2_with fail
  go_fit (E2 w1)
  rintro e w2 ⟨rfl, rfl⟩
  have H2 := HH.out.below b1
  have HH2 : Hid (IsRow w2 lo g t k) := H2
  have HB1 : Hid (Below w.heap.size w w2) := b1
  clear E1 E2 H2 b1
  go_wp2_with fail
  go_fit (toIndex_any Aa w2)
  rintro e w5 ⟨rfl, rfl⟩
  have b3 := (Below.refl w2.heap.size w2).alloc (Nat.le_refl _) (.cells #[.int .i64 Aa] 3)
  have H3 := HH2.out.below b3
  have EW := walkI_any t a w2.heap.size g k (w2.alloc (.cells #[.int .i64 Aa] 3)) (by have := HK.out; omega) H3.at_ (List.nodup_cons.1 H3.nd).1 H3.fit HK.out.2 H3.row (by rw [HAa.out]; exact heap_alloc_new w2 _) (by have := lt_of_heap HH2.out.row; omega)
  have HH3 : Hid (IsRow (w2.alloc (.cells #[.int .i64 Aa] 3)) lo g t k) := H3
  have HB3 : Hid (Below w2.heap.size w2 (w2.alloc (.cells #[.int .i64 Aa] 3))) := b3
  clear H3 b3
  go_wp2_with fail
  go_fit EW
  rintro e w6 ⟨rfl, ⟨k6, hk6, R6⟩, K6⟩
  have HF : Hid (∀ w', Below w6.heap.size w6 w' → (∃ k', IsRow w' lo g t k' ∧ k' ≤ k + 2 * t.high) ∧ Below lo w w') := fun w' b => by
    have I6 := HH3.out.count K6 R6
    refine ⟨⟨k6, I6.below b, hk6⟩, ?_⟩
    exact (((HB1.out.mono HH.out.lo_le).trans (HB3.out.mono HH2.out.lo_le)).trans (K6.below (fun z hz => by rw [List.mem_singleton.1 hz]; exact HH.out.low.1) HH3.out.lo_le)).trans (b.mono I6.lo_le)
  obtain ⟨nl, nr, nm, ns, nn, NB⟩ := at_heap (HH3.out.count K6 R6).at_ HK.out.2
  have N7 := heap_alloc_old NB (.cells #[.int .i64 (a : Int), .int .i64 (t.pre a), .int .i64 0] 50)
  obtain ⟨⟨nb, nx, nu⟩, hnb⟩ : ∃ q, t.at' a = q := ⟨_, rfl⟩
  rw [hnb] at EW NB N7 ⊢
  dsimp only at N7 NB ⊢
  have n0 : w6.cell? ⟨nb, 0, none⟩ = some (.int .i64 nx) := Lib.cell_of_heap NB 0
  have n1 : w6.cell? ⟨nb, 1, none⟩ = some (.int .i64 nu) := Lib.cell_of_heap NB 1
  have nz := lt_of_heap NB
  have b7 := (Below.refl w6.heap.size w6).alloc (Nat.le_refl _) (.cells #[.int .i64 (a : Int), .int .i64 (t.pre a), .int .i64 0] 50)
  have HNB : Hid (t.at' a = (nb, nx, nu)) := hnb
  clear EW R6 K6 hnb
  go_wp2
  go_quiet (fail)
  go_wp2
  go_returns
  exact ⟨by rw [HNB.out]; rfl, HF.out _ (below_drewN b7 nq)⟩

set_option maxRecDepth 100000 in
set_option maxHeartbeats 4000000 in
theorem find_ok (t : (Deep.BT Int)) (a : Int) (lo g k : Nat) (w : World) (hk : k + 2 * t.high ≤ 4611686018427382000) (h : IsRow w lo g t k) (ha0 : 0 ≤ a) (ha : a < t.wide) :
    Calls Tryd.prog 14 #[.pointer (some ⟨g, 0, none⟩), .int .i64 a] w fun e w' => e = .returned (.tuple #[.int .i64 (t.find a : Int), .int .i64 (a - t.pre (t.find a)), .nilIface]) ∧ (∃ k', IsRow w' lo g t k' ∧ k' ≤ k + 2 * t.high) ∧ Below lo w w' := by
  have E1 := wide_any t g k w h.at_ h.row
  obtain ⟨M, HM⟩ : ∃ M : Int, Hid (M = t.wide) := ⟨_, rfl⟩
  rw [← HM.out] at E1
  have g0 : ¬ a < 0 := by omega
  have g1 : ¬ M ≤ a := by have := HM.out; omega
  have HH : Hid (IsRow w lo g t k) := h
  have HK : Hid (k + 2 * t.high ≤ 4611686018427382000 ∧ 0 ≤ a ∧ a < t.wide) := ⟨hk, ha0, ha⟩
  have hsp := find_spec t (fun q hq => (h.itm q hq).1) a ha0 ha
  have hw := h.fit.wide
  have y1 : IntKind.i64.wrap (a - t.pre (t.find a)) = a - t.pre (t.find a) := IntWalk.i64_in _ (by
    have := pre_pos t (fun q hq => (h.itm q hq).1) (t.find a)
    omega)
  clear h hk ha0 ha hsp hw
  go_enter Tryd.func14, Tryd.ntmps14
  go_wp2_with fail
  go_fit E1
  rintro e w2 ⟨rfl, b1⟩
  have H2 := HH.out.below b1
  have HH2 : Hid (IsRow w2 lo g t k) := H2
  have HB1 : Hid (Below w.heap.size w w2) := b1
  clear E1 H2 b1
  go_wp2_with fail
  go_fit (toPlace_any a w2)
  rintro e w5 ⟨rfl, rfl⟩
  have b3 := (Below.refl w2.heap.size w2).alloc (Nat.le_refl _) (.cells #[.int .i64 a] 3)
  have H3 := HH2.out.below b3
  have EW := walkP_any t a w2.heap.size g k (w2.alloc (.cells #[.int .i64 a] 3)) (by have := HK.out; omega) H3.at_ (List.nodup_cons.1 H3.nd).1 H3.fit HK.out.2.1 HK.out.2.2 H3.row (heap_alloc_new w2 _) (by have := lt_of_heap HH2.out.row; omega)
  have HH3 : Hid (IsRow (w2.alloc (.cells #[.int .i64 a] 3)) lo g t k) := H3
  have HB3 : Hid (Below w2.heap.size w2 (w2.alloc (.cells #[.int .i64 a] 3))) := b3
  clear H3 b3
  go_wp2_with fail
  go_fit EW
  rintro e w6 ⟨rfl, ⟨k6, hk6, R6⟩, K6⟩
  have HF : Hid (∀ w', Below w6.heap.size w6 w' → (∃ k', IsRow w' lo g t k' ∧ k' ≤ k + 2 * t.high) ∧ Below lo w w') := fun w' b => by
    have I6 := HH3.out.count K6 R6
    refine ⟨⟨k6, I6.below b, hk6⟩, ?_⟩
    exact (((HB1.out.mono HH.out.lo_le).trans (HB3.out.mono HH2.out.lo_le)).trans (K6.below (fun z hz => by rw [List.mem_singleton.1 hz]; exact HH.out.low.1) HH3.out.lo_le)).trans (b.mono I6.lo_le)
  have b7 := (Below.refl w6.heap.size w6).alloc (Nat.le_refl _) (.cells #[.int .i64 (t.find a : Int), .int .i64 (t.pre (t.find a)), .int .i64 0] 50)
  clear EW R6 K6
  go_wp2
  go_quiet (fail)
  go_wp2
  go_returns
  exact ⟨rfl, HF.out _ (below_drewN b7 nq)⟩
end Go.Proofs.YtebglecjajghjaaDoor
