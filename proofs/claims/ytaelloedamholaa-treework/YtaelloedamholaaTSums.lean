/-
  What is proved: the law TreeSums of booklaw6, called with any list of numbers, returns true, and nothing that was there has turned.
  Conditions: the list lies in memory.
-/
import Derived.Test.YtaelloedamholaaTAsk
import Derived.Test.YtaelloedamholaaTOpen
namespace Go.Proofs.Ytaelloedamholaa
open Go.RowKit

theorem pre_succ (t : (Deep.BT Int)) (k : Nat) (h : k < t.many) : t.pre (k + 1) = t.pre k + (t.at' k).2.2 := by
  have h1 := at_item t k h
  unfold Deep.BT.pre
  obtain ⟨hk, h2⟩ := List.getElem?_eq_some_iff.1 h1
  rw [List.take_succ_eq_append_getElem hk, List.map_append, List.sum_append, h2]
  simp

theorem pre_mono (t : (Deep.BT Int)) (h : ∀ q ∈ t.items, 0 ≤ q.2 ∧ q.2 ≤ 1000000) {i j : Nat} (hij : i ≤ j) (hj : j ≤ t.many) : t.pre i ≤ t.pre j := by
  induction hij with
  | refl => exact Int.le_refl _
  | step hm ih =>
    rename_i m
    have h1 := ih (by omega)
    have h2 : t.pre m.succ = t.pre m + (t.at' m).2.2 := pre_succ t m (by omega)
    have h3 := (h _ (List.mem_of_getElem? (at_item t m (by omega)))).1
    omega

theorem pre_bounds (t : (Deep.BT Int)) (h : t.fit) (n : Nat) (hn : n < t.many) : (0 ≤ t.pre n ∧ t.pre n ≤ 1000000000000) ∧ (0 ≤ (t.at' n).2.2 ∧ (t.at' n).2.2 ≤ 1000000) := by
  have h1 := pre_mono t h.2 (Nat.le_of_lt hn) (Nat.le_refl _)
  rw [pre_all] at h1
  have h2 := h.wide
  exact ⟨⟨pre_pos t (fun q hq => (h.2 q hq).1) n, by omega⟩, h.2 _ (List.mem_of_getElem? (at_item t n hn))⟩

theorem pre_le_wide (t : (Deep.BT Int)) (h : ∀ q ∈ t.items, 0 ≤ q.2 ∧ q.2 ≤ 1000000) (n : Nat) (hn : n < t.many) : t.pre n + (t.at' n).2.2 ≤ t.wide := by
  rw [← pre_succ t n hn, ← pre_all]
  exact pre_mono t h hn (Nat.le_refl _)

/-- A place lies in one thing alone. -/
theorem find_is (t : (Deep.BT Int)) (h : ∀ q ∈ t.items, 0 ≤ q.2 ∧ q.2 ≤ 1000000) (n : Nat) (hn : n < t.many) (a : Int) (h1 : t.pre n ≤ a) (h2 : a < t.pre n + (t.at' n).2.2) : t.find a = n := by
  have hp := pre_pos t (fun q hq => (h q hq).1) n
  obtain ⟨f1, f2, f3⟩ := find_spec t (fun q hq => (h q hq).1) a (by omega) (by have := pre_le_wide t h n hn; omega)
  rw [← pre_succ t _ f1] at f3
  rw [← pre_succ t n hn] at h2
  rcases Nat.lt_trichotomy (t.find a) n with e | e | e
  · have := pre_mono t h (show t.find a + 1 ≤ n from e) (by omega)
    omega
  · exact e
  · have := pre_mono t h (show n + 1 ≤ t.find a from e) (by omega)
    omega

theorem find_last (t : (Deep.BT Int)) (h : ∀ q ∈ t.items, 0 ≤ q.2 ∧ q.2 ≤ 1000000) (n : Nat) (hn : n < t.many) (A U : Int) (hA : A = t.pre n) (hU : U = (t.at' n).2.2) (hu : 0 < U) : t.find (A + U - 1) = n ∧ 0 ≤ A + U - 1 ∧ A + U - 1 < t.wide := by
  have h1 := pre_pos t (fun q hq => (h q hq).1) n
  have h2 := pre_le_wide t h n hn
  exact ⟨find_is t h n hn (A + U - 1) (by omega) (by omega), by omega, by omega⟩

theorem wrap_sum {A U : Int} (h : (0 ≤ A ∧ A ≤ 1000000000000) ∧ (0 ≤ U ∧ U ≤ 1000000)) : IntKind.i64.wrap (A + U) = A + U ∧ wrap64 (A + U) = A + U ∧ wrap64 (A + U - 1) = A + U - 1 ∧ IntKind.i64.wrap (U - 1) = U - 1 ∧ wrap64 (U - 1) = U - 1 :=
  ⟨IntWalk.i64_in _ (by omega), by unfold wrap64; omega, by unfold wrap64; omega, IntWalk.i64_in _ (by omega), by unfold wrap64; omega⟩

/-- Ahead, at an index or at the end. -/
theorem ahead_le (t : (Deep.BT Int)) (a : Nat) (lo g k : Nat) (w : World) (hk : k + 2 * t.high ≤ 4611686018427382000) (h : IsRow w lo g t k) (ha : a ≤ t.many) :
    Calls Try.prog 10 #[.pointer (some ⟨g, 0, none⟩), .int .i64 (a : Int)] w fun e w' => e = .returned (.tuple #[.int .i64 (t.pre a), .nilIface]) ∧ (∃ k', IsRow w' lo g t k' ∧ k' ≤ k + 2 * t.high) ∧ Below lo w w' := by
  rcases Nat.lt_or_ge a t.many with h1 | h1
  · exact ahead_ok t a lo g k w hk h h1
  · obtain rfl : a = t.many := by omega
    refine (ahead_end t lo g k w h).mono ?_
    rintro e w' ⟨rfl, I, b⟩
    exact ⟨by rw [pre_all], ⟨k, I, by omega⟩, b⟩

set_option maxRecDepth 100000 in
set_option maxHeartbeats 16000000 in
theorem sums_any (v : Value) (l : List Int) (w : World) (hv : IsInts w v l) :
    Calls Try.prog 4 #[v] w fun e w' => e = .returned (.bool true) ∧ Below w.heap.size w w' := by
  obtain ⟨a0, cap, rfl, hcap, hlen, hr, hcell⟩ := hv
  have HR : Hid (∀ x ∈ l, I64 x) := hr
  have HC : Hid (l ≠ [] → ∃ b off, a0 = some ⟨b, off, none⟩ ∧ b < w.heap.size ∧ ∀ i (h : i < l.length), w.cell? ⟨b, off + i, none⟩ = some (.int .i64 l[i])) := hcell
  clear hr hcell hcap hlen
  go_enter Try.func4, Try.ntmps4
  go_wp2_with fail
  go_fit (new_any w)
  rintro e w1 ⟨rfl, I1, b1⟩
  have E1 : Calls Try.prog 6 #[.pointer (some ⟨w.heap.size, 0, none⟩), .int .i64 0, .int .i64 1, .int .i64 4] w1 _ := insertR_ok .nil 0 1 4 _ _ 0 w1 (by simp [Deep.BT.high]) I1 (Nat.zero_le _) (by omega) (by simp [Deep.BT.many])
  clear I1
  go_wp2_with fail
  go_fit E1
  rintro e w2 ⟨rfl, ⟨b, k2, I2, hk2⟩, b2⟩
  rw [show insT b 1 4 .nil 0 = .node b (cd 1) 4 .nil .nil from by simp [insT, level, Deep.BT.high]] at I2
  have E2 := find_ok (.node b (cd 1) 4 .nil .nil) 3 _ _ k2 w2 (by simp [Deep.BT.high] at hk2 ⊢; omega) I2 (by omega) (by simp [Deep.BT.wide])
  rw [show (Deep.BT.node b (cd 1) 4 .nil .nil).find 3 = 0 from by simp [Deep.BT.find, Deep.BT.wide, Deep.BT.many], show (Deep.BT.node b (cd 1) 4 .nil .nil).pre 0 = 0 from by simp [Deep.BT.pre]] at E2
  have B2 : Below w.heap.size w w2 := b1.trans b2
  clear E1 I2 hk2 b2
  go_wp2_with fail
  go_fit E2
  rintro e w3 ⟨rfl, -, b3⟩
  have B3 : Below w.heap.size w w3 := B2.trans b3
  clear E2 b3 B2 b1
  go_wp2_with fail
  go_fit (new_any w3)
  rintro e w4 ⟨rfl, I4, b4⟩
  have B4 : Below w.heap.size w w4 := B3.trans (b4.mono B3.size)
  have HLO0 : Hid (w.heap.size ≤ w3.heap.size) := B3.size
  clear b4 B3
  go_wp2_with fail
  go_loopw [9] (fun i wr => ∃ (j : Nat) (t : (Deep.BT Int)) (k : Nat), j ≤ l.length ∧ j ≤ 100 ∧ i = .int .i64 (j : Int) ∧ IsRow wr w3.heap.size w3.heap.size t k ∧ t.many = j ∧ k ≤ j * 2000 ∧ Below w.heap.size w wr) (fun i _ => 100 - (RowKit.intOf i).toNat)
  case atStart => exact ⟨0, .nil, 0, Nat.zero_le _, Nat.zero_le _, rfl, I4, rfl, by omega, B4⟩
  case round =>
    clear I4 B4
    obtain ⟨j, t, k, hj1, hj2, rfl, hI, htm, hk2, hB⟩ := hrel
    by_cases hlt : j < l.length
    · by_cases hlt2 : j < 100
      · obtain ⟨b, off, rfl, h4, h5⟩ := HC.out (fun e => by rw [e] at hlt; simp at hlt)
        have x0 : wr.cell? ⟨b, off + j, none⟩ = some (.int .i64 l[j]) := by rw [hB.cell (p := ⟨b, off + j, none⟩) h4]; exact h5 j hlt
        have g1 : (j : Int) < l.length := by omega
        have g2 : (j : Int) < 100 := by omega
        obtain ⟨x, hx⟩ : ∃ x, l[j] = x := ⟨_, rfl⟩
        rw [hx] at x0
        have HI : Hid (IsRow wr w3.heap.size w3.heap.size t k) := hI
        have HB : Hid (Below w.heap.size w wr) := hB
        have HT : Hid (t.many = j ∧ k ≤ j * 2000 ∧ t.high ≤ 100) := ⟨htm, hk2, by have := high_many t; omega⟩
        have q2 : ((j : Int) / 2) = ((j / 2 : Nat) : Int) := by omega
        clear h5 hx hI hB hk2 htm
        by_cases hu : 0 ≤ x ∧ x ≤ 1000000
        · have EI := insertR_ok t (j / 2) (j : Int) x _ _ k wr (by have := HT.out; omega) HI.out (by have := HT.out; omega) hu (by have := HT.out; omega)
          rw [← q2] at EI
          clear hu q2
          go_wp2_with fail
          go_fit EI
          rintro e w5 ⟨rfl, ⟨b5, k5, I5, hk5⟩, bb5⟩
          have HF : Hid (_ ∧ _ ∧ _) := ⟨I5, hk5, bb5⟩
          have hwj : wrap64 ((j : Int) + 1) = ((j + 1 : Nat) : Int) := by unfold wrap64; omega
          clear EI I5 hk5 bb5 x0
          go_wp2
          go_roundw
          case rel =>
            obtain ⟨h1, h2, h3⟩ := HF.out
            have h4 := HT.out
            exact ⟨j + 1, _, k5, hlt, by omega, by first | rfl | simp | (rw [hwj]), h1, by rw [many_ins _ _ _ _ _ (by omega)]; omega, by omega, HB.out.trans (h3.mono HLO0.out)⟩
          case measure => clear hwj; simp [RowKit.intOf]; omega
        · have EI := insertR_bad t (j / 2) (j : Int) x _ _ k wr HI.out (by have := HT.out; omega) hu
          rw [← q2] at EI
          clear hu q2
          go_wp2_with fail
          go_fit EI
          rintro e w5 ⟨rfl, bb5⟩
          have HF : Hid (Below w.heap.size w w5) := HB.out.trans (bb5.mono HB.out.size)
          clear EI bb5 x0
          go_wp2
          go_ret
          exact ⟨rfl, HF.out⟩
      · have g1 : (j : Int) < l.length := by omega
        have g2 : ¬ (j : Int) < 100 := by omega
        clear HC
        have E5 := len_any t (w3.heap.size) k wr hI.at_ hI.row
        obtain ⟨M, HM⟩ : ∃ M : Int, Hid (M = (t.many : Int)) := ⟨_, rfl⟩
        rw [← HM.out] at E5
        have HI0 : Hid (IsRow wr w3.heap.size w3.heap.size t k) := hI
        have HB0 : Hid (Below w.heap.size w wr) := hB
        have HT : Hid (t.many ≤ 100 ∧ k ≤ 200000) := ⟨by omega, by omega⟩
        clear hI hB hk2 htm hj1 hj2
        go_wp2_with fail
        go_fit E5
        rintro e w6 ⟨rfl, b6⟩
        have I6 := HI0.out.below b6
        have B6 : Below w.heap.size w w6 := HB0.out.trans (b6.mono HB0.out.size)
        have HLO : Hid (w.heap.size ≤ w3.heap.size) := HLO0.out
        clear E5 HI0 HB0 b6
        go_wp2_with fail
        go_loopw [12] (fun i wr => ∃ (n k' : Nat), n ≤ t.many ∧ i = .int .i64 (n : Int) ∧ IsRow wr w3.heap.size w3.heap.size t k' ∧ k' ≤ 200000 + n * 1000 ∧ Below w.heap.size w wr) (fun i _ => t.many - (RowKit.intOf i).toNat)
        case atStart => exact ⟨0, k, Nat.zero_le _, rfl, I6, by have := HT.out; omega, B6⟩
        case round =>
          clear I6 B6
          obtain ⟨n, k', hn, rfl, hI, hk', hB⟩ := hrel
          have hhi := high_many t
          have hlo := HT.out.1
          have HHI : Hid (t.high ≤ 100) := by show _ ≤ _; omega
          clear hhi hlo
          by_cases hlt : n < t.many
          · have g1 : (n : Int) < M := by have := HM.out; omega
            have HN : Hid (n < t.many ∧ k' ≤ 200000 + n * 1000 ∧ t.many ≤ 100) := ⟨hlt, hk', HT.out.1⟩
            have EA := ahead_ok t n _ _ k' wr (by have := HHI.out; have := HN.out; omega) hI hlt
            have HB1 : Hid (Below w.heap.size w wr) := hB
            have HPN : Hid (t.pre (n + 1) = t.pre n + (t.at' n).2.2) := pre_succ t n hlt
            have HIT : Hid (∀ q ∈ t.items, 0 ≤ q.2 ∧ q.2 ≤ 1000000) := hI.itm
            have HPB : Hid ((0 ≤ t.pre n ∧ t.pre n ≤ 1000000000000) ∧ (0 ≤ (t.at' n).2.2 ∧ (t.at' n).2.2 ≤ 1000000)) := pre_bounds t hI.fit n hlt
            have hwn : wrap64 ((n : Int) + 1) = ((n + 1 : Nat) : Int) := by unfold wrap64; have := HN.out; omega
            clear hI hB hk' hn hlt
            go_wp2_with fail
            go_fit EA
            rintro e w7 ⟨rfl, ⟨k7, I7, hk7⟩, b7⟩
            have EB := ahead_le t (n + 1) _ _ k7 w7 (by have := HHI.out; have := HN.out; omega) I7 (by have := HN.out; omega)
            have HK7 : Hid (k7 ≤ k' + 2 * t.high) := hk7
            have HB7 : Hid (Below w.heap.size w w7) := HB1.out.trans (b7.mono HLO.out)
            clear EA I7 hk7 b7 HB1
            go_wp2_with fail
            go_fit EB
            rintro e w8 ⟨rfl, ⟨k8, I8, hk8⟩, b8⟩
            have EC := get_ok t n _ _ k8 w8 (by have := HHI.out; have := HN.out; have := HK7.out; omega) I8 HN.out.1
            have HK8 : Hid (k8 ≤ k7 + 2 * t.high) := hk8
            have HB8 : Hid (Below w.heap.size w w8) := HB7.out.trans (b8.mono HLO.out)
            rw [HPN.out]
            obtain ⟨A, HA⟩ : ∃ A : Int, Hid (A = t.pre n) := ⟨_, rfl⟩
            obtain ⟨U, HU⟩ : ∃ U : Int, Hid (U = (t.at' n).2.2) := ⟨_, rfl⟩
            rw [← HU.out] at EC
            rw [← HA.out, ← HU.out]
            have HAB : Hid ((0 ≤ A ∧ A ≤ 1000000000000) ∧ (0 ≤ U ∧ U ≤ 1000000)) := by rw [HA.out, HU.out]; exact HPB.out
            have y1 : IntKind.i64.wrap (A + U) = A + U := (wrap_sum HAB.out).1
            have y2 : wrap64 (A + U) = A + U := (wrap_sum HAB.out).2.1
            have HFL : Hid (0 < U → t.find (A + U - 1) = n ∧ 0 ≤ A + U - 1 ∧ A + U - 1 < t.wide) := find_last t HIT.out n HN.out.1 A U HA.out HU.out
            clear EB I8 hk8 b8 HB7
            go_wp2_with fail
            go_fit EC
            rintro e w9 ⟨rfl, ⟨k9, I9, hk9⟩, b9⟩
            have HK9 : Hid (k9 ≤ k8 + 2 * t.high) := hk9
            have HB9 : Hid (Below w.heap.size w w9) := HB8.out.trans (b9.mono HLO.out)
            have HI9 : Hid (IsRow w9 w3.heap.size w3.heap.size t k9) := I9
            clear EC I9 hk9 b9 HB8
            by_cases hu : 0 < U
            · obtain ⟨hfd, hf0, hf1⟩ := HFL.out hu
              have EF := find_ok t (A + U - 1) _ _ k9 w9 (by have h1 := HHI.out; have h2 := HN.out; have h3 := HK7.out; have h4 := HK8.out; have h5 := HK9.out; clear hf0 hf1 hfd hu y1 y2 hwn g1; omega) HI9.out hf0 hf1
              rw [hfd, ← HA.out, show A + U - 1 - A = U - 1 from by clear hf0 hf1 hfd hu y1 y2 hwn g1; omega] at EF
              have y3 : wrap64 (A + U - 1) = A + U - 1 := (wrap_sum HAB.out).2.2.1
              have y4 : IntKind.i64.wrap (U - 1) = U - 1 := (wrap_sum HAB.out).2.2.2.1
              have y5 : wrap64 (U - 1) = U - 1 := (wrap_sum HAB.out).2.2.2.2
              clear hfd hf0 hf1
              go_wp2_with fail
              go_fit EF
              rintro e w10 ⟨rfl, ⟨k10, I10, hk10⟩, b10⟩
              have HB10 : Hid (Below w.heap.size w w10) := HB9.out.trans (b10.mono HLO.out)
              have HI10 : Hid (IsRow w10 w3.heap.size w3.heap.size t k10) := I10
              have HK10 : Hid (k10 ≤ k9 + 2 * t.high) := hk10
              clear EF I10 hk10 b10
              go_wp2
              go_roundw
              case rel =>
                have h1 := HN.out; have h2 := HHI.out; have h3 := HK7.out; have h4 := HK8.out; have h5 := HK9.out; have h6 := HK10.out
                exact ⟨n + 1, k10, by omega, by rw [hwn], HI10.out, by omega, HB10.out⟩
              case measure => rw [hwn]; clear hwn y1 y2; have h1 := HN.out; simp only [RowKit.intOf, Int.toNat_natCast]; omega
            · go_wp2
              go_roundw
              case rel =>
                have h1 := HN.out; have h2 := HHI.out; have h3 := HK7.out; have h4 := HK8.out; have h5 := HK9.out
                exact ⟨n + 1, k9, by omega, by rw [hwn], HI9.out, by omega, HB9.out⟩
              case measure => rw [hwn]; clear hwn y1 y2; have h1 := HN.out; simp only [RowKit.intOf, Int.toNat_natCast]; omega
          · obtain rfl : n = t.many := by omega
            have g1 : ¬ (t.many : Int) < M := by have := HM.out; omega
            have EA := ahead_end t _ _ k' wr hI
            rw [← HM.out] at EA
            have HB1 : Hid (Below w.heap.size w wr) := hB
            clear hI hB hk' hn hlt
            go_wp2_with fail
            go_fit EA
            rintro e w7 ⟨rfl, I7, b7⟩
            have EW := wide_any t _ k' w7 I7.at_ I7.row
            have HB7 : Hid (Below w.heap.size w w7) := HB1.out.trans (b7.mono HLO.out)
            clear EA I7 b7
            go_wp2_with fail
            go_fit EW
            rintro e w8 ⟨rfl, b8⟩
            have HB8 : Hid (Below w.heap.size w w8) := HB7.out.trans (b8.mono HB7.out.size)
            clear EW b8
            go_wp2
            go_ret
            exact ⟨by simp, HB8.out⟩
    · have g1 : ¬ (j : Int) < l.length := by omega
      clear HC
      have E5 := len_any t (w3.heap.size) k wr hI.at_ hI.row
      obtain ⟨M, HM⟩ : ∃ M : Int, Hid (M = (t.many : Int)) := ⟨_, rfl⟩
      rw [← HM.out] at E5
      have HI0 : Hid (IsRow wr w3.heap.size w3.heap.size t k) := hI
      have HB0 : Hid (Below w.heap.size w wr) := hB
      have HT : Hid (t.many ≤ 100 ∧ k ≤ 200000) := ⟨by omega, by omega⟩
      clear hI hB hk2 htm hj1 hj2
      go_wp2_with fail
      go_fit E5
      rintro e w6 ⟨rfl, b6⟩
      have I6 := HI0.out.below b6
      have B6 : Below w.heap.size w w6 := HB0.out.trans (b6.mono HB0.out.size)
      have HLO : Hid (w.heap.size ≤ w3.heap.size) := HLO0.out
      clear E5 HI0 HB0 b6
      go_wp2_with fail
      go_loopw [12] (fun i wr => ∃ (n k' : Nat), n ≤ t.many ∧ i = .int .i64 (n : Int) ∧ IsRow wr w3.heap.size w3.heap.size t k' ∧ k' ≤ 200000 + n * 1000 ∧ Below w.heap.size w wr) (fun i _ => t.many - (RowKit.intOf i).toNat)
      case atStart => exact ⟨0, k, Nat.zero_le _, rfl, I6, by have := HT.out; omega, B6⟩
      case round =>
        clear I6 B6
        obtain ⟨n, k', hn, rfl, hI, hk', hB⟩ := hrel
        have hhi := high_many t
        have hlo := HT.out.1
        have HHI : Hid (t.high ≤ 100) := by show _ ≤ _; omega
        clear hhi hlo
        by_cases hlt : n < t.many
        · have g1 : (n : Int) < M := by have := HM.out; omega
          have HN : Hid (n < t.many ∧ k' ≤ 200000 + n * 1000 ∧ t.many ≤ 100) := ⟨hlt, hk', HT.out.1⟩
          have EA := ahead_ok t n _ _ k' wr (by have := HHI.out; have := HN.out; omega) hI hlt
          have HB1 : Hid (Below w.heap.size w wr) := hB
          have HPN : Hid (t.pre (n + 1) = t.pre n + (t.at' n).2.2) := pre_succ t n hlt
          have HIT : Hid (∀ q ∈ t.items, 0 ≤ q.2 ∧ q.2 ≤ 1000000) := hI.itm
          have HPB : Hid ((0 ≤ t.pre n ∧ t.pre n ≤ 1000000000000) ∧ (0 ≤ (t.at' n).2.2 ∧ (t.at' n).2.2 ≤ 1000000)) := pre_bounds t hI.fit n hlt
          have hwn : wrap64 ((n : Int) + 1) = ((n + 1 : Nat) : Int) := by unfold wrap64; have := HN.out; omega
          clear hI hB hk' hn hlt
          go_wp2_with fail
          go_fit EA
          rintro e w7 ⟨rfl, ⟨k7, I7, hk7⟩, b7⟩
          have EB := ahead_le t (n + 1) _ _ k7 w7 (by have := HHI.out; have := HN.out; omega) I7 (by have := HN.out; omega)
          have HK7 : Hid (k7 ≤ k' + 2 * t.high) := hk7
          have HB7 : Hid (Below w.heap.size w w7) := HB1.out.trans (b7.mono HLO.out)
          clear EA I7 hk7 b7 HB1
          go_wp2_with fail
          go_fit EB
          rintro e w8 ⟨rfl, ⟨k8, I8, hk8⟩, b8⟩
          have EC := get_ok t n _ _ k8 w8 (by have := HHI.out; have := HN.out; have := HK7.out; omega) I8 HN.out.1
          have HK8 : Hid (k8 ≤ k7 + 2 * t.high) := hk8
          have HB8 : Hid (Below w.heap.size w w8) := HB7.out.trans (b8.mono HLO.out)
          rw [HPN.out]
          obtain ⟨A, HA⟩ : ∃ A : Int, Hid (A = t.pre n) := ⟨_, rfl⟩
          obtain ⟨U, HU⟩ : ∃ U : Int, Hid (U = (t.at' n).2.2) := ⟨_, rfl⟩
          rw [← HU.out] at EC
          rw [← HA.out, ← HU.out]
          have HAB : Hid ((0 ≤ A ∧ A ≤ 1000000000000) ∧ (0 ≤ U ∧ U ≤ 1000000)) := by rw [HA.out, HU.out]; exact HPB.out
          have y1 : IntKind.i64.wrap (A + U) = A + U := (wrap_sum HAB.out).1
          have y2 : wrap64 (A + U) = A + U := (wrap_sum HAB.out).2.1
          have HFL : Hid (0 < U → t.find (A + U - 1) = n ∧ 0 ≤ A + U - 1 ∧ A + U - 1 < t.wide) := find_last t HIT.out n HN.out.1 A U HA.out HU.out
          clear EB I8 hk8 b8 HB7
          go_wp2_with fail
          go_fit EC
          rintro e w9 ⟨rfl, ⟨k9, I9, hk9⟩, b9⟩
          have HK9 : Hid (k9 ≤ k8 + 2 * t.high) := hk9
          have HB9 : Hid (Below w.heap.size w w9) := HB8.out.trans (b9.mono HLO.out)
          have HI9 : Hid (IsRow w9 w3.heap.size w3.heap.size t k9) := I9
          clear EC I9 hk9 b9 HB8
          by_cases hu : 0 < U
          · obtain ⟨hfd, hf0, hf1⟩ := HFL.out hu
            have EF := find_ok t (A + U - 1) _ _ k9 w9 (by have h1 := HHI.out; have h2 := HN.out; have h3 := HK7.out; have h4 := HK8.out; have h5 := HK9.out; clear hf0 hf1 hfd hu y1 y2 hwn g1; omega) HI9.out hf0 hf1
            rw [hfd, ← HA.out, show A + U - 1 - A = U - 1 from by clear hf0 hf1 hfd hu y1 y2 hwn g1; omega] at EF
            have y3 : wrap64 (A + U - 1) = A + U - 1 := (wrap_sum HAB.out).2.2.1
            have y4 : IntKind.i64.wrap (U - 1) = U - 1 := (wrap_sum HAB.out).2.2.2.1
            have y5 : wrap64 (U - 1) = U - 1 := (wrap_sum HAB.out).2.2.2.2
            clear hfd hf0 hf1
            go_wp2_with fail
            go_fit EF
            rintro e w10 ⟨rfl, ⟨k10, I10, hk10⟩, b10⟩
            have HB10 : Hid (Below w.heap.size w w10) := HB9.out.trans (b10.mono HLO.out)
            have HI10 : Hid (IsRow w10 w3.heap.size w3.heap.size t k10) := I10
            have HK10 : Hid (k10 ≤ k9 + 2 * t.high) := hk10
            clear EF I10 hk10 b10
            go_wp2
            go_roundw
            case rel =>
              have h1 := HN.out; have h2 := HHI.out; have h3 := HK7.out; have h4 := HK8.out; have h5 := HK9.out; have h6 := HK10.out
              exact ⟨n + 1, k10, by omega, by rw [hwn], HI10.out, by omega, HB10.out⟩
            case measure => rw [hwn]; clear hwn y1 y2; have h1 := HN.out; simp only [RowKit.intOf, Int.toNat_natCast]; omega
          · go_wp2
            go_roundw
            case rel =>
              have h1 := HN.out; have h2 := HHI.out; have h3 := HK7.out; have h4 := HK8.out; have h5 := HK9.out
              exact ⟨n + 1, k9, by omega, by rw [hwn], HI9.out, by omega, HB9.out⟩
            case measure => rw [hwn]; clear hwn y1 y2; have h1 := HN.out; simp only [RowKit.intOf, Int.toNat_natCast]; omega
        · obtain rfl : n = t.many := by omega
          have g1 : ¬ (t.many : Int) < M := by have := HM.out; omega
          have EA := ahead_end t _ _ k' wr hI
          rw [← HM.out] at EA
          have HB1 : Hid (Below w.heap.size w wr) := hB
          clear hI hB hk' hn hlt
          go_wp2_with fail
          go_fit EA
          rintro e w7 ⟨rfl, I7, b7⟩
          have EW := wide_any t _ k' w7 I7.at_ I7.row
          have HB7 : Hid (Below w.heap.size w w7) := HB1.out.trans (b7.mono HLO.out)
          clear EA I7 b7
          go_wp2_with fail
          go_fit EW
          rintro e w8 ⟨rfl, b8⟩
          have HB8 : Hid (Below w.heap.size w w8) := HB7.out.trans (b8.mono HB7.out.size)
          clear EW b8
          go_wp2
          go_ret
          exact ⟨by simp, HB8.out⟩
end Go.Proofs.Ytaelloedamholaa
