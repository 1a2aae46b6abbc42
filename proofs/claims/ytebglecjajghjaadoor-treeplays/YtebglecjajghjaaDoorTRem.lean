/-
  What is proved: what package tree's method remove makes of a piece, and what it costs.
  Conditions: the piece lies in memory, and is no longer than a row may be.
-/
import Derived.Test.YtebglecjajghjaaDoorTJoin
namespace Go.Proofs.YtebglecjajghjaaDoor
open Go.RowKit

theorem rem_lo (b x : Nat) (u : Int) (l r : (Deep.BT Int)) (k : Nat) (h : k < l.many) : remT (.node b x u l r) k = level b x u (remT l k) r := by
  conv => lhs; unfold remT
  rw [if_pos h]
theorem rem_hi (b x : Nat) (u : Int) (l r : (Deep.BT Int)) (k : Nat) (h : ¬ k < l.many) (h2 : l.many < k) : remT (.node b x u l r) k = level b x u l (remT r (k - l.many - 1)) := by
  conv => lhs; unfold remT
  rw [if_neg h, if_pos h2]
theorem rem_mid (b x : Nat) (u : Int) (l r : (Deep.BT Int)) (k : Nat) (h : ¬ k < l.many) (h2 : ¬ l.many < k) : remT (.node b x u l r) k = joinT l r := by
  conv => lhs; unfold remT
  rw [if_neg h, if_neg h2]
  cases r <;> rfl

set_option maxRecDepth 100000 in
set_option maxHeartbeats 8000000 in
theorem remove_any (t : (Deep.BT Int)) : RemC t := by
  induction t with
  | nil => intro at0 g p k w _ _ _ h; simp [Deep.BT.many] at h
  | node c y v l r il ir =>
    intro at0 g p k w hk hat1 hi hat0 hT hd hR
    obtain ⟨hc, hl, hr⟩ := hT
    have HD : Hid (g :: (Deep.BT.node c y v l r).blocks).Nodup := hd
    simp only [Deep.BT.blocks, List.nodup_cons, List.mem_cons, List.mem_append, List.nodup_append, not_or] at hd
    have hgc : g ≠ c := by grind
    have ng : g ∉ l.blocks ∧ g ∉ r.blocks := by grind
    have HI : Hid (l.many + 1 + r.many ≤ 1000000 ∧ ∀ q ∈ (Deep.BT.node c y v l r).items, 0 ≤ q.2 ∧ q.2 ≤ 1000000) := hi
    simp only [Deep.BT.high, Deep.BT.many] at hk hat0
    have him := HI.out.1
    clear hi
    have c1 : w.cell? ⟨g, 1, none⟩ = some (.int .i64 k) := Lib.cell_of_heap hR 1
    have cf := Lib.frozen_of_heap hR
    have w1 : wrap64 ((k : Int) + 1) = (k : Int) + 1 := by unfold wrap64; omega
    have K0 : Kp [g] w (w.setCell ⟨g, 1, none⟩ (.int .i64 ((k : Int) + 1))) := (Kp.refl [g] w).set (List.mem_singleton.2 rfl) 1 _
    have R0 : RowAt g p (k + 1) (w.setCell ⟨g, 1, none⟩ (.int .i64 ((k : Int) + 1))) := set_at hR 1 _
    have C0 := K0.heap hc (by simpa using Ne.symm hgc)
    have s0 : (w.setCell ⟨g, 1, none⟩ (.int .i64 ((k : Int) + 1))).cell? ⟨c, 2, none⟩ = some l.pt := Lib.cell_of_heap C0 2
    have EK := look_any l g p (k + 1) _ (by omega) (hl.kp K0 (off_one ng.1)) ng.1 R0
    have hfd := fld0
    show Calls Tryd.prog 21 #[.pointer (some ⟨g, 0, none⟩), .pointer (some ⟨c, 0, none⟩), .int .i64 (at0 : Int)] w _
    go_enter Tryd.func21, Tryd.ntmps21
    go_wp2_with fail
    go_fit EK
    rintro e w2 ⟨rfl, rfl⟩
    have KW : Kp [g] w (lookW l g (k + 1) (w.setCell ⟨g, 1, none⟩ (.int .i64 ((k : Int) + 1)))) := (K0.set (List.mem_singleton.2 rfl) _ _).alloc _
    have RW : RowAt g p (k + 1 + l.one) (lookW l g (k + 1) (w.setCell ⟨g, 1, none⟩ (.int .i64 ((k : Int) + 1)))) := heap_alloc_old (row_set (rowE_of R0) rfl) _
    generalize lookW l g (k + 1) (w.setCell ⟨g, 1, none⟩ (.int .i64 ((k : Int) + 1))) = W at *
    have CW := KW.heap hc (by simpa using Ne.symm hgc)
    have LW := hl.kp KW (off_one ng.1)
    have QW := hr.kp KW (off_one ng.2)
    have hol := one_le l
    clear c1 cf w1 K0 R0 C0 s0 EK hc hl hr hR
    by_cases hc1 : at0 < l.many
    · have g1 : (at0 : Int) < l.many := by omega
      have hat : at0 < l.many := by omega
      have HE : Hid (remT (Deep.BT.node c y v l r) at0 = level c y v (remT l at0) r) := rem_lo c y v l r at0 hc1
      have HG : Hid ((Deep.BT.node c y v l r).at' at0 = l.at' at0) := by
        show _ = _
        exact at_lo c y v l r at0 hc1
      have hir := items_rem l at0 hat
      have mn : (remT l at0).many + 1 = l.many := by
        have h9 := congrArg List.length hir
        rw [items_len, List.length_append, List.length_take, List.length_drop, items_len] at h9
        omega
      have mi : ∀ q ∈ (remT l at0).items, q ∈ l.items := fun q hq => by
        rw [hir, List.mem_append] at hq
        rcases hq with h | h
        · exact List.mem_of_mem_take h
        · exact List.mem_of_mem_drop h
      have hrb := rem_blocks l at0 hat
      have E := il at0 g p (k + 1 + l.one) W.drew (by omega) (by omega) ⟨by omega, fun q hq => HI.out.2 q (by simp only [Deep.BT.items, List.mem_append, List.mem_cons]; grind)⟩ hat (Deep.BT.At.kp_drew LW) (by simp only [List.nodup_cons]; grind) (heap_drew RW)
      have c2 : W.cell? ⟨c, 2, none⟩ = some l.pt := Lib.cell_of_heap CW 2
      have HO : Hid (r.At W) := QW
      have HCW : Hid _ := CW
      have HKW : Hid _ := KW
      have nd4 : (∀ z ∈ r.blocks, z ∉ g :: l.blocks) ∧ c ∉ g :: l.blocks := by simp only [List.mem_cons, not_or]; grind
      have ncR : c ∉ r.blocks := by grind
      have nbm : (l.at' at0).1 ∈ l.blocks := hrb.mem_iff.1 (by simp)
      have nnew : ∀ z ∈ (remT l at0).blocks, z ∈ l.blocks := fun z hz => hrb.mem_iff.1 (List.mem_cons_of_mem _ hz)
      have HMX : Hid ((Deep.BT.node c y v l r).high = 1 + max l.high r.high) := rfl
      have HHI : Hid (k + 18 * (1 + max l.high r.high) ≤ 4611686018427383000 ∧ at0 < l.many + 1 + r.many ∧ l.many + 1 + r.many ≤ 1000000 ∧ at0 < l.many ∧ l.one ≤ 1) := ⟨hk, hat0, him, hat, hol⟩
      clear LW QW RW CW KW il ir hk hat0 him hat hol hat1 hir
      obtain ⟨⟨nb, nx, nu⟩, hnb⟩ : ∃ q, l.at' at0 = q := ⟨_, rfl⟩
      rw [hnb] at E nbm hrb HG
      dsimp only at E nbm hrb
      clear hnb
      go_wp2
      go_region_with (go_at_call 21; go_fit E; rintro e w3 ⟨rfl, T3, ⟨lp, rp, nm, ns, nn, N3⟩, ⟨k3, hk3, R3⟩, K3⟩; have C3 := K3.heap (heap_drew HCW.out) nd4.2; have z2 : w3.cell? ⟨c, 2, none⟩ = some l.pt := Lib.cell_of_heap C3 2; have zf := Lib.frozen_of_heap C3)
      all_goals
        have KN : Kp [c] w3 (w3.setCell ⟨c, 2, none⟩ (remT l at0).pt) := (Kp.refl _ w3).set (by simp) _ _
        have KA : Kp (g :: (Deep.BT.node c y v l r).blocks) w (w3.setCell ⟨c, 2, none⟩ (remT l at0).pt) := ((HKW.out.drew.mono (fun z hz => by rw [List.mem_singleton.1 hz]; simp)).trans (K3.mono (fun z hz => by simp only [Deep.BT.blocks, List.mem_cons, List.mem_append] at hz ⊢; rcases hz with h | h <;> simp [h]))).trans (KN.mono (fun z hz => by rw [List.mem_singleton.1 hz]; simp [Deep.BT.blocks]))
        have RN : RowAt g p k3 (w3.setCell ⟨c, 2, none⟩ (remT l at0).pt) := heap_set_other R3 hgc
        have NN := heap_set_other (g := c) (i := 2) (v := (remT l at0).pt) N3 (fun e => nd4.2 (by rw [← e]; exact List.mem_cons_of_mem _ nbm))
        have HF : Hid (_ ∧ _ ∧ _ ∧ _ ∧ _ ∧ _ ∧ _) := ⟨set_at C3 2 (remT l at0).pt, T3.kp KN (off_one (fun e => nd4.2 (List.mem_cons_of_mem _ (nnew c e)))), ((HO.out.kp_drew).kp K3 nd4.1).kp KN (off_one ncR), NN, RN, KA, hk3⟩
        clear KN KA RN NN T3 R3 K3 C3 N3 c2 hk3
        obtain ⟨C4, T4, O4, N4, R4, K4, hk4⟩ := HF.out
        clear HF E z2 zf
        have hk4' : k3 ≤ k + 2 + 18 * l.high := by have h2 := HHI.out; omega
        generalize w3.setCell ⟨c, 2, none⟩ (remT l at0).pt = wc at *
        have hpm : (nb :: (Deep.BT.node c y v (remT l at0) r).blocks).Perm (Deep.BT.node c y v l r).blocks := (List.Perm.swap _ _ _).trans (List.Perm.cons _ (List.Perm.append_right _ hrb))
        have hn5 : (g :: nb :: (Deep.BT.node c y v (remT l at0) r).blocks).Nodup := (List.Perm.cons g hpm).nodup_iff.2 HD.out
        have hn6 : (g :: (Deep.BT.node c y v (remT l at0) r).blocks).Nodup := by
          rw [List.nodup_cons, List.nodup_cons] at hn5
          exact List.nodup_cons.2 ⟨fun e => hn5.1 (List.mem_cons_of_mem _ e), hn5.2.2⟩
        have hng : nb ∉ g :: (Deep.BT.node c y v (remT l at0) r).blocks := fun e => by
          rcases List.mem_cons.1 e with h | h
          · exact (List.nodup_cons.1 hn5).1 (by rw [h]; simp)
          · exact (List.nodup_cons.1 (List.nodup_cons.1 hn5).2).1 h
        have EL := level_any c y v (remT l at0) r g p k3 _ _ _ wc (by have := HHI.out; omega) ⟨by have := HHI.out; simp only [Deep.BT.many]; omega, fun q hq => by
          have h2 := HI.out.2 q
          simp only [Deep.BT.items, List.mem_append, List.mem_cons] at hq h2
          exact h2 (by rcases hq with h | h | h <;> grind)⟩ C4 T4 O4 hn6 R4
        have HK4 : Hid (_ ∧ _ ∧ _) := ⟨K4, N4, hk4'⟩
        have HPM : Hid _ := hpm
        have HNG : Hid _ := hng
        clear C4 T4 O4 R4 K4 N4 hk4 hk4' hn5 hn6 hpm hng
        go_wp2_with fail
        go_fit EL
        rintro e w5 ⟨rfl, T5, ⟨k5, hk5, R5⟩, K5⟩
        have HF : Hid (Kp (g :: (Deep.BT.node c y v l r).blocks) w w5 ∧ w5.heap[nb]? = _) := ⟨HK4.out.1.trans (K5.mono (fun z hz => by
          rcases List.mem_cons.1 hz with h | h
          · rw [h]; simp
          · exact List.mem_cons_of_mem _ (HPM.out.mem_iff.1 (List.mem_cons_of_mem _ h)))), K5.heap HK4.out.2.1 HNG.out⟩
        have HK5 : Hid (k5 ≤ k3 + 16) := hk5
        clear EL K5 hk5
        go_wp2
        go_returns
        exact ⟨by rw [HE.out, HG.out]; rfl, by rw [HE.out]; exact T5, ⟨lp, rp, nm, ns, nn, by rw [HG.out]; exact HF.out.2⟩, ⟨k5, by have h1 := HK5.out; have h2 := HK4.out.2.2; have h3 := HMX.out; rw [h3]; omega, R5⟩, HF.out.1⟩
    · by_cases hc2 : l.many < at0
      · have g1 : ¬ (at0 : Int) < l.many := by omega
        have g2 : (l.many : Int) < at0 := by omega
        have hat : (at0 - l.many - 1) < r.many := by omega
        have HE : Hid (remT (Deep.BT.node c y v l r) at0 = level c y v l (remT r (at0 - l.many - 1))) := rem_hi c y v l r at0 hc1 hc2
        have HG : Hid ((Deep.BT.node c y v l r).at' at0 = r.at' (at0 - l.many - 1)) := by
          show _ = _
          have e := at_hi c y v l r (at0 - l.many - 1)
          rw [show l.many + 1 + (at0 - l.many - 1) = at0 from by omega] at e
          exact e
        have hir := items_rem r (at0 - l.many - 1) hat
        have mn : (remT r (at0 - l.many - 1)).many + 1 = r.many := by
          have h9 := congrArg List.length hir
          rw [items_len, List.length_append, List.length_take, List.length_drop, items_len] at h9
          omega
        have mi : ∀ q ∈ (remT r (at0 - l.many - 1)).items, q ∈ r.items := fun q hq => by
          rw [hir, List.mem_append] at hq
          rcases hq with h | h
          · exact List.mem_of_mem_take h
          · exact List.mem_of_mem_drop h
        have hrb := rem_blocks r (at0 - l.many - 1) hat
        have E := ir (at0 - l.many - 1) g p (k + 1 + l.one) W.drew (by omega) (by omega) ⟨by omega, fun q hq => HI.out.2 q (by simp only [Deep.BT.items, List.mem_append, List.mem_cons]; grind)⟩ hat (Deep.BT.At.kp_drew QW) (by simp only [List.nodup_cons]; grind) (heap_drew RW)
        have c2 : W.cell? ⟨c, 3, none⟩ = some r.pt := Lib.cell_of_heap CW 3
        have HO : Hid (l.At W) := LW
        have HCW : Hid _ := CW
        have HKW : Hid _ := KW
        have y1 : IntKind.i64.wrap ((at0 : Int) - l.many) = (at0 : Int) - l.many := IntWalk.i64_in _ (by omega)
        have y2 : IntKind.i64.wrap ((at0 : Int) - l.many - 1) = ((at0 - l.many - 1 : Nat) : Int) := by rw [IntWalk.i64_in _ (by omega)]; omega
        have nd4 : (∀ z ∈ l.blocks, z ∉ g :: r.blocks) ∧ c ∉ g :: r.blocks := by simp only [List.mem_cons, not_or]; grind
        have ncR : c ∉ l.blocks := by grind
        have nbm : (r.at' (at0 - l.many - 1)).1 ∈ r.blocks := hrb.mem_iff.1 (by simp)
        have nnew : ∀ z ∈ (remT r (at0 - l.many - 1)).blocks, z ∈ r.blocks := fun z hz => hrb.mem_iff.1 (List.mem_cons_of_mem _ hz)
        have HMX : Hid ((Deep.BT.node c y v l r).high = 1 + max l.high r.high) := rfl
        have HHI : Hid (k + 18 * (1 + max l.high r.high) ≤ 4611686018427383000 ∧ at0 < l.many + 1 + r.many ∧ l.many + 1 + r.many ≤ 1000000 ∧ (at0 - l.many - 1) < r.many ∧ l.one ≤ 1) := ⟨hk, hat0, him, hat, hol⟩
        clear LW QW RW CW KW il ir hk hat0 him hat hol hat1 hir
        obtain ⟨⟨nb, nx, nu⟩, hnb⟩ : ∃ q, r.at' (at0 - l.many - 1) = q := ⟨_, rfl⟩
        rw [hnb] at E nbm hrb HG
        dsimp only at E nbm hrb
        clear hnb
        go_wp2
        go_region_with (go_at_call 21; go_fit E; rintro e w3 ⟨rfl, T3, ⟨lp, rp, nm, ns, nn, N3⟩, ⟨k3, hk3, R3⟩, K3⟩; have C3 := K3.heap (heap_drew HCW.out) nd4.2; have z2 : w3.cell? ⟨c, 3, none⟩ = some r.pt := Lib.cell_of_heap C3 3; have zf := Lib.frozen_of_heap C3)
        all_goals
          have KN : Kp [c] w3 (w3.setCell ⟨c, 3, none⟩ (remT r (at0 - l.many - 1)).pt) := (Kp.refl _ w3).set (by simp) _ _
          have KA : Kp (g :: (Deep.BT.node c y v l r).blocks) w (w3.setCell ⟨c, 3, none⟩ (remT r (at0 - l.many - 1)).pt) := ((HKW.out.drew.mono (fun z hz => by rw [List.mem_singleton.1 hz]; simp)).trans (K3.mono (fun z hz => by simp only [Deep.BT.blocks, List.mem_cons, List.mem_append] at hz ⊢; rcases hz with h | h <;> simp [h]))).trans (KN.mono (fun z hz => by rw [List.mem_singleton.1 hz]; simp [Deep.BT.blocks]))
          have RN : RowAt g p k3 (w3.setCell ⟨c, 3, none⟩ (remT r (at0 - l.many - 1)).pt) := heap_set_other R3 hgc
          have NN := heap_set_other (g := c) (i := 3) (v := (remT r (at0 - l.many - 1)).pt) N3 (fun e => nd4.2 (by rw [← e]; exact List.mem_cons_of_mem _ nbm))
          have HF : Hid (_ ∧ _ ∧ _ ∧ _ ∧ _ ∧ _ ∧ _) := ⟨set_at C3 3 (remT r (at0 - l.many - 1)).pt, T3.kp KN (off_one (fun e => nd4.2 (List.mem_cons_of_mem _ (nnew c e)))), ((HO.out.kp_drew).kp K3 nd4.1).kp KN (off_one ncR), NN, RN, KA, hk3⟩
          clear KN KA RN NN T3 R3 K3 C3 N3 c2 hk3
          obtain ⟨C4, T4, O4, N4, R4, K4, hk4⟩ := HF.out
          clear HF E z2 zf
          have hk4' : k3 ≤ k + 2 + 18 * r.high := by have h2 := HHI.out; omega
          generalize w3.setCell ⟨c, 3, none⟩ (remT r (at0 - l.many - 1)).pt = wc at *
          have hpm : (nb :: (Deep.BT.node c y v l (remT r (at0 - l.many - 1))).blocks).Perm (Deep.BT.node c y v l r).blocks := (List.Perm.swap _ _ _).trans (List.Perm.cons _ (List.perm_middle.symm.trans (List.Perm.append_left _ hrb)))
          have hn5 : (g :: nb :: (Deep.BT.node c y v l (remT r (at0 - l.many - 1))).blocks).Nodup := (List.Perm.cons g hpm).nodup_iff.2 HD.out
          have hn6 : (g :: (Deep.BT.node c y v l (remT r (at0 - l.many - 1))).blocks).Nodup := by
            rw [List.nodup_cons, List.nodup_cons] at hn5
            exact List.nodup_cons.2 ⟨fun e => hn5.1 (List.mem_cons_of_mem _ e), hn5.2.2⟩
          have hng : nb ∉ g :: (Deep.BT.node c y v l (remT r (at0 - l.many - 1))).blocks := fun e => by
            rcases List.mem_cons.1 e with h | h
            · exact (List.nodup_cons.1 hn5).1 (by rw [h]; simp)
            · exact (List.nodup_cons.1 (List.nodup_cons.1 hn5).2).1 h
          have EL := level_any c y v l (remT r (at0 - l.many - 1)) g p k3 _ _ _ wc (by have := HHI.out; omega) ⟨by have := HHI.out; simp only [Deep.BT.many]; omega, fun q hq => by
            have h2 := HI.out.2 q
            simp only [Deep.BT.items, List.mem_append, List.mem_cons] at hq h2
            exact h2 (by rcases hq with h | h | h <;> grind)⟩ C4 O4 T4 hn6 R4
          have HK4 : Hid (_ ∧ _ ∧ _) := ⟨K4, N4, hk4'⟩
          have HPM : Hid _ := hpm
          have HNG : Hid _ := hng
          clear C4 T4 O4 R4 K4 N4 hk4 hk4' hn5 hn6 hpm hng
          go_wp2_with fail
          go_fit EL
          rintro e w5 ⟨rfl, T5, ⟨k5, hk5, R5⟩, K5⟩
          have HF : Hid (Kp (g :: (Deep.BT.node c y v l r).blocks) w w5 ∧ w5.heap[nb]? = _) := ⟨HK4.out.1.trans (K5.mono (fun z hz => by
            rcases List.mem_cons.1 hz with h | h
            · rw [h]; simp
            · exact List.mem_cons_of_mem _ (HPM.out.mem_iff.1 (List.mem_cons_of_mem _ h)))), K5.heap HK4.out.2.1 HNG.out⟩
          have HK5 : Hid (k5 ≤ k3 + 16) := hk5
          clear EL K5 hk5
          go_wp2
          go_returns
          exact ⟨by rw [HE.out, HG.out]; rfl, by rw [HE.out]; exact T5, ⟨lp, rp, nm, ns, nn, by rw [HG.out]; exact HF.out.2⟩, ⟨k5, by have h1 := HK5.out; have h2 := HK4.out.2.2; have h3 := HMX.out; rw [h3]; omega, R5⟩, HF.out.1⟩
      · have hmid : at0 = l.many := by omega
        have g1 : ¬ (at0 : Int) < l.many := by omega
        have g2 : ¬ (l.many : Int) < at0 := by omega
        have HE : Hid (remT (Deep.BT.node c y v l r) at0 = joinT l r) := by
          exact rem_mid c y v l r at0 hc1 hc2
        have HG : Hid ((Deep.BT.node c y v l r).at' at0 = (c, th y, v)) := by show _ = _; rw [hmid]; exact at_mid c y v l r
        have E := join_any l r ir g p (k + 1 + l.one) W (by omega) (by omega) (fun q hq => HI.out.2 q (by simp only [Deep.BT.items, List.mem_append, List.mem_cons]; rcases hq with h | h <;> simp [h])) LW QW (by rw [List.nodup_cons, List.mem_append, List.nodup_append, not_or]; grind) RW
        have c2 : W.cell? ⟨c, 2, none⟩ = some l.pt := Lib.cell_of_heap CW 2
        have c3 : W.cell? ⟨c, 3, none⟩ = some r.pt := Lib.cell_of_heap CW 3
        have HCW : Hid _ := CW
        have HKW : Hid _ := KW
        have hcn : c ∉ g :: (l.blocks ++ r.blocks) := by simp only [List.mem_cons, List.mem_append, not_or]; grind
        have HMX : Hid ((Deep.BT.node c y v l r).high = 1 + max l.high r.high ∧ l.one ≤ 1) := ⟨rfl, hol⟩
        clear LW QW RW CW KW il ir hk hat0 him hol hat1 hc1 hc2 hmid
        go_wp2_with fail
        go_fit E
        rintro e w5 ⟨rfl, T5, ⟨k5, hk5, R5⟩, K5⟩
        have HF : Hid (Kp (g :: (Deep.BT.node c y v l r).blocks) w w5 ∧ w5.heap[c]? = _ ∧ k5 ≤ k + 1 + l.one + 18 * r.high + 16) := ⟨(HKW.out.mono (fun z hz => by rw [List.mem_singleton.1 hz]; simp)).trans (K5.mono (fun z hz => by
          rcases List.mem_cons.1 hz with h | h
          · rw [h]; simp
          · exact List.mem_cons_of_mem _ (by simp only [Deep.BT.blocks]; exact List.mem_cons_of_mem _ h))), K5.heap HCW.out hcn, hk5⟩
        clear E K5 hk5 c2 c3
        go_wp2
        go_returns
        exact ⟨by rw [HE.out, HG.out]; rfl, by rw [HE.out]; exact T5, ⟨_, _, _, _, _, by rw [HG.out]; exact HF.out.2.1⟩, ⟨k5, by have h1 := HF.out.2.2; have h2 := HMX.out; rw [h2.1]; omega, R5⟩, HF.out.1⟩
end Go.Proofs.YtebglecjajghjaaDoor
