/-
  What is proved: what package tree's method insert makes of a piece, and what it costs.
  Conditions: the piece lies in memory, and is no longer than a row may be.
-/
import Derived.Test.YtebglecjajghjaaDoorTLev
namespace Go.Proofs.YtebglecjajghjaaDoor
open Go.RowKit

theorem many_ins (b : Nat) (x u : Int) (t : (Deep.BT Int)) (k : Nat) (h : k ≤ t.many) : (insT b x u t k).many = t.many + 1 := by
  rw [← items_len, items_ins b x u t k h, List.length_append, List.length_cons, List.length_take, List.length_drop, items_len]
  omega

theorem mem_ins (b : Nat) (x u : Int) (t : (Deep.BT Int)) (k : Nat) (h : k ≤ t.many) (q : Int × Int) : q ∈ (insT b x u t k).items ↔ q = (x, u) ∨ q ∈ t.items := by
  rw [items_ins b x u t k h, List.mem_append, List.mem_cons]
  have := List.mem_append (a := q) (s := t.items.take k) (t := t.items.drop k)
  rw [List.take_append_drop] at this
  grind

set_option maxRecDepth 100000 in
set_option maxHeartbeats 8000000 in
theorem insert_any (f : Nat) (x u : Int) (t : (Deep.BT Int)) : ∀ (at0 g : Nat) (p : Value) (k : Nat) (w : World), k + 18 * t.high ≤ 4611686018427383000 → at0 ≤ 1000000 → (t.many + 1 ≤ 1000000 ∧ (0 ≤ u ∧ u ≤ 1000000) ∧ ∀ q ∈ t.items, 0 ≤ q.2 ∧ q.2 ≤ 1000000) → at0 ≤ t.many → t.At w → w.heap[f]? = some (.cells (ncells x u (.pointer none) (.pointer none) 0 0 0) 52) → (g :: f :: t.blocks).Nodup → RowAt g p k w →
    Calls Tryd.prog 20 #[.pointer (some ⟨g, 0, none⟩), t.pt, .int .i64 (at0 : Int), .pointer (some ⟨f, 0, none⟩)] w fun e w' => e = .returned (insT f x u t at0).pt ∧ (insT f x u t at0).At w' ∧ (∃ k', k' ≤ k + 18 * t.high + 16 ∧ RowAt g p k' w') ∧ Kp (g :: f :: t.blocks) w w' := by
  induction t with
  | nil =>
    intro at0 g p k w hk _ hi _ _ hf hd hR
    have EL := level_any f (cd x) u .nil .nil g p k 0 0 0 w (by simp only [Deep.BT.high] at hk; omega) ⟨by simp [Deep.BT.many], fun q hq => by simp [Deep.BT.items] at hq; subst hq; exact hi.2.1⟩ (by rw [th_cd]; exact hf) trivial trivial (by simpa [Deep.BT.blocks] using hd) hR
    show Calls Tryd.prog 20 #[.pointer (some ⟨g, 0, none⟩), .pointer none, .int .i64 (at0 : Int), .pointer (some ⟨f, 0, none⟩)] w _
    go_enter Tryd.func20, Tryd.ntmps20
    go_wp2_with fail
    go_fit EL
    rintro e w2 ⟨rfl, T2, ⟨k2, hk2, R2⟩, K2⟩
    go_wp2
    go_ret
    exact ⟨rfl, T2, ⟨k2, by omega, R2⟩, K2⟩
  | node c y v l r il ir =>
    intro at0 g p k w hk hat1 hi hat0 hT hf hd hR
    obtain ⟨hc, hl, hr⟩ := hT
    have HD : Hid (g :: f :: (Deep.BT.node c y v l r).blocks).Nodup := hd
    simp only [Deep.BT.blocks, List.nodup_cons, List.mem_cons, List.mem_append, List.nodup_append, not_or] at hd
    have hgc : g ≠ c := by grind
    have hgf : g ≠ f := by grind
    have ng : g ∉ l.blocks ∧ g ∉ r.blocks := by grind
    simp only [Deep.BT.high, Deep.BT.many] at hk hi hat0
    have HI : Hid (l.many + 1 + r.many + 1 ≤ 1000000 ∧ (0 ≤ u ∧ u ≤ 1000000) ∧ ∀ q ∈ (Deep.BT.node c y v l r).items, 0 ≤ q.2 ∧ q.2 ≤ 1000000) := hi
    have him := hi.1
    clear hi
    have c1 : w.cell? ⟨g, 1, none⟩ = some (.int .i64 k) := Lib.cell_of_heap hR 1
    have cf := Lib.frozen_of_heap hR
    have w1 : wrap64 ((k : Int) + 1) = (k : Int) + 1 := by unfold wrap64; omega
    have K0 : Kp [g] w (w.setCell ⟨g, 1, none⟩ (.int .i64 ((k : Int) + 1))) := (Kp.refl [g] w).set (List.mem_singleton.2 rfl) 1 _
    have R0 : RowAt g p (k + 1) (w.setCell ⟨g, 1, none⟩ (.int .i64 ((k : Int) + 1))) := set_at hR 1 _
    have C0 := K0.heap hc (by simpa using Ne.symm hgc)
    have s0 : (w.setCell ⟨g, 1, none⟩ (.int .i64 ((k : Int) + 1))).cell? ⟨c, 2, none⟩ = some l.pt := Lib.cell_of_heap C0 2
    have EK := look_any l g p (k + 1) _ (by omega) (hl.kp K0 (off_one ng.1)) ng.1 R0
    have hfd := fld0
    show Calls Tryd.prog 20 #[.pointer (some ⟨g, 0, none⟩), .pointer (some ⟨c, 0, none⟩), .int .i64 (at0 : Int), .pointer (some ⟨f, 0, none⟩)] w _
    go_enter Tryd.func20, Tryd.ntmps20
    go_wp2_with fail
    go_fit EK
    rintro e w2 ⟨rfl, rfl⟩
    have KW : Kp [g] w (lookW l g (k + 1) (w.setCell ⟨g, 1, none⟩ (.int .i64 ((k : Int) + 1)))) := (K0.set (List.mem_singleton.2 rfl) _ _).alloc _
    have RW : RowAt g p (k + 1 + l.one) (lookW l g (k + 1) (w.setCell ⟨g, 1, none⟩ (.int .i64 ((k : Int) + 1)))) := heap_alloc_old (row_set (rowE_of R0) rfl) _
    generalize lookW l g (k + 1) (w.setCell ⟨g, 1, none⟩ (.int .i64 ((k : Int) + 1))) = W at *
    have CW := KW.heap hc (by simpa using Ne.symm hgc)
    have FW := KW.heap hf (by simpa using Ne.symm hgf)
    have LW := hl.kp KW (off_one ng.1)
    have QW := hr.kp KW (off_one ng.2)
    have hol := one_le l
    clear c1 cf w1 K0 R0 C0 s0 EK hc hl hr hf hR
    by_cases hc1 : at0 ≤ l.many
    · have g1 : (at0 : Int) ≤ l.many := by omega
      have hat : at0 ≤ l.many := by omega
      have HE : Hid (insT f x u (Deep.BT.node c y v l r) at0 = level c y v (insT f x u l at0) r) := by show _ = _; rw [insT, if_pos hc1]
      have mn := many_ins f x u l at0 hat
      have mi := mem_ins f x u l at0 hat
      have E := il at0 g p (k + 1 + l.one) W.drew (by omega) (by omega) ⟨by omega, HI.out.2.1, fun q hq => HI.out.2.2 q (by simp only [Deep.BT.items, List.mem_append, List.mem_cons]; grind)⟩ hat (Deep.BT.At.kp_drew LW) (heap_drew FW) (by simp only [List.nodup_cons, List.mem_cons, not_or]; grind) (heap_drew RW)
      have c2 : W.cell? ⟨c, 2, none⟩ = some l.pt := Lib.cell_of_heap CW 2
      have HO : Hid (r.At W) := QW
      have HCW : Hid _ := CW
      have HKW : Hid _ := KW
      have nd4 : (∀ z ∈ r.blocks, z ∉ g :: f :: l.blocks) ∧ c ∉ g :: f :: l.blocks := by simp only [List.mem_cons, not_or]; grind
      have ncR : c ∉ r.blocks := by grind
      clear il ir
      have HMX : Hid ((Deep.BT.node c y v l r).high = 1 + max l.high r.high) := rfl
      clear LW QW FW RW CW KW
      go_wp2
      go_cut [] from 10 (fun wx => wx.heap[c]? = some (.cells (ncells (th y) v (insT f x u l at0).pt r.pt (((l.many + 1 + r.many : Nat) : Int)) (l.wide + v + r.wide) ((1 + max l.high r.high : Nat) : Int)) 52) ∧ (insT f x u l at0).At wx ∧ r.At wx ∧ (∃ k', k' ≤ k + 2 + 18 * l.high + 16 ∧ RowAt g p k' wx) ∧ Kp (g :: f :: (Deep.BT.node c y v l r).blocks) w wx)
      case first =>
        go_region_with (go_at_call 20; go_fit E; rintro e w3 ⟨rfl, T3, ⟨k3, hk3, R3⟩, K3⟩; have C3 := K3.heap (heap_drew HCW.out) nd4.2; have z2 : w3.cell? ⟨c, 2, none⟩ = some l.pt := Lib.cell_of_heap C3 2; have zf := Lib.frozen_of_heap C3)
        all_goals
          have KN : Kp [c] w3 (w3.setCell ⟨c, 2, none⟩ (insT f x u l at0).pt) := (Kp.refl _ w3).set (by simp) _ _
          have KA : Kp (g :: f :: (Deep.BT.node c y v l r).blocks) w (w3.setCell ⟨c, 2, none⟩ (insT f x u l at0).pt) := ((HKW.out.drew.mono (fun z hz => by rw [List.mem_singleton.1 hz]; simp)).trans (K3.mono (fun z hz => by simp only [Deep.BT.blocks, List.mem_cons, List.mem_append] at hz ⊢; rcases hz with h | h | h <;> simp [h]))).trans (KN.mono (fun z hz => by rw [List.mem_singleton.1 hz]; simp [Deep.BT.blocks]))
          have RN : RowAt g p k3 (w3.setCell ⟨c, 2, none⟩ (insT f x u l at0).pt) := heap_set_other R3 hgc
          have HF : Hid (_ ∧ _ ∧ _ ∧ _ ∧ _) := ⟨set_at C3 2 (insT f x u l at0).pt, T3.kp KN (off_one (fun e => by have := (ins_blocks f x u l at0).mem_iff.1 e; simp only [List.mem_cons] at this; exact nd4.2 (List.mem_cons_of_mem _ (List.mem_cons.2 this)))), ((HO.out.kp_drew).kp K3 nd4.1).kp KN (off_one ncR), RN, KA⟩
          clear KN KA RN T3 R3 K3 C3 c2
          go_wp2
          go_meet
          exact ⟨HF.out.1, HF.out.2.1, HF.out.2.2.1, ⟨k3, by have := one_le l; omega, HF.out.2.2.2.1⟩, HF.out.2.2.2.2⟩
      case rest =>
        obtain ⟨C4, T4, O4, ⟨k4, hk4, R4⟩, K4⟩ := hcut
        clear c2 E
        have EL := level_any c y v (insT f x u l at0) r g p k4 _ _ _ wc (by omega) ⟨by simp only [Deep.BT.many]; omega, fun q hq => by
          simp only [Deep.BT.items, List.mem_append, List.mem_cons] at hq
          have h1 := (mi q).1
          have h2 := HI.out.2.2 q
          simp only [Deep.BT.items, List.mem_append, List.mem_cons] at h2
          by_cases hx : q = (x, u)
          · rw [hx]; exact HI.out.2.1
          · exact h2 (by rcases hq with h | h | h <;> grind)⟩ C4 T4 O4 (by
          have hp : (g :: (Deep.BT.node c y v (insT f x u l at0) r).blocks).Perm (g :: f :: (Deep.BT.node c y v l r).blocks) := List.Perm.cons _ (((List.Perm.cons _ (List.Perm.append_right _ (ins_blocks f x u l at0))).trans (List.Perm.swap _ _ _)))
          exact hp.nodup_iff.2 HD.out) R4
        have HK4 : Hid _ := K4
        clear C4 T4 O4 R4 K4
        go_wp2_with fail
        go_fit EL
        rintro e w5 ⟨rfl, T5, ⟨k5, hk5, R5⟩, K5⟩
        have HF : Hid (Kp (g :: f :: (Deep.BT.node c y v l r).blocks) w w5) := HK4.out.trans (K5.mono (fun z hz => by
          have hp : (g :: (Deep.BT.node c y v (insT f x u l at0) r).blocks).Perm (g :: f :: (Deep.BT.node c y v l r).blocks) := List.Perm.cons _ (((List.Perm.cons _ (List.Perm.append_right _ (ins_blocks f x u l at0))).trans (List.Perm.swap _ _ _)))
          exact hp.mem_iff.1 hz))
        go_wp2
        go_ret
        exact ⟨by rw [HE.out]; rfl, by rw [HE.out]; exact T5, ⟨k5, by rw [HMX.out]; omega, R5⟩, HF.out⟩
    · have g1 : ¬ (at0 : Int) ≤ l.many := by omega
      have hat : (at0 - l.many - 1) ≤ r.many := by omega
      have HE : Hid (insT f x u (Deep.BT.node c y v l r) at0 = level c y v l (insT f x u r (at0 - l.many - 1))) := by show _ = _; rw [insT, if_neg hc1]
      have mn := many_ins f x u r (at0 - l.many - 1) hat
      have mi := mem_ins f x u r (at0 - l.many - 1) hat
      have E := ir (at0 - l.many - 1) g p (k + 1 + l.one) W.drew (by omega) (by omega) ⟨by omega, HI.out.2.1, fun q hq => HI.out.2.2 q (by simp only [Deep.BT.items, List.mem_append, List.mem_cons]; grind)⟩ hat (Deep.BT.At.kp_drew QW) (heap_drew FW) (by simp only [List.nodup_cons, List.mem_cons, not_or]; grind) (heap_drew RW)
      have c2 : W.cell? ⟨c, 3, none⟩ = some r.pt := Lib.cell_of_heap CW 3
      have HO : Hid (l.At W) := LW
      have HCW : Hid _ := CW
      have HKW : Hid _ := KW
      have y1 : IntKind.i64.wrap ((at0 : Int) - l.many) = (at0 : Int) - l.many := IntWalk.i64_in _ (by omega)
      have y2 : IntKind.i64.wrap ((at0 : Int) - l.many - 1) = ((at0 - l.many - 1 : Nat) : Int) := by rw [IntWalk.i64_in _ (by omega)]; omega
      have nd4 : (∀ z ∈ l.blocks, z ∉ g :: f :: r.blocks) ∧ c ∉ g :: f :: r.blocks := by simp only [List.mem_cons, not_or]; grind
      have ncR : c ∉ l.blocks := by grind
      clear il ir
      have HMX : Hid ((Deep.BT.node c y v l r).high = 1 + max l.high r.high) := rfl
      clear LW QW FW RW CW KW
      go_wp2
      go_cut [] from 10 (fun wx => wx.heap[c]? = some (.cells (ncells (th y) v l.pt (insT f x u r (at0 - l.many - 1)).pt (((l.many + 1 + r.many : Nat) : Int)) (l.wide + v + r.wide) ((1 + max l.high r.high : Nat) : Int)) 52) ∧ (insT f x u r (at0 - l.many - 1)).At wx ∧ l.At wx ∧ (∃ k', k' ≤ k + 2 + 18 * r.high + 16 ∧ RowAt g p k' wx) ∧ Kp (g :: f :: (Deep.BT.node c y v l r).blocks) w wx)
      case first =>
        go_region_with (go_at_call 20; go_fit E; rintro e w3 ⟨rfl, T3, ⟨k3, hk3, R3⟩, K3⟩; have C3 := K3.heap (heap_drew HCW.out) nd4.2; have z2 : w3.cell? ⟨c, 3, none⟩ = some r.pt := Lib.cell_of_heap C3 3; have zf := Lib.frozen_of_heap C3)
        all_goals
          have KN : Kp [c] w3 (w3.setCell ⟨c, 3, none⟩ (insT f x u r (at0 - l.many - 1)).pt) := (Kp.refl _ w3).set (by simp) _ _
          have KA : Kp (g :: f :: (Deep.BT.node c y v l r).blocks) w (w3.setCell ⟨c, 3, none⟩ (insT f x u r (at0 - l.many - 1)).pt) := ((HKW.out.drew.mono (fun z hz => by rw [List.mem_singleton.1 hz]; simp)).trans (K3.mono (fun z hz => by simp only [Deep.BT.blocks, List.mem_cons, List.mem_append] at hz ⊢; rcases hz with h | h | h <;> simp [h]))).trans (KN.mono (fun z hz => by rw [List.mem_singleton.1 hz]; simp [Deep.BT.blocks]))
          have RN : RowAt g p k3 (w3.setCell ⟨c, 3, none⟩ (insT f x u r (at0 - l.many - 1)).pt) := heap_set_other R3 hgc
          have HF : Hid (_ ∧ _ ∧ _ ∧ _ ∧ _) := ⟨set_at C3 3 (insT f x u r (at0 - l.many - 1)).pt, T3.kp KN (off_one (fun e => by have := (ins_blocks f x u r (at0 - l.many - 1)).mem_iff.1 e; simp only [List.mem_cons] at this; exact nd4.2 (List.mem_cons_of_mem _ (List.mem_cons.2 this)))), ((HO.out.kp_drew).kp K3 nd4.1).kp KN (off_one ncR), RN, KA⟩
          clear KN KA RN T3 R3 K3 C3 c2
          go_wp2
          go_meet
          exact ⟨HF.out.1, HF.out.2.1, HF.out.2.2.1, ⟨k3, by have := one_le l; omega, HF.out.2.2.2.1⟩, HF.out.2.2.2.2⟩
      case rest =>
        obtain ⟨C4, T4, O4, ⟨k4, hk4, R4⟩, K4⟩ := hcut
        clear c2 E
        have EL := level_any c y v l (insT f x u r (at0 - l.many - 1)) g p k4 _ _ _ wc (by omega) ⟨by simp only [Deep.BT.many]; omega, fun q hq => by
          simp only [Deep.BT.items, List.mem_append, List.mem_cons] at hq
          have h1 := (mi q).1
          have h2 := HI.out.2.2 q
          simp only [Deep.BT.items, List.mem_append, List.mem_cons] at h2
          by_cases hx : q = (x, u)
          · rw [hx]; exact HI.out.2.1
          · exact h2 (by rcases hq with h | h | h <;> grind)⟩ C4 O4 T4 (by
          have hp : (g :: (Deep.BT.node c y v l (insT f x u r (at0 - l.many - 1))).blocks).Perm (g :: f :: (Deep.BT.node c y v l r).blocks) := List.Perm.cons _ (((List.Perm.cons _ (((List.Perm.append_left _ (ins_blocks f x u r (at0 - l.many - 1))).trans List.perm_middle))).trans (List.Perm.swap _ _ _)))
          exact hp.nodup_iff.2 HD.out) R4
        have HK4 : Hid _ := K4
        clear C4 T4 O4 R4 K4
        go_wp2_with fail
        go_fit EL
        rintro e w5 ⟨rfl, T5, ⟨k5, hk5, R5⟩, K5⟩
        have HF : Hid (Kp (g :: f :: (Deep.BT.node c y v l r).blocks) w w5) := HK4.out.trans (K5.mono (fun z hz => by
          have hp : (g :: (Deep.BT.node c y v l (insT f x u r (at0 - l.many - 1))).blocks).Perm (g :: f :: (Deep.BT.node c y v l r).blocks) := List.Perm.cons _ (((List.Perm.cons _ (((List.Perm.append_left _ (ins_blocks f x u r (at0 - l.many - 1))).trans List.perm_middle))).trans (List.Perm.swap _ _ _)))
          exact hp.mem_iff.1 hz))
        go_wp2
        go_ret
        exact ⟨by rw [HE.out]; rfl, by rw [HE.out]; exact T5, ⟨k5, by rw [HMX.out]; omega, R5⟩, HF.out⟩
end Go.Proofs.YtebglecjajghjaaDoor
