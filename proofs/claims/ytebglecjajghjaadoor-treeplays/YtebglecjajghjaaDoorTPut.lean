/-
  What is proved: the functions put and cut of booklaw2, called with numbers that the call has made, answer as they should, and nothing that was there has turned.
  Conditions: the numbers lie in memory.
-/
import Derived.Test.YtebglecjajghjaaDoorTInts
namespace Go.Proofs.YtebglecjajghjaaDoor
open Go.RowKit

theorem row1 {B : Nat} {w : World} {v : Value} {L : List Int} {x : Int} {o : Obj} {v' : Value} {w' : World} (h : RowI B v L w) (hB : B ≤ w.heap.size) (hown : w'.ownsRow B 3 1 v' (L.length + 1) (intCells L ++ intCells [x])) (hg : (w.alloc o).grownBy w' v.ownBlock) : RowI B v' (L ++ [x]) w' ∧ Below B w w' := by
  refine ⟨?_, ((Below.refl B w).alloc hB o).grown hg (by simp; omega) (fun k hk => (h.lt k hk).1)⟩
  have e : intCells (L ++ [x]) = intCells L ++ intCells [x] := by simp
  unfold RowI
  rw [e, List.length_append]
  exact hown

set_option maxRecDepth 100000 in
set_option maxHeartbeats 2000000 in
theorem put_any (B : Nat) (v : Value) (l : List Int) (k : Nat) (x : Int) (w : World) (hv : RowI B v l w) (hr : ∀ x ∈ l, I64 x) (hl : l.length ≤ 1000) (hk : k ≤ l.length) :
    Calls Tryd.prog 9 #[v, .int .i64 (k : Int), .int .i64 x] w fun e w' => ∃ u, e = .returned u ∧ RowI w.heap.size u (l.take k ++ x :: l.drop k) w' ∧ Below w.heap.size w w' := by
  obtain ⟨i0, hi, hz0, hz1, hz2⟩ := info_parts infoI
  have HI : Hid (IsInts w v l) := hv.ints (by omega) hr
  have HN : Hid (RowI w.heap.size (.slice none 0 0) [] w) := World.ownsRow_nil w w.heap.size 3 1
  have HL : Hid (l.length ≤ 1000) := hl
  rcases hv.2 with ⟨rfl, h0⟩ | ⟨g, cap, cur, rfl, hg, hh, hc, hm, hz, ht⟩
  · obtain rfl : l = [] := List.length_eq_zero_iff.1 h0
    obtain rfl : k = 0 := by simpa using hk
    clear hv hr hk h0 hl
    go_enter Tryd.func9, Tryd.ntmps9
    go_wp2_with (first | (at_builtin; refine app_ints rfl _ _ rfl w.heap.size _ [] rfl HN.out _ [] rfl HI.out (Or.inl rfl) (by simp) (Nat.le_refl _) ?_))
    intro v1 w1 R1 B1
    have R1' : RowI w.heap.size v1 [] w1 := R1
    have HR1 : Hid (RowI w.heap.size v1 [] w1 ∧ Below w.heap.size w w1) := ⟨R1', B1⟩
    clear R1 R1' B1
    go_wp2_with (first | (at_builtin; refine wpList_append_own _ rfl _ _ 25 rfl w.heap.size 3 i0 (.int .i64 0) 1 8 Tryd.underlying25 hi hz0 hz1 hz2 rfl (by decide) v1 0 [] rfl (HR1.out.1.alloc _) ⟨w1.heap.size, 0, none⟩ 1 1 (intCells [x]) rfl rfl ?c1 ?c2 (by unfold maxLen; omega) (by omega) (by have := HR1.out.2.size; simp; omega) ?_))
    case c1 =>
      intro j u hj
      match j, hj with
      | 0, hj => simp at hj; subst hj; simp [Addr.add]
    case c2 => intro u hu; simp at hu; subst hu; rfl
    intro v2 w2 hown hgrow _
    obtain ⟨R2, B2⟩ := row1 HR1.out.1 HR1.out.2.size hown hgrow
    have HR2 : Hid (RowI w.heap.size v2 ([] ++ [x]) w2 ∧ Below w.heap.size w w2) := ⟨R2, HR1.out.2.trans B2⟩
    clear R2 B2 hown hgrow
    go_wp2_with (first | (at_builtin; refine app_ints rfl _ _ rfl w.heap.size _ ([] ++ [x]) rfl HR2.out.1 _ [] rfl (HI.out.below HR2.out.2) (Or.inl rfl) (by simp) HR2.out.2.size ?_))
    intro v3 w3 R3 B3
    have HR3 : Hid (_ ∧ _) := ⟨R3, HR2.out.2.trans B3⟩
    clear R3 B3
    go_wp2
    go_ret
    exact ⟨_, rfl, HR3.out.1, HR3.out.2⟩
  · have g1 : (k : Int) ≤ l.length := by omega
    have hkc : k ≤ cap := by omega
    have T1 := HI.out.take k hk
    have HT1 : Hid (IsInts w (.slice (some ⟨g, 0, none⟩) k cap) (l.take k)) := T1
    have HD0 : Hid (cap = k → IsInts w (.slice (some ⟨g, 0, none⟩) (l.length - k) 0) (l.drop k)) := fun e => by
      rw [show l.length - k = 0 from by omega]
      exact IsInts.end k (by omega)
    have HD1 : Hid (IsInts w (.slice (some ⟨g, k, none⟩) (l.length - k) (cap - k)) (l.drop k)) := by
      have := HI.out.drop k hk
      rw [Nat.zero_add] at this
      exact this
    have hlt : Hid ((l.take k).length + (l.drop k).length = l.length) := by show _ = _; simp; omega
    obtain ⟨L, hL⟩ : ∃ L, Hid (L = l.take k) := ⟨_, rfl⟩
    obtain ⟨D, hD⟩ : ∃ D, Hid (D = l.drop k) := ⟨_, rfl⟩
    rw [← hL.out] at HT1 hlt ⊢
    rw [← hD.out] at HD0 HD1 hlt ⊢
    clear hv hr hk hl ht hz hm hh hg T1 hc
    go_enter Tryd.func9, Tryd.ntmps9
    go_wp2_with (first | (at_builtin; refine app_ints rfl _ _ rfl w.heap.size _ [] rfl HN.out _ L rfl HT1.out (Or.inr ⟨_, _, _, rfl⟩) (by have := hlt.out; have := HL.out; simp only [List.length_nil]; omega) (Nat.le_refl _) ?_))
    intro v1 w1 R1 B1
    have HR1 : Hid (RowI w.heap.size v1 L w1 ∧ Below w.heap.size w w1) := ⟨R1, B1⟩
    clear R1 B1
    go_wp2_with (first | (at_builtin; refine wpList_append_own _ rfl _ _ 25 rfl w.heap.size 3 i0 (.int .i64 0) 1 8 Tryd.underlying25 hi hz0 hz1 hz2 rfl (by decide) v1 L.length (intCells L) rfl (HR1.out.1.alloc _) ⟨w1.heap.size, 0, none⟩ 1 1 (intCells [x]) rfl rfl ?c1 ?c2 (by have := hlt.out; have := HL.out; unfold maxLen; omega) (by have := hlt.out; have := HL.out; omega) (by have := HR1.out.2.size; simp; omega) ?_))
    case c1 =>
      intro j u hj
      match j, hj with
      | 0, hj => simp at hj; subst hj; simp [Addr.add]
    case c2 => intro u hu; simp at hu; subst hu; rfl
    intro v2 w2 hown hgrow _
    obtain ⟨R2, B2⟩ := row1 HR1.out.1 HR1.out.2.size hown hgrow
    have HR2 : Hid (RowI w.heap.size v2 (L ++ [x]) w2 ∧ Below w.heap.size w w2) := ⟨R2, HR1.out.2.trans B2⟩
    clear R2 B2 hown hgrow
    by_cases hck : cap = k
    · have HD2 : Hid (IsInts w (.slice (some ⟨g, 0, none⟩) (l.length - k) 0) D) := HD0.out hck
      go_wp2_with (first | (at_builtin; refine app_ints rfl _ _ rfl w.heap.size _ (L ++ [x]) rfl HR2.out.1 _ D rfl (HD2.out.below HR2.out.2) (Or.inr ⟨_, _, _, rfl⟩) (by have := hlt.out; have := HL.out; simp only [List.length_append, List.length_singleton]; omega) HR2.out.2.size ?_))
      intro v3 w3 R3 B3
      have HR3 : Hid (_ ∧ _) := ⟨R3, HR2.out.2.trans B3⟩
      clear R3 B3
      go_wp2
      go_ret
      exact ⟨_, rfl, HR3.out.1, HR3.out.2⟩
    · have HD2 : Hid (IsInts w (.slice (some ⟨g, k, none⟩) (l.length - k) (cap - k)) D) := HD1.out
      go_wp2_with (first | (at_builtin; refine app_ints rfl _ _ rfl w.heap.size _ (L ++ [x]) rfl HR2.out.1 _ D rfl (HD2.out.below HR2.out.2) (Or.inr ⟨_, _, _, rfl⟩) (by have := hlt.out; have := HL.out; simp only [List.length_append, List.length_singleton]; omega) HR2.out.2.size ?_))
      intro v3 w3 R3 B3
      have HR3 : Hid (_ ∧ _) := ⟨R3, HR2.out.2.trans B3⟩
      clear R3 B3
      go_wp2
      go_ret
      exact ⟨_, rfl, HR3.out.1, HR3.out.2⟩

set_option maxRecDepth 100000 in
set_option maxHeartbeats 2000000 in
theorem cut_any (B : Nat) (v : Value) (l : List Int) (k : Nat) (w : World) (hv : RowI B v l w) (hr : ∀ x ∈ l, I64 x) (hl : l.length ≤ 1000) (hk : k < l.length) :
    Calls Tryd.prog 11 #[v, .int .i64 (k : Int)] w fun e w' => ∃ u, e = .returned u ∧ RowI w.heap.size u (l.take k ++ l.drop (k + 1)) w' ∧ Below w.heap.size w w' := by
  have HI : Hid (IsInts w v l) := hv.ints (by omega) hr
  have HN : Hid (RowI w.heap.size (.slice none 0 0) [] w) := World.ownsRow_nil w w.heap.size 3 1
  have HL : Hid (l.length ≤ 1000) := hl
  rcases hv.2 with ⟨rfl, h0⟩ | ⟨g, cap, cur, rfl, hg, hh, hc, hm, hz, ht⟩
  · omega
  · have g1 : (k : Int) ≤ l.length := by omega
    have g2 : (k : Int) + 1 ≤ l.length := by omega
    have hkc : k ≤ cap := by omega
    have y1 : wrap64 ((k : Int) + 1) = ((k + 1 : Nat) : Int) := by unfold wrap64; omega
    have T1 := HI.out.take k (by omega)
    have HT1 : Hid (IsInts w (.slice (some ⟨g, 0, none⟩) k cap) (l.take k)) := T1
    have HD0 : Hid (cap = k + 1 → IsInts w (.slice (some ⟨g, 0, none⟩) (l.length - (k + 1)) 0) (l.drop (k + 1))) := fun e => by
      rw [show l.length - (k + 1) = 0 from by omega]
      exact IsInts.end (k + 1) (by omega)
    have HD1 : Hid (IsInts w (.slice (some ⟨g, k + 1, none⟩) (l.length - (k + 1)) (cap - (k + 1))) (l.drop (k + 1))) := by
      have := HI.out.drop (k + 1) hk
      rw [Nat.zero_add] at this
      exact this
    have hlt : Hid ((l.take k).length + (l.drop (k + 1)).length + 1 = l.length) := by show _ = _; simp; omega
    obtain ⟨j, hj⟩ : ∃ j, Hid (j = k + 1) := ⟨_, rfl⟩
    have hjl : (j : Int) ≤ l.length := by have := hj.out; omega
    have hjn : j ≤ l.length := by have := hj.out; omega
    have hjc : j ≤ cap := by have := hj.out; omega
    rw [← hj.out] at y1 HD0 HD1 hlt ⊢
    obtain ⟨L, hL⟩ : ∃ L, Hid (L = l.take k) := ⟨_, rfl⟩
    obtain ⟨D, hD⟩ : ∃ D, Hid (D = l.drop j) := ⟨_, rfl⟩
    rw [← hL.out] at HT1 hlt ⊢
    rw [← hD.out] at HD0 HD1 hlt ⊢
    clear hv hr hk hl ht hz hm hh hg T1 g2
    go_enter Tryd.func11, Tryd.ntmps11
    go_wp2_with (first | (at_builtin; refine app_ints rfl _ _ rfl w.heap.size _ [] rfl HN.out _ L rfl HT1.out (Or.inr ⟨_, _, _, rfl⟩) (by have := hlt.out; have := HL.out; simp only [List.length_nil]; omega) (Nat.le_refl _) ?_))
    intro v1 w1 R1 B1
    have HR1 : Hid (RowI w.heap.size v1 L w1 ∧ Below w.heap.size w w1) := ⟨R1, B1⟩
    clear R1 B1
    by_cases hck : cap = j
    · have HD2 : Hid (IsInts w (.slice (some ⟨g, 0, none⟩) (l.length - j) 0) D) := HD0.out hck
      go_wp2_with (first | (at_builtin; refine app_ints rfl _ _ rfl w.heap.size _ L rfl HR1.out.1 _ D rfl (HD2.out.below HR1.out.2) (Or.inr ⟨_, _, _, rfl⟩) (by have := hlt.out; have := HL.out; omega) HR1.out.2.size ?_))
      intro v3 w3 R3 B3
      have HR3 : Hid (_ ∧ _) := ⟨R3, HR1.out.2.trans B3⟩
      clear R3 B3
      go_wp2
      go_ret
      exact ⟨_, rfl, HR3.out.1, HR3.out.2⟩
    · have HD2 : Hid (IsInts w (.slice (some ⟨g, j, none⟩) (l.length - j) (cap - j)) D) := HD1.out
      go_wp2_with (first | (at_builtin; refine app_ints rfl _ _ rfl w.heap.size _ L rfl HR1.out.1 _ D rfl (HD2.out.below HR1.out.2) (Or.inr ⟨_, _, _, rfl⟩) (by have := hlt.out; have := HL.out; omega) HR1.out.2.size ?_))
      intro v3 w3 R3 B3
      have HR3 : Hid (_ ∧ _) := ⟨R3, HR1.out.2.trans B3⟩
      clear R3 B3
      go_wp2
      go_ret
      exact ⟨_, rfl, HR3.out.1, HR3.out.2⟩
end Go.Proofs.YtebglecjajghjaaDoor
