/-
  What is proved: the methods num and text of package bookref1's reader, called with any bytes, read as the mathematics says, and turn nothing but the reader.
  Conditions: the bytes lie in memory, and so does the reader.
-/
import Derived.Test.YtgecgemfniiciaaGreatDoorQRead
import Derived.Test.YtgecgemfniiciaaGreatDoorCShr
namespace Go.Proofs.YtgecgemfniiciaaGreatDoor
open Go.RowKit

theorem rCnt_end {m : Int} {s : St} (h : (rCnt m s).2 = none) : (rCnt m s).1 = 0 := by
  unfold rCnt at h ⊢
  split
  · rfl
  · rename_i h1
    rw [if_neg h1] at h
    unfold rNum at h ⊢
    split
    · rename_i e
      rw [e] at h
      cases h
    · rfl

theorem rCnt_live {m : Int} {s : St} {r : List UInt8} (h : (rCnt m s).2 = some r) : rest s ≠ [] := by
  intro e
  unfold rCnt rNum at h
  rw [e, get_nil] at h
  dsimp only at h
  split at h <;> cases h

set_option maxRecDepth 100000 in
set_option maxHeartbeats 1000000 in
theorem qnum_was (wr : World) (g : Nat) (vb : Value) (a : Nat) (most : Int) (hx : wr.heap[g]? = some (.cells #[vb, .int .i64 a, .bool true] 38)) :
    Calls Tryz.prog 8 #[.pointer (some ⟨g, 0, none⟩), .int .i64 most] wr fun e w' => e = .returned (.int .i64 0) ∧ w' = wr := by
  have c2 : wr.cell? ⟨g, 2, none⟩ = some (.bool true) := Lib.cell_of_heap hx 2
  go_enter Tryz.func8, Tryz.ntmps8
  go_wp2
  go_ret
  exact ⟨rfl, rfl⟩

theorem qnum_any (w0 wr : World) (g : Nat) (vb : Value) (b : List UInt8) (s : St) (most : Int) (h0 : 0 ≤ most) (h1 : most ≤ 1000000) (hb : IsBytes w0 vb b) (hw : Wh vb) (hl : b.length ≤ 4611686018427387904) (bel : Below w0.heap.size w0 wr) (h : DAt g vb b s wr) :
    Calls Tryz.prog 8 #[.pointer (some ⟨g, 0, none⟩), .int .i64 most] wr fun e w' => e = .returned (.int .i64 (rCnt most s).1) ∧ DAt g vb b (rCnt most s).2 w' ∧ Off g wr w' := by
  obtain ⟨a, ha, hs, hx⟩ := h
  rcases hs with rfl | rfl
  · have HR : rCnt most none = (0, none) := by
      unfold rCnt
      rw [rNum_none, if_neg (by simp; omega)]
    refine (qnum_was wr g vb a most hx).mono ?_
    rintro e w' ⟨rfl, rfl⟩
    rw [HR]
    exact ⟨rfl, ⟨a, ha, Or.inl rfl, hx⟩, Off.refl _ _⟩
  · have hx' : wr.heap[g]? = some (.cells #[vb, .int .i64 a, .bool false] 38) := hx
    clear hx
    rcases hw with rfl | ⟨ad, n, c, rfl⟩
    · have hn : b = [] := by
        obtain ⟨a', c', e, -⟩ := id hb
        injection e with _ e _
        exact List.length_eq_zero_iff.1 e.symm
      subst hn
      obtain rfl : a = 0 := by simpa using ha
      have HR : rCnt most (some (List.drop 0 [])) = (0, none) := by
        unfold rCnt
        rw [show rNum (some (List.drop 0 [])) = (0, none) from rfl, if_neg (by simp; omega)]
      rw [HR]
      refine (qnum_nil wr g most hx' (rGet_any (.slice none 0 0) [] _ (isBytes_nil _ _ _))).mono ?_
      rintro e w' ⟨rfl, hx2, ho⟩
      exact ⟨rfl, ⟨0, ha, Or.inl rfl, hx2⟩, ho⟩
    · obtain rfl : n = b.length := by
        obtain ⟨a', c', e, -⟩ := id hb
        injection e
      have hcap : b.length ≤ c := by
        obtain ⟨a', c', e, h3, -⟩ := id hb
        injection e with _ _ e
        subst e
        exact h3
      by_cases hc : c = a
      · obtain rfl : c = b.length := by omega
        subst hc
        have hd : b.drop b.length = [] := List.drop_eq_nil_of_le (Nat.le_refl _)
        have HR : rCnt most (some (b.drop b.length)) = (0, none) := by
          unfold rCnt
          rw [hd, show rNum (some []) = (0, none) from rfl, if_neg (by simp; omega)]
        rw [HR]
        refine (qnum_end wr g ad b.length most hx' (rGet_any (.slice (some ad) 0 0) [] _ (isBytes_nil _ _ _))).mono ?_
        rintro e w' ⟨rfl, hx2, ho⟩
        exact ⟨rfl, ⟨b.length, ha, Or.inl rfl, hx2⟩, ho⟩
      · have G := rGet_any (.slice (some (ad.add a)) (b.length - a) (c - a)) (b.drop a) wr.drew (((bytes_from2 hb a ha).1 (by omega)).below bel.drew)
        cases hG : get (b.drop a) with
        | none =>
          have HR : rCnt most (some (b.drop a)) = (0, none) := by
            unfold rCnt
            rw [show rNum (some (b.drop a)) = (0, none) from by unfold rNum; rw [rest_some, hG], if_neg (by simp; omega)]
          rw [hG] at G
          rw [HR]
          refine (qnum_none wr g ad b.length c a most hc ha hcap hx' G).mono ?_
          rintro e w' ⟨rfl, hx2, ho⟩
          exact ⟨rfl, ⟨a, ha, Or.inl rfl, hx2⟩, ho⟩
        | some q =>
          obtain ⟨x, k⟩ := q
          obtain ⟨_, hn, hk1, hk2, _⟩ := get_some hG
          rw [hG] at G
          have hN : rNum (some (b.drop a)) = (wrap64 (x : Int), some ((b.drop a).drop k)) := by unfold rNum; rw [rest_some, hG]
          have hiff := most_iff hn h0 h1
          by_cases hm : (x : Int) > most
          · have HR : rCnt most (some (b.drop a)) = (0, none) := by
              unfold rCnt
              rw [hN, if_pos (hiff.1 hm)]
            rw [HR]
            refine (qnum_more wr g ad b.length c a most hc ha hcap x k hk1 hn h0 h1 hm hx' G).mono ?_
            rintro e w' ⟨rfl, hx2, ho⟩
            exact ⟨rfl, ⟨a, ha, Or.inl rfl, hx2⟩, ho⟩
          · have hak : a + k ≤ b.length := by rw [List.length_drop] at hk2; omega
            have HR : rCnt most (some (b.drop a)) = ((x : Int), some (b.drop (a + k))) := by
              unfold rCnt
              rw [hN, if_neg (fun e => hm (hiff.2 e)), List.drop_drop]
              have : wrap64 (x : Int) = x := by unfold wrap64; omega
              rw [this]
            rw [HR]
            refine (qnum_one wr g ad b.length c a most hc ha hcap x k hk1 h0 h1 hm (by omega) hx' G).mono ?_
            rintro e w' ⟨rfl, hx2, ho⟩
            exact ⟨rfl, ⟨a + k, hak, Or.inr rfl, hx2⟩, ho⟩
end Go.Proofs.YtgecgemfniiciaaGreatDoor
