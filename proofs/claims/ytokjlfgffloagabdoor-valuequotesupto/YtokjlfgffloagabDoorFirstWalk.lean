/-
  What is proved: package value's firstQuoted, called with any text that is not empty, returns what its first signs stand for, and nothing has turned.
  Conditions: the text is not empty.
-/
import Derived.Test.YtokjlfgffloagabDoorQuoteWalk
namespace Go.Proofs.YtokjlfgffloagabDoor
open Go.RowKit

theorem list1 (s : ByteArray) (h : 0 < s.size) : ∃ r, s.data.toList = s[0] :: r ∧ r.length = s.size - 1 := by
  have hl : s.data.toList.length = s.size := Array.length_toList
  cases e : s.data.toList with
  | nil => rw [e] at hl; simp at hl; omega
  | cons c r =>
    have e0 : s[0] = c := by
      have h0 : s.data.toList[0]'(by omega) = s[0] := rfl
      rw [← h0]
      simp [e]
    rw [e] at hl
    simp at hl
    exact ⟨r, by rw [e0], by omega⟩

theorem list2 (s : ByteArray) (h : 1 < s.size) : ∃ r, s.data.toList = s[0] :: s[1] :: r ∧ r.length = s.size - 2 := by
  have hl : s.data.toList.length = s.size := Array.length_toList
  match e : s.data.toList with
  | [] => rw [e] at hl; simp at hl; omega
  | [_] => rw [e] at hl; simp at hl; omega
  | c :: d :: r =>
    have e0 : s[0] = c := by
      have h0 : s.data.toList[0]'(by omega) = s[0] := rfl
      rw [← h0]
      simp [e]
    have e1 : s[1] = d := by
      have h0 : s.data.toList[1]'(by omega) = s[1] := rfl
      rw [← h0]
      simp [e]
    rw [e] at hl
    simp at hl
    exact ⟨r, by rw [e0, e1], by omega⟩

theorem list3 (s : ByteArray) (h : 2 < s.size) : ∃ r, s.data.toList = s[0] :: s[1] :: s[2] :: r := by
  have hl : s.data.toList.length = s.size := Array.length_toList
  match e : s.data.toList with
  | [] => rw [e] at hl; simp at hl; omega
  | [_] => rw [e] at hl; simp at hl; omega
  | [_, _] => rw [e] at hl; simp at hl; omega
  | c :: d :: f :: r =>
    have e0 : s[0] = c := by
      have h0 : s.data.toList[0]'(by omega) = s[0] := rfl
      rw [← h0]
      simp [e]
    have e1 : s[1] = d := by
      have h0 : s.data.toList[1]'(by omega) = s[1] := rfl
      rw [← h0]
      simp [e]
    have e2 : s[2] = f := by
      have h0 : s.data.toList[2]'(by omega) = s[2] := rfl
      rw [← h0]
      simp [e]
    exact ⟨r, by rw [e0, e1, e2]⟩

/-- What firstQuoted hands back. -/
def pair (x : UInt8 × Nat) : Ending := .returned (.tuple #[.int .u8 x.1.toNat, .int .i64 x.2])

set_option maxHeartbeats 1000000 in
theorem first_plain (s : ByteArray) (w : World) (h : 0 < s.size) (hx : hexB s[0] = false) (hm : maskB s[0] = false) :
    Calls Tryd.prog 15 #[.string s] w fun e w' => e = pair (s[0], 1) ∧ ∃ m, w' = w.drewN m := by
  have Hi := isHex_any s[0]
  have Hm := isMasked_any s[0]
  rw [hx] at Hi
  rw [hm] at Hm
  have h' : (0 : Int) < s.size := by omega
  go_enter Tryd.func15, Tryd.ntmps15
  go_wp2_with (first
    | (go_at_call 18; refine (Hi _).mono ?_; rintro e w' ⟨rfl, rfl⟩)
    | (go_at_call 19; refine (Hm _).mono ?_; rintro e w' ⟨rfl, rfl⟩))
  go_returns
  exact ⟨rfl, 0, rfl⟩

set_option maxHeartbeats 1000000 in
theorem first_other (s : ByteArray) (w : World) (h : 0 < s.size) (hp : ¬ (hexB s[0] = false ∧ maskB s[0] = false)) (h92 : ¬ s[0].toNat = 92) :
    Calls Tryd.prog 15 #[.string s] w fun e w' => e = pair (0, 0) ∧ ∃ m, w' = w.drewN m := by
  have Hi := isHex_any s[0]
  have Hm := isMasked_any s[0]
  have h' : (0 : Int) < s.size := by omega
  have g : ¬ (s[0].toNat : Int) = 92 := by omega
  cases hx : hexB s[0] with
  | true =>
    rw [hx] at Hi
    clear hp
    go_enter Tryd.func15, Tryd.ntmps15
    go_wp2_with (first
      | (go_at_call 18; refine (Hi _).mono ?_; rintro e w' ⟨rfl, rfl⟩))
    go_returns
    exact ⟨rfl, 0, rfl⟩
  | false =>
    have hm : maskB s[0] = true := by
      cases e : maskB s[0] with
      | true => rfl
      | false => exact absurd ⟨hx, e⟩ hp
    rw [hx] at Hi
    rw [hm] at Hm
    clear hp
    go_enter Tryd.func15, Tryd.ntmps15
    go_wp2_with (first
      | (go_at_call 18; refine (Hi _).mono ?_; rintro e w' ⟨rfl, rfl⟩)
      | (go_at_call 19; refine (Hm _).mono ?_; rintro e w' ⟨rfl, rfl⟩))
    go_returns
    exact ⟨rfl, 0, rfl⟩

theorem back_hex {c : UInt8} (h : c.toNat = 92) : hexB c = false := by simp [hexB, h]
theorem back_mask {c : UInt8} (h : c.toNat = 92) : maskB c = true := by simp [maskB, h]
theorem hex_back (w : World) : Calls Tryd.prog 18 #[.int .u8 92] w fun e w' => e = .returned (.bool false) ∧ w' = w := isHex_any 92 w
theorem mask_back (w : World) : Calls Tryd.prog 19 #[.int .u8 92] w fun e w' => e = .returned (.bool true) ∧ w' = w := isMasked_any 92 w

set_option maxHeartbeats 1000000 in
theorem first_one (s : ByteArray) (w : World) (h : 0 < s.size) (h92 : s[0].toNat = 92) (h2 : s.size < 2) :
    Calls Tryd.prog 15 #[.string s] w fun e w' => e = pair (0, 0) ∧ ∃ m, w' = w.drewN m := by
  have h' : (0 : Int) < s.size := by omega
  have h2' : (s.size : Int) < 2 := by omega
  go_enter Tryd.func15, Tryd.ntmps15
  go_wp2_with (first
    | (go_at_call 18; refine (hex_back _).mono ?_; rintro e w' ⟨rfl, rfl⟩)
    | (go_at_call 19; refine (mask_back _).mono ?_; rintro e w' ⟨rfl, rfl⟩))
  go_returns
  exact ⟨rfl, 0, rfl⟩

set_option maxHeartbeats 1000000 in
theorem first_mask (s : ByteArray) (w : World) (c1 : UInt8) (h : 1 < s.size) (h92 : s[0].toNat = 92) (hc1 : s[1] = c1) (hk : maskB c1 = true) :
    Calls Tryd.prog 15 #[.string s] w fun e w' => e = pair (c1, 2) ∧ ∃ m, w' = w.drewN m := by
  have Hk := isMasked_any c1
  rw [hk] at Hk
  have h' : (1 : Int) < s.size := by omega
  have h0' : (0 : Int) < s.size := by omega
  have h2' : ¬ (s.size : Int) < 2 := by omega
  go_enter Tryd.func15, Tryd.ntmps15
  go_wp2_with (first
    | (go_at_call 18; refine (hex_back _).mono ?_; rintro e w' ⟨rfl, rfl⟩)
    | (go_at_call_of 19 (92 : Int); refine (mask_back _).mono ?_; rintro e w' ⟨rfl, rfl⟩)
    | (go_at_call 19; refine (Hk _).mono ?_; rintro e w' ⟨rfl, rfl⟩))
  go_returns
  exact ⟨rfl, 0, rfl⟩

set_option maxHeartbeats 1000000 in
theorem first_two (s : ByteArray) (w : World) (c1 : UInt8) (h : 1 < s.size) (h92 : s[0].toNat = 92) (hc1 : s[1] = c1) (hk : maskB c1 = false) (h3 : s.size < 3) :
    Calls Tryd.prog 15 #[.string s] w fun e w' => e = pair (0, 0) ∧ ∃ m, w' = w.drewN m := by
  have Hk := isMasked_any c1
  rw [hk] at Hk
  have h' : (1 : Int) < s.size := by omega
  have h0' : (0 : Int) < s.size := by omega
  have h2' : ¬ (s.size : Int) < 2 := by omega
  have h3' : (s.size : Int) < 3 := by omega
  go_enter Tryd.func15, Tryd.ntmps15
  go_wp2_with (first
    | (go_at_call 18; refine (hex_back _).mono ?_; rintro e w' ⟨rfl, rfl⟩)
    | (go_at_call_of 19 (92 : Int); refine (mask_back _).mono ?_; rintro e w' ⟨rfl, rfl⟩)
    | (go_at_call 19; refine (Hk _).mono ?_; rintro e w' ⟨rfl, rfl⟩))
  go_returns
  exact ⟨rfl, 0, rfl⟩

theorem index_any (c : UInt8) (w : World) :
    Calls Tryd.prog 21 #[.string ⟨#[48, 49, 50, 51, 52, 53, 54, 55, 56, 57, 97, 98, 99, 100, 101, 102]⟩, .int .u8 c.toNat] w fun e w' => e = .returned (.int .i64 (hexv c)) ∧ w' = w := by
  refine (Tryd.indexByte _ _ w).mono ?_
  rintro e w' ⟨rfl, rfl⟩
  refine ⟨?_, rfl⟩
  have : ((c.toNat : Int).toNat).toUInt8 = c := by simp
  rw [this]
  rfl

theorem hexv_range (c : UInt8) : -1 ≤ hexv c ∧ hexv c < 16 := by
  have h : ∀ n : Fin 256, -1 ≤ hexv (UInt8.ofNat n.val) ∧ hexv (UInt8.ofNat n.val) < 16 := by decide +kernel
  have := h ⟨c.toNat, c.toNat_lt⟩
  simpa using this

theorem byte_of (x y : Int) (x0 : 0 ≤ x) (x1 : x < 16) (y0 : 0 ≤ y) (y1 : y < 16) : ((UInt8.ofNat (x * 16 + y).toNat).toNat : Int) = x * 16 + y := by
  rw [UInt8.toNat_ofNat']
  omega

set_option maxHeartbeats 1000000 in
theorem first_hex (s : ByteArray) (w : World) (c1 c2 : UInt8) (h : 2 < s.size) (h92 : s[0].toNat = 92) (hc1 : s[1] = c1) (hc2 : s[2] = c2) (hk : maskB c1 = false) (x y : Int) (hx : hexv c1 = x) (hy : hexv c2 = y) (x0 : 0 ≤ x) (x1 : x < 16) (y0 : 0 ≤ y) (y1 : y < 16) (hz : hexB (UInt8.ofNat (x * 16 + y).toNat) = true) :
    Calls Tryd.prog 15 #[.string s] w fun e w' => e = pair (UInt8.ofNat (x * 16 + y).toNat, 3) ∧ ∃ m, w' = w.drewN m := by
  unfold pair
  dsimp only
  have Hz := isHex_any (UInt8.ofNat (x * 16 + y).toNat)
  rw [hz, byte_of x y x0 x1 y0 y1] at Hz
  rw [byte_of x y x0 x1 y0 y1]
  clear hz
  have Hk := isMasked_any c1
  have H1 := index_any c1
  have H2 := index_any c2
  rw [hk] at Hk
  rw [hx] at H1
  rw [hy] at H2
  clear hx hy
  have h' : (1 : Int) < s.size := by omega
  have h0' : (0 : Int) < s.size := by omega
  have h2' : (2 : Int) < s.size := by omega
  have h4' : ¬ (s.size : Int) < 2 := by omega
  have h3' : ¬ (s.size : Int) < 3 := by omega
  go_enter Tryd.func15, Tryd.ntmps15
  go_wp2_with (first
    | (go_at_call 18; refine (hex_back _).mono ?_; rintro e w' ⟨rfl, rfl⟩)
    | (go_at_call_of 19 (92 : Int); refine (mask_back _).mono ?_; rintro e w' ⟨rfl, rfl⟩)
    | (go_at_call 19; refine (Hk _).mono ?_; rintro e w' ⟨rfl, rfl⟩))
  go_quiet ((first | (go_at_call 21; exact Calls.quiet_of_same (H1 _)) | (go_at_call 21; exact Calls.quiet_of_same (H2 _))))
  go_wp2_with (go_at_call 18; refine (Hz _).mono ?_; rintro e w2 ⟨rfl, rfl⟩)
  go_returns
  exact ⟨rfl, nq, rfl⟩

set_option maxHeartbeats 1000000 in
theorem first_seen (s : ByteArray) (w : World) (c1 c2 : UInt8) (h : 2 < s.size) (h92 : s[0].toNat = 92) (hc1 : s[1] = c1) (hc2 : s[2] = c2) (hk : maskB c1 = false) (x y : Int) (hx : hexv c1 = x) (hy : hexv c2 = y) (x0 : 0 ≤ x) (x1 : x < 16) (y0 : 0 ≤ y) (y1 : y < 16) (hz : hexB (UInt8.ofNat (x * 16 + y).toNat) = false) :
    Calls Tryd.prog 15 #[.string s] w fun e w' => e = pair (0, 0) ∧ ∃ m, w' = w.drewN m := by
  have Hz := isHex_any (UInt8.ofNat (x * 16 + y).toNat)
  rw [hz, byte_of x y x0 x1 y0 y1] at Hz
  clear hz
  have Hk := isMasked_any c1
  have H1 := index_any c1
  have H2 := index_any c2
  rw [hk] at Hk
  rw [hx] at H1
  rw [hy] at H2
  clear hx hy
  have h' : (1 : Int) < s.size := by omega
  have h0' : (0 : Int) < s.size := by omega
  have h2' : (2 : Int) < s.size := by omega
  have h4' : ¬ (s.size : Int) < 2 := by omega
  have h3' : ¬ (s.size : Int) < 3 := by omega
  go_enter Tryd.func15, Tryd.ntmps15
  go_wp2_with (first
    | (go_at_call 18; refine (hex_back _).mono ?_; rintro e w' ⟨rfl, rfl⟩)
    | (go_at_call_of 19 (92 : Int); refine (mask_back _).mono ?_; rintro e w' ⟨rfl, rfl⟩)
    | (go_at_call 19; refine (Hk _).mono ?_; rintro e w' ⟨rfl, rfl⟩))
  go_quiet ((first | (go_at_call 21; exact Calls.quiet_of_same (H1 _)) | (go_at_call 21; exact Calls.quiet_of_same (H2 _))))
  go_wp2_with (go_at_call 18; refine (Hz _).mono ?_; rintro e w2 ⟨rfl, rfl⟩)
  go_returns
  exact ⟨rfl, nq, rfl⟩

set_option maxHeartbeats 1000000 in
theorem first_high (s : ByteArray) (w : World) (c1 c2 : UInt8) (h : 2 < s.size) (h92 : s[0].toNat = 92) (hc1 : s[1] = c1) (hc2 : s[2] = c2) (hk : maskB c1 = false) (x y : Int) (hx : hexv c1 = x) (hy : hexv c2 = y) (x0 : x < 0) :
    Calls Tryd.prog 15 #[.string s] w fun e w' => e = pair (0, 0) ∧ ∃ m, w' = w.drewN m := by
  have Hk := isMasked_any c1
  have H1 := index_any c1
  have H2 := index_any c2
  rw [hk] at Hk
  rw [hx] at H1
  rw [hy] at H2
  clear hx hy
  have h' : (1 : Int) < s.size := by omega
  have h0' : (0 : Int) < s.size := by omega
  have h2' : (2 : Int) < s.size := by omega
  have h4' : ¬ (s.size : Int) < 2 := by omega
  have h3' : ¬ (s.size : Int) < 3 := by omega
  go_enter Tryd.func15, Tryd.ntmps15
  go_wp2_with (first
    | (go_at_call 18; refine (hex_back _).mono ?_; rintro e w' ⟨rfl, rfl⟩)
    | (go_at_call_of 19 (92 : Int); refine (mask_back _).mono ?_; rintro e w' ⟨rfl, rfl⟩)
    | (go_at_call 19; refine (Hk _).mono ?_; rintro e w' ⟨rfl, rfl⟩))
  go_quiet ((first | (go_at_call 21; exact Calls.quiet_of_same (H1 _)) | (go_at_call 21; exact Calls.quiet_of_same (H2 _))))
  go_wp2
  go_returns
  exact ⟨rfl, nq, rfl⟩

set_option maxHeartbeats 1000000 in
theorem first_low (s : ByteArray) (w : World) (c1 c2 : UInt8) (h : 2 < s.size) (h92 : s[0].toNat = 92) (hc1 : s[1] = c1) (hc2 : s[2] = c2) (hk : maskB c1 = false) (x y : Int) (hx : hexv c1 = x) (hy : hexv c2 = y) (x0 : 0 ≤ x) (y0 : y < 0) :
    Calls Tryd.prog 15 #[.string s] w fun e w' => e = pair (0, 0) ∧ ∃ m, w' = w.drewN m := by
  have x2 : ¬ x < 0 := by omega
  have Hk := isMasked_any c1
  have H1 := index_any c1
  have H2 := index_any c2
  rw [hk] at Hk
  rw [hx] at H1
  rw [hy] at H2
  clear hx hy
  have h' : (1 : Int) < s.size := by omega
  have h0' : (0 : Int) < s.size := by omega
  have h2' : (2 : Int) < s.size := by omega
  have h4' : ¬ (s.size : Int) < 2 := by omega
  have h3' : ¬ (s.size : Int) < 3 := by omega
  go_enter Tryd.func15, Tryd.ntmps15
  go_wp2_with (first
    | (go_at_call 18; refine (hex_back _).mono ?_; rintro e w' ⟨rfl, rfl⟩)
    | (go_at_call_of 19 (92 : Int); refine (mask_back _).mono ?_; rintro e w' ⟨rfl, rfl⟩)
    | (go_at_call 19; refine (Hk _).mono ?_; rintro e w' ⟨rfl, rfl⟩))
  go_quiet ((first | (go_at_call 21; exact Calls.quiet_of_same (H1 _)) | (go_at_call 21; exact Calls.quiet_of_same (H2 _))))
  go_wp2
  go_returns
  exact ⟨rfl, nq, rfl⟩

/-- firstQuoted, at any text that is not empty. -/
theorem first_any (s : ByteArray) (w : World) (h : 0 < s.size) :
    Calls Tryd.prog 15 #[.string s] w fun e w' => e = pair (first s.data.toList) ∧ ∃ m, w' = w.drewN m := by
  by_cases hp : hexB s[0] = false ∧ maskB s[0] = false
  · obtain ⟨r, e, _⟩ := list1 s h
    rw [e, first_p hp]
    exact first_plain s w h hp.1 hp.2
  by_cases h92 : s[0].toNat = 92
  · by_cases h2 : 1 < s.size
    · obtain ⟨r, e, hr⟩ := list2 s h2
      cases hk : maskB s[1] with
      | true =>
        rw [e, first_m hp h92 hk]
        exact first_mask s w _ h2 h92 rfl hk
      | false =>
        by_cases h3 : 2 < s.size
        · obtain ⟨r3, e3⟩ := list3 s h3
          have rx := hexv_range s[1]
          have ry := hexv_range s[2]
          rw [e3, first_3 hp h92 hk]
          by_cases x0 : 0 ≤ hexv s[1]
          · by_cases y0 : 0 ≤ hexv s[2]
            · cases hz : hexB (UInt8.ofNat (hexv s[1] * 16 + hexv s[2]).toNat) with
              | true =>
                rw [if_pos ⟨x0, y0, rfl⟩]
                exact first_hex s w _ _ h3 h92 rfl rfl hk _ _ rfl rfl x0 rx.2 y0 ry.2 hz
              | false =>
                rw [if_neg (by simp)]
                exact first_seen s w _ _ h3 h92 rfl rfl hk _ _ rfl rfl x0 rx.2 y0 ry.2 hz
            · rw [if_neg (by intro hh; exact y0 hh.2.1)]
              exact first_low s w _ _ h3 h92 rfl rfl hk _ _ rfl rfl x0 (by omega)
          · rw [if_neg (by intro hh; exact x0 hh.1)]
            exact first_high s w _ _ h3 h92 rfl rfl hk _ _ rfl rfl (by omega)
        · have hr0 : r = [] := List.length_eq_zero_iff.1 (by omega)
          rw [e, hr0, first_2 hp h92 hk]
          exact first_two s w _ h2 h92 rfl hk (by omega)
    · obtain ⟨r, e, hr⟩ := list1 s h
      have hr0 : r = [] := List.length_eq_zero_iff.1 (by omega)
      rw [e, hr0, first_1 hp h92]
      exact first_one s w h h92 (by omega)
  · obtain ⟨r, e, _⟩ := list1 s h
    rw [e, first_o hp h92]
    exact first_other s w h hp h92
end Go.Proofs.YtokjlfgffloagabDoor
