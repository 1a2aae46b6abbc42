/-
  What is proved: package value's firstQuoted, called with any text that is not empty, returns what its first signs stand for, and nothing has turned. package value's Unquote, called with any text that is not too long, returns what it begins with, and how many bytes that has, or the error that it does not begin so; and nothing that was there has turned.
  Conditions: as each theorem says.
-/
import Derived.Test.YtnoikdlofkcgaaaGreatDoorG06
namespace Go.Proofs.YtnoikdlofkcgaaaGreatDoor
open Go.RowKit

theorem list1 (s : ByteArray) (h : 0 < s.size) : ∃ r, s.data.toList = s[0] :: r ∧ r.length = s.size - 1 := by
  have hl : s.data.toList.length = s.size := Array.length_toList
  cases e : s.data.toList with
  | nil => rw [e] at hl; simp at hl; omega
  | cons c r =>
    have e0 : s[0] = c := by
      have h0 : s.data.toList[0]'(by omega) = s[0] := rfl
      rw [← h0]
      simp [e]
    rw [e] at hl
    simp at hl
    exact ⟨r, by rw [e0], by omega⟩

theorem list2 (s : ByteArray) (h : 1 < s.size) : ∃ r, s.data.toList = s[0] :: s[1] :: r ∧ r.length = s.size - 2 := by
  have hl : s.data.toList.length = s.size := Array.length_toList
  match e : s.data.toList with
  | [] => rw [e] at hl; simp at hl; omega
  | [_] => rw [e] at hl; simp at hl; omega
  | c :: d :: r =>
    have e0 : s[0] = c := by
      have h0 : s.data.toList[0]'(by omega) = s[0] := rfl
      rw [← h0]
      simp [e]
    have e1 : s[1] = d := by
      have h0 : s.data.toList[1]'(by omega) = s[1] := rfl
      rw [← h0]
      simp [e]
    rw [e] at hl
    simp at hl
    exact ⟨r, by rw [e0, e1], by omega⟩

theorem list3 (s : ByteArray) (h : 2 < s.size) : ∃ r, s.data.toList = s[0] :: s[1] :: s[2] :: r := by
  have hl : s.data.toList.length = s.size := Array.length_toList
  match e : s.data.toList with
  | [] => rw [e] at hl; simp at hl; omega
  | [_] => rw [e] at hl; simp at hl; omega
  | [_, _] => rw [e] at hl; simp at hl; omega
  | c :: d :: f :: r =>
    have e0 : s[0] = c := by
      have h0 : s.data.toList[0]'(by omega) = s[0] := rfl
      rw [← h0]
      simp [e]
    have e1 : s[1] = d := by
      have h0 : s.data.toList[1]'(by omega) = s[1] := rfl
      rw [← h0]
      simp [e]
    have e2 : s[2] = f := by
      have h0 : s.data.toList[2]'(by omega) = s[2] := rfl
      rw [← h0]
      simp [e]
    exact ⟨r, by rw [e0, e1, e2]⟩

/-- What firstQuoted hands back. -/
def pair (x : UInt8 × Nat) : Ending := .returned (.tuple #[.int .u8 x.1.toNat, .int .i64 x.2])

set_option maxRecDepth 100000 in
set_option maxHeartbeats 1000000 in
theorem first_plain (s : ByteArray) (w : World) (h : 0 < s.size) (hx : hexB s[0] = false) (hm : maskB s[0] = false) :
    Calls Tryz.prog 57 #[.string s] w fun e w' => e = pair (s[0], 1) ∧ ∃ m, w' = w.drewN m := by
  have Hi := isHex_any s[0]
  have Hm := isMasked_any s[0]
  rw [hx] at Hi
  rw [hm] at Hm
  have h' : (0 : Int) < s.size := by omega
  go_enter Tryz.func57, Tryz.ntmps57
  go_wp2_with (first
    | (go_at_call 73; refine (Hi _).mono ?_; rintro e w' ⟨rfl, rfl⟩)
    | (go_at_call 74; refine (Hm _).mono ?_; rintro e w' ⟨rfl, rfl⟩))
  go_returns
  exact ⟨rfl, 0, rfl⟩

set_option maxRecDepth 100000 in
set_option maxHeartbeats 1000000 in
theorem first_other (s : ByteArray) (w : World) (h : 0 < s.size) (hp : ¬ (hexB s[0] = false ∧ maskB s[0] = false)) (h92 : ¬ s[0].toNat = 92) :
    Calls Tryz.prog 57 #[.string s] w fun e w' => e = pair (0, 0) ∧ ∃ m, w' = w.drewN m := by
  have Hi := isHex_any s[0]
  have Hm := isMasked_any s[0]
  have h' : (0 : Int) < s.size := by omega
  have g : ¬ (s[0].toNat : Int) = 92 := by omega
  cases hx : hexB s[0] with
  | true =>
    rw [hx] at Hi
    clear hp
    go_enter Tryz.func57, Tryz.ntmps57
    go_wp2_with (first
      | (go_at_call 73; refine (Hi _).mono ?_; rintro e w' ⟨rfl, rfl⟩))
    go_returns
    exact ⟨rfl, 0, rfl⟩
  | false =>
    have hm : maskB s[0] = true := by
      cases e : maskB s[0] with
      | true => rfl
      | false => exact absurd ⟨hx, e⟩ hp
    rw [hx] at Hi
    rw [hm] at Hm
    clear hp
    go_enter Tryz.func57, Tryz.ntmps57
    go_wp2_with (first
      | (go_at_call 73; refine (Hi _).mono ?_; rintro e w' ⟨rfl, rfl⟩)
      | (go_at_call 74; refine (Hm _).mono ?_; rintro e w' ⟨rfl, rfl⟩))
    go_returns
    exact ⟨rfl, 0, rfl⟩

theorem back_hex {c : UInt8} (h : c.toNat = 92) : hexB c = false := by simp [hexB, h]
theorem back_mask {c : UInt8} (h : c.toNat = 92) : maskB c = true := by simp [maskB, h]
theorem hex_back (w : World) : Calls Tryz.prog 73 #[.int .u8 92] w fun e w' => e = .returned (.bool false) ∧ w' = w := isHex_any 92 w
theorem mask_back (w : World) : Calls Tryz.prog 74 #[.int .u8 92] w fun e w' => e = .returned (.bool true) ∧ w' = w := isMasked_any 92 w

set_option maxRecDepth 100000 in
set_option maxHeartbeats 1000000 in
theorem first_one (s : ByteArray) (w : World) (h : 0 < s.size) (h92 : s[0].toNat = 92) (h2 : s.size < 2) :
    Calls Tryz.prog 57 #[.string s] w fun e w' => e = pair (0, 0) ∧ ∃ m, w' = w.drewN m := by
  have h' : (0 : Int) < s.size := by omega
  have h2' : (s.size : Int) < 2 := by omega
  go_enter Tryz.func57, Tryz.ntmps57
  go_wp2_with (first
    | (go_at_call 73; refine (hex_back _).mono ?_; rintro e w' ⟨rfl, rfl⟩)
    | (go_at_call 74; refine (mask_back _).mono ?_; rintro e w' ⟨rfl, rfl⟩))
  go_returns
  exact ⟨rfl, 0, rfl⟩

set_option maxRecDepth 100000 in
set_option maxHeartbeats 1000000 in
theorem first_mask (s : ByteArray) (w : World) (c1 : UInt8) (h : 1 < s.size) (h92 : s[0].toNat = 92) (hc1 : s[1] = c1) (hk : maskB c1 = true) :
    Calls Tryz.prog 57 #[.string s] w fun e w' => e = pair (c1, 2) ∧ ∃ m, w' = w.drewN m := by
  have Hk := isMasked_any c1
  rw [hk] at Hk
  have h' : (1 : Int) < s.size := by omega
  have h0' : (0 : Int) < s.size := by omega
  have h2' : ¬ (s.size : Int) < 2 := by omega
  go_enter Tryz.func57, Tryz.ntmps57
  go_wp2_with (first
    | (go_at_call 73; refine (hex_back _).mono ?_; rintro e w' ⟨rfl, rfl⟩)
    | (go_at_call_of 74 (92 : Int); refine (mask_back _).mono ?_; rintro e w' ⟨rfl, rfl⟩)
    | (go_at_call 74; refine (Hk _).mono ?_; rintro e w' ⟨rfl, rfl⟩))
  go_returns
  exact ⟨rfl, 0, rfl⟩

set_option maxRecDepth 100000 in
set_option maxHeartbeats 1000000 in
theorem first_two (s : ByteArray) (w : World) (c1 : UInt8) (h : 1 < s.size) (h92 : s[0].toNat = 92) (hc1 : s[1] = c1) (hk : maskB c1 = false) (h3 : s.size < 3) :
    Calls Tryz.prog 57 #[.string s] w fun e w' => e = pair (0, 0) ∧ ∃ m, w' = w.drewN m := by
  have Hk := isMasked_any c1
  rw [hk] at Hk
  have h' : (1 : Int) < s.size := by omega
  have h0' : (0 : Int) < s.size := by omega
  have h2' : ¬ (s.size : Int) < 2 := by omega
  have h3' : (s.size : Int) < 3 := by omega
  go_enter Tryz.func57, Tryz.ntmps57
  go_wp2_with (first
    | (go_at_call 73; refine (hex_back _).mono ?_; rintro e w' ⟨rfl, rfl⟩)
    | (go_at_call_of 74 (92 : Int); refine (mask_back _).mono ?_; rintro e w' ⟨rfl, rfl⟩)
    | (go_at_call 74; refine (Hk _).mono ?_; rintro e w' ⟨rfl, rfl⟩))
  go_returns
  exact ⟨rfl, 0, rfl⟩

theorem indexB_any (c : UInt8) (w : World) :
    Calls Tryz.prog 75 #[.string ⟨#[48, 49, 50, 51, 52, 53, 54, 55, 56, 57, 97, 98, 99, 100, 101, 102]⟩, .int .u8 c.toNat] w fun e w' => e = .returned (.int .i64 (hexv c)) ∧ w' = w := by
  refine (Tryz.indexByte _ _ w).mono ?_
  rintro e w' ⟨rfl, rfl⟩
  refine ⟨?_, rfl⟩
  have : ((c.toNat : Int).toNat).toUInt8 = c := by simp
  rw [this]
  rfl

theorem hexv_range (c : UInt8) : -1 ≤ hexv c ∧ hexv c < 16 := by
  have h : ∀ n : Fin 256, -1 ≤ hexv (UInt8.ofNat n.val) ∧ hexv (UInt8.ofNat n.val) < 16 := by decide +kernel
  have := h ⟨c.toNat, c.toNat_lt⟩
  simpa using this

theorem byte_of (x y : Int) (x0 : 0 ≤ x) (x1 : x < 16) (y0 : 0 ≤ y) (y1 : y < 16) : ((UInt8.ofNat (x * 16 + y).toNat).toNat : Int) = x * 16 + y := by
  rw [UInt8.toNat_ofNat']
  omega

set_option maxRecDepth 100000 in
set_option maxHeartbeats 1000000 in
theorem first_hex (s : ByteArray) (w : World) (c1 c2 : UInt8) (h : 2 < s.size) (h92 : s[0].toNat = 92) (hc1 : s[1] = c1) (hc2 : s[2] = c2) (hk : maskB c1 = false) (x y : Int) (hx : hexv c1 = x) (hy : hexv c2 = y) (x0 : 0 ≤ x) (x1 : x < 16) (y0 : 0 ≤ y) (y1 : y < 16) (hz : hexB (UInt8.ofNat (x * 16 + y).toNat) = true) :
    Calls Tryz.prog 57 #[.string s] w fun e w' => e = pair (UInt8.ofNat (x * 16 + y).toNat, 3) ∧ ∃ m, w' = w.drewN m := by
  unfold pair
  dsimp only
  have Hz := isHex_any (UInt8.ofNat (x * 16 + y).toNat)
  rw [hz, byte_of x y x0 x1 y0 y1] at Hz
  rw [byte_of x y x0 x1 y0 y1]
  clear hz
  have Hk := isMasked_any c1
  have H1 := indexB_any c1
  have H2 := indexB_any c2
  rw [hk] at Hk
  rw [hx] at H1
  rw [hy] at H2
  clear hx hy
  have h' : (1 : Int) < s.size := by omega
  have h0' : (0 : Int) < s.size := by omega
  have h2' : (2 : Int) < s.size := by omega
  have h4' : ¬ (s.size : Int) < 2 := by omega
  have h3' : ¬ (s.size : Int) < 3 := by omega
  go_enter Tryz.func57, Tryz.ntmps57
  go_wp2_with (first
    | (go_at_call 73; refine (hex_back _).mono ?_; rintro e w' ⟨rfl, rfl⟩)
    | (go_at_call_of 74 (92 : Int); refine (mask_back _).mono ?_; rintro e w' ⟨rfl, rfl⟩)
    | (go_at_call 74; refine (Hk _).mono ?_; rintro e w' ⟨rfl, rfl⟩))
  go_quiet ((first | (go_at_call 75; exact Calls.quiet_of_same (H1 _)) | (go_at_call 75; exact Calls.quiet_of_same (H2 _))))
  go_wp2_with (go_at_call 73; refine (Hz _).mono ?_; rintro e w2 ⟨rfl, rfl⟩)
  go_returns
  exact ⟨rfl, nq, rfl⟩

set_option maxRecDepth 100000 in
set_option maxHeartbeats 1000000 in
theorem first_seen (s : ByteArray) (w : World) (c1 c2 : UInt8) (h : 2 < s.size) (h92 : s[0].toNat = 92) (hc1 : s[1] = c1) (hc2 : s[2] = c2) (hk : maskB c1 = false) (x y : Int) (hx : hexv c1 = x) (hy : hexv c2 = y) (x0 : 0 ≤ x) (x1 : x < 16) (y0 : 0 ≤ y) (y1 : y < 16) (hz : hexB (UInt8.ofNat (x * 16 + y).toNat) = false) :
    Calls Tryz.prog 57 #[.string s] w fun e w' => e = pair (0, 0) ∧ ∃ m, w' = w.drewN m := by
  have Hz := isHex_any (UInt8.ofNat (x * 16 + y).toNat)
  rw [hz, byte_of x y x0 x1 y0 y1] at Hz
  clear hz
  have Hk := isMasked_any c1
  have H1 := indexB_any c1
  have H2 := indexB_any c2
  rw [hk] at Hk
  rw [hx] at H1
  rw [hy] at H2
  clear hx hy
  have h' : (1 : Int) < s.size := by omega
  have h0' : (0 : Int) < s.size := by omega
  have h2' : (2 : Int) < s.size := by omega
  have h4' : ¬ (s.size : Int) < 2 := by omega
  have h3' : ¬ (s.size : Int) < 3 := by omega
  go_enter Tryz.func57, Tryz.ntmps57
  go_wp2_with (first
    | (go_at_call 73; refine (hex_back _).mono ?_; rintro e w' ⟨rfl, rfl⟩)
    | (go_at_call_of 74 (92 : Int); refine (mask_back _).mono ?_; rintro e w' ⟨rfl, rfl⟩)
    | (go_at_call 74; refine (Hk _).mono ?_; rintro e w' ⟨rfl, rfl⟩))
  go_quiet ((first | (go_at_call 75; exact Calls.quiet_of_same (H1 _)) | (go_at_call 75; exact Calls.quiet_of_same (H2 _))))
  go_wp2_with (go_at_call 73; refine (Hz _).mono ?_; rintro e w2 ⟨rfl, rfl⟩)
  go_returns
  exact ⟨rfl, nq, rfl⟩

set_option maxRecDepth 100000 in
set_option maxHeartbeats 1000000 in
theorem first_high (s : ByteArray) (w : World) (c1 c2 : UInt8) (h : 2 < s.size) (h92 : s[0].toNat = 92) (hc1 : s[1] = c1) (hc2 : s[2] = c2) (hk : maskB c1 = false) (x y : Int) (hx : hexv c1 = x) (hy : hexv c2 = y) (x0 : x < 0) :
    Calls Tryz.prog 57 #[.string s] w fun e w' => e = pair (0, 0) ∧ ∃ m, w' = w.drewN m := by
  have Hk := isMasked_any c1
  have H1 := indexB_any c1
  have H2 := indexB_any c2
  rw [hk] at Hk
  rw [hx] at H1
  rw [hy] at H2
  clear hx hy
  have h' : (1 : Int) < s.size := by omega
  have h0' : (0 : Int) < s.size := by omega
  have h2' : (2 : Int) < s.size := by omega
  have h4' : ¬ (s.size : Int) < 2 := by omega
  have h3' : ¬ (s.size : Int) < 3 := by omega
  go_enter Tryz.func57, Tryz.ntmps57
  go_wp2_with (first
    | (go_at_call 73; refine (hex_back _).mono ?_; rintro e w' ⟨rfl, rfl⟩)
    | (go_at_call_of 74 (92 : Int); refine (mask_back _).mono ?_; rintro e w' ⟨rfl, rfl⟩)
    | (go_at_call 74; refine (Hk _).mono ?_; rintro e w' ⟨rfl, rfl⟩))
  go_quiet ((first | (go_at_call 75; exact Calls.quiet_of_same (H1 _)) | (go_at_call 75; exact Calls.quiet_of_same (H2 _))))
  go_wp2
  go_returns
  exact ⟨rfl, nq, rfl⟩

set_option maxRecDepth 100000 in
set_option maxHeartbeats 1000000 in
theorem first_low (s : ByteArray) (w : World) (c1 c2 : UInt8) (h : 2 < s.size) (h92 : s[0].toNat = 92) (hc1 : s[1] = c1) (hc2 : s[2] = c2) (hk : maskB c1 = false) (x y : Int) (hx : hexv c1 = x) (hy : hexv c2 = y) (x0 : 0 ≤ x) (y0 : y < 0) :
    Calls Tryz.prog 57 #[.string s] w fun e w' => e = pair (0, 0) ∧ ∃ m, w' = w.drewN m := by
  have x2 : ¬ x < 0 := by omega
  have Hk := isMasked_any c1
  have H1 := indexB_any c1
  have H2 := indexB_any c2
  rw [hk] at Hk
  rw [hx] at H1
  rw [hy] at H2
  clear hx hy
  have h' : (1 : Int) < s.size := by omega
  have h0' : (0 : Int) < s.size := by omega
  have h2' : (2 : Int) < s.size := by omega
  have h4' : ¬ (s.size : Int) < 2 := by omega
  have h3' : ¬ (s.size : Int) < 3 := by omega
  go_enter Tryz.func57, Tryz.ntmps57
  go_wp2_with (first
    | (go_at_call 73; refine (hex_back _).mono ?_; rintro e w' ⟨rfl, rfl⟩)
    | (go_at_call_of 74 (92 : Int); refine (mask_back _).mono ?_; rintro e w' ⟨rfl, rfl⟩)
    | (go_at_call 74; refine (Hk _).mono ?_; rintro e w' ⟨rfl, rfl⟩))
  go_quiet ((first | (go_at_call 75; exact Calls.quiet_of_same (H1 _)) | (go_at_call 75; exact Calls.quiet_of_same (H2 _))))
  go_wp2
  go_returns
  exact ⟨rfl, nq, rfl⟩

/-- firstQuoted, at any text that is not empty. -/
theorem first_any (s : ByteArray) (w : World) (h : 0 < s.size) :
    Calls Tryz.prog 57 #[.string s] w fun e w' => e = pair (first s.data.toList) ∧ ∃ m, w' = w.drewN m := by
  by_cases hp : hexB s[0] = false ∧ maskB s[0] = false
  · obtain ⟨r, e, _⟩ := list1 s h
    rw [e, first_p hp]
    exact first_plain s w h hp.1 hp.2
  by_cases h92 : s[0].toNat = 92
  · by_cases h2 : 1 < s.size
    · obtain ⟨r, e, hr⟩ := list2 s h2
      cases hk : maskB s[1] with
      | true =>
        rw [e, first_m hp h92 hk]
        exact first_mask s w _ h2 h92 rfl hk
      | false =>
        by_cases h3 : 2 < s.size
        · obtain ⟨r3, e3⟩ := list3 s h3
          have rx := hexv_range s[1]
          have ry := hexv_range s[2]
          rw [e3, first_3 hp h92 hk]
          by_cases x0 : 0 ≤ hexv s[1]
          · by_cases y0 : 0 ≤ hexv s[2]
            · cases hz : hexB (UInt8.ofNat (hexv s[1] * 16 + hexv s[2]).toNat) with
              | true =>
                rw [if_pos ⟨x0, y0, rfl⟩]
                exact first_hex s w _ _ h3 h92 rfl rfl hk _ _ rfl rfl x0 rx.2 y0 ry.2 hz
              | false =>
                rw [if_neg (by simp)]
                exact first_seen s w _ _ h3 h92 rfl rfl hk _ _ rfl rfl x0 rx.2 y0 ry.2 hz
            · rw [if_neg (by intro hh; exact y0 hh.2.1)]
              exact first_low s w _ _ h3 h92 rfl rfl hk _ _ rfl rfl x0 (by omega)
          · rw [if_neg (by intro hh; exact x0 hh.1)]
            exact first_high s w _ _ h3 h92 rfl rfl hk _ _ rfl rfl (by omega)
        · have hr0 : r = [] := List.length_eq_zero_iff.1 (by omega)
          rw [e, hr0, first_2 hp h92 hk]
          exact first_two s w _ h2 h92 rfl hk (by omega)
    · obtain ⟨r, e, hr⟩ := list1 s h
      have hr0 : r = [] := List.length_eq_zero_iff.1 (by omega)
      rw [e, hr0, first_1 hp h92]
      exact first_one s w h h92 (by omega)
  · obtain ⟨r, e, _⟩ := list1 s h
    rw [e, first_o hp h92]
    exact first_other s w h hp h92
end Go.Proofs.YtnoikdlofkcgaaaGreatDoor

namespace Go.Proofs.YtnoikdlofkcgaaaGreatDoor
open Go.RowKit

/-- What Unquote hands back. -/
def unqV : Option (List UInt8 × Nat) → Value
  | none => .tuple #[.string ⟨#[]⟩, .int .i64 0, .iface 44 (.int .i64 2)]
  | some (l, n) => .tuple #[.string ⟨l.toArray⟩, .int .i64 n, .nilIface]

theorem Holds.drewN {B b : Nat} {l : List UInt8} {w : World} (h : Holds B b l w) (m : Nat) : Holds B b l (w.drewN m) := h
theorem is_drewN {B b : Nat} {l : List Value} {w : World} (h : Lib.IsBuilder 54 5 B b l w) (m : Nat) : Lib.IsBuilder 54 5 B b l (w.drewN m) := h
theorem Below.drewN {B : Nat} {a w : World} (h : Below B a w) (m : Nat) : Below B a (w.drewN m) := ⟨h.os, h.tape, h.output, h.size, h.block⟩

theorem drop_at (s : ByteArray) (k : Nat) (h : k < s.size) : s.data.toList.drop k = s[k] :: s.data.toList.drop (k + 1) :=
  List.drop_eq_getElem_cons (by rw [Array.length_toList]; exact h)

theorem ex_drop (s : ByteArray) (k : Nat) : (s.extract k s.size).data.toList = s.data.toList.drop k := by
  rw [ByteArray.data_extract, Array.toList_extract, List.extract_eq_take_drop]
  apply List.take_of_length_le
  rw [List.length_drop, Array.length_toList]
  exact Nat.le_refl _

theorem ex_size (s : ByteArray) (k : Nat) (h : k < s.size) : 0 < (s.extract k s.size).size := by
  rw [ByteArray.size_extract]
  omega

theorem first_le (l : List UInt8) : (first l).2 ≤ l.length := by
  match l with
  | [] => simp [first]
  | c :: r =>
    by_cases hp : hexB c = false ∧ maskB c = false
    · rw [first_p hp]; simp
    by_cases h : c.toNat = 92
    · match r with
      | [] => rw [first_1 hp h]; simp
      | d :: r' =>
        cases hk : maskB d with
        | true => rw [first_m hp h hk]; simp
        | false =>
          match r' with
          | [] => rw [first_2 hp h hk]; simp
          | e :: r'' => rw [first_3 hp h hk]; split <;> simp
    · rw [first_o hp h]; simp

set_option maxRecDepth 100000 in
set_option maxHeartbeats 1000000 in
theorem unquote_any (s : ByteArray) (w : World) (hs : s.size ≤ 8000000) :
    Calls Tryz.prog 42 #[.string s] w fun e w' => e = .returned (unqV (unq s.data.toList)) ∧ Below w.heap.size w w' := by
  have Hp := Tryz.hasPrefix s ⟨#[34]⟩
  by_cases h0 : 0 < s.size
  · obtain ⟨r, er, hr⟩ := list1 s h0
    by_cases h34 : s[0].toNat = 34
    · have hp : Lib.hasPrefix s.data.toList [34] = true := by
        have e0 : s[0] = 34 := UInt8.toNat_inj.1 h34
        rw [er, e0]
        simp [Lib.hasPrefix]
      have hu : unq s.data.toList = run (r.length + 1) [] (s.data.toList.drop 1) 1 := by
        rw [er, unq, if_pos h34]
        rfl
      rw [show (⟨#[34]⟩ : ByteArray).data.toList = [34] from rfl, hp] at Hp
      clear hp h34
      generalize hU : unq s.data.toList = U at *
      go_enter Tryz.func42, Tryz.ntmps42
      go_wp2_with (go_at_call 22; refine (Hp _).mono ?_; rintro e w' ⟨rfl, hw⟩; subst w')
      have R0 : Hid (∃ f, (s.data.toList.drop 1).length < f ∧ run f [] (s.data.toList.drop 1) 1 = U) := by
        refine ⟨r.length + 1, ?_, hu.symm⟩
        rw [List.length_drop, Array.length_toList]
        exact Nat.lt_succ_of_le (Nat.le_of_eq hr.symm)
      clear hu hU er
      go_loopw [6] (fun i wr => ∃ (k : Nat) (acc : List UInt8), 1 ≤ k ∧ k ≤ s.size ∧ i = .int .i64 k ∧ acc.length < k ∧ Lib.IsBuilder 54 5 w.heap.size w.heap.size (Lib.byteCells acc) wr ∧ Below w.heap.size w wr ∧ Hid (∃ f, (s.data.toList.drop k).length < f ∧ run f acc (s.data.toList.drop k) k = U)) (fun i _ => s.size - (RowKit.intOf i).toNat)
      case atStart => exact ⟨1, [], by omega, h0, rfl, by simp, Lib.fresh_isBuilder _ _ w, (Below.refl _ _).alloc (Nat.le_refl _) _, R0⟩
      case round =>
        clear R0
        obtain ⟨k, acc, k1, k2, rfl, hacc, hb, hbel, hR⟩ := hrel
        have hz := hbel.size
        by_cases hlt : k < s.size
        · have hd := drop_at s k hlt
          by_cases h34 : s[k].toNat = 34
          · have HU : Hid (U = some (acc, k + 1)) := by
              obtain ⟨f, hf, e⟩ := hR
              cases f with
              | zero => omega
              | succ f =>
                rw [hd, run, if_pos h34] at e
                exact e.symm
            clear hR hd
            have W := Tryz.builderString w.heap.size w.heap.size acc wr hb hz
            have g1 : (k : Int) < s.size := by omega
            go_wp2_with (go_at_call 13; refine W.mono ?_; rintro e w3 ⟨rfl, b3⟩)
            go_returns
            rw [HU.out]
            exact ⟨rfl, hbel.trans b3⟩
          · have F := first_any (s.extract k s.size)
            have hle := first_le (s.data.toList.drop k)
            rw [ex_drop] at F
            have HR : Hid (∃ f, (s.data.toList.drop k).length < f + 1 ∧ (if (first (s.data.toList.drop k)).2 = 0 then none else run f (acc ++ [(first (s.data.toList.drop k)).1]) ((s.data.toList.drop k).drop (first (s.data.toList.drop k)).2) (k + (first (s.data.toList.drop k)).2)) = U) := by
              obtain ⟨f, hf, e⟩ := hR
              cases f with
              | zero => omega
              | succ f =>
                refine ⟨f, hf, ?_⟩
                rw [hd, run, if_neg h34] at e
                rw [hd]
                exact e
            have hlen : (s.data.toList.drop k).length = s.size - k := by rw [List.length_drop, Array.length_toList]; rfl
            rw [List.drop_drop] at HR
            rw [hlen] at HR hle
            generalize first (s.data.toList.drop k) = x at *
            obtain ⟨c, n⟩ := x
            dsimp only at HR hle
            unfold pair at F
            dsimp only at F
            clear hR hd hlen
            have g1 : (k : Int) < s.size := by omega
            have g2 : (0 : Int) ≤ k := by omega
            have g3 : (k : Int) ≤ s.size := by omega
            have g4 : ((s[k].toNat : Int) == 34) = false := by rw [beq_eq_false_iff_ne]; omega
            have hex := ex_size s k hlt
            by_cases hn : n = 0
            · subst hn
              have HU : Hid (U = none) := by
                obtain ⟨f, _, e⟩ := HR
                show U = none
                simpa using e.symm
              clear HR
              go_wp2_with (go_at_call 57; refine (F _ hex).mono ?_; rintro e w2 ⟨rfl, m, hw⟩; subst w2)
              go_returns
              rw [HU.out]
              exact ⟨rfl, Below.drewN hbel m⟩
            · have HU : Hid (∃ f, (s.data.toList.drop (k + n)).length < f ∧ run f (acc ++ [c]) (s.data.toList.drop (k + n)) (k + n) = U) := by
                obtain ⟨f, hf, e⟩ := HR
                rw [if_neg hn] at e
                refine ⟨f, ?_, e⟩
                rw [List.length_drop, Array.length_toList]
                show s.size - (k + n) < f
                omega
              clear HR
              have g5 : ¬ (n : Int) = 0 := by omega
              have g6 : (n : Int) ≤ s.size := by omega
              have g7 : (k : Int) + n ≤ 8000000 := by omega
              go_wp2_with (first
                | (go_at_call 57; refine (F _ hex).mono ?_; rintro e w2 ⟨rfl, m, hw⟩; subst w2)
                | (go_at_call 58; refine (write_any w.heap.size w.heap.size acc c _ (is_drewN hb m) (by omega) hz).mono ?_; rintro e w3 ⟨rfl, h3, b3⟩))
              go_roundw
              case rel => exact ⟨k + n, acc ++ [c], by omega, by omega, by go_num, by simp; omega, Or.inr h3, (Below.drewN hbel m).trans b3, HU⟩
              case measure => simp [RowKit.intOf]; omega
        · have hke : k = s.size := by omega
          have HU : Hid (U = none) := by
            obtain ⟨f, hf, e⟩ := hR
            have hd : s.data.toList.drop k = [] := List.drop_of_length_le (by rw [Array.length_toList]; show s.size ≤ k; omega)
            rw [hd] at e
            show U = none
            cases f with
            | zero => simpa [run] using e.symm
            | succ f => simpa [run] using e.symm
          clear hR
          subst hke
          clear hlt
          go_wp2
          go_returns
          rw [HU.out]
          exact ⟨rfl, hbel⟩
    · have hp : Lib.hasPrefix s.data.toList [34] = false := by
        have e0 : ¬ s[0] = 34 := fun e => h34 (by rw [e]; rfl)
        rw [er]
        simp only [Lib.hasPrefix, List.isPrefixOf, Bool.and_eq_false_iff]
        exact Or.inl (beq_eq_false_iff_ne.2 (Ne.symm e0))
      have hu : unq s.data.toList = none := by
        rw [er, unq, if_neg h34]
      rw [show (⟨#[34]⟩ : ByteArray).data.toList = [34] from rfl, hp] at Hp
      rw [hu]
      unfold unqV
      dsimp only
      clear hp h34 hu er
      go_enter Tryz.func42, Tryz.ntmps42
      go_wp2_with (go_at_call 22; refine (Hp _).mono ?_; rintro e w' ⟨rfl, hw⟩; subst w')
      go_returns
      exact ⟨rfl, Below.refl _ _⟩
  · have hn : s.data.toList = [] := List.length_eq_zero_iff.1 (by rw [Array.length_toList]; show s.size = 0; omega)
    rw [show (⟨#[34]⟩ : ByteArray).data.toList = [34] from rfl, hn] at Hp
    have hp : Lib.hasPrefix [] [34] = false := rfl
    rw [hp] at Hp
    rw [hn]
    unfold unq unqV
    dsimp only
    clear hp hn
    go_enter Tryz.func42, Tryz.ntmps42
    go_wp2_with (go_at_call 22; refine (Hp _).mono ?_; rintro e w' ⟨rfl, hw⟩; subst w')
    go_returns
    exact ⟨rfl, Below.refl _ _⟩
end Go.Proofs.YtnoikdlofkcgaaaGreatDoor
