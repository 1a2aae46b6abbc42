/-
  What is proved: the functions Whole, Id and Parse of package bookref1 at any text and any id.
  Conditions: as each theorem says.
-/
import Derived.Test.YtgiggobpbddlbaaDoorTold
namespace Go.Proofs.YtgiggobpbddlbaaDoor
open Go.RowKit

/-- The number that digits spell; -1: some byte is none. -/
def decV (l : List UInt8) : Int := match Lib.decFrom 0 l with
  | some v => v
  | none => -1
theorem decV_some {l : List UInt8} {v : Nat} (h : Lib.decFrom 0 l = some v) : decV l = v := by unfold decV; rw [h]
theorem decV_none {l : List UInt8} (h : Lib.decFrom 0 l = none) : decV l = -1 := by unfold decV; rw [h]
/-- What Whole answers. -/
def wholeV (l : List UInt8) (most : Nat) : Int := if l = [] ∨ most < l.length ∨ (l.head? = some 48 ∧ 1 < l.length) then -1 else decV l

theorem take_snoc (s : ByteArray) (k : Nat) (h : k < s.size) : s.data.toList.take (k + 1) = s.data.toList.take k ++ [s[k]] := by
  rw [List.take_succ_eq_append_getElem (by simpa using h)]; rfl

theorem dec_snoc (s : ByteArray) (k v : Nat) (h : k < s.size) (hv : Lib.decFrom 0 (s.data.toList.take k) = some v) (h1 : 48 ≤ s[k].toNat) (h2 : s[k].toNat ≤ 57) :
    Lib.decFrom 0 (s.data.toList.take (k + 1)) = some (v * 10 + (s[k].toNat - 48)) := by
  rw [take_snoc s k h, decFrom_append, hv]
  simp [Lib.decFrom, Lib.digitVal, h1, h2]

theorem dec_none (s : ByteArray) (k v : Nat) (h : k < s.size) (hv : Lib.decFrom 0 (s.data.toList.take k) = some v) (h1 : ¬ (48 ≤ s[k].toNat ∧ s[k].toNat ≤ 57)) :
    Lib.decFrom 0 s.data.toList = none := by
  have e : s.data.toList = (s.data.toList.take k ++ [s[k]]) ++ s.data.toList.drop (k + 1) := by rw [← take_snoc s k h, List.take_append_drop]
  rw [e, decFrom_append, decFrom_append, hv]
  simp [Lib.decFrom, Lib.digitVal, h1]

theorem dec_bound (s : ByteArray) (k v : Nat) (hk : k ≤ 7) (hv : Lib.decFrom 0 (s.data.toList.take k) = some v) : v < 100000000 := by
  have h := Lib.decFrom_lt _ _ _ hv
  have hl : (s.data.toList.take k).length ≤ 7 := Nat.le_trans (List.length_take_le _ _) hk
  have : (0 + 1) * 10 ^ (s.data.toList.take k).length ≤ 10 ^ 7 := by
    rw [Nat.zero_add, Nat.one_mul]
    exact Nat.pow_le_pow_right (by decide) hl
  omega

theorem ret_int {k : IntKind} {a b : Int} (h : a = b) : Ending.returned (.int k a) = .returned (.int k b) := by rw [h]

theorem len_data (s : ByteArray) : s.data.toList.length = s.size := Array.length_toList

theorem empty_iff (s : ByteArray) : s.toList.isEmpty = decide (s.size = 0) := by
  rw [ByteArray.toList_eq]
  cases h : s.data.toList with
  | nil => have := len_data s; rw [h] at this; simp at this; simp [← this]
  | cons b r => have := len_data s; rw [h] at this; simp at this; simp [← this]

theorem head_at (s : ByteArray) (h : 0 < s.size) : s.data.toList.head? = some s[0] := by
  rw [List.head?_eq_getElem?, List.getElem?_eq_getElem (by rw [len_data]; exact h)]
  rfl

set_option maxHeartbeats 1000000 in
theorem whole_short (s : ByteArray) (most : Nat) (w : World) (h : s.size = 0 ∨ most < s.size) :
    Calls Tryd.prog 22 #[.string s, .int .i64 most] w fun e w' => e = .returned (.int .i64 (-1)) ∧ w' = w := by
  by_cases h0 : s.size = 0
  · have he : s.toList.isEmpty = true := by rw [empty_iff]; simp [h0]
    clear h
    go_enter Tryd.func22, Tryd.ntmps22
    go_wp2
    go_ret
    exact ⟨rfl, rfl⟩
  · have he : s.toList.isEmpty = false := by rw [empty_iff]; simp [h0]
    have h2 : (most : Int) < (s.size : Int) := by omega
    clear h
    go_enter Tryd.func22, Tryd.ntmps22
    go_wp2
    go_ret
    exact ⟨rfl, rfl⟩

set_option maxHeartbeats 1000000 in
theorem whole_nought (s : ByteArray) (most : Nat) (w : World) (h0 : 0 < s.size) (h1 : s.size ≤ most) (h2 : s[0].toNat = 48) (h3 : 1 < s.size) :
    Calls Tryd.prog 22 #[.string s, .int .i64 most] w fun e w' => e = .returned (.int .i64 (-1)) ∧ w' = w := by
  have he : s.toList.isEmpty = false := by rw [empty_iff, decide_eq_false_iff_not]; omega
  have h1' : (s.size : Int) ≤ (most : Int) := by omega
  have h3' : (1 : Int) < (s.size : Int) := by omega
  go_enter Tryd.func22, Tryd.ntmps22
  go_wp2
  go_ret
  exact ⟨rfl, rfl⟩

set_option maxHeartbeats 1000000 in
theorem whole_loop (s : ByteArray) (most : Nat) (w : World) (hm : most ≤ 7) (h0 : 0 < s.size) (h1 : s.size ≤ most) (h2 : s[0].toNat = 48 → s.size = 1) :
    Calls Tryd.prog 22 #[.string s, .int .i64 most] w fun e w' => e = .returned (.int .i64 (decV s.data.toList)) ∧ w' = w := by
  have he : s.toList.isEmpty = false := by rw [empty_iff, decide_eq_false_iff_not]; omega
  have h1' : (s.size : Int) ≤ (most : Int) := by omega
  have hg : s[0].toNat = 48 ∧ ¬ (1 : Int) < (s.size : Int) ∨ ((s[0].toNat : Int) == 48) = false := by
    by_cases h48 : s[0].toNat = 48
    · exact Or.inl ⟨h48, by have := h2 h48; omega⟩
    · exact Or.inr (by rw [beq_eq_false_iff_ne]; omega)
  clear h2
  rcases hg with ⟨h48, h3⟩ | h48
  all_goals
    go_enter Tryd.func22, Tryd.ntmps22
    go_wp2_with fail
    go_loop [5, 6] (fun n i => ∃ k v : Nat, k ≤ s.size ∧ i = .int .i64 k ∧ n = .int .i64 v ∧ Lib.decFrom 0 (s.data.toList.take k) = some v) (fun _ i => s.size - (intOf i).toNat)
    case atStart => exact ⟨0, 0, Nat.zero_le _, rfl, rfl, by simp [Lib.decFrom]⟩
    case round =>
      obtain ⟨k, v, hk, rfl, rfl, hv⟩ := hrel
      have vb := dec_bound s k v (by omega) hv
      by_cases hlt : k < s.size
      · by_cases hd : 48 ≤ s[k].toNat ∧ s[k].toNat ≤ 57
        · have HS : Hid (Lib.decFrom 0 (s.data.toList.take (k + 1)) = some (v * 10 + (s[k].toNat - 48))) := dec_snoc s k v hlt hv hd.1 hd.2
          obtain ⟨d1, d2⟩ := hd
          clear hv
          go_wp2
          go_round
          case rel =>
            have e0 : k + 1 ≤ s.size := hlt
            have e1 : Value.int .i64 ((k : Int) + 1) = .int .i64 ((k + 1 : Nat) : Int) := by go_num
            have e2 : Value.int .i64 ((v : Int) * 10 + (s[k].toNat : Int) - 48) = .int .i64 ((v * 10 + (s[k].toNat - 48) : Nat) : Int) := by go_num
            first
              | exact ⟨k + 1, _, e0, e1, e2, HS.out⟩
              | exact ⟨_, _, _, ⟨k + 1, e0, e1, _, e2, HS.out⟩, rfl, rfl, rfl⟩
          case measure => simp [intOf]; omega
        · have HN : Hid (Lib.decFrom 0 s.data.toList = none) := dec_none s k v hlt hv hd
          clear hv
          by_cases d1 : 48 ≤ s[k].toNat
          · have d2 : ¬ s[k].toNat ≤ 57 := fun e => hd ⟨d1, e⟩
            clear hd
            go_wp2
            go_ret
            exact ⟨ret_int (decV_none HN.out).symm, rfl⟩
          · clear hd
            go_wp2
            go_ret
            exact ⟨ret_int (decV_none HN.out).symm, rfl⟩
      · have HS : Hid (Lib.decFrom 0 s.data.toList = some v) := by
          rw [List.take_of_length_le (by rw [len_data]; omega)] at hv
          exact hv
        clear hv
        go_wp2
        go_ret
        exact ⟨ret_int (decV_some HS.out).symm, rfl⟩

theorem whole_any (s : ByteArray) (most : Nat) (w : World) (hm : most ≤ 7) :
    Calls Tryd.prog 22 #[.string s, .int .i64 most] w fun e w' => e = .returned (.int .i64 (wholeV s.data.toList most)) ∧ w' = w := by
  unfold wholeV
  by_cases h0 : s.size = 0
  · rw [if_pos (Or.inl (List.length_eq_zero_iff.1 ((len_data s).trans h0)))]
    exact whole_short s most w (Or.inl h0)
  · have hp : 0 < s.size := Nat.pos_of_ne_zero h0
    have hne : ¬ s.data.toList = [] := fun e => h0 (by rw [← len_data, e]; rfl)
    by_cases h1 : most < s.size
    · rw [if_pos (Or.inr (Or.inl (by rw [len_data]; exact h1)))]
      exact whole_short s most w (Or.inr h1)
    · by_cases h2 : s[0].toNat = 48 ∧ 1 < s.size
      · rw [if_pos (Or.inr (Or.inr ⟨by rw [head_at s hp]; exact congrArg some (UInt8.toNat_inj.1 h2.1), by rw [len_data]; exact h2.2⟩))]
        exact whole_nought s most w hp (by omega) h2.1 h2.2
      · rw [if_neg (by
          rintro (e | e | ⟨e1, e2⟩)
          · exact hne e
          · rw [len_data] at e; exact h1 e
          · rw [head_at s hp] at e1
            rw [len_data] at e2
            exact h2 ⟨by rw [Option.some.inj e1]; rfl, e2⟩)]
        exact whole_loop s most w hm hp (by omega) (fun e => by have : ¬ 1 < s.size := fun x => h2 ⟨e, x⟩; omega)
end Go.Proofs.YtgiggobpbddlbaaDoor
