/-
  What is proved: which texts package disk takes for names (mayName, isName).
  Conditions: none.
-/
import Derived.Test.YtcdpcjafomfddaaDoorKMap
namespace Go.Proofs.YtcdpcjafomfddaaDoor
open Go.RowKit Go.Maps

/-- A byte that may stand in a name. -/
def mayB (c : UInt8) : Bool := decide (97 ≤ c.toNat ∧ c.toNat ≤ 122 ∨ 48 ≤ c.toNat ∧ c.toNat ≤ 57 ∨ c.toNat = 46)
/-- A name. -/
def nameB (s : Tx) : Bool := decide (1 ≤ s.length ∧ s.length ≤ 12) && s.all mayB

set_option maxRecDepth 100000 in
set_option maxHeartbeats 1000000 in
theorem mayName_any (c : UInt8) (w : World) : Calls Tryd.prog 39 #[.int .u8 c.toNat] w fun e w' => e = .returned (.bool (mayB c)) ∧ w' = w := by
  unfold mayB
  generalize c.toNat = n
  have key : ∀ (a b d f g : Bool), decide ((97 : Int) ≤ n) = a → decide ((n : Int) ≤ 122) = b → decide ((48 : Int) ≤ n) = d → decide ((n : Int) ≤ 57) = f → decide (n = 46) = g → decide (97 ≤ n ∧ n ≤ 122 ∨ 48 ≤ n ∧ n ≤ 57 ∨ n = 46) = (a && b || d && f || g) := by
    intro a b d f g ha hb hd hf hg
    subst ha hb hd hf hg
    rw [Bool.eq_iff_iff]
    simp only [decide_eq_true_eq, Bool.or_eq_true, Bool.and_eq_true]
    omega
  obtain ⟨a, ha⟩ : ∃ a : Bool, decide ((97 : Int) ≤ n) = a := ⟨_, rfl⟩
  obtain ⟨b, hb⟩ : ∃ a : Bool, decide ((n : Int) ≤ 122) = a := ⟨_, rfl⟩
  obtain ⟨d, hd⟩ : ∃ a : Bool, decide ((48 : Int) ≤ n) = a := ⟨_, rfl⟩
  obtain ⟨f, hf⟩ : ∃ a : Bool, decide ((n : Int) ≤ 57) = a := ⟨_, rfl⟩
  obtain ⟨g, hg⟩ : ∃ a : Bool, decide (n = 46) = a := ⟨_, rfl⟩
  rw [key a b d f g ha hb hd hf hg]
  clear key
  go_enter Tryd.func39, Tryd.ntmps39
  cases a <;> cases b <;> cases d <;> cases f <;> cases g <;> simp only [decide_eq_true_eq, decide_eq_false_iff_not] at ha hb hd hf hg <;> first
    | (exfalso; omega)
    | (first | (subst hg) | skip
       go_wp2
       go_ret
       exact ⟨by first | (simp; done) | (simp; omega), rfl⟩)

theorem may_take (s : Tx) (k : Nat) (hk : k < s.length) : (s.take (k + 1)).all mayB = ((s.take k).all mayB && mayB s[k]) := by
  rw [take_snoc s k hk, List.all_append, List.all_cons, List.all_nil, Bool.and_true]

set_option maxRecDepth 100000 in
set_option maxHeartbeats 2000000 in
theorem isName_any (s : Tx) (w : World) : Calls Tryd.prog 25 #[txV s] w fun e w' => e = .returned (.bool (nameB s)) ∧ w' = w := by
  have hz : (⟨s.toArray⟩ : ByteArray).size = s.length := by simp [ByteArray.size]
  have hM := mayName_any
  show Calls Tryd.prog 25 #[.string ⟨s.toArray⟩] w _
  by_cases h0 : s.length < 1
  · have e : nameB s = false := by unfold nameB; simp; omega
    rw [e]
    have g0 : ((⟨s.toArray⟩ : ByteArray).size : Int) < 1 := by rw [hz]; omega
    go_enter Tryd.func25, Tryd.ntmps25
    go_wp2
    go_ret
    exact ⟨rfl, rfl⟩
  · have g0 : ¬ ((⟨s.toArray⟩ : ByteArray).size : Int) < 1 := by rw [hz]; omega
    by_cases h1 : 12 < s.length
    · have e : nameB s = false := by unfold nameB; simp; omega
      rw [e]
      have g1 : (12 : Int) < ((⟨s.toArray⟩ : ByteArray).size : Int) := by rw [hz]; omega
      go_enter Tryd.func25, Tryd.ntmps25
      go_wp2
      go_ret
      exact ⟨rfl, rfl⟩
    · have g1 : ¬ (12 : Int) < ((⟨s.toArray⟩ : ByteArray).size : Int) := by rw [hz]; omega
      have e : nameB s = s.all mayB := by unfold nameB; rw [decide_eq_true (by omega)]; simp
      rw [e]
      clear e
      obtain ⟨r, hr⟩ : ∃ r : Bool, s.all mayB = r := ⟨_, rfl⟩
      rw [hr]
      have HR : Hid (s.all mayB = r) := hr
      clear hr
      have HL : Hid (s.length ≤ 12) := by show _ ≤ _; omega
      go_enter Tryd.func25, Tryd.ntmps25
      go_wp2
      clear g0 g1 h0 h1
      go_loopw [14] (fun i wr => ∃ k : Nat, k ≤ (⟨s.toArray⟩ : ByteArray).size ∧ i = .int .i64 k ∧ Hid ((s.take k).all mayB = true) ∧ wr = w) (fun i _ => (⟨s.toArray⟩ : ByteArray).size - (RowKit.intOf i).toNat)
      case atStart => exact ⟨0, Nat.zero_le _, rfl, by show _ = _; simp, rfl⟩
      case round =>
        obtain ⟨k, hk, rfl, HA, hw⟩ := hrel
        subst hw
        by_cases hlt : k < (⟨s.toArray⟩ : ByteArray).size
        · have hc : (⟨s.toArray⟩ : ByteArray)[k] = s[k]'(by omega) := by simp [ByteArray.getElem_eq_getElem_data]
          have M := hM (⟨s.toArray⟩ : ByteArray)[k] wr
          have HT := may_take s k (by omega)
          rw [← hc] at HT
          have g2 : (k : Int) < ((⟨s.toArray⟩ : ByteArray).size : Int) := by omega
          have HK : Hid (k < (⟨s.toArray⟩ : ByteArray).size ∧ (⟨s.toArray⟩ : ByteArray).size ≤ 12) := ⟨hlt, by have := HL.out; omega⟩
          obtain ⟨c, hcc⟩ : ∃ c : Bool, mayB (⟨s.toArray⟩ : ByteArray)[k] = c := ⟨_, rfl⟩
          rw [hcc] at M HT
          have HT' : Hid (_ = _) := HT
          clear HT hcc hc
          cases c with
          | true =>
            go_wp2_with (go_at_call 39; refine M.mono ?_; rintro e w' ⟨rfl, rfl⟩)
            go_roundw
            case rel => exact ⟨k + 1, HK.out.1, by have := HK.out; go_num, by show _ = _; rw [HT'.out, HA.out]; rfl, by first | rfl | trivial⟩
            case measure => have := HK.out; simp [RowKit.intOf]; omega
          | false =>
            have h5 : s.all mayB = false := by
              rw [List.all_eq_false]
              have h6 := HT'.out
              rw [Bool.and_false, List.all_eq_false] at h6
              obtain ⟨x, hx, h7⟩ := h6
              exact ⟨x, List.mem_of_mem_take hx, h7⟩
            rw [HR.out] at h5
            subst h5
            go_wp2_with (go_at_call 39; refine M.mono ?_; rintro e w' ⟨rfl, rfl⟩)
            go_ret
            exact ⟨rfl, rfl⟩
        · have hke : k = (⟨s.toArray⟩ : ByteArray).size := by omega
          subst hke
          have h5 : s.all mayB = true := by have := HA.out; rwa [hz, List.take_length] at this
          rw [HR.out] at h5
          subst h5
          go_wp2
          go_ret
          exact ⟨rfl, rfl⟩
end Go.Proofs.YtcdpcjafomfddaaDoor
