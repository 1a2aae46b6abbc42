/-
  What is proved: what bookref3's named, file and without answer.
  Conditions: as each theorem says.
-/
import Derived.Test.YtcdpcjafomfddaaDoorQMem
namespace Go.Proofs.YtcdpcjafomfddaaDoor
open Go.RowKit Go.Maps Go.Sort Go.Shelf

theorem mayB_cases (c : UInt8) : (mayB c = true ∧ (c.toNat = 46 ∨ (48 ≤ c.toNat ∧ c.toNat ≤ 57) ∨ (97 ≤ c.toNat ∧ c.toNat ≤ 122))) ∨ (mayB c = false ∧ ((c.toNat ≠ 46 ∧ c.toNat < 48) ∨ (57 < c.toNat ∧ c.toNat < 97) ∨ 122 < c.toNat)) := by
  cases h : mayB c with
  | true =>
    unfold mayB at h
    simp only [decide_eq_true_eq] at h
    left
    exact ⟨rfl, by omega⟩
  | false =>
    unfold mayB at h
    simp only [decide_eq_false_iff_not] at h
    right
    exact ⟨rfl, by omega⟩

set_option maxRecDepth 100000 in
set_option maxHeartbeats 4000000 in
theorem named_any (s : Tx) (w : World) : Calls Tryd.prog 28 #[.string ⟨s.toArray⟩] w fun e w' => e = .returned (.bool (nameB s)) ∧ w' = w := by
  have hz : (⟨s.toArray⟩ : ByteArray).size = s.length := by simp [ByteArray.size]
  by_cases h0 : s = []
  · subst h0
    go_enter Tryd.func28, Tryd.ntmps28
    go_wp2
    go_ret
    exact ⟨rfl, rfl⟩
  · have hl0 : 1 ≤ s.length := by
      cases s with
      | nil => exact absurd rfl h0
      | cons a l => simp
    have gE : s.isEmpty = false := by
      cases s with
      | nil => exact absurd rfl h0
      | cons a l => rfl
    by_cases h1 : 12 < s.length
    · have e : nameB s = false := by unfold nameB; simp; omega
      rw [e]
      have g1 : (12 : Int) < ((⟨s.toArray⟩ : ByteArray).size : Int) := by rw [hz]; omega
      go_enter Tryd.func28, Tryd.ntmps28
      go_wp2
      go_ret
      exact ⟨rfl, rfl⟩
    · have g1 : ¬ (12 : Int) < (s.length : Int) := by omega
      have e : nameB s = s.all mayB := by unfold nameB; rw [decide_eq_true (by omega)]; simp
      rw [e]
      clear e
      obtain ⟨r, hr⟩ : ∃ r : Bool, s.all mayB = r := ⟨_, rfl⟩
      rw [hr]
      have HR : Hid (s.all mayB = r) := hr
      have HL : Hid (s.length ≤ 12) := by show _ ≤ _; omega
      clear hr
      go_enter Tryd.func28, Tryd.ntmps28
      go_wp2
      clear g1 gE h0 h1 hl0
      go_loopw [3] (fun i wr => ∃ k : Nat, k ≤ (⟨s.toArray⟩ : ByteArray).size ∧ i = .int .i64 k ∧ Hid ((s.take k).all mayB = true) ∧ wr = w) (fun i _ => (⟨s.toArray⟩ : ByteArray).size - (RowKit.intOf i).toNat)
      case atStart => exact ⟨0, Nat.zero_le _, rfl, by show _ = _; simp, rfl⟩
      case round =>
        obtain ⟨k, hk, rfl, HA, hw⟩ := hrel
        subst hw
        by_cases hlt : k < (⟨s.toArray⟩ : ByteArray).size
        · have hc : (⟨s.toArray⟩ : ByteArray)[k] = s[k]'(by omega) := by simp [ByteArray.getElem_eq_getElem_data]
          have HT := may_take s k (by omega)
          rw [← hc] at HT
          have g2 : (k : Int) < ((⟨s.toArray⟩ : ByteArray).size : Int) := by omega
          have HK : Hid (k < (⟨s.toArray⟩ : ByteArray).size ∧ (⟨s.toArray⟩ : ByteArray).size ≤ 12) := ⟨hlt, by have := HL.out; omega⟩
          have g3 : (k : Int) < 12 := by have := HL.out; omega
          rcases mayB_cases (⟨s.toArray⟩ : ByteArray)[k] with ⟨hcc, h46⟩ | ⟨hcc, h46⟩
          · rw [hcc] at HT
            have HT' : Hid (_ = _) := HT
            clear HT hcc hc hk
            rcases h46 with h46 | h46 | h46
            · have f1 : (((⟨s.toArray⟩ : ByteArray)[k].toNat : Int)) = 46 := by omega
              clear h46
              go_wp2
              go_roundw
              case rel => exact ⟨k + 1, HK.out.1, by have := HK.out; go_num, by show _ = _; rw [HT'.out, HA.out]; rfl, by first | rfl | trivial⟩
              case measure => have := HK.out; simp [RowKit.intOf]; omega
            · have f1 : ¬ (((⟨s.toArray⟩ : ByteArray)[k].toNat : Int)) = 46 := by omega
              have f2 : ¬ (((⟨s.toArray⟩ : ByteArray)[k].toNat : Int)) < 48 := by omega
              have f3 : ¬ (57 : Int) < (((⟨s.toArray⟩ : ByteArray)[k].toNat : Int)) := by omega
              clear h46
              go_wp2
              go_roundw
              case rel => exact ⟨k + 1, HK.out.1, by have := HK.out; go_num, by show _ = _; rw [HT'.out, HA.out]; rfl, by first | rfl | trivial⟩
              case measure => have := HK.out; simp [RowKit.intOf]; omega
            · have f1 : ¬ (((⟨s.toArray⟩ : ByteArray)[k].toNat : Int)) = 46 := by omega
              have f2 : ¬ (((⟨s.toArray⟩ : ByteArray)[k].toNat : Int)) < 48 := by omega
              have f3 : (57 : Int) < (((⟨s.toArray⟩ : ByteArray)[k].toNat : Int)) := by omega
              have f4 : ¬ (((⟨s.toArray⟩ : ByteArray)[k].toNat : Int)) < 97 := by omega
              have f5 : ¬ (122 : Int) < (((⟨s.toArray⟩ : ByteArray)[k].toNat : Int)) := by omega
              clear h46
              go_wp2
              go_roundw
              case rel => exact ⟨k + 1, HK.out.1, by have := HK.out; go_num, by show _ = _; rw [HT'.out, HA.out]; rfl, by first | rfl | trivial⟩
              case measure => have := HK.out; simp [RowKit.intOf]; omega
          · rw [hcc] at HT
            have h5 : s.all mayB = false := by
              rw [List.all_eq_false]
              rw [Bool.and_false, List.all_eq_false] at HT
              obtain ⟨x, hx, h7⟩ := HT
              exact ⟨x, List.mem_of_mem_take hx, h7⟩
            rw [HR.out] at h5
            subst h5
            clear HT hcc hc hk
            rcases h46 with h46 | h46 | h46
            · have f1 : ¬ (((⟨s.toArray⟩ : ByteArray)[k].toNat : Int)) = 46 := by omega
              have f2 : (((⟨s.toArray⟩ : ByteArray)[k].toNat : Int)) < 48 := by omega
              have f4 : (((⟨s.toArray⟩ : ByteArray)[k].toNat : Int)) < 97 := by omega
              clear h46
              go_wp2
              go_ret
              exact ⟨rfl, rfl⟩
            · have f1 : ¬ (((⟨s.toArray⟩ : ByteArray)[k].toNat : Int)) = 46 := by omega
              have f2 : ¬ (((⟨s.toArray⟩ : ByteArray)[k].toNat : Int)) < 48 := by omega
              have f3 : (57 : Int) < (((⟨s.toArray⟩ : ByteArray)[k].toNat : Int)) := by omega
              have f4 : (((⟨s.toArray⟩ : ByteArray)[k].toNat : Int)) < 97 := by omega
              clear h46
              go_wp2
              go_ret
              exact ⟨rfl, rfl⟩
            · have f1 : ¬ (((⟨s.toArray⟩ : ByteArray)[k].toNat : Int)) = 46 := by omega
              have f2 : ¬ (((⟨s.toArray⟩ : ByteArray)[k].toNat : Int)) < 48 := by omega
              have f3 : (57 : Int) < (((⟨s.toArray⟩ : ByteArray)[k].toNat : Int)) := by omega
              have f4 : ¬ (((⟨s.toArray⟩ : ByteArray)[k].toNat : Int)) < 97 := by omega
              have f5 : (122 : Int) < (((⟨s.toArray⟩ : ByteArray)[k].toNat : Int)) := by omega
              clear h46
              go_wp2
              go_ret
              exact ⟨rfl, rfl⟩
        · have hke : k = (⟨s.toArray⟩ : ByteArray).size := by omega
          subst hke
          have h5 : s.all mayB = true := by have := HA.out; rwa [hz, List.take_length] at this
          rw [HR.out] at h5
          subst h5
          go_wp2
          go_ret
          exact ⟨rfl, rfl⟩

/-- The number of a name's file, or -1. -/
def fkI (N : List (Tx × Nat)) (s : Tx) : Int := match fk N s with | some i => (i : Int) | none => -1

theorem fk_take {N : List (Tx × Nat)} {s : Tx} {k z : Nat} (hk : N[k]? = some (s, z)) (h : ∀ j q, j < k → N[j]? = some q → q.1 ≠ s) : fk N s = some z := by
  unfold fk
  obtain ⟨h1, h2⟩ := List.getElem?_eq_some_iff.1 hk
  have : N.find? (fun q => q.1 == s) = some (s, z) := by
    rw [List.find?_eq_some_iff_getElem]
    refine ⟨by simp, k, h1, h2, fun j hj => ?_⟩
    simpa using h j _ hj (List.getElem?_eq_getElem (by omega))
  rw [this]; rfl
theorem fk_gone {N : List (Tx × Nat)} {s : Tx} (h : ∀ j q, j < N.length → N[j]? = some q → q.1 ≠ s) : fk N s = none := by
  unfold fk
  rw [Option.map_eq_none_iff, List.find?_eq_none]
  intro q hq e
  obtain ⟨j, hj, rfl⟩ := List.mem_iff_getElem.1 hq
  exact h j _ hj (List.getElem?_eq_getElem hj) (by simpa using e)

theorem Rk.names {T : Nat → Prop} {w : World} {p : Nat} {fs : List FV} {N Y : List (Tx × Nat)} {n st : Int} (h : Rk T w p fs N Y n st) : ∃ a c, w.cell? ⟨p, 1, none⟩ = some (.slice a N.length c) ∧ RowN (.slice a N.length c) N w := by
  obtain ⟨vf, vn, vy, h1, h2, h3, h4, _⟩ := h.box
  obtain ⟨a, c, rfl⟩ := rowN_form h3
  exact ⟨a, c, Lib.cell_of_heap h1 1, h3⟩

set_option maxRecDepth 100000 in
set_option maxHeartbeats 4000000 in
theorem rFile_any {T : Nat → Prop} {p : Nat} {fs : List FV} {N Y : List (Tx × Nat)} {n st : Int} (s : Tx) (w : World) (h : Rk T w p fs N Y n st) (hN : N.length ≤ 1000) :
    Calls Tryd.prog 29 #[.pointer (some ⟨p, 0, none⟩), .string ⟨s.toArray⟩] w fun e w' => e = .returned (.int .i64 (fkI N s)) ∧ w' = w := by
  obtain ⟨a, c, c1, R⟩ := h.names
  have HR : Hid (RowN (.slice a N.length c) N w) := R
  have HN : Hid (N.length ≤ 1000) := hN
  clear h R hN
  obtain ⟨r, hr⟩ : ∃ r : Int, fkI N s = r := ⟨_, rfl⟩
  rw [hr]
  have HX : Hid (fkI N s = r) := hr
  clear hr
  go_enter Tryd.func29, Tryd.ntmps29
  go_wp2_with fail
  go_loopw [5] (fun i wr => ∃ k : Nat, k ≤ N.length ∧ i = .int .i64 k ∧ Hid (∀ j q, j < k → N[j]? = some q → q.1 ≠ s) ∧ wr = w) (fun i _ => N.length - (RowKit.intOf i).toNat)
  case atStart => exact ⟨0, Nat.zero_le _, rfl, fun j _ hj => absurd hj (Nat.not_lt_zero _), rfl⟩
  case round =>
    obtain ⟨k, hk, rfl, HA, hw⟩ := hrel
    subst hw
    by_cases hlt : k < N.length
    · obtain ⟨⟨t, z⟩, hq⟩ : ∃ q, N[k]? = some q := ⟨_, List.getElem?_eq_getElem hlt⟩
      obtain ⟨b, rfl, x0, x1⟩ := rowN_get HR.out hq
      have g2 : (k : Int) < (N.length : Int) := by omega
      have g3 : (k : Int) < 1000 := by have := HN.out; omega
      have HK : Hid (k < N.length) := hlt
      have HQ : Hid (N[k]? = some (t, z)) := hq
      by_cases he : t = s
      · subst he
        have hf := fk_take hq HA.out
        have hr2 : r = (z : Int) := by rw [← HX.out]; unfold fkI; rw [hf]
        subst hr2
        clear hf hk hq hlt
        go_wp2
        go_ret
        exact ⟨rfl, rfl⟩
      · have heq : (t == s) = false := by simpa using he
        have HE : Hid (t ≠ s) := he
        clear hk he hlt hq
        go_wp2
        go_roundw
        case rel => exact ⟨k + 1, HK.out, by go_num, fun j q hjk hj => by
                      rcases Nat.lt_or_ge j k with h1 | h1
                      · exact HA.out j q h1 hj
                      · obtain rfl : j = k := by omega
                        rw [HQ.out] at hj
                        obtain rfl := Option.some.inj hj
                        exact HE.out, by first | rfl | trivial⟩
        case measure => have := HK.out; simp [RowKit.intOf]; omega
    · have hke : k = N.length := by omega
      subst hke
      have hf := fk_gone HA.out
      have hr2 : r = -1 := by rw [← HX.out]; unfold fkI; rw [hf]
      subst hr2
      clear hf hlt hk
      go_wp2
      go_ret
      exact ⟨rfl, rfl⟩

/-- A row made since. -/
def NewN (w : World) (l : List (Tx × Nat)) (v : Value) (w' : World) : Prop := RowN v l w' ∧ (∀ b, v.ownBlock = some b → w.heap.size ≤ b) ∧ Below w.heap.size w w'

def WithP (w : World) (l : List (Tx × Nat)) (e : Ending) (w' : World) : Prop := ∃ a c, e = .returned (.slice a l.length c) ∧ NewN w l (.slice a l.length c) w'

set_option maxRecDepth 100000 in
set_option maxHeartbeats 4000000 in
theorem without_any (s : Tx) (a : Option Addr) (c : Nat) (N : List (Tx × Nat)) (w : World) (R : RowN (.slice a N.length c) N w) (hN : N.length ≤ 1000) :
    Calls Tryd.prog 35 #[.slice a N.length c, .string ⟨s.toArray⟩] w fun e w' => WithP w (N.filter fun q => q.1 != s) e w' := by
  have HR : Hid (RowN (.slice a N.length c) N w) := R
  have HN : Hid (N.length ≤ 1000) := hN
  clear R hN
  obtain ⟨post, hpost⟩ : ∃ post, post = fun e w' => WithP w (N.filter fun q => q.1 != s) e w' := ⟨_, rfl⟩
  rw [← hpost]
  have HPO : Hid (post = _) := hpost
  clear hpost
  go_enter Tryd.func35, Tryd.ntmps35
  go_wp2_with fail
  go_loopw [5, 6] (fun v i wr => ∃ (k : Nat) (oa : Option Addr) (m oc : Nat), k ≤ N.length ∧ i = .int .i64 k ∧ v = .slice oa m oc ∧ Hid (NewN w ((N.take k).filter fun q => q.1 != s) (.slice oa m oc) wr)) (fun _ i _ => N.length - (RowKit.intOf i).toNat)
  case atStart => exact ⟨0, none, 0, 0, Nat.zero_le _, rfl, rfl, World.ownsRow_nil _ _ _ _, (fun b h => by cases h), Below.refl _ _⟩
  case round =>
    obtain ⟨k, oa, m, oc, hk, rfl, rfl, HA⟩ := hrel
    by_cases hlt : k < N.length
    · have RW : RowN (.slice a N.length c) N wr := own_below HR.out HA.out.2.2 (Nat.le_refl _)
      obtain ⟨⟨t, z⟩, hq⟩ : ∃ q, N[k]? = some q := ⟨_, List.getElem?_eq_getElem hlt⟩
      obtain ⟨b, rfl, x0, x1⟩ := rowN_get RW hq
      have g2 : (k : Int) < (N.length : Int) := by omega
      have g3 : (k : Int) < 1000 := by have := HN.out; omega
      have HK : Hid (k < N.length) := hlt
      have ht : N.take (k + 1) = N.take k ++ [(t, z)] := take_get hq
      by_cases he : t = s
      · subst he
        have HA' : Hid (NewN w ((N.take (k + 1)).filter fun q => q.1 != t) (.slice oa m oc) wr) := by
          show NewN _ _ _ _
          rw [ht, List.filter_append, List.filter_cons_of_neg (by simp), List.filter_nil, List.append_nil]
          exact HA.out
        clear RW ht HA hk hlt hq
        go_wp2
        go_roundw
        case rel => exact ⟨k + 1, oa, m, oc, HK.out, by go_num, rfl, HA'.out⟩
        case measure => have := HK.out; simp [RowKit.intOf]; omega
      · have heq : (t == s) = false := by simpa using he
        obtain ⟨hra, hrb, hrc⟩ := HA.out
        have ba : Below wr.heap.size wr (wr.alloc (.cells #[.string ⟨t.toArray⟩, .int .i64 z] 64)) := (Below.refl _ _).alloc (Nat.le_refl _) _
        obtain ⟨v', W', q1, q2, q3, q4⟩ := run_appN 28 (wr.alloc (.cells #[.string ⟨t.toArray⟩, .int .i64 z] 64)) (.slice oa m oc) t z _ (own_below hra ba (Nat.le_refl _)) (by have := List.length_filter_le (fun q : Tx × Nat => q.1 != s) (N.take k); rw [List.length_take] at this; have := HN.out; omega) wr.heap.size (MapKept.heap_alloc _ _).1
        obtain ⟨a4, c4, e4⟩ := rowN_form q2
        have HA' : Hid (NewN w ((N.take (k + 1)).filter fun q => q.1 != s) v' W') := by
          show NewN _ _ _ _
          rw [ht, List.filter_append, List.filter_cons_of_pos (by simpa using he), List.filter_nil]
          refine ⟨q2, fun b hb => ?_, ((hrc.trans (ba.mono hrc.size)).grown q3 (Nat.le_trans hrc.size ba.size) (fun j e => hrb j e))⟩
          rcases q4 with h | h
          · exact hrb b (h.symm.trans hb)
          · rw [hb] at h; obtain rfl := Option.some.inj h; exact Nat.le_trans hrc.size ba.size
        subst e4
        generalize (List.filter (fun q => q.1 != s) (N.take k) ++ [(t, z)]).length = m4 at *
        clear RW ht HA hk hlt he hra hrb hrc ba q2 q3 q4 hq
        go_wp2_with (at_builtin; refine app_known rfl _ _ 28 rfl _ _ _ rfl rfl q1 ?_)
        go_roundw
        case rel => exact ⟨k + 1, _, _, _, HK.out, by go_num, rfl, HA'.out⟩
        case measure => have := HK.out; simp [RowKit.intOf]; omega
    · have hke : k = N.length := by omega
      subst hke
      have HEND : Hid (post (.returned (.slice oa m oc)) wr) := by
        rw [HPO.out]
        have := HA.out
        rw [List.take_length] at this
        obtain ⟨x, y, e⟩ := rowN_form this.1
        obtain ⟨_, e2, _⟩ := Value.slice.inj e
        subst e2
        exact ⟨oa, oc, rfl, this⟩
      clear hlt hk HA
      go_wp2
      exact HEND.out
end Go.Proofs.YtcdpcjafomfddaaDoor
