/-
  What is proved: the function Join of package id, called with any two lists, tells what is wrong, or makes the clock that knows of each actor the greater of both; nothing that was there has turned.
  Conditions: the lists lie in memory, no longer than a row's reach.
-/
import Derived.Test.YtgiggobpbddlbaaClockWalk
namespace Go.Proofs.Ytgiggobpbddlbaa
open Go.RowKit Go.Maps Go.Sort

set_option maxHeartbeats 400000 in
theorem join_no (v u : Value) (l r : List Ref) (w : World) (h : IsRefs w v l) (k : IsRefs w u r) (hv : ¬ (Valid l ∧ Valid r)) :
    Calls Try.prog 6 #[v, u] w fun e w' => (∃ x, e = .returned (.tuple #[.slice none 0 0, .iface 23 (.int .i64 x)])) ∧ Below w.heap.size w w' := by
  go_enter Try.func6, Try.ntmps6
  go_wp2_with fail
  refine (both_no v u l r _ h k hv).mono ?_
  rintro e w1 ⟨⟨x, rfl⟩, hb1⟩
  go_wp2
  go_ret2
  exact ⟨⟨x, rfl⟩, hb1⟩

/-- What is known of both together. -/
def both (l r : List Ref) (x : Int) : Int := max (mx l x) (mx r x)

theorem both_fine {l r : List Ref} (hl : Valid l) (hr : Valid r) : Fine (both l r) := by
  refine ⟨fun x => ?_, fun x hx => ?_⟩
  · have := mx_nonneg l x
    unfold both
    omega
  · unfold both at hx ⊢
    have n1 := mx_nonneg l x
    have n2 := mx_nonneg r x
    by_cases h : mx l x ≤ mx r x
    · rw [Int.max_eq_right h] at hx ⊢
      exact mx_ok hr hx
    · rw [Int.max_eq_left (by omega)] at hx ⊢
      exact mx_ok hl hx

theorem both_nil (l : List Ref) (x : Int) : mx l x = both l [] x := by
  have := mx_nonneg l x
  unfold both
  rw [mx_nil]
  omega

theorem both_step {l r : List Ref} (hr : Valid r) (k : Nat) (h : k < r.length) (x : Int) : (if x = r[k].1 then max (both l (r.take k) x) r[k].2 else both l (r.take k) x) = both l (r.take (k + 1)) x := by
  unfold both
  rw [mx_step hr k h x]
  by_cases e : x = r[k].1
  · rw [if_pos e, if_pos e]
    have h0 : mx (r.take k) x = 0 := mx_none _ _ (fun p hp e2 => by
      obtain ⟨i, hi, rfl⟩ := List.getElem_of_mem hp
      have hik : i < k := by rw [List.length_take] at hi; omega
      have := List.pairwise_iff_getElem.1 hr.2 i k (by omega) h hik
      rw [List.getElem_take] at e2
      omega)
    have := mx_nonneg l x
    rw [h0]
    omega
  · rw [if_neg e, if_neg e]

theorem valid_take {l : List Ref} (h : Valid l) (k : Nat) : Valid (l.take k) := ⟨fun p hp => h.1 p (List.mem_of_mem_take hp), h.2.sublist (List.take_sublist k l)⟩

theorem mx_le {l : List Ref} (h : Valid l) (x : Int) : mx l x ≤ 1000000 := by
  by_cases hx : 0 < mx l x
  · exact (mx_ok h hx).2.2.2
  · omega

/-- What Join leaves. -/
def Joined (w' : World) (e : Ending) (l r : List Ref) : Prop := ∃ v L, e = .returned (.tuple #[v, .nilIface]) ∧ IsRefs w' v L ∧ Valid L ∧ ∀ x, mx L x = both l r x

set_option maxHeartbeats 1000000 in
set_option maxRecDepth 100000 in
theorem join_none (v : Value) (a : Option Addr) (c : Nat) (l : List Ref) (w : World) (h : IsRefs w v l) (hl : Valid l) :
    Calls Try.prog 6 #[v, .slice a 0 c] w fun e w' => Joined w' e l [] ∧ Below w.heap.size w w' := by
  have k : IsRefs w (.slice a 0 c) [] := Or.inl ⟨_, _, rfl, rfl⟩
  have hn : Valid [] := ⟨by simp, List.Pairwise.nil⟩
  go_enter Try.func6, Try.ntmps6
  go_wp2_with fail
  refine (both_yes v _ l [] _ h k hl hn).mono ?_
  rintro e w1 ⟨rfl, hb1⟩
  go_wp2_with fail
  refine (seqs_any v l _ (h.below hb1) hl).mono ?_
  rintro e w2 ⟨rfl, hmap, hb2⟩
  have B2 := hb1.trans (hb2.mono hb1.size)
  have HM : Hid (MapIs w2 w1.heap.size l.length (both l [])) := by
    obtain ⟨D, ho, hK⟩ := hmap
    exact ⟨D, ho, hK.congr (both_nil l)⟩
  clear hmap
  go_wp2
  refine wp_loop_rounds 1 ?_
  rw [rounds_succ]
  go_wp2_with (go_at_call 11; refine (clock_any w1.heap.size l.length _ _ HM.out (both_fine hl hn)).mono ?_; rintro e w3 ⟨⟨o, L, rfl, hR, hV, hx⟩, hb3⟩)
  go_ret2
  exact ⟨⟨o, L, rfl, hR, hV, hx⟩, B2.trans (hb3.mono B2.size)⟩

set_option maxHeartbeats 1000000 in
set_option maxRecDepth 100000 in
theorem join_some (v : Value) (b off cap : Nat) (l r : List Ref) (w : World) (h : IsRefs w v l) (hl : Valid l) (hr : Valid r) (hb : b < w.heap.size)
    (hc : ∀ i (h : i < r.length), w.cell? ⟨b, off + i * 2, none⟩ = some (.int .i64 r[i].1) ∧ w.cell? ⟨b, off + i * 2 + 1, none⟩ = some (.int .i64 r[i].2)) :
    Calls Try.prog 6 #[v, .slice (some ⟨b, off, none⟩) r.length cap] w fun e w' => Joined w' e l r ∧ Below w.heap.size w w' := by
  have hlen := valid_len hr
  have hlen2 := valid_len hl
  have k : IsRefs w (.slice (some ⟨b, off, none⟩) r.length cap) r := Or.inr ⟨b, off, cap, rfl, hb, by omega, hc⟩
  go_enter Try.func6, Try.ntmps6
  go_wp2_with fail
  refine (both_yes v _ l r _ h k hl hr).mono ?_
  rintro e w1 ⟨rfl, hb1⟩
  go_wp2_with fail
  refine (seqs_any v l _ (h.below hb1) hl).mono ?_
  rintro e w2 ⟨rfl, hmap, hb2⟩
  have B2 := hb1.trans (hb2.mono hb1.size)
  have hbm : w.heap.size ≤ w1.heap.size := hb1.size
  obtain ⟨D0, ho0, hK0⟩ := hmap
  go_wp2
  go_loopw [20] (fun i wr => ∃ (k : Nat) (D : DataW Unit), k ≤ r.length ∧ i = .int .i64 k ∧ wr.ownsMap Try.prog 3 (plainElem Try.prog 3) w1.heap.size (l.length + k) D ∧ Known D (both l (r.take k)) ∧ Below w.heap.size w wr) (fun i _ => r.length - (RowKit.intOf i).toNat)
  case atStart => exact ⟨0, D0, Nat.zero_le _, rfl, ho0, hK0.congr (both_nil l), B2⟩
  case round =>
    obtain ⟨k, D, hk, rfl, hown, hK, hbel⟩ := hrel
    by_cases hlt : k < r.length
    · have x0 : wr.cell? ⟨b, off + k * 2, none⟩ = some (.int .i64 r[k].1) := by rw [hbel.cell (p := ⟨b, off + k * 2, none⟩) hb]; exact (hc k hlt).1
      have x1 : wr.cell? ⟨b, off + k * 2 + 1, none⟩ = some (.int .i64 r[k].2) := by rw [hbel.cell (p := ⟨b, off + k * 2 + 1, none⟩) hb]; exact (hc k hlt).2
      obtain ⟨o1, o2, o3, o4⟩ := hr.1 r[k] (List.getElem_mem hlt)
      have hkey : keyOf Try.prog 3 (.int .i64 r[k].1) = some (.int .i64 r[k].1) := keyOf_int_mk Try.underlying3 (wf_small _ (by omega) (by omega))
      have m1 := mx_le hl r[k].1
      have m2 := mx_le (valid_take hr k) r[k].1
      have m3 := mx_nonneg l r[k].1
      have hK' : Known (D.put (.int .i64 r[k].1) (.lit (.int .i64 (max (both l (r.take k) r[k].1) r[k].2)))) (both l (r.take (k + 1))) :=
        (hK.put r[k].1 (max (both l (r.take k) r[k].1) r[k].2) (by omega)).congr (fun x => by
          rw [← both_step hr k hlt x]
          by_cases e : x = r[k].1
          · rw [if_pos e, if_pos e, e]
          · rw [if_neg e, if_neg e])
      have helem : plainElem (H := Unit) Try.prog 3 (.int .i64 (max (both l (r.take k) r[k].1) r[k].2)) = some (.lit (.int .i64 (max (both l (r.take k) r[k].1) r[k].2)), []) := plainElem_int Try.underlying3 (wf_small _ (by omega) (by unfold both; omega))
      clear m1 m2 m3
      go_wp2_with (first | (at_lookup; refine wpList_lookup_own_int _ rfl _ _ 38 rfl 3 3 .i64 law3 Try.underlying38 Try.underlying3 (zero3 _) w1.heap.size (l.length + k) _ rfl (hown.alloc _) _ _ rfl hkey ?_; intro c hat hwc; obtain rfl := hK.at hat) | (at_mapUpdate; refine wpList_mapUpdate_own _ rfl _ _ _ 38 rfl 3 3 law3 Try.underlying38 _ w1.heap.size (l.length + k) _ rfl (hown.alloc _) (by unfold maxLen; omega) _ _ _ rfl rfl hkey _ [] helem ?_; intro w3 hown3 hgrow3) | go_in)
      go_roundw
      case rel => exact ⟨k + 1, _, hlt, by go_num, hown3, hK', (hbel.alloc hbel.size _).grown hgrow3 (by have := hbel.size; simp; omega) (fun j hj => by cases hj; exact hbm)⟩
      case measure => simp [RowKit.intOf]; omega
    · obtain rfl : k = r.length := by omega
      rw [List.take_length] at hK
      have HM : Hid (MapIs wr w1.heap.size (l.length + r.length) (both l r)) := ⟨D, hown, hK⟩
      clear hK hown
      go_wp2_with (go_at_call 11; refine (clock_any w1.heap.size (l.length + r.length) _ _ HM.out (both_fine hl hr)).mono ?_; rintro e w3 ⟨⟨o, L, rfl, hR, hV, hx⟩, hb3⟩)
      go_ret2
      exact ⟨⟨o, L, rfl, hR, hV, hx⟩, hbel.trans (hb3.mono hbel.size)⟩

theorem join_yes (v u : Value) (l r : List Ref) (w : World) (h : IsRefs w v l) (k : IsRefs w u r) (hl : Valid l) (hr : Valid r) :
    Calls Try.prog 6 #[v, u] w fun e w' => Joined w' e l r ∧ Below w.heap.size w w' := by
  rcases k with ⟨a, c, rfl, rfl⟩ | ⟨b, off, cap, rfl, h1, _, h3⟩
  · exact join_none v a c l w h hl
  · exact join_some v b off cap l r w h hl hr h1 h3
end Go.Proofs.Ytgiggobpbddlbaa
