/-
  What is proved: the law IdJoins, called with any three lists of refs, returns true, and nothing that was there has turned.
  Conditions: the lists lie in memory, no longer than a row's reach.
-/
import Derived.Test.YtgiggobpbddlbaaCovers
namespace Go.Proofs.Ytgiggobpbddlbaa
open Go.RowKit Go.Maps Go.Sort

theorem both_comm (l r : List Ref) (x : Int) : both l r x = both r l x := by unfold both; omega
theorem both_self (l : List Ref) (x : Int) : both l l x = mx l x := by unfold both; omega

/-- The first fact's lists. -/
theorem fact_a (w : World) (o : Obj) : IsRefs ((w.alloc (.cells #[.int .i64 1, .int .i64 4] 32)).alloc o) (.slice (some ⟨w.heap.size, 0, none⟩) 1 1) [(1, 4)] := by
  refine Or.inr ⟨w.heap.size, 0, 1, rfl, by simp; omega, by simp, fun i hi => ?_⟩
  have : i = 0 := by simp at hi; omega
  subst this
  simp

theorem fact_b (w : World) (o : Obj) : IsRefs ((w.alloc o).alloc (.cells #[.int .i64 2, .int .i64 3] 32)) (.slice (some ⟨w.heap.size + 1, 0, none⟩) 1 1) [(2, 3)] := by
  refine Or.inr ⟨w.heap.size + 1, 0, 1, rfl, by simp, by simp, fun i hi => ?_⟩
  have : i = 0 := by simp at hi; omega
  subst this
  simp

theorem valid_one (n s : Int) (h : OkRef (n, s)) : Valid [(n, s)] := ⟨by intro p hp; rw [List.mem_singleton.1 hp]; exact h, by simp⟩

theorem fact_len {L : List Ref} (hV : Valid L) (hx : ∀ x, mx L x = both [(1, 4)] [(2, 3)] x) : L = [(1, 4), (2, 3)] := by
  refine clock_ext hV ⟨?_, by simp⟩ (fun x => ?_)
  · intro p hp
    simp at hp
    rcases hp with rfl | rfl <;> exact ⟨by decide, by decide, by decide, by decide⟩
  · rw [hx]
    by_cases h1 : x = 1
    · subst h1; decide
    · by_cases h2 : x = 2
      · subst h2; decide
      · have e1 : ¬ (1 : Int) = x := fun e => h1 e.symm
        have e2 : ¬ (2 : Int) = x := fun e => h2 e.symm
        simp [both, mx, e1, e2]

theorem cover_left {a b L : List Ref} {c : Bool} (hL : ∀ x, mx L x = both a b x) (h : Covering L a c) : c = true := h.2 (fun x => by rw [hL]; unfold both; omega)
theorem cover_right {a b L : List Ref} {c : Bool} (hL : ∀ x, mx L x = both a b x) (h : Covering L b c) : c = true := h.2 (fun x => by rw [hL]; unfold both; omega)
theorem cover_both {a b d L : List Ref} {p q r : Bool} (hL : ∀ x, mx L x = both a b x) (hp : Covering d a p) (hq : Covering d b q) (hr : Covering d L r) : r = (p && q) := by
  unfold Covering at hp hq hr
  have h : r = true ↔ (p && q) = true := by
    rw [hr, Bool.and_eq_true, hp, hq]
    constructor
    · intro h
      refine ⟨fun x => ?_, fun x => ?_⟩
      · have := h x
        rw [hL] at this
        unfold both at this
        omega
      · have := h x
        rw [hL] at this
        unfold both at this
        omega
    · rintro ⟨h1, h2⟩ x
      have := h1 x
      have := h2 x
      rw [hL]
      unfold both
      omega
  cases r <;> cases p <;> cases q <;> simp_all

theorem at_start {w : World} {v : Value} {l : List Ref} (h : IsRefs w v l) (o o' : Obj) : IsRefs ((w.alloc o).alloc o') v l :=
  h.below (((Below.refl _ w).alloc (Nat.le_refl _) o).alloc (by simp) o')

set_option maxHeartbeats 2000000 in
set_option maxRecDepth 100000 in
theorem joins_bad (va vb vc : Value) (a b c : List Ref) (w : World) (ha : IsRefs w va a) (hb : IsRefs w vb b) (hc : IsRefs w vc c) (hN : ¬ (Valid a ∧ Valid b)) :
    Calls Try.prog 4 #[va, vb, vc] w fun e w' => e = .returned (.bool true) ∧ Below w.heap.size w w' := by
  replace ha := at_start ha (.cells #[.int .i64 1, .int .i64 4] 32) (.cells #[.int .i64 2, .int .i64 3] 32)
  replace hb := at_start hb (.cells #[.int .i64 1, .int .i64 4] 32) (.cells #[.int .i64 2, .int .i64 3] 32)
  replace hc := at_start hc (.cells #[.int .i64 1, .int .i64 4] 32) (.cells #[.int .i64 2, .int .i64 3] 32)
  have B : Below w.heap.size w ((w.alloc (.cells #[.int .i64 1, .int .i64 4] 32)).alloc (.cells #[.int .i64 2, .int .i64 3] 32)) := ((Below.refl _ w).alloc (Nat.le_refl _) _).alloc (by simp) _
  go_enter Try.func4, Try.ntmps4
  go_wp2_with fail
  refine (join_yes _ _ [(1, 4)] [(2, 3)] _ (fact_a w _) (fact_b w _) (valid_one _ _ ⟨by decide, by decide, by decide, by decide⟩) (valid_one _ _ ⟨by decide, by decide, by decide, by decide⟩)).mono ?_
  rintro e w1 ⟨⟨f0, F0, rfl, hf, hFV, hFx⟩, bel⟩
  obtain rfl := fact_len hFV hFx
  obtain ⟨fa, fc, hfe⟩ : ∃ fa fc, f0 = .slice fa 2 fc := by
    rcases hf with ⟨_, _, _, e⟩ | ⟨g, off, cap, rfl, _⟩
    · cases e
    · exact ⟨_, _, rfl⟩
  subst hfe
  clear hf hFV hFx
  replace ha := ha.below bel
  replace hb := hb.below bel
  replace hc := hc.below bel
  replace B := B.trans (bel.mono B.size)
  clear bel
  go_wp2_with fail
  refine (join_no va vb a b _ ha hb hN).mono ?_
  rintro e w2 ⟨⟨x1, rfl⟩, bel⟩
  replace ha := ha.below bel
  replace hb := hb.below bel
  replace hc := hc.below bel
  replace B := B.trans (bel.mono B.size)
  clear bel
  go_wp2_with fail
  refine (join_no vb va b a _ hb ha (fun h => hN ⟨h.2, h.1⟩)).mono ?_
  rintro e w3 ⟨⟨x2, rfl⟩, bel⟩
  replace B := B.trans (bel.mono B.size)
  clear bel ha hb hc
  go_wp2
  go_ret
  exact ⟨rfl, B⟩

set_option maxHeartbeats 2000000 in
set_option maxRecDepth 100000 in
theorem joins_some (va vb vc : Value) (a b c : List Ref) (w : World) (ha : IsRefs w va a) (hb : IsRefs w vb b) (hc : IsRefs w vc c) (hA : Valid a) (hB : Valid b) (hC : ¬ Valid c) :
    Calls Try.prog 4 #[va, vb, vc] w fun e w' => e = .returned (.bool true) ∧ Below w.heap.size w w' := by
  replace ha := at_start ha (.cells #[.int .i64 1, .int .i64 4] 32) (.cells #[.int .i64 2, .int .i64 3] 32)
  replace hb := at_start hb (.cells #[.int .i64 1, .int .i64 4] 32) (.cells #[.int .i64 2, .int .i64 3] 32)
  replace hc := at_start hc (.cells #[.int .i64 1, .int .i64 4] 32) (.cells #[.int .i64 2, .int .i64 3] 32)
  have B : Below w.heap.size w ((w.alloc (.cells #[.int .i64 1, .int .i64 4] 32)).alloc (.cells #[.int .i64 2, .int .i64 3] 32)) := ((Below.refl _ w).alloc (Nat.le_refl _) _).alloc (by simp) _
  go_enter Try.func4, Try.ntmps4
  go_wp2_with fail
  refine (join_yes _ _ [(1, 4)] [(2, 3)] _ (fact_a w _) (fact_b w _) (valid_one _ _ ⟨by decide, by decide, by decide, by decide⟩) (valid_one _ _ ⟨by decide, by decide, by decide, by decide⟩)).mono ?_
  rintro e w1 ⟨⟨f0, F0, rfl, hf, hFV, hFx⟩, bel⟩
  obtain rfl := fact_len hFV hFx
  obtain ⟨fa, fc, hfe⟩ : ∃ fa fc, f0 = .slice fa 2 fc := by
    rcases hf with ⟨_, _, _, e⟩ | ⟨g, off, cap, rfl, _⟩
    · cases e
    · exact ⟨_, _, rfl⟩
  subst hfe
  clear hf hFV hFx
  replace ha := ha.below bel
  replace hb := hb.below bel
  replace hc := hc.below bel
  replace B := B.trans (bel.mono B.size)
  clear bel
  go_wp2_with fail
  refine (join_yes va vb a b _ ha hb hA hB).mono ?_
  rintro e w2 ⟨⟨xv, X, rfl, hx, hX, xx⟩, bel⟩
  replace ha := ha.below bel
  replace hb := hb.below bel
  replace hc := hc.below bel
  replace B := B.trans (bel.mono B.size)
  clear bel
  have HX : Hid (∀ x, mx X x = both a b x) := xx
  clear xx
  go_wp2_with fail
  refine (join_yes vb va b a _ hb ha hB hA).mono ?_
  rintro e w3 ⟨⟨yv, Y, rfl, hy, hY, yy⟩, bel⟩
  replace ha := ha.below bel
  replace hb := hb.below bel
  replace hc := hc.below bel
  replace hx := hx.below bel
  replace B := B.trans (bel.mono B.size)
  clear bel
  obtain rfl : X = Y := clock_ext hX hY (fun x => by rw [HX.out, yy, both_comm])
  clear yy hY
  go_wp2_with fail
  refine (join_yes va va a a _ ha ha hA hA).mono ?_
  rintro e w4 ⟨⟨sv, S, rfl, hs, hS, sx⟩, bel⟩
  replace ha := ha.below bel
  replace hb := hb.below bel
  replace hc := hc.below bel
  replace hx := hx.below bel
  replace hy := hy.below bel
  replace B := B.trans (bel.mono B.size)
  clear bel
  obtain rfl : a = S := clock_ext hA hS (fun x => by rw [sx, both_self])
  clear sx hS
  go_wp2_with fail
  refine (covers_yes xv va X a _ hx ha hX hA).mono ?_
  rintro e w5 ⟨⟨c1, rfl, k1⟩, bel⟩
  obtain rfl := cover_left HX.out k1
  clear k1
  replace ha := ha.below bel
  replace hb := hb.below bel
  replace hc := hc.below bel
  replace hx := hx.below bel
  replace hy := hy.below bel
  replace hs := hs.below bel
  replace B := B.trans (bel.mono B.size)
  clear bel
  go_wp2_with fail
  refine (covers_yes xv vb X b _ hx hb hX hB).mono ?_
  rintro e w6 ⟨⟨c2, rfl, k2⟩, bel⟩
  obtain rfl := cover_right HX.out k2
  clear k2
  replace ha := ha.below bel
  replace hb := hb.below bel
  replace hc := hc.below bel
  replace hx := hx.below bel
  replace hy := hy.below bel
  replace hs := hs.below bel
  replace B := B.trans (bel.mono B.size)
  clear bel
  go_wp2_with fail
  refine (same_yes xv yv X _ hx hy).mono ?_
  rintro e w7 ⟨rfl, bel⟩
  replace ha := ha.below bel
  replace hb := hb.below bel
  replace hc := hc.below bel
  replace hx := hx.below bel
  replace hy := hy.below bel
  replace hs := hs.below bel
  replace B := B.trans (bel.mono B.size)
  clear bel
  go_wp2_with fail
  refine (same_yes sv va a _ hs ha).mono ?_
  rintro e w8 ⟨rfl, bel⟩
  clear hs hy
  replace ha := ha.below bel
  replace hb := hb.below bel
  replace hc := hc.below bel
  replace hx := hx.below bel
  replace B := B.trans (bel.mono B.size)
  clear bel
  go_wp2_with fail
  refine (join_no xv vc X c _ hx hc (fun h => hC h.2)).mono ?_
  rintro e w9 ⟨⟨x3, rfl⟩, bel⟩
  replace B := B.trans (bel.mono B.size)
  clear bel ha hb hc hx
  go_wp2
  go_ret
  exact ⟨rfl, B⟩

set_option maxHeartbeats 2000000 in
set_option maxRecDepth 100000 in
theorem joins_all (va vb vc : Value) (a b c : List Ref) (w : World) (ha : IsRefs w va a) (hb : IsRefs w vb b) (hc : IsRefs w vc c) (hA : Valid a) (hB : Valid b) (hC : Valid c) :
    Calls Try.prog 4 #[va, vb, vc] w fun e w' => e = .returned (.bool true) ∧ Below w.heap.size w w' := by
  replace ha := at_start ha (.cells #[.int .i64 1, .int .i64 4] 32) (.cells #[.int .i64 2, .int .i64 3] 32)
  replace hb := at_start hb (.cells #[.int .i64 1, .int .i64 4] 32) (.cells #[.int .i64 2, .int .i64 3] 32)
  replace hc := at_start hc (.cells #[.int .i64 1, .int .i64 4] 32) (.cells #[.int .i64 2, .int .i64 3] 32)
  have B : Below w.heap.size w ((w.alloc (.cells #[.int .i64 1, .int .i64 4] 32)).alloc (.cells #[.int .i64 2, .int .i64 3] 32)) := ((Below.refl _ w).alloc (Nat.le_refl _) _).alloc (by simp) _
  go_enter Try.func4, Try.ntmps4
  go_wp2_with fail
  refine (join_yes _ _ [(1, 4)] [(2, 3)] _ (fact_a w _) (fact_b w _) (valid_one _ _ ⟨by decide, by decide, by decide, by decide⟩) (valid_one _ _ ⟨by decide, by decide, by decide, by decide⟩)).mono ?_
  rintro e w1 ⟨⟨f0, F0, rfl, hf, hFV, hFx⟩, bel⟩
  obtain rfl := fact_len hFV hFx
  obtain ⟨fa, fc, hfe⟩ : ∃ fa fc, f0 = .slice fa 2 fc := by
    rcases hf with ⟨_, _, _, e⟩ | ⟨g, off, cap, rfl, _⟩
    · cases e
    · exact ⟨_, _, rfl⟩
  subst hfe
  clear hf hFV hFx
  replace ha := ha.below bel
  replace hb := hb.below bel
  replace hc := hc.below bel
  replace B := B.trans (bel.mono B.size)
  clear bel
  go_wp2_with fail
  refine (join_yes va vb a b _ ha hb hA hB).mono ?_
  rintro e w2 ⟨⟨xv, X, rfl, hx, hX, xx⟩, bel⟩
  replace ha := ha.below bel
  replace hb := hb.below bel
  replace hc := hc.below bel
  replace B := B.trans (bel.mono B.size)
  clear bel
  have HX : Hid (∀ x, mx X x = both a b x) := xx
  clear xx
  go_wp2_with fail
  refine (join_yes vb va b a _ hb ha hB hA).mono ?_
  rintro e w3 ⟨⟨yv, Y, rfl, hy, hY, yy⟩, bel⟩
  replace ha := ha.below bel
  replace hb := hb.below bel
  replace hc := hc.below bel
  replace hx := hx.below bel
  replace B := B.trans (bel.mono B.size)
  clear bel
  obtain rfl : X = Y := clock_ext hX hY (fun x => by rw [HX.out, yy, both_comm])
  clear yy hY
  go_wp2_with fail
  refine (join_yes va va a a _ ha ha hA hA).mono ?_
  rintro e w4 ⟨⟨sv, S, rfl, hs, hS, sx⟩, bel⟩
  replace ha := ha.below bel
  replace hb := hb.below bel
  replace hc := hc.below bel
  replace hx := hx.below bel
  replace hy := hy.below bel
  replace B := B.trans (bel.mono B.size)
  clear bel
  obtain rfl : a = S := clock_ext hA hS (fun x => by rw [sx, both_self])
  clear sx hS
  go_wp2_with fail
  refine (covers_yes xv va X a _ hx ha hX hA).mono ?_
  rintro e w5 ⟨⟨c1, rfl, k1⟩, bel⟩
  obtain rfl := cover_left HX.out k1
  clear k1
  replace ha := ha.below bel
  replace hb := hb.below bel
  replace hc := hc.below bel
  replace hx := hx.below bel
  replace hy := hy.below bel
  replace hs := hs.below bel
  replace B := B.trans (bel.mono B.size)
  clear bel
  go_wp2_with fail
  refine (covers_yes xv vb X b _ hx hb hX hB).mono ?_
  rintro e w6 ⟨⟨c2, rfl, k2⟩, bel⟩
  obtain rfl := cover_right HX.out k2
  clear k2
  replace ha := ha.below bel
  replace hb := hb.below bel
  replace hc := hc.below bel
  replace hx := hx.below bel
  replace hy := hy.below bel
  replace hs := hs.below bel
  replace B := B.trans (bel.mono B.size)
  clear bel
  go_wp2_with fail
  refine (same_yes xv yv X _ hx hy).mono ?_
  rintro e w7 ⟨rfl, bel⟩
  replace ha := ha.below bel
  replace hb := hb.below bel
  replace hc := hc.below bel
  replace hx := hx.below bel
  replace hy := hy.below bel
  replace hs := hs.below bel
  replace B := B.trans (bel.mono B.size)
  clear bel
  go_wp2_with fail
  refine (same_yes sv va a _ hs ha).mono ?_
  rintro e w8 ⟨rfl, bel⟩
  clear hs hy
  replace ha := ha.below bel
  replace hb := hb.below bel
  replace hc := hc.below bel
  replace hx := hx.below bel
  replace B := B.trans (bel.mono B.size)
  clear bel
  go_wp2_with fail
  refine (join_yes xv vc X c _ hx hc hX hC).mono ?_
  rintro e w9 ⟨⟨zv, Z, rfl, hz, hZ, zx⟩, bel⟩
  replace ha := ha.below bel
  replace hb := hb.below bel
  replace hc := hc.below bel
  replace hx := hx.below bel
  replace B := B.trans (bel.mono B.size)
  clear bel
  have HZ : Hid (∀ x, mx Z x = both X c x) := zx
  clear zx
  go_wp2_with fail
  refine (join_yes vb vc b c _ hb hc hB hC).mono ?_
  rintro e w10 ⟨⟨uv, U, rfl, hu, hU, ux⟩, bel⟩
  replace ha := ha.below bel
  replace hb := hb.below bel
  replace hc := hc.below bel
  replace hx := hx.below bel
  replace hz := hz.below bel
  replace B := B.trans (bel.mono B.size)
  clear bel
  have HU : Hid (∀ x, mx U x = both b c x) := ux
  clear ux
  go_wp2_with fail
  refine (join_yes va uv a U _ ha hu hA hU).mono ?_
  rintro e w11 ⟨⟨tv, T, rfl, ht, hT, tx⟩, bel⟩
  replace ha := ha.below bel
  replace hb := hb.below bel
  replace hc := hc.below bel
  replace hx := hx.below bel
  replace hz := hz.below bel
  replace hu := hu.below bel
  replace B := B.trans (bel.mono B.size)
  clear bel
  obtain rfl : Z = T := clock_ext hZ hT (fun x => by
    have h1 := HX.out x
    have h2 := HU.out x
    rw [HZ.out, tx]
    unfold both at *
    omega)
  clear tx hT
  go_wp2_with fail
  refine (same_yes zv tv Z _ hz ht).mono ?_
  rintro e w12 ⟨rfl, bel⟩
  clear hz ht hu
  replace ha := ha.below bel
  replace hb := hb.below bel
  replace hc := hc.below bel
  replace hx := hx.below bel
  replace B := B.trans (bel.mono B.size)
  clear bel
  go_wp2_with fail
  refine (covers_yes vc va c a _ hc ha hC hA).mono ?_
  rintro e w13 ⟨⟨p1, rfl, k1⟩, bel⟩
  have K1 : Hid (Covering c a p1) := k1
  clear k1
  replace ha := ha.below bel
  replace hb := hb.below bel
  replace hc := hc.below bel
  replace hx := hx.below bel
  replace B := B.trans (bel.mono B.size)
  clear bel
  go_wp2_with fail
  refine (covers_yes vc vb c b _ hc hb hC hB).mono ?_
  rintro e w14 ⟨⟨p2, rfl, k2⟩, bel⟩
  have K2 : Hid (Covering c b p2) := k2
  clear k2
  replace ha := ha.below bel
  replace hb := hb.below bel
  replace hc := hc.below bel
  replace hx := hx.below bel
  replace B := B.trans (bel.mono B.size)
  clear bel
  go_wp2_with fail
  refine (covers_yes vc xv c X _ hc hx hC hX).mono ?_
  rintro e w15 ⟨⟨p3, rfl, k3⟩, bel⟩
  obtain rfl := cover_both HX.out K1.out K2.out k3
  clear k3 K1 K2
  replace B := B.trans (bel.mono B.size)
  clear bel ha hb hc hx
  cases p1 <;> cases p2
  all_goals
    go_wp2
    go_ret
    exact ⟨rfl, B⟩

theorem idJoins_any (va vb vc : Value) (a b c : List Ref) (w : World) (ha : IsRefs w va a) (hb : IsRefs w vb b) (hc : IsRefs w vc c) :
    Calls Try.prog 4 #[va, vb, vc] w fun e w' => e = .returned (.bool true) ∧ Below w.heap.size w w' := by
  by_cases h1 : Valid a ∧ Valid b
  · by_cases h2 : Valid c
    · exact joins_all va vb vc a b c w ha hb hc h1.1 h1.2 h2
    · exact joins_some va vb vc a b c w ha hb hc h1.1 h1.2 h2
  · exact joins_bad va vb vc a b c w ha hb hc h1
end Go.Proofs.Ytgiggobpbddlbaa
