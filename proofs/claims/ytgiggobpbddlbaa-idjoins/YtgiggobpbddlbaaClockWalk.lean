/-
  What is proved: the function clock of package id makes of a map of what is known the clock of it, in new memory, and nothing that was there has turned.
  Conditions: the map holds what may be known alone.
-/
import Derived.Test.YtgiggobpbddlbaaClock
namespace Go.Proofs.Ytgiggobpbddlbaa
open Go.RowKit Go.Maps Go.Sort

/-- A slice that is not empty, and owned, lies somewhere. -/
theorem own_at {w : World} {B size : Nat} {e : TypeId} {v : Value} {n : Nat} {xs : List Value} (h : w.ownsRow B e size v n xs) (hn : 0 < n) : ∃ g cap, v = .slice (some ⟨g, 0, none⟩) n cap ∧ B ≤ g ∧ g < w.heap.size ∧
    ∀ j, j < n * size → w.cell? ⟨g, j, none⟩ = xs[j]? := by
  rcases h.2 with ⟨rfl, rfl⟩ | ⟨g, cap, cur, rfl, hg, hh, hc, hm, hz, ht⟩
  · omega
  · refine ⟨g, cap, rfl, hg, ?_, fun j hj => h.cellAt j hj⟩
    rcases Nat.lt_or_ge g w.heap.size with h1 | h1
    · exact h1
    · rw [Array.getElem?_eq_none h1] at hh; cases hh

theorem own_below {w w' : World} {B b n : Nat} {D : DataW Unit} (h : w.ownsMap Try.prog 3 (plainElem Try.prog 3) b n D) (hb : Below B w w') (hlt : b < B) : w'.ownsMap Try.prog 3 (plainElem Try.prog 3) b n D := by
  obtain ⟨es, clock, h1, Ft, hs, hD⟩ := h
  exact ⟨es, clock, (hb.block b hlt).trans h1, Ft, hs, hD⟩

/-- The cells of refs. -/
def flat (l : List Ref) : List Value := l.flatMap fun p => [.int .i64 p.1, .int .i64 p.2]

theorem flat_len (l : List Ref) : (flat l).length = l.length * 2 := by
  induction l with
  | nil => rfl
  | cons p r ih => simp [flat] at ih ⊢; omega

theorem flat_snoc (l : List Ref) (p : Ref) : flat (l ++ [p]) = flat l ++ [.int .i64 p.1, .int .i64 p.2] := by simp [flat]

theorem flat_at : ∀ (l : List Ref) (i : Nat) (h : i < l.length), (flat l)[i * 2]? = some (.int .i64 l[i].1) ∧ (flat l)[i * 2 + 1]? = some (.int .i64 l[i].2)
  | [], i, h => by simp at h
  | p :: r, 0, _ => by simp [flat]
  | p :: r, i + 1, h => by
    have ih := flat_at r i (by simpa using h)
    have e : flat (p :: r) = .int .i64 p.1 :: .int .i64 p.2 :: flat r := by simp [flat]
    rw [e, show (i + 1) * 2 = i * 2 + 1 + 1 from by omega]
    exact ih

theorem refs_of_row {w : World} {B : Nat} {v : Value} {l : List Ref} (h : w.ownsRow B 32 2 v l.length (flat l)) (hl : l.length ≤ 99) : IsRefs w v l := by
  by_cases h0 : l.length = 0
  · have e : l = [] := List.length_eq_zero_iff.1 h0
    subst e
    rcases h.2 with ⟨rfl, _⟩ | ⟨g, cap, cur, rfl, _⟩
    · exact Or.inl ⟨_, _, rfl, rfl⟩
    · exact Or.inl ⟨_, _, rfl, rfl⟩
  · obtain ⟨g, cap, rfl, _, hg, hc⟩ := own_at h (by omega)
    refine Or.inr ⟨g, 0, cap, rfl, hg, by omega, fun i hi => ?_⟩
    obtain ⟨f1, f2⟩ := flat_at l i hi
    rw [Nat.zero_add, hc (i * 2) (by omega), hc (i * 2 + 1) (by omega)]
    exact ⟨f1, f2⟩

theorem own_base {w : World} {B size : Nat} {e : TypeId} {v : Value} {n : Nat} {xs : List Value} (h : w.ownsRow B e size v n xs) {j : Nat} (hj : v.ownBlock = some j) : B ≤ j := by
  rcases h.2 with ⟨rfl, _⟩ | ⟨g, cap, cur, rfl, hg, _⟩
  · cases hj
  · have e1 : some g = some j := hj
    rw [← Option.some.inj e1]
    exact hg

theorem flat_next {w : World} {B : Nat} {v : Value} (K : List Int) (f : Int → Int) (k : Nat) (h : k < K.length)
    (ho : w.ownsRow B 32 2 v (k + 1) (flat (List.take k (K.map fun x => (x, f x))) ++ [.int .i64 K[k], .int .i64 (f K[k])])) : w.ownsRow B 32 2 v (k + 1) (flat ((K.take (k + 1)).map fun x => (x, f x))) := by
  rw [List.take_succ_eq_append_getElem h, List.map_append, List.map_cons, List.map_nil, flat_snoc, ← List.map_take] at *
  exact ho

theorem info32 : (Try.prog.info? 32).map (fun i => (i.zero, i.size, i.bytes)) = some (some (.agg #[.int .i64 0, .int .i64 0]), 2, 16) := by kernel_rfl

set_option maxHeartbeats 1000000 in
set_option maxRecDepth 100000 in
theorem clock_any (b n : Nat) (f : Int → Int) (w : World) (h : MapIs w b n f) (hF : Fine f) :
    Calls Try.prog 11 #[.map (some b)] w fun e w' => (∃ v L, e = .returned v ∧ IsRefs w' v L ∧ Valid L ∧ ∀ x, mx L x = f x) ∧ Below w.heap.size w w' := by
  obtain ⟨D, hown, hK⟩ := h
  have hblt := hown.lt
  obtain ⟨i0, hi, hz0, hz1, hz2⟩ := info_parts info32
  go_enter Try.func11, Try.ntmps11
  go_wp2_with fail
  refine (keys_any b w).mono ?_
  rintro e w1 ⟨rfl, rfl⟩
  go_wp2_with fail
  refine (sorted_any b n D w hown (hK.few hown hF)).mono ?_
  rintro e w2 ⟨v, ss, rfl, hs, hrow, hnil, hb⟩
  obtain ⟨hV, hM⟩ := hK.clock hown hF hs
  have B2 : Below w.heap.size w w2 := ((Below.refl _ _).alloc (Nat.le_refl _) _).trans (hb.mono (by omega))
  have hown2 := own_below hown B2 hblt
  have hb2 : b < w2.heap.size := by have := B2.size; omega
  generalize hk : ss.mergeSort leI = K at hV hM
  have hrow' : w2.ownsRow (w.heap.size + 1) 3 1 v ss.length (K.map encZ) := by rw [← hk]; exact hrow
  have hKl : K.length = ss.length := by rw [← hk]; exact List.length_mergeSort _
  have hl99 := valid_len hV
  rw [List.length_map] at hl99
  have HV : Hid (Valid (K.map fun x => (x, f x))) := hV
  have HM : Hid (∀ x, mx (K.map fun x => (x, f x)) x = f x) := hM
  clear hrow hk hV hM hs hb hown
  by_cases h0 : ss.length = 0
  · have e0 : v = .slice none 0 0 := hnil.2 (List.length_eq_zero_iff.1 h0)
    have eK : K = [] := List.length_eq_zero_iff.1 (by omega)
    subst e0 eK
    clear hrow' hnil hKl h0
    go_wp2
    refine wp_loop_rounds 1 ?_
    rw [rounds_succ]
    go_wp2
    go_ret
    exact ⟨⟨_, [], rfl, Or.inl ⟨_, _, rfl, rfl⟩, HV.out, HM.out⟩, B2⟩
  · obtain ⟨g, cap, rfl, _, hg, hcs⟩ := own_at hrow' (by omega)
    clear hrow' hnil
    go_wp2
    go_loopw [3, 10] (fun o i wr => ∃ k : Nat, k ≤ K.length ∧ i = .int .i64 k ∧ wr.ownsRow w2.heap.size 32 2 o k (flat ((K.take k).map fun x => (x, f x))) ∧ Below w2.heap.size w2 wr) (fun _ i _ => K.length - (RowKit.intOf i).toNat)
    case atStart => exact ⟨0, Nat.zero_le _, rfl, World.ownsRow_nil _ _ _ _, Below.refl _ _⟩
    case round =>
      obtain ⟨k, hk, rfl, hrow, hbel⟩ := hrel
      by_cases hlt : k < K.length
      · have x0 : wr.cell? ⟨g, k, none⟩ = some (.int .i64 K[k]) := by
          rw [hbel.cell (p := ⟨g, k, none⟩) hg, hcs k (by omega)]
          simp [hlt, encZ]
        have hownr := own_below hown2 hbel hb2
        have hmem : (K[k], f K[k]) ∈ K.map fun x => (x, f x) := List.mem_map.2 ⟨K[k], List.getElem_mem hlt, rfl⟩
        obtain ⟨o1, o2, o3, o4⟩ := HV.out.1 _ hmem
        have hkey : keyOf Try.prog 3 (.int .i64 K[k]) = some (.int .i64 K[k]) := keyOf_int_mk Try.underlying3 (wf_small _ (by omega) (by omega))
        have kl : (k : Int) < (ss.length : Int) := by omega
        go_wp2_with (first | (at_lookup; refine wpList_lookup_own_int _ rfl _ _ 38 rfl 3 3 .i64 law3 Try.underlying38 Try.underlying3 (zero3 _) b n _ rfl hownr _ _ rfl hkey ?_; intro c hat hwc; obtain rfl := hK.at hat) | (at_builtin; refine wpList_append_own _ rfl _ _ 26 rfl w2.heap.size 32 i0 (.agg #[.int .i64 0, .int .i64 0]) 2 16 Try.underlying26 hi hz0 hz1 hz2 rfl (by decide) _ _ _ rfl (hrow.alloc _) ⟨wr.heap.size, 0, none⟩ 1 1 [.int .i64 K[k], .int .i64 (f K[k])] rfl rfl ?c1 ?c2 ?c3 ?c4 ?c5 ?_) | go_in)
        case c2 => exact ⟨rfl, rfl⟩
        case c3 => unfold maxLen; omega
        case c4 => omega
        case c5 => have := hbel.size; omega
        intro v' w3 hown' hgrow _
        have hrow3 := flat_next K f k hlt hown'
        have hbel3 : Below w2.heap.size w2 w3 := (hbel.alloc hbel.size _).grown hgrow (by have := hbel.size; simp; omega) (fun j hj => (own_base hrow hj))
        clear hown' hgrow hrow hownr x0 hkey
        go_wp2
        go_roundw
        case rel => exact ⟨k + 1, hlt, by go_num, hrow3, hbel3⟩
        case measure => simp [RowKit.intOf]; omega
      · obtain rfl : k = K.length := by omega
        rw [List.take_length] at hrow
        have HR : Hid (IsRefs wr u3 (K.map fun x => (x, f x))) := refs_of_row (by rw [List.length_map]; exact hrow) (by rw [List.length_map]; exact hl99)
        clear hrow
        go_wp2
        go_ret
        exact ⟨⟨_, _, rfl, HR.out, HV.out, HM.out⟩, B2.trans (hbel.mono B2.size)⟩
end Go.Proofs.Ytgiggobpbddlbaa
