/-
  What is proved: lists of numbers that the call has made; the functions at, put and cut of booklaw2 answer as they should, and nothing that was there has turned.
  Conditions: the lists lie in memory.
-/
import Derived.Test.YtebglecjajghjaaDoorTOpen
import Derived.Deep.DeepAppendWide
import Derived.Laws.AppendOwnNone
import Derived.OwnWalk
namespace Go.Proofs.YtebglecjajghjaaDoor
open Go.RowKit

theorem infoI : (Tryd.prog.info? 3).map (fun i => (i.zero, i.size, i.bytes)) = some (some (.int .i64 0), 1, 8) := by kernel_rfl

/-- The cells of numbers. -/
abbrev intCells (l : List Int) : List Value := l.map (Value.int .i64)

/-- A slice of numbers that the call has made. -/
abbrev RowI (B : Nat) (v : Value) (l : List Int) (w : World) : Prop := w.ownsRow B 3 1 v l.length (intCells l)

theorem RowI.ints {B : Nat} {w : World} {v : Value} {l : List Int} (h : RowI B v l w) (hl : l.length ≤ 17592186044416) (hr : ∀ x ∈ l, I64 x) : IsInts w v l := by
  rcases h.2 with ⟨rfl, h0⟩ | ⟨g, cap, cur, rfl, hg, hh, hc, hm, hz, ht⟩
  · exact ⟨none, 0, by rw [h0], by omega, hl, hr, fun h => absurd (List.length_eq_zero_iff.1 h0) h⟩
  · refine ⟨_, cap, rfl, hc, hl, hr, fun _ => ⟨g, 0, rfl, ?_, fun i hi => ?_⟩⟩
    · rcases Nat.lt_or_ge g w.heap.size with h1 | h1
      · exact h1
      · rw [Array.getElem?_eq_none h1] at hh; cases hh
    · rw [Nat.zero_add, h.cellAt i (by omega)]
      simp [hi]

theorem IsInts.take {w : World} {ad : Addr} {cap : Nat} {l : List Int} (h : IsInts w (.slice (some ad) l.length cap) l) (k : Nat) (hk : k ≤ l.length) : IsInts w (.slice (some ad) k cap) (l.take k) := by
  obtain ⟨a, cap', e, h1, h2, hr, h3⟩ := h
  injection e with e1 e2 e3
  subst e1 e3
  have hl : (l.take k).length = k := by rw [List.length_take]; omega
  refine ⟨_, cap, by rw [hl], by omega, by omega, fun x hx => hr x (List.mem_of_mem_take hx), fun hne => ?_⟩
  obtain ⟨b', off', e, h4, h5⟩ := h3 (fun e => hne (by rw [e]; simp))
  injection e with e
  refine ⟨b', off', by rw [e], h4, fun i hi => ?_⟩
  rw [List.getElem_take]
  exact h5 i (by omega)

theorem IsInts.drop {w : World} {b off cap : Nat} {l : List Int} (h : IsInts w (.slice (some ⟨b, off, none⟩) l.length cap) l) (k : Nat) (hk : k ≤ l.length) : IsInts w (.slice (some ⟨b, off + k, none⟩) (l.length - k) (cap - k)) (l.drop k) := by
  obtain ⟨a, cap', e, h1, h2, hr, h3⟩ := h
  injection e with e1 e2 e3
  subst e1 e3
  have hl : (l.drop k).length = l.length - k := by rw [List.length_drop]
  refine ⟨_, cap - k, by rw [hl], by omega, by omega, fun x hx => hr x (List.mem_of_mem_drop hx), fun hne => ?_⟩
  obtain ⟨b', off', e, h4, h5⟩ := h3 (fun e => hne (by rw [e]; simp))
  injection e with e
  injection e with e1 e2
  subst e1 e2
  refine ⟨b, off + k, rfl, h4, fun i hi => ?_⟩
  rw [List.getElem_drop, Nat.add_assoc]
  exact h5 (k + i) (by omega)

theorem IsInts.end {w : World} {ad : Addr} {l : List Int} (k : Nat) (hk : k = l.length) : IsInts w (.slice (some ad) 0 0) (l.drop k) := by
  have e : l.drop k = [] := List.drop_eq_nil_of_le (by omega)
  rw [e]
  exact ⟨_, 0, rfl, by simp, by simp, by simp, fun h => absurd rfl h⟩

set_option maxRecDepth 100000 in
/-- Numbers, appended to a row of one's own. -/
theorem app_ints {w : World} {ops : Array Oper} {rest : List Oper} {o : Oper} {a : Act} {Q : Exit → Act → World → Prop} (hgd : o.guard = none) (s x : Operand)
    (ho : o.op = .call { callee := .builtin .append, args := #[s, x], argTypes := #[25, 25] }) (B : Nat) (v : Value) (L : List Int) (hs : a.eval s = v) (hown : RowI B v L w)
    (vb : Value) (b : List Int) (hx : a.eval x = vb) (hb : IsInts w vb b) (hn : vb = .slice none 0 0 ∨ ∃ ad n c, vb = .slice (some ad) n c) (hsz : L.length + b.length ≤ 9000) (hB : B ≤ w.heap.size)
    (h : ∀ v' w', RowI B v' (L ++ b) w' → Below B w w' → wpList Tryd.prog ops Q rest (a.put o.dst v') w') : wpList Tryd.prog ops Q (o :: rest) a w := by
  obtain ⟨i0, hi, hz0, hz1, hz2⟩ := info_parts infoI
  obtain ⟨ad, cap, rfl, h1, h2, hr, h3⟩ := hb
  rcases hn with hn | ⟨ad2, n, c, hn⟩
  · injection hn with e1 e2 e3
    subst e1 e3
    obtain rfl : b = [] := List.length_eq_zero_iff.1 e2
    refine wpList_append_own_none hgd s x 25 ho B 3 i0 1 Tryd.underlying25 hi v L.length (intCells L) hs hown (by simpa using hx) ?_
    exact h v w (by simpa using hown) (Below.refl _ _)
  · injection hn with e1 e2 e3
    subst e1
    refine wpList_append_own_wide w hgd s x 25 ho B 3 i0 (.int .i64 0) 1 8 Tryd.underlying25 hi hz0 hz1 hz2 rfl (by decide) v L.length (intCells L) hs hown ad2 b.length cap (intCells b) hx (by simp) ?_ (fun u hu => by obtain ⟨y, _, rfl⟩ := List.mem_map.1 hu; rfl) (by unfold maxLen; omega) (by omega) hB ?_
    · intro j u hj
      have hlt : j < b.length := by
        rcases Nat.lt_or_ge j b.length with h1 | h1
        · exact h1
        · rw [List.getElem?_eq_none (by simpa using h1)] at hj; cases hj
      obtain ⟨g', off', e, _, h5⟩ := h3 (fun e => by rw [e] at hlt; simp at hlt)
      injection e with e
      subst e
      rw [add_at, h5 j hlt]
      simp [hlt] at hj
      rw [hj]
    · intro v' w' hown' hg _
      refine h v' w' ?_ ((Below.refl B w).grown hg hB (fun k hk => (hown.lt k hk).1))
      have e : intCells (L ++ b) = intCells L ++ intCells b := by simp
      unfold RowI
      rw [e, List.length_append]
      exact hown'

/-- What stands at an index, or 0. -/
abbrev atL (l : List Int) (i : Nat) : Int := l.getD i 0

set_option maxRecDepth 100000 in
set_option maxHeartbeats 1000000 in
theorem at_any (v : Value) (l : List Int) (i : Nat) (w : World) (hv : IsInts w v l) :
    Calls Tryd.prog 5 #[v, .int .i64 (i : Int)] w fun e w' => e = .returned (.int .i64 (atL l i)) ∧ w' = w := by
  obtain ⟨a, cap, rfl, h1, h2, hr, h3⟩ := hv
  by_cases hlt : i < l.length
  · obtain ⟨b, off, rfl, h4, h5⟩ := h3 (fun e => by rw [e] at hlt; simp at hlt)
    have x0 := h5 i hlt
    have g1 : (i : Int) < l.length := by omega
    have HE : Hid (atL l i = l[i]) := by show _ = _; simp [atL, hlt]
    clear h3 h5 hr
    go_enter Tryd.func5, Tryd.ntmps5
    go_wp2
    go_ret
    exact ⟨by rw [HE.out]; rfl, rfl⟩
  · have g1 : ¬ (i : Int) < l.length := by omega
    have HE : Hid (atL l i = 0) := by show _ = _; simp [atL, List.getD, List.getElem?_eq_none (show l.length ≤ i by omega)]
    clear h3 hr
    go_enter Tryd.func5, Tryd.ntmps5
    go_wp2
    go_ret
    exact ⟨rfl, rfl⟩
end Go.Proofs.YtebglecjajghjaaDoor
