/-
  What is proved: the function follow of package json, called with the place of a tree and a path that lie in memory, answers the place of the tree at the path's end, or that there is none. rows of texts and of trees, copied by append; trees whose rows lie behind a block stay while what lies ahead of it turns. the function copyOf of package json, called with a tree that lies in memory, answers the same tree, with rows of its own. the function Get of package json, called with a tree and a path that lie in memory, answers a copy of the tree at the path's end, or which error there is.
  Conditions: as each theorem says.
-/
import Derived.Test.YtnmdhbejjjmdeaaGreatDoorP07
import Derived.Deep.DeepAppendWide
import Derived.Laws.AppendOwnNone
import Derived.Laws.OwnMore
namespace Go.Proofs.YtnmdhbejjjmdeaaGreatDoor
open Go.RowKit Go.Sort

/-- A tree's own fields lie at a place. -/
def TAt (w : World) (b o : Nat) (u : TV) : Prop :=
  b < w.heap.size ∧ w.cell? ⟨b, o, none⟩ = some (.int .i64 u.1.k) ∧ w.cell? ⟨b, o + 1, none⟩ = some (.int .i64 u.1.n) ∧ w.cell? ⟨b, o + 2, none⟩ = some (.string u.1.t) ∧ w.cell? ⟨b, o + 3, none⟩ = some (.int .i64 u.1.o) ∧ w.cell? ⟨b, o + 4, none⟩ = some (.int .i64 u.1.a) ∧ w.cell? ⟨b, o + 5, none⟩ = some u.2.1 ∧ w.cell? ⟨b, o + 6, none⟩ = some u.2.2
theorem TAt.below {w w' : World} {b o : Nat} {u : TV} (h : TAt w b o u) (hb : Below w.heap.size w w') : TAt w' b o u := by
  obtain ⟨h0, h1, h2, h3, h4, h5, h6, h7⟩ := h
  exact ⟨Nat.lt_of_lt_of_le h0 hb.size, (hb.cell (p := ⟨b, o, none⟩) h0).trans h1, (hb.cell (p := ⟨b, o + 1, none⟩) h0).trans h2, (hb.cell (p := ⟨b, o + 2, none⟩) h0).trans h3, (hb.cell (p := ⟨b, o + 3, none⟩) h0).trans h4, (hb.cell (p := ⟨b, o + 4, none⟩) h0).trans h5, (hb.cell (p := ⟨b, o + 5, none⟩) h0).trans h6, (hb.cell (p := ⟨b, o + 6, none⟩) h0).trans h7⟩
/-- What follow answers. -/
def FollowP (w : World) (q : Option JT) (e : Ending) : Prop :=
  (∃ t b o u, q = some t ∧ e = .returned (.pointer (some ⟨b, o, none⟩)) ∧ TAt w b o u ∧ IsT w (tval u) t) ∨ (q = none ∧ e = .returned (.pointer none))

end Go.Proofs.YtnmdhbejjjmdeaaGreatDoor

namespace Go.Proofs.YtnmdhbejjjmdeaaGreatDoor
open Go.RowKit

theorem infoS : (Tryz.prog.info? 9).map (fun i => (i.zero, i.size, i.bytes)) = some (some (.string ⟨#[]⟩), 1, 16) := by kernel_rfl
theorem infoT : (Tryz.prog.info? 29).map (fun i => (i.zero, i.size, i.bytes)) = some (some zT, 7, 96) := by kernel_rfl

/-- The cells of texts. -/
def scells (l : List ByteArray) : List Value := l.map .string
/-- The cells of trees' own fields. -/
def tcs (us : List TV) : List Value := us.flatMap tcells
theorem tcs_len (us : List TV) : (tcs us).length = us.length * 7 := by
  induction us with
  | nil => rfl
  | cons u r ih =>
    have : tcs (u :: r) = tcells u ++ tcs r := rfl
    rw [this, List.length_append, ih]
    simp [tcells]; omega
theorem tcs_at (us : List TV) (i : Nat) (hi : i < us.length) (j : Nat) (hj : j < 7) : (tcs us)[i * 7 + j]? = (tcells us[i])[j]? := by
  induction us generalizing i with
  | nil => simp at hi
  | cons u r ih =>
    have e : tcs (u :: r) = tcells u ++ tcs r := rfl
    have hl : (tcells u).length = 7 := rfl
    rw [e]
    cases i with
    | zero => rw [List.getElem?_append_left (by rw [hl]; omega)]; simp
    | succ i =>
      rw [List.getElem?_append_right (by rw [hl]; omega), hl, show (i + 1) * 7 + j - 7 = i * 7 + j by omega, ih i (by simpa using hi)]
      simp

theorem add_at (b off i : Nat) : (⟨b, off, none⟩ : Addr).add i = ⟨b, off + i, none⟩ := by
  unfold Addr.add; split <;> simp_all

theorem run_copyS (ty : TypeId) (W : World) (B : Nat) (hB : B ≤ W.heap.size) (v : Value) (l : List ByteArray) (hv : IsStrs W v l) (hl : l.length ≤ 1000000) :
    ∃ u W', (Builtin.append_ #[26, 26] ty #[.slice none 0 0, v]).run Tryz.prog W = .ok u W' ∧ W'.ownsRow B 9 1 u l.length (scells l) ∧ Below W.heap.size W W' := by
  obtain ⟨i0, hi0, hz0, hz1, hz2⟩ := info_parts infoS
  obtain ⟨a, cap, rfl, h1, h2, h3⟩ := hv
  cases a with
  | none =>
    have hl0 : l = [] := List.length_eq_zero_iff.1 (by have := h1.2 rfl; omega)
    have hc0 : cap = 0 := h1.2 rfl
    subst hl0 hc0
    exact ⟨.slice none 0 0, W, run_append_owned_none (P := Tryz.prog) (w := W) B 26 ty 9 i0 1 Tryz.underlying26 hi0 (.slice none 0 0) 0 [] (World.ownsRow_nil W B 9 1), World.ownsRow_nil W B 9 1, Below.refl _ _⟩
  | some ad =>
    have hc : ∀ j u, (scells l)[j]? = some u → W.cell? (ad.add j) = some u := by
      intro j u hj
      have hjl : j < l.length := by
        rcases Nat.lt_or_ge j l.length with h | h
        · exact h
        · rw [List.getElem?_eq_none (by simpa [scells] using h)] at hj; cases hj
      obtain ⟨b, off, e2, h4, h5⟩ := h3 (fun e => by rw [e] at hjl; simp at hjl)
      obtain rfl := Option.some.inj e2
      rw [add_at, h5 j hjl]
      simpa [scells, List.getElem?_eq_getElem hjl] using hj
    obtain ⟨u, W', q1, q2, q3, _⟩ := run_append_own (P := Tryz.prog) W B 26 ty 9 i0 _ 1 _ Tryz.underlying26 hi0 hz0 hz1 hz2 rfl (by decide) (.slice none 0 0) 0 [] (World.ownsRow_nil W B 9 1) ad l.length cap (scells l) (by simp [scells]) hc (by intro u hu; obtain ⟨x, _, rfl⟩ := List.mem_map.1 hu; rfl) (by unfold maxLen; omega) (by omega) hB
    refine ⟨u, W', q1, ?_, ⟨q3.os, q3.tape, q3.output, q3.size, fun k hk => q3.block k hk (by simp [Value.ownBlock])⟩⟩
    simpa using q2

theorem run_copyT (ty : TypeId) (W : World) (B : Nat) (hB : B ≤ W.heap.size) (a : Option Addr) (cap : Nat) (us : List TV) (hr : RowT W a us) (hn : a = none → cap = 0) (hc0 : us.length ≤ cap) (hs : ∀ u ∈ us, ∃ a1 n1 c1 a2 n2 c2, u.2.1 = .slice a1 n1 c1 ∧ u.2.2 = .slice a2 n2 c2) (hl : us.length ≤ 1000000) :
    ∃ u W', (Builtin.append_ #[27, 27] ty #[.slice none 0 0, .slice a us.length cap]).run Tryz.prog W = .ok u W' ∧ W'.ownsRow B 29 7 u us.length (tcs us) ∧ Below W.heap.size W W' := by
  obtain ⟨i0, hi0, hz0, hz1, hz2⟩ := info_parts infoT
  cases a with
  | none =>
    have hl0 : us = [] := List.length_eq_zero_iff.1 (by have := hn rfl; omega)
    have hcc : cap = 0 := hn rfl
    subst hl0 hcc
    exact ⟨.slice none 0 0, W, run_append_owned_none (P := Tryz.prog) (w := W) B 27 ty 29 i0 7 Tryz.underlying27 hi0 (.slice none 0 0) 0 [] (World.ownsRow_nil W B 29 7), World.ownsRow_nil W B 29 7, Below.refl _ _⟩
  | some ad =>
    have hc : ∀ j u, (tcs us)[j]? = some u → W.cell? (ad.add j) = some u := by
      intro j u hj
      have hjl : j < us.length * 7 := by
        rcases Nat.lt_or_ge j (us.length * 7) with h | h
        · exact h
        · rw [List.getElem?_eq_none (by rw [tcs_len]; exact h)] at hj; cases hj
      obtain ⟨b, off, e2, h4, h5⟩ := hr (fun e => by rw [e] at hjl; simp at hjl)
      obtain rfl := Option.some.inj e2
      obtain ⟨i, k, rfl, hk⟩ : ∃ i k, j = i * 7 + k ∧ k < 7 := ⟨j / 7, j % 7, by omega, by omega⟩
      have hil : i < us.length := by omega
      rw [add_at, ← Nat.add_assoc, h5 i hil k hk, ← tcs_at us i hil k hk]; exact hj
    obtain ⟨u, W', q1, q2, q3, _⟩ := run_append_own (P := Tryz.prog) W B 27 ty 29 i0 _ 7 _ Tryz.underlying27 hi0 hz0 hz1 hz2 rfl (by decide) (.slice none 0 0) 0 [] (World.ownsRow_nil W B 29 7) ad us.length cap (tcs us) (by rw [tcs_len]) hc (by
      intro u hu
      obtain ⟨x, hx, hu⟩ := List.mem_flatMap.1 hu
      obtain ⟨a1, n1, c1, a2, n2, c2, e1, e2⟩ := hs x hx
      unfold tcells at hu
      rw [e1, e2] at hu
      simp at hu
      rcases hu with rfl | rfl | rfl | rfl | rfl | rfl | rfl <;> rfl) (by unfold maxLen; omega) (by omega) hB
    refine ⟨u, W', q1, ?_, ⟨q3.os, q3.tape, q3.output, q3.size, fun k hk => q3.block k hk (by simp [Value.ownBlock])⟩⟩
    simpa using q2

/-- What lies from a block on is as it was. -/
def From (B : Nat) (w w' : World) : Prop := w.heap.size ≤ w'.heap.size ∧ ∀ k, B ≤ k → k < w.heap.size → w'.heap[k]? = w.heap[k]?
theorem From.cell {B : Nat} {w w' : World} (h : From B w w') {b o : Nat} (hB : B ≤ b) (hb : b < w.heap.size) : w'.cell? ⟨b, o, none⟩ = w.cell? ⟨b, o, none⟩ := by
  unfold World.cell?
  rw [h.2 b hB hb]
theorem From.of {B : Nat} {w w' : World} (h : Below w.heap.size w w') : From B w w' := ⟨h.size, fun k _ hk => h.block k hk⟩
theorem From.trans {B : Nat} {w w1 w2 : World} (h : From B w w1) (k : From B w1 w2) : From B w w2 := ⟨Nat.le_trans h.1 k.1, fun b hB hb => (k.2 b hB (Nat.lt_of_lt_of_le hb h.1)).trans (h.2 b hB hb)⟩
theorem From.set {B g i : Nat} {w : World} {v : Value} (h : g < B) : From B w (w.setCell ⟨g, i, none⟩ v) := by
  have h1 : Below g w (w.setCell ⟨g, i, none⟩ v) := (Below.refl g w).setCell (Nat.le_refl _) v
  exact ⟨h1.size, fun k hk _ => Below.heap_setCell _ _ _ _ (by simp; omega)⟩

/-- Texts whose row lies from a block on. -/
def IsStrsH (B : Nat) (w : World) (v : Value) (l : List ByteArray) : Prop :=
  ∃ a cap, v = .slice a l.length cap ∧ (l.length ≤ cap ∧ (a = none → cap = 0)) ∧ l.length ≤ 8796093022208 ∧ (l ≠ [] → ∃ b off, a = some ⟨b, off, none⟩ ∧ b < w.heap.size ∧ B ≤ b ∧ ∀ i (h : i < l.length), w.cell? ⟨b, off + i, none⟩ = some (.string l[i]))
theorem IsStrsH.strs {B : Nat} {w : World} {v : Value} {l : List ByteArray} (h : IsStrsH B w v l) : IsStrs w v l := by
  obtain ⟨a, cap, rfl, h1, h2, h3⟩ := h
  refine ⟨a, cap, rfl, h1, h2, fun hl => ?_⟩
  obtain ⟨b, off, e, h4, _, h5⟩ := h3 hl
  exact ⟨b, off, e, h4, h5⟩
theorem IsStrsH.keep {B : Nat} {w w' : World} {v : Value} {l : List ByteArray} (h : IsStrsH B w v l) (hb : From B w w') : IsStrsH B w' v l := by
  obtain ⟨a, cap, rfl, h1, h2, h3⟩ := h
  refine ⟨a, cap, rfl, h1, h2, fun hl => ?_⟩
  obtain ⟨b, off, e, h4, hB, h5⟩ := h3 hl
  exact ⟨b, off, e, Nat.lt_of_lt_of_le h4 hb.1, hB, fun i hi => by rw [hb.cell hB h4]; exact h5 i hi⟩
theorem IsStrsH.mono {B B' : Nat} {w : World} {v : Value} {l : List ByteArray} (h : IsStrsH B w v l) (hb : B' ≤ B) : IsStrsH B' w v l := by
  obtain ⟨a, cap, rfl, h1, h2, h3⟩ := h
  refine ⟨a, cap, rfl, h1, h2, fun hl => ?_⟩
  obtain ⟨b, off, e, h4, hB, h5⟩ := h3 hl
  exact ⟨b, off, e, h4, Nat.le_trans hb hB, h5⟩
theorem own_strs {B : Nat} {w : World} {v : Value} {l : List ByteArray} (h : w.ownsRow B 9 1 v l.length (scells l)) (hl : l.length ≤ 1000000) : IsStrsH B w v l := by
  rcases h.2 with ⟨rfl, h0⟩ | ⟨g, cap, cur, rfl, hg, hh, hc, hm, hz, ht⟩
  · exact ⟨none, 0, by rw [h0], ⟨by omega, fun _ => rfl⟩, by omega, fun h => absurd (List.length_eq_zero_iff.1 h0) h⟩
  · refine ⟨_, cap, rfl, ⟨hc, fun e => by cases e⟩, by omega, fun _ => ⟨g, 0, rfl, lt_of_heap hh, hg, fun i hi => ?_⟩⟩
    have h1 : w.cell? ⟨g, 0 + i, none⟩ = cur[i]? := by rw [Nat.zero_add]; exact Lib.cell_of_heap hh i
    rw [h1]
    have h2 : (cur.toList.take (l.length * 1))[i]? = (scells l)[i]? := by rw [ht]
    rw [List.getElem?_take_of_lt (by omega), Array.getElem?_toList] at h2
    rw [h2]
    simp [scells, List.getElem?_eq_getElem hi]

/-- Trees' own fields, in a row that lies from a block on. -/
def RowTH (B : Nat) (w : World) (a : Option Addr) (us : List TV) : Prop :=
  us ≠ [] → ∃ b off, a = some ⟨b, off, none⟩ ∧ b < w.heap.size ∧ B ≤ b ∧ ∀ i (h : i < us.length) j, j < 7 → w.cell? ⟨b, off + i * 7 + j, none⟩ = (tcells us[i])[j]?
/-- A tree whose rows lie from a block on. -/
abbrev IsTH (B : Nat) (w : World) (v : Value) (T : JT) : Prop := IsTG (IsStrsH B w) (RowTH B w) v T
theorem IsTG.tree {B : Nat} {w : World} {v : Value} {T : JT} (h : IsTH B w v T) : IsT w v T := by
  induction h using IsTG.ind with
  | mk x ks ts uk a cap us hk hl hc hz hr _ ih =>
    refine IsTG.mk x ks ts uk a cap us hk.strs hl hc hz (fun hu => ?_) ih
    obtain ⟨b, off, e, h4, _, h5⟩ := hr hu
    exact ⟨b, off, e, h4, h5⟩
theorem IsTG.keep {B : Nat} {w w' : World} {v : Value} {T : JT} (h : IsTH B w v T) (hb : From B w w') : IsTH B w' v T := by
  induction h using IsTG.ind with
  | mk x ks ts uk a cap us hk hl hc hz hr _ ih =>
    refine IsTG.mk x ks ts uk a cap us (hk.keep hb) hl hc hz (fun hu => ?_) ih
    obtain ⟨b, off, e, h4, hB, h5⟩ := hr hu
    exact ⟨b, off, e, Nat.lt_of_lt_of_le h4 hb.1, hB, fun i hi j hj => by rw [hb.cell hB h4]; exact h5 i hi j hj⟩
theorem IsTG.mono {B B' : Nat} {w : World} {v : Value} {T : JT} (h : IsTH B w v T) (hb : B' ≤ B) : IsTH B' w v T := by
  induction h using IsTG.ind with
  | mk x ks ts uk a cap us hk hl hc hz hr _ ih =>
    refine IsTG.mk x ks ts uk a cap us (hk.mono hb) hl hc hz (fun hu => ?_) ih
    obtain ⟨b, off, e, h4, hB, h5⟩ := hr hu
    exact ⟨b, off, e, h4, Nat.le_trans hb hB, h5⟩

/-- A row of trees in a block. -/
def RowB (w : World) (g : Nat) (us : List TV) : Prop := ∃ cur, w.heap[g]? = some (.cells cur 29) ∧ us.length * 7 ≤ cur.size ∧ ∀ i (h : i < us.length) j, j < 7 → cur[i * 7 + j]? = (tcells us[i])[j]?
theorem RowB.cellAt {w : World} {g : Nat} {us : List TV} (h : RowB w g us) (i : Nat) (hi : i < us.length) (j : Nat) (hj : j < 7) : w.cell? ⟨g, i * 7 + j, none⟩ = (tcells us[i])[j]? := by
  obtain ⟨cur, h1, _, h2⟩ := h
  rw [← h2 i hi j hj]
  exact Lib.cell_of_heap h1 _
theorem RowB.below {w w' : World} {g : Nat} {us : List TV} (h : RowB w g us) (hb : Below w.heap.size w w') : RowB w' g us := by
  obtain ⟨cur, h1, h2⟩ := h
  exact ⟨cur, (hb.block _ (lt_of_heap h1)).trans h1, h2⟩
theorem RowB.put {w : World} {g : Nat} {us : List TV} (h : RowB w g us) (k : Nat) (hk : k < us.length) (u : TV) (w' : World)
    (hw : w' = ((((((w.setCell ⟨g, k * 7, none⟩ (.int .i64 u.1.k)).setCell ⟨g, k * 7 + 1, none⟩ (.int .i64 u.1.n)).setCell ⟨g, k * 7 + 2, none⟩ (.string u.1.t)).setCell ⟨g, k * 7 + 3, none⟩ (.int .i64 u.1.o)).setCell ⟨g, k * 7 + 4, none⟩ (.int .i64 u.1.a)).setCell ⟨g, k * 7 + 5, none⟩ u.2.1).setCell ⟨g, k * 7 + 6, none⟩ u.2.2) :
    RowB w' g (us.set k u) := by
  obtain ⟨cur, h1, h0, h2⟩ := h
  have q := set_at (set_at (set_at (set_at (set_at (set_at (set_at h1 (k * 7) (.int .i64 u.1.k)) (k * 7 + 1) (.int .i64 u.1.n)) (k * 7 + 2) (.string u.1.t)) (k * 7 + 3) (.int .i64 u.1.o)) (k * 7 + 4) (.int .i64 u.1.a)) (k * 7 + 5) u.2.1) (k * 7 + 6) u.2.2
  rw [← hw] at q
  refine ⟨_, q, by simpa using h0, fun i hi j hj => ?_⟩
  rw [List.length_set] at hi
  have hsz : k * 7 + 6 < cur.size := by omega
  by_cases e : i = k
  · subst e
    have e1 : (us.set i u)[i]'(by simpa using hi) = u := by simp
    rw [e1]
    obtain rfl | rfl | rfl | rfl | rfl | rfl | rfl : j = 0 ∨ j = 1 ∨ j = 2 ∨ j = 3 ∨ j = 4 ∨ j = 5 ∨ j = 6 := by omega
    all_goals simp [Array.getElem?_setIfInBounds, tcells]
    all_goals omega
  · have e1 : (us.set k u)[i]'(by simpa using hi) = us[i] := by rw [List.getElem_set_ne (fun e2 => e e2.symm)]
    rw [e1, ← h2 i hi j hj]
    have hne : ∀ d, d < 7 → k * 7 + d ≠ i * 7 + j := by omega
    simp only [Array.getElem?_setIfInBounds]
    rw [if_neg (hne 6 (by omega)), if_neg (hne 5 (by omega)), if_neg (hne 4 (by omega)), if_neg (hne 3 (by omega)), if_neg (hne 2 (by omega)), if_neg (hne 1 (by omega)), if_neg (by have := hne 0 (by omega); omega)]
theorem own_rowB {B : Nat} {w : World} {v : Value} {us : List TV} (h : w.ownsRow B 29 7 v us.length (tcs us)) : (v = .slice none 0 0 ∧ us = []) ∨ ∃ g cap, v = .slice (some ⟨g, 0, none⟩) us.length cap ∧ B ≤ g ∧ g < w.heap.size ∧ us.length ≤ cap ∧ RowB w g us := by
  rcases h.2 with ⟨rfl, h0⟩ | ⟨g, cap, cur, rfl, hg, hh, hc, hm, hz, ht⟩
  · exact Or.inl ⟨rfl, List.length_eq_zero_iff.1 h0⟩
  · refine Or.inr ⟨g, cap, rfl, hg, lt_of_heap hh, hc, cur, hh, ?_, fun i hi j hj => ?_⟩
    · rw [hz]; exact Nat.mul_le_mul_right 7 hc
    · have h2 : (cur.toList.take (us.length * 7))[i * 7 + j]? = (tcs us)[i * 7 + j]? := by rw [ht]
      rw [List.getElem?_take_of_lt (by omega), Array.getElem?_toList] at h2
      rw [h2, tcs_at us i hi j hj]
end Go.Proofs.YtnmdhbejjjmdeaaGreatDoor

namespace Go.Proofs.YtnmdhbejjjmdeaaGreatDoor
open Go.RowKit Go.Sort

theorem keep8 {W W' : World} {p0 p1 p2 p3 p4 p5 p6 p7 : Addr} {v0 v1 v2 v3 v4 v5 v6 v7 : Value} (h : W.cell? p0 = some v0 ∧ W.cell? p1 = some v1 ∧ W.cell? p2 = some v2 ∧ W.cell? p3 = some v3 ∧ W.cell? p4 = some v4 ∧ W.cell? p5 = some v5 ∧ W.cell? p6 = some v6 ∧ W.cell? p7 = some v7) (hb : Below W.heap.size W W') : W'.cell? p0 = some v0 ∧ W'.cell? p1 = some v1 ∧ W'.cell? p2 = some v2 ∧ W'.cell? p3 = some v3 ∧ W'.cell? p4 = some v4 ∧ W'.cell? p5 = some v5 ∧ W'.cell? p6 = some v6 ∧ W'.cell? p7 = some v7 := by
  obtain ⟨h0, h1, h2, h3, h4, h5, h6, h7⟩ := h
  exact ⟨(hb.cell (cell_in h0)).trans h0, (hb.cell (cell_in h1)).trans h1, (hb.cell (cell_in h2)).trans h2, (hb.cell (cell_in h3)).trans h3, (hb.cell (cell_in h4)).trans h4, (hb.cell (cell_in h5)).trans h5, (hb.cell (cell_in h6)).trans h6, (hb.cell (cell_in h7)).trans h7⟩
theorem keep8o {W W' : World} {g : Nat} {p0 p1 p2 p3 p4 p5 p6 p7 : Addr} {v0 v1 v2 v3 v4 v5 v6 v7 : Value} (h : W.cell? p0 = some v0 ∧ W.cell? p1 = some v1 ∧ W.cell? p2 = some v2 ∧ W.cell? p3 = some v3 ∧ W.cell? p4 = some v4 ∧ W.cell? p5 = some v5 ∧ W.cell? p6 = some v6 ∧ W.cell? p7 = some v7) (hb : ∀ b, b ≠ g → W'.heap[b]? = W.heap[b]?) (hne : p0.block ≠ g ∧ p1.block ≠ g ∧ p2.block ≠ g ∧ p3.block ≠ g ∧ p4.block ≠ g ∧ p5.block ≠ g ∧ p6.block ≠ g ∧ p7.block ≠ g) : W'.cell? p0 = some v0 ∧ W'.cell? p1 = some v1 ∧ W'.cell? p2 = some v2 ∧ W'.cell? p3 = some v3 ∧ W'.cell? p4 = some v4 ∧ W'.cell? p5 = some v5 ∧ W'.cell? p6 = some v6 ∧ W'.cell? p7 = some v7 := by
  obtain ⟨h0, h1, h2, h3, h4, h5, h6, h7⟩ := h
  obtain ⟨q0, q1, q2, q3, q4, q5, q6, q7⟩ := hne
  have hc : ∀ p : Addr, p.block ≠ g → W'.cell? p = W.cell? p := fun p hp => by unfold World.cell?; rw [hb _ hp]
  exact ⟨(hc _ q0).trans h0, (hc _ q1).trans h1, (hc _ q2).trans h2, (hc _ q3).trans h3, (hc _ q4).trans h4, (hc _ q5).trans h5, (hc _ q6).trans h6, (hc _ q7).trans h7⟩
theorem heap_set_other {w : World} {b g i : Nat} {v : Value} {o : Obj} (h : w.heap[b]? = some o) (hb : b ≠ g) : (w.setCell ⟨g, i, none⟩ v).heap[b]? = some o := by
  rw [Below.heap_setCell _ _ _ _ (by simpa using hb)]
  exact h
theorem own_below {B C e s n : Nat} {w w' : World} {v : Value} {xs : List Value} (h : w.ownsRow B e s v n xs) (hb : Below C w w') (hC : w.heap.size ≤ C) : w'.ownsRow B e s v n xs := by
  refine ⟨h.1, ?_⟩
  rcases h.2 with h0 | ⟨g, cap, cur, h1, h2, h3, h4⟩
  · exact Or.inl h0
  · exact Or.inr ⟨g, cap, cur, h1, h2, (hb.block g (Nat.lt_of_lt_of_le (lt_of_heap h3) hC)).trans h3, h4⟩
theorem own_set_other {w : World} {B e s n g i t : Nat} {v u : Value} {xs : List Value} {cur : Array Value} (h : w.ownsRow B e s v n xs) (hg : w.heap[g]? = some (.cells cur t)) (ht : t ≠ e) : (w.setCell ⟨g, i, none⟩ u).ownsRow B e s v n xs := by
  refine ⟨h.1, ?_⟩
  rcases h.2 with ⟨e1, h0⟩ | ⟨g', cap', cur', e1, hg', hh, hc, hm, hz, ht'⟩
  · exact Or.inl ⟨e1, h0⟩
  · refine Or.inr ⟨g', cap', cur', e1, hg', heap_set_other hh (fun e2 => ?_), hc, hm, hz, ht'⟩
    subst e2
    rw [hg] at hh
    have := Option.some.inj hh
    injection this with _ h5
    exact ht h5
/-- A tree's own fields, put into a row's place. -/
abbrev put7 (w : World) (g o : Nat) (u : TV) : World := ((((((w.setCell ⟨g, o, none⟩ (.int .i64 u.1.k)).setCell ⟨g, o + 1, none⟩ (.int .i64 u.1.n)).setCell ⟨g, o + 2, none⟩ (.string u.1.t)).setCell ⟨g, o + 3, none⟩ (.int .i64 u.1.o)).setCell ⟨g, o + 4, none⟩ (.int .i64 u.1.a)).setCell ⟨g, o + 5, none⟩ u.2.1).setCell ⟨g, o + 6, none⟩ u.2.2
theorem put7_other (w : World) (g o : Nat) (u : TV) (b : Nat) (hb : b ≠ g) : (put7 w g o u).heap[b]? = w.heap[b]? := by
  have hs : ∀ (w : World) (i : Nat) (v : Value), (w.setCell ⟨g, i, none⟩ v).heap[b]? = w.heap[b]? := fun w i v => Below.heap_setCell _ _ _ _ (by simpa using hb)
  unfold put7
  rw [hs, hs, hs, hs, hs, hs, hs]
theorem put7_below {B : Nat} {w w' : World} (h : Below B w w') (g o : Nat) (u : TV) (hB : B ≤ g) : Below B w (put7 w' g o u) :=
  ((((((h.setCell hB _).setCell hB _).setCell hB _).setCell hB _).setCell hB _).setCell hB _).setCell hB _
theorem RowB.frozen {w : World} {g : Nat} {us : List TV} (h : RowB w g us) (i : Nat) : w.frozen? ⟨g, i, none⟩ = false := by
  obtain ⟨cur, h1, _⟩ := h
  exact Lib.frozen_of_heap h1 i

/-- An append whose end is known. -/
theorem wp_append {w : World} {ops : Array Oper} {rest : List Oper} {o : Oper} {a : Act} {Q : Exit → Act → World → Prop} (hgd : o.guard = none) (s x : Operand) (T : TypeId)
    (ho : o.op = .call { callee := .builtin .append, args := #[s, x], argTypes := #[T, T] }) (v u r : Value) (w' : World) (hs : a.eval s = v) (hx : a.eval x = u)
    (hrun : (Builtin.append_ #[T, T] o.type #[v, u]).run Tryz.prog w = .ok r w') (h : wpList Tryz.prog ops Q rest (a.put o.dst r) w') : wpList Tryz.prog ops Q (o :: rest) a w := by
  refine wpList_plain hgd fun K hK => ?_
  unfold Oper.wp
  simp [execOp, ho, resolve, invoke, builtin, hs, hx, hrun, Result.andThen]
  exact hK _ _ h

/-- What copyOf answers. -/
def CopyP (B : Nat) (w : World) (T : JT) (e : Ending) : Prop := ∃ v, e = .returned v ∧ IsTH B w v T

/-- What holds at the head of each round. -/
structure CpT (w : World) (T : JT) (us0 us' : List TV) (uk : Value) (g yc i : Nat) (wr : World) : Prop where
  x : wr.heap[w.heap.size]? = some (.cells #[.int .i64 T.x.k, .int .i64 T.x.n, .string T.x.t, .int .i64 T.x.o, .int .i64 T.x.a, uk, .slice (some ⟨g, 0, none⟩) T.ts.length yc] 29)
  y : wr.heap[w.heap.size + 1]? = some (.cells #[.int .i64 0, .int .i64 0, .string ⟨#[]⟩, .int .i64 0, .int .i64 0, .slice none 0 0, .slice none 0 0] 29)
  keys : wr.ownsRow (w.heap.size + 2) 9 1 uk T.ks.length (scells T.ks)
  len : us'.length = T.ts.length
  cap : T.ts.length ≤ yc
  far : w.heap.size + 2 ≤ g
  low : g < wr.heap.size
  row : RowB wr g us'
  done : ∀ k (h : k < us'.length) (h' : k < T.ts.length), k < i → IsTH (g + 1) wr (tval us'[k]) T.ts[k]
  rest : ∀ k (h : k < us'.length) (h0 : k < us0.length), i ≤ k → us'[k] = us0[k]
  below : Below w.heap.size w wr

theorem CpT.grow {w : World} {T : JT} {us0 us' : List TV} {uk : Value} {g yc i : Nat} {wr V : World} (h : CpT w T us0 us' uk g yc i wr) (hb : Below wr.heap.size wr V) : CpT w T us0 us' uk g yc i V :=
  ⟨(hb.block _ (lt_of_heap h.x)).trans h.x, (hb.block _ (lt_of_heap h.y)).trans h.y, own_below h.keys hb (Nat.le_refl _), h.len, h.cap, h.far, Nat.lt_of_lt_of_le h.low hb.size, h.row.below hb, fun k h1 h2 h3 => (h.done k h1 h2 h3).keep (From.of hb), h.rest, h.below.trans (hb.mono h.below.size)⟩
theorem CpT.put {w : World} {T : JT} {us0 us' : List TV} {uk : Value} {g yc i : Nat} {V : World} (h : CpT w T us0 us' uk g yc i V) (hi : i < us'.length) (u : TV) (hu : ∀ h' : i < T.ts.length, IsTH (g + 1) V (tval u) T.ts[i]) : CpT w T us0 (us'.set i u) uk g yc (i + 1) (put7 V g (i * 7) u) := by
  have hF : From (g + 1) V (put7 V g (i * 7) u) := ⟨(put7_below (Below.refl 0 V) g _ u (Nat.zero_le _)).size, fun k hk _ => put7_other V g _ u k (by omega)⟩
  have hfar := h.far
  refine ⟨?_, ?_, ?_, by simpa using h.len, h.cap, h.far, Nat.lt_of_lt_of_le h.low hF.1, h.row.put i hi u _ rfl, ?_, ?_, put7_below h.below g _ u (by omega)⟩
  · rw [put7_other V g _ u _ (by omega)]; exact h.x
  · rw [put7_other V g _ u _ (by omega)]; exact h.y
  · refine ⟨h.keys.1, ?_⟩
    obtain ⟨cur, hcur, _⟩ := h.row
    rcases h.keys.2 with h0 | ⟨g', cap', cur', e1, hg', hh, h4⟩
    · exact Or.inl h0
    · refine Or.inr ⟨g', cap', cur', e1, hg', ?_, h4⟩
      rw [put7_other V g _ u _ (fun e => ?_)]
      · exact hh
      · subst e
        rw [hcur] at hh
        have h5 := Option.some.inj hh
        injection h5 with _ h6
        exact absurd h6 (by decide)
  · intro k hk hk' hlt
    rw [List.length_set] at hk
    by_cases e : k = i
    · subst e
      rw [List.getElem_set_self]
      exact (hu hk').keep hF
    · rw [List.getElem_set_ne (fun e2 => e e2.symm)]
      exact (h.done k hk hk' (by omega)).keep hF
  · intro k hk h0 hle
    rw [List.length_set] at hk
    rw [List.getElem_set_ne (by omega)]
    exact h.rest k hk h0 (by omega)
theorem CpT.all {w : World} {T : JT} {us0 us' : List TV} {uk : Value} {g yc : Nat} {wr V : World} (h : CpT w T us0 us' uk g yc T.ts.length wr) (hT : T = .node T.x T.ks T.ts) (hk : T.ks.length ≤ 1000000) (hz : T.ts.length ≤ 8796093022208) (hV : From (w.heap.size + 2) wr V) : IsTH w.heap.size V (tval (T.x, uk, .slice (some ⟨g, 0, none⟩) T.ts.length yc)) T := by
  have h1 : IsTH (w.heap.size + 2) wr (tval (T.x, uk, .slice (some ⟨g, 0, none⟩) T.ts.length yc)) T := by
    have h3 : IsTH (w.heap.size + 2) wr (tval (T.x, uk, .slice (some ⟨g, 0, none⟩) T.ts.length yc)) (.node T.x T.ks T.ts) := by
      refine IsTG.mk T.x T.ks T.ts uk (some ⟨g, 0, none⟩) yc us' (own_strs h.keys hk) h.len ⟨h.cap, fun e => by cases e⟩ hz (fun _ => ⟨g, 0, rfl, h.low, h.far, fun i hi j hj => ?_⟩) (fun i hi hi' => ?_)
      · rw [Nat.zero_add]; exact h.row.cellAt i hi j hj
      · exact (h.done i hi hi' hi').mono (by have := h.far; omega)
    rw [← hT] at h3
    exact h3
  exact (h1.keep hV).mono (by omega)

theorem few_kids {T : JT} (hf : formedB T = true) (hs : T.size ≤ 400) : T.ts.length ≤ 400 ∧ T.ks.length ≤ 400 ∧ ∀ t ∈ T.ts, t.size ≤ 400 := by
  have h1 := size_eq T
  have h2 := len_sizes T.ts
  have h3 : nodeB T.x T.ks T.ts.length = true := by
    rw [formedB_eq] at hf
    exact (by simpa using hf : _ ∧ _).1
  refine ⟨by omega, ?_, fun t ht => ?_⟩
  · unfold nodeB at h3
    by_cases h5 : T.x.k = 5
    · rw [if_pos h5] at h3
      simp only [Bool.and_eq_true, decide_eq_true_eq] at h3
      omega
    · rw [if_neg h5] at h3
      have h4 : T.ks.isEmpty = true := by
        by_cases h6 : T.x.k = 6
        · rw [if_pos h6] at h3
          simp only [Bool.and_eq_true] at h3
          exact h3.2
        · rw [if_neg h6] at h3
          simp only [Bool.and_eq_true] at h3
          exact h3.2.1
      rw [List.isEmpty_iff.1 h4]; simp
  · obtain ⟨i, hi, rfl⟩ := List.getElem_of_mem ht
    have h5 := sizes_take T.ts i hi
    have h6 := sizes_le T.ts (i + 1)
    omega

end Go.Proofs.YtnmdhbejjjmdeaaGreatDoor

namespace Go.Proofs.YtnmdhbejjjmdeaaGreatDoor
open Go.RowKit Go.Sort

/-- The zero tree. -/
def zJ : JT := .node ⟨0, 0, ⟨#[]⟩, 0, 0⟩ [] []
/-- Which error there is. -/
def resE (T : JT) (l : List Stp) : Int := if chkT T = 0 then (if (getT T l).isSome = true then 0 else 6) else chkT T
/-- Which tree is answered. -/
def resT (T : JT) (l : List Stp) : JT := if chkT T = 0 then (getT T l).getD zJ else zJ
/-- An error. -/
def errV (e : Int) : Value := if e = 0 then .nilIface else .iface 43 (.int .i64 e)
theorem zJ_at (w : World) : IsT w zT zJ :=
  IsTG.mk ⟨0, 0, ⟨#[]⟩, 0, 0⟩ [] [] (.slice none 0 0) none 0 [] ⟨none, 0, rfl, ⟨Nat.le_refl _, fun _ => rfl⟩, Nat.zero_le _, fun h => absurd rfl h⟩ rfl ⟨Nat.le_refl _, fun _ => rfl⟩ (Nat.zero_le _) (fun h => absurd rfl h) (fun _ hi => absurd hi (Nat.not_lt_zero _))
theorem chkT_zero {T : JT} (h : chkT T = 0) : formedB T = true ∧ T.size ≤ 400 := by
  unfold chkT at h
  by_cases h1 : 400 < T.size
  · rw [if_pos h1] at h; omega
  · rw [if_neg h1] at h
    by_cases h2 : formedB T = true
    · exact ⟨h2, by omega⟩
    · rw [if_neg h2] at h; omega
theorem getT_ok {T t : JT} {l : List Stp} (h : getT T l = some t) (hf : formedB T = true) (hs : T.size ≤ 400) : formedB t = true ∧ t.size ≤ 400 := by
  induction l generalizing T with
  | nil => rw [getT] at h; obtain rfl := Option.some.inj h; exact ⟨hf, hs⟩
  | cons s r ih =>
    rw [getT] at h
    obtain ⟨u, h1, h2⟩ := Option.bind_eq_some_iff.1 h
    unfold step1 at h1
    obtain ⟨i, _, h4⟩ := Option.bind_eq_some_iff.1 h1
    have hm := List.mem_of_getElem? h4
    exact ih h2 ((formed_node hf).2 u hm) ((few_kids hf hs).2.2 u hm)
/-- What Get answers. -/
def GetJP (w : World) (T : JT) (l : List Stp) (e : Ending) : Prop := ∃ v, e = .returned (.tuple #[v, errV (resE T l)]) ∧ IsT w v (resT T l)

end Go.Proofs.YtnmdhbejjjmdeaaGreatDoor
