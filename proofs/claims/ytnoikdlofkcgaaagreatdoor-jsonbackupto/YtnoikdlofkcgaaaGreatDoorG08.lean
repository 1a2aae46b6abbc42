/-
  What is proved: rows of texts and of trees, copied by append; trees whose rows lie behind a block stay while what lies ahead of it turns. the function Text of bookref3, called with a tree that lies in memory, answers its text.
  Conditions: as each theorem says.
-/
import Derived.Test.YtnoikdlofkcgaaaGreatDoorJFollow
import Derived.Deep.DeepAppendWide
import Derived.Laws.AppendOwnNone
import Derived.Laws.OwnMore
import Derived.Test.YtnoikdlofkcgaaaGreatDoorG07
import Derived.Test.YtnoikdlofkcgaaaGreatDoorG05
namespace Go.Proofs.YtnoikdlofkcgaaaGreatDoor
open Go.RowKit

theorem infoS : (Tryz.prog.info? 9).map (fun i => (i.zero, i.size, i.bytes)) = some (some (.string ⟨#[]⟩), 1, 16) := by kernel_rfl
theorem infoT : (Tryz.prog.info? 29).map (fun i => (i.zero, i.size, i.bytes)) = some (some zT, 7, 96) := by kernel_rfl

/-- The cells of texts. -/
def scells (l : List ByteArray) : List Value := l.map .string
/-- The cells of trees' own fields. -/
def tcs (us : List TV) : List Value := us.flatMap tcells
theorem tcs_len (us : List TV) : (tcs us).length = us.length * 7 := by
  induction us with
  | nil => rfl
  | cons u r ih =>
    have : tcs (u :: r) = tcells u ++ tcs r := rfl
    rw [this, List.length_append, ih]
    simp [tcells]; omega
theorem tcs_at (us : List TV) (i : Nat) (hi : i < us.length) (j : Nat) (hj : j < 7) : (tcs us)[i * 7 + j]? = (tcells us[i])[j]? := by
  induction us generalizing i with
  | nil => simp at hi
  | cons u r ih =>
    have e : tcs (u :: r) = tcells u ++ tcs r := rfl
    have hl : (tcells u).length = 7 := rfl
    rw [e]
    cases i with
    | zero => rw [List.getElem?_append_left (by rw [hl]; omega)]; simp
    | succ i =>
      rw [List.getElem?_append_right (by rw [hl]; omega), hl, show (i + 1) * 7 + j - 7 = i * 7 + j by omega, ih i (by simpa using hi)]
      simp

theorem add_at (b off i : Nat) : (⟨b, off, none⟩ : Addr).add i = ⟨b, off + i, none⟩ := by
  unfold Addr.add; split <;> simp_all

theorem run_copyS (ty : TypeId) (W : World) (B : Nat) (hB : B ≤ W.heap.size) (v : Value) (l : List ByteArray) (hv : IsStrs W v l) (hl : l.length ≤ 1000000) :
    ∃ u W', (Builtin.append_ #[26, 26] ty #[.slice none 0 0, v]).run Tryz.prog W = .ok u W' ∧ W'.ownsRow B 9 1 u l.length (scells l) ∧ Below W.heap.size W W' := by
  obtain ⟨i0, hi0, hz0, hz1, hz2⟩ := info_parts infoS
  obtain ⟨a, cap, rfl, h1, h2, h3⟩ := hv
  cases a with
  | none =>
    have hl0 : l = [] := List.length_eq_zero_iff.1 (by have := h1.2 rfl; omega)
    have hc0 : cap = 0 := h1.2 rfl
    subst hl0 hc0
    exact ⟨.slice none 0 0, W, run_append_owned_none (P := Tryz.prog) (w := W) B 26 ty 9 i0 1 Tryz.underlying26 hi0 (.slice none 0 0) 0 [] (World.ownsRow_nil W B 9 1), World.ownsRow_nil W B 9 1, Below.refl _ _⟩
  | some ad =>
    have hc : ∀ j u, (scells l)[j]? = some u → W.cell? (ad.add j) = some u := by
      intro j u hj
      have hjl : j < l.length := by
        rcases Nat.lt_or_ge j l.length with h | h
        · exact h
        · rw [List.getElem?_eq_none (by simpa [scells] using h)] at hj; cases hj
      obtain ⟨b, off, e2, h4, h5⟩ := h3 (fun e => by rw [e] at hjl; simp at hjl)
      obtain rfl := Option.some.inj e2
      rw [add_at, h5 j hjl]
      simpa [scells, List.getElem?_eq_getElem hjl] using hj
    obtain ⟨u, W', q1, q2, q3, _⟩ := run_append_own (P := Tryz.prog) W B 26 ty 9 i0 _ 1 _ Tryz.underlying26 hi0 hz0 hz1 hz2 rfl (by decide) (.slice none 0 0) 0 [] (World.ownsRow_nil W B 9 1) ad l.length cap (scells l) (by simp [scells]) hc (by intro u hu; obtain ⟨x, _, rfl⟩ := List.mem_map.1 hu; rfl) (by unfold maxLen; omega) (by omega) hB
    refine ⟨u, W', q1, ?_, ⟨q3.os, q3.tape, q3.output, q3.size, fun k hk => q3.block k hk (by simp [Value.ownBlock])⟩⟩
    simpa using q2

theorem run_copyT (ty : TypeId) (W : World) (B : Nat) (hB : B ≤ W.heap.size) (a : Option Addr) (cap : Nat) (us : List TV) (hr : RowT W a us) (hn : a = none → cap = 0) (hc0 : us.length ≤ cap) (hs : ∀ u ∈ us, ∃ a1 n1 c1 a2 n2 c2, u.2.1 = .slice a1 n1 c1 ∧ u.2.2 = .slice a2 n2 c2) (hl : us.length ≤ 1000000) :
    ∃ u W', (Builtin.append_ #[27, 27] ty #[.slice none 0 0, .slice a us.length cap]).run Tryz.prog W = .ok u W' ∧ W'.ownsRow B 29 7 u us.length (tcs us) ∧ Below W.heap.size W W' := by
  obtain ⟨i0, hi0, hz0, hz1, hz2⟩ := info_parts infoT
  cases a with
  | none =>
    have hl0 : us = [] := List.length_eq_zero_iff.1 (by have := hn rfl; omega)
    have hcc : cap = 0 := hn rfl
    subst hl0 hcc
    exact ⟨.slice none 0 0, W, run_append_owned_none (P := Tryz.prog) (w := W) B 27 ty 29 i0 7 Tryz.underlying27 hi0 (.slice none 0 0) 0 [] (World.ownsRow_nil W B 29 7), World.ownsRow_nil W B 29 7, Below.refl _ _⟩
  | some ad =>
    have hc : ∀ j u, (tcs us)[j]? = some u → W.cell? (ad.add j) = some u := by
      intro j u hj
      have hjl : j < us.length * 7 := by
        rcases Nat.lt_or_ge j (us.length * 7) with h | h
        · exact h
        · rw [List.getElem?_eq_none (by rw [tcs_len]; exact h)] at hj; cases hj
      obtain ⟨b, off, e2, h4, h5⟩ := hr (fun e => by rw [e] at hjl; simp at hjl)
      obtain rfl := Option.some.inj e2
      obtain ⟨i, k, rfl, hk⟩ : ∃ i k, j = i * 7 + k ∧ k < 7 := ⟨j / 7, j % 7, by omega, by omega⟩
      have hil : i < us.length := by omega
      rw [add_at, ← Nat.add_assoc, h5 i hil k hk, ← tcs_at us i hil k hk]; exact hj
    obtain ⟨u, W', q1, q2, q3, _⟩ := run_append_own (P := Tryz.prog) W B 27 ty 29 i0 _ 7 _ Tryz.underlying27 hi0 hz0 hz1 hz2 rfl (by decide) (.slice none 0 0) 0 [] (World.ownsRow_nil W B 29 7) ad us.length cap (tcs us) (by rw [tcs_len]) hc (by
      intro u hu
      obtain ⟨x, hx, hu⟩ := List.mem_flatMap.1 hu
      obtain ⟨a1, n1, c1, a2, n2, c2, e1, e2⟩ := hs x hx
      unfold tcells at hu
      rw [e1, e2] at hu
      simp at hu
      rcases hu with rfl | rfl | rfl | rfl | rfl | rfl | rfl <;> rfl) (by unfold maxLen; omega) (by omega) hB
    refine ⟨u, W', q1, ?_, ⟨q3.os, q3.tape, q3.output, q3.size, fun k hk => q3.block k hk (by simp [Value.ownBlock])⟩⟩
    simpa using q2

/-- What lies from a block on is as it was. -/
def From (B : Nat) (w w' : World) : Prop := w.heap.size ≤ w'.heap.size ∧ ∀ k, B ≤ k → k < w.heap.size → w'.heap[k]? = w.heap[k]?
theorem From.cell {B : Nat} {w w' : World} (h : From B w w') {b o : Nat} (hB : B ≤ b) (hb : b < w.heap.size) : w'.cell? ⟨b, o, none⟩ = w.cell? ⟨b, o, none⟩ := by
  unfold World.cell?
  rw [h.2 b hB hb]
theorem From.of {B : Nat} {w w' : World} (h : Below w.heap.size w w') : From B w w' := ⟨h.size, fun k _ hk => h.block k hk⟩
theorem From.trans {B : Nat} {w w1 w2 : World} (h : From B w w1) (k : From B w1 w2) : From B w w2 := ⟨Nat.le_trans h.1 k.1, fun b hB hb => (k.2 b hB (Nat.lt_of_lt_of_le hb h.1)).trans (h.2 b hB hb)⟩
theorem From.set {B g i : Nat} {w : World} {v : Value} (h : g < B) : From B w (w.setCell ⟨g, i, none⟩ v) := by
  have h1 : Below g w (w.setCell ⟨g, i, none⟩ v) := (Below.refl g w).setCell (Nat.le_refl _) v
  exact ⟨h1.size, fun k hk _ => Below.heap_setCell _ _ _ _ (by simp; omega)⟩

/-- Texts whose row lies from a block on. -/
def IsStrsH (B : Nat) (w : World) (v : Value) (l : List ByteArray) : Prop :=
  ∃ a cap, v = .slice a l.length cap ∧ (l.length ≤ cap ∧ (a = none → cap = 0)) ∧ l.length ≤ 8796093022208 ∧ (l ≠ [] → ∃ b off, a = some ⟨b, off, none⟩ ∧ b < w.heap.size ∧ B ≤ b ∧ ∀ i (h : i < l.length), w.cell? ⟨b, off + i, none⟩ = some (.string l[i]))
theorem IsStrsH.strs {B : Nat} {w : World} {v : Value} {l : List ByteArray} (h : IsStrsH B w v l) : IsStrs w v l := by
  obtain ⟨a, cap, rfl, h1, h2, h3⟩ := h
  refine ⟨a, cap, rfl, h1, h2, fun hl => ?_⟩
  obtain ⟨b, off, e, h4, _, h5⟩ := h3 hl
  exact ⟨b, off, e, h4, h5⟩
theorem IsStrsH.keep {B : Nat} {w w' : World} {v : Value} {l : List ByteArray} (h : IsStrsH B w v l) (hb : From B w w') : IsStrsH B w' v l := by
  obtain ⟨a, cap, rfl, h1, h2, h3⟩ := h
  refine ⟨a, cap, rfl, h1, h2, fun hl => ?_⟩
  obtain ⟨b, off, e, h4, hB, h5⟩ := h3 hl
  exact ⟨b, off, e, Nat.lt_of_lt_of_le h4 hb.1, hB, fun i hi => by rw [hb.cell hB h4]; exact h5 i hi⟩
theorem IsStrsH.mono {B B' : Nat} {w : World} {v : Value} {l : List ByteArray} (h : IsStrsH B w v l) (hb : B' ≤ B) : IsStrsH B' w v l := by
  obtain ⟨a, cap, rfl, h1, h2, h3⟩ := h
  refine ⟨a, cap, rfl, h1, h2, fun hl => ?_⟩
  obtain ⟨b, off, e, h4, hB, h5⟩ := h3 hl
  exact ⟨b, off, e, h4, Nat.le_trans hb hB, h5⟩
theorem own_strs {B : Nat} {w : World} {v : Value} {l : List ByteArray} (h : w.ownsRow B 9 1 v l.length (scells l)) (hl : l.length ≤ 1000000) : IsStrsH B w v l := by
  rcases h.2 with ⟨rfl, h0⟩ | ⟨g, cap, cur, rfl, hg, hh, hc, hm, hz, ht⟩
  · exact ⟨none, 0, by rw [h0], ⟨by omega, fun _ => rfl⟩, by omega, fun h => absurd (List.length_eq_zero_iff.1 h0) h⟩
  · refine ⟨_, cap, rfl, ⟨hc, fun e => by cases e⟩, by omega, fun _ => ⟨g, 0, rfl, lt_of_heap hh, hg, fun i hi => ?_⟩⟩
    have h1 : w.cell? ⟨g, 0 + i, none⟩ = cur[i]? := by rw [Nat.zero_add]; exact Lib.cell_of_heap hh i
    rw [h1]
    have h2 : (cur.toList.take (l.length * 1))[i]? = (scells l)[i]? := by rw [ht]
    rw [List.getElem?_take_of_lt (by omega), Array.getElem?_toList] at h2
    rw [h2]
    simp [scells, List.getElem?_eq_getElem hi]

/-- Trees' own fields, in a row that lies from a block on. -/
def RowTH (B : Nat) (w : World) (a : Option Addr) (us : List TV) : Prop :=
  us ≠ [] → ∃ b off, a = some ⟨b, off, none⟩ ∧ b < w.heap.size ∧ B ≤ b ∧ ∀ i (h : i < us.length) j, j < 7 → w.cell? ⟨b, off + i * 7 + j, none⟩ = (tcells us[i])[j]?
/-- A tree whose rows lie from a block on. -/
abbrev IsTH (B : Nat) (w : World) (v : Value) (T : JT) : Prop := IsTG (IsStrsH B w) (RowTH B w) v T
theorem IsTG.tree {B : Nat} {w : World} {v : Value} {T : JT} (h : IsTH B w v T) : IsT w v T := by
  induction h using IsTG.ind with
  | mk x ks ts uk a cap us hk hl hc hz hr _ ih =>
    refine IsTG.mk x ks ts uk a cap us hk.strs hl hc hz (fun hu => ?_) ih
    obtain ⟨b, off, e, h4, _, h5⟩ := hr hu
    exact ⟨b, off, e, h4, h5⟩
theorem IsTG.keep {B : Nat} {w w' : World} {v : Value} {T : JT} (h : IsTH B w v T) (hb : From B w w') : IsTH B w' v T := by
  induction h using IsTG.ind with
  | mk x ks ts uk a cap us hk hl hc hz hr _ ih =>
    refine IsTG.mk x ks ts uk a cap us (hk.keep hb) hl hc hz (fun hu => ?_) ih
    obtain ⟨b, off, e, h4, hB, h5⟩ := hr hu
    exact ⟨b, off, e, Nat.lt_of_lt_of_le h4 hb.1, hB, fun i hi j hj => by rw [hb.cell hB h4]; exact h5 i hi j hj⟩
theorem IsTG.mono {B B' : Nat} {w : World} {v : Value} {T : JT} (h : IsTH B w v T) (hb : B' ≤ B) : IsTH B' w v T := by
  induction h using IsTG.ind with
  | mk x ks ts uk a cap us hk hl hc hz hr _ ih =>
    refine IsTG.mk x ks ts uk a cap us (hk.mono hb) hl hc hz (fun hu => ?_) ih
    obtain ⟨b, off, e, h4, hB, h5⟩ := hr hu
    exact ⟨b, off, e, h4, Nat.le_trans hb hB, h5⟩

/-- A row of trees in a block. -/
def RowB (w : World) (g : Nat) (us : List TV) : Prop := ∃ cur, w.heap[g]? = some (.cells cur 29) ∧ us.length * 7 ≤ cur.size ∧ ∀ i (h : i < us.length) j, j < 7 → cur[i * 7 + j]? = (tcells us[i])[j]?
theorem RowB.cellAt {w : World} {g : Nat} {us : List TV} (h : RowB w g us) (i : Nat) (hi : i < us.length) (j : Nat) (hj : j < 7) : w.cell? ⟨g, i * 7 + j, none⟩ = (tcells us[i])[j]? := by
  obtain ⟨cur, h1, _, h2⟩ := h
  rw [← h2 i hi j hj]
  exact Lib.cell_of_heap h1 _
theorem RowB.below {w w' : World} {g : Nat} {us : List TV} (h : RowB w g us) (hb : Below w.heap.size w w') : RowB w' g us := by
  obtain ⟨cur, h1, h2⟩ := h
  exact ⟨cur, (hb.block _ (lt_of_heap h1)).trans h1, h2⟩
theorem RowB.put {w : World} {g : Nat} {us : List TV} (h : RowB w g us) (k : Nat) (hk : k < us.length) (u : TV) (w' : World)
    (hw : w' = ((((((w.setCell ⟨g, k * 7, none⟩ (.int .i64 u.1.k)).setCell ⟨g, k * 7 + 1, none⟩ (.int .i64 u.1.n)).setCell ⟨g, k * 7 + 2, none⟩ (.string u.1.t)).setCell ⟨g, k * 7 + 3, none⟩ (.int .i64 u.1.o)).setCell ⟨g, k * 7 + 4, none⟩ (.int .i64 u.1.a)).setCell ⟨g, k * 7 + 5, none⟩ u.2.1).setCell ⟨g, k * 7 + 6, none⟩ u.2.2) :
    RowB w' g (us.set k u) := by
  obtain ⟨cur, h1, h0, h2⟩ := h
  have q := set_at (set_at (set_at (set_at (set_at (set_at (set_at h1 (k * 7) (.int .i64 u.1.k)) (k * 7 + 1) (.int .i64 u.1.n)) (k * 7 + 2) (.string u.1.t)) (k * 7 + 3) (.int .i64 u.1.o)) (k * 7 + 4) (.int .i64 u.1.a)) (k * 7 + 5) u.2.1) (k * 7 + 6) u.2.2
  rw [← hw] at q
  refine ⟨_, q, by simpa using h0, fun i hi j hj => ?_⟩
  rw [List.length_set] at hi
  have hsz : k * 7 + 6 < cur.size := by omega
  by_cases e : i = k
  · subst e
    have e1 : (us.set i u)[i]'(by simpa using hi) = u := by simp
    rw [e1]
    obtain rfl | rfl | rfl | rfl | rfl | rfl | rfl : j = 0 ∨ j = 1 ∨ j = 2 ∨ j = 3 ∨ j = 4 ∨ j = 5 ∨ j = 6 := by omega
    all_goals simp [Array.getElem?_setIfInBounds, tcells]
    all_goals omega
  · have e1 : (us.set k u)[i]'(by simpa using hi) = us[i] := by rw [List.getElem_set_ne (fun e2 => e e2.symm)]
    rw [e1, ← h2 i hi j hj]
    have hne : ∀ d, d < 7 → k * 7 + d ≠ i * 7 + j := by omega
    simp only [Array.getElem?_setIfInBounds]
    rw [if_neg (hne 6 (by omega)), if_neg (hne 5 (by omega)), if_neg (hne 4 (by omega)), if_neg (hne 3 (by omega)), if_neg (hne 2 (by omega)), if_neg (hne 1 (by omega)), if_neg (by have := hne 0 (by omega); omega)]
theorem own_rowB {B : Nat} {w : World} {v : Value} {us : List TV} (h : w.ownsRow B 29 7 v us.length (tcs us)) : (v = .slice none 0 0 ∧ us = []) ∨ ∃ g cap, v = .slice (some ⟨g, 0, none⟩) us.length cap ∧ B ≤ g ∧ g < w.heap.size ∧ us.length ≤ cap ∧ RowB w g us := by
  rcases h.2 with ⟨rfl, h0⟩ | ⟨g, cap, cur, rfl, hg, hh, hc, hm, hz, ht⟩
  · exact Or.inl ⟨rfl, List.length_eq_zero_iff.1 h0⟩
  · refine Or.inr ⟨g, cap, rfl, hg, lt_of_heap hh, hc, cur, hh, ?_, fun i hi j hj => ?_⟩
    · rw [hz]; exact Nat.mul_le_mul_right 7 hc
    · have h2 : (cur.toList.take (us.length * 7))[i * 7 + j]? = (tcs us)[i * 7 + j]? := by rw [ht]
      rw [List.getElem?_take_of_lt (by omega), Array.getElem?_toList] at h2
      rw [h2, tcs_at us i hi j hj]
end Go.Proofs.YtnoikdlofkcgaaaGreatDoor

namespace Go.Proofs.YtnoikdlofkcgaaaGreatDoor
open Go.RowKit Go.Sort

/-- A text of bytes. -/
def ba (l : List UInt8) : ByteArray := ⟨l.toArray⟩
theorem addL (l r : List UInt8) (h : l.length ≤ 8388608) (h' : r.length ≤ 8388608) : ∃ s, Hid (s = l ++ r) ∧ ∀ W : World, (Op.stringOp .add (ba l) (ba r)).run Tryz.prog W = .ok (.string (ba s)) W :=
  ⟨l ++ r, rfl, fun W => run_string_add_lists W l r (by omega) (by omega)⟩
theorem addC (l : List UInt8) (c : UInt8) (h : l.length ≤ 8388608) : ∃ s, Hid (s = l ++ [c]) ∧ ∀ W : World, (Op.stringOp .add (ba l) ⟨#[c]⟩).run Tryz.prog W = .ok (.string (ba s)) W :=
  ⟨l ++ [c], rfl, fun W => run_string_add_lists W l [c] (by omega) (by simp)⟩
theorem addF (c : UInt8) (l : List UInt8) (h : l.length ≤ 8388608) : ∃ s, Hid (s = c :: l) ∧ ∀ W : World, (Op.stringOp .add ⟨#[c]⟩ (ba l)).run Tryz.prog W = .ok (.string (ba s)) W :=
  ⟨c :: l, rfl, fun W => run_string_add_lists W [c] l (by simp) (by omega)⟩
theorem few_kids' {T : JT} (_hf : formedB T = true) (hs : T.size ≤ 400) : T.ts.length ≤ 400 ∧ ∀ t ∈ T.ts, t.size ≤ 400 := by
  have h1 := size_eq T
  have h2 := len_sizes T.ts
  refine ⟨by omega, fun t ht => ?_⟩
  obtain ⟨i, hi, rfl⟩ := List.getElem_of_mem ht
  have e1 := sizes_take T.ts i hi
  have e2 := sizes_le T.ts (i + 1)
  omega

end Go.Proofs.YtnoikdlofkcgaaaGreatDoor
