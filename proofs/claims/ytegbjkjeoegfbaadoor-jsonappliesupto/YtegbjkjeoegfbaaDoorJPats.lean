/-
  What is proved: patches that lie in memory, and what becomes of a tree by all of them, one after the other: one tree, or one error.
  Conditions: as each theorem says.
-/
import Derived.Test.YtegbjkjeoegfbaaDoorJAppK
namespace Go.Proofs.YtegbjkjeoegfbaaDoor
open Go.RowKit Go.Sort

/-- A patch: its kind, its path, its value. -/
abbrev Pch := Int × List Stp × V
/-- Its cells. -/
def pcells (q : Pch) (p : Value) : List Value := [.int .i64 q.1, p, .int .i64 q.2.2.k, .int .i64 q.2.2.n, .string q.2.2.t, .int .i64 q.2.2.o, .int .i64 q.2.2.a]
/-- A slice value that holds patches. -/
def IsPats (w : World) (v : Value) (L : List Pch) : Prop :=
  ∃ a cap, v = .slice a L.length cap ∧ L.length ≤ cap ∧ L.length ≤ 8796093022208 ∧ (L ≠ [] → ∃ b off, a = some ⟨b, off, none⟩ ∧ b < w.heap.size ∧ ∀ i (h : i < L.length), ∃ p, IsSteps w p L[i].2.1 ∧ ∀ j, j < 7 → w.cell? ⟨b, off + i * 7 + j, none⟩ = (pcells L[i] p)[j]?)
theorem IsPats.below {w w' : World} {v : Value} {L : List Pch} (h : IsPats w v L) (hb : Below w.heap.size w w') : IsPats w' v L := by
  obtain ⟨a, cap, rfl, h1, h2, h3⟩ := h
  refine ⟨a, cap, rfl, h1, h2, fun hl => ?_⟩
  obtain ⟨b, off, rfl, h4, h5⟩ := h3 hl
  refine ⟨b, off, rfl, Nat.lt_of_lt_of_le h4 hb.size, fun i hi => ?_⟩
  obtain ⟨p, h6, h7⟩ := h5 i hi
  exact ⟨p, h6.below hb, fun j hj => by rw [hb.cell (p := ⟨b, off + i * 7 + j, none⟩) h4]; exact h7 j hj⟩
/-- All are done. -/
def DoneK : JT → List Pch → JT → Prop
  | T, [], T' => T' = T
  | T, q :: r, T' => ∃ T1, patK q.1 q.2.1 q.2.2 = true ∧ UpdK q.1 T q.2.1 q.2.2 T1 ∧ T1.size ≤ 400 ∧ DoneK T1 r T'
/-- One is not done, by this error. -/
def FailK : JT → List Pch → Int → Prop
  | _, [], _ => False
  | T, q :: r, c => NoK q.1 T q.2.1 q.2.2 c ∨ ∃ T1, patK q.1 q.2.1 q.2.2 = true ∧ UpdK q.1 T q.2.1 q.2.2 T1 ∧ T1.size ≤ 400 ∧ FailK T1 r c
theorem no_done {k : Int} {T T1 : JT} {l : List Stp} {y : V} {c : Int} (h : NoK k T l y c) (h1 : patK k l y = true) (h2 : UpdK k T l y T1) (h3 : T1.size ≤ 400) : False := by
  rcases h with ⟨_, h⟩ | ⟨_, _, h⟩ | ⟨_, _, T2, h, h4⟩
  · rw [h1] at h; cases h
  · exact h _ h2
  · rw [updk_one _ _ _ _ h h2] at h4
    omega
theorem no_one {k : Int} {T : JT} {l : List Stp} {y : V} {c d : Int} (h : NoK k T l y c) (h' : NoK k T l y d) : c = d := by
  rcases h with ⟨e, h⟩ | ⟨e, g, h⟩ | ⟨e, g, T2, h, h4⟩ <;> rcases h' with ⟨e', h'⟩ | ⟨e', g', h'⟩ | ⟨e', g', T3, h', h5⟩
  · omega
  · rw [h] at g'; cases g'
  · rw [h] at g'; cases g'
  · rw [h'] at g; cases g
  · omega
  · exact absurd h' (h _)
  · rw [h'] at g; cases g
  · exact absurd h (h' _)
  · omega
theorem done_one : ∀ (L : List Pch) (T A B : JT), DoneK T L A → DoneK T L B → A = B
  | [], T, A, B, h, h' => by rw [DoneK] at h h'; rw [h, h']
  | q :: r, T, A, B, h, h' => by
    rw [DoneK] at h h'
    obtain ⟨T1, _, h2, _, h4⟩ := h
    obtain ⟨T2, _, g2, _, g4⟩ := h'
    obtain rfl := updk_one _ _ _ _ h2 g2
    exact done_one r T1 A B h4 g4
theorem done_fail : ∀ (L : List Pch) (T A : JT) (c : Int), DoneK T L A → ¬ FailK T L c
  | [], _, _, _, _, h' => by rw [FailK] at h'; exact h'
  | q :: r, T, A, c, h, h' => by
    rw [DoneK] at h
    rw [FailK] at h'
    obtain ⟨T1, h1, h2, h3, h4⟩ := h
    rcases h' with h' | ⟨T2, g1, g2, g3, g4⟩
    · exact no_done h' h1 h2 h3
    · obtain rfl := updk_one _ _ _ _ h2 g2
      exact done_fail r T1 A c h4 g4
theorem fail_one : ∀ (L : List Pch) (T : JT) (c d : Int), FailK T L c → FailK T L d → c = d
  | [], _, _, _, h, _ => by rw [FailK] at h; exact absurd h id
  | q :: r, T, c, d, h, h' => by
    rw [FailK] at h h'
    rcases h with h | ⟨T1, h1, h2, h3, h4⟩ <;> rcases h' with h' | ⟨T2, g1, g2, g3, g4⟩
    · exact no_one h h'
    · exact absurd (no_done h g1 g2 g3) id
    · exact absurd (no_done h' h1 h2 h3) id
    · obtain rfl := updk_one _ _ _ _ h2 g2
      exact fail_one r T1 c d h4 g4
theorem done_snoc {L : List Pch} {j : Nat} (hj : j < L.length) {Tj T1 : JT} (h1 : patK L[j].1 L[j].2.1 L[j].2.2 = true) (h2 : UpdK L[j].1 Tj L[j].2.1 L[j].2.2 T1) (h3 : T1.size ≤ 400) : (∀ T', DoneK T1 (L.drop (j + 1)) T' → DoneK Tj (L.drop j) T') ∧ ∀ c, FailK T1 (L.drop (j + 1)) c → FailK Tj (L.drop j) c := by
  rw [List.drop_eq_getElem_cons hj]
  exact ⟨fun T' h => ⟨T1, h1, h2, h3, h⟩, fun c h => Or.inr ⟨T1, h1, h2, h3, h⟩⟩
theorem fail_here {L : List Pch} {j : Nat} (hj : j < L.length) {Tj : JT} {c : Int} (h : NoK L[j].1 Tj L[j].2.1 L[j].2.2 c) : FailK Tj (L.drop j) c := by
  rw [List.drop_eq_getElem_cons hj]
  exact Or.inl h
/-- The keys of a path that may be are not too long. -/
theorem pat_parts {k : Int} {l : List Stp} {y : V} (h : patK k l y = true) : (1 ≤ k ∧ k ≤ 3) ∧ valB y = true ∧ ∀ s ∈ l, s.1.size ≤ 20 := by
  unfold patK at h
  simp only [Bool.and_eq_true, decide_eq_true_eq, Bool.not_eq_true', List.any_eq_false] at h
  refine ⟨h.1, h.2.1, fun s hs => ?_⟩
  have h5 := h.2.2 s hs
  unfold longB at h5
  simp only [decide_eq_true_eq] at h5
  omega
end Go.Proofs.YtegbjkjeoegfbaaDoor
