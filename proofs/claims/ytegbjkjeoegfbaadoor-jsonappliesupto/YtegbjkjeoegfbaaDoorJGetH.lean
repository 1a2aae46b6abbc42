/-
  What is proved: the function Get of bookref3, called with a tree and a path that lie in memory, answers the tree at the path's end, or that there is none.
  Conditions: both lie in memory.
-/
import Derived.Test.YtegbjkjeoegfbaaDoorJIndex
namespace Go.Proofs.YtegbjkjeoegfbaaDoor
open Go.RowKit Go.Sort

/-- A slice value that holds steps. -/
def IsSteps (w : World) (v : Value) (l : List Stp) : Prop :=
  ∃ a cap, v = .slice a l.length cap ∧ l.length ≤ cap ∧ l.length ≤ 8796093022208 ∧ (l ≠ [] → ∃ b off, a = some ⟨b, off, none⟩ ∧ b < w.heap.size ∧ ∀ i (h : i < l.length), w.cell? ⟨b, off + i * 2, none⟩ = some (.string l[i].1) ∧ w.cell? ⟨b, off + i * 2 + 1, none⟩ = some (.int .i64 l[i].2))
theorem IsSteps.below {w w' : World} {v : Value} {l : List Stp} (h : IsSteps w v l) (hb : Below w.heap.size w w') : IsSteps w' v l := by
  obtain ⟨a, cap, rfl, h1, h2, h3⟩ := h
  refine ⟨a, cap, rfl, h1, h2, fun hl => ?_⟩
  obtain ⟨b, off, rfl, h4, h5⟩ := h3 hl
  exact ⟨b, off, rfl, Nat.lt_of_lt_of_le h4 hb.size, fun i hi => by rw [hb.cell (p := ⟨b, off + i * 2, none⟩) h4, hb.cell (p := ⟨b, off + i * 2 + 1, none⟩) h4]; exact h5 i hi⟩
theorem IsSteps.cells {w w' : World} {a : Option Addr} {n cap : Nat} {l : List Stp} (h : IsSteps w (.slice a n cap) l) (hb : Below w.heap.size w w') (hl : l ≠ []) :
    ∃ b off, a = some ⟨b, off, none⟩ ∧ b < w.heap.size ∧ ∀ i (h : i < l.length), w'.cell? ⟨b, off + i * 2, none⟩ = some (.string l[i].1) ∧ w'.cell? ⟨b, off + i * 2 + 1, none⟩ = some (.int .i64 l[i].2) := by
  obtain ⟨a', cap', e, _, _, h3⟩ := h
  obtain ⟨b, off, e2, h4, h5⟩ := h3 hl
  simp only [Value.slice.injEq] at e
  refine ⟨b, off, e.1.trans e2, h4, fun i hi => ?_⟩
  rw [hb.cell (p := ⟨b, off + i * 2, none⟩) h4, hb.cell (p := ⟨b, off + i * 2 + 1, none⟩) h4]; exact h5 i hi

/-- One step on. -/
def step1 (T : JT) (s : Stp) : Option JT := (kidOf T.x T.ks T.ts.length s).bind fun i => T.ts[i]?
/-- The tree at the end of a path. -/
def getT : JT → List Stp → Option JT
  | T, [] => some T
  | T, s :: r => (step1 T s).bind fun t => getT t r

/-- A tree's own fields, spelled out. -/
structure Node (w : World) (u : TV) (T : JT) where
  a1 : Option Addr
  c1 : Nat
  a2 : Option Addr
  c2 : Nat
  us : List TV
  eq : u = (T.x, .slice a1 T.ks.length c1, .slice a2 T.ts.length c2)
  keys : IsStrs w (.slice a1 T.ks.length c1) T.ks
  len : us.length = T.ts.length
  cap : T.ts.length ≤ c2 ∧ (a2 = none → c2 = 0)
  few : T.ts.length ≤ 8796093022208
  row : RowT w a2 us
  kids : ∀ i (h : i < us.length) (h' : i < T.ts.length), IsT w (tval us[i]) T.ts[i]
theorem IsTG.node {w : World} {u : TV} {T : JT} (h : IsT w (tval u) T) : Nonempty (Node w u T) := by
  obtain ⟨_, uk, a, cap, us, e, hk, hl, hc, hz, hr, hi⟩ := h.inv
  obtain ⟨a1, c1, rfl, h1, h2, h3⟩ := hk
  exact ⟨⟨a1, c1, a, cap, us, tval_inj e, ⟨a1, c1, rfl, h1, h2, h3⟩, hl, hc, hz, hr, hi⟩⟩
theorem IsTG.of_val {w : World} {v : Value} {T : JT} (h : IsT w v T) : ∃ u, v = tval u := by
  obtain ⟨_, uk, a, cap, us, e, _⟩ := h.inv
  exact ⟨_, e⟩

theorem kidOf_lt {T : JT} {s : Stp} {i : Nat} (h : kidOf T.x T.ks T.ts.length s = some i) (hk : T.x.k = 5 → T.ks.length = T.ts.length) : i < T.ts.length := by
  unfold kidOf at h
  by_cases e : keyStep T.x s = true
  · rw [if_pos e] at h
    obtain ⟨h1, _⟩ := lookK_some h
    have h5 : T.x.k = 5 := by
      unfold keyStep at e
      simp only [Bool.and_eq_true, decide_eq_true_eq] at e
      exact e.1
    have := hk h5
    omega
  · rw [if_neg e] at h
    by_cases e2 : atStep T.x T.ts.length s = true ∧ s.2 < T.ts.length
    · rw [if_pos e2] at h
      have := Option.some.inj h
      have h3 := e2.2
      have h4 : 0 ≤ s.2 := by
        have h5 := e2.1
        unfold atStep at h5
        simp only [Bool.and_eq_true, decide_eq_true_eq] at h5
        exact h5.2.2.1
      omega
    · rw [if_neg e2] at h; cases h

theorem formed_all {ts : List JT} (h2 : formedsB ts = true) : ∀ t ∈ ts, formedB t = true := by
  intro t ht
  induction ts with
  | nil => cases ht
  | cons a r ih =>
    rw [formedsB_cons] at h2
    have h3 : formedB a = true ∧ formedsB r = true := by simpa using h2
    rcases List.mem_cons.1 ht with e | e
    · rw [e]; exact h3.1
    · exact ih h3.2 e
theorem formed_node {T : JT} (h : formedB T = true) : (T.x.k = 5 → T.ks.length = T.ts.length ∧ upB [] T.ks = true) ∧ ∀ t ∈ T.ts, formedB t = true := by
  rw [formedB_eq] at h
  have h1 : nodeB T.x T.ks T.ts.length = true ∧ formedsB T.ts = true := by simpa using h
  refine ⟨fun h5 => ?_, formed_all h1.2⟩
  have h2 := h1.1
  unfold nodeB at h2
  rw [if_pos h5] at h2
  simp only [Bool.and_eq_true, decide_eq_true_eq] at h2
  exact h2.2
end Go.Proofs.YtegbjkjeoegfbaaDoor
