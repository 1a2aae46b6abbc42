/-
  What is proved: the function index of bookref3, called with a tree and a step, answers the kid to which it leads, or -1. the function Get of bookref3, called with a tree and a path that lie in memory, answers the tree at the path's end, or that there is none. plain facts on quoted texts: what Quote writes has printed signs alone, and is read as it was.
  Conditions: as each theorem says.
-/
import Derived.Test.YtnoikdlofkcgaaaGreatDoorJFind
import Derived.Lib.Bytealg
import Derived.Lib.IndexLaws
namespace Go.Proofs.YtnoikdlofkcgaaaGreatDoor
open Go.RowKit Go.Sort

/-- A kid's number, or -1. -/
def idxI : Option Nat → Int
  | some i => i
  | none => -1
theorem lookK_hit {k : ByteArray} {r : List ByteArray} {b : List UInt8} (h : k.toList = b) : lookK (k :: r) b = some 0 := by
  unfold lookK
  exact if_pos h
theorem lookK_drop {ks : List ByteArray} {b : List UInt8} (j : Nat) (h : ∀ t (ht : t < ks.length), t < j → ks[t].toList ≠ b) (hj : j ≤ ks.length) : lookK ks b = (lookK (ks.drop j) b).map (· + j) := by
  induction j with
  | zero => simp
  | succ j ih =>
    have e1 := ih (fun t ht hlt => h t ht (by omega)) (by omega)
    rw [e1, List.drop_eq_getElem_cons (show j < ks.length by omega), lookK, if_neg (h j (by omega) (by omega))]
    cases lookK (ks.drop (j + 1)) b with
    | none => rfl
    | some q => simp; omega

end Go.Proofs.YtnoikdlofkcgaaaGreatDoor

namespace Go.Proofs.YtnoikdlofkcgaaaGreatDoor
open Go.RowKit Go.Sort

/-- A slice value that holds steps. -/
def IsSteps (w : World) (v : Value) (l : List Stp) : Prop :=
  ∃ a cap, v = .slice a l.length cap ∧ l.length ≤ cap ∧ l.length ≤ 8796093022208 ∧ (l ≠ [] → ∃ b off, a = some ⟨b, off, none⟩ ∧ b < w.heap.size ∧ ∀ i (h : i < l.length), w.cell? ⟨b, off + i * 2, none⟩ = some (.string l[i].1) ∧ w.cell? ⟨b, off + i * 2 + 1, none⟩ = some (.int .i64 l[i].2))
theorem IsSteps.below {w w' : World} {v : Value} {l : List Stp} (h : IsSteps w v l) (hb : Below w.heap.size w w') : IsSteps w' v l := by
  obtain ⟨a, cap, rfl, h1, h2, h3⟩ := h
  refine ⟨a, cap, rfl, h1, h2, fun hl => ?_⟩
  obtain ⟨b, off, rfl, h4, h5⟩ := h3 hl
  exact ⟨b, off, rfl, Nat.lt_of_lt_of_le h4 hb.size, fun i hi => by rw [hb.cell (p := ⟨b, off + i * 2, none⟩) h4, hb.cell (p := ⟨b, off + i * 2 + 1, none⟩) h4]; exact h5 i hi⟩
theorem IsSteps.cells {w w' : World} {a : Option Addr} {n cap : Nat} {l : List Stp} (h : IsSteps w (.slice a n cap) l) (hb : Below w.heap.size w w') (hl : l ≠ []) :
    ∃ b off, a = some ⟨b, off, none⟩ ∧ b < w.heap.size ∧ ∀ i (h : i < l.length), w'.cell? ⟨b, off + i * 2, none⟩ = some (.string l[i].1) ∧ w'.cell? ⟨b, off + i * 2 + 1, none⟩ = some (.int .i64 l[i].2) := by
  obtain ⟨a', cap', e, _, _, h3⟩ := h
  obtain ⟨b, off, e2, h4, h5⟩ := h3 hl
  simp only [Value.slice.injEq] at e
  refine ⟨b, off, e.1.trans e2, h4, fun i hi => ?_⟩
  rw [hb.cell (p := ⟨b, off + i * 2, none⟩) h4, hb.cell (p := ⟨b, off + i * 2 + 1, none⟩) h4]; exact h5 i hi

/-- One step on. -/
def step1 (T : JT) (s : Stp) : Option JT := (kidOf T.x T.ks T.ts.length s).bind fun i => T.ts[i]?
/-- The tree at the end of a path. -/
def getT : JT → List Stp → Option JT
  | T, [] => some T
  | T, s :: r => (step1 T s).bind fun t => getT t r

/-- A tree's own fields, spelled out. -/
structure Node (w : World) (u : TV) (T : JT) where
  a1 : Option Addr
  c1 : Nat
  a2 : Option Addr
  c2 : Nat
  us : List TV
  eq : u = (T.x, .slice a1 T.ks.length c1, .slice a2 T.ts.length c2)
  keys : IsStrs w (.slice a1 T.ks.length c1) T.ks
  len : us.length = T.ts.length
  cap : T.ts.length ≤ c2 ∧ (a2 = none → c2 = 0)
  few : T.ts.length ≤ 8796093022208
  row : RowT w a2 us
  kids : ∀ i (h : i < us.length) (h' : i < T.ts.length), IsT w (tval us[i]) T.ts[i]
theorem IsTG.node {w : World} {u : TV} {T : JT} (h : IsT w (tval u) T) : Nonempty (Node w u T) := by
  obtain ⟨_, uk, a, cap, us, e, hk, hl, hc, hz, hr, hi⟩ := h.inv
  obtain ⟨a1, c1, rfl, h1, h2, h3⟩ := hk
  exact ⟨⟨a1, c1, a, cap, us, tval_inj e, ⟨a1, c1, rfl, h1, h2, h3⟩, hl, hc, hz, hr, hi⟩⟩
theorem IsTG.of_val {w : World} {v : Value} {T : JT} (h : IsT w v T) : ∃ u, v = tval u := by
  obtain ⟨_, uk, a, cap, us, e, _⟩ := h.inv
  exact ⟨_, e⟩

theorem kidOf_lt {T : JT} {s : Stp} {i : Nat} (h : kidOf T.x T.ks T.ts.length s = some i) (hk : T.x.k = 5 → T.ks.length = T.ts.length) : i < T.ts.length := by
  unfold kidOf at h
  by_cases e : keyStep T.x s = true
  · rw [if_pos e] at h
    obtain ⟨h1, _⟩ := lookK_some h
    have h5 : T.x.k = 5 := by
      unfold keyStep at e
      simp only [Bool.and_eq_true, decide_eq_true_eq] at e
      exact e.1
    have := hk h5
    omega
  · rw [if_neg e] at h
    by_cases e2 : atStep T.x T.ts.length s = true ∧ s.2 < T.ts.length
    · rw [if_pos e2] at h
      have := Option.some.inj h
      have h3 := e2.2
      have h4 : 0 ≤ s.2 := by
        have h5 := e2.1
        unfold atStep at h5
        simp only [Bool.and_eq_true, decide_eq_true_eq] at h5
        exact h5.2.2.1
      omega
    · rw [if_neg e2] at h; cases h

theorem formed_all {ts : List JT} (h2 : formedsB ts = true) : ∀ t ∈ ts, formedB t = true := by
  intro t ht
  induction ts with
  | nil => cases ht
  | cons a r ih =>
    rw [formedsB_cons] at h2
    have h3 : formedB a = true ∧ formedsB r = true := by simpa using h2
    rcases List.mem_cons.1 ht with e | e
    · rw [e]; exact h3.1
    · exact ih h3.2 e
theorem formed_node {T : JT} (h : formedB T = true) : (T.x.k = 5 → T.ks.length = T.ts.length ∧ upB [] T.ks = true) ∧ ∀ t ∈ T.ts, formedB t = true := by
  rw [formedB_eq] at h
  have h1 : nodeB T.x T.ks T.ts.length = true ∧ formedsB T.ts = true := by simpa using h
  refine ⟨fun h5 => ?_, formed_all h1.2⟩
  have h2 := h1.1
  unfold nodeB at h2
  rw [if_pos h5] at h2
  simp only [Bool.and_eq_true, decide_eq_true_eq] at h2
  exact h2.2
end Go.Proofs.YtnoikdlofkcgaaaGreatDoor

namespace Go.Proofs.YtnoikdlofkcgaaaGreatDoor

/-- The sixteen digits. -/
def hexTab : List UInt8 := [48, 49, 50, 51, 52, 53, 54, 55, 56, 57, 97, 98, 99, 100, 101, 102]
def hexd (n : Nat) : UInt8 := hexTab.getD n 0
/-- Is a byte written by its digits? -/
def hexB (c : UInt8) : Bool := decide (c.toNat < 32) || decide (126 < c.toNat)
/-- Is a byte written with a sign ahead? -/
def maskB (c : UInt8) : Bool := decide (c.toNat = 34) || decide (c.toNat = 92)
/-- A byte, as it is written. -/
def esc (c : UInt8) : List UInt8 := if hexB c = true then [92, hexd (c.toNat / 16), hexd (c.toNat % 16)] else if maskB c = true then [92, c] else [c]
def escs : List UInt8 → List UInt8
  | [] => []
  | c :: l => esc c ++ escs l
/-- A text in quotes. -/
def quote (l : List UInt8) : List UInt8 := 34 :: (escs l ++ [34])

theorem escs_append (l r : List UInt8) : escs (l ++ r) = escs l ++ escs r := by
  induction l with
  | nil => rfl
  | cons c l ih => simp [escs, ih]

theorem esc_len (c : UInt8) : 1 ≤ (esc c).length ∧ (esc c).length ≤ 3 := by
  unfold esc
  split
  · simp
  · split <;> simp

theorem escs_len (l : List UInt8) : (escs l).length ≤ 3 * l.length := by
  induction l with
  | nil => simp [escs]
  | cons c l ih => have := esc_len c; simp [escs]; omega

theorem hexd_print : ∀ n : Fin 16, 32 ≤ (hexd n.val).toNat ∧ (hexd n.val).toNat ≤ 126 ∧ maskB (hexd n.val) = false ∧ hexTab.idxOf (hexd n.val) = n.val := by decide

theorem esc_print (c : UInt8) : ∀ b ∈ esc c, 32 ≤ b.toNat ∧ b.toNat ≤ 126 := by
  have hc := c.toNat_lt
  have h1 := hexd_print ⟨c.toNat / 16, by omega⟩
  have h2 := hexd_print ⟨c.toNat % 16, by omega⟩
  intro b hb
  unfold esc at hb
  split at hb
  · simp at hb
    rcases hb with rfl | rfl | rfl
    · decide
    · exact ⟨h1.1, h1.2.1⟩
    · exact ⟨h2.1, h2.2.1⟩
  · rename_i hx
    simp [hexB] at hx
    split at hb
    · simp at hb
      rcases hb with rfl | rfl
      · decide
      · omega
    · simp at hb
      subst hb
      omega

theorem quote_print (l : List UInt8) : ∀ b ∈ quote l, 32 ≤ b.toNat ∧ b.toNat ≤ 126 := by
  have h : ∀ l : List UInt8, ∀ b ∈ escs l, 32 ≤ b.toNat ∧ b.toNat ≤ 126 := by
    intro l
    induction l with
    | nil => simp [escs]
    | cons c l ih =>
      intro b hb
      simp only [escs, List.mem_append] at hb
      exact hb.elim (esc_print c b) (ih b)
  intro b hb
  simp only [quote, List.mem_cons, List.mem_append, List.not_mem_nil, or_false] at hb
  rcases hb with rfl | hb | rfl
  · decide
  · exact h l b hb
  · decide

/-- The place of a digit; -1: it is none. -/
def hexv (c : UInt8) : Int := Lib.indexByte hexTab c

/-- What the first signs stand for, and how many they are; 0: nothing. -/
def first : List UInt8 → UInt8 × Nat
  | [] => (0, 0)
  | c :: r =>
    if hexB c = false ∧ maskB c = false then (c, 1)
    else if c.toNat ≠ 92 then (0, 0)
    else match r with
      | [] => (0, 0)
      | d :: r' =>
        if maskB d = true then (d, 2)
        else match r' with
          | [] => (0, 0)
          | e :: _ => if 0 ≤ hexv d ∧ 0 ≤ hexv e ∧ hexB (UInt8.ofNat (hexv d * 16 + hexv e).toNat) = true then (UInt8.ofNat (hexv d * 16 + hexv e).toNat, 3) else (0, 0)

theorem first_p {c : UInt8} {r : List UInt8} (hp : hexB c = false ∧ maskB c = false) : first (c :: r) = (c, 1) := by
  unfold first
  dsimp only
  rw [if_pos hp]
theorem first_o {c : UInt8} {r : List UInt8} (hp : ¬ (hexB c = false ∧ maskB c = false)) (h : ¬ c.toNat = 92) : first (c :: r) = (0, 0) := by
  unfold first
  dsimp only
  rw [if_neg hp, if_pos h]
theorem first_1 {c : UInt8} (hp : ¬ (hexB c = false ∧ maskB c = false)) (h : c.toNat = 92) : first [c] = (0, 0) := by
  unfold first
  dsimp only
  rw [if_neg hp, if_neg (by simpa using h)]
theorem first_m {c d : UInt8} {r : List UInt8} (hp : ¬ (hexB c = false ∧ maskB c = false)) (h : c.toNat = 92) (hk : maskB d = true) : first (c :: d :: r) = (d, 2) := by
  unfold first
  dsimp only
  rw [if_neg hp, if_neg (by simpa using h)]
  simp only [hk, if_true]
theorem first_2 {c d : UInt8} (hp : ¬ (hexB c = false ∧ maskB c = false)) (h : c.toNat = 92) (hk : maskB d = false) : first [c, d] = (0, 0) := by
  unfold first
  dsimp only
  rw [if_neg hp, if_neg (by simpa using h)]
  simp only [hk, Bool.false_eq_true, if_false]
theorem first_3 {c d e : UInt8} {r : List UInt8} (hp : ¬ (hexB c = false ∧ maskB c = false)) (h : c.toNat = 92) (hk : maskB d = false) :
    first (c :: d :: e :: r) = if 0 ≤ hexv d ∧ 0 ≤ hexv e ∧ hexB (UInt8.ofNat (hexv d * 16 + hexv e).toNat) = true then (UInt8.ofNat (hexv d * 16 + hexv e).toNat, 3) else (0, 0) := by
  unfold first
  dsimp only
  rw [if_neg hp, if_neg (by simpa using h)]
  simp only [hk, Bool.false_eq_true, if_false]

/-- The reading. -/
def run : Nat → List UInt8 → List UInt8 → Nat → Option (List UInt8 × Nat)
  | 0, _, _, _ => none
  | _ + 1, _, [], _ => none
  | f + 1, acc, c :: r, k => if c.toNat = 34 then some (acc, k + 1) else if (first (c :: r)).2 = 0 then none else run f (acc ++ [(first (c :: r)).1]) ((c :: r).drop (first (c :: r)).2) (k + (first (c :: r)).2)

/-- What a text that begins with a quoted one stands for, and how many bytes that has. -/
def unq : List UInt8 → Option (List UInt8 × Nat)
  | [] => none
  | c :: r => if c.toNat = 34 then run (r.length + 1) [] r 1 else none

theorem hexv_hexd (n : Nat) (h : n < 16) : hexv (hexd n) = n := by
  have h1 : ∀ n : Fin 16, hexv (hexd n.val) = (n.val : Int) := by decide
  exact h1 ⟨n, h⟩

theorem first_esc (c : UInt8) (r : List UInt8) : first (esc c ++ r) = (c, (esc c).length) := by
  have hc := c.toNat_lt
  have h1 := hexd_print ⟨c.toNat / 16, by omega⟩
  have h2 := hexd_print ⟨c.toNat % 16, by omega⟩
  by_cases hx : hexB c = true
  · have e : esc c = [92, hexd (c.toNat / 16), hexd (c.toNat % 16)] := by simp [esc, hx]
    have m : maskB 92 = true := by decide
    have v : UInt8.ofNat (hexv (hexd (c.toNat / 16)) * 16 + hexv (hexd (c.toNat % 16))).toNat = c := by
      rw [hexv_hexd _ (by omega), hexv_hexd _ (by omega)]
      have : ((c.toNat / 16 : Nat) * 16 + (c.toNat % 16 : Nat) : Int).toNat = c.toNat := by omega
      rw [this]
      simp
    rw [e]
    simp only [List.cons_append, List.nil_append, first, m, h1.2.2.1, v, hx]
    rw [hexv_hexd _ (by omega), hexv_hexd _ (by omega)]
    simp
    omega
  · have hx' : hexB c = false := by simpa using hx
    by_cases hm : maskB c = true
    · have e : esc c = [92, c] := by simp [esc, hx', hm]
      have m : maskB 92 = true := by decide
      rw [e]
      simp [first, m, hm]
    · have hm' : maskB c = false := by simpa using hm
      have e : esc c = [c] := by simp [esc, hx', hm']
      rw [e]
      simp [first, hx', hm']

theorem esc_head (c : UInt8) : ∃ b r, esc c = b :: r ∧ b.toNat ≠ 34 := by
  unfold esc
  split
  · exact ⟨92, _, rfl, by decide⟩
  · split
    · exact ⟨92, _, rfl, by decide⟩
    · rename_i h1 h2
      refine ⟨c, [], rfl, ?_⟩
      simp [maskB] at h2
      exact h2.1

theorem run_escs : ∀ (l acc more : List UInt8) (f k : Nat), l.length < f → run f acc (escs l ++ 34 :: more) k = some (acc ++ l, k + (escs l).length + 1)
  | [], acc, more, 0, k, h => by simp at h
  | [], acc, more, f + 1, k, h => by simp [escs, run]
  | c :: l, acc, more, 0, k, h => by simp at h
  | c :: l, acc, more, f + 1, k, h => by
    obtain ⟨b, r, e, hb⟩ := esc_head c
    have hf := first_esc c (escs l ++ 34 :: more)
    have hl := esc_len c
    have ee : escs (c :: l) ++ 34 :: more = b :: (r ++ (escs l ++ 34 :: more)) := by simp [escs, e]
    have ef : b :: (r ++ (escs l ++ 34 :: more)) = esc c ++ (escs l ++ 34 :: more) := by simp [e]
    rw [ee, run, if_neg hb, ef, hf]
    simp only
    rw [if_neg (by omega), List.drop_left, run_escs l _ _ f _ (by simpa using h)]
    simp [escs]
    omega

theorem unq_quote (l more : List UInt8) : unq (quote l ++ more) = some (l, (quote l).length) := by
  have e : quote l ++ more = 34 :: (escs l ++ 34 :: more) := by simp [quote]
  rw [e, unq, if_pos (by decide), run_escs]
  · simp [quote]
    omega
  · have : ∀ l : List UInt8, l.length ≤ (escs l).length := by
      intro l
      induction l with
      | nil => simp
      | cons c l ih => have := esc_len c; simp [escs]; omega
    have := this l
    simp
    omega
end Go.Proofs.YtnoikdlofkcgaaaGreatDoor
