/-
  What is proved: the function Get of bookref3, called with a tree and a path that lie in memory, answers the tree at the path's end, or that there is none. plain facts on quoted texts: what Quote writes has printed signs alone, and is read as it was. package value's Quote, called with any text that is not too long, returns it in quotes, and nothing that was there has turned. the functions hex and Quote of package bookref1, called with any text that is not too long, return it in quotes, and nothing that was there has turned.
  Conditions: as each theorem says.
-/
import Derived.Test.YtnmdhbejjjmdeaaGreatDoorP04
import Derived.Lib.Bytealg
import Derived.Lib.IndexLaws
import Derived.Test.YtnmdhbejjjmdeaaGreatDoorProg
import Derived.Test.YtnmdhbejjjmdeaaGreatDoorShelf
import Derived.WalkKit
import Derived.WalkSpells
import Derived.WalkLawsBesides
import Derived.Handy
import Derived.Deep.RegionWith
import Derived.Deep.RegionHeld3
import Derived.Deep.QuietTactic
import Derived.BigQuiet
import Derived.Lib.Builder
namespace Go.Proofs.YtnmdhbejjjmdeaaGreatDoor
open Go.RowKit Go.Sort

/-- A slice value that holds steps. -/
def IsSteps (w : World) (v : Value) (l : List Stp) : Prop :=
  ∃ a cap, v = .slice a l.length cap ∧ l.length ≤ cap ∧ l.length ≤ 8796093022208 ∧ (l ≠ [] → ∃ b off, a = some ⟨b, off, none⟩ ∧ b < w.heap.size ∧ ∀ i (h : i < l.length), w.cell? ⟨b, off + i * 2, none⟩ = some (.string l[i].1) ∧ w.cell? ⟨b, off + i * 2 + 1, none⟩ = some (.int .i64 l[i].2))
theorem IsSteps.below {w w' : World} {v : Value} {l : List Stp} (h : IsSteps w v l) (hb : Below w.heap.size w w') : IsSteps w' v l := by
  obtain ⟨a, cap, rfl, h1, h2, h3⟩ := h
  refine ⟨a, cap, rfl, h1, h2, fun hl => ?_⟩
  obtain ⟨b, off, rfl, h4, h5⟩ := h3 hl
  exact ⟨b, off, rfl, Nat.lt_of_lt_of_le h4 hb.size, fun i hi => by rw [hb.cell (p := ⟨b, off + i * 2, none⟩) h4, hb.cell (p := ⟨b, off + i * 2 + 1, none⟩) h4]; exact h5 i hi⟩
theorem IsSteps.cells {w w' : World} {a : Option Addr} {n cap : Nat} {l : List Stp} (h : IsSteps w (.slice a n cap) l) (hb : Below w.heap.size w w') (hl : l ≠ []) :
    ∃ b off, a = some ⟨b, off, none⟩ ∧ b < w.heap.size ∧ ∀ i (h : i < l.length), w'.cell? ⟨b, off + i * 2, none⟩ = some (.string l[i].1) ∧ w'.cell? ⟨b, off + i * 2 + 1, none⟩ = some (.int .i64 l[i].2) := by
  obtain ⟨a', cap', e, _, _, h3⟩ := h
  obtain ⟨b, off, e2, h4, h5⟩ := h3 hl
  simp only [Value.slice.injEq] at e
  refine ⟨b, off, e.1.trans e2, h4, fun i hi => ?_⟩
  rw [hb.cell (p := ⟨b, off + i * 2, none⟩) h4, hb.cell (p := ⟨b, off + i * 2 + 1, none⟩) h4]; exact h5 i hi

/-- One step on. -/
def step1 (T : JT) (s : Stp) : Option JT := (kidOf T.x T.ks T.ts.length s).bind fun i => T.ts[i]?
/-- The tree at the end of a path. -/
def getT : JT → List Stp → Option JT
  | T, [] => some T
  | T, s :: r => (step1 T s).bind fun t => getT t r

/-- A tree's own fields, spelled out. -/
structure Node (w : World) (u : TV) (T : JT) where
  a1 : Option Addr
  c1 : Nat
  a2 : Option Addr
  c2 : Nat
  us : List TV
  eq : u = (T.x, .slice a1 T.ks.length c1, .slice a2 T.ts.length c2)
  keys : IsStrs w (.slice a1 T.ks.length c1) T.ks
  len : us.length = T.ts.length
  cap : T.ts.length ≤ c2 ∧ (a2 = none → c2 = 0)
  few : T.ts.length ≤ 8796093022208
  row : RowT w a2 us
  kids : ∀ i (h : i < us.length) (h' : i < T.ts.length), IsT w (tval us[i]) T.ts[i]
theorem IsTG.node {w : World} {u : TV} {T : JT} (h : IsT w (tval u) T) : Nonempty (Node w u T) := by
  obtain ⟨_, uk, a, cap, us, e, hk, hl, hc, hz, hr, hi⟩ := h.inv
  obtain ⟨a1, c1, rfl, h1, h2, h3⟩ := hk
  exact ⟨⟨a1, c1, a, cap, us, tval_inj e, ⟨a1, c1, rfl, h1, h2, h3⟩, hl, hc, hz, hr, hi⟩⟩
theorem IsTG.of_val {w : World} {v : Value} {T : JT} (h : IsT w v T) : ∃ u, v = tval u := by
  obtain ⟨_, uk, a, cap, us, e, _⟩ := h.inv
  exact ⟨_, e⟩

theorem kidOf_lt {T : JT} {s : Stp} {i : Nat} (h : kidOf T.x T.ks T.ts.length s = some i) (hk : T.x.k = 5 → T.ks.length = T.ts.length) : i < T.ts.length := by
  unfold kidOf at h
  by_cases e : keyStep T.x s = true
  · rw [if_pos e] at h
    obtain ⟨h1, _⟩ := lookK_some h
    have h5 : T.x.k = 5 := by
      unfold keyStep at e
      simp only [Bool.and_eq_true, decide_eq_true_eq] at e
      exact e.1
    have := hk h5
    omega
  · rw [if_neg e] at h
    by_cases e2 : atStep T.x T.ts.length s = true ∧ s.2 < T.ts.length
    · rw [if_pos e2] at h
      have := Option.some.inj h
      have h3 := e2.2
      have h4 : 0 ≤ s.2 := by
        have h5 := e2.1
        unfold atStep at h5
        simp only [Bool.and_eq_true, decide_eq_true_eq] at h5
        exact h5.2.2.1
      omega
    · rw [if_neg e2] at h; cases h

theorem formed_all {ts : List JT} (h2 : formedsB ts = true) : ∀ t ∈ ts, formedB t = true := by
  intro t ht
  induction ts with
  | nil => cases ht
  | cons a r ih =>
    rw [formedsB_cons] at h2
    have h3 : formedB a = true ∧ formedsB r = true := by simpa using h2
    rcases List.mem_cons.1 ht with e | e
    · rw [e]; exact h3.1
    · exact ih h3.2 e
theorem formed_node {T : JT} (h : formedB T = true) : (T.x.k = 5 → T.ks.length = T.ts.length ∧ upB [] T.ks = true) ∧ ∀ t ∈ T.ts, formedB t = true := by
  rw [formedB_eq] at h
  have h1 : nodeB T.x T.ks T.ts.length = true ∧ formedsB T.ts = true := by simpa using h
  refine ⟨fun h5 => ?_, formed_all h1.2⟩
  have h2 := h1.1
  unfold nodeB at h2
  rw [if_pos h5] at h2
  simp only [Bool.and_eq_true, decide_eq_true_eq] at h2
  exact h2.2
end Go.Proofs.YtnmdhbejjjmdeaaGreatDoor

namespace Go.Proofs.YtnmdhbejjjmdeaaGreatDoor

/-- The sixteen digits. -/
def hexTab : List UInt8 := [48, 49, 50, 51, 52, 53, 54, 55, 56, 57, 97, 98, 99, 100, 101, 102]
def hexd (n : Nat) : UInt8 := hexTab.getD n 0
/-- Is a byte written by its digits? -/
def hexB (c : UInt8) : Bool := decide (c.toNat < 32) || decide (126 < c.toNat)
/-- Is a byte written with a sign ahead? -/
def maskB (c : UInt8) : Bool := decide (c.toNat = 34) || decide (c.toNat = 92)
/-- A byte, as it is written. -/
def esc (c : UInt8) : List UInt8 := if hexB c = true then [92, hexd (c.toNat / 16), hexd (c.toNat % 16)] else if maskB c = true then [92, c] else [c]
def escs : List UInt8 → List UInt8
  | [] => []
  | c :: l => esc c ++ escs l
/-- A text in quotes. -/
def quote (l : List UInt8) : List UInt8 := 34 :: (escs l ++ [34])

theorem escs_append (l r : List UInt8) : escs (l ++ r) = escs l ++ escs r := by
  induction l with
  | nil => rfl
  | cons c l ih => simp [escs, ih]

theorem esc_len (c : UInt8) : 1 ≤ (esc c).length ∧ (esc c).length ≤ 3 := by
  unfold esc
  split
  · simp
  · split <;> simp

theorem escs_len (l : List UInt8) : (escs l).length ≤ 3 * l.length := by
  induction l with
  | nil => simp [escs]
  | cons c l ih => have := esc_len c; simp [escs]; omega

theorem hexd_print : ∀ n : Fin 16, 32 ≤ (hexd n.val).toNat ∧ (hexd n.val).toNat ≤ 126 ∧ maskB (hexd n.val) = false ∧ hexTab.idxOf (hexd n.val) = n.val := by decide

theorem esc_print (c : UInt8) : ∀ b ∈ esc c, 32 ≤ b.toNat ∧ b.toNat ≤ 126 := by
  have hc := c.toNat_lt
  have h1 := hexd_print ⟨c.toNat / 16, by omega⟩
  have h2 := hexd_print ⟨c.toNat % 16, by omega⟩
  intro b hb
  unfold esc at hb
  split at hb
  · simp at hb
    rcases hb with rfl | rfl | rfl
    · decide
    · exact ⟨h1.1, h1.2.1⟩
    · exact ⟨h2.1, h2.2.1⟩
  · rename_i hx
    simp [hexB] at hx
    split at hb
    · simp at hb
      rcases hb with rfl | rfl
      · decide
      · omega
    · simp at hb
      subst hb
      omega

theorem quote_print (l : List UInt8) : ∀ b ∈ quote l, 32 ≤ b.toNat ∧ b.toNat ≤ 126 := by
  have h : ∀ l : List UInt8, ∀ b ∈ escs l, 32 ≤ b.toNat ∧ b.toNat ≤ 126 := by
    intro l
    induction l with
    | nil => simp [escs]
    | cons c l ih =>
      intro b hb
      simp only [escs, List.mem_append] at hb
      exact hb.elim (esc_print c b) (ih b)
  intro b hb
  simp only [quote, List.mem_cons, List.mem_append, List.not_mem_nil, or_false] at hb
  rcases hb with rfl | hb | rfl
  · decide
  · exact h l b hb
  · decide

/-- The place of a digit; -1: it is none. -/
def hexv (c : UInt8) : Int := Lib.indexByte hexTab c

/-- What the first signs stand for, and how many they are; 0: nothing. -/
def first : List UInt8 → UInt8 × Nat
  | [] => (0, 0)
  | c :: r =>
    if hexB c = false ∧ maskB c = false then (c, 1)
    else if c.toNat ≠ 92 then (0, 0)
    else match r with
      | [] => (0, 0)
      | d :: r' =>
        if maskB d = true then (d, 2)
        else match r' with
          | [] => (0, 0)
          | e :: _ => if 0 ≤ hexv d ∧ 0 ≤ hexv e ∧ hexB (UInt8.ofNat (hexv d * 16 + hexv e).toNat) = true then (UInt8.ofNat (hexv d * 16 + hexv e).toNat, 3) else (0, 0)

theorem first_p {c : UInt8} {r : List UInt8} (hp : hexB c = false ∧ maskB c = false) : first (c :: r) = (c, 1) := by
  unfold first
  dsimp only
  rw [if_pos hp]
theorem first_o {c : UInt8} {r : List UInt8} (hp : ¬ (hexB c = false ∧ maskB c = false)) (h : ¬ c.toNat = 92) : first (c :: r) = (0, 0) := by
  unfold first
  dsimp only
  rw [if_neg hp, if_pos h]
theorem first_1 {c : UInt8} (hp : ¬ (hexB c = false ∧ maskB c = false)) (h : c.toNat = 92) : first [c] = (0, 0) := by
  unfold first
  dsimp only
  rw [if_neg hp, if_neg (by simpa using h)]
theorem first_m {c d : UInt8} {r : List UInt8} (hp : ¬ (hexB c = false ∧ maskB c = false)) (h : c.toNat = 92) (hk : maskB d = true) : first (c :: d :: r) = (d, 2) := by
  unfold first
  dsimp only
  rw [if_neg hp, if_neg (by simpa using h)]
  simp only [hk, if_true]
theorem first_2 {c d : UInt8} (hp : ¬ (hexB c = false ∧ maskB c = false)) (h : c.toNat = 92) (hk : maskB d = false) : first [c, d] = (0, 0) := by
  unfold first
  dsimp only
  rw [if_neg hp, if_neg (by simpa using h)]
  simp only [hk, Bool.false_eq_true, if_false]
theorem first_3 {c d e : UInt8} {r : List UInt8} (hp : ¬ (hexB c = false ∧ maskB c = false)) (h : c.toNat = 92) (hk : maskB d = false) :
    first (c :: d :: e :: r) = if 0 ≤ hexv d ∧ 0 ≤ hexv e ∧ hexB (UInt8.ofNat (hexv d * 16 + hexv e).toNat) = true then (UInt8.ofNat (hexv d * 16 + hexv e).toNat, 3) else (0, 0) := by
  unfold first
  dsimp only
  rw [if_neg hp, if_neg (by simpa using h)]
  simp only [hk, Bool.false_eq_true, if_false]

/-- The reading. -/
def run : Nat → List UInt8 → List UInt8 → Nat → Option (List UInt8 × Nat)
  | 0, _, _, _ => none
  | _ + 1, _, [], _ => none
  | f + 1, acc, c :: r, k => if c.toNat = 34 then some (acc, k + 1) else if (first (c :: r)).2 = 0 then none else run f (acc ++ [(first (c :: r)).1]) ((c :: r).drop (first (c :: r)).2) (k + (first (c :: r)).2)

/-- What a text that begins with a quoted one stands for, and how many bytes that has. -/
def unq : List UInt8 → Option (List UInt8 × Nat)
  | [] => none
  | c :: r => if c.toNat = 34 then run (r.length + 1) [] r 1 else none

theorem hexv_hexd (n : Nat) (h : n < 16) : hexv (hexd n) = n := by
  have h1 : ∀ n : Fin 16, hexv (hexd n.val) = (n.val : Int) := by decide
  exact h1 ⟨n, h⟩

theorem first_esc (c : UInt8) (r : List UInt8) : first (esc c ++ r) = (c, (esc c).length) := by
  have hc := c.toNat_lt
  have h1 := hexd_print ⟨c.toNat / 16, by omega⟩
  have h2 := hexd_print ⟨c.toNat % 16, by omega⟩
  by_cases hx : hexB c = true
  · have e : esc c = [92, hexd (c.toNat / 16), hexd (c.toNat % 16)] := by simp [esc, hx]
    have m : maskB 92 = true := by decide
    have v : UInt8.ofNat (hexv (hexd (c.toNat / 16)) * 16 + hexv (hexd (c.toNat % 16))).toNat = c := by
      rw [hexv_hexd _ (by omega), hexv_hexd _ (by omega)]
      have : ((c.toNat / 16 : Nat) * 16 + (c.toNat % 16 : Nat) : Int).toNat = c.toNat := by omega
      rw [this]
      simp
    rw [e]
    simp only [List.cons_append, List.nil_append, first, m, h1.2.2.1, v, hx]
    rw [hexv_hexd _ (by omega), hexv_hexd _ (by omega)]
    simp
    omega
  · have hx' : hexB c = false := by simpa using hx
    by_cases hm : maskB c = true
    · have e : esc c = [92, c] := by simp [esc, hx', hm]
      have m : maskB 92 = true := by decide
      rw [e]
      simp [first, m, hm]
    · have hm' : maskB c = false := by simpa using hm
      have e : esc c = [c] := by simp [esc, hx', hm']
      rw [e]
      simp [first, hx', hm']

theorem esc_head (c : UInt8) : ∃ b r, esc c = b :: r ∧ b.toNat ≠ 34 := by
  unfold esc
  split
  · exact ⟨92, _, rfl, by decide⟩
  · split
    · exact ⟨92, _, rfl, by decide⟩
    · rename_i h1 h2
      refine ⟨c, [], rfl, ?_⟩
      simp [maskB] at h2
      exact h2.1

theorem run_escs : ∀ (l acc more : List UInt8) (f k : Nat), l.length < f → run f acc (escs l ++ 34 :: more) k = some (acc ++ l, k + (escs l).length + 1)
  | [], acc, more, 0, k, h => by simp at h
  | [], acc, more, f + 1, k, h => by simp [escs, run]
  | c :: l, acc, more, 0, k, h => by simp at h
  | c :: l, acc, more, f + 1, k, h => by
    obtain ⟨b, r, e, hb⟩ := esc_head c
    have hf := first_esc c (escs l ++ 34 :: more)
    have hl := esc_len c
    have ee : escs (c :: l) ++ 34 :: more = b :: (r ++ (escs l ++ 34 :: more)) := by simp [escs, e]
    have ef : b :: (r ++ (escs l ++ 34 :: more)) = esc c ++ (escs l ++ 34 :: more) := by simp [e]
    rw [ee, run, if_neg hb, ef, hf]
    simp only
    rw [if_neg (by omega), List.drop_left, run_escs l _ _ f _ (by simpa using h)]
    simp [escs]
    omega

theorem unq_quote (l more : List UInt8) : unq (quote l ++ more) = some (l, (quote l).length) := by
  have e : quote l ++ more = 34 :: (escs l ++ 34 :: more) := by simp [quote]
  rw [e, unq, if_pos (by decide), run_escs]
  · simp [quote]
    omega
  · have : ∀ l : List UInt8, l.length ≤ (escs l).length := by
      intro l
      induction l with
      | nil => simp
      | cons c l ih => have := esc_len c; simp [escs]; omega
    have := this l
    simp
    omega
end Go.Proofs.YtnmdhbejjjmdeaaGreatDoor

namespace Go.Proofs.YtnmdhbejjjmdeaaGreatDoor
open Go.RowKit

set_option maxRecDepth 100000 in
set_option maxHeartbeats 400000 in
theorem isHex_any (c : UInt8) (w : World) :
    Calls Tryz.prog 73 #[.int .u8 c.toNat] w fun e w' => e = .returned (.bool (hexB c)) ∧ w' = w := by
  unfold hexB
  generalize c.toNat = n
  by_cases h1 : n < 32
  · have g1 : (n : Int) < 32 := by omega
    go_enter Tryz.func73, Tryz.ntmps73
    go_wp2
    go_ret
    exact ⟨by first | (simp; done) | (simp; omega), rfl⟩
  · have g1 : ¬ (n : Int) < 32 := by omega
    by_cases h2 : 126 < n
    · have g2 : (126 : Int) < n := by omega
      go_enter Tryz.func73, Tryz.ntmps73
      go_wp2
      go_ret
      exact ⟨by first | (simp; done) | (simp; omega), rfl⟩
    · have g2 : ¬ (126 : Int) < n := by omega
      go_enter Tryz.func73, Tryz.ntmps73
      go_wp2
      go_ret
      exact ⟨by first | (simp; done) | (simp; omega), rfl⟩

set_option maxRecDepth 100000 in
set_option maxHeartbeats 400000 in
theorem isMasked_any (c : UInt8) (w : World) :
    Calls Tryz.prog 74 #[.int .u8 c.toNat] w fun e w' => e = .returned (.bool (maskB c)) ∧ w' = w := by
  unfold maskB
  generalize c.toNat = n
  by_cases h1 : n = 34
  · subst h1
    go_enter Tryz.func74, Tryz.ntmps74
    go_wp2
    go_ret
    exact ⟨by simp, rfl⟩
  · by_cases h2 : n = 92
    · subst h2
      go_enter Tryz.func74, Tryz.ntmps74
      go_wp2
      go_ret
      exact ⟨by simp, rfl⟩
    · have g1 : ¬ (n : Int) = 34 := by omega
      have g2 : ¬ (n : Int) = 92 := by omega
      have r : (decide (n = 34) || decide (n = 92)) = false := by simp [h1, h2]
      rw [r]
      go_enter Tryz.func74, Tryz.ntmps74
      go_wp2
      go_ret
      exact ⟨by simp; omega, rfl⟩

/-- The builder holds these bytes. -/
abbrev Holds (B b : Nat) (l : List UInt8) (w : World) : Prop := Lib.BuilderAt 96 5 B b (.pointer (some ⟨b, 0, none⟩)) (Lib.byteCells l) w

theorem write_any (B b : Nat) (l : List UInt8) (c : UInt8) (w : World) (h : Lib.IsBuilder 96 5 B b (Lib.byteCells l) w) (hl : l.length ≤ 8388608) (hB : B ≤ w.heap.size) :
    Calls Tryz.prog 58 #[.pointer (some ⟨b, 0, none⟩), .int .u8 c.toNat] w fun e w' => e = .returned .nilIface ∧ Holds B b (l ++ [c]) w' ∧ Below B w w' := by
  refine (Tryz.writeByte B b (Lib.byteCells l) c.toNat w h (by rw [Lib.byteCells_length]; omega) hB).mono ?_
  rintro e w' ⟨rfl, h1, h2⟩
  exact ⟨rfl, by simpa [Holds, Lib.byteCells] using h1, h2⟩

/-- The sixteen digits, as a text. -/
def hexS : ByteArray := ⟨#[48, 49, 50, 51, 52, 53, 54, 55, 56, 57, 97, 98, 99, 100, 101, 102]⟩
theorem hexS_size : hexS.size = 16 := rfl
theorem hex_at (n : Nat) (h : n < hexS.size) : hexS[n] = hexd n := by
  have h1 : ∀ n : Fin 16, hexS[n.val]'(by rw [hexS_size]; exact n.isLt) = hexd n.val := by decide
  exact h1 ⟨n, h⟩

theorem hex_high (c : UInt8) : ∀ h, (⟨#[48, 49, 50, 51, 52, 53, 54, 55, 56, 57, 97, 98, 99, 100, 101, 102]⟩ : ByteArray)[c.toNat / 16]'h = hexd (c.toNat / 16) := fun h => hex_at _ h
theorem hex_low (c : UInt8) : ∀ h, (⟨#[48, 49, 50, 51, 52, 53, 54, 55, 56, 57, 97, 98, 99, 100, 101, 102]⟩ : ByteArray)[c.toNat % 16]'h = hexd (c.toNat % 16) := fun h => hex_at _ h

set_option maxRecDepth 100000 in
set_option maxHeartbeats 1000000 in
theorem writeQuoted_any (B b : Nat) (l : List UInt8) (c : UInt8) (w : World) (h : Holds B b l w) (hl : l.length ≤ 8000000) (hB : B ≤ w.heap.size) :
    Calls Tryz.prog 87 #[.pointer (some ⟨b, 0, none⟩), .int .u8 c.toNat] w fun e w' => e = .returned (.tuple #[]) ∧ Holds B b (l ++ esc c) w' ∧ Below B w w' := by
  unfold esc
  have hi := isHex_any c
  have hm := isMasked_any c
  cases hx : hexB c with
  | true =>
    rw [hx] at hi
    have hc := c.toNat_lt
    have p1 : (c.toNat : Int) / 16 % 256 < 16 := by omega
    have p2 : (c.toNat : Int) % 16 % 256 < 16 := by omega
    go_enter Tryz.func87, Tryz.ntmps87
    go_wp2_with (first
      | (go_at_call 73; refine (hi _).mono ?_; rintro e w' ⟨rfl, rfl⟩))
    refine (write_any B b l 92 _ (Or.inr h) (by omega) hB).mono ?_
    rintro e w1 ⟨rfl, h1, b1⟩
    have hB1 := Nat.le_trans hB b1.size
    go_wp2_with fail
    refine (write_any B b _ _ _ (Or.inr h1) (by simp; omega) hB1).mono ?_
    rintro e w2 ⟨rfl, h2, b2⟩
    have hB2 := Nat.le_trans hB1 b2.size
    go_wp2_with fail
    refine (write_any B b _ _ _ (Or.inr h2) (by simp; omega) hB2).mono ?_
    rintro e w3 ⟨rfl, h3, b3⟩
    go_wp2
    go_returns
    rw [hex_high, hex_low] at h3
    exact ⟨rfl, by simpa using h3, (b1.trans b2).trans b3⟩
  | false =>
    rw [hx] at hi
    cases hy : maskB c with
    | true =>
      rw [hy] at hm
      go_enter Tryz.func87, Tryz.ntmps87
      go_wp2_with (first
        | (go_at_call 73; refine (hi _).mono ?_; rintro e w' ⟨rfl, rfl⟩)
        | (go_at_call 74; refine (hm _).mono ?_; rintro e w' ⟨rfl, rfl⟩))
      refine (write_any B b l 92 _ (Or.inr h) (by omega) hB).mono ?_
      rintro e w1 ⟨rfl, h1, b1⟩
      have hB1 := Nat.le_trans hB b1.size
      go_wp2_with fail
      refine (write_any B b _ _ _ (Or.inr h1) (by simp; omega) hB1).mono ?_
      rintro e w2 ⟨rfl, h2, b2⟩
      go_wp2
      go_end0
      exact ⟨rfl, by simpa using h2, b1.trans b2⟩
    | false =>
      rw [hy] at hm
      go_enter Tryz.func87, Tryz.ntmps87
      go_wp2_with (first
        | (go_at_call 73; refine (hi _).mono ?_; rintro e w' ⟨rfl, rfl⟩)
        | (go_at_call 74; refine (hm _).mono ?_; rintro e w' ⟨rfl, rfl⟩))
      refine (write_any B b l c _ (Or.inr h) (by omega) hB).mono ?_
      rintro e w1 ⟨rfl, h1, b1⟩
      go_wp2
      go_end0
      exact ⟨rfl, by simpa using h1, b1⟩

set_option maxRecDepth 100000 in
set_option maxHeartbeats 1000000 in
theorem quote_any (s : ByteArray) (w : World) (hs : s.size ≤ 2097152) :
    Calls Tryz.prog 67 #[.string s] w fun e w' => e = .returned (.string ⟨(quote s.data.toList).toArray⟩) ∧ Below w.heap.size w w' := by
  go_enter Tryz.func67, Tryz.ntmps67
  go_wp2_with fail
  refine (write_any w.heap.size w.heap.size [] 34 _ (Lib.fresh_isBuilder _ _ w) (by simp) (by simp)).mono ?_
  rintro e w1 ⟨rfl, h1, b1⟩
  have B1 : Below w.heap.size w w1 := ((Below.refl _ _).alloc (Nat.le_refl _) _).trans b1
  have H1 : Holds w.heap.size w.heap.size (34 :: escs (s.data.toList.take 0)) w1 := by simpa [escs] using h1
  clear h1 b1
  go_wp2
  go_loopw [4] (fun i wr => ∃ k : Nat, k ≤ s.size ∧ i = .int .i64 k ∧ Holds w.heap.size w.heap.size (34 :: escs (s.data.toList.take k)) wr ∧ Below w.heap.size w wr) (fun i _ => s.size - (RowKit.intOf i).toNat)
  case atStart => exact ⟨0, Nat.zero_le _, rfl, H1, B1⟩
  case round =>
    obtain ⟨k, hk, rfl, hh, hbel⟩ := hrel
    have hlen : (34 :: escs (s.data.toList.take k)).length ≤ 8000000 := by
      have h1 := escs_len (s.data.toList.take k)
      have h2 : (s.data.toList.take k).length ≤ k := List.length_take_le _ _
      simp
      omega
    by_cases hlt : k < s.size
    · have hn : 34 :: escs (s.data.toList.take k) ++ esc s[k] = 34 :: escs (s.data.toList.take (k + 1)) := by
        have : s.data.toList.take (k + 1) = s.data.toList.take k ++ [s[k]] := by
          rw [List.take_succ_eq_append_getElem (by rw [Array.length_toList]; exact hlt)]
          rfl
        rw [this, escs_append]
        simp [escs]
      have hz := hbel.size
      have W := writeQuoted_any w.heap.size w.heap.size _ s[k] wr hh hlen hz
      rw [hn] at W
      clear hh hlen hn
      go_wp2_with (go_at_call 87; refine W.mono ?_; rintro e w2 ⟨rfl, h2, b2⟩)
      go_roundw
      case rel => exact ⟨k + 1, hlt, by go_num, h2, hbel.trans b2⟩
      case measure => simp [RowKit.intOf]; omega
    · have hke : k = s.size := by omega
      subst hke
      have hz := hbel.size
      have hq : 34 :: escs (s.data.toList.take s.size) ++ [34] = quote s.data.toList := by
        rw [List.take_of_length_le (by rw [Array.length_toList]; exact Nat.le_refl _)]
        rfl
      have W := write_any w.heap.size w.heap.size _ 34 wr (Or.inr hh) (by omega) hz
      rw [hq] at W
      clear hh hlen hq
      go_wp2_with (first
        | (go_at_call 58; refine W.mono ?_; rintro e w2 ⟨rfl, h2, b2⟩)
        | (go_at_call 56; refine (Tryz.builderString w.heap.size w.heap.size _ _ (Or.inr h2) (Nat.le_trans hz b2.size)).mono ?_; rintro e w3 ⟨rfl, b3⟩))
      go_ret
      exact ⟨rfl, (hbel.trans b2).trans b3⟩
end Go.Proofs.YtnmdhbejjjmdeaaGreatDoor

namespace Go.Proofs.YtnmdhbejjjmdeaaGreatDoor
open Go.RowKit

theorem hexd_num : ∀ n : Fin 16, (hexd n.val).toNat = if n.val < 10 then 48 + n.val else 87 + n.val := by decide

theorem infoB : (Tryz.prog.info? 5).map (fun i => (i.zero, i.size, i.bytes)) = some (some (.int .u8 0), 1, 1) := by kernel_rfl

/-- A slice of bytes that the call has made. -/
abbrev Row (B : Nat) (v : Value) (l : List UInt8) (w : World) : Prop := w.ownsRow B 5 1 v l.length (Lib.byteCells l)

theorem row_grown {B : Nat} {w wr w' : World} {v v' : Value} {l m : List UInt8} {o : Obj} (own : Row B v l wr) (bel : Below B w wr) (hB : B ≤ wr.heap.size) (hg : (wr.alloc o).grownBy w' v.ownBlock)
    (own' : w'.ownsRow B 5 1 v' (l.length + m.length) (Lib.byteCells l ++ Lib.byteCells m)) : Row B v' (l ++ m) w' ∧ Below B w w' := by
  refine ⟨?_, (bel.alloc hB o).grown hg (by simp; omega) (fun k hk => (own.lt k hk).1)⟩
  have e : Lib.byteCells (l ++ m) = Lib.byteCells l ++ Lib.byteCells m := by simp [Lib.byteCells]
  unfold Row
  rw [e, List.length_append]
  exact own'

theorem own_row_len {B : Nat} {v : Value} {l : List UInt8} {w : World} (h : Row B v l w) : ∃ a c, v = .slice a l.length c := by
  rcases h.2 with ⟨rfl, h0⟩ | ⟨g, cap, cur, rfl, _⟩
  · exact ⟨none, 0, by rw [h0]⟩
  · exact ⟨_, _, rfl⟩

theorem row_at (g t : Nat) : (⟨g, 0, none⟩ : Addr).add t = ⟨g, t, none⟩ := by cases t <;> simp [Addr.add]

/-- A slice that is not empty, and where its bytes lie. -/
theorem row_text {B : Nat} {v : Value} {l : List UInt8} {w : World} (h : Row B v l w) (h0 : l ≠ []) : ∃ g cap, v = .slice (some ⟨g, 0, none⟩) l.length cap ∧ ∀ t (ht : t < l.length), w.cell? ((⟨g, 0, none⟩ : Addr).add t) = some (.int .u8 l[t].toNat) := by
  rcases h.2 with ⟨rfl, hl⟩ | ⟨g, cap, cur, rfl, hg, hh, hc, hm, hz, ht⟩
  · exact absurd (List.length_eq_zero_iff.1 hl) h0
  · refine ⟨g, cap, rfl, fun t ht => ?_⟩
    rw [row_at, h.cellAt t (by omega)]
    simp [Lib.byteCells, ht]

end Go.Proofs.YtnmdhbejjjmdeaaGreatDoor
