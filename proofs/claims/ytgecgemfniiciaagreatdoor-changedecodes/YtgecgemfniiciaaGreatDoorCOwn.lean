/-
  What is proved: what lies in rows and boxes of a call's own stays, while other ones grow or turn.
  Conditions: as each theorem says.
-/
import Derived.Test.YtgecgemfniiciaaGreatDoorSignedWalk
import Derived.Deep.DeepAppendWide
import Derived.Laws.AppendOwnNone
namespace Go.Proofs.YtgecgemfniiciaaGreatDoor
open Go.RowKit

/-- A number of 64 bits. -/
def I64 (x : Int) : Prop := -9223372036854775808 ≤ x ∧ x < 9223372036854775808

theorem i64_wrap (x : Int) : I64 (wrap64 x) := by unfold I64 wrap64; omega

theorem own_below {B C e s n : Nat} {w w' : World} {v : Value} {xs : List Value} (h : w.ownsRow B e s v n xs) (hb : Below C w w') (hC : w.heap.size ≤ C) : w'.ownsRow B e s v n xs := by
  refine ⟨h.1, ?_⟩
  rcases h.2 with h0 | ⟨g, cap, cur, h1, h2, h3, h4⟩
  · exact Or.inl h0
  · refine Or.inr ⟨g, cap, cur, h1, h2, ?_, h4⟩
    have hlt : g < w.heap.size := by
      rcases Nat.lt_or_ge g w.heap.size with h | h
      · exact h
      · rw [Array.getElem?_eq_none h] at h3; cases h3
    rw [hb.block g (by omega)]
    exact h3

/-- A row that has grown by another. -/
theorem row_grown0 {B : Nat} {w wr w' : World} {v v' : Value} {l m : List UInt8} (own : Row B v l wr) (bel : Below B w wr) (hB : B ≤ wr.heap.size) (hg : wr.grownBy w' v.ownBlock)
    (own' : w'.ownsRow B 5 1 v' (l.length + m.length) (Lib.byteCells l ++ Lib.byteCells m)) : Row B v' (l ++ m) w' ∧ Below B w w' := by
  refine ⟨?_, bel.grown hg hB (fun k hk => (own.lt k hk).1)⟩
  have e : Lib.byteCells (l ++ m) = Lib.byteCells l ++ Lib.byteCells m := by simp [Lib.byteCells]
  unfold Row
  rw [e, List.length_append]
  exact own'

theorem box_grown0 {B e s b n : Nat} {T : TypeId} {wr w' : World} {v : Value} {xs : List Value} {cs : Array Value} (own : wr.ownsRow B e s v n xs) (hb : wr.heap[b]? = some (.cells cs T)) (hT : T ≠ e) (hg : wr.grownBy w' v.ownBlock) : w'.heap[b]? = some (.cells cs T) := by
  have hlt : b < wr.heap.size := by
    rcases Nat.lt_or_ge b wr.heap.size with h | h
    · exact h
    · rw [Array.getElem?_eq_none h] at hb; cases hb
  have hne : some b ≠ v.ownBlock := by
    intro e1
    rcases own.2 with ⟨rfl, _⟩ | ⟨g, cap, cur, rfl, _, hh, _⟩
    · cases e1
    · have : b = g := Option.some.inj e1
      subst this
      rw [hb] at hh
      injection hh with hh
      injection hh with _ hh _
      exact hT hh
  rw [hg.block b hlt hne]
  exact hb

theorem heap_below {B b : Nat} {w w' : World} {o : Obj} (h : w.heap[b]? = some o) (hb : Below B w w') (hB : w.heap.size ≤ B) : w'.heap[b]? = some o := by
  have hlt : b < w.heap.size := by
    rcases Nat.lt_or_ge b w.heap.size with h1 | h1
    · exact h1
    · rw [Array.getElem?_eq_none h1] at h; cases h
  rw [hb.block b (by omega)]
  exact h

/-- A slice of bytes that is not empty, and where its bytes lie. -/
theorem row_text {B : Nat} {v : Value} {l : List UInt8} {w : World} (h : Row B v l w) (h0 : l ≠ []) : ∃ g cap, v = .slice (some ⟨g, 0, none⟩) l.length cap ∧ ∀ (j : Nat) (u : Value), (Lib.byteCells l)[j]? = some u → w.cell? ((⟨g, 0, none⟩ : Addr).add j) = some u := by
  rcases h.2 with ⟨rfl, hl⟩ | ⟨g, cap, cur, rfl, hg, hh, hc, hm, hz, ht⟩
  · exact absurd (List.length_eq_zero_iff.1 hl) h0
  · refine ⟨g, cap, rfl, fun j u hj => ?_⟩
    have hlt : j < l.length := by
      rcases Nat.lt_or_ge j l.length with h1 | h1
      · exact h1
      · rw [List.getElem?_eq_none (by simpa [Lib.byteCells] using h1)] at hj; cases hj
    rw [row_at, h.cellAt j (by omega)]
    exact hj

theorem one_cell (l : List UInt8) : ∀ u ∈ Lib.byteCells l, u.oneCell' = true := by
  intro u hu
  unfold Lib.byteCells at hu
  rw [List.mem_map] at hu
  obtain ⟨b, _, rfl⟩ := hu
  rfl

theorem cells_len (l : List UInt8) : (Lib.byteCells l).length = l.length * 1 := by simp [Lib.byteCells]

/-- A box stays as it is while a row of another type grows. -/
theorem box_grown {B e s b n : Nat} {T : TypeId} {wr w' : World} {v : Value} {xs : List Value} {cs : Array Value} {o : Obj} (own : wr.ownsRow B e s v n xs) (hb : wr.heap[b]? = some (.cells cs T)) (hT : T ≠ e) (hg : (wr.alloc o).grownBy w' v.ownBlock) : w'.heap[b]? = some (.cells cs T) := by
  have hlt : b < wr.heap.size := by
    rcases Nat.lt_or_ge b wr.heap.size with h | h
    · exact h
    · rw [Array.getElem?_eq_none h] at hb; cases hb
  have hne : some b ≠ v.ownBlock := by
    intro e1
    rcases own.2 with ⟨rfl, _⟩ | ⟨g, cap, cur, rfl, _, hh, _⟩
    · cases e1
    · have : b = g := Option.some.inj e1
      subst this
      rw [hb] at hh
      injection hh with hh
      injection hh with _ hh _
      exact hT hh
  rw [hg.block b (by simp; omega) hne, ((Below.refl wr.heap.size wr).alloc (Nat.le_refl _) o).block b hlt]
  exact hb

theorem isBytes_nil (w : World) (a : Option Addr) (c : Nat) : IsBytes w (.slice a 0 c) [] := ⟨a, c, rfl, by simp, by simp, fun h => absurd rfl h⟩

theorem get_nil : get [] = none := rfl

theorem own_mono {B C e s n : Nat} {w : World} {v : Value} {xs : List Value} (h : w.ownsRow B e s v n xs) (hC : C ≤ B) : w.ownsRow C e s v n xs := by
  refine ⟨h.1, ?_⟩
  rcases h.2 with h0 | ⟨g, cap, cur, h1, h2, h3⟩
  · exact Or.inl h0
  · exact Or.inr ⟨g, cap, cur, h1, Nat.le_trans hC h2, h3⟩

theorem take_snoc {α : Type} (l : List α) (k : Nat) (h : k < l.length) : l.take (k + 1) = l.take k ++ [l[k]] := List.take_succ_eq_append_getElem h


/-- Two numbers. -/
abbrev Pr : Type := Int × Int

/-- The cells of pairs. -/
def pcells (p : List Pr) : List Value := p.flatMap fun q => [.int .i64 q.1, .int .i64 q.2]

theorem pcells_len (p : List Pr) : (pcells p).length = p.length * 2 := by
  induction p with
  | nil => rfl
  | cons q r ih =>
    unfold pcells at ih ⊢
    rw [List.flatMap_cons, List.length_append, ih]
    simp
    omega

theorem pcells_append (p q : List Pr) : pcells (p ++ q) = pcells p ++ pcells q := by simp [pcells]

theorem pcells_at (p : List Pr) (i : Nat) (h : i < p.length) : (pcells p)[i * 2]? = some (.int .i64 p[i].1) ∧ (pcells p)[i * 2 + 1]? = some (.int .i64 p[i].2) := by
  induction p generalizing i with
  | nil => simp at h
  | cons q r ih =>
    have e : pcells (q :: r) = .int .i64 q.1 :: .int .i64 q.2 :: pcells r := by simp [pcells]
    rw [e]
    cases i with
    | zero => simp
    | succ i =>
      have := ih i (by simpa using h)
      rw [show (i + 1) * 2 = i * 2 + 1 + 1 from by omega]
      simpa using this

/-- A slice value that holds pairs. -/
def IsPairs (w : World) (v : Value) (p : List Pr) : Prop :=
  ∃ a cap, v = .slice a p.length cap ∧ p.length ≤ cap ∧ p.length ≤ 8796093022208 ∧ (∀ q ∈ p, I64 q.1 ∧ I64 q.2) ∧ (p ≠ [] → ∃ b off, a = some ⟨b, off, none⟩ ∧ b < w.heap.size ∧ ∀ i (h : i < p.length), w.cell? ⟨b, off + i * 2, none⟩ = some (.int .i64 p[i].1) ∧ w.cell? ⟨b, off + i * 2 + 1, none⟩ = some (.int .i64 p[i].2))

theorem IsPairs.below {w w' : World} {v : Value} {p : List Pr} (h : IsPairs w v p) (hb : Below w.heap.size w w') : IsPairs w' v p := by
  obtain ⟨a, cap, rfl, h1, h2, hr, h3⟩ := h
  refine ⟨a, cap, rfl, h1, h2, hr, fun hl => ?_⟩
  obtain ⟨b, off, rfl, h4, h5⟩ := h3 hl
  exact ⟨b, off, rfl, Nat.lt_of_lt_of_le h4 hb.size, fun i hi => ⟨by rw [hb.cell (p := ⟨b, off + i * 2, none⟩) h4]; exact (h5 i hi).1, by rw [hb.cell (p := ⟨b, off + i * 2 + 1, none⟩) h4]; exact (h5 i hi).2⟩⟩

theorem isPairs_nil (w : World) (a : Option Addr) (c : Nat) : IsPairs w (.slice a 0 c) [] := ⟨a, c, rfl, by simp, by simp, by simp, fun h => absurd rfl h⟩

/-- A slice of pairs that the call has made. -/
abbrev RowPr (T : TypeId) (B : Nat) (v : Value) (p : List Pr) (w : World) : Prop := w.ownsRow B T 2 v p.length (pcells p)

theorem rowPr_grown {T : TypeId} {B : Nat} {w wr w' : World} {v v' : Value} {l m : List Pr} {o : Obj} (own : RowPr T B v l wr) (bel : Below B w wr) (hB : B ≤ wr.heap.size) (hg : (wr.alloc o).grownBy w' v.ownBlock)
    (own' : w'.ownsRow B T 2 v' (l.length + m.length) (pcells l ++ pcells m)) : RowPr T B v' (l ++ m) w' ∧ Below B w w' := by
  refine ⟨?_, (bel.alloc hB o).grown hg (by simp; omega) (fun k hk => (own.lt k hk).1)⟩
  unfold RowPr
  rw [pcells_append, List.length_append]
  exact own'

theorem rowPr_len {T : TypeId} {B : Nat} {v : Value} {l : List Pr} {w : World} (h : RowPr T B v l w) : ∃ a c, v = .slice a l.length c := by
  rcases h.2 with ⟨rfl, h0⟩ | ⟨g, cap, cur, rfl, _⟩
  · exact ⟨none, 0, by rw [h0]⟩
  · exact ⟨_, _, rfl⟩

theorem RowPr.pairs {T : TypeId} {B : Nat} {w : World} {v : Value} {p : List Pr} (h : RowPr T B v p w) (hl : p.length ≤ 8796093022208) (hr : ∀ q ∈ p, I64 q.1 ∧ I64 q.2) : IsPairs w v p := by
  rcases h.2 with ⟨rfl, h0⟩ | ⟨g, cap, cur, rfl, hg, hh, hc, hm, hz, ht⟩
  · exact ⟨none, 0, by rw [h0], by omega, hl, hr, fun h => absurd (List.length_eq_zero_iff.1 h0) h⟩
  · refine ⟨_, cap, rfl, hc, hl, hr, fun _ => ⟨g, 0, rfl, ?_, fun i hi => ⟨?_, ?_⟩⟩⟩
    · rcases Nat.lt_or_ge g w.heap.size with h1 | h1
      · exact h1
      · rw [Array.getElem?_eq_none h1] at hh; cases hh
    · rw [Nat.zero_add, h.cellAt (i * 2) (by omega), (pcells_at p i hi).1]
    · rw [Nat.zero_add, h.cellAt (i * 2 + 1) (by omega), (pcells_at p i hi).2]

/-- All but one block is as it was. -/
structure Off (g : Nat) (w w' : World) : Prop where
  os : w'.os = w.os
  tape : w'.tape = w.tape
  output : w'.output = w.output
  size : w.heap.size ≤ w'.heap.size
  block : ∀ k, k < w.heap.size → k ≠ g → w'.heap[k]? = w.heap[k]?

theorem Off.refl (g : Nat) (w : World) : Off g w w := ⟨rfl, rfl, rfl, Nat.le_refl _, fun _ _ _ => rfl⟩
theorem Off.of {g : Nat} {w w' : World} (h : Below w.heap.size w w') : Off g w w' := ⟨h.os, h.tape, h.output, h.size, fun k hk _ => h.block k hk⟩
theorem Off.trans {g : Nat} {w w1 w2 : World} (h : Off g w w1) (k : Off g w1 w2) : Off g w w2 :=
  ⟨k.os.trans h.os, k.tape.trans h.tape, k.output.trans h.output, Nat.le_trans h.size k.size, fun b hb hg => (k.block b (Nat.lt_of_lt_of_le hb h.size) hg).trans (h.block b hb hg)⟩
theorem Off.below {g B : Nat} {w w' : World} (h : Off g w w') (hB : B ≤ g) (hz : B ≤ w.heap.size) : Below B w w' := ⟨h.os, h.tape, h.output, h.size, fun k hk => h.block k (by omega) (by omega)⟩
theorem Off.set {g : Nat} {w w' : World} (h : Off g w w') (o : Nat) (v : Value) : Off g w (w'.setCell ⟨g, o, none⟩ v) := by
  have hb : Below g w' (w'.setCell ⟨g, o, none⟩ v) := (Below.refl g w').setCell (Nat.le_refl _) v
  refine ⟨hb.os.trans h.os, hb.tape.trans h.tape, hb.output.trans h.output, Nat.le_trans h.size hb.size, fun k hk hg => ?_⟩
  rw [Below.heap_setCell _ _ _ _ hg]
  exact h.block k hk hg

theorem Off.heap {g b : Nat} {w w' : World} {o : Obj} (h : Off g w w') (hb : w.heap[b]? = some o) (hne : b ≠ g) : w'.heap[b]? = some o := by
  have hlt : b < w.heap.size := by
    rcases Nat.lt_or_ge b w.heap.size with h1 | h1
    · exact h1
    · rw [Array.getElem?_eq_none h1] at hb; cases hb
  rw [h.block b hlt hne]
  exact hb

theorem own_off {B e s n g : Nat} {T : TypeId} {cs : Array Value} {w w' : World} {v : Value} {xs : List Value} (h : w.ownsRow B e s v n xs) (hg : w.heap[g]? = some (.cells cs T)) (hT : T ≠ e) (ho : Off g w w') : w'.ownsRow B e s v n xs := by
  refine ⟨h.1, ?_⟩
  rcases h.2 with h0 | ⟨b, cap, cur, h1, h2, h3, h4⟩
  · exact Or.inl h0
  · refine Or.inr ⟨b, cap, cur, h1, h2, ho.heap h3 ?_, h4⟩
    rintro rfl
    rw [hg] at h3
    injection h3 with h3
    injection h3 with _ h3 _
    exact hT h3
set_option maxRecDepth 100000 in
/-- Bytes, appended to a row of one's own. -/
theorem app_bytes {w : World} {ops : Array Oper} {rest : List Oper} {o : Oper} {a : Act} {Q : Exit → Act → World → Prop} (hgd : o.guard = none) (s x : Operand)
    (ho : o.op = .call { callee := .builtin .append, args := #[s, x], argTypes := #[22, 22] }) (B : Nat) (v : Value) (L : List UInt8) (hs : a.eval s = v) (hown : Row B v L w)
    (vb : Value) (b : List UInt8) (hx : a.eval x = vb) (hb : IsBytes w vb b) (hn : vb = .slice none 0 0 ∨ ∃ ad n c, vb = .slice (some ad) n c) (hsz : L.length ≤ 9000) (hB : B ≤ w.heap.size)
    (h : ∀ v' w', Row B v' (L ++ b) w' → Below B w w' → wpList Tryz.prog ops Q rest (a.put o.dst v') w') : wpList Tryz.prog ops Q (o :: rest) a w := by
  obtain ⟨i0, hi, hz0, hz1, hz2⟩ := info_parts infoB
  obtain ⟨ad, cap, rfl, h1, h2, h3⟩ := hb
  rcases hn with hn | ⟨ad2, n, c, hn⟩
  · injection hn with e1 e2 e3
    subst e1 e3
    obtain rfl : b = [] := List.length_eq_zero_iff.1 e2
    refine wpList_append_own_none hgd s x 22 ho B 5 i0 1 Tryz.underlying22 hi v L.length (Lib.byteCells L) hs hown (by simpa using hx) ?_
    exact h v w (by simpa using hown) (Below.refl _ _)
  · injection hn with e1 e2 e3
    subst e1
    refine wpList_append_own_wide w hgd s x 22 ho B 5 i0 (.int .u8 0) 1 1 Tryz.underlying22 hi hz0 hz1 hz2 rfl (by decide) v L.length (Lib.byteCells L) hs hown ad2 b.length cap (Lib.byteCells b) hx (cells_len _) ?_ (one_cell _) (by unfold maxLen; omega) (by omega) hB ?_
    · intro j u hj
      have hlt : j < b.length := by
        rcases Nat.lt_or_ge j b.length with h1 | h1
        · exact h1
        · rw [List.getElem?_eq_none (by simpa [Lib.byteCells] using h1)] at hj; cases hj
      obtain ⟨g', off', e, _, h5⟩ := h3 (fun e => by rw [e] at hlt; simp at hlt)
      injection e with e
      subst e
      have ea : (⟨g', off', none⟩ : Addr).add j = ⟨g', off' + j, none⟩ := by unfold Addr.add; split <;> simp_all
      rw [ea, h5 j hlt]
      simp [Lib.byteCells, hlt] at hj
      rw [hj]
    · intro v' w' hown' hg _
      refine h v' w' ?_ ((Below.refl B w).grown hg hB (fun k hk => (hown.lt k hk).1))
      have e : Lib.byteCells (L ++ b) = Lib.byteCells L ++ Lib.byteCells b := by simp [Lib.byteCells]
      unfold Row
      rw [e, List.length_append]
      exact hown'

end Go.Proofs.YtgecgemfniiciaaGreatDoor
