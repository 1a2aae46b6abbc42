/-
  What is proved: pieces of alike numbers; the functions Runs and Spread of package bytes, called with any lists, answer as they should, and nothing that was there has turned.
  Conditions: the lists lie in memory, and are not too long.
-/
import Derived.Test.YtkmjlpmjhffgbaaDoorInts
namespace Go.Proofs.YtkmjlpmjhffgbaaDoor
open Go.RowKit

/-- How many, and of which number. -/
abbrev Pc : Type := Int × Int

/-- The numbers of pieces. -/
def spread (p : List Pc) : List Int := p.flatMap fun q => List.replicate q.1.toNat q.2

/-- No piece is empty, and no two of one number stand together. -/
def Canon (p : List Pc) : Prop := (∀ q ∈ p, 1 ≤ q.1) ∧ ∀ i (h : i + 1 < p.length), p[i].2 ≠ p[i + 1].2

theorem spread_snoc (p : List Pc) (m x : Int) : spread (p ++ [(m, x)]) = spread p ++ List.replicate m.toNat x := by simp [spread]

theorem canon_snoc {p : List Pc} {m x : Int} (h : Canon p) (hm : 1 ≤ m) (hx : ∀ q, p.getLast? = some q → q.2 ≠ x) : Canon (p ++ [(m, x)]) := by
  refine ⟨fun q hq => ?_, fun i hi => ?_⟩
  · rcases List.mem_append.1 hq with h1 | h1
    · exact h.1 q h1
    · rw [List.mem_singleton.1 h1]; exact hm
  · rw [List.length_append, List.length_singleton] at hi
    by_cases hl : i + 1 < p.length
    · rw [List.getElem_append_left (by omega), List.getElem_append_left hl]
      exact h.2 i hl
    · rw [List.getElem_append_left (by omega), List.getElem_append_right (by omega)]
      simp only [List.getElem_singleton]
      refine hx _ ?_
      rw [List.getLast?_eq_getElem?, show p.length - 1 = i from by omega, List.getElem?_eq_getElem (by omega)]

theorem canon_init {p : List Pc} {q : Pc} (h : Canon (p ++ [q])) : Canon p ∧ ∀ r, p.getLast? = some r → r.2 ≠ q.2 := by
  refine ⟨⟨fun r hr => h.1 r (List.mem_append_left _ hr), fun i hi => ?_⟩, fun r hr => ?_⟩
  · have := h.2 i (by rw [List.length_append]; omega)
    rw [List.getElem_append_left (by omega), List.getElem_append_left hi] at this
    exact this
  · have hne : p ≠ [] := fun e => by rw [e] at hr; cases hr
    have hl := List.length_pos_iff.2 hne
    rw [List.getLast?_eq_getElem?, List.getElem?_eq_getElem (by omega)] at hr
    have := h.2 (p.length - 1) (by rw [List.length_append, List.length_singleton]; omega)
    rw [List.getElem_append_left (by omega), List.getElem_append_right (by omega)] at this
    simp only [List.getElem_singleton] at this
    rw [← Option.some.inj hr]
    exact this

/-- The pieces of the first so many numbers. -/
structure Run (l : List Int) (k : Nat) (p : List Pc) : Prop where
  all : spread p = l.take k
  canon : Canon p
  last : ∀ q, p.getLast? = some q → ∃ (h : k - 1 < l.length), 1 ≤ k ∧ q.2 = l[k - 1]
  some : 1 ≤ k → p ≠ []
  len : p.length ≤ k
  many : ∀ q ∈ p, q.1 ≤ k

theorem Run.start (l : List Int) : Run l 0 [] := ⟨by simp [spread], ⟨by simp, by simp⟩, by simp, by simp, by simp, by simp⟩

theorem Run.new {l : List Int} {k : Nat} {p : List Pc} (h : Run l k p) (hk : k < l.length) (hn : k = 0 ∨ ∃ (h1 : k - 1 < l.length), l[k] ≠ l[k - 1]) : Run l (k + 1) (p ++ [(1, l[k])]) := by
  refine ⟨?_, canon_snoc h.canon (by omega) (fun q hq => ?_), fun q hq => ?_, fun _ => by simp, by have := h.len; simp; omega, fun q hq => ?_⟩
  · rw [spread_snoc, h.all, take_snoc l k hk]
    simp
  · obtain ⟨h1, h2, h3⟩ := h.last q hq
    rcases hn with hn | ⟨h4, hn⟩
    · omega
    · rw [h3]; exact fun e => hn e.symm
  · rw [List.getLast?_append] at hq
    simp at hq
    subst hq
    exact ⟨by simpa using hk, by omega, by simp⟩
  · rcases List.mem_append.1 hq with h1 | h1
    · have := h.many q h1; omega
    · rw [List.mem_singleton.1 h1]; simp; omega

theorem Run.more {l : List Int} {k : Nat} {r : List Pc} {m x : Int} (h : Run l k (r ++ [(m, x)])) (hk : k < l.length) (hx : l[k] = x) : Run l (k + 1) (r ++ [(m + 1, x)]) := by
  have hc := canon_init h.canon
  have hm := h.canon.1 (m, x) (by simp)
  simp only at hm
  refine ⟨?_, canon_snoc hc.1 (by omega) hc.2, fun q hq => ?_, fun _ => by simp, by have := h.len; simp at this ⊢; omega, fun q hq => ?_⟩
  · have e := h.all
    rw [spread_snoc] at e
    rw [spread_snoc, take_snoc l k hk, ← e, hx, List.append_assoc, show (m + 1).toNat = m.toNat + 1 from by omega, List.replicate_succ']
  · rw [List.getLast?_append] at hq
    simp at hq
    subst hq
    exact ⟨by simpa using hk, by omega, by simpa using hx.symm⟩
  · have h0 := h.many
    rcases List.mem_append.1 hq with h1 | h1
    · have := h0 q (List.mem_append_left _ h1); omega
    · rw [List.mem_singleton.1 h1]
      have := h0 (m, x) (by simp)
      simp only at this ⊢
      omega

/-- The cells of pieces. -/
def pcells (p : List Pc) : List Value := p.flatMap fun q => [.int .i64 q.1, .int .i64 q.2]

theorem pcells_len (p : List Pc) : (pcells p).length = p.length * 2 := by
  induction p with
  | nil => rfl
  | cons q r ih =>
    unfold pcells at ih ⊢
    rw [List.flatMap_cons, List.length_append, ih]
    simp
    omega

theorem pcells_append (p q : List Pc) : pcells (p ++ q) = pcells p ++ pcells q := by simp [pcells]

theorem pcells_set (r : List Pc) (m m' x : Int) : (pcells (r ++ [(m, x)])).set (r.length * 2) (.int .i64 m') = pcells (r ++ [(m', x)]) := by
  rw [pcells_append, pcells_append, List.set_append_right _ _ (by rw [pcells_len]; omega), pcells_len]
  simp [pcells]

theorem pcells_at (p : List Pc) (i : Nat) (h : i < p.length) : (pcells p)[i * 2]? = some (.int .i64 p[i].1) ∧ (pcells p)[i * 2 + 1]? = some (.int .i64 p[i].2) := by
  induction p generalizing i with
  | nil => simp at h
  | cons q r ih =>
    have e : pcells (q :: r) = .int .i64 q.1 :: .int .i64 q.2 :: pcells r := by simp [pcells]
    rw [e]
    cases i with
    | zero => simp
    | succ i =>
      have := ih i (by simpa using h)
      rw [show (i + 1) * 2 = i * 2 + 1 + 1 from by omega]
      simpa using this

/-- A slice value that holds pieces. -/
def IsPieces (w : World) (v : Value) (p : List Pc) : Prop :=
  ∃ a cap, v = .slice a p.length cap ∧ p.length ≤ cap ∧ p.length ≤ 8796093022208 ∧ (∀ q ∈ p, I64 q.1 ∧ I64 q.2) ∧ (p ≠ [] → ∃ b off, a = some ⟨b, off, none⟩ ∧ b < w.heap.size ∧ ∀ i (h : i < p.length), w.cell? ⟨b, off + i * 2, none⟩ = some (.int .i64 p[i].1) ∧ w.cell? ⟨b, off + i * 2 + 1, none⟩ = some (.int .i64 p[i].2))

theorem IsPieces.below {w w' : World} {v : Value} {p : List Pc} (h : IsPieces w v p) (hb : Below w.heap.size w w') : IsPieces w' v p := by
  obtain ⟨a, cap, rfl, h1, h2, hr, h3⟩ := h
  refine ⟨a, cap, rfl, h1, h2, hr, fun hl => ?_⟩
  obtain ⟨b, off, rfl, h4, h5⟩ := h3 hl
  exact ⟨b, off, rfl, Nat.lt_of_lt_of_le h4 hb.size, fun i hi => ⟨by rw [hb.cell (p := ⟨b, off + i * 2, none⟩) h4]; exact (h5 i hi).1, by rw [hb.cell (p := ⟨b, off + i * 2 + 1, none⟩) h4]; exact (h5 i hi).2⟩⟩

theorem infoP : (Tryd.prog.info? 42).map (fun i => (i.zero, i.size, i.bytes)) = some (some (.agg #[.int .i64 0, .int .i64 0]), 2, 16) := by kernel_rfl

/-- A slice of pieces that the call has made. -/
abbrev RowP (B : Nat) (v : Value) (p : List Pc) (w : World) : Prop := w.ownsRow B 42 2 v p.length (pcells p)

theorem rowP_grown {B : Nat} {w wr w' : World} {v v' : Value} {l m : List Pc} {o : Obj} (own : RowP B v l wr) (bel : Below B w wr) (hB : B ≤ wr.heap.size) (hg : (wr.alloc o).grownBy w' v.ownBlock)
    (own' : w'.ownsRow B 42 2 v' (l.length + m.length) (pcells l ++ pcells m)) : RowP B v' (l ++ m) w' ∧ Below B w w' := by
  refine ⟨?_, (bel.alloc hB o).grown hg (by simp; omega) (fun k hk => (own.lt k hk).1)⟩
  unfold RowP
  rw [pcells_append, List.length_append]
  exact own'

theorem rowP_len {B : Nat} {v : Value} {l : List Pc} {w : World} (h : RowP B v l w) : ∃ a c, v = .slice a l.length c := by
  rcases h.2 with ⟨rfl, h0⟩ | ⟨g, cap, cur, rfl, _⟩
  · exact ⟨none, 0, by rw [h0]⟩
  · exact ⟨_, _, rfl⟩

/-- Where the last piece lies. -/
theorem rowP_last {B : Nat} {w : World} {v : Value} {r : List Pc} {m x : Int} (h : RowP B v (r ++ [(m, x)]) w) : ∃ g cap, v = .slice (some ⟨g, 0, none⟩) (r.length + 1) cap ∧ B ≤ g ∧ g < w.heap.size ∧
    w.cell? ⟨g, r.length * 2, none⟩ = some (.int .i64 m) ∧ w.frozen? ⟨g, r.length * 2, none⟩ = false ∧ ∀ m', RowP B v (r ++ [(m', x)]) (w.setCell ⟨g, r.length * 2, none⟩ (.int .i64 m')) := by
  rcases h.2 with ⟨rfl, h0⟩ | ⟨g, cap, cur, rfl, hg, hh, hc, hm, hz, ht⟩
  · simp at h0
  · have hlen : (r ++ [(m, x)]).length = r.length + 1 := by simp
    refine ⟨g, cap, by rw [hlen], hg, ?_, ?_, ?_, fun m' => ?_⟩
    · rcases Nat.lt_or_ge g w.heap.size with h1 | h1
      · exact h1
      · rw [Array.getElem?_eq_none h1] at hh; cases hh
    · rw [h.cellAt (r.length * 2) (by rw [hlen]; omega), (pcells_at (r ++ [(m, x)]) r.length (by rw [hlen]; omega)).1]
      simp
    · simp [World.frozen?, hh]
    · have := (World.ownsRow.stored h (r.length * 2) (.int .i64 m')).1
      rw [pcells_set] at this
      unfold RowP
      rw [show (r ++ [(m', x)]).length = (r ++ [(m, x)]).length from by simp]
      exact this

theorem RowP.pieces {B : Nat} {w : World} {v : Value} {p : List Pc} (h : RowP B v p w) (hl : p.length ≤ 8796093022208) (hr : ∀ q ∈ p, I64 q.1 ∧ I64 q.2) : IsPieces w v p := by
  rcases h.2 with ⟨rfl, h0⟩ | ⟨g, cap, cur, rfl, hg, hh, hc, hm, hz, ht⟩
  · exact ⟨none, 0, by rw [h0], by omega, hl, hr, fun h => absurd (List.length_eq_zero_iff.1 h0) h⟩
  · refine ⟨_, cap, rfl, hc, hl, hr, fun _ => ⟨g, 0, rfl, ?_, fun i hi => ⟨?_, ?_⟩⟩⟩
    · rcases Nat.lt_or_ge g w.heap.size with h1 | h1
      · exact h1
      · rw [Array.getElem?_eq_none h1] at hh; cases hh
    · rw [Nat.zero_add, h.cellAt (i * 2) (by omega), (pcells_at p i hi).1]
    · rw [Nat.zero_add, h.cellAt (i * 2 + 1) (by omega), (pcells_at p i hi).2]

set_option maxRecDepth 100000 in
set_option maxHeartbeats 2000000 in
theorem runs_any (v : Value) (l : List Int) (w : World) (hv : IsInts w v l) (h43 : l.length ≤ 8796093022207) :
    Calls Tryd.prog 15 #[v] w fun e w' => ∃ u p, e = .returned u ∧ Canon p ∧ spread p = l ∧ p.length ≤ l.length ∧ (∀ q ∈ p, q.1 ≤ l.length) ∧ RowP w.heap.size u p w' ∧ Below w.heap.size w w' := by
  obtain ⟨i0, hi, hz0, hz1, hz2⟩ := info_parts infoP
  obtain ⟨a, cap, rfl, h1, h2, hr, h3⟩ := hv
  go_enter Tryd.func15, Tryd.ntmps15
  go_wp2_with fail
  go_loopw [2, 7] (fun o i wr => ∃ (k : Nat) (p : List Pc), k ≤ l.length ∧ i = .int .i64 k ∧ Run l k p ∧ RowP w.heap.size o p wr ∧ Below w.heap.size w wr) (fun _ i _ => l.length - (RowKit.intOf i).toNat)
  case atStart => exact ⟨0, [], Nat.zero_le _, rfl, Run.start l, World.ownsRow_nil w w.heap.size 42 2, Below.refl _ w⟩
  case round =>
    obtain ⟨k, L, hk, rfl, hrun, hh, hbel⟩ := hrel
    have hz := hbel.size
    have hLl := hrun.len
    by_cases hlt : k < l.length
    · obtain ⟨b, off, rfl, h4, h5⟩ := h3 (fun e => by rw [e] at hlt; simp at hlt)
      have x0 : wr.cell? ⟨b, off + k, none⟩ = some (.int .i64 l[k]) := by rw [hbel.cell (p := ⟨b, off + k, none⟩) h4]; exact h5 k hlt
      have g1 : (k : Int) < l.length := by omega
      by_cases hnew : k = 0 ∨ ∃ (h1 : k - 1 < l.length), l[k] ≠ l[k - 1]
      · have HR : Hid (Run l (k + 1) (L ++ [(1, l[k])])) := hrun.new hlt hnew
        have hl := rowP_len hh
        rcases hnew with hk0 | ⟨hk1, hne⟩
        · subst hk0
          have hL0 : L.length ≤ 0 := hLl
          rw [Nat.add_zero] at x0
          clear hrun h3 h5 hr
          generalize l[0] = x at *
          go_wp2_with (first | (at_builtin; refine wpList_append_own _ rfl _ _ 39 rfl w.heap.size 42 i0 (.agg #[.int .i64 0, .int .i64 0]) 2 16 Tryd.underlying39 hi hz0 hz1 hz2 rfl (by decide) _ _ _ rfl (hh.alloc _) ⟨wr.heap.size, 0, none⟩ 1 1 (pcells [(0, x)]) rfl rfl ?c1 ?c2 ?c3 ?c4 ?c5 ?_))
          case c1 =>
            intro j u hj
            match j, hj with
            | 0, hj => simp [pcells] at hj; subst hj; simp [Addr.add]
            | 1, hj => simp [pcells] at hj; subst hj; simp [Addr.add]
          case c2 => intro u hu; simp [pcells] at hu; rcases hu with rfl | rfl <;> rfl
          case c3 => unfold maxLen; omega
          case c4 => omega
          case c5 => simp; omega
          intro v2 w2 hown hgrow _
          obtain ⟨R2, B2⟩ := rowP_grown (m := [(0, x)]) hh hbel hz hgrow hown
          clear hown hgrow hh
          obtain ⟨g, cg, rfl, hg1, hg2, cg0, cgf, hset⟩ := rowP_last R2
          clear R2
          go_wp2_with fail
          go_roundw
          case rel => exact ⟨0 + 1, L ++ [(1, x)], hlt, by rfl, HR.out, hset 1, B2.setCell hg1 _⟩
          case measure => simp [RowKit.intOf]; omega
        · by_cases hk0 : k = 0
          · subst hk0
            exact absurd rfl hne
          · have x1 : wr.cell? ⟨b, off + (k - 1), none⟩ = some (.int .i64 l[k - 1]) := by rw [hbel.cell (p := ⟨b, off + (k - 1), none⟩) h4]; exact h5 (k - 1) hk1
            have hq0 : ((k : Int) == 0) = false := by rw [beq_eq_false_iff_ne]; omega
            have hq1 : (l[k] == l[k - 1]) = false := by rw [beq_eq_false_iff_ne]; exact hne
            clear hrun h3 h5 hr hne
            generalize l[k] = x at *
            generalize l[k - 1] = y at *
            go_wp2_with (first | (at_builtin; refine wpList_append_own _ rfl _ _ 39 rfl w.heap.size 42 i0 (.agg #[.int .i64 0, .int .i64 0]) 2 16 Tryd.underlying39 hi hz0 hz1 hz2 rfl (by decide) _ _ _ rfl (hh.alloc _) ⟨wr.heap.size, 0, none⟩ 1 1 (pcells [(0, x)]) rfl rfl ?c1 ?c2 ?c3 ?c4 ?c5 ?_))
            case c1 =>
              intro j u hj
              match j, hj with
              | 0, hj => simp [pcells] at hj; subst hj; simp [Addr.add]
              | 1, hj => simp [pcells] at hj; subst hj; simp [Addr.add]
            case c2 => intro u hu; simp [pcells] at hu; rcases hu with rfl | rfl <;> rfl
            case c3 => unfold maxLen; omega
            case c4 => omega
            case c5 => simp; omega
            intro v2 w2 hown hgrow _
            obtain ⟨R2, B2⟩ := rowP_grown (m := [(0, x)]) hh hbel hz hgrow hown
            clear hown hgrow hh
            obtain ⟨g, cg, rfl, hg1, hg2, cg0, cgf, hset⟩ := rowP_last R2
            clear R2
            go_wp2_with fail
            go_roundw
            case rel => exact ⟨k + 1, L ++ [(1, x)], hlt, by go_num, HR.out, hset 1, B2.setCell hg1 _⟩
            case measure => simp [RowKit.intOf]; omega
      · obtain ⟨hk0, heq⟩ : k ≠ 0 ∧ ∀ (h1 : k - 1 < l.length), l[k] = l[k - 1] := by
          refine ⟨fun e => hnew (Or.inl e), fun h1 => Classical.byContradiction fun e => hnew (Or.inr ⟨h1, e⟩)⟩
        clear hnew
        have hk1 : k - 1 < l.length := by omega
        have heq := heq hk1
        obtain ⟨r, q, hrq⟩ : ∃ r q, L = r ++ [q] := by
          rcases List.eq_nil_or_concat L with e | ⟨r, q, e⟩
          · exact absurd e (hrun.some (by omega))
          · exact ⟨r, q, by rw [e, List.concat_eq_append]⟩
        subst hrq
        obtain ⟨m, x⟩ := q
        obtain ⟨_, _, hxe⟩ := hrun.last (m, x) (by rw [List.getLast?_append]; simp)
        simp only at hxe
        have HR : Hid (Run l (k + 1) (r ++ [(m + 1, x)])) := hrun.more hlt (by rw [heq, hxe])
        have hm1 := hrun.canon.1 (m, x) (by simp)
        have hm2 := hrun.many (m, x) (by simp)
        simp only at hm1 hm2
        have x1 : wr.cell? ⟨b, off + (k - 1), none⟩ = some (.int .i64 l[k - 1]) := by rw [hbel.cell (p := ⟨b, off + (k - 1), none⟩) h4]; exact h5 (k - 1) hk1
        rw [heq] at x0
        have hq0 : ((k : Int) == 0) = false := by rw [beq_eq_false_iff_ne]; omega
        clear hrun h3 h5 hr heq hxe
        generalize l[k - 1] = y at *
        obtain ⟨g, cg, rfl, hg1, hg2, cg0, cgf, hset⟩ := rowP_last hh
        have hgb : g ≠ b := by have := h4; omega
        have hrl : r.length ≤ 8796093022207 := by simp at hLl; omega
        clear hh
        go_wp2_with fail
        go_roundw
        case rel => exact ⟨k + 1, r ++ [(m + 1, x)], hlt, by go_num, HR.out, hset (m + 1), hbel.setCell hg1 _⟩
        case measure => simp [RowKit.intOf]; omega
    · have hke : k = l.length := by omega
      subst hke
      have e1 := hrun.all
      rw [List.take_of_length_le (Nat.le_refl _)] at e1
      have HC : Hid (Canon L ∧ spread L = l ∧ L.length ≤ l.length ∧ ∀ q ∈ L, q.1 ≤ l.length) := ⟨hrun.canon, e1, hrun.len, hrun.many⟩
      clear hrun e1
      go_wp2
      go_ret
      exact ⟨_, L, rfl, HC.out.1, HC.out.2.1, HC.out.2.2.1, HC.out.2.2.2, hh, hbel⟩
end Go.Proofs.YtkmjlpmjhffgbaaDoor
