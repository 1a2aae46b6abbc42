/-
  What is proved: maps with texts as keys that lie in memory, as lists of their entries: what is looked up, put in, taken out and counted.
  Conditions: as each theorem says.
-/
import Derived.Test.YtcdpcjafomfddaaDoorKOwn
import Derived.Maps.RangeWalk
import Derived.Maps.OwnOps
import Derived.Maps.Ext
import Derived.StringKeys
import Derived.Sort.EncStr
namespace Go.Proofs.YtcdpcjafomfddaaDoor
open Go.RowKit Go.Maps Go.WideMaps

abbrev Tx := List UInt8
def txV (s : Tx) : Value := encStr s
def T64 (s : Tx) : Prop := s.length ≤ maxLen
theorem txTy : Tryd.prog.underlying 9 = some .string := Tryd.underlying9
theorem txLaw : Keyed Tryd.prog 9 := Keyed.of_law (string_law txTy)
theorem keyOf_tx {s : Tx} (h : T64 s) : keyOf Tryd.prog 9 (txV s) = some (.string s) := by
  have := keyOf_string_mk (P := Tryd.prog) (k := 9) txTy (s := ⟨s.toArray⟩) (by unfold T64 at h; simpa [ByteArray.size] using h)
  simpa [txV, encStr] using this
theorem tx_inj {r s : Tx} (h : Lit.string r = Lit.string s) : r = s := Lit.string.inj h
theorem tx_key (r : Tx) : WideAt.IsKeyLit (Lit.string r) := trivial
/-- An element, told by itself. -/
def rawElem (v : Value) : Option (DataW Value × List MemPlace) := some (.held v, [])

/-- What stands at a key. -/
def lk (L : List (Tx × Value)) (r : Tx) : Option Value := (L.find? (fun q => q.1 == r)).map (·.2)

theorem lk_nil (r : Tx) : lk [] r = none := rfl
theorem lk_none {L : List (Tx × Value)} {r : Tx} : lk L r = none ↔ r ∉ L.map (·.1) := by
  unfold lk
  rw [Option.map_eq_none_iff, List.find?_eq_none]
  constructor
  · intro h e
    obtain ⟨q, hq, rfl⟩ := List.mem_map.1 e
    exact h q hq (by simp)
  · intro h q hq e
    exact h (List.mem_map.2 ⟨q, hq, by simpa using e⟩)
theorem lk_mem {L : List (Tx × Value)} {r : Tx} {v : Value} (h : lk L r = some v) : (r, v) ∈ L := by
  unfold lk at h
  obtain ⟨q, hq, rfl⟩ := Option.map_eq_some_iff.1 h
  have h1 := List.mem_of_find?_eq_some hq
  have h2 := List.find?_some hq
  simp at h2
  subst h2
  exact h1
theorem lk_of_mem {L : List (Tx × Value)} (hn : (L.map (·.1)).Nodup) {r : Tx} {v : Value} (h : (r, v) ∈ L) : lk L r = some v := by
  induction L with
  | nil => cases h
  | cons q L ih =>
    simp only [List.map_cons, List.nodup_cons] at hn
    rcases List.mem_cons.1 h with e | e
    · subst e; simp [lk]
    · have hne : q.1 ≠ r := fun e1 => hn.1 (List.mem_map.2 ⟨_, e, e1.symm⟩)
      have := ih hn.2 e
      unfold lk at this ⊢
      rw [List.find?_cons_of_neg (by simpa using hne)]
      exact this
theorem lk_append (L M : List (Tx × Value)) (r : Tx) : lk (L ++ M) r = (lk L r).or (lk M r) := by
  unfold lk
  rw [List.find?_append]
  cases L.find? (fun q => q.1 == r) <;> simp
theorem lk_filter_ne (L : List (Tx × Value)) {r s : Tx} (h : s ≠ r) : lk (L.filter fun q => q.1 != r) s = lk L s := by
  unfold lk
  rw [Maps.find_filter_keep (fun p hp => by simp at hp ⊢; rw [hp]; exact h)]
theorem lk_filter_eq (L : List (Tx × Value)) (r : Tx) : lk (L.filter fun q => q.1 != r) r = none := by
  rw [lk_none]
  intro e
  obtain ⟨q, hq, e⟩ := List.mem_map.1 e
  have := (List.mem_filter.1 hq).2
  simp at this
  exact this e

/-- The entries, once something is put in. -/
def putL (L : List (Tx × Value)) (r : Tx) (v : Value) : List (Tx × Value) := (L.filter fun q => q.1 != r) ++ [(r, v)]

theorem putL_new {L : List (Tx × Value)} {r : Tx} (h : lk L r = none) (v : Value) : putL L r v = L ++ [(r, v)] := by
  unfold putL
  rw [List.filter_eq_self.2]
  intro q hq
  have := lk_none.1 h
  simp
  exact fun e => this (List.mem_map.2 ⟨q, hq, e⟩)
theorem lk_putL (L : List (Tx × Value)) (r s : Tx) (v : Value) : lk (putL L r v) s = if s = r then some v else lk L s := by
  unfold putL
  rw [lk_append]
  split
  · rename_i e; subst e; rw [lk_filter_eq]; simp [lk]
  · rename_i e
    rw [lk_filter_ne L e]
    have : lk [(r, v)] s = none := by rw [lk_none]; simpa using e
    rw [this]; simp

/-- A map that lies in memory, and its entries. -/
structure MapS (w : World) (b : Nat) (L : List (Tx × Value)) : Prop where
  own : ∃ D : DataW Value, w.ownsMap Tryd.prog 9 rawElem b L.length D ∧ (∀ r, T64 r → Maps.has D (.string r) = (lk L r).isSome) ∧ (∀ r v, T64 r → lk L r = some v → ∀ z, D.atKey (.string r) z = .held v) ∧ Maps.size D = L.length
  nd : (L.map (·.1)).Nodup
  t64 : ∀ q ∈ L, T64 q.1

theorem own_tight {w : World} {b n : Nat} {D : DataW Value} (h : w.ownsMap Tryd.prog 9 rawElem b n D) : w.ownsMap Tryd.prog 9 rawElem b (Maps.size D) D := by
  obtain ⟨es, clock, hb, F, _, rfl⟩ := h
  exact ⟨es, clock, hb, F, by rw [Maps.size_eq, length_read]; exact Nat.le_refl _, rfl⟩

theorem MapS.made (w : World) : MapS (w.alloc (.map #[] 0)) w.heap.size [] :=
  ⟨⟨.map [], World.ownsMap_made w _ _ _, fun r _ => rfl, (fun r v _ h => by cases h), rfl⟩, by simp, by simp⟩

theorem MapS.lt {w : World} {b : Nat} {L : List (Tx × Value)} (h : MapS w b L) : b < w.heap.size := by
  obtain ⟨D, h1, _⟩ := h.own
  exact h1.lt

theorem MapS.grown {w w' : World} {b : Nat} {L : List (Tx × Value)} {row : Option Nat} (h : MapS w b L) (hg : w.grownBy w' row) (hb : some b ≠ row) : MapS w' b L := by
  obtain ⟨D, h1, h2⟩ := h.own
  exact ⟨⟨D, h1.kept hg hb, h2⟩, h.nd, h.t64⟩
theorem MapS.below {w w' : World} {b : Nat} {L : List (Tx × Value)} (h : MapS w b L) (hb : Below w.heap.size w w') : MapS w' b L :=
  h.grown (row := none) ⟨hb.os, hb.tape, hb.output, hb.size, fun k hk _ => hb.block k hk⟩ (by simp)

/-- What stands at a key, looked up. -/
theorem MapS.look {w : World} {b : Nat} {L : List (Tx × Value)} (h : MapS w b L) {T E : TypeId} (ht : Tryd.prog.underlying T = some (.map 9 E)) {z : Value} (hz : (zeroValue E).run Tryd.prog w = .ok z w) {r : Tx} (hr : T64 r) :
    (Instr.lookup T (.map (some b)) (txV r) true).run Tryd.prog w = .ok (.tuple #[(lk L r).getD z, .bool (lk L r).isSome]) w := by
  obtain ⟨D, h1, h2, h3, h4⟩ := h.own
  obtain ⟨v, ps, hrun, hv⟩ := h1.look_ok txLaw ht hz (zd := .held z) (zp := []) rfl (keyOf_tx hr)
  rw [hrun, h2 r hr]
  have e : DataW.held v = D.atKey (.string r) (.held z) := by
    have := congrArg Prod.fst (Option.some.inj hv)
    exact this
  cases hl : lk L r with
  | none =>
    have hh : Maps.has D (.string r) = false := by rw [h2 r hr, hl]; rfl
    rw [Maps.atKey_of_not_has hh] at e
    rw [DataW.held.inj e]; rfl
  | some u =>
    rw [h3 r u hr hl] at e
    rw [DataW.held.inj e]; rfl
theorem MapS.look1 {w : World} {b : Nat} {L : List (Tx × Value)} (h : MapS w b L) {T E : TypeId} (ht : Tryd.prog.underlying T = some (.map 9 E)) {z : Value} (hz : (zeroValue E).run Tryd.prog w = .ok z w) {r : Tx} (hr : T64 r) :
    (Instr.lookup T (.map (some b)) (txV r) false).run Tryd.prog w = .ok ((lk L r).getD z) w := by
  obtain ⟨D, h1, h2, h3, h4⟩ := h.own
  obtain ⟨v, ps, hrun, hv⟩ := h1.lookup txLaw ht hz (zd := .held z) (zp := []) rfl (keyOf_tx hr)
  rw [hrun]
  have e : DataW.held v = D.atKey (.string r) (.held z) := by
    have := congrArg Prod.fst (Option.some.inj hv)
    exact this
  cases hl : lk L r with
  | none =>
    have hh : Maps.has D (.string r) = false := by rw [h2 r hr, hl]; rfl
    rw [Maps.atKey_of_not_has hh] at e
    rw [DataW.held.inj e]; rfl
  | some u =>
    rw [h3 r u hr hl] at e
    rw [DataW.held.inj e]; rfl

theorem MapS.len {w : World} {b : Nat} {L : List (Tx × Value)} (h : MapS w b L) {T E : TypeId} (ht : Tryd.prog.underlying T = some (.map 9 E)) (ty : TypeId) : (Builtin.len_ #[T] ty #[.map (some b)]).run Tryd.prog w = .ok (.int .i64 L.length) w := by
  obtain ⟨D, h1, h2, h3, h4⟩ := h.own
  rw [h1.len ht ty, h4]

theorem putL_len (L : List (Tx × Value)) (hn : (L.map (·.1)).Nodup) (r : Tx) (v : Value) : (putL L r v).length = if (lk L r).isSome then L.length else L.length + 1 := by
  cases hl : lk L r with
  | none => rw [putL_new hl]; simp
  | some u =>
    have hm := lk_mem hl
    unfold putL
    simp only [List.length_append, List.length_singleton, Option.isSome_some, if_true]
    have : (L.filter fun q => q.1 != r).length + 1 = L.length := by
      clear hl
      induction L with
      | nil => cases hm
      | cons q L ih =>
        simp only [List.map_cons, List.nodup_cons] at hn
        rcases List.mem_cons.1 hm with e | e
        · subst e
          have : L.filter (fun q => q.1 != r) = L := List.filter_eq_self.2 (fun q hq => by simp; exact fun e => hn.1 (List.mem_map.2 ⟨q, hq, e⟩))
          simp [this]
        · have hne : q.1 ≠ r := fun e1 => hn.1 (List.mem_map.2 ⟨_, e, e1.symm⟩)
          rw [List.filter_cons_of_pos (by simpa using hne)]
          have := ih hn.2 e
          simp only [List.length_cons]
          omega
    exact this

theorem nodup_put {L : List (Tx × Value)} (hn : (L.map (·.1)).Nodup) (r : Tx) (v : Value) : ((putL L r v).map (·.1)).Nodup := by
  unfold putL
  rw [List.map_append, List.nodup_append]
  refine ⟨List.Nodup.sublist (List.Sublist.map _ List.filter_sublist) hn, by simp, ?_⟩
  intro x hx y hy e
  simp only [List.map_cons, List.map_nil, List.mem_singleton] at hy
  subst hy e
  obtain ⟨q, hq, e⟩ := List.mem_map.1 hx
  have := (List.mem_filter.1 hq).2
  simp at this
  exact this e

theorem MapS.put {w : World} {b : Nat} {L : List (Tx × Value)} (h : MapS w b L) {T E : TypeId} (ht : Tryd.prog.underlying T = some (.map 9 E)) {r : Tx} (hr : T64 r) (hL : L.length < 1000000) (v : Value) :
    ∃ w', (Instr.mapUpdate T (.map (some b)) (txV r) v).run Tryd.prog w = .ok () w' ∧ MapS w' b (putL L r v) ∧ w.mapTurned w' b := by
  obtain ⟨D, h1, h2, h3, h4⟩ := h.own
  obtain ⟨w', hrun, hown, hturn⟩ := h1.store txLaw ht (by unfold maxLen; omega) (keyOf_tx hr) (val := v) (d := .held v) (ps := []) rfl
  have hsz : Maps.size (D.put (.string r) (.held v)) = (putL L r v).length := by
    rw [Maps.size_put (h1.tidy txLaw), h2 r hr, h4, putL_len L h.nd]
  refine ⟨w', hrun, ⟨⟨_, ?_, fun s hs => ?_, fun s u hs hl z => ?_, hsz⟩, nodup_put h.nd r v, fun q hq => ?_⟩, hturn⟩
  · rw [← hsz]; exact own_tight hown
  · rw [lk_putL]
    split
    · rename_i e; subst e; rw [Maps.has_put_same h1.isMap (tx_key _)]; rfl
    · rename_i e; rw [Maps.has_put_other (fun e1 => e (tx_inj e1)), h2 s hs]
  · rw [lk_putL] at hl
    split at hl
    · rename_i e; subst e
      rw [Maps.atKey_put_same h1.isMap (tx_key _)]
      rw [Option.some.inj hl]
    · rename_i e
      rw [Maps.atKey_put_other (fun e1 => e (tx_inj e1))]
      exact h3 s u hs hl z
  · unfold putL at hq
    rcases List.mem_append.1 hq with h5 | h5
    · exact h.t64 q (List.mem_filter.1 h5).1
    · rw [List.mem_singleton.1 h5]; exact hr

theorem filter_len {L : List (Tx × Value)} (hn : (L.map (·.1)).Nodup) (r : Tx) : (L.filter fun q => q.1 != r).length + (if (lk L r).isSome then 1 else 0) = L.length := by
  have h1 := putL_len L hn r (.bool true)
  unfold putL at h1
  simp only [List.length_append, List.length_singleton] at h1
  split at h1 <;> simp_all <;> omega

theorem MapS.del {w : World} {b : Nat} {L : List (Tx × Value)} (h : MapS w b L) {T E : TypeId} (ht : Tryd.prog.underlying T = some (.map 9 E)) {r : Tx} (hr : T64 r) (ty : TypeId) :
    ∃ w', (Builtin.delete_ #[T, 9] ty #[.map (some b), txV r]).run Tryd.prog w = .ok (.tuple #[]) w' ∧ MapS w' b (L.filter fun q => q.1 != r) ∧ w.mapTurned w' b := by
  obtain ⟨D, h1, h2, h3, h4⟩ := h.own
  obtain ⟨w', hrun, hown, hturn⟩ := h1.drop txLaw ht (keyOf_tx hr) ty
  have hsz : Maps.size (D.del (.string r)) = (L.filter fun q => q.1 != r).length := by
    have e1 := Maps.size_del (k := .string r) (h1.tidy txLaw)
    have e2 := filter_len h.nd r
    rw [h2 r hr, h4] at e1
    omega
  refine ⟨w', hrun, ⟨⟨_, ?_, fun s hs => ?_, fun s u hs hl z => ?_, hsz⟩, List.Nodup.sublist (List.Sublist.map _ List.filter_sublist) h.nd, fun q hq => h.t64 q (List.mem_filter.1 hq).1⟩, hturn⟩
  · rw [← hsz]; exact own_tight hown
  · by_cases e : s = r
    · subst e; rw [Maps.has_del_same, lk_filter_eq]; rfl
    · rw [Maps.has_del_other (fun e1 => e (tx_inj e1)), lk_filter_ne L e, h2 s hs]
  · by_cases e : s = r
    · subst e; rw [lk_filter_eq] at hl; cases hl
    · rw [lk_filter_ne L e] at hl
      rw [Maps.atKey_del_other (fun e1 => e (tx_inj e1))]
      exact h3 s u hs hl z

theorem MapS.keep {w w' : World} {b : Nat} {L : List (Tx × Value)} (h : MapS w b L) (hb : w'.heap[b]? = w.heap[b]?) : MapS w' b L := by
  obtain ⟨D, ⟨es, clock, h1, F, h2, h3⟩, h4⟩ := h.own
  exact ⟨⟨D, ⟨es, clock, hb.trans h1, F, h2, h3⟩, h4⟩, h.nd, h.t64⟩
theorem MapS.obj {w : World} {b : Nat} {L : List (Tx × Value)} (h : MapS w b L) : ∃ es clock, w.heap[b]? = some (.map es clock) := by
  obtain ⟨D, ⟨es, clock, h1, _⟩, _⟩ := h.own
  exact ⟨es, clock, h1⟩
theorem MapS.copy {w w' : World} {b c : Nat} {L : List (Tx × Value)} (h : MapS w b L) (hb : w'.heap[c]? = w.heap[b]?) : MapS w' c L := by
  obtain ⟨D, ⟨es, clock, h1, F, h2, h3⟩, h4⟩ := h.own
  exact ⟨⟨D, ⟨es, clock, hb.trans h1, F, h2, h3⟩, h4⟩, h.nd, h.t64⟩
end Go.Proofs.YtcdpcjafomfddaaDoor
