/-
  What is proved: texts put into a rising row one by one come to stand in their order; a row of texts of one's own.
  Conditions: as each theorem says.
-/
import Derived.Test.YtcdpcjafomfddaaDoorQDoM
import Derived.Sort.Walk0
namespace Go.Proofs.YtcdpcjafomfddaaDoor
open Go.RowKit Go.Maps Go.Sort Go.Shelf

/-- Texts that rise. -/
def Rise (l : List Tx) : Prop := l.Pairwise fun x y => x ≤ y

/-- A text at its place. -/
theorem rise_put {l : List Tx} {n : Nat} {t : Tx} (h : Rise l) (hn : n ≤ l.length) (h1 : ∀ i x, i < n → l[i]? = some x → x < t) (h2 : ∀ x, l[n]? = some x → ¬ x < t) : Rise (l.take n ++ t :: l.drop n) := by
  unfold Rise at *
  have hd : ∀ x ∈ l.drop n, t ≤ x := fun x hx => by
    rcases Nat.lt_or_ge n l.length with hl | hl
    · have e : l.drop n = l[n] :: l.drop (n + 1) := List.drop_eq_getElem_cons hl
      have h3 := h2 l[n] (List.getElem?_eq_getElem hl)
      rw [e] at hx
      rcases List.mem_cons.1 hx with rfl | hx
      · exact List.not_lt.1 h3
      · have hp := List.Pairwise.sublist (List.drop_sublist n l) h
        rw [e] at hp
        exact List.le_trans (List.not_lt.1 h3) ((List.pairwise_cons.1 hp).1 x hx)
    · rw [List.drop_eq_nil_of_le hl] at hx; cases hx
  rw [List.pairwise_append]
  refine ⟨List.Pairwise.sublist (List.take_sublist n l) h, List.pairwise_cons.2 ⟨hd, List.Pairwise.sublist (List.drop_sublist n l) h⟩, fun x hx y hy => ?_⟩
  have hxt : x < t := by
    obtain ⟨i, hi, rfl⟩ := List.mem_iff_getElem.1 hx
    have hi' : i < n := by rw [List.length_take] at hi; omega
    exact h1 i _ hi' (by rw [List.getElem_take]; exact List.getElem?_eq_getElem _)
  rcases List.mem_cons.1 hy with rfl | hy
  · exact List.le_of_lt hxt
  · exact List.le_trans (List.le_of_lt hxt) (hd y hy)

theorem perm_put {l m : List Tx} {n : Nat} {t : Tx} (h : l.Perm m) : (l.take n ++ t :: l.drop n).Perm (m ++ [t]) := by
  refine (List.perm_middle).trans ?_
  rw [List.take_append_drop]
  exact (List.Perm.cons t h).trans (List.perm_append_singleton t m).symm

theorem rise_sort {l m : List Tx} (h : Rise l) (hp : l.Perm m) : l = sortT m := by
  have tr : ∀ a b c : Tx, leB a b = true → leB b c = true → leB a c = true := fun a b c h1 h2 => by simp only [leB, decide_eq_true_eq] at *; exact List.le_trans h1 h2
  have tot : ∀ a b : Tx, (leB a b || leB b a) = true := fun a b => by simp only [leB, Bool.or_eq_true, decide_eq_true_eq]; exact List.le_total a b
  refine List.Perm.eq_of_pairwise (le := fun a b => leB a b = true) (fun a b _ _ h1 h2 => ?_) ?_ (List.pairwise_mergeSort tr tot m) (hp.trans (List.mergeSort_perm m leB).symm)
  · simp only [leB, decide_eq_true_eq] at h1 h2
    exact List.le_antisymm h1 h2
  · exact h.imp (fun h => by simpa [leB] using h)

/-- A row of texts. -/
abbrev RowT (v : Value) (l : List Tx) (w : World) : Prop := w.ownsRow 0 9 1 v l.length (l.map encStr)
theorem infoS : (Tryd.prog.info? 9).map (fun i => (i.zero, i.size, i.bytes)) = some (some (.string ⟨#[]⟩), 1, 16) := by kernel_rfl

/-- Texts that lie in memory, to be read. -/
def TxAt (w : World) (u : Value) (l : List Tx) : Prop := (u = .slice none 0 0 ∧ l = []) ∨ ∃ b o c, u = .slice (some ⟨b, o, none⟩) l.length c ∧ ∀ i t, l[i]? = some t → w.cell? ⟨b, o + i, none⟩ = some (encStr t)

theorem run_appT (ty : TypeId) (W : World) (v u : Value) (rs l : List Tx) (h : RowT v rs W) (hu : TxAt W u l) (hl : rs.length + l.length ≤ 1000000) :
    ∃ v' W', (Builtin.append_ #[37, 37] ty #[v, u]).run Tryd.prog W = .ok v' W' ∧ RowT v' (rs ++ l) W' ∧ W.grownBy W' v.ownBlock ∧ (v'.ownBlock = v.ownBlock ∨ v'.ownBlock = some W.heap.size) := by
  obtain ⟨i0, hi0, hz0, hz1, hz2⟩ := info_parts infoS
  rcases hu with ⟨rfl, rfl⟩ | ⟨b, o, c, rfl, hc⟩
  · refine ⟨v, W, run_append_owned_none (P := Tryd.prog) (w := W) 0 37 ty 9 i0 1 Tryd.underlying37 hi0 v rs.length _ h, ?_, ⟨rfl, rfl, rfl, Nat.le_refl _, fun _ _ _ => rfl⟩, Or.inl rfl⟩
    rw [List.append_nil]
    exact h
  · obtain ⟨v', W', q1, q2, q3, _, q5⟩ := run_append_own_at (P := Tryd.prog) W 0 37 ty 9 i0 _ 1 _ Tryd.underlying37 hi0 hz0 hz1 hz2 rfl (by decide) v rs.length _ h ⟨b, o, none⟩ l.length c (l.map encStr) (by rw [List.length_map, Nat.mul_one]) (fun j y hj => by
      rw [List.getElem?_map] at hj
      obtain ⟨t, ht, rfl⟩ := Option.map_eq_some_iff.1 hj
      have ea : (⟨b, o, none⟩ : Addr).add j = ⟨b, o + j, none⟩ := by unfold Addr.add; split <;> simp_all
      rw [ea]
      exact hc j t ht) (fun y hy => by obtain ⟨t, _, rfl⟩ := List.mem_map.1 hy; rfl) (by unfold maxLen; omega) (by omega) (Nat.zero_le _)
    refine ⟨v', W', q1, ?_, q3, q5⟩
    show World.ownsRow _ _ _ _ _ _ _
    rw [List.map_append, List.length_append]
    exact q2

theorem rowT_form {v : Value} {l : List Tx} {w : World} (h : RowT v l w) : ∃ a c, v = .slice a l.length c := by
  rcases h.2 with ⟨rfl, h0⟩ | ⟨g, cap, cur, rfl, _⟩
  · exact ⟨none, 0, by rw [h0]⟩
  · exact ⟨_, _, rfl⟩
theorem rowT_get {a : Option Addr} {m c : Nat} {l : List Tx} {w : World} (h : RowT (.slice a m c) l w) {i : Nat} {t : Tx} (hi : l[i]? = some t) : ∃ b, a = some ⟨b, 0, none⟩ ∧ w.cell? ⟨b, i, none⟩ = some (.string ⟨t.toArray⟩) := by
  have hl := (List.getElem?_eq_some_iff.1 hi).1
  rcases h.2 with ⟨e, h0⟩ | ⟨g, cap, cur, e, _⟩
  · omega
  · obtain ⟨e1, e2, e3⟩ := Value.slice.inj e
    subst e1 e2 e3
    refine ⟨g, rfl, ?_⟩
    rw [h.cellAt i (by omega), List.getElem?_map, hi]
    rfl
/-- The two halves of a row of texts, to be read. -/
theorem rowT_cut {v : Value} {l : List Tx} {w : World} (h : RowT v l w) (n : Nat) (hn : n ≤ l.length) :
    (v = .slice none 0 0 ∧ l = []) ∨ ∃ b c, v = .slice (some ⟨b, 0, none⟩) l.length c ∧ l.length ≤ c ∧ TxAt w (.slice (some ⟨b, 0, none⟩) n c) (l.take n) ∧ TxAt w (.slice (some ⟨b, n, none⟩) (l.length - n) (c - n)) (l.drop n) ∧ TxAt w (.slice (some ⟨b, 0, none⟩) 0 0) [] := by
  rcases h.2 with ⟨rfl, h0⟩ | ⟨b, c, cur, rfl, _, _, hc, _⟩
  · exact Or.inl ⟨rfl, List.length_eq_zero_iff.1 h0⟩
  · have key : ∀ i t, l[i]? = some t → w.cell? ⟨b, i, none⟩ = some (encStr t) := fun i t hi => by
      obtain ⟨b', e, hc'⟩ := rowT_get h hi
      injection e with e
      injection e with e
      subst e
      exact hc'
    refine Or.inr ⟨b, c, rfl, hc, Or.inr ⟨b, 0, c, by rw [List.length_take, Nat.min_eq_left hn], fun i t hi => ?_⟩, Or.inr ⟨b, n, c - n, by rw [List.length_drop], fun i t hi => ?_⟩, Or.inr ⟨b, 0, 0, rfl, fun i t hi => by simp at hi⟩⟩
    · rw [Nat.zero_add]
      refine key i t ?_
      rw [List.getElem?_take] at hi
      split at hi
      · exact hi
      · cases hi
    · rw [List.getElem?_drop] at hi
      exact key (n + i) t hi
end Go.Proofs.YtcdpcjafomfddaaDoor
