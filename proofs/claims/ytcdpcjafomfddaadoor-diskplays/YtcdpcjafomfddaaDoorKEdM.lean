/-
  What is proved: what becomes of a disk in memory when its box, one of its maps, or one of its files is changed.
  Conditions: as each theorem says.
-/
import Derived.Test.YtcdpcjafomfddaaDoorKOpen
namespace Go.Proofs.YtcdpcjafomfddaaDoor
open Go.RowKit Go.Maps

variable {S : Nat → Prop} {w w' : World} {p fb sb : Nat} {F Z : List (Tx × Nat)} {n st : Int} {G : List Fi}

theorem cells_ne {w : World} {a b : Nat} {c d : Array Value} {T U : TypeId} (ha : w.heap[a]? = some (.cells c T)) (hb : w.heap[b]? = some (.cells d U)) (h : T ≠ U) : a ≠ b := by
  rintro rfl
  rw [ha] at hb
  injection hb with hb
  injection hb with _ hb _
  exact h hb
theorem map_ne {w : World} {a b : Nat} {c : Array Value} {T : TypeId} {L : List (Tx × Value)} (ha : w.heap[a]? = some (.cells c T)) (hb : MapS w b L) : a ≠ b := by
  rintro rfl
  obtain ⟨_, _, e⟩ := hb.obj
  rw [ha] at e
  injection e with e
  cases e

theorem FileAt.but {x : Fi} (h : FileAt S w x) (hg : w'.heap[x.g]? = w.heap[x.g]?) (hv : ∀ b, x.v.ownBlock = some b → w'.heap[b]? = w.heap[b]?) : FileAt S w' x :=
  ⟨hg.trans h.box, own_at h.row hv, h.le, h.max, h.sg, h.sv⟩
theorem FileAt.lt {x : Fi} (h : FileAt S w x) : x.g < w.heap.size := lt_of_heap h.box
theorem FileAt.vlt {x : Fi} (h : FileAt S w x) {b : Nat} (hb : x.v.ownBlock = some b) : b < w.heap.size := by obtain ⟨_, e⟩ := own_block h.row hb; exact lt_of_heap e

/-- The box is changed. -/
theorem Dk.boxed (h : Dk S w p fb sb F Z n st G) {fb' sb' : Nat} {F' Z' : List (Tx × Nat)} {n' st' : Int} (hp : w'.heap[p]? = some (.cells #[.map (some fb'), .map (some sb'), .int .i64 n', .int .i64 st'] 51))
    (hk : ∀ k, k ≠ p → k < w.heap.size → w'.heap[k]? = w.heap[k]?) (h1 : MapS w' fb' (ptrs F')) (h2 : MapS w' sb' (ptrs Z')) (hne : fb' ≠ sb') (h3 : ∀ q ∈ F', ∃ x ∈ G, x.g = q.2) (h4 : ∀ q ∈ Z', ∃ x ∈ G, x.g = q.2) (h5 : S fb') (h6 : S sb') :
    Dk S w' p fb' sb' F' Z' n' st' G :=
  ⟨hp, h1, h2, hne, fun x hx => have q := h.fi x hx; q.but (hk _ (cells_ne q.box h.box (by decide)) q.lt) (fun b hb => hk b (by obtain ⟨_, e⟩ := own_block q.row hb; exact cells_ne e h.box (by decide)) (q.vlt hb)), h3, h4, h.ap, h.sp, h5, h6⟩

theorem Dk.setN (h : Dk S w p fb sb F Z n st G) (m : Int) : Dk S (w.setCell ⟨p, 2, none⟩ (.int .i64 m)) p fb sb F Z m st G := by
  have hk : ∀ k, k ≠ p → k < w.heap.size → (w.setCell ⟨p, 2, none⟩ (.int .i64 m)).heap[k]? = w.heap[k]? := fun k hk _ => Below.heap_setCell _ _ _ _ hk
  refine h.boxed ?_ hk (h.mf.keep (hk _ (map_ne h.box h.mf).symm h.mf.lt)) (h.ms.keep (hk _ (map_ne h.box h.ms).symm h.ms.lt)) h.ne h.inF h.inZ h.sfb h.ssb
  rw [heap_setCell_same w p 2 _ _ _ h.box]
  rfl

/-- A map is changed. -/
theorem turned_other {b k : Nat} (h : w.mapTurned w' b) (hk : k ≠ b) : w'.heap[k]? = w.heap[k]? := by
  obtain ⟨es, clock, es', clock', _, rfl⟩ := h
  simp [ChangeMaps.setBlock, Ne.symm hk]
theorem turned_kp {b : Nat} (h : w.mapTurned w' b) (hb : S b) : Kp S w w' := by
  have ho := fun k (hk : k ≠ b) => turned_other h hk
  obtain ⟨es, clock, es', clock', _, rfl⟩ := h
  refine ⟨rfl, rfl, rfl, by simp [ChangeMaps.setBlock], fun k _ hn => ho k (fun e => hn (e ▸ hb))⟩
theorem Dk.turned (h : Dk S w p fb sb F Z n st G) {F' : List (Tx × Nat)} (ht : w.mapTurned w' fb) (hm : MapS w' fb (ptrs F')) (h3 : ∀ q ∈ F', ∃ x ∈ G, x.g = q.2) : Dk S w' p fb sb F' Z n st G :=
  have ho := fun k (hk : k ≠ fb) => turned_other ht hk
  ⟨(ho p (map_ne h.box h.mf)).trans h.box, hm, h.ms.keep (ho sb h.ne.symm), h.ne, fun x hx => have q := h.fi x hx; q.but (ho _ (map_ne q.box h.mf)) (fun b hb => ho b (by obtain ⟨_, e⟩ := own_block q.row hb; exact map_ne e h.mf)), h3, h.inZ, h.ap, h.sp, h.sfb, h.ssb⟩

/-- A new file. -/
theorem Dk.more (h : Dk S w p fb sb F Z n st G) {x : Fi} (hw : Below w.heap.size w w') (hx : FileAt S w' x) (hg : w.heap.size ≤ x.g) (hv : ∀ b, x.v.ownBlock = some b → w.heap.size ≤ b) : Dk S w' p fb sb F Z n st (G ++ [x]) := by
  have q := h.below hw
  refine ⟨q.box, q.mf, q.ms, q.ne, fun y hy => ?_, fun z hz => ?_, fun z hz => ?_, ?_, q.sp, q.sfb, q.ssb⟩
  · rcases List.mem_append.1 hy with hy | hy
    · exact q.fi y hy
    · rw [List.mem_singleton.1 hy]; exact hx
  · obtain ⟨y, hy, e⟩ := q.inF z hz; exact ⟨y, List.mem_append_left _ hy, e⟩
  · obtain ⟨y, hy, e⟩ := q.inZ z hz; exact ⟨y, List.mem_append_left _ hy, e⟩
  · rw [List.pairwise_append]
    refine ⟨q.ap, by simp, fun y hy z hz => ?_⟩
    rw [List.mem_singleton.1 hz]
    have f := h.fi y hy
    exact ⟨by have := f.lt; omega, fun b hb e => by have := f.vlt hb; have := hv b e; omega⟩

/-- A file is changed. -/
def upd (G : List Fi) (y : Fi) : List Fi := G.map fun x => if x.g = y.g then y else x

theorem upd_g (G : List Fi) (y : Fi) : ∀ g, (∃ x ∈ upd G y, x.g = g) ↔ ∃ x ∈ G, x.g = g := by
  intro g
  unfold upd
  constructor
  · rintro ⟨x, hx, rfl⟩
    obtain ⟨z, hz, rfl⟩ := List.mem_map.1 hx
    refine ⟨z, hz, ?_⟩
    split <;> simp_all
  · rintro ⟨x, hx, rfl⟩
    refine ⟨_, List.mem_map.2 ⟨x, hx, rfl⟩, ?_⟩
    split <;> simp_all

theorem fi_uniq {G : List Fi} (ap : G.Pairwise Apart) {a b : Fi} (ha : a ∈ G) (hb : b ∈ G) (e : a.g = b.g) : a = b := by
  rcases List.mem_iff_getElem.1 ha with ⟨i, hi, rfl⟩
  rcases List.mem_iff_getElem.1 hb with ⟨j, hj, rfl⟩
  rcases Nat.lt_trichotomy i j with h1 | h1 | h1
  · exact absurd e ((List.pairwise_iff_getElem.1 ap) i j hi hj h1).1
  · subst h1; rfl
  · exact absurd e.symm ((List.pairwise_iff_getElem.1 ap) j i hj hi h1).1

theorem Dk.refile (h : Dk S w p fb sb F Z n st G) {x y : Fi} (hx : x ∈ G) (hg : y.g = x.g) (hk : ∀ k, k < w.heap.size → k ≠ x.g → x.v.ownBlock ≠ some k → w'.heap[k]? = w.heap[k]?) (hy : FileAt S w' y)
    (hv : ∀ b, y.v.ownBlock = some b → x.v.ownBlock = some b ∨ w.heap.size ≤ b) : Dk S w' p fb sb F Z n st (upd G y) := by
  have fx := h.fi x hx
  have hne : ∀ {k : Nat} {c : Array Value} {T : TypeId}, w.heap[k]? = some (.cells c T) → T ≠ 5 → x.v.ownBlock ≠ some k := fun e hT e1 => by
    obtain ⟨_, e2⟩ := own_block fx.row e1
    exact cells_ne e e2 hT rfl
  have hmap : ∀ {k : Nat} {L : List (Tx × Value)}, MapS w k L → w'.heap[k]? = w.heap[k]? := fun hm => hk _ hm.lt (map_ne fx.box hm).symm (fun e => by
    obtain ⟨_, e2⟩ := own_block fx.row e
    exact map_ne e2 hm rfl)
  refine ⟨(hk p (lt_of_heap h.box) (cells_ne h.box fx.box (by decide)) (hne h.box (by decide))).trans h.box, h.mf.keep (hmap h.mf), h.ms.keep (hmap h.ms), h.ne, fun z hz => ?_, fun q hq => (upd_g G y q.2).2 (h.inF q hq), fun q hq => (upd_g G y q.2).2 (h.inZ q hq), ?_, h.sp, h.sfb, h.ssb⟩
  · obtain ⟨u, hu, rfl⟩ := List.mem_map.1 hz
    split
    · exact hy
    · rename_i e
      have fu := h.fi u hu
      have hap : Apart u x ∨ Apart x u := by
        have := h.ap
        rw [List.pairwise_iff_forall_sublist] at this
        have hux : u ≠ x := fun e1 => e (by rw [e1, hg])
        rcases List.mem_iff_getElem.1 hu with ⟨i, hi, rfl⟩
        rcases List.mem_iff_getElem.1 hx with ⟨j, hj, rfl⟩
        have hij : i ≠ j := fun e1 => hux (by subst e1; rfl)
        rcases Nat.lt_or_gt_of_ne hij with h1 | h1
        · exact Or.inl ((List.pairwise_iff_getElem.1 h.ap) i j hi hj h1)
        · exact Or.inr ((List.pairwise_iff_getElem.1 h.ap) j i hj hi h1)
      refine fu.but (hk _ fu.lt (fun e1 => e (e1.trans hg.symm)) (hne fu.box (by decide))) (fun b hb => hk b (fu.vlt hb) (by obtain ⟨_, e2⟩ := own_block fu.row hb; exact cells_ne e2 fx.box (by decide)) (fun e1 => ?_))
      rcases hap with hap | hap
      · exact hap.2 b hb e1
      · exact hap.2 b e1 hb
  · unfold upd
    rw [List.pairwise_map]
    refine (h.ap.imp_of_mem (S := fun a b => Apart (if a.g = y.g then y else a) (if b.g = y.g then y else b)) fun {a b} ha hb hab => ?_)
    have fa := h.fi a ha
    have fb := h.fi b hb
    by_cases e1 : a.g = y.g
    · rw [if_pos e1]
      by_cases e2 : b.g = y.g
      · exact absurd (e1.trans e2.symm) hab.1
      · rw [if_neg e2]
        have hax : a = x := fi_uniq h.ap ha hx (e1.trans hg)
        subst hax
        refine ⟨fun e => e2 e.symm, fun k hk1 e3 => ?_⟩
        rcases hv k hk1 with h1 | h1
        · exact hab.2 k h1 e3
        · have := fb.vlt e3; omega
    · rw [if_neg e1]
      by_cases e2 : b.g = y.g
      · rw [if_pos e2]
        have hbx : b = x := fi_uniq h.ap hb hx (e2.trans hg)
        subst hbx
        refine ⟨e1, fun k hk1 e3 => ?_⟩
        rcases hv k e3 with h1 | h1
        · exact hab.2 k hk1 h1
        · have := fa.vlt hk1; omega
      · rw [if_neg e2]; exact hab

set_option maxRecDepth 100000 in
/-- Bytes, appended to a file's row. -/
theorem run_appB (ty : TypeId) (W : World) (v u : Value) (rs l : Tx) (h : Row 0 v rs W) (hu : IsBytes W u l) (hw : u = .slice none 0 0 ∨ ∃ ad n c, u = .slice (some ad) n c) (hl : rs.length + l.length ≤ 100000000) :
    ∃ v' W', (Builtin.append_ #[23, 23] ty #[v, u]).run Tryd.prog W = .ok v' W' ∧ Row 0 v' (rs ++ l) W' ∧ W.grownBy W' v.ownBlock ∧ (v'.ownBlock = v.ownBlock ∨ v'.ownBlock = some W.heap.size) := by
  obtain ⟨i0, hi0, hz0, hz1, hz2⟩ := info_parts infoB
  rcases hw with rfl | ⟨ad, n, c, rfl⟩
  · have hl0 : l = [] := by
      obtain ⟨a', c', e, _⟩ := hu
      exact List.length_eq_zero_iff.1 (Value.slice.inj e).2.1.symm
    subst hl0
    refine ⟨v, W, run_append_owned_none (P := Tryd.prog) (w := W) 0 23 ty 5 i0 1 Tryd.underlying23 hi0 v rs.length _ h, ?_, ⟨rfl, rfl, rfl, Nat.le_refl _, fun _ _ _ => rfl⟩, Or.inl rfl⟩
    rw [List.append_nil]
    exact h
  · obtain ⟨a', c', e, h1, h2, h3⟩ := hu
    obtain ⟨e1, e2, e3⟩ := Value.slice.inj e
    subst e1 e2 e3
    obtain ⟨v', W', q1, q2, q3, _, q5⟩ := run_append_own_at (P := Tryd.prog) W 0 23 ty 5 i0 _ 1 _ Tryd.underlying23 hi0 hz0 hz1 hz2 rfl (by decide) v rs.length _ h ad l.length c (Lib.byteCells l) (cells_len l) (fun j u hj => by
      have hlt : j < l.length := by
        rcases Nat.lt_or_ge j l.length with h1 | h1
        · exact h1
        · rw [List.getElem?_eq_none (by simpa [Lib.byteCells] using h1)] at hj; cases hj
      obtain ⟨g', off', e, _, h5⟩ := h3 (fun e => by rw [e] at hlt; simp at hlt)
      injection e with e
      subst e
      have ea : (⟨g', off', none⟩ : Addr).add j = ⟨g', off' + j, none⟩ := by unfold Addr.add; split <;> simp_all
      rw [ea, h5 j hlt]
      simp [Lib.byteCells, hlt] at hj
      rw [hj]) (one_cell l) (by unfold maxLen; omega) (by omega) (Nat.zero_le _)
    refine ⟨v', W', q1, ?_, q3, q5⟩
    have e : Lib.byteCells (rs ++ l) = Lib.byteCells rs ++ Lib.byteCells l := by simp [Lib.byteCells]
    unfold Row
    rw [e, List.length_append]
    exact q2
end Go.Proofs.YtcdpcjafomfddaaDoor
