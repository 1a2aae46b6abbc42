/-
  What is proved: a row and the two lists that stand beside it, as they lie in memory, and how they go on, step by step; which thing a place lies in.
  Conditions: as each theorem says.
-/
import Derived.Test.YtebglecjajghjaaDoorTK
import Derived.Test.YtebglecjajghjaaDoorTKBad
import Derived.Test.YtebglecjajghjaaDoorTKSet
import Derived.Test.YtebglecjajghjaaDoorTPut
namespace Go.Proofs.YtebglecjajghjaaDoor
open Go.RowKit

theorem pre_succ (t : (Deep.BT Int)) (k : Nat) (h : k < t.many) : t.pre (k + 1) = t.pre k + (t.at' k).2.2 := by
  have h1 := at_item t k h
  unfold Deep.BT.pre
  obtain ⟨hk, h2⟩ := List.getElem?_eq_some_iff.1 h1
  rw [List.take_succ_eq_append_getElem hk, List.map_append, List.sum_append, h2]
  simp

theorem pre_mono (t : (Deep.BT Int)) (h : ∀ q ∈ t.items, 0 ≤ q.2 ∧ q.2 ≤ 1000000) {i j : Nat} (hij : i ≤ j) (hj : j ≤ t.many) : t.pre i ≤ t.pre j := by
  induction hij with
  | refl => exact Int.le_refl _
  | step hm ih =>
    rename_i m
    have h1 := ih (by omega)
    have h2 : t.pre m.succ = t.pre m + (t.at' m).2.2 := pre_succ t m (by omega)
    have h3 := (h _ (List.mem_of_getElem? (at_item t m (by omega)))).1
    omega

theorem pre_bounds (t : (Deep.BT Int)) (h : t.fit) (n : Nat) (hn : n < t.many) : (0 ≤ t.pre n ∧ t.pre n ≤ 1000000000000) ∧ (0 ≤ (t.at' n).2.2 ∧ (t.at' n).2.2 ≤ 1000000) := by
  have h1 := pre_mono t h.2 (Nat.le_of_lt hn) (Nat.le_refl _)
  rw [pre_all] at h1
  have h2 := h.wide
  exact ⟨⟨pre_pos t (fun q hq => (h.2 q hq).1) n, by omega⟩, h.2 _ (List.mem_of_getElem? (at_item t n hn))⟩

/-- A place lies in one thing alone. -/
theorem find_is (t : (Deep.BT Int)) (h : ∀ q ∈ t.items, 0 ≤ q.2 ∧ q.2 ≤ 1000000) (n : Nat) (hn : n < t.many) (a : Int) (h1 : t.pre n ≤ a) (h2 : a < t.pre n + (t.at' n).2.2) : t.find a = n := by
  have hp := pre_pos t (fun q hq => (h q hq).1) n
  have hw : t.pre n + (t.at' n).2.2 ≤ t.wide := by
    rw [← pre_succ t n hn, ← pre_all]
    exact pre_mono t h hn (Nat.le_refl _)
  obtain ⟨f1, f2, f3⟩ := find_spec t (fun q hq => (h q hq).1) a (by omega) (by omega)
  rw [← pre_succ t _ f1] at f3
  rw [← pre_succ t n hn] at h2
  rcases Nat.lt_trichotomy (t.find a) n with e | e | e
  · have := pre_mono t h (show t.find a + 1 ≤ n from e) (by omega)
    omega
  · exact e
  · have := pre_mono t h (show n + 1 ≤ t.find a from e) (by omega)
    omega

/-- The things, and their widths. -/
abbrev _root_.Go.Deep.BT.ths (t : (Deep.BT Int)) : List Int := t.items.map (·.1)
abbrev _root_.Go.Deep.BT.wds (t : (Deep.BT Int)) : List Int := t.items.map (·.2)

theorem ths_len (t : (Deep.BT Int)) : t.ths.length = t.many := by rw [List.length_map, items_len]
theorem wds_len (t : (Deep.BT Int)) : t.wds.length = t.many := by rw [List.length_map, items_len]
theorem ths_at (t : (Deep.BT Int)) (k : Nat) (h : k < t.many) : t.ths[k]? = some (t.at' k).2.1 := by rw [List.getElem?_map, at_item t k h]; rfl
theorem wds_at (t : (Deep.BT Int)) (k : Nat) (h : k < t.many) : t.wds[k]? = some (t.at' k).2.2 := by rw [List.getElem?_map, at_item t k h]; rfl

theorem rowI_kp {B : Nat} {v : Value} {l : List Int} {w w' : World} {S : List Nat} (h : RowI B v l w) (K : Kp S w w') (hS : ∀ z, v.ownBlock = some z → z ∉ S) : RowI B v l w' := by
  refine ⟨h.1, ?_⟩
  rcases h.2 with h0 | ⟨g, cap, cur, rfl, hg, hh, hc⟩
  · exact Or.inl h0
  · exact Or.inr ⟨g, cap, cur, rfl, hg, K.heap hh (hS g rfl), hc⟩

theorem rowI_off {B : Nat} {v : Value} {l : List Int} {w : World} {t : (Deep.BT Int)} {lo g k : Nat} (h : RowI B v l w) (R : IsRow w lo g t k) : ∀ z, v.ownBlock = some z → z ∉ g :: t.blocks := by
  intro z hz
  rcases h.2 with ⟨rfl, _⟩ | ⟨b, cap, cur, rfl, hg, hh, hc⟩
  · cases hz
  · obtain rfl : b = z := by simpa [Value.ownBlock] using hz
    simp only [List.mem_cons, not_or]
    exact ⟨off_row R.row hh (by decide), off_kind R.at_ hh (by decide)⟩

theorem rowI_low {B C : Nat} {v : Value} {l : List Int} {w : World} (h : RowI B v l w) (hB : C ≤ B) : RowI C v l w := by
  refine ⟨h.1, ?_⟩
  rcases h.2 with h0 | ⟨g, cap, cur, rfl, hg, hh, hc⟩
  · exact Or.inl h0
  · exact Or.inr ⟨g, cap, cur, rfl, Nat.le_trans hB hg, hh, hc⟩

theorem rowI_cell {B : Nat} {v : Value} {l : List Int} {w : World} (h : RowI B v l w) {k : Nat} {x : Int} (hk : l[k]? = some x) : ∃ b cap, v = .slice (some ⟨b, 0, none⟩) l.length cap ∧ l.length ≤ cap ∧ b < w.heap.size ∧ w.cell? ⟨b, k, none⟩ = some (.int .i64 x) ∧ w.frozen? ⟨b, k, none⟩ = false := by
  obtain ⟨hlt, hx⟩ := List.getElem?_eq_some_iff.1 hk
  rcases h.2 with ⟨rfl, h0⟩ | ⟨g, cap, cur, rfl, hg, hh, hc, hm, hz, ht⟩
  · omega
  · refine ⟨g, cap, rfl, hc, lt_of_heap hh, ?_, Lib.frozen_of_heap hh _⟩
    have := h.cellAt k (by omega)
    rw [this]
    simp [hlt, hx]

/-- The row, and the two lists. -/
structure Ply (w : World) (g n : Nat) (t : (Deep.BT Int)) (kk : Nat) (tv wv : Value) (wr : World) : Prop where
  row : IsRow wr w.heap.size g t kk
  th : RowI w.heap.size tv t.ths wr
  wd : RowI w.heap.size wv t.wds wr
  ap : ∀ z, tv.ownBlock = some z → wv.ownBlock ≠ some z
  i64 : ∀ q ∈ t.items, I64 q.1
  mny : t.many ≤ n
  cst : kk ≤ n * 4000
  bel : Below w.heap.size w wr

section
variable {w : World} {g n : Nat} {t : (Deep.BT Int)} {kk : Nat} {tv wv : Value} {wr : World}

theorem Ply.i64w (h : Ply w g n t kk tv wv wr) : ∀ x ∈ t.wds, I64 x := by
  intro x hx
  obtain ⟨q, hq, rfl⟩ := List.mem_map.1 hx
  have := h.row.itm q hq
  unfold I64
  omega
theorem Ply.i64t (h : Ply w g n t kk tv wv wr) : ∀ x ∈ t.ths, I64 x := by
  intro x hx
  obtain ⟨q, hq, rfl⟩ := List.mem_map.1 hx
  exact h.i64 q hq

theorem Ply.below {w' : World} (h : Ply w g n t kk tv wv wr) (b : Below wr.heap.size wr w') : Ply w g n t kk tv wv w' :=
  ⟨h.row.below b, rowI_kp h.th (Kp.of (S := []) b) (by simp), rowI_kp h.wd (Kp.of (S := []) b) (by simp), h.ap, h.i64, h.mny, h.cst, h.bel.trans (b.mono h.bel.size)⟩

theorem Ply.next {m : Nat} (h : Ply w g n t kk tv wv wr) (hm : n ≤ m) : Ply w g m t kk tv wv wr :=
  ⟨h.row, h.th, h.wd, h.ap, h.i64, Nat.le_trans h.mny hm, Nat.le_trans h.cst (Nat.mul_le_mul_right _ hm), h.bel⟩

theorem kp_low {lo : Nat} {k : Nat} {w' : World} (R : IsRow wr lo g t k) (K : Kp (g :: t.blocks) wr w') : Below lo wr w' :=
  K.below (fun b hb => by
    rcases List.mem_cons.1 hb with h | h
    · rw [h]; exact R.low.1
    · exact R.low.2 b h) R.lo_le

/-- What was looked at is counted. -/
theorem Ply.count {k' : Nat} {w' : World} (h : Ply w g n t kk tv wv wr) (R : IsRow w' w.heap.size g t k') (K : Kp (g :: t.blocks) wr w') (hk : k' ≤ (n + 1) * 4000) : Ply w g (n + 1) t k' tv wv w' :=
  ⟨R, rowI_kp h.th K (rowI_off h.th h.row), rowI_kp h.wd K (rowI_off h.wd h.row), h.ap, h.i64, Nat.le_succ_of_le h.mny, hk, h.bel.trans (kp_low h.row K)⟩

theorem Ply.wcell {wa : Option Addr} {N wc j : Nat} (h : Ply w g n t kk tv (.slice wa N wc) wr) (hj : j < t.many) : ∃ b, wa = some ⟨b, 0, none⟩ ∧ b < wr.heap.size ∧ wr.cell? ⟨b, j, none⟩ = some (.int .i64 (t.at' j).2.2) := by
  obtain ⟨b, cap, e, _, h1, h2, _⟩ := rowI_cell h.wd (wds_at t j hj)
  injection e with e1
  exact ⟨b, e1, h1, h2⟩

theorem Ply.psum {j : Nat} (h : Ply w g n t kk tv wv wr) (hj : j < t.many) : wrap64 (t.pre j + (t.at' j).2.2) = t.pre (j + 1) := by
  rw [pre_succ t j hj]
  have := pre_bounds t h.row.fit j hj
  unfold wrap64
  omega

theorem Ply.high (h : Ply w g n t kk tv wv wr) : t.high ≤ n := Nat.le_trans (high_many t) h.mny

theorem rowI_new {B : Nat} {v : Value} {l l' : List Int} {w w' : World} {u : Value} (h : RowI B v l w) (hu : RowI w.heap.size u l' w') : ∀ z, v.ownBlock = some z → u.ownBlock ≠ some z := by
  intro z hz e
  have h1 := (h.lt z hz).2
  have h2 := (hu.lt z e).1
  omega

/-- A thing has come in. -/
theorem Ply.ins {b a k' : Nat} {x u : Int} {w1 w2 w3 : World} {tu wu : Value} (h : Ply w g n t kk tv wv wr) (ha : a ≤ t.many) (hx : I64 x) (R : IsRow w1 w.heap.size g (insT b x u t a) k') (K : Kp (g :: t.blocks) wr w1) (hk : k' ≤ (n + 1) * 4000)
    (T : RowI w1.heap.size tu (t.ths.take a ++ x :: t.ths.drop a) w2) (B2 : Below w1.heap.size w1 w2) (W : RowI w2.heap.size wu (t.wds.take a ++ u :: t.wds.drop a) w3) (B3 : Below w2.heap.size w2 w3) : Ply w g (n + 1) (insT b x u t a) k' tu wu w3 := by
  have hi := items_ins b x u t a ha
  have e1 : (insT b x u t a).ths = t.ths.take a ++ x :: t.ths.drop a := by simp only [Deep.BT.ths, hi]; simp [List.map_take, List.map_drop]
  have e2 : (insT b x u t a).wds = t.wds.take a ++ u :: t.wds.drop a := by simp only [Deep.BT.wds, hi]; simp [List.map_take, List.map_drop]
  have hz1 : w.heap.size ≤ w1.heap.size := R.lo_le
  have hz2 : w.heap.size ≤ w2.heap.size := Nat.le_trans hz1 B2.size
  refine ⟨(R.below B2).below B3, ?_, ?_, ?_, ?_, ?_, hk, ((h.bel.trans (kp_low h.row K)).trans (B2.mono hz1)).trans (B3.mono hz2)⟩
  · rw [e1]; exact rowI_low (rowI_kp T (Kp.of (S := []) B3) (by simp)) hz1
  · rw [e2]; exact rowI_low W hz2
  · exact rowI_new T W
  · intro q hq
    rw [hi] at hq
    simp only [List.mem_append, List.mem_cons] at hq
    rcases hq with h1 | h1 | h1
    · exact h.i64 q (List.mem_of_mem_take h1)
    · rw [h1]; exact hx
    · exact h.i64 q (List.mem_of_mem_drop h1)
  · have := congrArg List.length hi
    rw [items_len, List.length_append, List.length_cons, List.length_take, List.length_drop, items_len] at this
    have := h.mny
    omega

/-- A thing has gone. -/
theorem Ply.rem {a k' : Nat} {w1 w2 w3 : World} {tu wu : Value} (h : Ply w g n t kk tv wv wr) (ha : a < t.many) (R : IsRow w1 w.heap.size g (remT t a) k') (K : Kp (g :: t.blocks) wr w1) (hk : k' ≤ (n + 1) * 4000)
    (T : RowI w1.heap.size tu (t.ths.take a ++ t.ths.drop (a + 1)) w2) (B2 : Below w1.heap.size w1 w2) (W : RowI w2.heap.size wu (t.wds.take a ++ t.wds.drop (a + 1)) w3) (B3 : Below w2.heap.size w2 w3) : Ply w g (n + 1) (remT t a) k' tu wu w3 := by
  have hi := items_rem t a ha
  have e1 : (remT t a).ths = t.ths.take a ++ t.ths.drop (a + 1) := by simp only [Deep.BT.ths, hi]; simp [List.map_take, List.map_drop]
  have e2 : (remT t a).wds = t.wds.take a ++ t.wds.drop (a + 1) := by simp only [Deep.BT.wds, hi]; simp [List.map_take, List.map_drop]
  have hz1 : w.heap.size ≤ w1.heap.size := R.lo_le
  have hz2 : w.heap.size ≤ w2.heap.size := Nat.le_trans hz1 B2.size
  refine ⟨(R.below B2).below B3, ?_, ?_, ?_, ?_, ?_, hk, ((h.bel.trans (kp_low h.row K)).trans (B2.mono hz1)).trans (B3.mono hz2)⟩
  · rw [e1]; exact rowI_low (rowI_kp T (Kp.of (S := []) B3) (by simp)) hz1
  · rw [e2]; exact rowI_low W hz2
  · exact rowI_new T W
  · intro q hq
    rw [hi] at hq
    simp only [List.mem_append] at hq
    rcases hq with h1 | h1
    · exact h.i64 q (List.mem_of_mem_take h1)
    · exact h.i64 q (List.mem_of_mem_drop h1)
  · have := congrArg List.length hi
    rw [items_len, List.length_append, List.length_take, List.length_drop, items_len] at this
    have := h.mny
    omega

/-- A width in the list is made another one. -/
theorem rowI_set {B b cap k : Nat} {l : List Int} {w : World} {u : Int} (h : RowI B (.slice (some ⟨b, 0, none⟩) l.length cap) l w) (hk : k < l.length) : RowI B (.slice (some ⟨b, 0, none⟩) (l.set k u).length cap) (l.set k u) (w.setCell ⟨b, k, none⟩ (.int .i64 u)) := by
  refine ⟨by simp, ?_⟩
  rcases h.2 with ⟨e, h0⟩ | ⟨g, cap', cur, e, hg, hh, hc, hm, hz, ht⟩
  · omega
  · injection e with e1 e2 e3
    injection e1 with e1
    injection e1 with e1
    subst e1 e3
    refine Or.inr ⟨b, cap, cur.setIfInBounds k (.int .i64 u), rfl, hg, set_at hh k _, by simpa using hc, hm, by simpa using hz, ?_⟩
    rw [Array.toList_setIfInBounds, List.length_set, Nat.mul_one, List.take_set, show List.take l.length cur.toList = intCells l from by simpa using ht]
    simp [List.map_set]

theorem Ply.set {a k' b cap : Nat} {u : Int} {w1 : World} (h : Ply w g n t kk tv (.slice (some ⟨b, 0, none⟩) t.wds.length cap) wr) (ha : a < t.many) (R : IsRow w1 w.heap.size g (setT t a u) k') (K : Kp (g :: t.blocks) (wr.setCell ⟨b, a, none⟩ (.int .i64 u)) w1) (hk : k' ≤ (n + 1) * 4000) : Ply w g (n + 1) (setT t a u) k' tv (.slice (some ⟨b, 0, none⟩) t.wds.length cap) w1 := by
  have hi := items_set t a u ha
  have hb := h.wd.lt b rfl
  have hob := rowI_off h.wd h.row b rfl
  have KB : Kp [b] wr (wr.setCell ⟨b, a, none⟩ (.int .i64 u)) := (Kp.refl _ wr).set (by simp) _ _
  have R0 : IsRow (wr.setCell ⟨b, a, none⟩ (.int .i64 u)) w.heap.size g t kk := ⟨KB.heap h.row.row (fun e => hob (by rw [List.mem_singleton.1 e]; simp)), h.row.at_.kp KB (fun z hz e => hob (by rw [← List.mem_singleton.1 e]; simp [hz])), h.row.nd, h.row.low, h.row.itm, h.row.mny⟩
  have W0 : RowI w.heap.size (.slice (some ⟨b, 0, none⟩) (t.wds.set a u).length cap) (t.wds.set a u) (wr.setCell ⟨b, a, none⟩ (.int .i64 u)) := rowI_set h.wd (by rw [wds_len]; exact ha)
  have T0 : RowI w.heap.size tv t.ths (wr.setCell ⟨b, a, none⟩ (.int .i64 u)) := rowI_kp h.th KB (fun z hz e => h.ap z hz (by rw [List.mem_singleton.1 e]; rfl))
  have e1 : (setT t a u).ths = t.ths := by
    simp only [Deep.BT.ths, hi, List.map_set]
    obtain ⟨hlt, hx⟩ := List.getElem?_eq_some_iff.1 (ths_at t a ha)
    refine List.ext_getElem (by simp) fun i h1 h2 => ?_
    rw [List.getElem_set]
    split
    · rename_i e
      subst e
      exact hx.symm
    · rfl
  have e2 : (setT t a u).wds = t.wds.set a u := by simp only [Deep.BT.wds, hi, List.map_set]
  have B0 : Below w.heap.size wr (wr.setCell ⟨b, a, none⟩ (.int .i64 u)) := KB.below (fun z hz => by rw [List.mem_singleton.1 hz]; exact hb.1) h.bel.size
  refine ⟨R, ?_, ?_, h.ap, ?_, ?_, hk, (h.bel.trans B0).trans (kp_low R0 K)⟩
  · rw [e1]; exact rowI_kp T0 K (rowI_off T0 R0)
  · rw [e2]
    have := rowI_kp W0 K (rowI_off W0 R0)
    rw [List.length_set] at this
    exact this
  · intro q hq
    rw [hi] at hq
    rcases List.mem_or_eq_of_mem_set hq with h1 | h1
    · exact h.i64 q h1
    · rw [h1]; exact h.i64 (t.at' a).2 (List.mem_of_getElem? (at_item t a ha))
  · rw [many_set]; exact Nat.le_succ_of_le h.mny

theorem Ply.setRow {a b cap : Nat} {u : Int} (h : Ply w g n t kk tv (.slice (some ⟨b, 0, none⟩) t.wds.length cap) wr) : IsRow (wr.setCell ⟨b, a, none⟩ (.int .i64 u)) w.heap.size g t kk := by
  have hob := rowI_off h.wd h.row b rfl
  have KB : Kp [b] wr (wr.setCell ⟨b, a, none⟩ (.int .i64 u)) := (Kp.refl _ wr).set (by simp) _ _
  exact ⟨KB.heap h.row.row (fun e => hob (by rw [List.mem_singleton.1 e]; simp)), h.row.at_.kp KB (fun z hz e => hob (by rw [← List.mem_singleton.1 e]; simp [hz])), h.row.nd, h.row.low, h.row.itm, h.row.mny⟩
end

/-- What the law looks for: an error's number, an index, and how far within it. -/
def fres (t : (Deep.BT Int)) (K : Int) (j : Nat) : Int × Int × Int := if 0 ≤ K ∧ K < t.pre j then (0, (t.find K : Int), K - t.pre (t.find K)) else (1, 0, 0)

theorem pre_zero (t : (Deep.BT Int)) : t.pre 0 = 0 := by simp [Deep.BT.pre]
theorem fres_zero (t : (Deep.BT Int)) (K : Int) : fres t K 0 = (1, 0, 0) := by
  unfold fres
  rw [pre_zero, if_neg (by omega)]
theorem fres_lo (t : (Deep.BT Int)) (h : ∀ q ∈ t.items, 0 ≤ q.2 ∧ q.2 ≤ 1000000) (K : Int) (j : Nat) (hj : j < t.many) (h1 : K < t.pre j) : fres t K (j + 1) = fres t K j := by
  have h2 := pre_mono t h (show j ≤ j + 1 from Nat.le_succ j) hj
  unfold fres
  by_cases h0 : 0 ≤ K
  · rw [if_pos ⟨h0, by omega⟩, if_pos ⟨h0, h1⟩]
  · rw [if_neg (fun e => h0 e.1), if_neg (fun e => h0 e.1)]
theorem fres_hit (t : (Deep.BT Int)) (h : ∀ q ∈ t.items, 0 ≤ q.2 ∧ q.2 ≤ 1000000) (K : Int) (j : Nat) (hj : j < t.many) (h1 : t.pre j ≤ K) (h2 : K < t.pre (j + 1)) : fres t K (j + 1) = (0, (j : Int), K - t.pre j) := by
  have h0 := pre_pos t (fun q hq => (h q hq).1) j
  have h3 := pre_succ t j hj
  have e : t.find K = j := find_is t h j hj K h1 (by omega)
  unfold fres
  rw [if_pos ⟨by omega, h2⟩, e]
theorem fres_hi (t : (Deep.BT Int)) (h : ∀ q ∈ t.items, 0 ≤ q.2 ∧ q.2 ≤ 1000000) (K : Int) (j : Nat) (hj : j < t.many) (h1 : t.pre (j + 1) ≤ K) : fres t K (j + 1) = fres t K j := by
  have h2 := pre_mono t h (show j ≤ j + 1 from Nat.le_succ j) hj
  unfold fres
  rw [if_neg (fun e => by have := e.2; omega), if_neg (fun e => by have := e.2; omega)]
theorem fres_none (t : (Deep.BT Int)) (K : Int) (h : ¬ (0 ≤ K ∧ K < t.wide)) : fres t K t.many = (1, 0, 0) := by
  unfold fres
  rw [pre_all, if_neg h]
theorem fres_some (t : (Deep.BT Int)) (K : Int) (h : 0 ≤ K ∧ K < t.wide) : fres t K t.many = (0, (t.find K : Int), K - t.pre (t.find K)) := by
  unfold fres
  rw [pre_all, if_pos h]

/-- Ahead, at an index or at the end. -/
theorem kahead_le (t : (Deep.BT Int)) (a : Nat) (lo g k : Nat) (w : World) (hk : k + 2 * t.high ≤ 4611686018427382000) (h : IsRow w lo g t k) (ha : a ≤ t.many) :
    Calls Tryd.prog 15 #[.pointer (some ⟨g, 0, none⟩), .int .i64 (a : Int)] w fun e w' => e = .returned (.tuple #[.int .i64 (t.pre a), .nilIface]) ∧ (∃ k', IsRow w' lo g t k' ∧ k' ≤ k + 2 * t.high) ∧ Kp (g :: t.blocks) w w' := by
  rcases Nat.lt_or_ge a t.many with h1 | h1
  · exact kahead_ok t a lo g k w hk h h1
  · obtain rfl : a = t.many := by omega
    rw [pre_all]
    refine (kahead_end t lo g k w h).mono ?_
    rintro e w' ⟨rfl, h2, h3⟩
    exact ⟨rfl, ⟨k, h2, by omega⟩, h3⟩
end Go.Proofs.YtebglecjajghjaaDoor
