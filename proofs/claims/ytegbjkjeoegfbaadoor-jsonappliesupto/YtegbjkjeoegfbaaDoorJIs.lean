/-
  What is proved: trees whose rows are their own, told by the list of the blocks in which they lie: what is turned in none of them leaves the tree as it was; a tree in stretches of its own is such a one.
  Conditions: as each theorem says.
-/
import Derived.Test.YtegbjkjeoegfbaaDoorJIv
namespace Go.Proofs.YtegbjkjeoegfbaaDoor
open Go.RowKit Go.Sort

/-- The block of a row, if it has one. -/
def blk (v : Value) : List Nat := v.ownBlock.toList
/-- A row of keys of its own. -/
structure KeysS (w : World) (lo : Nat) (v : Value) (ks : List ByteArray) : Prop where
  own : w.ownsRow lo 9 1 v ks.length (scells ks)
  few : ks.length ≤ 1000
/-- A row of kids of its own. -/
structure KidsS (w : World) (lo : Nat) (v : Value) (us : List TV) : Prop where
  own : w.ownsRow lo 29 7 v us.length (tcs us)
  few : us.length ≤ 1000
/-- Trees, one after the other, and the blocks of their rows. -/
def IsGS (w : World) (lo : Nat) : JF → List TV → List Nat → Prop
  | .nil, us, S => us = [] ∧ S = []
  | .node b o x l r, us, S => (b = 0 ∧ o = 0) ∧ ∃ uk ua us' rest S1 S2, us = (x.1, uk, ua) :: rest ∧ S = (blk uk ++ (blk ua ++ S1)) ++ S2 ∧ (KeysS w lo uk x.2 ∧ KidsS w lo ua us' ∧ IsGS w lo l us' S1) ∧ IsGS w lo r rest S2
/-- A tree, and the blocks of its rows. -/
def IsTS (w : World) (lo : Nat) (S : List Nat) (u : TV) (T : JT) : Prop :=
  ∃ uk ua us' S1, u = (T.x, uk, ua) ∧ S = blk uk ++ (blk ua ++ S1) ∧ KeysS w lo uk T.ks ∧ KidsS w lo ua us' ∧ IsGS w lo T.kids us' S1

theorem own_keep {w w' : World} {lo k n : Nat} {ty : TypeId} {v : Value} {cs : List Value} (h : w.ownsRow lo ty k v n cs) (hk : ∀ b ∈ blk v, w'.heap[b]? = w.heap[b]?) : w'.ownsRow lo ty k v n cs := by
  refine ⟨h.1, ?_⟩
  rcases h.2 with h0 | ⟨g, cap, cur, e, h1, h2, h3⟩
  · exact Or.inl h0
  · exact Or.inr ⟨g, cap, cur, e, h1, (hk g (by rw [e]; exact List.mem_singleton.2 rfl)).trans h2, h3⟩
theorem own_blk {w : World} {lo k n : Nat} {ty : TypeId} {v : Value} {cs : List Value} (h : w.ownsRow lo ty k v n cs) {b : Nat} (hb : b ∈ blk v) : lo ≤ b ∧ ∃ cur, w.heap[b]? = some (.cells cur ty) := by
  rcases h.2 with ⟨e, _⟩ | ⟨g, cap, cur, e, h1, h2, _⟩
  · rw [e] at hb; cases hb
  · rw [e] at hb
    obtain rfl := List.mem_singleton.1 hb
    exact ⟨h1, cur, h2⟩
theorem blk_one (v : Value) : (blk v).Nodup := by
  unfold blk
  cases v.ownBlock with
  | none => exact List.nodup_nil
  | some g => exact List.nodup_cons.2 ⟨fun h => (by cases h), List.nodup_nil⟩
theorem IsGS.keep {w w' : World} {lo : Nat} : ∀ {f : JF} {us : List TV} {S : List Nat}, IsGS w lo f us S → (∀ k ∈ S, w'.heap[k]? = w.heap[k]?) → IsGS w' lo f us S
  | .nil, _, _, h, _ => h
  | .node _ _ _ _ _, _, _, h, hk => by
    obtain ⟨e, uk, ua, us', rest, S1, S2, e1, rfl, ⟨h1, h2, h3⟩, h4⟩ := h
    simp only [List.mem_append] at hk
    exact ⟨e, uk, ua, us', rest, S1, S2, e1, rfl, ⟨⟨own_keep h1.own (fun b hb => hk b (Or.inl (Or.inl hb))), h1.few⟩, ⟨own_keep h2.own (fun b hb => hk b (Or.inl (Or.inr (Or.inl hb)))), h2.few⟩, h3.keep (fun b hb => hk b (Or.inl (Or.inr (Or.inr hb))))⟩, h4.keep (fun b hb => hk b (Or.inr hb))⟩
theorem IsTS.keep {w w' : World} {lo : Nat} {S : List Nat} {u : TV} {T : JT} (h : IsTS w lo S u T) (hk : ∀ k ∈ S, w'.heap[k]? = w.heap[k]?) : IsTS w' lo S u T := by
  obtain ⟨uk, ua, us', S1, e, rfl, h1, h2, h3⟩ := h
  simp only [List.mem_append] at hk
  exact ⟨uk, ua, us', S1, e, rfl, ⟨own_keep h1.own (fun b hb => hk b (Or.inl hb)), h1.few⟩, ⟨own_keep h2.own (fun b hb => hk b (Or.inr (Or.inl hb))), h2.few⟩, h3.keep (fun b hb => hk b (Or.inr (Or.inr hb)))⟩
theorem KidsS.rowH {w : World} {lo : Nat} {v : Value} {us : List TV} (h : KidsS w lo v us) : ∃ a cap, v = .slice a us.length cap ∧ (us.length ≤ cap ∧ (a = none → cap = 0)) ∧ RowTH lo w a us := by
  rcases own_rowB h.own with ⟨e, hus⟩ | ⟨g, cap, e, h0, hg, hc, hr⟩
  · exact ⟨none, 0, by rw [e, hus]; rfl, ⟨by rw [hus]; exact Nat.le_refl _, fun _ => rfl⟩, fun hu => absurd hus hu⟩
  · exact ⟨_, cap, e, ⟨hc, fun e => by cases e⟩, fun _ => ⟨g, 0, rfl, hg, h0, fun i hi j hj => by rw [Nat.zero_add]; exact hr.cellAt i hi j hj⟩⟩
theorem KeysS.strsH {w : World} {lo : Nat} {v : Value} {ks : List ByteArray} (h : KeysS w lo v ks) : IsStrsH lo w v ks := own_strs h.own (by have := h.few; omega)
theorem IsGS.forestH {w : World} {lo : Nat} : ∀ {f : JF} {us : List TV} {S : List Nat}, IsGS w lo f us S → IsG (IsStrsH lo w) (RowTH lo w) f us
  | .nil, _, _, h => h.1
  | .node _ _ _ _ _, _, _, h => by
    obtain ⟨e, uk, ua, us', rest, S1, S2, e1, rfl, ⟨h1, h2, h3⟩, h4⟩ := h
    obtain ⟨a, cap, ea, hc, hr⟩ := h2.rowH
    exact ⟨e, uk, a, cap, us', rest, by rw [e1, ea], h1.strsH, hc, by have := h2.few; omega, hr, h3.forestH, h4.forestH⟩
theorem IsTS.high {w : World} {lo : Nat} {S : List Nat} {u : TV} {T : JT} (h : IsTS w lo S u T) : IsTH lo w (tval u) T := by
  obtain ⟨uk, ua, us', S1, e, rfl, h1, h2, h3⟩ := h
  obtain ⟨a, cap, ea, hc, hr⟩ := h2.rowH
  exact ⟨uk, a, cap, us', by rw [e, ea], h1.strsH, hc, by have := h2.few; omega, hr, h3.forestH⟩
theorem IsGS.low {w : World} {lo : Nat} : ∀ {f : JF} {us : List TV} {S : List Nat}, IsGS w lo f us S → ∀ k ∈ S, lo ≤ k ∧ k < w.heap.size
  | .nil, _, _, h, k, hk => by rw [h.2] at hk; cases hk
  | .node _ _ _ _ _, _, _, h, k, hk => by
    obtain ⟨e, uk, ua, us', rest, S1, S2, e1, rfl, ⟨h1, h2, h3⟩, h4⟩ := h
    simp only [List.mem_append] at hk
    rcases hk with (hk | hk | hk) | hk
    · obtain ⟨a, _, b⟩ := own_blk h1.own hk
      exact ⟨a, lt_of_heap b⟩
    · obtain ⟨a, _, b⟩ := own_blk h2.own hk
      exact ⟨a, lt_of_heap b⟩
    · exact h3.low k hk
    · exact h4.low k hk

theorem own_low {w : World} {lo lo' k n : Nat} {ty : TypeId} {v : Value} {cs : List Value} (h : w.ownsRow lo ty k v n cs) (hl : lo' ≤ lo) : w.ownsRow lo' ty k v n cs := by
  refine ⟨h.1, ?_⟩
  rcases h.2 with h0 | ⟨g, cap, cur, e, h1, h2⟩
  · exact Or.inl h0
  · exact Or.inr ⟨g, cap, cur, e, Nat.le_trans hl h1, h2⟩
theorem blk_apart {w : World} {lo n m : Nat} {uk ua : Value} {c1 c2 : List Value} (h1 : w.ownsRow lo 9 1 uk n c1) (h2 : w.ownsRow lo 29 7 ua m c2) : ∀ k ∈ blk uk, k ∉ blk ua := by
  intro k hk hk2
  obtain ⟨_, c, e1⟩ := own_blk h1 hk
  obtain ⟨_, d, e2⟩ := own_blk h2 hk2
  rw [e1] at e2
  have e3 := Option.some.inj e2
  injection e3 with _ e4
  exact absurd e4 (by decide)
/-- Trees in stretches of their own lie in blocks apart. -/
theorem IsGI.blocks {w : World} {B : Nat} : ∀ {f : JF} {us : List TV} {lo hi : Nat}, IsGI w f us lo hi → B ≤ lo → ∃ S, IsGS w B f us S ∧ S.Nodup ∧ ∀ k ∈ S, lo ≤ k ∧ k < hi
  | .nil, _, _, _, h, _ => ⟨[], ⟨h.1, rfl⟩, List.nodup_nil, fun k hk => by cases hk⟩
  | .node _ _ _ _ _, _, lo, hi, h, hB => by
    obtain ⟨e, uk, ua, us', rest, m1, m2, e1, ⟨h1, h2, h3, h4⟩, h5⟩ := h
    obtain ⟨S1, a1, a2, a3⟩ := h4.blocks (B := B) (by omega)
    have l4 := h4.le
    have l5 := h5.le
    obtain ⟨S2, b1, b2, b3⟩ := h5.blocks (B := B) (by omega)
    have hk : ∀ k ∈ blk uk, lo ≤ k ∧ k < m1 := fun k hk => ⟨(own_blk h1.own hk).1, h1.high k (Option.mem_toList.1 hk)⟩
    have ha : ∀ k ∈ blk ua, lo ≤ k ∧ k < m1 := fun k hk => ⟨(own_blk h2.own hk).1, h2.high k (Option.mem_toList.1 hk)⟩
    refine ⟨(blk uk ++ (blk ua ++ S1)) ++ S2, ⟨e, uk, ua, us', rest, S1, S2, e1, rfl, ⟨⟨own_low h1.own hB, h1.few⟩, ⟨own_low h2.own hB, h2.few⟩, a1⟩, b1⟩, ?_, ?_⟩
    · refine List.nodup_append.2 ⟨List.nodup_append.2 ⟨blk_one uk, List.nodup_append.2 ⟨blk_one ua, a2, ?_⟩, ?_⟩, b2, ?_⟩
      · intro x hx y hy exy
        have := ha x hx
        have := a3 y hy
        omega
      · intro x hx y hy exy
        rcases List.mem_append.1 hy with hy | hy
        · exact blk_apart h1.own h2.own x hx (exy ▸ hy)
        · have := hk x hx
          have := a3 y hy
          omega
      · intro x hx y hy exy
        have hy' := b3 y hy
        simp only [List.mem_append] at hx
        rcases hx with hx | hx | hx
        · have := hk x hx; omega
        · have := ha x hx; omega
        · have := a3 x hx; omega
    · intro k hx
      simp only [List.mem_append] at hx
      rcases hx with (hx | hx | hx) | hx
      · have := hk k hx; omega
      · have := ha k hx; omega
      · have := a3 k hx; omega
      · have := b3 k hx; omega
theorem IsTI.blocks {w : World} {lo hi B : Nat} {u : TV} {T : JT} (h : IsTI w lo hi u T) (hB : B ≤ lo) : ∃ S, IsTS w B S u T ∧ S.Nodup ∧ ∀ k ∈ S, lo ≤ k ∧ k < hi := by
  obtain ⟨uk, ua, us', m1, e, h1, h2, h3, h4⟩ := h
  obtain ⟨S1, a1, a2, a3⟩ := h4.blocks (B := B) (by omega)
  have l4 := h4.le
  have hk : ∀ k ∈ blk uk, lo ≤ k ∧ k < m1 := fun k hk => ⟨(own_blk h1.own hk).1, h1.high k (Option.mem_toList.1 hk)⟩
  have ha : ∀ k ∈ blk ua, lo ≤ k ∧ k < m1 := fun k hk => ⟨(own_blk h2.own hk).1, h2.high k (Option.mem_toList.1 hk)⟩
  refine ⟨blk uk ++ (blk ua ++ S1), ⟨uk, ua, us', S1, e, rfl, ⟨own_low h1.own hB, h1.few⟩, ⟨own_low h2.own hB, h2.few⟩, a1⟩, ?_, ?_⟩
  · refine List.nodup_append.2 ⟨blk_one uk, List.nodup_append.2 ⟨blk_one ua, a2, ?_⟩, ?_⟩
    · intro x hx y hy exy
      have := ha x hx
      have := a3 y hy
      omega
    · intro x hx y hy exy
      rcases List.mem_append.1 hy with hy | hy
      · exact blk_apart h1.own h2.own x hx (exy ▸ hy)
      · have := hk x hx
        have := a3 y hy
        omega
  · intro k hx
    simp only [List.mem_append] at hx
    rcases hx with hx | hx | hx
    · have := hk k hx; omega
    · have := ha k hx; omega
    · have := a3 k hx; omega
end Go.Proofs.YtegbjkjeoegfbaaDoor
