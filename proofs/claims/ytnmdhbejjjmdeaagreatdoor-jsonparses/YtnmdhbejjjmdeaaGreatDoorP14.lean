/-
  What is proved: trees whose rows are their own, each in a stretch of memory of its own: what is turned within the stretch of one leaves the others as they were. trees whose rows are their own, told by the list of the blocks in which they lie: what is turned in none of them leaves the tree as it was; a tree in stretches of its own is such a one.
  Conditions: as each theorem says.
-/
import Derived.Test.YtnmdhbejjjmdeaaGreatDoorP08
import Derived.Test.YtnmdhbejjjmdeaaGreatDoorP09
namespace Go.Proofs.YtnmdhbejjjmdeaaGreatDoor
open Go.RowKit Go.Sort

/-- A row of keys of its own, in a stretch. -/
structure KeysI (w : World) (lo hi : Nat) (v : Value) (ks : List ByteArray) : Prop where
  own : w.ownsRow lo 9 1 v ks.length (scells ks)
  few : ks.length ≤ 1000
  high : ∀ g, v.ownBlock = some g → g < hi
/-- A row of kids of its own, in a stretch. -/
structure KidsI (w : World) (lo hi : Nat) (v : Value) (us : List TV) : Prop where
  own : w.ownsRow lo 29 7 v us.length (tcs us)
  few : us.length ≤ 1000
  high : ∀ g, v.ownBlock = some g → g < hi
/-- Trees, one after the other, each in a stretch of its own. -/
def IsGI (w : World) : JF → List TV → Nat → Nat → Prop
  | .nil, us, lo, hi => us = [] ∧ lo ≤ hi
  | .node b o x l r, us, lo, hi => (b = 0 ∧ o = 0) ∧ ∃ uk ua us' rest m1 m2, us = (x.1, uk, ua) :: rest ∧ (KeysI w lo m1 uk x.2 ∧ KidsI w lo m1 ua us' ∧ lo ≤ m1 ∧ IsGI w l us' m1 m2) ∧ IsGI w r rest m2 hi
/-- A tree in a stretch of its own. -/
def IsTI (w : World) (lo hi : Nat) (u : TV) (T : JT) : Prop :=
  ∃ uk ua us' m1, u = (T.x, uk, ua) ∧ KeysI w lo m1 uk T.ks ∧ KidsI w lo m1 ua us' ∧ lo ≤ m1 ∧ IsGI w T.kids us' m1 hi

theorem IsGI.le {w : World} : ∀ {f : JF} {us : List TV} {lo hi : Nat}, IsGI w f us lo hi → lo ≤ hi
  | .nil, _, _, _, h => h.2
  | .node _ _ _ _ _, _, _, _, h => by
    obtain ⟨_, _, _, _, _, m1, m2, _, ⟨_, _, h1, h2⟩, h3⟩ := h
    exact Nat.le_trans h1 (Nat.le_trans h2.le h3.le)
theorem IsTI.le {w : World} {lo hi : Nat} {u : TV} {T : JT} (h : IsTI w lo hi u T) : lo ≤ hi := by
  obtain ⟨_, _, _, m1, _, _, _, h1, h2⟩ := h
  exact Nat.le_trans h1 h2.le
theorem KeysI.keep {w w' : World} {lo hi : Nat} {v : Value} {ks : List ByteArray} (h : KeysI w lo hi v ks) (hk : ∀ k, lo ≤ k → k < hi → w'.heap[k]? = w.heap[k]?) : KeysI w' lo hi v ks := by
  refine ⟨⟨h.own.1, ?_⟩, h.few, h.high⟩
  rcases h.own.2 with h0 | ⟨g, cap, cur, e, h1, h2, h3⟩
  · exact Or.inl h0
  · exact Or.inr ⟨g, cap, cur, e, h1, (hk g h1 (h.high g (by rw [e]; rfl))).trans h2, h3⟩
theorem KidsI.keep {w w' : World} {lo hi : Nat} {v : Value} {us : List TV} (h : KidsI w lo hi v us) (hk : ∀ k, lo ≤ k → k < hi → w'.heap[k]? = w.heap[k]?) : KidsI w' lo hi v us := by
  refine ⟨⟨h.own.1, ?_⟩, h.few, h.high⟩
  rcases h.own.2 with h0 | ⟨g, cap, cur, e, h1, h2, h3⟩
  · exact Or.inl h0
  · exact Or.inr ⟨g, cap, cur, e, h1, (hk g h1 (h.high g (by rw [e]; rfl))).trans h2, h3⟩
theorem IsGI.keep {w w' : World} : ∀ {f : JF} {us : List TV} {lo hi : Nat}, IsGI w f us lo hi → (∀ k, lo ≤ k → k < hi → w'.heap[k]? = w.heap[k]?) → IsGI w' f us lo hi
  | .nil, _, _, _, h, _ => h
  | .node _ _ _ _ _, _, _, _, h, hk => by
    obtain ⟨e, uk, ua, us', rest, m1, m2, e1, ⟨h1, h2, h3, h4⟩, h5⟩ := h
    have l4 := h4.le
    have l5 := h5.le
    exact ⟨e, uk, ua, us', rest, m1, m2, e1, ⟨h1.keep (fun k a b => hk k a (by omega)), h2.keep (fun k a b => hk k a (by omega)), h3, h4.keep (fun k a b => hk k (by omega) (by omega))⟩, h5.keep (fun k a b => hk k (by omega) b)⟩
theorem IsTI.keep {w w' : World} {lo hi : Nat} {u : TV} {T : JT} (h : IsTI w lo hi u T) (hk : ∀ k, lo ≤ k → k < hi → w'.heap[k]? = w.heap[k]?) : IsTI w' lo hi u T := by
  obtain ⟨uk, ua, us', m1, e, h1, h2, h3, h4⟩ := h
  have l4 := h4.le
  exact ⟨uk, ua, us', m1, e, h1.keep (fun k a b => hk k a (by omega)), h2.keep (fun k a b => hk k a (by omega)), h3, h4.keep (fun k a b => hk k (by omega) b)⟩

theorem KeysI.strs {w : World} {lo hi : Nat} {v : Value} {ks : List ByteArray} (h : KeysI w lo hi v ks) : IsStrs w v ks := (own_strs h.own (by have := h.few; omega)).strs
theorem KidsI.row {w : World} {lo hi : Nat} {v : Value} {us : List TV} (h : KidsI w lo hi v us) : ∃ a cap, v = .slice a us.length cap ∧ (us.length ≤ cap ∧ (a = none → cap = 0)) ∧ RowT w a us := by
  rcases own_rowB h.own with ⟨e, hus⟩ | ⟨g, cap, e, _, hg, hc, hr⟩
  · exact ⟨none, 0, by rw [e, hus]; rfl, ⟨by rw [hus]; exact Nat.le_refl _, fun _ => rfl⟩, fun hu => absurd hus hu⟩
  · exact ⟨_, cap, e, ⟨hc, fun e => by cases e⟩, fun _ => ⟨g, 0, rfl, hg, fun i hi j hj => by rw [Nat.zero_add]; exact hr.cellAt i hi j hj⟩⟩
theorem IsGI.forest {w : World} : ∀ {f : JF} {us : List TV} {lo hi : Nat}, IsGI w f us lo hi → IsG (IsStrs w) (RowT w) f us
  | .nil, _, _, _, h => h.1
  | .node _ _ _ _ _, _, _, _, h => by
    obtain ⟨e, uk, ua, us', rest, m1, m2, e1, ⟨h1, h2, h3, h4⟩, h5⟩ := h
    obtain ⟨a, cap, ea, hc, hr⟩ := h2.row
    exact ⟨e, uk, a, cap, us', rest, by rw [e1, ea], h1.strs, hc, by have := h2.few; omega, hr, h4.forest, h5.forest⟩
theorem IsTI.tree {w : World} {lo hi : Nat} {u : TV} {T : JT} (h : IsTI w lo hi u T) : IsT w (tval u) T := by
  obtain ⟨uk, ua, us', m1, e, h1, h2, h3, h4⟩ := h
  obtain ⟨a, cap, ea, hc, hr⟩ := h2.row
  exact ⟨uk, a, cap, us', by rw [e, ea], h1.strs, hc, by have := h2.few; omega, hr, h4.forest⟩

theorem KidsI.rowH {w : World} {lo hi B : Nat} {v : Value} {us : List TV} (h : KidsI w lo hi v us) (hB : B ≤ lo) : ∃ a cap, v = .slice a us.length cap ∧ (us.length ≤ cap ∧ (a = none → cap = 0)) ∧ RowTH B w a us := by
  rcases own_rowB h.own with ⟨e, hus⟩ | ⟨g, cap, e, h0, hg, hc, hr⟩
  · exact ⟨none, 0, by rw [e, hus]; rfl, ⟨by rw [hus]; exact Nat.le_refl _, fun _ => rfl⟩, fun hu => absurd hus hu⟩
  · exact ⟨_, cap, e, ⟨hc, fun e => by cases e⟩, fun _ => ⟨g, 0, rfl, hg, Nat.le_trans hB h0, fun i hi j hj => by rw [Nat.zero_add]; exact hr.cellAt i hi j hj⟩⟩
theorem KeysI.strsH {w : World} {lo hi B : Nat} {v : Value} {ks : List ByteArray} (h : KeysI w lo hi v ks) (hB : B ≤ lo) : IsStrsH B w v ks := (own_strs h.own (by have := h.few; omega)).mono hB
theorem IsGI.forestH {w : World} {B : Nat} : ∀ {f : JF} {us : List TV} {lo hi : Nat}, IsGI w f us lo hi → B ≤ lo → IsG (IsStrsH B w) (RowTH B w) f us
  | .nil, _, _, _, h, _ => h.1
  | .node _ _ _ _ _, _, _, _, h, hB => by
    obtain ⟨e, uk, ua, us', rest, m1, m2, e1, ⟨h1, h2, h3, h4⟩, h5⟩ := h
    obtain ⟨a, cap, ea, hc, hr⟩ := h2.rowH hB
    have l4 := h4.le
    exact ⟨e, uk, a, cap, us', rest, by rw [e1, ea], h1.strsH hB, hc, by have := h2.few; omega, hr, h4.forestH (by omega), h5.forestH (by omega)⟩
theorem IsTI.high {w : World} {lo hi B : Nat} {u : TV} {T : JT} (h : IsTI w lo hi u T) (hB : B ≤ lo) : IsTH B w (tval u) T := by
  obtain ⟨uk, ua, us', m1, e, h1, h2, h3, h4⟩ := h
  obtain ⟨a, cap, ea, hc, hr⟩ := h2.rowH hB
  exact ⟨uk, a, cap, us', by rw [e, ea], h1.strsH hB, hc, by have := h2.few; omega, hr, h4.forestH (by omega)⟩

/-- One of several: its own stretch, and the others' apart. -/
theorem IsGI.at {w : World} : ∀ {f : JF} {us : List TV} {lo hi : Nat} (_ : IsGI w f us lo hi) (i : Nat) (hi' : i < us.length), us.length = (toL f).length ∧ ∃ p q, lo ≤ p ∧ q ≤ hi ∧ (∀ h2 : i < (toL f).length, IsTI w p q us[i] (toL f)[i]) ∧ ∀ k (hk : k < us.length) (h2 : k < (toL f).length), k ≠ i → ∃ p' q', lo ≤ p' ∧ q' ≤ hi ∧ (q' ≤ p ∨ q ≤ p') ∧ IsTI w p' q' us[k] (toL f)[k]
  | .nil, us, _, _, h, i, hi' => by rw [h.1] at hi'; simp at hi'
  | .node _ _ x l r, us, lo, hi, h, i, hi' => by
    obtain ⟨e, uk, ua, us', rest, m1, m2, rfl, ⟨h1, h2, h3, h4⟩, h5⟩ := h
    have l4 := h4.le
    have l5 := h5.le
    have hlen : rest.length = (toL r).length := (isG_to _ _ h5.forest).2.1
    have hT : IsTI w lo m2 (x.1, uk, ua) ⟨x, l⟩ := ⟨uk, ua, us', m1, rfl, h1, h2, h3, h4⟩
    refine ⟨by rw [toL, List.length_cons, List.length_cons, hlen], ?_⟩
    cases i with
    | zero =>
      refine ⟨lo, m2, Nat.le_refl _, l5, fun _ => hT, fun k hk h6 hne => ?_⟩
      cases k with
      | zero => exact absurd rfl hne
      | succ k =>
        obtain ⟨_, p, q, a1, a2, a3, _⟩ := h5.at k (by simpa using hk)
        refine ⟨p, q, by omega, a2, Or.inr a1, ?_⟩
        have := a3 (by simpa [toL] using h6)
        simpa [toL] using this
    | succ i =>
      obtain ⟨_, p, q, a1, a2, a3, a4⟩ := h5.at i (by simpa using hi')
      refine ⟨p, q, by omega, a2, fun h6 => ?_, fun k hk h6 hne => ?_⟩
      · have := a3 (by simpa [toL] using h6)
        simpa [toL] using this
      · cases k with
        | zero => exact ⟨lo, m2, Nat.le_refl _, l5, Or.inl a1, by simpa [toL] using hT⟩
        | succ k =>
          obtain ⟨p', q', b1, b2, b3, b4⟩ := a4 k (by simpa using hk) (by simpa [toL] using h6) (by omega)
          exact ⟨p', q', by omega, b2, b3, by simpa [toL] using b4⟩
/-- One more behind. -/
theorem IsGI.snoc {w : World} : ∀ {ts : List JT} {us : List TV} {lo m hi : Nat} {u : TV} {t : JT}, IsGI w (ofL ts) us lo m → IsTI w m hi u t → IsGI w (ofL (ts ++ [t])) (us ++ [u]) lo hi
  | [], us, lo, m, hi, u, t, h, ht => by
    obtain ⟨rfl, hle⟩ := h
    obtain ⟨uk, ua, us', m1, rfl, h1, h2, h3, h4⟩ := ht
    have l4 := h4.le
    refine ⟨⟨rfl, rfl⟩, uk, ua, us', [], m1, hi, rfl, ⟨⟨⟨h1.own.1, ?_⟩, h1.few, h1.high⟩, ⟨⟨h2.own.1, ?_⟩, h2.few, h2.high⟩, by omega, h4⟩, rfl, Nat.le_refl _⟩
    · rcases h1.own.2 with h0 | ⟨g, cap, cur, e, a1, a2⟩
      · exact Or.inl h0
      · exact Or.inr ⟨g, cap, cur, e, Nat.le_trans hle a1, a2⟩
    · rcases h2.own.2 with h0 | ⟨g, cap, cur, e, a1, a2⟩
      · exact Or.inl h0
      · exact Or.inr ⟨g, cap, cur, e, Nat.le_trans hle a1, a2⟩
  | s :: ts, us, lo, m, hi, u, t, h, ht => by
    obtain ⟨e, uk, ua, us', rest, m1, m2, rfl, h1, h5⟩ := h
    exact ⟨e, uk, ua, us', rest ++ [u], m1, m2, rfl, h1, h5.snoc ht⟩

theorem KeysI.mono {w : World} {lo lo' hi hi' : Nat} {v : Value} {ks : List ByteArray} (h : KeysI w lo hi v ks) (h1 : lo' ≤ lo) (h2 : hi ≤ hi') : KeysI w lo' hi' v ks := by
  refine ⟨⟨h.own.1, ?_⟩, h.few, fun g hg => Nat.lt_of_lt_of_le (h.high g hg) h2⟩
  rcases h.own.2 with h0 | ⟨g, cap, cur, e, a1, a2⟩
  · exact Or.inl h0
  · exact Or.inr ⟨g, cap, cur, e, Nat.le_trans h1 a1, a2⟩
theorem KidsI.mono {w : World} {lo lo' hi hi' : Nat} {v : Value} {us : List TV} (h : KidsI w lo hi v us) (h1 : lo' ≤ lo) (h2 : hi ≤ hi') : KidsI w lo' hi' v us := by
  refine ⟨⟨h.own.1, ?_⟩, h.few, fun g hg => Nat.lt_of_lt_of_le (h.high g hg) h2⟩
  rcases h.own.2 with h0 | ⟨g, cap, cur, e, a1, a2⟩
  · exact Or.inl h0
  · exact Or.inr ⟨g, cap, cur, e, Nat.le_trans h1 a1, a2⟩
theorem IsGI.more {w : World} : ∀ {f : JF} {us : List TV} {lo hi hi' : Nat}, IsGI w f us lo hi → hi ≤ hi' → IsGI w f us lo hi'
  | .nil, _, _, _, _, h, hh => ⟨h.1, Nat.le_trans h.2 hh⟩
  | .node _ _ _ _ _, _, _, _, _, h, hh => by
    obtain ⟨e, uk, ua, us', rest, m1, m2, e1, h1, h5⟩ := h
    exact ⟨e, uk, ua, us', rest, m1, m2, e1, h1, h5.more hh⟩
theorem IsTI.mono {w : World} {lo lo' hi hi' : Nat} {u : TV} {T : JT} (h : IsTI w lo hi u T) (h1 : lo' ≤ lo) (h2 : hi ≤ hi') : IsTI w lo' hi' u T := by
  obtain ⟨uk, ua, us', m1, e, a1, a2, a3, a4⟩ := h
  exact ⟨uk, ua, us', m1, e, a1.mono h1 (Nat.le_refl _), a2.mono h1 (Nat.le_refl _), Nat.le_trans h1 a3, a4.more h2⟩
/-- A row of trees in a block of known size is a row of its own. -/
theorem row_own {w : World} {B g cap : Nat} {us : List TV} (h : RowB w g us) (hs : ∃ cur, w.heap[g]? = some (.cells cur 29) ∧ cur.size = cap * 7) (hc : us.length ≤ cap) (hm : cap ≤ maxLen) (hB : B ≤ g) : w.ownsRow B 29 7 (.slice (some ⟨g, 0, none⟩) us.length cap) us.length (tcs us) := by
  obtain ⟨cur, h1, h2, h3⟩ := h
  obtain ⟨cur2, h4, h5⟩ := hs
  rw [h1] at h4
  have h6 := Option.some.inj h4
  injection h6 with h7 _
  subst h7
  refine ⟨tcs_len us, Or.inr ⟨g, cap, cur, rfl, hB, h1, hc, hm, h5, ?_⟩⟩
  apply List.ext_getElem?
  intro j
  rcases Nat.lt_or_ge j (us.length * 7) with hj | hj
  · obtain ⟨i, k, rfl, hk⟩ : ∃ i k, j = i * 7 + k ∧ k < 7 := ⟨j / 7, j % 7, by omega, by omega⟩
    have hil : i < us.length := by omega
    rw [List.getElem?_take_of_lt hj, Array.getElem?_toList, h3 i hil k hk, tcs_at us i hil k hk]
  · rw [List.getElem?_eq_none (by rw [List.length_take]; omega), List.getElem?_eq_none (by rw [tcs_len]; exact hj)]
theorem put7_size {w : World} {g n o : Nat} {u : TV} (h : ∃ cur, w.heap[g]? = some (.cells cur 29) ∧ cur.size = n) : ∃ cur, (put7 w g o u).heap[g]? = some (.cells cur 29) ∧ cur.size = n := by
  obtain ⟨cur, h1, h2⟩ := h
  exact ⟨_, set_at (set_at (set_at (set_at (set_at (set_at (set_at h1 _ _) _ _) _ _) _ _) _ _) _ _) _ _, by simpa using h2⟩
/-- A tree with another one at the end of a path. -/
def repT : JT → List Stp → JT → JT
  | _, [], t' => t'
  | T, s :: r, t' => match kidOf T.x T.ks T.ts.length s with
    | none => T
    | some i => .node T.x T.ks (T.ts.set i (repT (T.ts[i]?.getD T) r t'))
/-- What follow keeps of a place on its way: its stretch, and that what is turned there is turned in the whole. -/
structure Hole (w : World) (b0 o0 lo0 hi0 : Nat) (T0 : JT) (l0 : List Stp) (b o lo hi : Nat) (u : TV) (t : JT) (l : List Stp) : Prop where
  at' : TAt w b o u
  tree : IsTI w lo hi u t
  out : b < lo
  fz : ∀ d, w.frozen? ⟨b, d, none⟩ = false
  inn : lo0 ≤ lo ∧ hi ≤ hi0
  place : (b = b0 ∧ o = o0) ∨ (lo0 ≤ b ∧ b < hi0)
  getT : getT T0 l0 = Go.Proofs.YtnmdhbejjjmdeaaGreatDoor.getT t l
  back : ∀ (w' : World) (t' : JT), w.heap.size ≤ w'.heap.size → (∀ k, (lo0 ≤ k ∧ k < hi0) ∨ k = b0 → ¬ (lo ≤ k ∧ k < hi) → k ≠ b → w'.heap[k]? = w.heap[k]?) → (∀ c, c < o ∨ o + 7 ≤ c → w'.cell? ⟨b, c, none⟩ = w.cell? ⟨b, c, none⟩) → (∃ u1, TAt w' b o u1 ∧ IsTH lo0 w' (tval u1) t') → ∃ (d : List Stp) (u2 : TV), l0 = d ++ l ∧ Go.Proofs.YtnmdhbejjjmdeaaGreatDoor.getT T0 d = some t ∧ TAt w' b0 o0 u2 ∧ IsTH lo0 w' (tval u2) (repT T0 d t')
theorem Hole.start {w : World} {b o lo hi : Nat} {u : TV} {T : JT} (l : List Stp) (hA : TAt w b o u) (h : IsTI w lo hi u T) (hb : b < lo) (hfz : ∀ d, w.frozen? ⟨b, d, none⟩ = false) : Hole w b o lo hi T l b o lo hi u T l :=
  ⟨hA, h, hb, hfz, ⟨Nat.le_refl _, Nat.le_refl _⟩, Or.inl ⟨rfl, rfl⟩, rfl, fun _ _ _ _ _ ⟨u1, h1, h2⟩ => ⟨[], u1, rfl, rfl, h1, h2⟩⟩
theorem repT_snoc {t : JT} {s : Stp} {i : Nat} : ∀ (d : List Stp) (T : JT) (t' : JT), Go.Proofs.YtnmdhbejjjmdeaaGreatDoor.getT T d = some t → kidOf t.x t.ks t.ts.length s = some i → repT T (d ++ [s]) t' = repT T d (.node t.x t.ks (t.ts.set i t'))
  | [], T, t', hg, hk => by
    rw [Go.Proofs.YtnmdhbejjjmdeaaGreatDoor.getT] at hg
    obtain rfl := Option.some.inj hg
    show repT T [s] t' = repT T [] _
    simp only [repT, hk]
  | a :: d, T, t', hg, hk => by
    rw [Go.Proofs.YtnmdhbejjjmdeaaGreatDoor.getT] at hg
    obtain ⟨u, h1, h2⟩ := Option.bind_eq_some_iff.1 hg
    unfold step1 at h1
    obtain ⟨j, h3, h4⟩ := Option.bind_eq_some_iff.1 h1
    show repT T (a :: (d ++ [s])) t' = _
    rw [repT, repT, h3]
    simp only
    rw [h4]
    simp only [Option.getD_some]
    rw [repT_snoc d u t' h2 hk]
theorem getT_snoc {t u : JT} {s : Stp} : ∀ (d : List Stp) (T : JT), Go.Proofs.YtnmdhbejjjmdeaaGreatDoor.getT T d = some t → step1 t s = some u → Go.Proofs.YtnmdhbejjjmdeaaGreatDoor.getT T (d ++ [s]) = some u
  | [], T, hg, hs => by
    rw [Go.Proofs.YtnmdhbejjjmdeaaGreatDoor.getT] at hg
    obtain rfl := Option.some.inj hg
    show Go.Proofs.YtnmdhbejjjmdeaaGreatDoor.getT T [s] = _
    rw [Go.Proofs.YtnmdhbejjjmdeaaGreatDoor.getT, hs]
    rfl
  | a :: d, T, hg, hs => by
    rw [Go.Proofs.YtnmdhbejjjmdeaaGreatDoor.getT] at hg
    obtain ⟨v, h1, h2⟩ := Option.bind_eq_some_iff.1 hg
    show Go.Proofs.YtnmdhbejjjmdeaaGreatDoor.getT T (a :: (d ++ [s])) = _
    rw [Go.Proofs.YtnmdhbejjjmdeaaGreatDoor.getT, h1]
    exact getT_snoc d v h2 hs
/-- One step on. -/
theorem Hole.next {w : World} {b0 o0 lo0 hi0 : Nat} {T0 : JT} {l0 : List Stp} {b o lo hi : Nat} {u : TV} {t : JT} {s : Stp} {l : List Stp} (h : Hole w b0 o0 lo0 hi0 T0 l0 b o lo hi u t (s :: l)) {i : Nat} (hi' : i < t.ts.length) (hk : kidOf t.x t.ks t.ts.length s = some i) {g off : Nat} {n c : Nat} (hu : u.2.2 = .slice (some ⟨g, off, none⟩) n c) :
    ∃ lo' hi' u', Hole w b0 o0 lo0 hi0 T0 l0 g (off + i * 7) lo' hi' u' t.ts[i] l := by
  obtain ⟨uk, ua, us', m1, e, h1, h2, h3, h4⟩ := h.tree
  have hua : ua = .slice (some ⟨g, off, none⟩) n c := by rw [e] at hu; exact hu
  have l4 := h4.le
  have hlen : us'.length = t.ts.length := (isG_to _ _ h4.forest).2.1
  have hiu : i < us'.length := by omega
  rcases own_rowB h2.own with ⟨e1, hus⟩ | ⟨g', cap, e1, hg1, hg2, hg3, hr⟩
  · rw [hua] at e1; cases e1
  · have e2 := Value.slice.inj (hua.symm.trans e1)
    have e3 := Option.some.inj e2.1
    injection e3 with e4 e5 _
    subst e4 e5
    have hgh := h2.high g (by rw [e1]; rfl)
    obtain ⟨_, p, q, a1, a2, a3, a4⟩ := h4.at i hiu
    have hti := a3 hi'
    have hpq := hti.le
    have hTi : TAt w g (0 + i * 7) us'[i] := by
      rw [Nat.zero_add]
      exact ⟨hg2, hr.cellAt i hiu 0 (by decide), hr.cellAt i hiu 1 (by decide), hr.cellAt i hiu 2 (by decide), hr.cellAt i hiu 3 (by decide), hr.cellAt i hiu 4 (by decide), hr.cellAt i hiu 5 (by decide), hr.cellAt i hiu 6 (by decide)⟩
    have hin := h.inn
    have hgl : lo0 ≤ g ∧ g < hi0 := by omega
    have hst : step1 t s = some t.ts[i] := by unfold step1; rw [hk]; exact List.getElem?_eq_getElem hi'
    refine ⟨p, q, us'[i], ⟨hTi, hti, by omega, hr.frozen, ⟨by omega, by omega⟩, Or.inr hgl, ?_, ?_⟩⟩
    · rw [h.getT, Go.Proofs.YtnmdhbejjjmdeaaGreatDoor.getT, hst]; rfl
    · intro w' t' hz hkeep hcell hnew
      obtain ⟨u1, n1, n2⟩ := hnew
      rw [Nat.zero_add] at n1 hcell
      -- the place's own block, and the rows beside
      have hbne : b ≠ g := by
        have := h.out
        omega
      have hbk : w'.heap[b]? = w.heap[b]? := by
        refine hkeep b ?_ ?_ hbne
        · rcases h.place with ⟨e6, _⟩ | e6
          · exact Or.inr e6
          · exact Or.inl e6
        · have := h.out
          omega
      have hTA : TAt w' b o u := by
        obtain ⟨c0, c1, c2, c3, c4, c5, c6, c7⟩ := h.at'
        have hc : ∀ d, w'.cell? ⟨b, d, none⟩ = w.cell? ⟨b, d, none⟩ := fun d => World.cell?_of_block (w := w) hbk
        exact ⟨by omega, (hc _).trans c1, (hc _).trans c2, (hc _).trans c3, (hc _).trans c4, (hc _).trans c5, (hc _).trans c6, (hc _).trans c7⟩
      have hkey : IsStrsH lo0 w' uk t.ks := by
        have hk2 : KeysI w' lo m1 uk t.ks := by
          refine ⟨⟨h1.own.1, ?_⟩, h1.few, h1.high⟩
          rcases h1.own.2 with h0 | ⟨kb, kc, cur, f1, f2, f3, f4⟩
          · exact Or.inl h0
          · have hkb := h1.high kb (by rw [f1]; rfl)
            refine Or.inr ⟨kb, kc, cur, f1, f2, (hkeep kb (Or.inl (by omega)) (by omega) (fun e6 => ?_)).trans f3, f4⟩
            obtain ⟨cur2, f5, _⟩ := hr
            rw [e6, f5] at f3
            have f6 := Option.some.inj f3
            injection f6 with _ f7
            exact absurd f7 (by decide)
        exact hk2.strsH hin.1
      have hu1l : (us'.set i u1).length = us'.length := List.length_set
      have hrow : RowTH lo0 w' (some ⟨g, 0, none⟩) (us'.set i u1) := by
        intro _
        refine ⟨g, 0, rfl, by omega, hgl.1, fun k hk6 j hj => ?_⟩
        rw [Nat.zero_add]
        rw [hu1l] at hk6
        by_cases e6 : k = i
        · subst e6
          rw [List.getElem_set_self]
          obtain ⟨_, c1, c2, c3, c4, c5, c6, c7⟩ := n1
          obtain rfl | rfl | rfl | rfl | rfl | rfl | rfl : j = 0 ∨ j = 1 ∨ j = 2 ∨ j = 3 ∨ j = 4 ∨ j = 5 ∨ j = 6 := by omega
          · exact c1
          · exact c2
          · exact c3
          · exact c4
          · exact c5
          · exact c6
          · exact c7
        · rw [List.getElem_set_ne (fun e7 => e6 e7.symm), hcell (k * 7 + j) (by omega)]
          exact hr.cellAt k hk6 j hj
      have hIs : IsTH lo0 w' (tval u) (.node t.x t.ks (t.ts.set i t')) := by
        have hl2 : (us'.set i u1).length = (t.ts.set i t').length := by rw [List.length_set, List.length_set, hlen]
        have hee : ua = .slice (some ⟨g, 0, none⟩) (t.ts.set i t').length cap := by rw [e1, List.length_set, hlen]
        rw [e, hee]
        refine IsTG.mk t.x t.ks (t.ts.set i t') uk (some ⟨g, 0, none⟩) cap (us'.set i u1) hkey hl2 ⟨by rw [List.length_set]; omega, fun e6 => by cases e6⟩ (by rw [List.length_set]; have := h2.few; omega) hrow (fun k hk6 hk7 => ?_)
        by_cases e6 : k = i
        · subst e6
          rw [List.getElem_set_self, List.getElem_set_self]
          exact n2
        · rw [List.getElem_set_ne (fun e7 => e6 e7.symm), List.getElem_set_ne (fun e7 => e6 e7.symm)]
          rw [hu1l] at hk6
          obtain ⟨p', q', b1, b2, b3, b4⟩ := a4 k hk6 (by rw [List.length_set] at hk7; exact hk7) e6
          have hpq' := b4.le
          exact (b4.keep (fun d d1 d2 => hkeep d (Or.inl (by omega)) (by omega) (by omega))).high (by omega)
      obtain ⟨d, u2, q1, q2, q3, q4⟩ := h.back w' (.node t.x t.ks (t.ts.set i t')) hz (fun k k1 k2 k3 => hkeep k k1 (by omega) (fun e6 => k2 (by omega))) (fun c6 _ => World.cell?_of_block (w := w) hbk) ⟨u, hTA, hIs⟩
      exact ⟨d ++ [s], u2, by rw [q1, List.append_assoc]; rfl, getT_snoc d T0 q2 hst, q3, by rw [repT_snoc d T0 t' q2 hk]; exact q4⟩
end Go.Proofs.YtnmdhbejjjmdeaaGreatDoor

namespace Go.Proofs.YtnmdhbejjjmdeaaGreatDoor
open Go.RowKit Go.Sort

/-- The block of a row, if it has one. -/
def blk (v : Value) : List Nat := v.ownBlock.toList
/-- A row of keys of its own. -/
structure KeysS (w : World) (lo : Nat) (v : Value) (ks : List ByteArray) : Prop where
  own : w.ownsRow lo 9 1 v ks.length (scells ks)
  few : ks.length ≤ 1000
/-- A row of kids of its own. -/
structure KidsS (w : World) (lo : Nat) (v : Value) (us : List TV) : Prop where
  own : w.ownsRow lo 29 7 v us.length (tcs us)
  few : us.length ≤ 1000
/-- Trees, one after the other, and the blocks of their rows. -/
def IsGS (w : World) (lo : Nat) : JF → List TV → List Nat → Prop
  | .nil, us, S => us = [] ∧ S = []
  | .node b o x l r, us, S => (b = 0 ∧ o = 0) ∧ ∃ uk ua us' rest S1 S2, us = (x.1, uk, ua) :: rest ∧ S = (blk uk ++ (blk ua ++ S1)) ++ S2 ∧ (KeysS w lo uk x.2 ∧ KidsS w lo ua us' ∧ IsGS w lo l us' S1) ∧ IsGS w lo r rest S2
/-- A tree, and the blocks of its rows. -/
def IsTS (w : World) (lo : Nat) (S : List Nat) (u : TV) (T : JT) : Prop :=
  ∃ uk ua us' S1, u = (T.x, uk, ua) ∧ S = blk uk ++ (blk ua ++ S1) ∧ KeysS w lo uk T.ks ∧ KidsS w lo ua us' ∧ IsGS w lo T.kids us' S1

theorem own_keep {w w' : World} {lo k n : Nat} {ty : TypeId} {v : Value} {cs : List Value} (h : w.ownsRow lo ty k v n cs) (hk : ∀ b ∈ blk v, w'.heap[b]? = w.heap[b]?) : w'.ownsRow lo ty k v n cs := by
  refine ⟨h.1, ?_⟩
  rcases h.2 with h0 | ⟨g, cap, cur, e, h1, h2, h3⟩
  · exact Or.inl h0
  · exact Or.inr ⟨g, cap, cur, e, h1, (hk g (by rw [e]; exact List.mem_singleton.2 rfl)).trans h2, h3⟩
theorem own_blk {w : World} {lo k n : Nat} {ty : TypeId} {v : Value} {cs : List Value} (h : w.ownsRow lo ty k v n cs) {b : Nat} (hb : b ∈ blk v) : lo ≤ b ∧ ∃ cur, w.heap[b]? = some (.cells cur ty) := by
  rcases h.2 with ⟨e, _⟩ | ⟨g, cap, cur, e, h1, h2, _⟩
  · rw [e] at hb; cases hb
  · rw [e] at hb
    obtain rfl := List.mem_singleton.1 hb
    exact ⟨h1, cur, h2⟩
theorem blk_one (v : Value) : (blk v).Nodup := by
  unfold blk
  cases v.ownBlock with
  | none => exact List.nodup_nil
  | some g => exact List.nodup_cons.2 ⟨fun h => (by cases h), List.nodup_nil⟩
theorem IsGS.keep {w w' : World} {lo : Nat} : ∀ {f : JF} {us : List TV} {S : List Nat}, IsGS w lo f us S → (∀ k ∈ S, w'.heap[k]? = w.heap[k]?) → IsGS w' lo f us S
  | .nil, _, _, h, _ => h
  | .node _ _ _ _ _, _, _, h, hk => by
    obtain ⟨e, uk, ua, us', rest, S1, S2, e1, rfl, ⟨h1, h2, h3⟩, h4⟩ := h
    simp only [List.mem_append] at hk
    exact ⟨e, uk, ua, us', rest, S1, S2, e1, rfl, ⟨⟨own_keep h1.own (fun b hb => hk b (Or.inl (Or.inl hb))), h1.few⟩, ⟨own_keep h2.own (fun b hb => hk b (Or.inl (Or.inr (Or.inl hb)))), h2.few⟩, h3.keep (fun b hb => hk b (Or.inl (Or.inr (Or.inr hb))))⟩, h4.keep (fun b hb => hk b (Or.inr hb))⟩
theorem IsTS.keep {w w' : World} {lo : Nat} {S : List Nat} {u : TV} {T : JT} (h : IsTS w lo S u T) (hk : ∀ k ∈ S, w'.heap[k]? = w.heap[k]?) : IsTS w' lo S u T := by
  obtain ⟨uk, ua, us', S1, e, rfl, h1, h2, h3⟩ := h
  simp only [List.mem_append] at hk
  exact ⟨uk, ua, us', S1, e, rfl, ⟨own_keep h1.own (fun b hb => hk b (Or.inl hb)), h1.few⟩, ⟨own_keep h2.own (fun b hb => hk b (Or.inr (Or.inl hb))), h2.few⟩, h3.keep (fun b hb => hk b (Or.inr (Or.inr hb)))⟩
theorem KidsS.rowH {w : World} {lo : Nat} {v : Value} {us : List TV} (h : KidsS w lo v us) : ∃ a cap, v = .slice a us.length cap ∧ (us.length ≤ cap ∧ (a = none → cap = 0)) ∧ RowTH lo w a us := by
  rcases own_rowB h.own with ⟨e, hus⟩ | ⟨g, cap, e, h0, hg, hc, hr⟩
  · exact ⟨none, 0, by rw [e, hus]; rfl, ⟨by rw [hus]; exact Nat.le_refl _, fun _ => rfl⟩, fun hu => absurd hus hu⟩
  · exact ⟨_, cap, e, ⟨hc, fun e => by cases e⟩, fun _ => ⟨g, 0, rfl, hg, h0, fun i hi j hj => by rw [Nat.zero_add]; exact hr.cellAt i hi j hj⟩⟩
theorem KeysS.strsH {w : World} {lo : Nat} {v : Value} {ks : List ByteArray} (h : KeysS w lo v ks) : IsStrsH lo w v ks := own_strs h.own (by have := h.few; omega)
theorem IsGS.forestH {w : World} {lo : Nat} : ∀ {f : JF} {us : List TV} {S : List Nat}, IsGS w lo f us S → IsG (IsStrsH lo w) (RowTH lo w) f us
  | .nil, _, _, h => h.1
  | .node _ _ _ _ _, _, _, h => by
    obtain ⟨e, uk, ua, us', rest, S1, S2, e1, rfl, ⟨h1, h2, h3⟩, h4⟩ := h
    obtain ⟨a, cap, ea, hc, hr⟩ := h2.rowH
    exact ⟨e, uk, a, cap, us', rest, by rw [e1, ea], h1.strsH, hc, by have := h2.few; omega, hr, h3.forestH, h4.forestH⟩
theorem IsTS.high {w : World} {lo : Nat} {S : List Nat} {u : TV} {T : JT} (h : IsTS w lo S u T) : IsTH lo w (tval u) T := by
  obtain ⟨uk, ua, us', S1, e, rfl, h1, h2, h3⟩ := h
  obtain ⟨a, cap, ea, hc, hr⟩ := h2.rowH
  exact ⟨uk, a, cap, us', by rw [e, ea], h1.strsH, hc, by have := h2.few; omega, hr, h3.forestH⟩
theorem IsGS.low {w : World} {lo : Nat} : ∀ {f : JF} {us : List TV} {S : List Nat}, IsGS w lo f us S → ∀ k ∈ S, lo ≤ k ∧ k < w.heap.size
  | .nil, _, _, h, k, hk => by rw [h.2] at hk; cases hk
  | .node _ _ _ _ _, _, _, h, k, hk => by
    obtain ⟨e, uk, ua, us', rest, S1, S2, e1, rfl, ⟨h1, h2, h3⟩, h4⟩ := h
    simp only [List.mem_append] at hk
    rcases hk with (hk | hk | hk) | hk
    · obtain ⟨a, _, b⟩ := own_blk h1.own hk
      exact ⟨a, lt_of_heap b⟩
    · obtain ⟨a, _, b⟩ := own_blk h2.own hk
      exact ⟨a, lt_of_heap b⟩
    · exact h3.low k hk
    · exact h4.low k hk

theorem own_low {w : World} {lo lo' k n : Nat} {ty : TypeId} {v : Value} {cs : List Value} (h : w.ownsRow lo ty k v n cs) (hl : lo' ≤ lo) : w.ownsRow lo' ty k v n cs := by
  refine ⟨h.1, ?_⟩
  rcases h.2 with h0 | ⟨g, cap, cur, e, h1, h2⟩
  · exact Or.inl h0
  · exact Or.inr ⟨g, cap, cur, e, Nat.le_trans hl h1, h2⟩
theorem blk_apart {w : World} {lo n m : Nat} {uk ua : Value} {c1 c2 : List Value} (h1 : w.ownsRow lo 9 1 uk n c1) (h2 : w.ownsRow lo 29 7 ua m c2) : ∀ k ∈ blk uk, k ∉ blk ua := by
  intro k hk hk2
  obtain ⟨_, c, e1⟩ := own_blk h1 hk
  obtain ⟨_, d, e2⟩ := own_blk h2 hk2
  rw [e1] at e2
  have e3 := Option.some.inj e2
  injection e3 with _ e4
  exact absurd e4 (by decide)
/-- Trees in stretches of their own lie in blocks apart. -/
theorem IsGI.blocks {w : World} {B : Nat} : ∀ {f : JF} {us : List TV} {lo hi : Nat}, IsGI w f us lo hi → B ≤ lo → ∃ S, IsGS w B f us S ∧ S.Nodup ∧ ∀ k ∈ S, lo ≤ k ∧ k < hi
  | .nil, _, _, _, h, _ => ⟨[], ⟨h.1, rfl⟩, List.nodup_nil, fun k hk => by cases hk⟩
  | .node _ _ _ _ _, _, lo, hi, h, hB => by
    obtain ⟨e, uk, ua, us', rest, m1, m2, e1, ⟨h1, h2, h3, h4⟩, h5⟩ := h
    obtain ⟨S1, a1, a2, a3⟩ := h4.blocks (B := B) (by omega)
    have l4 := h4.le
    have l5 := h5.le
    obtain ⟨S2, b1, b2, b3⟩ := h5.blocks (B := B) (by omega)
    have hk : ∀ k ∈ blk uk, lo ≤ k ∧ k < m1 := fun k hk => ⟨(own_blk h1.own hk).1, h1.high k (Option.mem_toList.1 hk)⟩
    have ha : ∀ k ∈ blk ua, lo ≤ k ∧ k < m1 := fun k hk => ⟨(own_blk h2.own hk).1, h2.high k (Option.mem_toList.1 hk)⟩
    refine ⟨(blk uk ++ (blk ua ++ S1)) ++ S2, ⟨e, uk, ua, us', rest, S1, S2, e1, rfl, ⟨⟨own_low h1.own hB, h1.few⟩, ⟨own_low h2.own hB, h2.few⟩, a1⟩, b1⟩, ?_, ?_⟩
    · refine List.nodup_append.2 ⟨List.nodup_append.2 ⟨blk_one uk, List.nodup_append.2 ⟨blk_one ua, a2, ?_⟩, ?_⟩, b2, ?_⟩
      · intro x hx y hy exy
        have := ha x hx
        have := a3 y hy
        omega
      · intro x hx y hy exy
        rcases List.mem_append.1 hy with hy | hy
        · exact blk_apart h1.own h2.own x hx (exy ▸ hy)
        · have := hk x hx
          have := a3 y hy
          omega
      · intro x hx y hy exy
        have hy' := b3 y hy
        simp only [List.mem_append] at hx
        rcases hx with hx | hx | hx
        · have := hk x hx; omega
        · have := ha x hx; omega
        · have := a3 x hx; omega
    · intro k hx
      simp only [List.mem_append] at hx
      rcases hx with (hx | hx | hx) | hx
      · have := hk k hx; omega
      · have := ha k hx; omega
      · have := a3 k hx; omega
      · have := b3 k hx; omega
theorem IsTI.blocks {w : World} {lo hi B : Nat} {u : TV} {T : JT} (h : IsTI w lo hi u T) (hB : B ≤ lo) : ∃ S, IsTS w B S u T ∧ S.Nodup ∧ ∀ k ∈ S, lo ≤ k ∧ k < hi := by
  obtain ⟨uk, ua, us', m1, e, h1, h2, h3, h4⟩ := h
  obtain ⟨S1, a1, a2, a3⟩ := h4.blocks (B := B) (by omega)
  have l4 := h4.le
  have hk : ∀ k ∈ blk uk, lo ≤ k ∧ k < m1 := fun k hk => ⟨(own_blk h1.own hk).1, h1.high k (Option.mem_toList.1 hk)⟩
  have ha : ∀ k ∈ blk ua, lo ≤ k ∧ k < m1 := fun k hk => ⟨(own_blk h2.own hk).1, h2.high k (Option.mem_toList.1 hk)⟩
  refine ⟨blk uk ++ (blk ua ++ S1), ⟨uk, ua, us', S1, e, rfl, ⟨own_low h1.own hB, h1.few⟩, ⟨own_low h2.own hB, h2.few⟩, a1⟩, ?_, ?_⟩
  · refine List.nodup_append.2 ⟨blk_one uk, List.nodup_append.2 ⟨blk_one ua, a2, ?_⟩, ?_⟩
    · intro x hx y hy exy
      have := ha x hx
      have := a3 y hy
      omega
    · intro x hx y hy exy
      rcases List.mem_append.1 hy with hy | hy
      · exact blk_apart h1.own h2.own x hx (exy ▸ hy)
      · have := hk x hx
        have := a3 y hy
        omega
  · intro k hx
    simp only [List.mem_append] at hx
    rcases hx with hx | hx | hx
    · have := hk k hx; omega
    · have := ha k hx; omega
    · have := a3 k hx; omega
end Go.Proofs.YtnmdhbejjjmdeaaGreatDoor
