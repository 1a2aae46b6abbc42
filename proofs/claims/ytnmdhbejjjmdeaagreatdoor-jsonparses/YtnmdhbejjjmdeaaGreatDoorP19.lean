/-
  What is proved: the function apply of package json, called with the place of a tree whose rows lie in blocks apart and a patch. patches that lie in memory, and what becomes of a tree by all of them, one after the other: one tree, or one error. what append leaves of texts and of trees put behind a row of one's own; what becomes of a tree by bookref3's put.
  Conditions: as each theorem says.
-/
import Derived.Test.YtnmdhbejjjmdeaaGreatDoorP18
import Derived.Laws.OwnMore
namespace Go.Proofs.YtnmdhbejjjmdeaaGreatDoor
open Go.RowKit Go.Sort

/-- Why a patch is not done, and by which error. -/
def NoK (k : Int) (T : JT) (l : List Stp) (y : V) (c : Int) : Prop :=
  (c = 1 ∧ patK k l y = false) ∨ (c = 6 ∧ patK k l y = true ∧ ∀ T', ¬ UpdK k T l y T') ∨ (c = 4 ∧ patK k l y = true ∧ ∃ T', UpdK k T l y T' ∧ 400 < T'.size)
/-- What apply leaves. -/
def AppS (k : Int) (w : World) (b0 o0 lo : Nat) (S0 : List Nat) (T : JT) (l : List Stp) (y : V) (e : Ending) (w' : World) : Prop :=
  (∃ T' u' S', e = .returned .nilIface ∧ patK k l y = true ∧ UpdK k T l y T' ∧ T'.size ≤ 400 ∧ TurnS b0 o0 S0 w w' ∧ TAt w' b0 o0 u' ∧ IsTS w' lo S' u' T' ∧ S'.Nodup ∧ (∀ x ∈ S', x ∈ S0 ∨ w.heap.size ≤ x)) ∨
  (∃ c : Int, e = .returned (.iface 43 (.int .i64 c)) ∧ NoK k T l y c ∧ TurnS b0 o0 S0 w w')

end Go.Proofs.YtnmdhbejjjmdeaaGreatDoor

namespace Go.Proofs.YtnmdhbejjjmdeaaGreatDoor
open Go.RowKit Go.Sort

/-- A patch: its kind, its path, its value. -/
abbrev Pch := Int × List Stp × V
/-- Its cells. -/
def pcells (q : Pch) (p : Value) : List Value := [.int .i64 q.1, p, .int .i64 q.2.2.k, .int .i64 q.2.2.n, .string q.2.2.t, .int .i64 q.2.2.o, .int .i64 q.2.2.a]
/-- A slice value that holds patches. -/
def IsPats (w : World) (v : Value) (L : List Pch) : Prop :=
  ∃ a cap, v = .slice a L.length cap ∧ L.length ≤ cap ∧ L.length ≤ 8796093022208 ∧ (L ≠ [] → ∃ b off, a = some ⟨b, off, none⟩ ∧ b < w.heap.size ∧ ∀ i (h : i < L.length), ∃ p, IsSteps w p L[i].2.1 ∧ ∀ j, j < 7 → w.cell? ⟨b, off + i * 7 + j, none⟩ = (pcells L[i] p)[j]?)
theorem IsPats.below {w w' : World} {v : Value} {L : List Pch} (h : IsPats w v L) (hb : Below w.heap.size w w') : IsPats w' v L := by
  obtain ⟨a, cap, rfl, h1, h2, h3⟩ := h
  refine ⟨a, cap, rfl, h1, h2, fun hl => ?_⟩
  obtain ⟨b, off, rfl, h4, h5⟩ := h3 hl
  refine ⟨b, off, rfl, Nat.lt_of_lt_of_le h4 hb.size, fun i hi => ?_⟩
  obtain ⟨p, h6, h7⟩ := h5 i hi
  exact ⟨p, h6.below hb, fun j hj => by rw [hb.cell (p := ⟨b, off + i * 7 + j, none⟩) h4]; exact h7 j hj⟩
/-- All are done. -/
def DoneK : JT → List Pch → JT → Prop
  | T, [], T' => T' = T
  | T, q :: r, T' => ∃ T1, patK q.1 q.2.1 q.2.2 = true ∧ UpdK q.1 T q.2.1 q.2.2 T1 ∧ T1.size ≤ 400 ∧ DoneK T1 r T'
/-- One is not done, by this error. -/
def FailK : JT → List Pch → Int → Prop
  | _, [], _ => False
  | T, q :: r, c => NoK q.1 T q.2.1 q.2.2 c ∨ ∃ T1, patK q.1 q.2.1 q.2.2 = true ∧ UpdK q.1 T q.2.1 q.2.2 T1 ∧ T1.size ≤ 400 ∧ FailK T1 r c
theorem no_done {k : Int} {T T1 : JT} {l : List Stp} {y : V} {c : Int} (h : NoK k T l y c) (h1 : patK k l y = true) (h2 : UpdK k T l y T1) (h3 : T1.size ≤ 400) : False := by
  rcases h with ⟨_, h⟩ | ⟨_, _, h⟩ | ⟨_, _, T2, h, h4⟩
  · rw [h1] at h; cases h
  · exact h _ h2
  · rw [updk_one _ _ _ _ h h2] at h4
    omega
theorem no_one {k : Int} {T : JT} {l : List Stp} {y : V} {c d : Int} (h : NoK k T l y c) (h' : NoK k T l y d) : c = d := by
  rcases h with ⟨e, h⟩ | ⟨e, g, h⟩ | ⟨e, g, T2, h, h4⟩ <;> rcases h' with ⟨e', h'⟩ | ⟨e', g', h'⟩ | ⟨e', g', T3, h', h5⟩
  · omega
  · rw [h] at g'; cases g'
  · rw [h] at g'; cases g'
  · rw [h'] at g; cases g
  · omega
  · exact absurd h' (h _)
  · rw [h'] at g; cases g
  · exact absurd h (h' _)
  · omega
theorem done_one : ∀ (L : List Pch) (T A B : JT), DoneK T L A → DoneK T L B → A = B
  | [], T, A, B, h, h' => by rw [DoneK] at h h'; rw [h, h']
  | q :: r, T, A, B, h, h' => by
    rw [DoneK] at h h'
    obtain ⟨T1, _, h2, _, h4⟩ := h
    obtain ⟨T2, _, g2, _, g4⟩ := h'
    obtain rfl := updk_one _ _ _ _ h2 g2
    exact done_one r T1 A B h4 g4
theorem done_fail : ∀ (L : List Pch) (T A : JT) (c : Int), DoneK T L A → ¬ FailK T L c
  | [], _, _, _, _, h' => by rw [FailK] at h'; exact h'
  | q :: r, T, A, c, h, h' => by
    rw [DoneK] at h
    rw [FailK] at h'
    obtain ⟨T1, h1, h2, h3, h4⟩ := h
    rcases h' with h' | ⟨T2, g1, g2, g3, g4⟩
    · exact no_done h' h1 h2 h3
    · obtain rfl := updk_one _ _ _ _ h2 g2
      exact done_fail r T1 A c h4 g4
theorem fail_one : ∀ (L : List Pch) (T : JT) (c d : Int), FailK T L c → FailK T L d → c = d
  | [], _, _, _, h, _ => by rw [FailK] at h; exact absurd h id
  | q :: r, T, c, d, h, h' => by
    rw [FailK] at h h'
    rcases h with h | ⟨T1, h1, h2, h3, h4⟩ <;> rcases h' with h' | ⟨T2, g1, g2, g3, g4⟩
    · exact no_one h h'
    · exact absurd (no_done h g1 g2 g3) id
    · exact absurd (no_done h' h1 h2 h3) id
    · obtain rfl := updk_one _ _ _ _ h2 g2
      exact fail_one r T1 c d h4 g4
theorem done_snoc {L : List Pch} {j : Nat} (hj : j < L.length) {Tj T1 : JT} (h1 : patK L[j].1 L[j].2.1 L[j].2.2 = true) (h2 : UpdK L[j].1 Tj L[j].2.1 L[j].2.2 T1) (h3 : T1.size ≤ 400) : (∀ T', DoneK T1 (L.drop (j + 1)) T' → DoneK Tj (L.drop j) T') ∧ ∀ c, FailK T1 (L.drop (j + 1)) c → FailK Tj (L.drop j) c := by
  rw [List.drop_eq_getElem_cons hj]
  exact ⟨fun T' h => ⟨T1, h1, h2, h3, h⟩, fun c h => Or.inr ⟨T1, h1, h2, h3, h⟩⟩
theorem fail_here {L : List Pch} {j : Nat} (hj : j < L.length) {Tj : JT} {c : Int} (h : NoK L[j].1 Tj L[j].2.1 L[j].2.2 c) : FailK Tj (L.drop j) c := by
  rw [List.drop_eq_getElem_cons hj]
  exact Or.inl h
/-- The keys of a path that may be are not too long. -/
theorem pat_parts {k : Int} {l : List Stp} {y : V} (h : patK k l y = true) : (1 ≤ k ∧ k ≤ 3) ∧ valB y = true ∧ ∀ s ∈ l, s.1.size ≤ 20 := by
  unfold patK at h
  simp only [Bool.and_eq_true, decide_eq_true_eq, Bool.not_eq_true', List.any_eq_false] at h
  refine ⟨h.1, h.2.1, fun s hs => ?_⟩
  have h5 := h.2.2 s hs
  unfold longB at h5
  simp only [decide_eq_true_eq] at h5
  omega
end Go.Proofs.YtnmdhbejjjmdeaaGreatDoor

namespace Go.Proofs.YtnmdhbejjjmdeaaGreatDoor
open Go.RowKit Go.Sort

theorem grown_belowJ {B e s n : Nat} {w w' : World} {v : Value} {xs : List Value} (h : w.grownBy w' v.ownBlock) (hv : w.ownsRow B e s v n xs) (hB : B ≤ w.heap.size) : Below B w w' :=
  ⟨h.os, h.tape, h.output, h.size, fun k hk => h.block k (by omega) (fun e => by
    rcases hv.2 with ⟨rfl, _⟩ | ⟨g, cap, cur, rfl, h1, _⟩
    · simp [Value.ownBlock] at e
    · simp [Value.ownBlock] at e
      omega)⟩
theorem appT (ty : TypeId) (W : World) (B : Nat) (hB : B ≤ W.heap.size) (v : Value) (xs : List TV) (hv : W.ownsRow B 29 7 v xs.length (tcs xs)) (a : Option Addr) (c : Nat) (us : List TV) (ha : a = none → us = [] ∧ c = 0) (hc : ∀ ad, a = some ad → ∀ j u, (tcs us)[j]? = some u → W.cell? (ad.add j) = some u) (h1 : ∀ u ∈ tcs us, u.oneCell' = true) (hl : xs.length + us.length ≤ 1000000) :
    ∃ u W', (Builtin.append_ #[27, 27] ty #[v, .slice a us.length c]).run Tryz.prog W = .ok u W' ∧ W'.ownsRow B 29 7 u (xs ++ us).length (tcs (xs ++ us)) ∧ W.grownBy W' v.ownBlock ∧ Below B W W' := by
  obtain ⟨i0, hi0, hz0, hz1, hz2⟩ := info_parts infoT
  cases a with
  | none =>
    obtain ⟨rfl, rfl⟩ := ha rfl
    exact ⟨v, W, run_append_owned_none (P := Tryz.prog) (w := W) B 27 ty 29 i0 7 Tryz.underlying27 hi0 v xs.length (tcs xs) hv, by simpa using hv, ⟨rfl, rfl, rfl, Nat.le_refl _, fun _ _ _ => rfl⟩, Below.refl _ _⟩
  | some ad =>
    obtain ⟨u, W', q1, q2, q3, _⟩ := run_append_own (P := Tryz.prog) W B 27 ty 29 i0 _ 7 _ Tryz.underlying27 hi0 hz0 hz1 hz2 rfl (by decide) v xs.length (tcs xs) hv ad us.length c (tcs us) (tcs_len us) (hc ad rfl) h1 (by unfold maxLen; omega) (by omega) hB
    refine ⟨u, W', q1, ?_, q3, grown_belowJ q3 hv hB⟩
    rw [List.length_append, tcs_app]
    exact q2
theorem appS (ty : TypeId) (W : World) (B : Nat) (hB : B ≤ W.heap.size) (v : Value) (xs : List ByteArray) (hv : W.ownsRow B 9 1 v xs.length (scells xs)) (a : Option Addr) (c : Nat) (us : List ByteArray) (ha : a = none → us = [] ∧ c = 0) (hc : ∀ ad, a = some ad → ∀ j u, (scells us)[j]? = some u → W.cell? (ad.add j) = some u) (hl : xs.length + us.length ≤ 1000000) :
    ∃ u W', (Builtin.append_ #[26, 26] ty #[v, .slice a us.length c]).run Tryz.prog W = .ok u W' ∧ W'.ownsRow B 9 1 u (xs ++ us).length (scells (xs ++ us)) ∧ W.grownBy W' v.ownBlock ∧ Below B W W' := by
  obtain ⟨i0, hi0, hz0, hz1, hz2⟩ := info_parts infoS
  cases a with
  | none =>
    obtain ⟨rfl, rfl⟩ := ha rfl
    exact ⟨v, W, run_append_owned_none (P := Tryz.prog) (w := W) B 26 ty 9 i0 1 Tryz.underlying26 hi0 v xs.length (scells xs) hv, by simpa using hv, ⟨rfl, rfl, rfl, Nat.le_refl _, fun _ _ _ => rfl⟩, Below.refl _ _⟩
  | some ad =>
    obtain ⟨u, W', q1, q2, q3, _⟩ := run_append_own (P := Tryz.prog) W B 26 ty 9 i0 _ 1 _ Tryz.underlying26 hi0 hz0 hz1 hz2 rfl (by decide) v xs.length (scells xs) hv ad us.length c (scells us) (by simp [scells]) (hc ad rfl) (one_scells us) (by unfold maxLen; omega) (by omega) hB
    refine ⟨u, W', q1, ?_, q3, grown_belowJ q3 hv hB⟩
    have e : scells (xs ++ us) = scells xs ++ scells us := by simp [scells]
    rw [List.length_append, e]
    exact q2
/-- A slice value that holds texts, in a block of some kind. -/
def IsStrsP (P : Nat → Prop) (w : World) (v : Value) (l : List ByteArray) : Prop :=
  ∃ a cap, v = .slice a l.length cap ∧ (l.length ≤ cap ∧ (a = none → cap = 0)) ∧ l.length ≤ 8796093022208 ∧ (l ≠ [] → ∃ b off, a = some ⟨b, off, none⟩ ∧ b < w.heap.size ∧ P b ∧ ∀ i (h : i < l.length), w.cell? ⟨b, off + i, none⟩ = some (.string l[i]))
/-- Trees' own fields, in a row in a block of some kind. -/
def RowTP (P : Nat → Prop) (w : World) (a : Option Addr) (us : List TV) : Prop :=
  us ≠ [] → ∃ b off, a = some ⟨b, off, none⟩ ∧ b < w.heap.size ∧ P b ∧ ∀ i (h : i < us.length) j, j < 7 → w.cell? ⟨b, off + i * 7 + j, none⟩ = (tcells us[i])[j]?
/-- A tree whose rows lie in blocks of some kind. -/
abbrev IsTP (P : Nat → Prop) (w : World) (v : Value) (T : JT) : Prop := IsTG (IsStrsP P w) (RowTP P w) v T
theorem IsStrsP.strs {P : Nat → Prop} {w : World} {v : Value} {l : List ByteArray} (h : IsStrsP P w v l) : IsStrs w v l := by
  obtain ⟨a, cap, e, h1, h2, h3⟩ := h
  exact ⟨a, cap, e, h1, h2, fun hl => by obtain ⟨b, off, e1, h4, _, h5⟩ := h3 hl; exact ⟨b, off, e1, h4, h5⟩⟩
theorem RowTP.row {P : Nat → Prop} {w : World} {a : Option Addr} {us : List TV} (h : RowTP P w a us) : RowT w a us := fun hu => by
  obtain ⟨b, off, e1, h4, _, h5⟩ := h hu
  exact ⟨b, off, e1, h4, h5⟩
theorem IsTG.plain {P : Nat → Prop} {w : World} {v : Value} {T : JT} (h : IsTP P w v T) : IsT w v T := by
  induction h using IsTG.ind with
  | mk x ks ts uk a cap us hk hl hc hz hr _ ih => exact IsTG.mk x ks ts uk a cap us hk.strs hl hc hz hr.row ih
theorem IsTG.kind {w : World} {v : Value} {T : JT} (h : IsT w v T) : IsTP (fun b => b < w.heap.size) w v T := by
  induction h using IsTG.ind with
  | mk x ks ts uk a cap us hk hl hc hz hr _ ih =>
    refine IsTG.mk x ks ts uk a cap us ?_ hl hc hz (fun hu => ?_) ih
    · obtain ⟨a, cap, e, h1, h2, h3⟩ := hk
      exact ⟨a, cap, e, h1, h2, fun hl => by obtain ⟨b, off, e1, h4, h5⟩ := h3 hl; exact ⟨b, off, e1, h4, h4, h5⟩⟩
    · obtain ⟨b, off, e1, h4, h5⟩ := hr hu
      exact ⟨b, off, e1, h4, h4, h5⟩
theorem IsTG.move {P P' : Nat → Prop} {w w' : World} {v : Value} {T : JT} (h : IsTP P w v T) (hz : w.heap.size ≤ w'.heap.size) (hk : ∀ b, P b → b < w.heap.size → w'.heap[b]? = w.heap[b]?) (hP : ∀ b, P b → P' b) : IsTP P' w' v T := by
  induction h using IsTG.ind with
  | mk x ks ts uk a cap us hkk hl hc hzz hr _ ih =>
    refine IsTG.mk x ks ts uk a cap us ?_ hl hc hzz (fun hu => ?_) ih
    · obtain ⟨a, cap, e, h1, h2, h3⟩ := hkk
      exact ⟨a, cap, e, h1, h2, fun hl => by
        obtain ⟨b, off, e1, h4, h6, h5⟩ := h3 hl
        exact ⟨b, off, e1, by omega, hP b h6, fun i hi => (World.cell?_of_block (w := w) (hk b h6 h4)).trans (h5 i hi)⟩⟩
    · obtain ⟨b, off, e1, h4, h6, h5⟩ := hr hu
      exact ⟨b, off, e1, by omega, hP b h6, fun i hi j hj => (World.cell?_of_block (w := w) (hk b h6 h4)).trans (h5 i hi j hj)⟩
/-- Trees' own fields that lie in memory, one for each of a list. -/
def AllT (P : Nat → Prop) (w : World) (us : List TV) (ts : List JT) : Prop := us.length = ts.length ∧ ∀ i (h : i < us.length) (h' : i < ts.length), IsTP P w (tval us[i]) ts[i]
theorem AllT.move {P P' : Nat → Prop} {w w' : World} {us : List TV} {ts : List JT} (h : AllT P w us ts) (hb : Below w.heap.size w w') (hP : ∀ b, P b → P' b) : AllT P' w' us ts := ⟨h.1, fun i a b => (h.2 i a b).move hb.size (fun b _ h2 => hb.block b h2) hP⟩
theorem AllT.app {P : Nat → Prop} {w : World} {us vs : List TV} {ts rs : List JT} (h : AllT P w us ts) (h' : AllT P w vs rs) : AllT P w (us ++ vs) (ts ++ rs) := by
  refine ⟨by rw [List.length_append, List.length_append, h.1, h'.1], fun i a b => ?_⟩
  have hl := h.1
  by_cases hi : i < us.length
  · rw [List.getElem_append_left hi, List.getElem_append_left (by omega)]
    exact h.2 i hi (by omega)
  · rw [List.length_append] at a b
    rw [List.getElem_append_right (by omega), List.getElem_append_right (by omega)]
    have e : i - us.length = i - ts.length := by omega
    simp only [e]
    exact h'.2 _ (by omega) (by omega)
theorem AllT.take {P : Nat → Prop} {w : World} {us : List TV} {ts : List JT} (h : AllT P w us ts) (k : Nat) : AllT P w (us.take k) (ts.take k) := by
  refine ⟨by rw [List.length_take, List.length_take, h.1], fun i a b => ?_⟩
  rw [List.getElem_take, List.getElem_take]
  exact h.2 i _ _
theorem AllT.drop {P : Nat → Prop} {w : World} {us : List TV} {ts : List JT} (h : AllT P w us ts) (k : Nat) : AllT P w (us.drop k) (ts.drop k) := by
  refine ⟨by rw [List.length_drop, List.length_drop, h.1], fun i a b => ?_⟩
  rw [List.getElem_drop, List.getElem_drop]
  exact h.2 _ _ _
theorem AllT.one {P : Nat → Prop} {w : World} {u : TV} {t : JT} (h : IsTP P w (tval u) t) : AllT P w [u] [t] := by
  refine ⟨rfl, fun i a b => ?_⟩
  obtain rfl : i = 0 := by simpa using a
  exact h
theorem AllT.cells {P : Nat → Prop} {w : World} {us : List TV} {ts : List JT} (h : AllT P w us ts) : ∀ u ∈ tcs us, u.oneCell' = true := by
  intro u hu
  obtain ⟨x, hx, hu⟩ := List.mem_flatMap.1 hu
  obtain ⟨i, hi, rfl⟩ := List.getElem_of_mem hx
  obtain ⟨y, a1, n1, c1, a2, n2, c2, e⟩ := (h.2 i hi (by rw [← h.1]; exact hi)).plain.parts
  unfold tcells at hu
  rw [e] at hu
  simp at hu
  rcases hu with rfl | rfl | rfl | rfl | rfl | rfl | rfl <;> rfl
/-- A tree out of its rows. -/
theorem tree_of {P : Nat → Prop} {B : Nat} {w : World} {x : V} {vk vt : Value} {ks : List ByteArray} {us : List TV} {ts : List JT} (hk : w.ownsRow B 9 1 vk ks.length (scells ks)) (ht : w.ownsRow B 29 7 vt us.length (tcs us)) (ha : AllT P w us ts) (h1 : ks.length ≤ 1000000) (h2 : ts.length ≤ 1000000) (hB : ∀ b, B ≤ b → P b) : IsTP P w (tval (x, vk, vt)) (.node x ks ts) := by
  have hl := ha.1
  have hks : IsStrsP P w vk ks := by
    obtain ⟨a, cap, e, g1, g2, g3⟩ := own_strs hk h1
    exact ⟨a, cap, e, g1, g2, fun hl => by obtain ⟨b, off, e1, h4, h6, h5⟩ := g3 hl; exact ⟨b, off, e1, h4, hB b h6, h5⟩⟩
  rcases own_rowB ht with ⟨e, hus⟩ | ⟨g, cap, e, hlg, hg2, hc, hr⟩
  · subst hus
    have ets : ts = [] := List.length_eq_zero_iff.1 hl.symm
    subst ets
    rw [e]
    exact IsTG.mk x ks [] vk none 0 [] hks rfl ⟨Nat.le_refl _, fun _ => rfl⟩ (Nat.zero_le _) (fun h => absurd rfl h) (fun _ hi => absurd hi (Nat.not_lt_zero _))
  · rw [e, hl]
    exact IsTG.mk x ks ts vk (some ⟨g, 0, none⟩) cap us hks hl ⟨by omega, fun e => by cases e⟩ (by omega) (fun _ => ⟨g, 0, rfl, hg2, hB g hlg, fun i hi k hk => by rw [Nat.zero_add]; exact hr.cellAt i hi k hk⟩) ha.2
theorem leafP (P : Nat → Prop) (w : World) (y : V) : IsTP P w (tval (leafV y)) (leafT y) :=
  IsTG.mk y [] [] (.slice none 0 0) none 0 [] ⟨none, 0, rfl, ⟨Nat.le_refl _, fun _ => rfl⟩, Nat.zero_le _, fun h => absurd rfl h⟩ rfl ⟨Nat.le_refl _, fun _ => rfl⟩ (Nat.zero_le _) (fun h => absurd rfl h) (fun _ hi => absurd hi (Nat.not_lt_zero _))
theorem own_from {B e s n : Nat} {w w' : World} {v : Value} {xs : List Value} (h : w.ownsRow B e s v n xs) (hf : From B w w') : w'.ownsRow B e s v n xs := by
  refine ⟨h.1, ?_⟩
  rcases h.2 with h0 | ⟨g, cap, cur, e1, h2, h3, h4⟩
  · exact Or.inl h0
  · exact Or.inr ⟨g, cap, cur, e1, h2, (hf.2 g h2 (lt_of_heap h3)).trans h3, h4⟩
/-- Where a row's first ones lie. -/
theorem src_take {w W : World} {a : Option Addr} {c k : Nat} {us : List TV} (hr : RowT w a us) (hb : Below w.heap.size w W) (hk : k ≤ us.length) (hn : a = none → c = 0) (hc : us.length ≤ c) : (a = none → us.take k = [] ∧ c = 0) ∧ ∀ ad, a = some ad → ∀ j u, (tcs (us.take k))[j]? = some u → W.cell? (ad.add j) = some u := by
  refine ⟨fun e => ?_, fun ad e j u hj => ?_⟩
  · have h0 := hn e
    have hu : us = [] := List.length_eq_zero_iff.1 (by omega)
    rw [hu]
    exact ⟨by simp, h0⟩
  · have hjl : j < (us.take k).length * 7 := by
      rcases Nat.lt_or_ge j ((us.take k).length * 7) with h | h
      · exact h
      · rw [List.getElem?_eq_none (by rw [tcs_len]; exact h)] at hj; cases hj
    have htl : (us.take k).length = k := by rw [List.length_take]; omega
    obtain ⟨b, off, e2, h4, h5⟩ := hr (fun e => by rw [e] at hk; simp at hk; omega)
    rw [e] at e2
    obtain rfl := Option.some.inj e2
    obtain ⟨i, d, rfl, hd⟩ : ∃ i d, j = i * 7 + d ∧ d < 7 := ⟨j / 7, j % 7, by omega, by omega⟩
    have hil : i < (us.take k).length := by omega
    rw [add_at, ← Nat.add_assoc, hb.cell (p := ⟨b, off + i * 7 + d, none⟩) h4, h5 i (by omega) d hd, ← hj, tcs_at _ i hil d hd, List.getElem_take]
/-- Where a row's last ones lie. -/
theorem src_drop {w W : World} {a : Option Addr} {c k : Nat} {us : List TV} (hr : RowT w a us) (hb : Below w.heap.size w W) (hk : k ≤ us.length) (hn : a = none → c = 0) (hc : us.length ≤ c) : ((if c = k then a else Option.map (fun x => x.add (k * 7)) a) = none → us.drop k = [] ∧ c - k = 0) ∧ ∀ ad, (if c = k then a else Option.map (fun x => x.add (k * 7)) a) = some ad → ∀ j u, (tcs (us.drop k))[j]? = some u → W.cell? (ad.add j) = some u := by
  have h0 : a = none → us = [] ∧ c = 0 := fun e => ⟨List.length_eq_zero_iff.1 (by have := hn e; omega), hn e⟩
  refine ⟨fun e => ?_, fun ad e j u hj => ?_⟩
  · have ea : a = none := by
      by_cases h : c = k
      · rw [if_pos h] at e; exact e
      · rw [if_neg h] at e; exact Option.map_eq_none_iff.1 e
    rw [(h0 ea).1, (h0 ea).2]
    exact ⟨by simp, by omega⟩
  · have hjl : j < (us.drop k).length * 7 := by
      rcases Nat.lt_or_ge j ((us.drop k).length * 7) with h | h
      · exact h
      · rw [List.getElem?_eq_none (by rw [tcs_len]; exact h)] at hj; cases hj
    have htl : (us.drop k).length = us.length - k := by rw [List.length_drop]
    rw [if_neg (by omega)] at e
    obtain ⟨b, off, e2, h4, h5⟩ := hr (fun e => by rw [e] at hjl; simp at hjl)
    rw [e2] at e
    obtain rfl := Option.some.inj e
    obtain ⟨i, d, rfl, hd⟩ : ∃ i d, j = i * 7 + d ∧ d < 7 := ⟨j / 7, j % 7, by omega, by omega⟩
    have hil : i < (us.drop k).length := by omega
    show W.cell? (((⟨b, off, none⟩ : Addr).add (k * 7)).add (i * 7 + d)) = some u
    have e9 : off + k * 7 + (i * 7 + d) = off + (k + i) * 7 + d := by omega
    rw [add_at, add_at, e9, hb.cell (p := ⟨b, off + (k + i) * 7 + d, none⟩) h4, h5 (k + i) (by omega) d hd, ← hj, tcs_at _ i hil d hd, List.getElem_drop]
theorem strs_take {w W : World} {a : Option Addr} {c k n : Nat} {ks : List ByteArray} (hs : IsStrs w (.slice a n c) ks) (hb : Below w.heap.size w W) (hk : k ≤ ks.length) : (a = none → ks.take k = [] ∧ c = 0) ∧ ∀ ad, a = some ad → ∀ j u, (scells (ks.take k))[j]? = some u → W.cell? (ad.add j) = some u := by
  obtain ⟨a', c', e, h1, h2, h3⟩ := hs
  obtain ⟨rfl, rfl, rfl⟩ := Value.slice.inj e
  refine ⟨fun e => ?_, fun ad e j u hj => ?_⟩
  · have h0 := h1.2 e
    have hu : ks = [] := List.length_eq_zero_iff.1 (by omega)
    rw [hu]
    exact ⟨by simp, h0⟩
  · have hjl : j < (ks.take k).length := by
      rcases Nat.lt_or_ge j (ks.take k).length with h | h
      · exact h
      · rw [List.getElem?_eq_none (by simpa [scells] using h)] at hj; cases hj
    have htl : (ks.take k).length = k := by rw [List.length_take]; omega
    obtain ⟨b, off, e2, h4, h5⟩ := h3 (fun e => by rw [e] at hk; simp at hk; omega)
    rw [e] at e2
    obtain rfl := Option.some.inj e2
    rw [add_at, hb.cell (p := ⟨b, off + j, none⟩) h4, h5 j (by omega), ← hj]
    simp [scells, show j < k by omega, List.getElem?_eq_getElem (show j < ks.length by omega)]
theorem strs_drop {w W : World} {a : Option Addr} {c k n : Nat} {ks : List ByteArray} (hs : IsStrs w (.slice a n c) ks) (hb : Below w.heap.size w W) (hk : k ≤ ks.length) : ((if c = k then a else Option.map (fun x => x.add k) a) = none → ks.drop k = [] ∧ c - k = 0) ∧ ∀ ad, (if c = k then a else Option.map (fun x => x.add k) a) = some ad → ∀ j u, (scells (ks.drop k))[j]? = some u → W.cell? (ad.add j) = some u := by
  obtain ⟨a', c', e, h1, h2, h3⟩ := hs
  obtain ⟨rfl, rfl, rfl⟩ := Value.slice.inj e
  have h0 : a = none → ks = [] ∧ c = 0 := fun e => ⟨List.length_eq_zero_iff.1 (by have := h1.2 e; omega), h1.2 e⟩
  refine ⟨fun e => ?_, fun ad e j u hj => ?_⟩
  · have ea : a = none := by
      by_cases h : c = k
      · rw [if_pos h] at e; exact e
      · rw [if_neg h] at e; exact Option.map_eq_none_iff.1 e
    rw [(h0 ea).1, (h0 ea).2]
    exact ⟨by simp, by omega⟩
  · have hjl : j < (ks.drop k).length := by
      rcases Nat.lt_or_ge j (ks.drop k).length with h | h
      · exact h
      · rw [List.getElem?_eq_none (by simpa [scells] using h)] at hj; cases hj
    have htl : (ks.drop k).length = ks.length - k := by rw [List.length_drop]
    rw [if_neg (by omega)] at e
    obtain ⟨b, off, e2, h4, h5⟩ := h3 (fun e => by rw [e] at hjl; simp at hjl)
    rw [e2] at e
    obtain rfl := Option.some.inj e
    show W.cell? (((⟨b, off, none⟩ : Addr).add k).add j) = some u
    have e9 : off + k + j = off + (k + j) := by omega
    rw [add_at, add_at, e9, hb.cell (p := ⟨b, off + (k + j), none⟩) h4, h5 (k + j) (by omega), ← hj]
    simp [scells, List.getElem?_drop, List.getElem?_eq_getElem (show k + j < ks.length by omega)]
end Go.Proofs.YtnmdhbejjjmdeaaGreatDoor
