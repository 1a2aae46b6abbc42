/-
  What is proved: when a disk in memory and the reference's one are alike, and that each step leaves them so.
  Conditions: as each theorem says.
-/
import Derived.Test.YtcdpcjafomfddaaDoorQDo7
import Derived.Test.YtcdpcjafomfddaaDoorQList
import Derived.Test.YtcdpcjafomfddaaDoorQRead
import Derived.Test.YtcdpcjafomfddaaDoorKPerm
namespace Go.Proofs.YtcdpcjafomfddaaDoor
open Go.RowKit Go.Maps Go.Sort Go.Shelf

theorem fk_map (i : Nat → Nat) (F : List (Tx × Nat)) (s : Tx) : fk (F.map fun q => (q.1, i q.2)) s = (fk F s).map i := by
  unfold fk
  induction F with
  | nil => rfl
  | cons q F ih =>
    simp only [List.map_cons, List.find?_cons]
    split
    · simp
    · exact ih

/-- What a crash leaves of a safe name's file, by bytes. -/
def crD (k : Int) (D : List (Tx × Nat)) (y : Tx × Nat) : Tx × Nat := match D[y.2]? with | some q => (q.1.take (q.2 + min (max k 0).toNat (q.1.length - q.2)), q.2 + min (max k 0).toNat (q.1.length - q.2)) | none => ([], 0)
theorem crD_of (k : Int) (fs : List FV) (y : Tx × Nat) : crB k fs y = crD k (fs.map (·.2)) y := by
  unfold crB crD
  rw [List.getElem?_map]
  cases fs[y.2]? <;> rfl

/-- Both disks are alike: a file of the one is, by its block, a number of the other one. -/
structure Sm (i : Nat → Nat) (F Z : List (Tx × Nat)) (G : List Fi) (D N Y : List (Tx × Nat)) : Prop where
  n : N = F.map fun q => (q.1, i q.2)
  y : Y = Z.map fun q => (q.1, i q.2)
  f : ∀ x ∈ G, D[i x.g]? = some (x.bs, x.sf)
  inj : ∀ x ∈ G, ∀ z ∈ G, i x.g = i z.g → x.g = z.g
  fne : ∀ q ∈ F, q.1 ≠ []
  zne : ∀ q ∈ Z, q.1 ≠ []

variable {i : Nat → Nat} {F Z : List (Tx × Nat)} {G : List Fi} {D N Y : List (Tx × Nat)}

theorem Sm.fk (h : Sm i F Z G D N Y) (s : Tx) : fk N s = (fk F s).map i := by rw [h.n, fk_map]
theorem Sm.lenN (h : Sm i F Z G D N Y) : F.length = N.length := by rw [h.n, List.length_map]
theorem Sm.lenY (h : Sm i F Z G D N Y) : Z.length = Y.length := by rw [h.y, List.length_map]
theorem Sm.names (h : Sm i F Z G D N Y) : N.map (·.1) = F.map (·.1) := by rw [h.n, List.map_map]; rfl

theorem sm_filter (i : Nat → Nat) (F : List (Tx × Nat)) (s : Tx) : (F.filter fun q => q.1 != s).map (fun q => (q.1, i q.2)) = (F.map fun q => (q.1, i q.2)).filter fun q => q.1 != s := by
  rw [List.filter_map]; rfl
theorem Sm.full (h : Sm i F Z G D N Y) : (N.filter fun q => q.1 != []) = N := by
  refine List.filter_eq_self.2 fun q hq => ?_
  rw [h.n] at hq
  obtain ⟨z, hz, rfl⟩ := List.mem_map.1 hq
  simpa using h.fne z hz

theorem Sm.remove (h : Sm i F Z G D N Y) (s : Tx) : Sm i (F.filter fun q => q.1 != s) Z G D (N.filter fun q => q.1 != s) Y :=
  ⟨by rw [sm_filter, ← h.n], h.y, h.f, h.inj, fun q hq => h.fne q (List.mem_filter.1 hq).1, h.zne⟩
theorem Sm.rename (h : Sm i F Z G D N Y) {s t : Tx} {g : Nat} (ht : t ≠ []) : Sm i (renF F s t g) Z G D (((N.filter fun q => q.1 != s).filter fun q => q.1 != t) ++ [(t, i g)]) Y :=
  ⟨by unfold renF; rw [List.map_append, sm_filter, sm_filter, ← h.n]; rfl, h.y, h.f, h.inj, fun q hq => by
    unfold renF at hq
    rcases List.mem_append.1 hq with hq | hq
    · exact h.fne q (List.mem_filter.1 (List.mem_filter.1 hq).1).1
    · rw [List.mem_singleton.1 hq]; exact ht, h.zne⟩
theorem Sm.names_safe (h : Sm i F Z G D N Y) : Sm i F F G D N (N.filter fun q => q.1 != []) :=
  ⟨h.n, by rw [h.full]; exact h.n, h.f, h.inj, h.fne, h.fne⟩

theorem Sm.create (h : Sm i F Z G D N Y) {s : Tx} (hs : s ≠ []) {g : Nat} {v : Value} (hg : ∀ x ∈ G, x.g ≠ g) (inF : ∀ q ∈ F, ∃ x ∈ G, x.g = q.2) (inZ : ∀ q ∈ Z, ∃ x ∈ G, x.g = q.2) :
    ∃ i', Sm i' (F ++ [(s, g)]) Z (G ++ [⟨g, v, [], 0⟩]) (D ++ [([], 0)]) ((N.filter fun q => q.1 != []) ++ [(s, D.length)]) Y := by
  have old : ∀ x ∈ G, i x.g < D.length := fun x hx => (List.getElem?_eq_some_iff.1 (h.f x hx)).1
  have same : ∀ (L : List (Tx × Nat)), (∀ q ∈ L, ∃ x ∈ G, x.g = q.2) → L.map (fun q => (q.1, i q.2)) = L.map fun q => (q.1, if q.2 = g then D.length else i q.2) := fun L hL => by
    refine List.map_congr_left fun q hq => ?_
    obtain ⟨x, hx, e⟩ := hL q hq
    rw [if_neg (by rw [← e]; exact hg x hx)]
  refine ⟨fun b => if b = g then D.length else i b, ?_, ?_, fun x hx => ?_, fun x hx z hz e => ?_, fun q hq => ?_, h.zne⟩
  · rw [h.full, List.map_append, ← same F inF, ← h.n]; simp
  · rw [← same Z inZ]; exact h.y
  · rcases List.mem_append.1 hx with hx | hx
    · show (D ++ _)[if x.g = g then D.length else i x.g]? = _
      rw [if_neg (hg x hx), List.getElem?_append_left (old x hx)]
      exact h.f x hx
    · rw [List.mem_singleton.1 hx]
      show (D ++ _)[if g = g then D.length else i g]? = _
      rw [if_pos rfl, List.getElem?_append_right (Nat.le_refl _)]
      simp
  · have e' : (if x.g = g then D.length else i x.g) = if z.g = g then D.length else i z.g := e
    rcases List.mem_append.1 hx with hx | hx <;> rcases List.mem_append.1 hz with hz | hz
    · rw [if_neg (hg x hx), if_neg (hg z hz)] at e'; exact h.inj x hx z hz e'
    · rw [List.mem_singleton.1 hz, if_neg (hg x hx), if_pos rfl] at e'
      have := old x hx; omega
    · rw [List.mem_singleton.1 hx, if_neg (hg z hz), if_pos rfl] at e'
      have := old z hz; omega
    · rw [List.mem_singleton.1 hx, List.mem_singleton.1 hz]
  · rcases List.mem_append.1 hq with hq | hq
    · exact h.fne q hq
    · rw [List.mem_singleton.1 hq]; exact hs

theorem Sm.set (h : Sm i F Z G D N Y) {x y : Fi} (hx : x ∈ G) (hy : y.g = x.g) : Sm i F Z (upd G y) (D.set (i x.g) (y.bs, y.sf)) N Y := by
  have hlt : i x.g < D.length := (List.getElem?_eq_some_iff.1 (h.f x hx)).1
  have hin : ∀ z ∈ upd G y, ∃ z' ∈ G, z'.g = z.g := fun z hz => (upd_g G y z.g).1 ⟨z, hz, rfl⟩
  refine ⟨h.n, h.y, fun z hz => ?_, fun a ha b hb e => ?_, h.fne, h.zne⟩
  · unfold upd at hz
    obtain ⟨u, hu, rfl⟩ := List.mem_map.1 hz
    split
    · rw [hy, List.getElem?_set_self hlt]
    · rename_i hne
      rw [List.getElem?_set_ne (fun e => hne (by rw [hy]; exact (h.inj x hx u hu e).symm))]
      exact h.f u hu
  · obtain ⟨a', ha', ea⟩ := hin a ha
    obtain ⟨b', hb', eb⟩ := hin b hb
    rw [← ea, ← eb] at e ⊢
    exact h.inj a' ha' b' hb' e

/-- A permutation of what is told of things is one of the things. -/
theorem perm_lift {α β : Type} (f : α → β) : ∀ (M : List β) (E : List α), (E.map f).Perm M → ∃ E', E.Perm E' ∧ E'.map f = M := by
  intro M
  induction M with
  | nil =>
    intro E h
    have : E = [] := by simpa using h.eq_nil
    subst this
    exact ⟨[], List.Perm.refl _, rfl⟩
  | cons m M ih =>
    intro E h
    have hm : m ∈ E.map f := h.symm.subset (List.mem_cons_self)
    obtain ⟨e, he, rfl⟩ := List.mem_map.1 hm
    obtain ⟨A, B, rfl⟩ := List.append_of_mem he
    have h1 : (A ++ e :: B).Perm (e :: (A ++ B)) := List.perm_middle
    have h2 : ((A ++ B).map f).Perm M := by
      have := (h1.map f).symm.trans h
      rw [List.map_cons] at this
      exact (List.perm_cons _).1 this
    obtain ⟨E', h3, h4⟩ := ih (A ++ B) h2
    exact ⟨e :: E', h1.trans (h3.cons e), by rw [List.map_cons, h4]⟩

/-- The place of a block among those that a crash has made. -/
def atE (E : List Rst) (b : Nat) : Nat := E.findIdx fun q => q.2.2.g == b
theorem atE_of {E : List Rst} (hn : (E.map fun q => q.2.2.g).Nodup) {j : Nat} {q : Rst} (hj : E[j]? = some q) : atE E q.2.2.g = j := by
  obtain ⟨hl, he⟩ := List.getElem?_eq_some_iff.1 hj
  unfold atE
  rw [List.findIdx_eq hl]
  refine ⟨by rw [he]; simp, fun l hlj => ?_⟩
  have hll : l < E.length := Nat.lt_trans hlj hl
  have hp := List.pairwise_iff_getElem.1 hn l j (by rw [List.length_map]; exact hll) (by rw [List.length_map]; exact hl) hlj
  simp only [List.getElem_map] at hp
  rw [he] at hp
  simpa using hp

theorem crash_sm (h : Sm i F Z G D N Y) {k : Int} {E : List Rst} (hp : (E.map (·.1)).Perm (Z.map (·.1))) (hm : Made Z G k E) (zn : (Z.map (·.1)).Nodup) (inZ : ∀ q ∈ Z, ∃ x ∈ G, x.g = q.2) (ap : (nwF E).Pairwise Apart) :
    ∃ E' i', (nmF E).Perm (nmF E') ∧ Sm i' (nmF E') (nmF E') (nwF E) (D ++ Y.map (crD k D)) (crN D.length Y) (crN D.length Y) := by
  obtain ⟨E', pe, eN⟩ := perm_lift (fun q : Rst => q.1) (Z.map (·.1)) E hp
  have nd : (E'.map fun q => q.2.2.g).Nodup := by
    have h1 : ((nwF E).map fun x => x.g).Nodup := List.pairwise_map.2 (ap.imp fun {a b} hab => hab.1)
    have h2 : ((nwF E).map fun x => x.g) = E.map fun q => q.2.2.g := by unfold nwF; rw [List.map_map]; rfl
    rw [h2] at h1
    exact (pe.map fun q => q.2.2.g).nodup_iff.1 h1
  have lEZ : E'.length = Z.length := by have := congrArg List.length eN; simpa using this
  have lY : Y.length = Z.length := by rw [h.y, List.length_map]
  have name : ∀ (j : Nat) (q : Rst) (z : Tx × Nat), E'[j]? = some q → Z[j]? = some z → q.1 = z.1 := fun j q z hq hz => by
    have e1 : (E'.map fun q : Rst => q.1)[j]? = (Z.map (·.1))[j]? := by rw [eN]
    rw [List.getElem?_map, List.getElem?_map, hq, hz] at e1
    exact Option.some.inj e1
  have two : (nmF E').map (fun q => (q.1, D.length + atE E' q.2)) = crN D.length Y := by
    refine List.ext_getElem? fun j => ?_
    unfold nmF crN
    rw [List.map_map, List.getElem?_map, List.getElem?_map, List.getElem?_zipIdx]
    rcases Nat.lt_or_ge j E'.length with hj | hj
    · obtain ⟨q, hq⟩ : ∃ q, E'[j]? = some q := ⟨_, List.getElem?_eq_getElem hj⟩
      obtain ⟨z, hz⟩ : ∃ z, Z[j]? = some z := ⟨_, List.getElem?_eq_getElem (by omega)⟩
      have hy : Y[j]? = some (z.1, i z.2) := by rw [h.y, List.getElem?_map, hz]; rfl
      rw [hq, hy]
      show some (q.1, D.length + atE E' q.2.2.g) = some (z.1, D.length + (0 + j))
      rw [atE_of nd hq, name j q z hq hz, Nat.zero_add]
    · rw [List.getElem?_eq_none hj, List.getElem?_eq_none (by omega)]; rfl
  refine ⟨E', fun b => D.length + atE E' b, pe.map fun q : Rst => (q.1, q.2.2.g), two.symm, two.symm, fun x hx => ?_, fun x hx z hz e => ?_, ?_, ?_⟩
  · unfold nwF at hx
    obtain ⟨q, hq, rfl⟩ := List.mem_map.1 hx
    obtain ⟨j, hj⟩ := List.mem_iff_getElem?.1 (pe.subset hq)
    have hl := (List.getElem?_eq_some_iff.1 hj).1
    obtain ⟨z, hz⟩ : ∃ z, Z[j]? = some z := ⟨_, List.getElem?_eq_getElem (by omega)⟩
    have hy : Y[j]? = some (z.1, i z.2) := by rw [h.y, List.getElem?_map, hz]; rfl
    show (D ++ _)[D.length + atE E' q.2.2.g]? = _
    rw [atE_of nd hj, List.getElem?_append_right (by omega), Nat.add_sub_cancel_left, List.getElem?_map, hy]
    obtain ⟨m1, m2⟩ := hm q hq
    have hz1 := List.mem_of_getElem? hz
    have ez : q.2.1 = z.2 := by
      have e1 := name j q z hj hz
      obtain ⟨j2, hj2⟩ := List.mem_iff_getElem?.1 m1
      have l1 := (List.getElem?_eq_some_iff.1 hj2).1
      have l2 := (List.getElem?_eq_some_iff.1 hz).1
      have : j2 = j := by
        refine (List.getElem_inj (h₀ := by rw [List.length_map]; exact l1) (h₁ := by rw [List.length_map]; exact l2) zn).1 ?_
        rw [List.getElem_map, List.getElem_map]
        rw [List.getElem?_eq_getElem l1] at hj2
        rw [List.getElem?_eq_getElem l2] at hz
        rw [Option.some.inj hj2, Option.some.inj hz]
        exact e1
      subst this
      rw [hz] at hj2
      exact (congrArg Prod.snd (Option.some.inj hj2)).symm
    obtain ⟨x0, hx0, e0⟩ := inZ z hz1
    obtain ⟨b1, b2⟩ := m2 x0 hx0 (by rw [e0, ez])
    have hD := h.f x0 hx0
    rw [e0] at hD
    show some (crD k D (z.1, i z.2)) = _
    unfold crD
    rw [hD, b1, b2]
    rfl
  · have he : D.length + atE E' x.g = D.length + atE E' z.g := e
    unfold nwF at hx hz
    obtain ⟨q, hq, rfl⟩ := List.mem_map.1 hx
    obtain ⟨r, hr, rfl⟩ := List.mem_map.1 hz
    obtain ⟨j, hj⟩ := List.mem_iff_getElem?.1 (pe.subset hq)
    obtain ⟨l, hl⟩ := List.mem_iff_getElem?.1 (pe.subset hr)
    rw [atE_of nd hj, atE_of nd hl] at he
    have : j = l := by omega
    subst this
    rw [hj] at hl
    rw [Option.some.inj hl]
  all_goals
    intro q hq
    have h1 : q.1 ∈ (nmF E').map (·.1) := List.mem_map.2 ⟨q, hq, rfl⟩
    have h2 : (nmF E').map (·.1) = Z.map (·.1) := by unfold nmF; rw [List.map_map, ← eN]; rfl
    rw [h2] at h1
    obtain ⟨z, hz, e⟩ := List.mem_map.1 h1
    rw [← e]
    exact h.zne z hz
end Go.Proofs.YtcdpcjafomfddaaDoor
