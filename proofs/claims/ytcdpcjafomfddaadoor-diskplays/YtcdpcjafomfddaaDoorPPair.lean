/-
  What is proved: what each kind of step answers on a disk and on the reference's one is the same, and leaves them alike.
  Conditions: as each theorem says.
-/
import Derived.Test.YtcdpcjafomfddaaDoorPRel
import Derived.Test.YtcdpcjafomfddaaDoorQDoN
import Derived.Test.YtcdpcjafomfddaaDoorQDoY
import Derived.Test.YtcdpcjafomfddaaDoorToldC
namespace Go.Proofs.YtcdpcjafomfddaaDoor
open Go.RowKit Go.Maps Go.Sort Go.Shelf

theorem errV0 : errV 0 = .nilIface := rfl
theorem errVn {E : Int} (h : E ≠ 0) : errV E = .iface 66 (.int .i64 E) := by unfold errV; rw [if_neg h]

/-- A stop of the one is a stop of the other one. -/
def stS (st st2 : Int) : Prop := st = st2 ∨ (st < 0 ∧ st2 < 0)
theorem rdy_same {st st2 : Int} (h : stS st st2) (n : Int) (l : List Tx) : rdy st n l = rdy st2 n l := by
  unfold rdy
  rcases h with rfl | ⟨h1, h2⟩
  · rfl
  · have a1 : ¬ (0 ≤ st ∧ st ≤ n) := by omega
    have a2 : ¬ (0 ≤ st2 ∧ st2 ≤ n) := by omega
    rw [if_neg a1, if_neg a2]
theorem rdy_cases (st n : Int) (l : List Tx) : ((0 ≤ st ∧ st ≤ n) ∧ rdy st n l = 7) ∨ ((st < 0 ∨ n < st) ∧ l.all nameB = true ∧ rdy st n l = 0) ∨ ((st < 0 ∨ n < st) ∧ l.all nameB = false ∧ rdy st n l = 2) := by
  unfold rdy
  by_cases h : 0 ≤ st ∧ st ≤ n
  · exact Or.inl ⟨h, by rw [if_pos h]⟩
  · rw [if_neg h]
    have h1 : st < 0 ∨ n < st := by omega
    cases hl : l.all nameB with
    | true => exact Or.inr (Or.inl ⟨h1, rfl, rfl⟩)
    | false => exact Or.inr (Or.inr ⟨h1, rfl, rfl⟩)
theorem one_name (s : Tx) : [s].all nameB = nameB s := by simp
theorem two_names (s t : Tx) : [s, t].all nameB = (nameB s && nameB t) := by simp
theorem name_some {s : Tx} (h : nameB s = true) : s ≠ [] := by
  intro e
  subst e
  simp [nameB] at h

variable {i : Nat → Nat} {F Z : List (Tx × Nat)} {G : List Fi} {D N Y : List (Tx × Nat)}

theorem Sm.some (h : Sm i F Z G D N Y) (s : Tx) : (Go.Proofs.YtcdpcjafomfddaaDoor.fk F s).isSome = (Go.Proofs.YtcdpcjafomfddaaDoor.fk N s).isSome := by rw [h.fk s, Option.isSome_map]
theorem Sm.opE (h : Sm i F Z G D N Y) {st st2 : Int} (hs : stS st st2) (n : Int) (s : Tx) : Go.Proofs.YtcdpcjafomfddaaDoor.opE F st n s = Go.Proofs.YtcdpcjafomfddaaDoor.opE N st2 n s := by unfold Go.Proofs.YtcdpcjafomfddaaDoor.opE; rw [h.some s, rdy_same hs]
theorem Sm.crE (h : Sm i F Z G D N Y) {st st2 : Int} (hs : stS st st2) (n : Int) (s : Tx) : Go.Proofs.YtcdpcjafomfddaaDoor.crE F st n s = Go.Proofs.YtcdpcjafomfddaaDoor.crE N st2 n s := by unfold Go.Proofs.YtcdpcjafomfddaaDoor.crE; rw [h.some s, rdy_same hs]
theorem Sm.rnE (h : Sm i F Z G D N Y) {st st2 : Int} (hs : stS st st2) (n : Int) (s t : Tx) : Go.Proofs.YtcdpcjafomfddaaDoor.rnE F st n s t = Go.Proofs.YtcdpcjafomfddaaDoor.rnE N st2 n s t := by unfold Go.Proofs.YtcdpcjafomfddaaDoor.rnE; rw [h.some s, rdy_same hs]
theorem Sm.rdE (h : Sm i F Z G D N Y) (s : Tx) : Go.Proofs.YtcdpcjafomfddaaDoor.rdE F s = Go.Proofs.YtcdpcjafomfddaaDoor.rdE N s := by unfold Go.Proofs.YtcdpcjafomfddaaDoor.rdE; rw [h.some s]

/-- The file of a name, on both sides. -/
theorem sm_file {S : Nat → Prop} {w : World} {p fb sb : Nat} {n st : Int} (h : Sm i F Z G D N Y) (hd : Dk S w p fb sb F Z n st G) {s : Tx} {j : Nat} (hj : fk N s = some j) : ∃ x ∈ G, fk F s = some x.g ∧ i x.g = j ∧ D[j]? = some (x.bs, x.sf) := by
  have e := h.fk s
  rw [hj] at e
  cases hf : fk F s with
  | none => rw [hf] at e; cases e
  | some g =>
    obtain ⟨x, hx, hg⟩ := hd.inF (s, g) (fk_mem hf)
    rw [hf] at e
    have hij : i g = j := (Option.some.inj e).symm
    have hg' : x.g = g := hg
    have e2 : i x.g = j := by rw [hg']; exact hij
    exact ⟨x, hx, by rw [hg'], e2, by rw [← e2]; exact h.f x hx⟩

/-- The disk, like what is told of the reference's one. -/
def DkS (S : Nat → Prop) (w : World) (p : Nat) (n st2 : Int) (D N Y : List (Tx × Nat)) : Prop := ∃ fb sb F Z st G i, Dk S w p fb sb F Z n st G ∧ Sm i F Z G D N Y ∧ stS st st2
def DkP (r : Value) (S : Nat → Prop) (w : World) (p : Nat) (n st2 : Int) (D N Y : List (Tx × Nat)) (e : Ending) (w' : World) : Prop := e = .returned r ∧ Kp S w w' ∧ DkS S w' p n st2 D N Y
/-- The reference's one, by its files' bytes. -/
def RkD (T : Nat → Prop) (w : World) (k : Nat) (n st2 : Int) (D N Y : List (Tx × Nat)) : Prop := ∃ fs : List FV, fs.map (·.2) = D ∧ Rk T w k fs N Y n st2
def RkP (E : Int) (T : Nat → Prop) (w : World) (k : Nat) (n st2 : Int) (D N Y : List (Tx × Nat)) (e : Ending) (w' : World) : Prop := e = .returned (.int .i64 E) ∧ Kp T w w' ∧ RkD T w' k n st2 D N Y

theorem DkS.keep {S : Nat → Prop} {w w' : World} {p : Nat} {n st2 : Int} (h : DkS S w p n st2 D N Y) (hb : Below w.heap.size w w') : DkS S w' p n st2 D N Y := by
  obtain ⟨fb, sb, F, Z, st, G, i, h1, h2⟩ := h
  exact ⟨fb, sb, F, Z, st, G, i, h1.below hb, h2⟩
theorem RkD.keep {T : Nat → Prop} {w w' : World} {k : Nat} {n st2 : Int} (h : RkD T w k n st2 D N Y) (hb : Below w.heap.size w w') : RkD T w' k n st2 D N Y := by
  obtain ⟨fs, h1, h2⟩ := h
  exact ⟨fs, h1, h2.below hb⟩

/-- One of the files, by its bytes. -/
theorem file_at {fs : List FV} (h : fs.map (·.2) = D) {j : Nat} {b : Tx} {f : Nat} (hj : D[j]? = some (b, f)) : ∃ u, fs[j]? = some (u, b, f) := by
  rw [← h, List.getElem?_map] at hj
  cases hq : fs[j]? with
  | none => rw [hq] at hj; cases hj
  | some q =>
    rw [hq] at hj
    obtain ⟨u, q2⟩ := q
    exact ⟨u, by rw [← Option.some.inj hj]⟩
theorem files_set {fs : List FV} (h : fs.map (·.2) = D) (j : Nat) (u : Value) (b : Tx) (f : Nat) : (fs.set j (u, b, f)).map (·.2) = D.set j (b, f) := by rw [List.map_set, h]
theorem files_len {fs : List FV} (h : fs.map (·.2) = D) : fs.length = D.length := by rw [← h, List.length_map]

/-- How great all is. -/
structure Sz (m : Nat) (n : Int) (D N Y : List (Tx × Nat)) : Prop where
  n0 : 0 ≤ n
  n1 : n ≤ m
  N : N.length ≤ m
  Y : Y.length ≤ m
  D : D.length ≤ 100 * m

def wV (k0 : Int) (s t : Tx) (a : Option Addr) (m c : Nat) (k : Int) : Value := .agg #[.int .i64 k0, .string ⟨s.toArray⟩, .string ⟨t.toArray⟩, .slice a m c, .int .i64 k]
def pV (p : Nat) : Value := .pointer (some ⟨p, 0, none⟩)

/-- What the disk's call and the reference's one have in common. -/
def Both2 (f : FuncId) (args : Array Value) (r : Int → Value) (P : Int → Prop) (k0 : Int) (s t : Tx) (a : Option Addr) (c : Nat) (l : Tx) (kk : Int) (p k : Nat) (m : Nat) (n st2 : Int) (D N Y : List (Tx × Nat)) : Prop :=
  ∃ E n' st2' D' N' Y', (P E ∧ Sz (m + 1) n' D' N' Y') ∧
    (∀ S w, (∀ b, w.heap.size ≤ b → S b) → DkS S w p n st2 D N Y → ArgB w (.slice a l.length c) l → Calls Tryd.prog f args w (DkP (r E) S w p n' st2' D' N' Y')) ∧
    (∀ T w, (∀ b, w.heap.size ≤ b → T b) → RkD T w k n st2 D N Y → ArgB w (.slice a l.length c) l → (l ≠ [] → ∀ b o, a = some ⟨b, o, none⟩ → ¬ T b) → Calls Tryd.prog 22 #[pV k, wV k0 s t a l.length c kk] w (RkP E T w k n' st2' D' N' Y'))


theorem doNo_1 {T : Nat → Prop} {p : Nat} {fs : List FV} {n st : Int} (s t : Tx) (a : Option Addr) (m c : Nat) (k : Int) (w : World) (h : Rk T w p fs N Y n st) (hN : N.length ≤ 1000) (hE : crE N st n s ≠ 0) :
    Calls Tryd.prog 22 #[pV p, wV 1 s t a m c k] w fun e w' => e = .returned (.int .i64 (crE N st n s)) ∧ Below w.heap.size w w' := by
  unfold crE at hE ⊢
  rcases rdy_cases st n [s] with ⟨h1, h2⟩ | ⟨h1, h2, h3⟩ | ⟨h1, h2, h3⟩
  · rw [h2, if_neg (by decide)]
    exact do_stop_1 s t a m c k w h h1
  · rw [h3, if_pos rfl] at hE ⊢
    rw [one_name] at h2
    cases hf : fk N s with
    | none => rw [hf] at hE; exact absurd rfl hE
    | some j => exact do_clash s t a m c k w h hN h1 h2 hf
  · rw [h3, if_neg (by decide)]
    rw [one_name] at h2
    exact do_bad_1 s t a m c k w h hN h1 h2

theorem doNo_2 {T : Nat → Prop} {p : Nat} {fs : List FV} {n st : Int} (s t : Tx) (a : Option Addr) (m c : Nat) (k : Int) (w : World) (h : Rk T w p fs N Y n st) (hN : N.length ≤ 1000) (hE : opE N st n s ≠ 0) :
    Calls Tryd.prog 22 #[pV p, wV 2 s t a m c k] w fun e w' => e = .returned (.int .i64 (opE N st n s)) ∧ Below w.heap.size w w' := by
  unfold opE at hE ⊢
  rcases rdy_cases st n [s] with ⟨h1, h2⟩ | ⟨h1, h2, h3⟩ | ⟨h1, h2, h3⟩
  · rw [h2, if_neg (by decide)]
    exact do_stop_2 s t a m c k w h h1
  · rw [h3, if_pos rfl] at hE ⊢
    rw [one_name] at h2
    cases hf : fk N s with
    | none => exact do_none_2 s t a m c k w h hN h1 h2 hf
    | some j => rw [hf] at hE; exact absurd rfl hE
  · rw [h3, if_neg (by decide)]
    rw [one_name] at h2
    exact do_bad_2 s t a m c k w h hN h1 h2

theorem doNo_3 {T : Nat → Prop} {p : Nat} {fs : List FV} {n st : Int} (s t : Tx) (a : Option Addr) (m c : Nat) (k : Int) (w : World) (h : Rk T w p fs N Y n st) (hN : N.length ≤ 1000) (hE : opE N st n s ≠ 0) :
    Calls Tryd.prog 22 #[pV p, wV 3 s t a m c k] w fun e w' => e = .returned (.int .i64 (opE N st n s)) ∧ Below w.heap.size w w' := by
  unfold opE at hE ⊢
  rcases rdy_cases st n [s] with ⟨h1, h2⟩ | ⟨h1, h2, h3⟩ | ⟨h1, h2, h3⟩
  · rw [h2, if_neg (by decide)]
    exact do_stop_3 s t a m c k w h h1
  · rw [h3, if_pos rfl] at hE ⊢
    rw [one_name] at h2
    cases hf : fk N s with
    | none => exact do_none_3 s t a m c k w h hN h1 h2 hf
    | some j => rw [hf] at hE; exact absurd rfl hE
  · rw [h3, if_neg (by decide)]
    rw [one_name] at h2
    exact do_bad_3 s t a m c k w h hN h1 h2

theorem doNo_6 {T : Nat → Prop} {p : Nat} {fs : List FV} {n st : Int} (s t : Tx) (a : Option Addr) (m c : Nat) (k : Int) (w : World) (h : Rk T w p fs N Y n st) (hN : N.length ≤ 1000) (hE : opE N st n s ≠ 0) :
    Calls Tryd.prog 22 #[pV p, wV 6 s t a m c k] w fun e w' => e = .returned (.int .i64 (opE N st n s)) ∧ Below w.heap.size w w' := by
  unfold opE at hE ⊢
  rcases rdy_cases st n [s] with ⟨h1, h2⟩ | ⟨h1, h2, h3⟩ | ⟨h1, h2, h3⟩
  · rw [h2, if_neg (by decide)]
    exact do_stop_6 s t a m c k w h h1
  · rw [h3, if_pos rfl] at hE ⊢
    rw [one_name] at h2
    cases hf : fk N s with
    | none => exact do_none_6 s t a m c k w h hN h1 h2 hf
    | some j => rw [hf] at hE; exact absurd rfl hE
  · rw [h3, if_neg (by decide)]
    rw [one_name] at h2
    exact do_bad_6 s t a m c k w h hN h1 h2

theorem doNo_5 {T : Nat → Prop} {p : Nat} {fs : List FV} {n st : Int} (s t : Tx) (a : Option Addr) (m c : Nat) (k : Int) (w : World) (h : Rk T w p fs N Y n st) (hN : N.length ≤ 1000) (hE : rnE N st n s t ≠ 0) :
    Calls Tryd.prog 22 #[pV p, wV 5 s t a m c k] w fun e w' => e = .returned (.int .i64 (rnE N st n s t)) ∧ Below w.heap.size w w' := by
  unfold rnE at hE ⊢
  rcases rdy_cases st n [s, t] with ⟨h1, h2⟩ | ⟨h1, h2, h3⟩ | ⟨h1, h2, h3⟩
  · rw [h2, if_neg (by decide)]
    exact do_stop_5 s t a m c k w h h1
  · rw [h3, if_pos rfl] at hE ⊢
    rw [two_names, Bool.and_eq_true] at h2
    cases hf : fk N s with
    | none => exact do_none_5 s t a m c k w h hN h1 h2.1 h2.2 hf
    | some j => rw [hf] at hE; exact absurd rfl hE
  · rw [h3, if_neg (by decide)]
    rw [two_names] at h2
    cases ha : nameB s with
    | true => rw [ha, Bool.true_and] at h2; exact do_bad_5b s t a m c k w h hN h1 ha h2
    | false =>
      cases hb : nameB t with
      | true => exact do_bad_5c s t a m c k w h hN h1 ha hb
      | false => exact do_bad_5a s t a m c k w h hN h1 ha hb

theorem Sz.up {m : Nat} {n : Int} (h : Sz m n D N Y) : Sz (m + 1) n D N Y := ⟨h.n0, by have := h.n1; omega, by have := h.N; omega, by have := h.Y; omega, by have := h.D; omega⟩

theorem fk_of_op {N : List (Tx × Nat)} {st n : Int} {s : Tx} (h : opE N st n s = 0) : ∃ j, fk N s = some j ∧ nameB s = true ∧ (st < 0 ∨ n < st) := by
  unfold opE at h
  rcases rdy_cases st n [s] with ⟨h1, h2⟩ | ⟨h1, h2, h3⟩ | ⟨h1, h2, h3⟩
  · rw [h2] at h; simp at h
  · rw [h3, if_pos rfl] at h
    rw [one_name] at h2
    cases hf : fk N s with
    | none => rw [hf] at h; simp at h
    | some j => exact ⟨j, rfl, h2, h1⟩
  · rw [h3] at h; simp at h

variable {p k m : Nat} {n st2 : Int}


set_option maxRecDepth 100000 in
set_option maxHeartbeats 1000000 in
theorem pair_1 (s t : Tx) (a : Option Addr) (c : Nat) (l : Tx) (kk : Int) (_hk : I64 kk) (hs : T64 s) (_ht : T64 t) (hz : Sz m n D N Y) (hm : m ≤ 90) :
    Both2 14 #[pV p, .string ⟨s.toArray⟩] errV (fun _ => True) 1 s t a c l kk p k m n st2 D N Y := by
  have hN := hz.N
  have hD := hz.D
  have hn0 := hz.n0
  have hn1 := hz.n1
  by_cases hE : crE N st2 n s ≠ 0
  · refine ⟨crE N st2 n s, n, st2, D, N, Y, ⟨trivial, hz.up⟩, fun S w hS hd ha => ?_, fun T w hT hr ha hat => ?_⟩
    · obtain ⟨fb, sb, F, Z, st, G, i, d1, d2, d3⟩ := hd
      have eE := d2.crE d3 n s
      refine (create_no s w d1 hs (by rw [eE]; exact hE)).mono ?_
      rintro e w' ⟨rfl, hb⟩
      exact ⟨by rw [eE], Kp.of hb, fb, sb, F, Z, st, G, i, d1.below hb, d2, d3⟩
    · obtain ⟨fs, f1, f2⟩ := hr
      refine (doNo_1 s t a l.length c kk w f2 (by have := hz.N; omega) hE).mono ?_
      rintro e w' ⟨rfl, hb⟩
      exact ⟨rfl, Kp.of hb, fs, f1, f2.below hb⟩
  · have hE0 : crE N st2 n s = 0 := Decidable.not_not.1 hE
    have hx : (st2 < 0 ∨ n < st2) ∧ nameB s = true ∧ fk N s = none := by
      unfold crE at hE0
      rcases rdy_cases st2 n [s] with ⟨h1, h2⟩ | ⟨h1, h2, h3⟩ | ⟨h1, h2, h3⟩
      · rw [h2] at hE0; simp at hE0
      · rw [h3, if_pos rfl] at hE0
        rw [one_name] at h2
        cases hf : fk N s with
        | none => exact ⟨h1, h2, rfl⟩
        | some j => rw [hf] at hE0; simp at hE0
      · rw [h3] at hE0; simp at hE0
    obtain ⟨hst, hnm, hfk⟩ := hx
    have hfl : (N.filter fun q => q.1 != []).length ≤ N.length := List.length_filter_le _ _
    refine ⟨0, n + 1, st2, D ++ [([], 0)], (N.filter fun q => q.1 != []) ++ [(s, D.length)], Y, ⟨trivial, by omega, by omega, by rw [List.length_append, List.length_singleton]; omega, by have := hz.Y; omega, by rw [List.length_append, List.length_singleton]; omega⟩, fun S w hS hd ha => ?_, fun T w hT hr ha hat => ?_⟩
    · obtain ⟨fb, sb, F, Z, st, G, i, d1, d2, d3⟩ := hd
      refine (create_yes s w hS d1 hs ⟨hn0, by omega⟩ (by rw [d2.lenN]; omega) (by rw [d2.crE d3]; exact hE0)).mono ?_
      rintro e w' ⟨rfl, hk, g, d'⟩
      have hg : ∀ x ∈ G, x.g ≠ g := fun x hx => ((List.pairwise_append.1 d'.ap).2.2 x hx _ (List.mem_singleton.2 rfl)).1
      obtain ⟨i', s'⟩ := d2.create (v := .slice none 0 0) (name_some hnm) hg d1.inF d1.inZ
      exact ⟨by rw [errV0], hk, fb, sb, _, _, st, _, i', d', s', d3⟩
    · obtain ⟨fs, f1, f2⟩ := hr
      refine (do_1 s t a l.length c kk w f2 (by omega) hT ⟨hn0, by omega⟩ hst hnm hfk (by rw [files_len f1]; omega)).mono ?_
      rintro e w' ⟨rfl, hk, r'⟩
      rw [files_len f1] at r'
      exact ⟨rfl, hk, _, by rw [List.map_append, f1]; rfl, r'⟩

set_option maxRecDepth 100000 in
set_option maxHeartbeats 1000000 in
theorem pair_2 (s t : Tx) (a : Option Addr) (c : Nat) (l : Tx) (kk : Int) (_hk : I64 kk) (hs : T64 s) (_ht : T64 t) (hz : Sz m n D N Y) (hm : m ≤ 90) :
    Both2 15 #[pV p, .string ⟨s.toArray⟩, .slice a l.length c] errV (fun _ => True) 2 s t a c l kk p k m n st2 D N Y := by
  have hN := hz.N
  have hD := hz.D
  have hn0 := hz.n0
  have hn1 := hz.n1
  by_cases hE : opE N st2 n s ≠ 0
  · refine ⟨opE N st2 n s, n, st2, D, N, Y, ⟨trivial, hz.up⟩, fun S w hS hd ha => ?_, fun T w hT hr ha hat => ?_⟩
    · obtain ⟨fb, sb, F, Z, st, G, i, d1, d2, d3⟩ := hd
      have eE := d2.opE d3 n s
      refine (append_no s _ w d1 hs (by rw [eE]; exact hE)).mono ?_
      rintro e w' ⟨rfl, hb⟩
      exact ⟨by rw [eE], Kp.of hb, fb, sb, F, Z, st, G, i, d1.below hb, d2, d3⟩
    · obtain ⟨fs, f1, f2⟩ := hr
      refine (doNo_2 s t a l.length c kk w f2 (by have := hz.N; omega) hE).mono ?_
      rintro e w' ⟨rfl, hb⟩
      exact ⟨rfl, Kp.of hb, fs, f1, f2.below hb⟩
  · have hE0 : opE N st2 n s = 0 := Decidable.not_not.1 hE
    obtain ⟨j, hfk, hnm, hst⟩ := fk_of_op hE0
    by_cases hfull : ∃ b f, D[j]? = some (b, f) ∧ 60000 < b.length + l.length
    · obtain ⟨b, f, hj, hl⟩ := hfull
      refine ⟨4, n, st2, D, N, Y, ⟨trivial, hz.up⟩, fun S w hS hd ha => ?_, fun T w hT hr ha hat => ?_⟩
      · obtain ⟨fb, sb, F, Z, st, G, i, d1, d2, d3⟩ := hd
        obtain ⟨x, hx, hg, _, hDj⟩ := sm_file d2 d1 hfk
        rw [hj] at hDj
        have hb : b = x.bs := (Prod.mk.inj (Option.some.inj hDj)).1
        refine (append_full s _ l w d1 hs (by rw [d2.opE d3]; exact hE0) ha x hx hg (by rw [← hb]; exact hl)).mono ?_
        rintro e w' ⟨rfl, hb⟩
        exact ⟨rfl, Kp.of hb, fb, sb, F, Z, st, G, i, d1.below hb, d2, d3⟩
      · obtain ⟨fs, f1, f2⟩ := hr
        obtain ⟨u, hu⟩ := file_at f1 hj
        refine (do_full s t a l.length c kk w f2 (by omega) hst ha hnm hfk hu (by rw [files_len f1]; omega) hl).mono ?_
        rintro e w' ⟨rfl, hb⟩
        exact ⟨rfl, Kp.of hb, fs, f1, f2.below hb⟩
    · obtain ⟨b, f, hbf⟩ : ∃ b f, ∀ z, D[j]? = some z → z = (b, f) := by
        cases hq : D[j]? with
        | none => exact ⟨[], 0, fun z hz => by cases hz⟩
        | some z => exact ⟨z.1, z.2, fun y hy => (Option.some.inj hy).symm⟩
      refine ⟨0, n + 1, st2, D.set j (b ++ l, f), N, Y, ⟨trivial, by omega, by omega, by omega, by have := hz.Y; omega, by rw [List.length_set]; omega⟩, fun S w hS hd ha => ?_, fun T w hT hr ha hat => ?_⟩
      · obtain ⟨fb, sb, F, Z, st, G, i, d1, d2, d3⟩ := hd
        obtain ⟨x, hx, hg, hij, hDj⟩ := sm_file d2 d1 hfk
        obtain ⟨rfl, rfl⟩ := Prod.mk.inj (hbf _ hDj)
        have hl : x.bs.length + l.length ≤ 60000 := Nat.not_lt.1 (fun e => hfull ⟨_, _, hDj, e⟩)
        refine (append_yes s _ l w hS d1 hs ⟨hn0, by omega⟩ (by rw [d2.opE d3]; exact hE0) ha x hx hg hl).mono ?_
        rintro e w' ⟨rfl, hk, v', d'⟩
        refine ⟨by rw [errV0], hk, fb, sb, _, _, st, _, i, d', ?_, d3⟩
        rw [← hij]
        exact d2.set (y := ⟨x.g, v', x.bs ++ l, x.sf⟩) hx rfl
      · obtain ⟨fs, f1, f2⟩ := hr
        have hjl : j < D.length := by rw [← files_len f1]; exact f2.nN (s, j) (fk_mem hfk)
        have hDj : D[j]? = some (b, f) := by
          have := List.getElem?_eq_getElem hjl
          rw [this, hbf _ this]
        obtain ⟨u, hu⟩ := file_at f1 hDj
        have hl : b.length + l.length ≤ 60000 := Nat.not_lt.1 (fun e => hfull ⟨_, _, hDj, e⟩)
        refine (do_2 s t a l.length c kk w f2 (by omega) hT ⟨hn0, by omega⟩ hst ha hnm hfk hu (by rw [files_len f1]; omega) hat hl).mono ?_
        rintro e w' ⟨u', rfl, hk, r'⟩
        exact ⟨rfl, hk, _, files_set f1 _ _ _ _, r'⟩

set_option maxRecDepth 100000 in
set_option maxHeartbeats 1000000 in
theorem pair_3 (s t : Tx) (a : Option Addr) (c : Nat) (l : Tx) (kk : Int) (_hk : I64 kk) (hs : T64 s) (_ht : T64 t) (hz : Sz m n D N Y) (hm : m ≤ 90) :
    Both2 16 #[pV p, .string ⟨s.toArray⟩] errV (fun _ => True) 3 s t a c l kk p k m n st2 D N Y := by
  have hN := hz.N
  have hD := hz.D
  have hn0 := hz.n0
  have hn1 := hz.n1
  by_cases hE : opE N st2 n s ≠ 0
  · refine ⟨opE N st2 n s, n, st2, D, N, Y, ⟨trivial, hz.up⟩, fun S w hS hd ha => ?_, fun T w hT hr ha hat => ?_⟩
    · obtain ⟨fb, sb, F, Z, st, G, i, d1, d2, d3⟩ := hd
      have eE := d2.opE d3 n s
      refine (sync_no s w d1 hs (by rw [eE]; exact hE)).mono ?_
      rintro e w' ⟨rfl, hb⟩
      exact ⟨by rw [eE], Kp.of hb, fb, sb, F, Z, st, G, i, d1.below hb, d2, d3⟩
    · obtain ⟨fs, f1, f2⟩ := hr
      refine (doNo_3 s t a l.length c kk w f2 (by have := hz.N; omega) hE).mono ?_
      rintro e w' ⟨rfl, hb⟩
      exact ⟨rfl, Kp.of hb, fs, f1, f2.below hb⟩
  · have hE0 : opE N st2 n s = 0 := Decidable.not_not.1 hE
    obtain ⟨j, hfk, hnm, hst⟩ := fk_of_op hE0
    obtain ⟨b, f, hbf⟩ : ∃ b f, ∀ z, D[j]? = some z → z = (b, f) := by
      cases hq : D[j]? with
      | none => exact ⟨[], 0, fun z hz => by cases hz⟩
      | some z => exact ⟨z.1, z.2, fun y hy => (Option.some.inj hy).symm⟩
    refine ⟨0, n + 1, st2, D.set j (b, b.length), N, Y, ⟨trivial, by omega, by omega, by omega, by have := hz.Y; omega, by rw [List.length_set]; omega⟩, fun S w hS hd ha => ?_, fun T w hT hr ha hat => ?_⟩
    · obtain ⟨fb, sb, F, Z, st, G, i, d1, d2, d3⟩ := hd
      obtain ⟨x, hx, hg, hij, hDj⟩ := sm_file d2 d1 hfk
      obtain ⟨rfl, rfl⟩ := Prod.mk.inj (hbf _ hDj)
      refine (sync_yes s w d1 hs ⟨hn0, by omega⟩ (by rw [d2.opE d3]; exact hE0) x hx hg).mono ?_
      rintro e w' ⟨rfl, hk, d'⟩
      refine ⟨by rw [errV0], hk, fb, sb, _, _, st, _, i, d', ?_, d3⟩
      rw [← hij]
      exact d2.set (y := ⟨x.g, x.v, x.bs, x.bs.length⟩) hx rfl
    · obtain ⟨fs, f1, f2⟩ := hr
      have hjl : j < D.length := by rw [← files_len f1]; exact f2.nN (s, j) (fk_mem hfk)
      have hDj : D[j]? = some (b, f) := by
        have := List.getElem?_eq_getElem hjl
        rw [this, hbf _ this]
      obtain ⟨u, hu⟩ := file_at f1 hDj
      refine (do_3 s t a l.length c kk w f2 (by omega) hT ⟨hn0, by omega⟩ hst hnm hfk hu (by rw [files_len f1]; omega)).mono ?_
      rintro e w' ⟨rfl, hk, r'⟩
      exact ⟨rfl, hk, _, files_set f1 _ _ _ _, r'⟩

set_option maxRecDepth 100000 in
set_option maxHeartbeats 1000000 in
theorem pair_4 (s t : Tx) (a : Option Addr) (c : Nat) (l : Tx) (kk : Int) (_hk : I64 kk) (_hs : T64 s) (_ht : T64 t) (hz : Sz m n D N Y) (hm : m ≤ 90) :
    Both2 17 #[pV p] errV (fun _ => True) 4 s t a c l kk p k m n st2 D N Y := by
  have hN := hz.N
  have hD := hz.D
  have hn0 := hz.n0
  have hn1 := hz.n1
  by_cases hE : rdy st2 n [] ≠ 0
  · refine ⟨rdy st2 n [], n, st2, D, N, Y, ⟨trivial, hz.up⟩, fun S w hS hd ha => ?_, fun T w hT hr ha hat => ?_⟩
    · obtain ⟨fb, sb, F, Z, st, G, i, d1, d2, d3⟩ := hd
      have eE := rdy_same d3 n []
      refine (syncN_no w d1 (by rw [eE]; exact hE)).mono ?_
      rintro e w' ⟨rfl, hb⟩
      exact ⟨by rw [eE], Kp.of hb, fb, sb, F, Z, st, G, i, d1.below hb, d2, d3⟩
    · obtain ⟨fs, f1, f2⟩ := hr
      rcases rdy_cases st2 n [] with ⟨h1, h2⟩ | ⟨h1, h2, h3⟩ | ⟨h1, h2, h3⟩
      · rw [h2]
        refine (do_stop_4 s t a l.length c kk w f2 h1).mono ?_
        rintro e w' ⟨rfl, hb⟩
        exact ⟨rfl, Kp.of hb, fs, f1, f2.below hb⟩
      · exact absurd h3 hE
      · simp at h2
  · have hE0 : rdy st2 n [] = 0 := Decidable.not_not.1 hE
    have hst : st2 < 0 ∨ n < st2 := by
      rcases rdy_cases st2 n [] with ⟨h1, h2⟩ | ⟨h1, h2, h3⟩ | ⟨h1, h2, h3⟩
      · rw [h2] at hE0; simp at hE0
      · exact h1
      · exact h1
    have hfl : (N.filter fun q => q.1 != []).length ≤ N.length := List.length_filter_le _ _
    refine ⟨0, n + 1, st2, D, N, N.filter fun q => q.1 != [], ⟨trivial, by omega, by omega, by omega, by omega, by omega⟩, fun S w hS hd ha => ?_, fun T w hT hr ha hat => ?_⟩
    · obtain ⟨fb, sb, F, Z, st, G, i, d1, d2, d3⟩ := hd
      refine (syncN_yes w hS d1 ⟨hn0, by omega⟩ (by rw [rdy_same d3]; exact hE0)).mono ?_
      rintro e w' ⟨rfl, hk, sb', d'⟩
      exact ⟨by rw [errV0], hk, fb, sb', _, _, st, _, i, d', d2.names_safe, d3⟩
    · obtain ⟨fs, f1, f2⟩ := hr
      refine (do_4 s t a l.length c kk w f2 (by omega) hT ⟨hn0, by omega⟩ hst).mono ?_
      rintro e w' ⟨rfl, hk, r'⟩
      exact ⟨rfl, hk, fs, f1, r'⟩

set_option maxRecDepth 100000 in
set_option maxHeartbeats 1000000 in
theorem pair_5 (s t : Tx) (a : Option Addr) (c : Nat) (l : Tx) (kk : Int) (_hk : I64 kk) (hs : T64 s) (ht : T64 t) (hz : Sz m n D N Y) (hm : m ≤ 90) :
    Both2 18 #[pV p, .string ⟨s.toArray⟩, .string ⟨t.toArray⟩] errV (fun _ => True) 5 s t a c l kk p k m n st2 D N Y := by
  have hN := hz.N
  have hD := hz.D
  have hn0 := hz.n0
  have hn1 := hz.n1
  by_cases hE : rnE N st2 n s t ≠ 0
  · refine ⟨rnE N st2 n s t, n, st2, D, N, Y, ⟨trivial, hz.up⟩, fun S w hS hd ha => ?_, fun T w hT hr ha hat => ?_⟩
    · obtain ⟨fb, sb, F, Z, st, G, i, d1, d2, d3⟩ := hd
      have eE := d2.rnE d3 n s t
      refine (rename_no s t w d1 hs (by rw [eE]; exact hE)).mono ?_
      rintro e w' ⟨rfl, hb⟩
      exact ⟨by rw [eE], Kp.of hb, fb, sb, F, Z, st, G, i, d1.below hb, d2, d3⟩
    · obtain ⟨fs, f1, f2⟩ := hr
      refine (doNo_5 s t a l.length c kk w f2 (by have := hz.N; omega) hE).mono ?_
      rintro e w' ⟨rfl, hb⟩
      exact ⟨rfl, Kp.of hb, fs, f1, f2.below hb⟩
  · have hE0 : rnE N st2 n s t = 0 := Decidable.not_not.1 hE
    have hx : (st2 < 0 ∨ n < st2) ∧ nameB s = true ∧ nameB t = true ∧ ∃ j, fk N s = some j := by
      unfold rnE at hE0
      rcases rdy_cases st2 n [s, t] with ⟨h1, h2⟩ | ⟨h1, h2, h3⟩ | ⟨h1, h2, h3⟩
      · rw [h2] at hE0; simp at hE0
      · rw [h3, if_pos rfl] at hE0
        rw [two_names, Bool.and_eq_true] at h2
        cases hf : fk N s with
        | none => rw [hf] at hE0; simp at hE0
        | some j => exact ⟨h1, h2.1, h2.2, j, rfl⟩
      · rw [h3] at hE0; simp at hE0
    obtain ⟨hst, hnm, hnt, j, hfk⟩ := hx
    have hr0 : rdy st2 n [s, t] = 0 := by
      unfold rdy
      rw [if_neg (by omega), two_names, hnm, hnt]
      rfl
    have hlt : (N.filter fun q => q.1 != s).length < N.length := by
      refine List.length_filter_lt_length_iff_exists.2 ⟨(s, j), fk_mem hfk, by simp⟩
    have hfl : ((N.filter fun q => q.1 != s).filter fun q => q.1 != t).length ≤ (N.filter fun q => q.1 != s).length := List.length_filter_le _ _
    refine ⟨0, n + 1, st2, D, ((N.filter fun q => q.1 != s).filter fun q => q.1 != t) ++ [(t, j)], Y, ⟨trivial, by omega, by omega, by rw [List.length_append, List.length_singleton]; omega, by have := hz.Y; omega, by omega⟩, fun S w hS hd ha => ?_, fun T w hT hr ha hat => ?_⟩
    · obtain ⟨fb, sb, F, Z, st, G, i, d1, d2, d3⟩ := hd
      obtain ⟨x, hx, hg, hij, hDj⟩ := sm_file d2 d1 hfk
      refine (rename_yes s t x.g w d1 hs ht ⟨hn0, by omega⟩ (by rw [d2.lenN]; omega) (by rw [rdy_same d3]; exact hr0) hg).mono ?_
      rintro e w' ⟨rfl, hk, d'⟩
      refine ⟨by rw [errV0], hk, fb, sb, _, _, st, _, i, d', ?_, d3⟩
      rw [← hij]
      exact d2.rename (name_some hnt)
    · obtain ⟨fs, f1, f2⟩ := hr
      refine (do_5 s t a l.length c kk w f2 (by omega) hT ⟨hn0, by omega⟩ hst hnm hnt hfk).mono ?_
      rintro e w' ⟨rfl, hk, r'⟩
      exact ⟨rfl, hk, fs, f1, r'⟩

set_option maxRecDepth 100000 in
set_option maxHeartbeats 1000000 in
theorem pair_6 (s t : Tx) (a : Option Addr) (c : Nat) (l : Tx) (kk : Int) (_hk : I64 kk) (hs : T64 s) (_ht : T64 t) (hz : Sz m n D N Y) (hm : m ≤ 90) :
    Both2 19 #[pV p, .string ⟨s.toArray⟩] errV (fun _ => True) 6 s t a c l kk p k m n st2 D N Y := by
  have hN := hz.N
  have hD := hz.D
  have hn0 := hz.n0
  have hn1 := hz.n1
  by_cases hE : opE N st2 n s ≠ 0
  · refine ⟨opE N st2 n s, n, st2, D, N, Y, ⟨trivial, hz.up⟩, fun S w hS hd ha => ?_, fun T w hT hr ha hat => ?_⟩
    · obtain ⟨fb, sb, F, Z, st, G, i, d1, d2, d3⟩ := hd
      have eE := d2.opE d3 n s
      refine (remove_no s w d1 hs (by rw [eE]; exact hE)).mono ?_
      rintro e w' ⟨rfl, hb⟩
      exact ⟨by rw [eE], Kp.of hb, fb, sb, F, Z, st, G, i, d1.below hb, d2, d3⟩
    · obtain ⟨fs, f1, f2⟩ := hr
      refine (doNo_6 s t a l.length c kk w f2 (by have := hz.N; omega) hE).mono ?_
      rintro e w' ⟨rfl, hb⟩
      exact ⟨rfl, Kp.of hb, fs, f1, f2.below hb⟩
  · have hE0 : opE N st2 n s = 0 := Decidable.not_not.1 hE
    obtain ⟨j, hfk, hnm, hst⟩ := fk_of_op hE0
    have hfl : (N.filter fun q => q.1 != s).length ≤ N.length := List.length_filter_le _ _
    refine ⟨0, n + 1, st2, D, N.filter fun q => q.1 != s, Y, ⟨trivial, by omega, by omega, by omega, by have := hz.Y; omega, by omega⟩, fun S w hS hd ha => ?_, fun T w hT hr ha hat => ?_⟩
    · obtain ⟨fb, sb, F, Z, st, G, i, d1, d2, d3⟩ := hd
      refine (remove_yes s w d1 hs ⟨hn0, by omega⟩ (by rw [d2.opE d3]; exact hE0)).mono ?_
      rintro e w' ⟨rfl, hk, d'⟩
      exact ⟨by rw [errV0], hk, fb, sb, _, _, st, _, i, d', d2.remove s, d3⟩
    · obtain ⟨fs, f1, f2⟩ := hr
      refine (do_6 s t a l.length c kk w f2 (by omega) hT ⟨hn0, by omega⟩ hst hnm hfk).mono ?_
      rintro e w' ⟨rfl, hk, r'⟩
      exact ⟨rfl, hk, fs, f1, r'⟩

set_option maxRecDepth 100000 in
set_option maxHeartbeats 1000000 in
theorem pair_7 (s t : Tx) (a : Option Addr) (c : Nat) (l : Tx) (kk : Int) (hk : I64 kk) (_hs : T64 s) (_ht : T64 t) (hz : Sz m n D N Y) (hm : m ≤ 90) :
    Both2 20 #[pV p, .int .i64 kk] (fun _ => .tuple #[]) (fun E => E = 0) 7 s t a c l kk p k m n st2 D N Y := by
  have hY := hz.Y
  have hD := hz.D
  refine ⟨0, 0, -1, D ++ Y.map (crD kk D), crN D.length Y, crN D.length Y, ⟨rfl, by omega, by omega, by rw [crN_len]; omega, by rw [crN_len]; omega, by rw [List.length_append, List.length_map]; omega⟩, fun S w hS hd ha => ?_, fun T w hT hr ha hat => ?_⟩
  · obtain ⟨fb, sb, F, Z, st, G, i, d1, d2, d3⟩ := hd
    refine (crash_any kk w hS d1 hk (by rw [d2.lenY]; omega)).mono ?_
    rintro e w' ⟨rfl, hkp, fb', sb', E, d', hp, hm'⟩
    have zn : (Z.map (·.1)).Nodup := by
      have := d1.ms.nd
      unfold ptrs at this
      rwa [List.map_map] at this
    obtain ⟨E', i', q1, q2⟩ := crash_sm d2 hp hm' zn d1.inZ d'.ap
    exact ⟨rfl, hkp, fb', sb', _, _, -1, _, i', d'.perm q1 q1, q2, Or.inl rfl⟩
  · obtain ⟨fs, f1, f2⟩ := hr
    refine (do_7 s t a l.length c kk w f2 hT (by omega) (by rw [files_len f1]; omega) hk).mono ?_
    rintro e w' ⟨E, e1, rfl, hkp, r'⟩
    rw [files_len f1] at r'
    refine ⟨rfl, hkp, _, ?_, r'⟩
    rw [List.map_append, f1, e1]
    refine congrArg _ (List.map_congr_left fun y _ => ?_)
    rw [crD_of, f1]

set_option maxRecDepth 100000 in
set_option maxHeartbeats 1000000 in
theorem pair_8 (s t : Tx) (a : Option Addr) (c : Nat) (l : Tx) (kk : Int) (_hk : I64 kk) (_hs : T64 s) (_ht : T64 t) (hz : Sz m n D N Y) (hm : m ≤ 90) :
    Both2 21 #[pV p, .int .i64 kk] (fun _ => .tuple #[]) (fun E => E = 0) 8 s t a c l kk p k m n st2 D N Y := by
  have hn0 := hz.n0
  have hn1 := hz.n1
  refine ⟨0, n, if kk < 0 then -1 else kk, D, N, Y, ⟨rfl, hz.up⟩, fun S w hS hd ha => ?_, fun T w hT hr ha hat => ?_⟩
  · obtain ⟨fb, sb, F, Z, st, G, i, d1, d2, d3⟩ := hd
    refine (stop_any kk w d1).mono ?_
    rintro e w' ⟨rfl, hkp, d'⟩
    refine ⟨rfl, hkp, fb, sb, _, _, kk, _, i, d', d2, ?_⟩
    unfold stS
    split <;> omega
  · obtain ⟨fs, f1, f2⟩ := hr
    by_cases h0 : kk < 0
    · rw [if_pos h0]
      refine (do_8a s t a l.length c kk w f2 hT ⟨hn0, by omega⟩ h0).mono ?_
      rintro e w' ⟨rfl, hkp, r'⟩
      exact ⟨rfl, hkp, fs, f1, r'⟩
    · rw [if_neg h0]
      refine (do_8b s t a l.length c kk w f2 hT ⟨hn0, by omega⟩ (by omega)).mono ?_
      rintro e w' ⟨rfl, hkp, r'⟩
      exact ⟨rfl, hkp, fs, f1, r'⟩
end Go.Proofs.YtcdpcjafomfddaaDoor
