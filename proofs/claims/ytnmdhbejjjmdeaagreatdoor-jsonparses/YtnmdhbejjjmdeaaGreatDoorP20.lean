/-
  What is proved: what lies in memory while json's reader reads a map or a list, and that it goes on lying there behind each step. a region that draws its order, gone through in the text's order, where a call of it may end by a panic, and where two operations may come up at once. rows of steps, and rows of such rows, that grow by append; the paths of all trees with a value in a tree. the function Paths of bookref3, called with a tree, a value and a path that lie in memory, answers the paths of all trees in it with that value, each behind that path.
  Conditions: as each theorem says.
-/
import Derived.Test.YtnmdhbejjjmdeaaGreatDoorJFitM
import Derived.Test.YtnmdhbejjjmdeaaGreatDoorP19
import Derived.Test.YtnmdhbejjjmdeaaGreatDoorP12
import Derived.Maps.AppendAt
import Derived.Test.YtnmdhbejjjmdeaaGreatDoorP16
import Derived.Test.YtnmdhbejjjmdeaaGreatDoorP08
namespace Go.Proofs.YtnmdhbejjjmdeaaGreatDoor
open Go.RowKit Go.Sort

theorem row_atR (g t : Nat) : (⟨g, 0, none⟩ : Addr).add t = ⟨g, t, none⟩ := by cases t <;> simp [Addr.add]
theorem ownR_blk {B e s n : Nat} {w : World} {v : Value} {xs : List Value} (h : w.ownsRow B e s v n xs) {g : Nat} (hg : v.ownBlock = some g) : B ≤ g ∧ g < w.heap.size ∧ ∃ cur, w.heap[g]? = some (.cells cur e) := by
  rcases h.2 with ⟨rfl, _⟩ | ⟨g', cap, cur, rfl, h1, h2, _⟩
  · simp [Value.ownBlock] at hg
  · obtain rfl : g' = g := by simpa [Value.ownBlock] using hg
    exact ⟨h1, lt_of_heap h2, cur, h2⟩
theorem own_ne {B B' e e' s s' n n' : Nat} {w : World} {v v' : Value} {xs xs' : List Value} (h : w.ownsRow B e s v n xs) (h' : w.ownsRow B' e' s' v' n' xs') (hne : e ≠ e') {g : Nat} (hg : v.ownBlock = some g) : v'.ownBlock ≠ some g := by
  intro hg'
  obtain ⟨_, _, c, h1⟩ := ownR_blk h hg
  obtain ⟨_, _, c', h2⟩ := ownR_blk h' hg'
  rw [h1] at h2
  injection h2 with h2
  injection h2 with _ h3
  exact hne h3
theorem ownR_at {B e s n : Nat} {w w' : World} {v : Value} {xs : List Value} (h : w.ownsRow B e s v n xs) (hk : ∀ g, v.ownBlock = some g → w'.heap[g]? = w.heap[g]?) : w'.ownsRow B e s v n xs := by
  refine ⟨h.1, ?_⟩
  rcases h.2 with h0 | ⟨g, cap, cur, rfl, h2, h3, h4⟩
  · exact Or.inl h0
  · exact Or.inr ⟨g, cap, cur, rfl, h2, (hk g rfl).trans h3, h4⟩
theorem str_ne : (9 : Nat) ≠ 29 := by decide
/-- No tree: all its fields are nothing. -/
def zU : TV := (⟨0, 0, ⟨#[]⟩, 0, 0⟩, .slice none 0 0, .slice none 0 0)
def zO : Obj := .cells #[.int .i64 0, .int .i64 0, .string ⟨#[]⟩, .int .i64 0, .int .i64 0, .slice none 0 0, .slice none 0 0] 29
theorem appZ (ty : TypeId) (W : World) (B : Nat) (hB : B ≤ W.heap.size) (v : Value) (xs : List TV) (hv : W.ownsRow B 29 7 v xs.length (tcs xs)) (gz : Nat) (hz : W.heap[gz]? = some zO) (hl : xs.length ≤ 1000) :
    ∃ g c W', (Builtin.append_ #[27, 27] ty #[v, .slice (some ⟨gz, 0, none⟩) 1 1]).run Tryz.prog W = .ok (.slice (some ⟨g, 0, none⟩) (xs.length + 1) c) W' ∧ W'.ownsRow B 29 7 (.slice (some ⟨g, 0, none⟩) (xs.length + 1) c) (xs.length + 1) (tcs (xs ++ [zU])) ∧ W.grownBy W' v.ownBlock ∧ (v.ownBlock = some g ∨ g = W.heap.size) := by
  obtain ⟨i0, hi0, hz0, hz1, hz2⟩ := info_parts infoT
  obtain ⟨u, W', q1, q2, q3, _, q5⟩ := run_append_own_at (P := Tryz.prog) W B 27 ty 29 i0 _ 7 _ Tryz.underlying27 hi0 hz0 hz1 hz2 rfl (by decide) v xs.length (tcs xs) hv ⟨gz, 0, none⟩ 1 1 (tcells zU) rfl (by
    intro j u hj
    rw [row_atR]
    unfold zO at hz
    unfold World.cell?
    simp only [hz]
    match j, hj with
    | 0, hj => exact hj
    | 1, hj => exact hj
    | 2, hj => exact hj
    | 3, hj => exact hj
    | 4, hj => exact hj
    | 5, hj => exact hj
    | 6, hj => exact hj) (by
    intro u hu
    simp only [tcells, zU, List.mem_cons, List.not_mem_nil, or_false] at hu
    rcases hu with rfl | rfl | rfl | rfl | rfl | rfl | rfl <;> rfl) (by unfold maxLen; omega) (by omega) hB
  have e : tcs xs ++ tcells zU = tcs (xs ++ [zU]) := by rw [tcs_app]; simp [tcs]
  rw [e] at q2
  rcases q2.2 with ⟨_, h0⟩ | ⟨g, c, cur, rfl, h2⟩
  · simp at h0
  · refine ⟨g, c, W', q1, q2, q3, ?_⟩
    rcases q5 with h | h
    · exact Or.inl h.symm
    · exact Or.inr (by simpa [Value.ownBlock] using h)
theorem appK (ty : TypeId) (W : World) (B : Nat) (hB : B ≤ W.heap.size) (v : Value) (xs : List ByteArray) (hv : W.ownsRow B 9 1 v xs.length (scells xs)) (gz : Nat) (key : ByteArray) (hz : W.heap[gz]? = some (.cells #[.string key] 9)) (hl : xs.length ≤ 1000) :
    ∃ g c W', (Builtin.append_ #[26, 26] ty #[v, .slice (some ⟨gz, 0, none⟩) 1 1]).run Tryz.prog W = .ok (.slice (some ⟨g, 0, none⟩) (xs.length + 1) c) W' ∧ W'.ownsRow B 9 1 (.slice (some ⟨g, 0, none⟩) (xs.length + 1) c) (xs.length + 1) (scells (xs ++ [key])) ∧ W.grownBy W' v.ownBlock ∧ (v.ownBlock = some g ∨ g = W.heap.size) := by
  obtain ⟨i0, hi0, hz0, hz1, hz2⟩ := info_parts infoS
  obtain ⟨u, W', q1, q2, q3, _, q5⟩ := run_append_own_at (P := Tryz.prog) W B 26 ty 9 i0 _ 1 _ Tryz.underlying26 hi0 hz0 hz1 hz2 rfl (by decide) v xs.length (scells xs) hv ⟨gz, 0, none⟩ 1 1 (scells [key]) rfl (by
    intro j u hj
    rw [row_atR]
    unfold World.cell?
    simp only [hz]
    match j, hj with
    | 0, hj => exact hj) (one_scells _) (by unfold maxLen; omega) (by omega) hB
  have e : scells xs ++ scells [key] = scells (xs ++ [key]) := by simp [scells]
  rw [e] at q2
  rcases q2.2 with ⟨_, h0⟩ | ⟨g, c, cur, rfl, h2⟩
  · simp at h0
  · refine ⟨g, c, W', q1, q2, q3, ?_⟩
    rcases q5 with h | h
    · exact Or.inl h.symm
    · exact Or.inr (by simpa [Value.ownBlock] using h)
/-- A row of trees of one's own, one of which is put anew. -/
theorem own_put {B g c : Nat} {w : World} {xs : List TV} {z u : TV} (h : w.ownsRow B 29 7 (.slice (some ⟨g, 0, none⟩) (xs.length + 1) c) (xs.length + 1) (tcs (xs ++ [z]))) : (put7 w g (xs.length * 7) u).ownsRow B 29 7 (.slice (some ⟨g, 0, none⟩) (xs.length + 1) c) (xs.length + 1) (tcs (xs ++ [u])) := by
  have h0 := (World.ownsRow.stored h (xs.length * 7) (.int .i64 u.1.k)).1
  have h1 := (World.ownsRow.stored h0 (xs.length * 7 + 1) (.int .i64 u.1.n)).1
  have h2 := (World.ownsRow.stored h1 (xs.length * 7 + 2) (.string u.1.t)).1
  have h3 := (World.ownsRow.stored h2 (xs.length * 7 + 3) (.int .i64 u.1.o)).1
  have h4 := (World.ownsRow.stored h3 (xs.length * 7 + 4) (.int .i64 u.1.a)).1
  have h5 := (World.ownsRow.stored h4 (xs.length * 7 + 5) u.2.1).1
  have h6 := (World.ownsRow.stored h5 (xs.length * 7 + 6) u.2.2).1
  have e : tcs (xs ++ [u]) = (((((((tcs (xs ++ [z])).set (xs.length * 7) (.int .i64 u.1.k)).set (xs.length * 7 + 1) (.int .i64 u.1.n)).set (xs.length * 7 + 2) (.string u.1.t)).set (xs.length * 7 + 3) (.int .i64 u.1.o)).set (xs.length * 7 + 4) (.int .i64 u.1.a)).set (xs.length * 7 + 5) u.2.1).set (xs.length * 7 + 6) u.2.2 := by
    rw [tcs_app, tcs_app]
    have hl := tcs_len xs
    have es : ∀ (l : List Value) (j : Nat) (v : Value), (tcs xs ++ l).set (xs.length * 7 + j) v = tcs xs ++ l.set j v := fun l j v => by
      rw [List.set_append_right _ _ (by omega)]
      congr 2
      omega
    have e0 := es
    have ez : ∀ (l : List Value) (v : Value), (tcs xs ++ l).set (xs.length * 7) v = tcs xs ++ l.set 0 v := fun l v => es l 0 v
    rw [ez, es, es, es, es, es, es]
    simp [tcs, tcells]
  rw [e]
  exact h6
/-- Where things lie: the reader, the boxes, the rows. -/
structure Pl (p bt br B : Nat) (w0 : World) : Prop where
  lp : p < w0.heap.size
  lbt : w0.heap.size ≤ bt ∧ bt < B
  lbr : br ≠ p ∧ br < B
  lne : br ≠ bt
/-- Blocks of what was read: new ones, but for the two rows that grow. -/
def Kd (B : Nat) (vk vt : Value) (b : Nat) : Prop := B ≤ b ∧ vk.ownBlock ≠ some b ∧ vt.ownBlock ≠ some b
/-- What lies in memory while a map or a list is read. -/
structure Bo (mp : Bool) (s : ByteArray) (p bt br B : Nat) (w0 : World) (k0 : Nat) (x : Sg) (k m : Nat) (vk vt : Value) (us : List TV) (w : World) : Prop where
  rb : RB w p s k m
  ge : k0 ≤ k
  le : k ≤ s.size
  few : m ≤ 400
  sz : sizes x.2 ≤ m
  kl : x.1.length ≤ x.2.length + 1
  rk : Rk p w0 w
  bz : B ≤ w.heap.size
  hr : w.heap[br]? = some (.cells #[.pointer (some ⟨p, 0, none⟩)] 61)
  ht : w.heap[bt]? = some (.cells #[.int .i64 (cx mp).k, .int .i64 0, .string ⟨#[]⟩, .int .i64 0, .int .i64 0, vk, vt] 29)
  ks : w.ownsRow B 9 1 vk x.1.length (scells x.1)
  ts : w.ownsRow B 29 7 vt us.length (tcs us)
  al : AllT (Kd B vk vt) w us x.2
theorem Bo.lens {mp : Bool} {s : ByteArray} {p bt br B : Nat} {w0 : World} {k0 : Nat} {x : Sg} {k m : Nat} {vk vt : Value} {us : List TV} {w : World} (h : Bo mp s p bt br B w0 k0 x k m vk vt us w) : us.length = x.2.length ∧ x.2.length ≤ 400 ∧ x.1.length ≤ 401 := by
  have h1 := h.al.1
  have h2 := len_sizes x.2
  have h3 := h.sz
  have h4 := h.few
  have h5 := h.kl
  omega
theorem IsTG.low {P : Nat → Prop} {w : World} {v : Value} {T : JT} (h0 : IsTP P w v T) : IsTP (fun b => P b ∧ b < w.heap.size) w v T := by
  induction h0 using IsTG.ind with
  | mk x ks ts uk a cap us hkk hl hc hzz hr _ ih =>
    refine IsTG.mk x ks ts uk a cap us ?_ hl hc hzz (fun hu => ?_) ih
    · obtain ⟨a, cap, e, h1, h2, h3⟩ := hkk
      exact ⟨a, cap, e, h1, h2, fun hl => by
        obtain ⟨b, off, e1, h4, h6, h5⟩ := h3 hl
        exact ⟨b, off, e1, h4, ⟨h6, h4⟩, h5⟩⟩
    · obtain ⟨b, off, e1, h4, h6, h5⟩ := hr hu
      exact ⟨b, off, e1, h4, ⟨h6, h4⟩, h5⟩
theorem AllT.stay {P P' : Nat → Prop} {w w' : World} {us : List TV} {ts : List JT} (h : AllT P w us ts) (hz : w.heap.size ≤ w'.heap.size) (hk : ∀ b, P b → b < w.heap.size → w'.heap[b]? = w.heap[b]? ∧ P' b) : AllT P' w' us ts :=
  ⟨h.1, fun i a b => (h.2 i a b).low.move hz (fun b hb hlt => (hk b hb.1 hlt).1) (fun b hb => (hk b hb.1 hb.2).2)⟩
/-- The reader goes on; all else stays. -/
theorem Bo.move {mp : Bool} {s : ByteArray} {p bt br B : Nat} {w0 : World} {k0 : Nat} {x : Sg} {k m k' m' : Nat} {vk vt : Value} {us : List TV} {w w' : World} (hp : Pl p bt br B w0) (h : Bo mp s p bt br B w0 k0 x k m vk vt us w) (hr : RB w' p s k' m') (hk : k ≤ k') (hle : k' ≤ s.size) (hm : m ≤ m') (hf : m' ≤ 400) (hrk : Rk p w w') : Bo mp s p bt br B w0 k0 x k' m' vk vt us w' := by
  have hpp := hp.lp
  have hb1 := hp.lbt
  have hb2 := hp.lbr
  have hs := h.sz
  have hg := h.ge
  have hbz := h.bz
  refine ⟨hr, by omega, hle, hf, by omega, h.kl, h.rk.trans hrk, Nat.le_trans hbz hrk.size, ?_, ?_, ?_, ?_, ?_⟩
  · rw [hrk.block br (by omega) (by omega)]; exact h.hr
  · rw [hrk.block bt (by omega) (by omega)]; exact h.ht
  · exact ownR_at h.ks (fun g hg => by have := ownR_blk h.ks hg; exact hrk.block g this.2.1 (by omega))
  · exact ownR_at h.ts (fun g hg => by have := ownR_blk h.ts hg; exact hrk.block g this.2.1 (by omega))
  · exact h.al.stay hrk.size (fun b hb hlt => ⟨hrk.block b hlt (by have := hb.1; omega), hb⟩)
theorem Bo.below {mp : Bool} {s : ByteArray} {p bt br B : Nat} {w0 : World} {k0 : Nat} {x : Sg} {k m : Nat} {vk vt : Value} {us : List TV} {w w' : World} (hp : Pl p bt br B w0) (h : Bo mp s p bt br B w0 k0 x k m vk vt us w) (hb : Below w.heap.size w w') : Bo mp s p bt br B w0 k0 x k m vk vt us w' :=
  h.move hp (h.rb.below hb) (Nat.le_refl _) h.le (Nat.le_refl _) h.few (Rk.of hb)
/-- A tree is put behind the kids. -/
theorem Bo.addT {mp : Bool} {s : ByteArray} {p bt br B : Nat} {w0 : World} {k0 : Nat} {x : Sg} {k m : Nat} {vk vt : Value} {us : List TV} {w W : World} {g c N : Nat} {u : TV} {T : JT} (hp : Pl p bt br B w0) (h : Bo mp s p bt br B w0 k0 x k m vk vt us w)
    (ho : W.ownsRow B 29 7 (.slice (some ⟨g, 0, none⟩) (us.length + 1) c) (us.length + 1) (tcs (us ++ [zU]))) (hg : w.grownBy W vt.ownBlock) (hat : vt.ownBlock = some g ∨ g = w.heap.size)
    (hT : IsTP (fun b => N ≤ b) w (tval u) T) (hN : B ≤ N ∧ (∀ b, vk.ownBlock = some b → b < N) ∧ (∀ b, vt.ownBlock = some b → b < N)) (hsz : sizes x.2 + T.size ≤ m) :
    Bo mp s p bt br B w0 k0 (x.1, x.2 ++ [T]) k m vk (.slice (some ⟨g, 0, none⟩) (us.length + 1) c) (us ++ [u]) ((put7 W g (us.length * 7) u).setCell ⟨bt, 6, none⟩ (.slice (some ⟨g, 0, none⟩) (us.length + 1) c)) := by
  have hpp := hp.lp
  have hb1 := hp.lbt
  have hb2 := hp.lbr
  have hne := hp.lne
  have hbz := h.bz
  obtain ⟨v2, hv2⟩ : ∃ v2, v2 = Value.slice (some ⟨g, 0, none⟩) (us.length + 1) c := ⟨_, rfl⟩
  have hob : v2.ownBlock = some g := by rw [hv2]; rfl
  rw [← hv2] at ho ⊢
  have hgB := (ownR_blk ho hob).1
  have hgW := (ownR_blk ho hob).2.1
  have hws := hg.size
  have hvk : ∀ b, vk.ownBlock = some b → b ≠ g := fun b hb e => by
    subst e
    rcases hat with h1 | h1
    · exact own_ne h.ks h.ts str_ne hb h1
    · have := (ownR_blk h.ks hb).2.1
      omega
  have hX1 : ∀ b, b ≠ g → (put7 W g (us.length * 7) u).heap[b]? = W.heap[b]? := fun b hb => put7_other _ _ _ _ _ hb
  have hW : Below B w (put7 W g (us.length * 7) u) := put7_below (grown_belowJ hg h.ts hbz) g _ u hgB
  have hX2 := own_put (u := u) (hv2 ▸ ho)
  rw [← hv2] at hX2
  generalize put7 W g (us.length * 7) u = X at hX1 hW hX2 ⊢
  have hout : ∀ b, b < w.heap.size → vt.ownBlock ≠ some b → b ≠ g → b ≠ bt → (X.setCell ⟨bt, 6, none⟩ v2).heap[b]? = w.heap[b]? := fun b h1 h2 h3 h4 => by
    rw [Below.heap_setCell _ _ _ _ (by simpa using h4), hX1 b h3]
    exact hg.block b h1 (fun e => h2 e.symm)
  have hlow : ∀ b, b < B → b ≠ bt → (X.setCell ⟨bt, 6, none⟩ v2).heap[b]? = w.heap[b]? := fun b h1 h4 =>
    hout b (by omega) (fun e => by have := (ownR_blk h.ts e).1; omega) (by omega) h4
  have hsize : w.heap.size ≤ (X.setCell ⟨bt, 6, none⟩ v2).heap.size := by
    have := hW.size
    simpa using this
  refine ⟨?_, h.ge, h.le, h.few, ?_, ?_, ?_, Nat.le_trans hbz hsize, ?_, ?_, ?_, ?_, ?_⟩
  · exact (hlow p (by omega) (by omega)).trans h.rb
  · show sizes (x.2 ++ [T]) ≤ m
    rw [sizes_append]
    simp [sizes]
    omega
  · have := h.kl
    simp
    omega
  · exact ⟨by rw [show (X.setCell ⟨bt, 6, none⟩ v2).os = X.os from rfl, hW.os]; exact h.rk.os, by rw [show (X.setCell ⟨bt, 6, none⟩ v2).tape = X.tape from rfl, hW.tape]; exact h.rk.tape, by rw [show (X.setCell ⟨bt, 6, none⟩ v2).output = X.output from rfl, hW.output]; exact h.rk.output, Nat.le_trans h.rk.size hsize, fun b h1 h2 => (hlow b (by omega) (by omega)).trans (h.rk.block b h1 h2)⟩
  · exact (hlow br (by omega) hne).trans h.hr
  · have h1 : X.heap[bt]? = some (.cells #[.int .i64 (cx mp).k, .int .i64 0, .string ⟨#[]⟩, .int .i64 0, .int .i64 0, vk, vt] 29) := (hW.block bt (by omega)).trans h.ht
    rw [set_atR h1 6 v2]
    rfl
  · refine ownR_at h.ks (fun b hb => hout b (ownR_blk h.ks hb).2.1 (own_ne h.ks h.ts str_ne hb) (hvk b hb) ?_)
    have := (ownR_blk h.ks hb).1
    omega
  · have h2 := ownsRow_setCell_other (a := ⟨bt, 6, none⟩) hX2 (by rw [hob]; simp; omega) v2
    rw [List.length_append]
    exact h2
  · refine AllT.app ?_ (AllT.one ?_)
    · refine h.al.stay hsize (fun b hb hlt => ?_)
      have hbg : b ≠ g := fun e => by
        subst e
        rcases hat with h1 | h1
        · exact hb.2.2 h1
        · omega
      exact ⟨hout b hlt hb.2.2 hbg (by have := hb.1; omega), hb.1, hb.2.1, by rw [hob]; simp; omega⟩
    · have h1 : AllT (fun b => N ≤ b) w [u] [T] := AllT.one hT
      have h2 : AllT (Kd B vk v2) (X.setCell ⟨bt, 6, none⟩ v2) [u] [T] := by
        refine h1.stay hsize (fun b hb hlt => ?_)
        have k1 : vk.ownBlock ≠ some b := fun e => by have := hN.2.1 b e; omega
        have k2 : vt.ownBlock ≠ some b := fun e => by have := hN.2.2 b e; omega
        have hbg : b ≠ g := fun e => by
          subst e
          rcases hat with h1 | h1
          · exact k2 h1
          · omega
        exact ⟨hout b hlt k2 hbg (by omega), by omega, k1, by rw [hob]; simp; omega⟩
      exact h2.2 0 (by simp) (by simp)
/-- A key is put behind the keys. -/
theorem Bo.addK {mp : Bool} {s : ByteArray} {p bt br B : Nat} {w0 : World} {k0 : Nat} {x : Sg} {k m : Nat} {vk vt : Value} {us : List TV} {w W : World} {g c : Nat} {key : ByteArray} (hp : Pl p bt br B w0) (h : Bo mp s p bt br B w0 k0 x k m vk vt us w) (hkl : x.1.length ≤ x.2.length)
    (ho : W.ownsRow B 9 1 (.slice (some ⟨g, 0, none⟩) (x.1.length + 1) c) (x.1.length + 1) (scells (x.1 ++ [key]))) (hg : w.grownBy W vk.ownBlock) (hat : vk.ownBlock = some g ∨ g = w.heap.size) :
    Bo mp s p bt br B w0 k0 (x.1 ++ [key], x.2) k m (.slice (some ⟨g, 0, none⟩) (x.1.length + 1) c) vt us (W.setCell ⟨bt, 5, none⟩ (.slice (some ⟨g, 0, none⟩) (x.1.length + 1) c)) := by
  have hpp := hp.lp
  have hb1 := hp.lbt
  have hb2 := hp.lbr
  have hne := hp.lne
  have hbz := h.bz
  obtain ⟨v2, hv2⟩ : ∃ v2, v2 = Value.slice (some ⟨g, 0, none⟩) (x.1.length + 1) c := ⟨_, rfl⟩
  have hob : v2.ownBlock = some g := by rw [hv2]; rfl
  rw [← hv2] at ho ⊢
  have hgB := (ownR_blk ho hob).1
  have hws := hg.size
  have hvt : ∀ b, vt.ownBlock = some b → b ≠ g := fun b hb e => by
    subst e
    rcases hat with h1 | h1
    · exact own_ne h.ts h.ks str_ne.symm hb h1
    · have := (ownR_blk h.ts hb).2.1
      omega
  have hout : ∀ b, b < w.heap.size → vk.ownBlock ≠ some b → b ≠ bt → (W.setCell ⟨bt, 5, none⟩ v2).heap[b]? = w.heap[b]? := fun b h1 h2 h4 => by
    rw [Below.heap_setCell _ _ _ _ (by simpa using h4)]
    exact hg.block b h1 (fun e => h2 e.symm)
  have hlow : ∀ b, b < B → b ≠ bt → (W.setCell ⟨bt, 5, none⟩ v2).heap[b]? = w.heap[b]? := fun b h1 h4 =>
    hout b (by omega) (fun e => by have := (ownR_blk h.ks e).1; omega) h4
  have hW : Below B w W := grown_belowJ hg h.ks hbz
  have hsize : w.heap.size ≤ (W.setCell ⟨bt, 5, none⟩ v2).heap.size := by
    have := hW.size
    simpa using this
  refine ⟨?_, h.ge, h.le, h.few, h.sz, ?_, ?_, Nat.le_trans hbz hsize, ?_, ?_, ?_, ?_, ?_⟩
  · exact (hlow p (by omega) (by omega)).trans h.rb
  · simp
    omega
  · exact ⟨by rw [show (W.setCell ⟨bt, 5, none⟩ v2).os = W.os from rfl, hW.os]; exact h.rk.os, by rw [show (W.setCell ⟨bt, 5, none⟩ v2).tape = W.tape from rfl, hW.tape]; exact h.rk.tape, by rw [show (W.setCell ⟨bt, 5, none⟩ v2).output = W.output from rfl, hW.output]; exact h.rk.output, Nat.le_trans h.rk.size hsize, fun b h1 h2 => (hlow b (by omega) (by omega)).trans (h.rk.block b h1 h2)⟩
  · exact (hlow br (by omega) hne).trans h.hr
  · have h1 : W.heap[bt]? = some (.cells #[.int .i64 (cx mp).k, .int .i64 0, .string ⟨#[]⟩, .int .i64 0, .int .i64 0, vk, vt] 29) := (hW.block bt (by omega)).trans h.ht
    rw [set_atR h1 5 v2]
    rfl
  · have h2 := ownsRow_setCell_other (a := ⟨bt, 5, none⟩) ho (by rw [hob]; simp; omega) v2
    rw [List.length_append]
    exact h2
  · refine ownR_at h.ts (fun b hb => hout b (ownR_blk h.ts hb).2.1 (own_ne h.ts h.ks str_ne.symm hb) ?_)
    have := (ownR_blk h.ts hb).1
    omega
  · refine h.al.stay hsize (fun b hb hlt => ?_)
    have hbg : b ≠ g := fun e => by
      subst e
      rcases hat with h1 | h1
      · exact hb.2.1 h1
      · omega
    exact ⟨hout b hlt hb.2.1 (by have := hb.1; omega), hb.1, by rw [hob]; simp; omega, hb.2.2⟩
theorem modify_comm {α : Type} (xs : Array α) (i j : Nat) (f g : α → α) (h : i ≠ j) : (xs.modify i f).modify j g = (xs.modify j g).modify i f := by
  apply Array.ext
  · simp
  · intro k h1 h2
    simp only [Array.getElem_modify]
    by_cases e1 : i = k <;> by_cases e2 : j = k <;> simp_all
/-- Stores into two blocks, either way. -/
theorem set_comm (w : World) (a b : Addr) (x y : Value) (h : a.block ≠ b.block) : (w.setCell a x).setCell b y = (w.setCell b y).setCell a x := by
  unfold World.setCell
  simp only
  congr 1
  exact modify_comm _ _ _ _ _ h
theorem put7_comm (w : World) (g o : Nat) (u : TV) (b : Nat) (j : Nat) (y : Value) (h : g ≠ b) : put7 (w.setCell ⟨b, j, none⟩ y) g o u = (put7 w g o u).setCell ⟨b, j, none⟩ y := by
  unfold put7
  have hc : ∀ (w : World) (i : Nat) (x : Value), (w.setCell ⟨b, j, none⟩ y).setCell ⟨g, i, none⟩ x = (w.setCell ⟨g, i, none⟩ x).setCell ⟨b, j, none⟩ y := fun w i x => set_comm w _ _ _ _ (fun e => h e.symm)
  rw [hc, hc, hc, hc, hc, hc, hc]
end Go.Proofs.YtnmdhbejjjmdeaaGreatDoor

namespace Go.Proofs.YtnmdhbejjjmdeaaGreatDoor
open Go

section
variable {P : Program} {ops : Array Oper} {Q : Exit → Act → World → Prop} {md : Region.Mode} {S : World → Prop} {late : Nat → Bool}

/-- What is asked of a panic is asked of its ending alone. -/
def PanQ (R : Ending → World → Prop) (Q : Exit → Act → World → Prop) : Exit → Act → World → Prop
  | .panic c, a, w => a.defers = [] ∧ R (.panicked c) w
  | e, a, w => Q e a w
theorem PanQ.normal {R : Ending → World → Prop} {a : Act} {w : World} (h : Q .normal a w) : PanQ R Q .normal a w := h
theorem wp_region_pan (R : Ending → World → Prop) {id : Nat} {b : Bool} {a : Act} {w : World} (hQ : ∀ c a w, a.defers = [] ∧ R (.panicked c) w → Q (.panic c) a w) (h : (Code.region id ops b).wp P (PanQ R Q) a w) : (Code.region id ops b).wp P Q a w :=
  Code.wp_mono (fun e a w h => by
    cases e with
    | panic c => exact hQ c a w h
    | _ => exact h) h
/-- Either of two may come up. -/
theorem early_two {i j : Nat} {o o' : Oper} {fuel : Nat} {listed : Array Bool} {a : Act} {w : World} (hr : Region.ready md ops listed = [i, j]) (ho : ops[i]? = some o) (ho' : ops[j]? = some o')
    (h : ∀ K' : Act → World → Prop, Shut (∀ a w, (late i = false → S w) → wpAnyE P md ops Q S late fuel (listed.setIfInBounds i true) a w → K' a w) → if Region.wanted o (yielded ops a.tmps) = true then Oper.wp P o a w K' Q else K' (a.put o.dst undef) w)
    (h' : ∀ K' : Act → World → Prop, Shut (∀ a w, (late j = false → S w) → wpAnyE P md ops Q S late fuel (listed.setIfInBounds j true) a w → K' a w) → if Region.wanted o' (yielded ops a.tmps) = true then Oper.wp P o' a w K' Q else K' (a.put o'.dst undef) w) : wpAnyE P md ops Q S late (fuel + 1) listed a w := by
  refine ⟨fun h0 => (by rw [hr] at h0; cases h0), fun k hk => ?_⟩
  rw [hr] at hk
  rcases List.mem_cons.1 hk with rfl | hk
  · exact wpOp_step ho (fun K' hK => h K' (fun a w hS hW => hK a w ⟨hS, hW⟩))
  · obtain rfl := List.mem_singleton.1 hk
    exact wpOp_step ho' (fun K' hK => h' K' (fun a w hS hW => hK a w ⟨hS, hW⟩))
/-- Where only late ones are left, nothing needs to hold any more. -/
theorem early_late : ∀ (fuel : Nat) (listed : Array Bool) (a : Act) (w : World), (∀ i, listed.getD i true = false → late i = true) → wpAnyH P md ops Q (fun _ => True) fuel listed a w → wpAnyE P md ops Q S late fuel listed a w
  | 0, _, _, _, _, h => h
  | fuel + 1, listed, a, w, hl, h => ⟨h.1, fun i hi => wpOp_mono (fun a' w' h' => ⟨fun e => (by
      have hu : listed.getD i true = false := (mem_ready.1 hi).1
      rw [hl i hu] at e
      cases e), early_late fuel _ a' w' (fun j hj => by
      by_cases hij : i = j
      · subst hij
        exact hl i (mem_ready.1 hi).1
      · rw [getD_set_ne true hij] at hj
        exact hl j hj) h'.2⟩) (h.2 i hi)⟩
end
end Go.Proofs.YtnmdhbejjjmdeaaGreatDoor

namespace Go.Proofs.YtnmdhbejjjmdeaaGreatDoor
open Go.RowKit

/-- The step to a kid. -/
def stepOf (x : V) (ks : List ByteArray) (i : Nat) : Stp := if x.k = 5 then (ks[i]?.getD ⟨#[]⟩, 0) else (⟨#[]⟩, (i : Int))
/-- The paths of all trees with a value, in the trees of a row from a number on: those of kids of a tree with a value and keys. -/
def pathsF (y : V) : JF → V → List ByteArray → Nat → List Stp → List (List Stp)
  | .nil, _, _, _, _ => []
  | .node _ _ a l r, x, ks, i, p => ((if sameB a.1 y = true then [p ++ [stepOf x ks i]] else []) ++ pathsF y l a.1 a.2 0 (p ++ [stepOf x ks i])) ++ pathsF y r x ks (i + 1) p
/-- The paths of all trees with a value. -/
def pathsT (y : V) (T : JT) (p : List Stp) : List (List Stp) := (if sameB T.x y = true then [p] else []) ++ pathsF y T.kids T.x T.ks 0 p
/-- Those in kids from one on. -/
def pathsL (y x : V) (ks : List ByteArray) : List JT → Nat → List Stp → List (List Stp)
  | [], _, _ => []
  | t :: r, i, p => pathsT y t (p ++ [stepOf x ks i]) ++ pathsL y x ks r (i + 1) p
theorem pathsL_cons (y x : V) (ks : List ByteArray) (t : JT) (r : List JT) (i : Nat) (p : List Stp) : pathsL y x ks (t :: r) i p = pathsT y t (p ++ [stepOf x ks i]) ++ pathsL y x ks r (i + 1) p := by rw [pathsL]
theorem pathsL_nil (y x : V) (ks : List ByteArray) (i : Nat) (p : List Stp) : pathsL y x ks [] i p = [] := by rw [pathsL]
theorem pathsL_toL (y x : V) (ks : List ByteArray) (f : JF) (i : Nat) (p : List Stp) : pathsL y x ks (toL f) i p = pathsF y f x ks i p := by
  induction f generalizing i with
  | nil => rw [toL, pathsL_nil, pathsF]
  | node b o a l r _ ihr => rw [toL, pathsL_cons, ihr, pathsF]; rfl
theorem pathsT_eq (y : V) (T : JT) (p : List Stp) : pathsT y T p = (if sameB T.x y = true then [p] else []) ++ pathsL y T.x T.ks T.ts 0 p := by rw [pathsT, JT.ts, pathsL_toL]
theorem pathsT_node (y x : V) (ks : List ByteArray) (ts : List JT) (p : List Stp) : pathsT y (.node x ks ts) p = (if sameB x y = true then [p] else []) ++ pathsL y x ks ts 0 p := by rw [pathsT_eq, node_ts]; rfl
theorem pathsF_len (y : V) (f : JF) : ∀ (x : V) (ks : List ByteArray) (i : Nat) (p : List Stp), (pathsF y f x ks i p).length ≤ szF f := by
  induction f with
  | nil => intro x ks i p; rw [pathsF]; simp
  | node b o a l r ihl ihr =>
    intro x ks i p
    have h1 := ihl a.1 a.2 0 (p ++ [stepOf x ks i])
    have h2 := ihr x ks (i + 1) p
    have h3 : (if sameB a.1 y = true then [p ++ [stepOf x ks i]] else []).length ≤ 1 := by split <;> simp
    rw [pathsF, List.length_append, List.length_append, szF]
    omega
theorem pathsT_len (y : V) (T : JT) (p : List Stp) : (pathsT y T p).length ≤ T.size := by
  have h1 := pathsF_len y T.kids T.x T.ks 0 p
  have h2 : (if sameB T.x y = true then [p] else []).length ≤ 1 := by split <;> simp
  rw [pathsT, List.length_append, JT.size]
  omega
theorem pathsL_len (y x : V) (ks : List ByteArray) (l : List JT) (i : Nat) (p : List Stp) : (pathsL y x ks l i p).length ≤ sizes l := by
  induction l generalizing i with
  | nil => rw [pathsL_nil]; simp
  | cons t r ih =>
    have h1 := pathsT_len y t (p ++ [stepOf x ks i])
    have h2 := ih (i + 1)
    rw [pathsL_cons, List.length_append, sizes]
    omega

/-- The cells of steps. -/
def stc (l : List Stp) : List Value := l.flatMap fun s => [.string s.1, .int .i64 s.2]
theorem stc_len (l : List Stp) : (stc l).length = l.length * 2 := by
  induction l with
  | nil => rfl
  | cons s r ih =>
    have e : stc (s :: r) = [.string s.1, .int .i64 s.2] ++ stc r := rfl
    rw [e, List.length_append, ih, List.length_cons]
    simp; omega
theorem stc_app (l r : List Stp) : stc (l ++ r) = stc l ++ stc r := by unfold stc; rw [List.flatMap_append]
theorem stc_one (l : List Stp) : ∀ u ∈ stc l, u.oneCell' = true := by
  intro u hu
  obtain ⟨s, _, hu⟩ := List.mem_flatMap.1 hu
  simp at hu
  rcases hu with rfl | rfl <;> rfl

/-- What grows turns no row of another type. -/
theorem own_grown {B e s n : Nat} {w w' : World} {v o : Value} {xs : List Value} {B' e' s' n' : Nat} {xs' : List Value} (h : w.ownsRow B e s v n xs) (hg : w.grownBy w' o.ownBlock) (ho : w.ownsRow B' e' s' o n' xs') (hne : e' ≠ e) : w'.ownsRow B e s v n xs := by
  refine ⟨h.1, ?_⟩
  rcases h.2 with h0 | ⟨g, cap, cur, h1, h2, h3, h4⟩
  · exact Or.inl h0
  · refine Or.inr ⟨g, cap, cur, h1, h2, ?_, h4⟩
    rw [hg.block g (lt_of_heap h3) (fun eo => ?_)]
    · exact h3
    · rcases ho.2 with ⟨rfl, _⟩ | ⟨g', cap', cur', rfl, _, hh, _⟩
      · simp [Value.ownBlock] at eo
      · simp [Value.ownBlock] at eo
        subst eo
        rw [h3] at hh
        have h5 := Option.some.inj hh
        injection h5 with _ h6
        exact hne h6.symm
theorem grown_below {B e s n : Nat} {w w' : World} {o : Value} {xs : List Value} (hg : w.grownBy w' o.ownBlock) (ho : w.ownsRow B e s o n xs) (hB : B ≤ w.heap.size) : Below B w w' := by
  refine ⟨hg.os, hg.tape, hg.output, hg.size, fun k hk => hg.block k (by omega) (fun eo => ?_)⟩
  rcases ho.2 with ⟨rfl, _⟩ | ⟨g', cap', cur', rfl, hb, _⟩
  · simp [Value.ownBlock] at eo
  · simp [Value.ownBlock] at eo
    omega

end Go.Proofs.YtnmdhbejjjmdeaaGreatDoor

namespace Go.Proofs.YtnmdhbejjjmdeaaGreatDoor
open Go.RowKit Go.Sort

theorem keep13 {W W' : World} {p0 p1 p2 p3 p4 p5 p6 p7 p8 p9 p10 p11 p12 : Addr} {v0 v1 v2 v3 v4 v5 v6 v7 v8 v9 v10 v11 v12 : Value} (h : W.cell? p0 = some v0 ∧ W.cell? p1 = some v1 ∧ W.cell? p2 = some v2 ∧ W.cell? p3 = some v3 ∧ W.cell? p4 = some v4 ∧ W.cell? p5 = some v5 ∧ W.cell? p6 = some v6 ∧ W.cell? p7 = some v7 ∧ W.cell? p8 = some v8 ∧ W.cell? p9 = some v9 ∧ W.cell? p10 = some v10 ∧ W.cell? p11 = some v11 ∧ W.cell? p12 = some v12) (hb : Below W.heap.size W W') : W'.cell? p0 = some v0 ∧ W'.cell? p1 = some v1 ∧ W'.cell? p2 = some v2 ∧ W'.cell? p3 = some v3 ∧ W'.cell? p4 = some v4 ∧ W'.cell? p5 = some v5 ∧ W'.cell? p6 = some v6 ∧ W'.cell? p7 = some v7 ∧ W'.cell? p8 = some v8 ∧ W'.cell? p9 = some v9 ∧ W'.cell? p10 = some v10 ∧ W'.cell? p11 = some v11 ∧ W'.cell? p12 = some v12 := by
  obtain ⟨h0, h1, h2, h3, h4, h5, h6, h7, h8, h9, h10, h11, h12⟩ := h
  exact ⟨(hb.cell (cell_in h0)).trans h0, (hb.cell (cell_in h1)).trans h1, (hb.cell (cell_in h2)).trans h2, (hb.cell (cell_in h3)).trans h3, (hb.cell (cell_in h4)).trans h4, (hb.cell (cell_in h5)).trans h5, (hb.cell (cell_in h6)).trans h6, (hb.cell (cell_in h7)).trans h7, (hb.cell (cell_in h8)).trans h8, (hb.cell (cell_in h9)).trans h9, (hb.cell (cell_in h10)).trans h10, (hb.cell (cell_in h11)).trans h11, (hb.cell (cell_in h12)).trans h12⟩
theorem keep13b {W W' : World} {B : Nat} {p0 p1 p2 p3 p4 p5 p6 p7 p8 p9 p10 p11 p12 : Addr} {v0 v1 v2 v3 v4 v5 v6 v7 v8 v9 v10 v11 v12 : Value} (h : W.cell? p0 = some v0 ∧ W.cell? p1 = some v1 ∧ W.cell? p2 = some v2 ∧ W.cell? p3 = some v3 ∧ W.cell? p4 = some v4 ∧ W.cell? p5 = some v5 ∧ W.cell? p6 = some v6 ∧ W.cell? p7 = some v7 ∧ W.cell? p8 = some v8 ∧ W.cell? p9 = some v9 ∧ W.cell? p10 = some v10 ∧ W.cell? p11 = some v11 ∧ W.cell? p12 = some v12) (hb : Below B W W') (hne : p0.block < B ∧ p1.block < B ∧ p2.block < B ∧ p3.block < B ∧ p4.block < B ∧ p5.block < B ∧ p6.block < B ∧ p7.block < B ∧ p8.block < B ∧ p9.block < B ∧ p10.block < B ∧ p11.block < B ∧ p12.block < B) : W'.cell? p0 = some v0 ∧ W'.cell? p1 = some v1 ∧ W'.cell? p2 = some v2 ∧ W'.cell? p3 = some v3 ∧ W'.cell? p4 = some v4 ∧ W'.cell? p5 = some v5 ∧ W'.cell? p6 = some v6 ∧ W'.cell? p7 = some v7 ∧ W'.cell? p8 = some v8 ∧ W'.cell? p9 = some v9 ∧ W'.cell? p10 = some v10 ∧ W'.cell? p11 = some v11 ∧ W'.cell? p12 = some v12 := by
  obtain ⟨h0, h1, h2, h3, h4, h5, h6, h7, h8, h9, h10, h11, h12⟩ := h
  obtain ⟨q0, q1, q2, q3, q4, q5, q6, q7, q8, q9, q10, q11, q12⟩ := hne
  exact ⟨(hb.cell q0).trans h0, (hb.cell q1).trans h1, (hb.cell q2).trans h2, (hb.cell q3).trans h3, (hb.cell q4).trans h4, (hb.cell q5).trans h5, (hb.cell q6).trans h6, (hb.cell q7).trans h7, (hb.cell q8).trans h8, (hb.cell q9).trans h9, (hb.cell q10).trans h10, (hb.cell q11).trans h11, (hb.cell q12).trans h12⟩
theorem step_append_known {ops : Array Oper} {o : Oper} {a : Act} {w : World} {K : Act → World → Prop} {Q : Exit → Act → World → Prop} {E : Prop} (hgd : o.guard = none) (s x : Operand) (T : TypeId)
    (ho : o.op = .call { callee := .builtin .append, args := #[s, x], argTypes := #[T, T] }) (v u r : Value) (w' : World) (hs : a.eval s = v) (hx : a.eval x = u)
    (hrun : (Builtin.append_ #[T, T] o.type #[v, u]).run Tryz.prog w = .ok r w') (hK : K (a.put o.dst r) w') : if Region.wanted o (yielded ops a.tmps) = true then Oper.wp Tryz.prog o a w K Q else E := by
  have hw : Region.wanted o (yielded ops a.tmps) = true := by simp [Region.wanted, hgd]
  rw [if_pos hw]
  unfold Oper.wp
  simp [execOp, ho, resolve, invoke, builtin, hs, hx, hrun, Result.andThen]
  exact hK

/-- The paths of the first kids. -/
theorem pathsL_take (y x : V) (ks : List ByteArray) (p : List Stp) (l : List JT) (i j : Nat) (hj : j < l.length) : pathsL y x ks (l.take (j + 1)) i p = pathsL y x ks (l.take j) i p ++ pathsT y l[j] (p ++ [stepOf x ks (i + j)]) := by
  induction l generalizing i j with
  | nil => simp at hj
  | cons t r ih =>
    cases j with
    | zero => simp [pathsL_cons, pathsL_nil]
    | succ j =>
      rw [List.take_succ_cons, List.take_succ_cons, pathsL_cons, pathsL_cons, ih (i + 1) j (by simpa using hj), List.append_assoc]
      simp only [List.getElem_cons_succ]
      rw [show i + 1 + j = i + (j + 1) by omega]

end Go.Proofs.YtnmdhbejjjmdeaaGreatDoor
