/-
  What is proved: what bookref3's reader leaves; what lies in memory while it reads a map or a list. how bookref3's kids ends, and what holds while it reads.
  Conditions: as each theorem says.
-/
import Derived.Test.YtnmdhbejjjmdeaaGreatDoorJH2
import Derived.Test.YtnmdhbejjjmdeaaGreatDoorJXC3
namespace Go.Proofs.YtnmdhbejjjmdeaaGreatDoor
open Go.RowKit Go.Sort

/-- Two slices. -/
def slU (u : TV) : Prop := (∃ a n c, u.2.1 = .slice a n c) ∧ ∃ a n c, u.2.2 = .slice a n c
/-- What bookref3's Tree leaves: a tree, or a fault. -/
def TreeHP (n p : Nat) (s : ByteArray) (k m : Nat) (w : World) (e : Ending) (w' : World) : Prop :=
  (∃ u T k', e = .returned (tval u) ∧ IsTP (fun b => w.heap.size ≤ b) w' (tval u) T ∧ rdT n s k m = .ok (T, k') ∧ m + T.size ≤ 400 ∧ k < k' ∧ k' ≤ s.size ∧ PB w' p s k' (m + T.size) 0 0 ∧ Rk p w w') ∨
  (∃ u k2 m2 kf fe, e = .returned (tval u) ∧ slU u ∧ rdT n s k m = .error (kf, fe) ∧ fe ≠ 0 ∧ PB w' p s k2 m2 kf fe ∧ Rk p w w')
/-- Trees are read, where less than so much is left. -/
def TreeHC (p : Nat) (s : ByteArray) (n : Nat) : Prop :=
  ∀ k m w, s.size - k < n → PB w p s k m 0 0 → k ≤ s.size → m ≤ 400 → Calls Tryz.prog 7 #[.pointer (some ⟨p, 0, none⟩)] w fun e w' => TreeHP n p s k m w e w'
/-- What kids leaves. -/
def KidsP (n : Nat) (mp : Bool) (p : Nat) (s : ByteArray) (k m : Nat) (w : World) (e : Ending) (w' : World) : Prop :=
  (∃ (x : Sg) (kk mm : Nat) (u : TV), rdFrom (rdT n s) mp s ⟨#[c1 mp]⟩ (s.size + 1) true ([], []) k m = .ok (x, kk) ∧ mm = m + sizes x.2 ∧ mm ≤ 400 ∧ k < kk ∧ kk ≤ s.size ∧ e = .returned (tval u) ∧ IsTP (fun b => w.heap.size ≤ b) w' (tval u) (.node (cx mp) x.1 x.2) ∧ PB w' p s kk mm 0 0 ∧ Rk p w w') ∨
  (∃ u k2 m2 kf fe, e = .returned (tval u) ∧ slU u ∧ rdFrom (rdT n s) mp s ⟨#[c1 mp]⟩ (s.size + 1) true ([], []) k m = .error (kf, fe) ∧ fe ≠ 0 ∧ PB w' p s k2 m2 kf fe ∧ Rk p w w')
/-- A thing, and those behind it. -/
def rdTh (R : Nat → Nat → Rs (JT × Nat)) (mp : Bool) (s en : ByteArray) (f : Nat) (x : Sg) (k m : Nat) : Rs (Sg × Nat) :=
  match rdOne R mp s x.1 k m with
  | .error e => .error e
  | .ok (key, T, k') => rdFrom R mp s en f false (if mp = true then x.1 ++ [key] else x.1, x.2 ++ [T]) k' (m + T.size)
theorem from_end {R : Nat → Nat → Rs (JT × Nat)} {mp : Bool} {s en : ByteArray} {f : Nat} {b : Bool} {x : Sg} {k m : Nat} (h : preB s k en = true) : rdFrom R mp s en (f + 1) b x k m = .ok (x, k + 1) := by
  rw [rdFrom, if_pos h]
theorem from_start {R : Nat → Nat → Rs (JT × Nat)} {mp : Bool} {s en : ByteArray} {f : Nat} {x : Sg} {k m : Nat} (h : preB s k en = false) : rdFrom R mp s en (f + 1) true x k m = rdTh R mp s en f x k m := by
  rw [rdFrom, if_neg (by rw [h]; decide), if_neg (by simp)]
  rfl
theorem from_com {R : Nat → Nat → Rs (JT × Nat)} {mp : Bool} {s en : ByteArray} {f : Nat} {x : Sg} {k m : Nat} (h : preB s k en = false) (hc : preB s k com = true) : rdFrom R mp s en (f + 1) false x k m = rdTh R mp s en f x (k + 1) m := by
  rw [rdFrom, if_neg (by rw [h]; decide), if_neg (by simp [hc])]
  rfl
theorem from_no {R : Nat → Nat → Rs (JT × Nat)} {mp : Bool} {s en : ByteArray} {f : Nat} {x : Sg} {k m : Nat} (h : preB s k en = false) (hc : preB s k com = false) : rdFrom R mp s en (f + 1) false x k m = .error (k, 2) := by
  rw [rdFrom, if_neg (by rw [h]; decide), if_pos ⟨rfl, hc⟩]
theorem th_bad {R : Nat → Nat → Rs (JT × Nat)} {mp : Bool} {s en : ByteArray} {f : Nat} {x : Sg} {k m : Nat} {e : Nat × Int} (h : rdOne R mp s x.1 k m = .error e) : rdTh R mp s en f x k m = .error e := by
  unfold rdTh
  rw [h]
theorem th_ok {R : Nat → Nat → Rs (JT × Nat)} {mp : Bool} {s en : ByteArray} {f : Nat} {x : Sg} {k m k' : Nat} {key : ByteArray} {T : JT} (h : rdOne R mp s x.1 k m = .ok (key, T, k')) : rdTh R mp s en f x k m = rdFrom R mp s en f false (if mp = true then x.1 ++ [key] else x.1, x.2 ++ [T]) k' (m + T.size) := by
  unfold rdTh
  rw [h]
theorem com_not {s : ByteArray} {k : Nat} {mp : Bool} (h : preB s k com = true) : preB s k ⟨#[c1 mp]⟩ = false := by
  cases hp : preB s k ⟨#[c1 mp]⟩ with
  | false => rfl
  | true =>
    exfalso
    have h1 := lft_step h
    have h2 := lft_step hp
    rw [h1] at h2
    have h3 := (List.cons.inj h2).1
    cases mp <;> cases h3
/-- The boxes of kids: its result, its tree. -/
structure Bn (mp : Bool) (p bt br : Nat) (w0 : World) (vk vt : Value) (w : World) : Prop where
  rk : Rk p w0 w
  hr : w.heap[br]? = some zO
  ht : w.heap[bt]? = some (.cells #[.int .i64 (cx mp).k, .int .i64 0, .string ⟨#[]⟩, .int .i64 0, .int .i64 0, vk, vt] 29)
/-- What lies in memory while kids reads. -/
structure Bm (mp : Bool) (p bt br B : Nat) (w0 : World) (x : Sg) (vk vt : Value) (us : List TV) (w : World) : Prop where
  n : Bn mp p bt br w0 vk vt w
  bz : B ≤ w.heap.size
  kl : x.1.length ≤ x.2.length + 1
  few : x.2.length ≤ 400
  ks : w.ownsRow B 9 1 vk x.1.length (scells x.1)
  ts : w.ownsRow B 29 7 vt us.length (tcs us)
  al : AllT (Kd B vk vt) w us x.2
theorem Bm.lens {mp : Bool} {p bt br B : Nat} {w0 : World} {x : Sg} {vk vt : Value} {us : List TV} {w : World} (h : Bm mp p bt br B w0 x vk vt us w) : us.length = x.2.length ∧ us.length ≤ 400 ∧ x.1.length ≤ 401 := by
  have h1 := h.al.1
  have h3 := h.kl
  have h4 := h.few
  omega
theorem Bn.move {mp : Bool} {p bt br B : Nat} {w0 : World} {vk vt : Value} {w w' : World} (hp : Pl p bt br B w0) (hB : B ≤ w.heap.size) (h : Bn mp p bt br w0 vk vt w) (hrk : Rk p w w') : Bn mp p bt br w0 vk vt w' := by
  have hpp := hp.lp
  have hb1 := hp.lbt
  have hb2 := hp.lbr
  refine ⟨h.rk.trans hrk, ?_, ?_⟩
  · rw [hrk.block br (by omega) (by omega)]; exact h.hr
  · rw [hrk.block bt (by omega) (by omega)]; exact h.ht
theorem Bm.move {mp : Bool} {p bt br B : Nat} {w0 : World} {x : Sg} {vk vt : Value} {us : List TV} {w w' : World} (hp : Pl p bt br B w0) (h : Bm mp p bt br B w0 x vk vt us w) (hrk : Rk p w w') : Bm mp p bt br B w0 x vk vt us w' := by
  have hpp := hp.lp
  have hb1 := hp.lbt
  have hbz := h.bz
  refine ⟨h.n.move hp hbz hrk, Nat.le_trans hbz hrk.size, h.kl, h.few, ?_, ?_, ?_⟩
  · exact ownR_at h.ks (fun g hg => by have := ownR_blk h.ks hg; exact hrk.block g this.2.1 (by omega))
  · exact ownR_at h.ts (fun g hg => by have := ownR_blk h.ts hg; exact hrk.block g this.2.1 (by omega))
  · exact h.al.stay hrk.size (fun b hb hlt => ⟨hrk.block b hlt (by have := hb.1; omega), hb⟩)
theorem rk_keep {p bt br B j : Nat} {w0 w W : World} {v : Value} (hp : Pl p bt br B w0) (h : Rk p w0 w) (hz : B ≤ w.heap.size) (hW : Below B w W) : Rk p w0 (W.setCell ⟨bt, j, none⟩ v) := by
  have hpp := hp.lp
  have hb1 := hp.lbt
  refine ⟨hW.os.trans h.os, hW.tape.trans h.tape, hW.output.trans h.output, ?_, fun b h1 h2 => ?_⟩
  · have := hW.size
    have := h.size
    simp
    omega
  · rw [Below.heap_setCell _ _ _ _ (by simp; omega), hW.block b (by omega)]
    exact h.block b h1 h2
/-- Kids grew by something. -/
theorem Bn.addB {mp : Bool} {p bt br B : Nat} {w0 : World} {vk vt v2 : Value} {w W : World} (hp : Pl p bt br B w0) (h : Bn mp p bt br w0 vk vt w) (hz : B ≤ w.heap.size) (hW : Below B w W) : Bn mp p bt br w0 vk v2 (W.setCell ⟨bt, 6, none⟩ v2) := by
  have hpp := hp.lp
  have hb1 := hp.lbt
  have hb2 := hp.lbr
  refine ⟨rk_keep hp h.rk hz hW, ?_, ?_⟩
  · rw [Below.heap_setCell _ _ _ _ (by have := hp.lne; simpa using this), hW.block br hb2.2]
    exact h.hr
  · rw [set_atR ((hW.block bt hb1.2).trans h.ht) 6 v2]
    rfl
theorem PB.keepB {p bt br B j : Nat} {w0 w W : World} {v : Value} {s : ByteArray} {k m wr : Nat} {bd : Int} (hp : Pl p bt br B w0) (h : PB w p s k m wr bd) (hW : Below B w W) : PB (W.setCell ⟨bt, j, none⟩ v) p s k m wr bd := by
  have hpp := hp.lp
  have hb1 := hp.lbt
  unfold PB
  rw [Below.heap_setCell _ _ _ _ (by simp; omega), hW.block p (by omega)]
  exact h
/-- A tree is appended. -/
theorem appU (ty : TypeId) (W : World) (B : Nat) (hB : B ≤ W.heap.size) (v : Value) (xs : List TV) (hv : W.ownsRow B 29 7 v xs.length (tcs xs)) (gz : Nat) (u : TV) (hz : W.heap[gz]? = some (.cells #[.int .i64 u.1.k, .int .i64 u.1.n, .string u.1.t, .int .i64 u.1.o, .int .i64 u.1.a, u.2.1, u.2.2] 29)) (hu : slU u) (hl : xs.length ≤ 1000) :
    ∃ g c W', (Builtin.append_ #[27, 27] ty #[v, .slice (some ⟨gz, 0, none⟩) 1 1]).run Tryz.prog W = .ok (.slice (some ⟨g, 0, none⟩) (xs.length + 1) c) W' ∧ W'.ownsRow B 29 7 (.slice (some ⟨g, 0, none⟩) (xs.length + 1) c) (xs.length + 1) (tcs (xs ++ [u])) ∧ W.grownBy W' v.ownBlock ∧ (v.ownBlock = some g ∨ g = W.heap.size) := by
  obtain ⟨i0, hi0, hz0, hz1, hz2⟩ := info_parts infoT
  obtain ⟨x, uk, ut⟩ := u
  obtain ⟨⟨a1, n1, d1, e1⟩, a2, n2, d2, e2⟩ := hu
  simp only at e1 e2
  subst e1 e2
  obtain ⟨u, W', q1, q2, q3, _, q5⟩ := run_append_own_at (P := Tryz.prog) W B 27 ty 29 i0 _ 7 _ Tryz.underlying27 hi0 hz0 hz1 hz2 rfl (by decide) v xs.length (tcs xs) hv ⟨gz, 0, none⟩ 1 1 (tcells (x, .slice a1 n1 d1, .slice a2 n2 d2)) rfl (by
    intro j u hj
    rw [row_atR]
    unfold World.cell?
    simp only [hz]
    match j, hj with
    | 0, hj => exact hj
    | 1, hj => exact hj
    | 2, hj => exact hj
    | 3, hj => exact hj
    | 4, hj => exact hj
    | 5, hj => exact hj
    | 6, hj => exact hj) (by
    intro u hu
    simp only [tcells, List.mem_cons, List.not_mem_nil, or_false] at hu
    rcases hu with rfl | rfl | rfl | rfl | rfl | rfl | rfl <;> rfl) (by unfold maxLen; omega) (by omega) hB
  have e : tcs xs ++ tcells (x, .slice a1 n1 d1, .slice a2 n2 d2) = tcs (xs ++ [(x, .slice a1 n1 d1, .slice a2 n2 d2)]) := by rw [tcs_app]; simp [tcs]
  rw [e] at q2
  rcases q2.2 with ⟨_, h0⟩ | ⟨g, c, cur, rfl, h2⟩
  · simp at h0
  · refine ⟨g, c, W', q1, q2, q3, ?_⟩
    rcases q5 with h | h
    · exact Or.inl h.symm
    · exact Or.inr (by simpa [Value.ownBlock] using h)
/-- A tree is put behind the kids. -/
theorem Bm.addT {mp : Bool} {p bt br B : Nat} {w0 : World} {x : Sg} {vk vt : Value} {us : List TV} {w W : World} {g c N : Nat} {u : TV} {T : JT} (hp : Pl p bt br B w0) (h : Bm mp p bt br B w0 x vk vt us w)
    (ho : W.ownsRow B 29 7 (.slice (some ⟨g, 0, none⟩) (us.length + 1) c) (us.length + 1) (tcs (us ++ [u]))) (hg : w.grownBy W vt.ownBlock) (hat : vt.ownBlock = some g ∨ g = w.heap.size)
    (hT : IsTP (fun b => N ≤ b) w (tval u) T) (hN : B ≤ N ∧ (∀ b, vk.ownBlock = some b → b < N) ∧ (∀ b, vt.ownBlock = some b → b < N)) (hsz : x.2.length + 1 ≤ 400) :
    Bm mp p bt br B w0 (x.1, x.2 ++ [T]) vk (.slice (some ⟨g, 0, none⟩) (us.length + 1) c) (us ++ [u]) (W.setCell ⟨bt, 6, none⟩ (.slice (some ⟨g, 0, none⟩) (us.length + 1) c)) := by
  have hpp := hp.lp
  have hb1 := hp.lbt
  have hb2 := hp.lbr
  have hne := hp.lne
  have hbz := h.bz
  obtain ⟨v2, hv2⟩ : ∃ v2, v2 = Value.slice (some ⟨g, 0, none⟩) (us.length + 1) c := ⟨_, rfl⟩
  have hob : v2.ownBlock = some g := by rw [hv2]; rfl
  rw [← hv2] at ho ⊢
  have hgB := (ownR_blk ho hob).1
  have hgW := (ownR_blk ho hob).2.1
  have hws := hg.size
  have hvk : ∀ b, vk.ownBlock = some b → b ≠ g := fun b hb e => by
    subst e
    rcases hat with h1 | h1
    · exact own_ne h.ks h.ts str_ne hb h1
    · have := (ownR_blk h.ks hb).2.1
      omega
  have hW : Below B w W := grown_belowJ hg h.ts hbz
  have hout : ∀ b, b < w.heap.size → vt.ownBlock ≠ some b → b ≠ g → b ≠ bt → (W.setCell ⟨bt, 6, none⟩ v2).heap[b]? = w.heap[b]? := fun b h1 h2 h3 h4 => by
    rw [Below.heap_setCell _ _ _ _ (by simpa using h4)]
    exact hg.block b h1 (fun e => h2 e.symm)
  have hlow : ∀ b, b < B → b ≠ bt → (W.setCell ⟨bt, 6, none⟩ v2).heap[b]? = w.heap[b]? := fun b h1 h4 =>
    hout b (by omega) (fun e => by have := (ownR_blk h.ts e).1; omega) (by omega) h4
  have hsize : w.heap.size ≤ (W.setCell ⟨bt, 6, none⟩ v2).heap.size := by
    have := hW.size
    simpa using this
  refine ⟨⟨?_, ?_, ?_⟩, Nat.le_trans hbz hsize, ?_, ?_, ?_, ?_, ?_⟩
  · exact ⟨by rw [show (W.setCell ⟨bt, 6, none⟩ v2).os = W.os from rfl, hW.os]; exact h.n.rk.os, by rw [show (W.setCell ⟨bt, 6, none⟩ v2).tape = W.tape from rfl, hW.tape]; exact h.n.rk.tape, by rw [show (W.setCell ⟨bt, 6, none⟩ v2).output = W.output from rfl, hW.output]; exact h.n.rk.output, Nat.le_trans h.n.rk.size hsize, fun b h1 h2 => (hlow b (by omega) (by omega)).trans (h.n.rk.block b h1 h2)⟩
  · exact (hlow br (by omega) hne).trans h.n.hr
  · have h1 : W.heap[bt]? = some (.cells #[.int .i64 (cx mp).k, .int .i64 0, .string ⟨#[]⟩, .int .i64 0, .int .i64 0, vk, vt] 29) := (hW.block bt (by omega)).trans h.n.ht
    rw [set_atR h1 6 v2]
    rfl
  · have := h.kl
    simp
    omega
  · simp
    omega
  · refine ownR_at h.ks (fun b hb => hout b (ownR_blk h.ks hb).2.1 (own_ne h.ks h.ts str_ne hb) (hvk b hb) ?_)
    have := (ownR_blk h.ks hb).1
    omega
  · have h2 := ownsRow_setCell_other (a := ⟨bt, 6, none⟩) ho (by rw [hob]; simp; omega) v2
    rw [List.length_append]
    exact h2
  · refine AllT.app ?_ (AllT.one ?_)
    · refine h.al.stay hsize (fun b hb hlt => ?_)
      have hbg : b ≠ g := fun e => by
        subst e
        rcases hat with h1 | h1
        · exact hb.2.2 h1
        · omega
      exact ⟨hout b hlt hb.2.2 hbg (by have := hb.1; omega), hb.1, hb.2.1, by rw [hob]; simp; omega⟩
    · have h1 : AllT (fun b => N ≤ b) w [u] [T] := AllT.one hT
      have h2 : AllT (Kd B vk v2) (W.setCell ⟨bt, 6, none⟩ v2) [u] [T] := by
        refine h1.stay hsize (fun b hb hlt => ?_)
        have k1 : vk.ownBlock ≠ some b := fun e => by have := hN.2.1 b e; omega
        have k2 : vt.ownBlock ≠ some b := fun e => by have := hN.2.2 b e; omega
        have hbg : b ≠ g := fun e => by
          subst e
          rcases hat with h1 | h1
          · exact k2 h1
          · omega
        exact ⟨hout b hlt k2 hbg (by omega), by omega, k1, by rw [hob]; simp; omega⟩
      exact h2.2 0 (by simp) (by simp)
/-- A key is put behind the keys. -/
theorem Bm.addK {mp : Bool} {p bt br B : Nat} {w0 : World} {x : Sg} {vk vt : Value} {us : List TV} {w W : World} {g c : Nat} {key : ByteArray} (hp : Pl p bt br B w0) (h : Bm mp p bt br B w0 x vk vt us w) (hkl : x.1.length ≤ x.2.length)
    (ho : W.ownsRow B 9 1 (.slice (some ⟨g, 0, none⟩) (x.1.length + 1) c) (x.1.length + 1) (scells (x.1 ++ [key]))) (hg : w.grownBy W vk.ownBlock) (hat : vk.ownBlock = some g ∨ g = w.heap.size) :
    Bm mp p bt br B w0 (x.1 ++ [key], x.2) (.slice (some ⟨g, 0, none⟩) (x.1.length + 1) c) vt us (W.setCell ⟨bt, 5, none⟩ (.slice (some ⟨g, 0, none⟩) (x.1.length + 1) c)) := by
  have hpp := hp.lp
  have hb1 := hp.lbt
  have hb2 := hp.lbr
  have hne := hp.lne
  have hbz := h.bz
  obtain ⟨v2, hv2⟩ : ∃ v2, v2 = Value.slice (some ⟨g, 0, none⟩) (x.1.length + 1) c := ⟨_, rfl⟩
  have hob : v2.ownBlock = some g := by rw [hv2]; rfl
  rw [← hv2] at ho ⊢
  have hgB := (ownR_blk ho hob).1
  have hws := hg.size
  have hvt : ∀ b, vt.ownBlock = some b → b ≠ g := fun b hb e => by
    subst e
    rcases hat with h1 | h1
    · exact own_ne h.ts h.ks str_ne.symm hb h1
    · have := (ownR_blk h.ts hb).2.1
      omega
  have hout : ∀ b, b < w.heap.size → vk.ownBlock ≠ some b → b ≠ bt → (W.setCell ⟨bt, 5, none⟩ v2).heap[b]? = w.heap[b]? := fun b h1 h2 h4 => by
    rw [Below.heap_setCell _ _ _ _ (by simpa using h4)]
    exact hg.block b h1 (fun e => h2 e.symm)
  have hlow : ∀ b, b < B → b ≠ bt → (W.setCell ⟨bt, 5, none⟩ v2).heap[b]? = w.heap[b]? := fun b h1 h4 =>
    hout b (by omega) (fun e => by have := (ownR_blk h.ks e).1; omega) h4
  have hW : Below B w W := grown_belowJ hg h.ks hbz
  have hsize : w.heap.size ≤ (W.setCell ⟨bt, 5, none⟩ v2).heap.size := by
    have := hW.size
    simpa using this
  refine ⟨⟨?_, ?_, ?_⟩, Nat.le_trans hbz hsize, ?_, h.few, ?_, ?_, ?_⟩
  · exact ⟨by rw [show (W.setCell ⟨bt, 5, none⟩ v2).os = W.os from rfl, hW.os]; exact h.n.rk.os, by rw [show (W.setCell ⟨bt, 5, none⟩ v2).tape = W.tape from rfl, hW.tape]; exact h.n.rk.tape, by rw [show (W.setCell ⟨bt, 5, none⟩ v2).output = W.output from rfl, hW.output]; exact h.n.rk.output, Nat.le_trans h.n.rk.size hsize, fun b h1 h2 => (hlow b (by omega) (by omega)).trans (h.n.rk.block b h1 h2)⟩
  · exact (hlow br (by omega) hne).trans h.n.hr
  · have h1 : W.heap[bt]? = some (.cells #[.int .i64 (cx mp).k, .int .i64 0, .string ⟨#[]⟩, .int .i64 0, .int .i64 0, vk, vt] 29) := (hW.block bt (by omega)).trans h.n.ht
    rw [set_atR h1 5 v2]
    rfl
  · simp
    omega
  · have h2 := ownsRow_setCell_other (a := ⟨bt, 5, none⟩) ho (by rw [hob]; simp; omega) v2
    rw [List.length_append]
    exact h2
  · refine ownR_at h.ts (fun b hb => hout b (ownR_blk h.ts hb).2.1 (own_ne h.ts h.ks str_ne.symm hb) ?_)
    have := (ownR_blk h.ts hb).1
    omega
  · refine h.al.stay hsize (fun b hb hlt => ?_)
    have hbg : b ≠ g := fun e => by
      subst e
      rcases hat with h1 | h1
      · exact hb.2.1 h1
      · omega
    exact ⟨hout b hlt hb.2.1 (by have := hb.1; omega), hb.1, by rw [hob]; simp; omega, hb.2.2⟩
end Go.Proofs.YtnmdhbejjjmdeaaGreatDoor

namespace Go.Proofs.YtnmdhbejjjmdeaaGreatDoor
open Go.RowKit Go.Sort

/-- A tree's fields, stored. -/
def st7 (w : World) (br : Nat) (kd : Int) (vk vt : Value) : World := ((((((w.setCell ⟨br, 0, none⟩ (.int .i64 kd)).setCell ⟨br, 1, none⟩ (.int .i64 0)).setCell ⟨br, 2, none⟩ (.string ⟨#[]⟩)).setCell ⟨br, 3, none⟩ (.int .i64 0)).setCell ⟨br, 4, none⟩ (.int .i64 0)).setCell ⟨br, 5, none⟩ vk).setCell ⟨br, 6, none⟩ vt
/-- What is left when kids returns its tree. -/
def EndP (mp : Bool) (p br : Nat) (w0 w : World) (s : ByteArray) (k m wr : Nat) (bd : Int) (vk vt : Value) (W : World) : Prop :=
  W.heap[br]? = some (.cells #[.int .i64 (cx mp).k, .int .i64 0, .string ⟨#[]⟩, .int .i64 0, .int .i64 0, vk, vt] 29) ∧ PB W p s k m wr bd ∧ Rk p w0 W ∧ (∀ (P : Nat → Prop) (T : JT) (v : Value), IsTP P w v T → (∀ b, P b → b ≠ br) → IsTP P W v T)
theorem kids_end {mp : Bool} {p bt br B : Nat} {w0 w : World} {s : ByteArray} {k m wr : Nat} {bd : Int} {vk vt : Value} (hp : Pl p bt br B w0) (hbr : w0.heap.size ≤ br) (h : Bn mp p bt br w0 vk vt w) (hpb : PB w p s k m wr bd) :
    EndP mp p br w0 w s k m wr bd vk vt (st7 w br (cx mp).k vk vt) := by
  have hz := h.hr
  unfold zO at hz
  have hpl := hpb.lt
  have hpw := hp.lp
  have hbl : Below br w (st7 w br (cx mp).k vk vt) := set7_below (Below.refl _ _) (Nat.le_refl _) (.int .i64 (cx mp).k) (.int .i64 0) (.string ⟨#[]⟩) (.int .i64 0) (.int .i64 0) vk vt
  have hot : ∀ b, b ≠ br → b < w.heap.size → (st7 w br (cx mp).k vk vt).heap[b]? = w.heap[b]? := fun b hb hlt => by
    have h9 : w.heap[b]? = some w.heap[b] := Array.getElem?_eq_getElem hlt
    rw [h9]
    exact set7_other h9 hb (.int .i64 (cx mp).k) (.int .i64 0) (.string ⟨#[]⟩) (.int .i64 0) (.int .i64 0) vk vt
  refine ⟨set7 hz (.int .i64 (cx mp).k) (.int .i64 0) (.string ⟨#[]⟩) (.int .i64 0) (.int .i64 0) vk vt, (hot p (by have := hp.lbr; omega) hpl).trans hpb, ?_, fun P T v hT hP => ?_⟩
  · exact ⟨hbl.os.trans h.rk.os, hbl.tape.trans h.rk.tape, hbl.output.trans h.rk.output, Nat.le_trans h.rk.size hbl.size, fun b h1 h2 => (hot b (by omega) (by have := h.rk.size; omega)).trans (h.rk.block b h1 h2)⟩
  · exact hT.move hbl.size (fun b hb hlt => hot b (hP b hb) hlt) (fun _ h => h)
theorem Bm.tree {mp : Bool} {p bt br B : Nat} {w0 : World} {x : Sg} {vk vt : Value} {us : List TV} {w : World} (h : Bm mp p bt br B w0 x vk vt us w) : IsTP (fun b => B ≤ b) w (tval (cx mp, vk, vt)) (.node (cx mp) x.1 x.2) := by
  have hal : AllT (fun b => B ≤ b) w us x.2 := h.al.stay (Nat.le_refl _) (fun b hb _ => ⟨rfl, hb.1⟩)
  have hl := h.lens
  exact tree_of h.ks h.ts hal (by omega) (by omega) (fun b hb => hb)
theorem Bm.sls {mp : Bool} {p bt br B : Nat} {w0 : World} {x : Sg} {vk vt : Value} {us : List TV} {w : World} (h : Bm mp p bt br B w0 x vk vt us w) : (∃ a c, vk = .slice a x.1.length c) ∧ ∃ a c, vt = .slice a us.length c := by
  constructor
  · rcases h.ks.2 with ⟨e, h0⟩ | ⟨g, cap, cur, e, _⟩
    · exact ⟨none, 0, by rw [e, h0]⟩
    · exact ⟨_, _, e⟩
  · rcases own_rowB h.ts with ⟨e, h0⟩ | ⟨g, cap, e, _⟩
    · exact ⟨none, 0, by rw [e, h0]; rfl⟩
    · exact ⟨_, _, e⟩
/-- The last key. -/
theorem Bm.last {mp : Bool} {p bt br B : Nat} {w0 : World} {x : Sg} {ka : Option Addr} {kn kc : Nat} {vt : Value} {us : List TV} {w : World} (h : Bm mp p bt br B w0 x (.slice ka kn kc) vt us w) (hl : x.1.length = kn) (h0 : 0 < kn) : ∃ b off y, ka = some ⟨b, off, none⟩ ∧ w.cell? ⟨b, off + (kn - 1), none⟩ = some (.string y) ∧ x.1.getLast? = some y := by
  have hn := h.lens
  obtain ⟨a, cap, e, _, _, h3⟩ := own_strs h.ks (by omega)
  obtain ⟨b, off, e1, _, _, h5⟩ := h3 (fun e => by rw [e] at hl; simp at hl; omega)
  have e2 := (Value.slice.inj e).1
  refine ⟨b, off, x.1[kn - 1]'(by omega), e2.trans e1, h5 (kn - 1) (by omega), ?_⟩
  rw [List.getLast?_eq_getElem?, show x.1.length - 1 = kn - 1 by omega, List.getElem?_eq_getElem (by omega)]
/-- Where the reader stands. -/
def posOf (w : World) (p : Nat) : Nat := (RowKit.intOf ((w.cell? ⟨p, 1, none⟩).getD undef)).toNat
theorem PB.pos {w : World} {p : Nat} {s : ByteArray} {k m wr : Nat} {bd : Int} (h : PB w p s k m wr bd) : posOf w p = k := by
  have : w.cell? ⟨p, 1, none⟩ = some (.int .i64 (k : Int)) := Lib.cell_of_heap h 1
  unfold posOf
  rw [this]
  simp [RowKit.intOf]
/-- What holds while kids reads: a thing is to begin. -/
def KI (n : Nat) (mp : Bool) (p : Nat) (s : ByteArray) (k0 m0 : Nat) (w wr : World) : Prop :=
  ∃ (x : Sg) (k m f : Nat) (vk vt : Value) (us : List TV), Bm mp p (w.heap.size + 1) w.heap.size (w.heap.size + 2) w x vk vt us wr ∧ PB wr p s k m 0 0 ∧ k0 ≤ k ∧ k ≤ s.size ∧ m ≤ 400 ∧ m = m0 + sizes x.2 ∧ s.size + 1 ≤ f + k ∧ (mp = true → x.1.length = x.2.length) ∧ rdFrom (rdT n s) mp s ⟨#[c1 mp]⟩ (s.size + 1) true ([], []) k0 m0 = rdTh (rdT n s) mp s ⟨#[c1 mp]⟩ f x k m
theorem slU_of {P : Nat → Prop} {w : World} {u : TV} {T : JT} (h : IsTP P w (tval u) T) : slU u := by
  obtain ⟨y, a1, n1, c1, a2, n2, c2, e⟩ := h.plain.parts
  rw [e]
  exact ⟨⟨_, _, _, rfl⟩, _, _, _, rfl⟩
theorem slU_parts {u : TV} (h : slU u) : ∃ yk yn yt yo ya a1 n1 d1 a2 n2 d2, u = (⟨yk, yn, yt, yo, ya⟩, .slice a1 n1 d1, .slice a2 n2 d2) := by
  obtain ⟨⟨yk, yn, yt, yo, ya⟩, uk, ut⟩ := u
  obtain ⟨⟨a1, n1, d1, e1⟩, a2, n2, d2, e2⟩ := h
  simp only at e1 e2
  subst e1 e2
  exact ⟨yk, yn, yt, yo, ya, a1, n1, d1, a2, n2, d2, rfl⟩
/-- The world in which kids begins to read. -/
def wK (kd : Int) (w : World) : World := (w.alloc zO).alloc (.cells #[.int .i64 kd, .int .i64 0, .string ⟨#[]⟩, .int .i64 0, .int .i64 0, .slice none 0 0, .slice none 0 0] 29)
theorem kids_start {mp : Bool} {p k m : Nat} {w : World} {s : ByteArray} (h : PB w p s k m 0 0) : Pl p (w.heap.size + 1) w.heap.size (w.heap.size + 2) w ∧ Bm mp p (w.heap.size + 1) w.heap.size (w.heap.size + 2) w ([], []) (.slice none 0 0) (.slice none 0 0) [] (wK (cx mp).k w) ∧ PB (wK (cx mp).k w) p s k m 0 0 := by
  have hp := h.lt
  have b1 : Below w.heap.size w (w.alloc zO) := (Below.refl _ _).alloc (Nat.le_refl _) _
  have b2 : Below (w.heap.size + 1) (w.alloc zO) (wK (cx mp).k w) := (Below.refl _ _).alloc (by rw [sz_new]; omega) _
  have bb : Below w.heap.size w (wK (cx mp).k w) := b1.trans (b2.mono (by omega))
  have hsz : (wK (cx mp).k w).heap.size = w.heap.size + 2 := by unfold wK; rw [sz_new, sz_new]
  refine ⟨⟨hp, ⟨by omega, by omega⟩, ⟨by omega, by omega⟩, by omega⟩, ⟨⟨Rk.of bb, ?_, ?_⟩, by omega, by simp, by simp, World.ownsRow_nil _ _ _ _, World.ownsRow_nil _ _ _ _, ⟨rfl, fun i h => absurd h (Nat.not_lt_zero _)⟩⟩, h.below bb⟩
  · rw [b2.block _ (by omega)]
    exact one_new w zO
  · have h1 := one_new (w.alloc zO) (.cells #[.int .i64 (cx mp).k, .int .i64 0, .string ⟨#[]⟩, .int .i64 0, .int .i64 0, .slice none 0 0, .slice none 0 0] 29)
    rw [sz_new] at h1
    exact h1
end Go.Proofs.YtnmdhbejjjmdeaaGreatDoor
