/-
  What is proved: what comes of the reference's disk in a crash, round by round.
  Conditions: as each theorem says.
-/
import Derived.Test.YtcdpcjafomfddaaDoorQDoM
import Derived.Test.YtcdpcjafomfddaaDoorEK
namespace Go.Proofs.YtcdpcjafomfddaaDoor
open Go.RowKit Go.Maps Go.Sort Go.Shelf

/-- How many bytes a crash leaves of a file of the reference. -/
def lftV (k : Int) (q : FV) : Nat := q.2.2 + min (max k 0).toNat (q.2.1.length - q.2.2)
/-- What it leaves of a safe name's file. -/
def crB (k : Int) (fs : List FV) (y : Tx × Nat) : Tx × Nat := match fs[y.2]? with | some q => (q.2.1.take (lftV k q), lftV k q) | none => ([], 0)
/-- The names then. -/
def crN (L : Nat) (Y : List (Tx × Nat)) : List (Tx × Nat) := Y.zipIdx.map fun z => (z.1.1, L + z.2)

theorem crN_snoc (L : Nat) (Y : List (Tx × Nat)) (y : Tx × Nat) : crN L (Y ++ [y]) = crN L Y ++ [(y.1, L + Y.length)] := by
  unfold crN
  rw [List.zipIdx_append, List.map_append]
  simp
theorem crN_len (L : Nat) (Y : List (Tx × Nat)) : (crN L Y).length = Y.length := by unfold crN; simp
theorem crB_of {k : Int} {fs : List FV} {y : Tx × Nat} {q : FV} (h : fs[y.2]? = some q) : crB k fs y = (q.2.1.take (lftV k q), lftV k q) := by unfold crB; rw [h]

/-- Between two rounds. -/
structure CrK (T : Nat → Prop) (w : World) (p : Nat) (fs : List FV) (N Y : List (Tx × Nat)) (n st : Int) (vn vy : Value) (B : Obj) (NM : List (Tx × Nat)) (E : List FV) (v : Value) (wr : World) : Prop where
  kp : Kp T w wr
  box : ∃ vf, wr.heap[p]? = some (.cells #[vf, vn, vy, .int .i64 n, .int .i64 st] 30) ∧ RowFs vf (fs ++ E) wr ∧ ∀ b, vf.ownBlock = some b → T b
  rn : RowN vn N wr
  ry : RowN vy Y wr
  fi : ∀ q ∈ fs ++ E, Row 0 q.1 q.2.1 wr ∧ q.2.1.length ≤ 60000 ∧ q.2.2 ≤ q.2.1.length ∧ (∀ b, q.1.ownBlock = some b → T b)
  nam : RowN v NM wr
  own : ∀ b, v.ownBlock = some b → w.heap.size ≤ b
  wb : wr.heap[w.heap.size]? = some B

variable {T : Nat → Prop} {w wr w' : World} {p : Nat} {fs : List FV} {N Y : List (Tx × Nat)} {n st : Int} {vn vy : Value} {B : Obj} {NM : List (Tx × Nat)} {E : List FV} {v : Value}

theorem CrK.keep (h : CrK T w p fs N Y n st vn vy B NM E v wr) (hb : Below wr.heap.size wr w') : CrK T w p fs N Y n st vn vy B NM E v w' := by
  obtain ⟨vf, h1, h2, h3⟩ := h.box
  exact ⟨h.kp.trans (Kp.of hb), ⟨vf, (hb.block p (lt_of_heap h1)).trans h1, own_below h2 hb (Nat.le_refl _), h3⟩, own_below h.rn hb (Nat.le_refl _), own_below h.ry hb (Nat.le_refl _), fun q hq => have z := h.fi q hq; ⟨own_below z.1 hb (Nat.le_refl _), z.2⟩, own_below h.nam hb (Nat.le_refl _), h.own, (hb.block _ (lt_of_heap h.wb)).trans h.wb⟩

theorem cut_len {k : Int} {j : Nat} (h : E.map (·.2) = (Y.take j).map (crB k fs)) (hj : j ≤ Y.length) : E.length = j := by
  have := congrArg List.length h
  rw [List.length_map, List.length_map, List.length_take] at this
  omega

/-- A file more: the row of files has grown, the box is set. -/
theorem CrK.file (h : CrK T w p fs N Y n st vn vy B NM E v wr) {BC : Array Value} (hB : B = .cells BC 36) (hTT : ∀ k, w.heap.size ≤ k → T k) {vf : Value} (hbx : wr.heap[p]? = some (.cells #[vf, vn, vy, .int .i64 n, .int .i64 st] 30)) (R1 : RowFs vf (fs ++ E) wr) (t1 : ∀ b, vf.ownBlock = some b → T b) (tp : T p) {q : FV} {v5 : Value} {w5 : World}
    (q2 : RowFs v5 (fs ++ (E ++ [q])) w5) (q3 : (wr.alloc (.cells #[q.1, .int .i64 q.2.2] 74)).grownBy w5 vf.ownBlock) (q4 : v5.ownBlock = vf.ownBlock ∨ v5.ownBlock = some (wr.alloc (.cells #[q.1, .int .i64 q.2.2] 74)).heap.size) (hq : Row 0 q.1 q.2.1 wr ∧ q.2.1.length ≤ 60000 ∧ q.2.2 ≤ q.2.1.length ∧ (∀ b, q.1.ownBlock = some b → T b)) :
    w5.heap[p]? = some (.cells #[vf, vn, vy, .int .i64 n, .int .i64 st] 30) ∧ CrK T w p fs N Y n st vn vy B NM (E ++ [q]) v (w5.setCell ⟨p, 0, none⟩ v5) := by
  have ba : Below wr.heap.size wr (wr.alloc (.cells #[q.1, .int .i64 q.2.2] 74)) := (Below.refl _ _).alloc (Nat.le_refl _) _
  have hsame : ∀ k, k < wr.heap.size → vf.ownBlock ≠ some k → w5.heap[k]? = wr.heap[k]? := fun k hk hne => (q3.block k (Nat.lt_of_lt_of_le hk ba.size) (fun e => hne e.symm)).trans (ba.block k hk)
  have hnb : ∀ {k : Nat} {cs : Array Value} {U : TypeId}, wr.heap[k]? = some (.cells cs U) → U ≠ 74 → w5.heap[k]? = some (.cells cs U) := fun {k cs U} e hU => (hsame k (lt_of_heap e) (fun e1 => by
    obtain ⟨_, e2⟩ := own_block R1 e1
    exact cells_ne e e2 hU rfl)).trans e
  have rowk : ∀ {e sz mm : Nat} {v : Value} {xs : List Value}, wr.ownsRow 0 e sz v mm xs → e ≠ 74 → w5.ownsRow 0 e sz v mm xs := fun h hU => own_at h (fun b hb => by
    obtain ⟨_, e2⟩ := own_block h hb
    rw [hnb e2 hU, e2])
  have bx5 := hnb hbx (by decide)
  have hwb := h.wb
  rw [hB] at hwb
  have wb5 := hnb hwb (by decide)
  have hsz : w.heap.size ≤ wr.heap.size := h.kp.size
  refine ⟨bx5, ((h.kp.alloc _).grown q3 (fun k e => t1 k e)).set 0 _ tp, ⟨v5, by rw [heap_setCell_same w5 p 0 _ _ _ bx5]; rfl, row_setP q2 bx5 (by decide), fun b e => ?_⟩, row_setP (rowk h.rn (by decide)) bx5 (by decide), row_setP (rowk h.ry (by decide)) bx5 (by decide), fun z hz => ?_, row_setP (rowk h.nam (by decide)) bx5 (by decide), h.own, ?_⟩
  · rcases q4 with h1 | h1
    · exact t1 b (h1.symm.trans e)
    · rw [e] at h1; rw [Option.some.inj h1]; exact hTT _ (Nat.le_trans hsz ba.size)
  · rw [← List.append_assoc] at hz
    rcases List.mem_append.1 hz with hz | hz
    · have y := h.fi z hz; exact ⟨row_setP (rowk y.1 (by decide)) bx5 (by decide), y.2⟩
    · rw [List.mem_singleton.1 hz]; exact ⟨row_setP (rowk hq.1 (by decide)) bx5 (by decide), hq.2⟩
  · rw [Below.heap_setCell _ _ _ _ (cells_ne wb5 bx5 (by decide)), hB]; exact wb5

/-- A name more. -/
theorem CrK.name (h : CrK T w p fs N Y n st vn vy B NM E v wr) {BC : Array Value} (hB : B = .cells BC 36) (hTT : ∀ k, w.heap.size ≤ k → T k) (hv : (∀ b, vn.ownBlock = some b → b < w.heap.size) ∧ (∀ b, vy.ownBlock = some b → b < w.heap.size)) {o : Obj} {v5 : Value} {w5 : World} {NM' : List (Tx × Nat)}
    (q2 : RowN v5 NM' w5) (q3 : (wr.alloc o).grownBy w5 v.ownBlock) (q4 : v5.ownBlock = v.ownBlock ∨ v5.ownBlock = some (wr.alloc o).heap.size) : w5.heap[p]? = wr.heap[p]? ∧ CrK T w p fs N Y n st vn vy B NM' E v5 w5 := by
  have ba : Below wr.heap.size wr (wr.alloc o) := (Below.refl _ _).alloc (Nat.le_refl _) _
  have hsame : ∀ k, k < wr.heap.size → v.ownBlock ≠ some k → w5.heap[k]? = wr.heap[k]? := fun k hk hne => (q3.block k (Nat.lt_of_lt_of_le hk ba.size) (fun e => hne e.symm)).trans (ba.block k hk)
  have hnb : ∀ {k : Nat} {cs : Array Value} {U : TypeId}, wr.heap[k]? = some (.cells cs U) → U ≠ 64 → w5.heap[k]? = some (.cells cs U) := fun {k cs U} e hU => (hsame k (lt_of_heap e) (fun e1 => by
    obtain ⟨_, e2⟩ := own_block h.nam e1
    exact cells_ne e e2 hU rfl)).trans e
  have rowk : ∀ {e sz mm : Nat} {v : Value} {xs : List Value}, wr.ownsRow 0 e sz v mm xs → e ≠ 64 → w5.ownsRow 0 e sz v mm xs := fun h hU => own_at h (fun b hb => by
    obtain ⟨_, e2⟩ := own_block h hb
    rw [hnb e2 hU, e2])
  have rowo : ∀ {u : Value} {l : List (Tx × Nat)}, RowN u l wr → (∀ b, u.ownBlock = some b → b < w.heap.size) → RowN u l w5 := fun hr hl => own_at hr (fun b hb => hsame b (own_lt hr hb) (fun e => by have := hl b hb; have := h.own b e; omega))
  obtain ⟨vf, hbx, R1, t1⟩ := h.box
  have hwb := h.wb
  rw [hB] at hwb
  have hsz : w.heap.size ≤ wr.heap.size := h.kp.size
  refine ⟨by rw [hnb hbx (by decide), hbx], (h.kp.alloc o).grown q3 (fun k e => hTT k (h.own k e)), ⟨vf, hnb hbx (by decide), rowk R1 (by decide), t1⟩, rowo h.rn hv.1, rowo h.ry hv.2, fun q hq => have z := h.fi q hq; ⟨rowk z.1 (by decide), z.2⟩, q2, fun b e => ?_, by rw [hB]; exact hnb hwb (by decide)⟩
  rcases q4 with h1 | h1
  · exact h.own b (h1.symm.trans e)
  · rw [e] at h1; rw [Option.some.inj h1]; exact Nat.le_trans hsz ba.size

def fin7 (w : World) (p : Nat) (v : Value) : World := (((w.setCell ⟨p, 1, none⟩ v).setCell ⟨p, 2, none⟩ v).setCell ⟨p, 3, none⟩ (.int .i64 0)).setCell ⟨p, 4, none⟩ (.int .i64 (-1))

theorem fin7_box {a b c d e v : Value} {U : TypeId} (h : w.heap[p]? = some (.cells #[a, b, c, d, e] U)) :
    (w.setCell ⟨p, 1, none⟩ v).heap[p]? = some (.cells #[a, v, c, d, e] U) ∧ ((w.setCell ⟨p, 1, none⟩ v).setCell ⟨p, 2, none⟩ v).heap[p]? = some (.cells #[a, v, v, d, e] U) ∧ (((w.setCell ⟨p, 1, none⟩ v).setCell ⟨p, 2, none⟩ v).setCell ⟨p, 3, none⟩ (.int .i64 0)).heap[p]? = some (.cells #[a, v, v, .int .i64 0, e] U) ∧ (fin7 w p v).heap[p]? = some (.cells #[a, v, v, .int .i64 0, .int .i64 (-1)] U) := by
  have h1 := heap_setCell_same w p 1 _ _ v h
  have h2 := heap_setCell_same _ p 2 _ _ v h1
  have h3 := heap_setCell_same _ p 3 _ _ (.int .i64 0) h2
  have h4 := heap_setCell_same _ p 4 _ _ (.int .i64 (-1)) h3
  exact ⟨h1, h2, h3, h4⟩

theorem CrK.fin (h : CrK T w p fs N Y n st vn vy B NM E v wr) {vf : Value} (hbx : wr.heap[p]? = some (.cells #[vf, vn, vy, .int .i64 n, .int .i64 st] 30)) (R1 : RowFs vf (fs ++ E) wr) (t1 : ∀ b, vf.ownBlock = some b → T b) (tp : T p) (hTT : ∀ k, w.heap.size ≤ k → T k) (hN : ∀ q ∈ NM, q.2 < (fs ++ E).length) :
    Kp T w (fin7 wr p v) ∧ Rk T (fin7 wr p v) p (fs ++ E) NM NM 0 (-1) := by
  have ho : ∀ z, z ≠ p → (fin7 wr p v).heap[z]? = wr.heap[z]? := fun z hz => by
    unfold fin7
    rw [Below.heap_setCell _ _ _ _ hz, Below.heap_setCell _ _ _ _ hz, Below.heap_setCell _ _ _ _ hz, Below.heap_setCell _ _ _ _ hz]
  have rowk : ∀ {e sz mm : Nat} {v' : Value} {xs : List Value}, wr.ownsRow 0 e sz v' mm xs → e ≠ 30 → (fin7 wr p v).ownsRow 0 e sz v' mm xs := fun hr hU => own_at hr (fun b hb => ho b (by
    obtain ⟨_, e2⟩ := own_block hr hb
    exact cells_ne e2 hbx hU))
  refine ⟨?_, ⟨vf, v, v, (fin7_box hbx).2.2.2, rowk R1 (by decide), rowk h.nam (by decide), rowk h.nam (by decide), t1, fun b e => hTT b (h.own b e), fun b e => hTT b (h.own b e)⟩, fun q hq => have z := h.fi q hq; ⟨rowk z.1 (by decide), z.2⟩, hN, hN, tp⟩
  unfold fin7
  exact (((h.kp.set 1 _ tp).set 2 _ tp).set 3 _ tp).set 4 _ tp

theorem crN_lt {L M : Nat} {Y : List (Tx × Nat)} (h : L + Y.length ≤ M) : ∀ q ∈ crN L Y, q.2 < M := by
  intro q hq
  unfold crN at hq
  obtain ⟨z, hz, rfl⟩ := List.mem_map.1 hq
  have := List.snd_lt_of_mem_zipIdx hz
  show L + z.2 < M
  omega
end Go.Proofs.YtcdpcjafomfddaaDoor
