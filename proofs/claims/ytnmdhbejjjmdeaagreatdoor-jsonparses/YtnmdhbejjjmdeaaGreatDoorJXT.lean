/-
  What is proved: json's reader reads a map, and a list, or throws a fault.
  Conditions: trees that stand farther on are read, or a fault is thrown.
-/
import Derived.Test.YtnmdhbejjjmdeaaGreatDoorJXC3
import Derived.Laws.EntriesVeiled
namespace Go.Proofs.YtnmdhbejjjmdeaaGreatDoor
open Go.RowKit Go.Sort

/-- What reading a map or a list leaves. -/
def ReadP (n : Nat) (mp : Bool) (p : Nat) (s : ByteArray) (k m : Nat) (w : World) (e : Ending) (w' : World) : Prop :=
  (∃ (x : Sg) (kk mm : Nat) (u : TV), rdFrom (rdT n s) mp s ⟨#[c1 mp]⟩ (s.size + 1) true ([], []) k m = .ok (x, kk + 1) ∧ mm = m + sizes x.2 ∧ mm ≤ 400 ∧ k ≤ kk ∧ kk + 1 ≤ s.size ∧ e = .returned (tval u) ∧ IsTP (fun b => w.heap.size ≤ b) w' (tval u) (.node (cx mp) x.1 x.2) ∧ RB w' p s (kk + 1) mm ∧ Rk p w w') ∨
  (∃ v, e = .panicked [{ v := v, recovered := false }] ∧ (∃ (kf : Nat) (fe : Int), v = faultV kf fe ∧ rdFrom (rdT n s) mp s ⟨#[c1 mp]⟩ (s.size + 1) true ([], []) k m = .error (kf, fe)) ∧ Rk p w w')
theorem ch_size {R : Nat → Nat → Rs (JT × Nat)} {mp : Bool} {s en : ByteArray} {k0 m0 : Nat} : ∀ (n : Nat) (x : Sg) (k m : Nat), Ch s en (NxX R mp s) ([], []) k0 m0 n x k m → m = m0 + sizes x.2 ∧ k0 ≤ k
  | 0, x, k, m, h => by
    obtain ⟨rfl, rfl, rfl⟩ := h
    exact ⟨by simp [sizes], Nat.le_refl _⟩
  | n + 1, x, k, m, h => by
    obtain ⟨x1, k1, m1, h1, _, h3⟩ := h
    obtain ⟨g1, g2⟩ := ch_size n x1 k1 m1 h1
    rcases h3 with ⟨_, key, T, _, h5, _, rfl, rfl⟩ | ⟨_, _, key, T, _, h5, _, rfl, rfl⟩
    · exact ⟨by rw [sizes_append, g1]; simp [sizes]; omega, by omega⟩
    · exact ⟨by rw [sizes_append, g1]; simp [sizes]; omega, by omega⟩
/-- What is to be shown of the function that reads one thing. -/
theorem one_of {n : Nat} {mp : Bool} {s : ByteArray} {p bt br B : Nat} {w0 : World} {k0 : Nat} {f : FuncId} {lb : Array Value} (hp : Pl p bt br B w0)
    (h : ∀ (x : Sg) k m w, Jx mp s p bt br B w0 k0 x k m w → Calls Tryz.prog f lb w fun e w' => OneP n mp s p bt br B w0 k0 x k m e w') : One p s f lb (Jx mp s p bt br B w0 k0) (fun w' => Rk p w0 w') (NxX (rdT n s) mp s) (BxX (rdT n s) mp s) := by
  refine ⟨?_, ?_, ?_, ?_⟩
  · rintro x k m w ⟨_, vk, vt, us, hb⟩
    exact ⟨hb.rb, hb.le⟩
  · rintro x k m w w' k' ⟨h1, vk, vt, us, hb⟩ h2 h3 h4 h5
    exact ⟨h1, vk, vt, us, hb.move hp h2 h3 h4 (Nat.le_refl _) hb.few h5⟩
  · rintro x k m w w' ⟨_, vk, vt, us, hb⟩ h5
    exact hb.rk.trans h5
  · intro x k m w hJ
    exact h x k m w hJ
/-- The world in which things begin to be read. -/
def wR (w : World) (p : Nat) : World := (w.alloc (.cells #[.pointer (some ⟨p, 0, none⟩)] 61)).alloc zO
def wS (mp : Bool) (w : World) (p : Nat) : World := (wR w p).alloc (.cells #[.int .i64 (cx mp).k, .int .i64 0, .string ⟨#[]⟩, .int .i64 0, .int .i64 0, .slice none 0 0, .slice none 0 0] 29)
theorem wR_size (w : World) (p : Nat) : (wR w p).heap.size = w.heap.size + 2 := by unfold wR; rw [sz_new, sz_new]
theorem wR_below (w : World) (p : Nat) : Below w.heap.size w (wR w p) := ((Below.refl _ _).alloc (Nat.le_refl _) _).alloc (by rw [sz_new]; omega) _
theorem wS_below (mp : Bool) (w : World) (p : Nat) : Below (wR w p).heap.size (wR w p) (wS mp w p) := (Below.refl _ _).alloc (Nat.le_refl _) _
theorem jx_start {mp : Bool} {s : ByteArray} {p k m : Nat} {w : World} (h : RB w p s k m) (hk : k ≤ s.size) (hm : m ≤ 400) : Pl p (w.heap.size + 2) w.heap.size (w.heap.size + 3) (wR w p) ∧ Jx mp s p (w.heap.size + 2) w.heap.size (w.heap.size + 3) (wR w p) k ([], []) k m (wS mp w p) := by
  have hp := h.lt
  have hz := wR_size w p
  refine ⟨⟨by omega, ⟨by omega, by omega⟩, ⟨by omega, by omega⟩, by omega⟩, Nat.le_refl _, .slice none 0 0, .slice none 0 0, [], ?_⟩
  have hsz : (wS mp w p).heap.size = w.heap.size + 3 := by unfold wS; rw [sz_new, hz]
  refine ⟨(h.below (wR_below w p)).below (wS_below mp w p), Nat.le_refl _, hk, hm, by simp [sizes], by simp, Rk.of (wS_below mp w p), by omega, ?_, ?_, World.ownsRow_nil _ _ _ _, World.ownsRow_nil _ _ _ _, ⟨rfl, fun i h => absurd h (Nat.not_lt_zero _)⟩⟩
  · rw [(wS_below mp w p).block _ (by omega)]
    exact (two_new w _ _).2
  · have h1 := one_new (wR w p) (.cells #[.int .i64 (cx mp).k, .int .i64 0, .string ⟨#[]⟩, .int .i64 0, .int .i64 0, .slice none 0 0, .slice none 0 0] 29)
    rw [hz] at h1
    exact h1

set_option maxRecDepth 100000 in
set_option maxHeartbeats 8000000 in
theorem readList_any {s : ByteArray} {p : Nat} {wv : World} {n : Nat} (hT : TreeC wv p s n) (hwv : wv.heap.size ≤ p) (hs : s.size ≤ 60000) (k m : Nat) (w : World) (hn : s.size - k < n) (h : RB w p s k m) (hk : k ≤ s.size) (hm : m ≤ 400) (hb : Below wv.heap.size wv w) :
    Calls Tryz.prog 22 #[.pointer (some ⟨p, 0, none⟩)] w fun e w' => ReadP n false p s k m w e w' := by
  obtain ⟨hpl, hJ⟩ := jx_start (mp := false) h hk hm
  have hb0 : Below wv.heap.size wv (wR w p) := hb.trans ((wR_below w p).mono hb.size)
  have eg : ∀ args w, (callFunc 43 args).run Tryz.prog w = .ok (.enter 43 args) w := enters_of Tryz.func43 (by kernel_rfl) rfl
  have ER0 := row_any p s ⟨#[93]⟩ 43 #[.pointer (some ⟨w.heap.size + 2, 0, none⟩), .pointer (some ⟨w.heap.size, 0, none⟩)] (Jx false s p (w.heap.size + 2) w.heap.size (w.heap.size + 3) (wR w p) k) (fun w' => Rk p (wR w p) w') (NxX (rdT n s) false s) (BxX (rdT n s) false s) ([], []) k m (wS false w p) eg
    (one_of hpl (fun x k' m' w' hj => list1_any hpl hT hn hwv hb0 x k' m' w' hj)) hs rfl hJ
  obtain ⟨RWP, hRWP⟩ : ∃ RWP : Ending → World → Prop, RWP = fun e w' => RowsP s ⟨#[93]⟩ (Jx false s p (w.heap.size + 2) w.heap.size (w.heap.size + 3) (wR w p) k) (fun w' => Rk p (wR w p) w') (NxX (rdT n s) false s) (BxX (rdT n s) false s) ([], []) k m e w' := ⟨_, rfl⟩
  have ER : Calls Tryz.prog 39 #[.pointer (some ⟨p, 0, none⟩), .string ⟨#[93]⟩, .func (Fn.func 43) #[] #[.pointer (some ⟨w.heap.size + 2, 0, none⟩), .pointer (some ⟨w.heap.size, 0, none⟩)]] (wS false w p) RWP := by rw [hRWP]; exact ER0
  have HRWP : Hid (RWP = fun e w' => RowsP s ⟨#[93]⟩ (Jx false s p (w.heap.size + 2) w.heap.size (w.heap.size + 3) (wR w p) k) (fun w' => Rk p (wR w p) w') (NxX (rdT n s) false s) (BxX (rdT n s) false s) ([], []) k m e w') := hRWP
  obtain ⟨post, hpost⟩ : ∃ post, post = ReadP n false p s k m w := ⟨_, rfl⟩
  rw [← hpost]
  have HPO : Hid (post = ReadP n false p s k m w) := hpost
  have HWR : Hid (Rk p w (wR w p) ∧ (wR w p).heap.size = w.heap.size + 2 ∧ (wR w p).heap[w.heap.size + 1]? = some zO ∧ p < w.heap.size) := ⟨Rk.of (wR_below w p), wR_size w p, (two_new w _ _).1, h.lt⟩
  have HK0 : Hid (k ≤ s.size) := hk
  clear hpost hT hwv hs hn h hk hm hb hb0 hpl hJ eg hRWP ER0
  unfold wS wR zO cx at ER
  simp only [Bool.false_eq_true, if_false] at ER
  go_enter Tryz.func22, Tryz.ntmps22
  go_wp2_with fail
  refine Calls.mono ER ?_
  rintro e w3 hR
  clear ER
  rw [HRWP.out] at hR
  rcases hR with ⟨nn, x, kk, mm, hch, hpre, rfl, hJ⟩ | ⟨nn, x, kk, mm, v, hch, hpre, rfl, hbx, hQ⟩
  rotate_left
  · have HEND : Hid (post (.panicked [{ v := v, recovered := false }]) w3) := by
      show post _ _
      rw [HPO.out]
      obtain ⟨kf, fe, rfl, hr9⟩ := from_bad hch hpre HK0.out hbx
      exact Or.inr ⟨_, rfl, ⟨kf, fe, rfl, hr9⟩, HWR.out.1.trans hQ⟩
    clear hch hpre hbx hQ
    go_wp2
    exact ⟨rfl, HEND.out⟩
  have hfo := from_ok hch hpre HK0.out
  have hcs := ch_size nn x kk mm hch
  obtain ⟨_, vk, vt, us, hBo⟩ := hJ
  obtain ⟨ta, tn, tc, rfl⟩ : ∃ ta tn tc, vt = .slice ta tn tc := by
    rcases own_rowB hBo.ts with ⟨e, h0⟩ | ⟨g, cap, e, _⟩
    · exact ⟨none, 0, 0, e⟩
    · exact ⟨_, _, _, e⟩
  obtain ⟨ka, kn, kc, rfl⟩ : ∃ ka kn kc, vk = .slice ka kn kc := by
    rcases hBo.ks.2 with ⟨e, h0⟩ | ⟨g, cap, cur, e, _⟩
    · exact ⟨none, 0, 0, e⟩
    · exact ⟨_, _, _, e⟩
  have hz2 : w3.heap[w.heap.size + 1]? = some zO := by
    rw [hBo.rk.block _ (by have := HWR.out; omega) (by have := HWR.out; omega)]
    exact HWR.out.2.2.1
  unfold zO at hz2
  have HF : Hid (_ = some _) := set7 hz2 (.int .i64 6) (.int .i64 0) (.string ⟨#[]⟩) (.int .i64 0) (.int .i64 0) (.slice ka kn kc) (.slice ta tn tc)
  have HEND : Hid (post (.returned (tval (cx false, .slice ka kn kc, .slice ta tn tc))) (((((((w3.setCell ⟨w.heap.size + 1, 0, none⟩ (.int .i64 6)).setCell ⟨w.heap.size + 1, 1, none⟩ (.int .i64 0)).setCell ⟨w.heap.size + 1, 2, none⟩ (.string ⟨#[]⟩)).setCell ⟨w.heap.size + 1, 3, none⟩ (.int .i64 0)).setCell ⟨w.heap.size + 1, 4, none⟩ (.int .i64 0)).setCell ⟨w.heap.size + 1, 5, none⟩ (.slice ka kn kc)).setCell ⟨w.heap.size + 1, 6, none⟩ (.slice ta tn tc))) := by
    show post _ _
    rw [HPO.out]
    have hbl : Below (w.heap.size + 1) w3 (((((((w3.setCell ⟨w.heap.size + 1, 0, none⟩ (.int .i64 6)).setCell ⟨w.heap.size + 1, 1, none⟩ (.int .i64 0)).setCell ⟨w.heap.size + 1, 2, none⟩ (.string ⟨#[]⟩)).setCell ⟨w.heap.size + 1, 3, none⟩ (.int .i64 0)).setCell ⟨w.heap.size + 1, 4, none⟩ (.int .i64 0)).setCell ⟨w.heap.size + 1, 5, none⟩ (.slice ka kn kc)).setCell ⟨w.heap.size + 1, 6, none⟩ (.slice ta tn tc)) := set7_below (Below.refl _ _) (Nat.le_refl _) (.int .i64 6) (.int .i64 0) (.string ⟨#[]⟩) (.int .i64 0) (.int .i64 0) (.slice ka kn kc) (.slice ta tn tc)
    have hot : ∀ b, b ≠ w.heap.size + 1 → b < w3.heap.size → ((((((((w3.setCell ⟨w.heap.size + 1, 0, none⟩ (.int .i64 6)).setCell ⟨w.heap.size + 1, 1, none⟩ (.int .i64 0)).setCell ⟨w.heap.size + 1, 2, none⟩ (.string ⟨#[]⟩)).setCell ⟨w.heap.size + 1, 3, none⟩ (.int .i64 0)).setCell ⟨w.heap.size + 1, 4, none⟩ (.int .i64 0)).setCell ⟨w.heap.size + 1, 5, none⟩ (.slice ka kn kc)).setCell ⟨w.heap.size + 1, 6, none⟩ (.slice ta tn tc))).heap[b]? = w3.heap[b]? := fun b hb hlt => by
      have h9 : w3.heap[b]? = some w3.heap[b] := Array.getElem?_eq_getElem hlt
      rw [h9]
      exact set7_other h9 hb (.int .i64 6) (.int .i64 0) (.string ⟨#[]⟩) (.int .i64 0) (.int .i64 0) (.slice ka kn kc) (.slice ta tn tc)
    refine Or.inl ⟨x, kk, mm, _, hfo, hcs.1, hBo.few, hcs.2, hBo.le, rfl, ?_, (hot p (by have := HWR.out; omega) hBo.rb.lt).trans hBo.rb, ?_⟩
    · have hal : AllT (fun b => w.heap.size + 3 ≤ b) w3 us x.2 := hBo.al.stay (Nat.le_refl _) (fun b hb _ => ⟨rfl, hb.1⟩)
      have hl := hBo.lens
      have h1 : IsTP (fun b => w.heap.size + 3 ≤ b) w3 (tval (cx false, .slice ka kn kc, .slice ta tn tc)) (.node (cx false) x.1 x.2) := tree_of hBo.ks hBo.ts hal (by omega) (by omega) (fun b hb => hb)
      exact h1.move hbl.size (fun b hb hlt => hot b (by omega) hlt) (fun b hb => by omega)
    · have R := HWR.out.1.trans hBo.rk
      exact ⟨hbl.os.trans R.os, hbl.tape.trans R.tape, hbl.output.trans R.output, Nat.le_trans R.size hbl.size, fun b h1 h2 => (hbl.block b (by omega)).trans (R.block b h1 h2)⟩
  have hbt := hBo.ht
  unfold cx at hbt
  simp only [Bool.false_eq_true, if_false] at hbt
  have b0 : w3.cell? ⟨w.heap.size + 2, 0, none⟩ = some (.int .i64 6) := Lib.cell_of_heap hbt 0
  have b1 : w3.cell? ⟨w.heap.size + 2, 1, none⟩ = some (.int .i64 0) := Lib.cell_of_heap hbt 1
  have b2 : w3.cell? ⟨w.heap.size + 2, 2, none⟩ = some (.string ⟨#[]⟩) := Lib.cell_of_heap hbt 2
  have b3 : w3.cell? ⟨w.heap.size + 2, 3, none⟩ = some (.int .i64 0) := Lib.cell_of_heap hbt 3
  have b4 : w3.cell? ⟨w.heap.size + 2, 4, none⟩ = some (.int .i64 0) := Lib.cell_of_heap hbt 4
  have b5 : w3.cell? ⟨w.heap.size + 2, 5, none⟩ = some (.slice ka kn kc) := Lib.cell_of_heap hbt 5
  have b6 : w3.cell? ⟨w.heap.size + 2, 6, none⟩ = some (.slice ta tn tc) := Lib.cell_of_heap hbt 6
  have r0 : w3.cell? ⟨w.heap.size + 1, 0, none⟩ = some (.int .i64 0) := Lib.cell_of_heap hz2 0
  have r1 : w3.cell? ⟨w.heap.size + 1, 1, none⟩ = some (.int .i64 0) := Lib.cell_of_heap hz2 1
  have r2 : w3.cell? ⟨w.heap.size + 1, 2, none⟩ = some (.string ⟨#[]⟩) := Lib.cell_of_heap hz2 2
  have r3 : w3.cell? ⟨w.heap.size + 1, 3, none⟩ = some (.int .i64 0) := Lib.cell_of_heap hz2 3
  have r4 : w3.cell? ⟨w.heap.size + 1, 4, none⟩ = some (.int .i64 0) := Lib.cell_of_heap hz2 4
  have r5 : w3.cell? ⟨w.heap.size + 1, 5, none⟩ = some (.slice none 0 0) := Lib.cell_of_heap hz2 5
  have r6 : w3.cell? ⟨w.heap.size + 1, 6, none⟩ = some (.slice none 0 0) := Lib.cell_of_heap hz2 6
  have zf := Lib.frozen_of_heap hz2
  clear hBo hfo hcs hch hpre hbt hz2
  go_wp2_with fail
  clear b0 b1 b2 b3 b4 b5 b6 r0 r1 r2 r3 r4 r5 r6 zf
  generalize (((((((w3.setCell ⟨w.heap.size + 1, 0, none⟩ (.int .i64 6)).setCell ⟨w.heap.size + 1, 1, none⟩ (.int .i64 0)).setCell ⟨w.heap.size + 1, 2, none⟩ (.string ⟨#[]⟩)).setCell ⟨w.heap.size + 1, 3, none⟩ (.int .i64 0)).setCell ⟨w.heap.size + 1, 4, none⟩ (.int .i64 0)).setCell ⟨w.heap.size + 1, 5, none⟩ (.slice ka kn kc)).setCell ⟨w.heap.size + 1, 6, none⟩ (.slice ta tn tc)) = W at *
  have q0 : W.cell? ⟨w.heap.size + 1, 0, none⟩ = some (.int .i64 6) := Lib.cell_of_heap HF.out 0
  have q1 : W.cell? ⟨w.heap.size + 1, 1, none⟩ = some (.int .i64 0) := Lib.cell_of_heap HF.out 1
  have q2 : W.cell? ⟨w.heap.size + 1, 2, none⟩ = some (.string ⟨#[]⟩) := Lib.cell_of_heap HF.out 2
  have q3 : W.cell? ⟨w.heap.size + 1, 3, none⟩ = some (.int .i64 0) := Lib.cell_of_heap HF.out 3
  have q4 : W.cell? ⟨w.heap.size + 1, 4, none⟩ = some (.int .i64 0) := Lib.cell_of_heap HF.out 4
  have q5 : W.cell? ⟨w.heap.size + 1, 5, none⟩ = some (.slice ka kn kc) := Lib.cell_of_heap HF.out 5
  have q6 : W.cell? ⟨w.heap.size + 1, 6, none⟩ = some (.slice ta tn tc) := Lib.cell_of_heap HF.out 6
  exact bodyPost_ret (v := tval (cx false, .slice ka kn kc, .slice ta tn tc)) (by simp [tval, cx, results, Tryz.results22, go_sem, q0, q1, q2, q3, q4, q5, q6]) rfl HEND.out
set_option maxRecDepth 100000 in
set_option maxHeartbeats 8000000 in
theorem readMap_any {s : ByteArray} {p : Nat} {wv : World} {n : Nat} (hT : TreeC wv p s n) (hwv : wv.heap.size ≤ p) (hs : s.size ≤ 60000) (k m : Nat) (w : World) (hn : s.size - k < n) (h : RB w p s k m) (hk : k ≤ s.size) (hm : m ≤ 400) (hb : Below wv.heap.size wv w) :
    Calls Tryz.prog 21 #[.pointer (some ⟨p, 0, none⟩)] w fun e w' => ReadP n true p s k m w e w' := by
  obtain ⟨hpl, hJ⟩ := jx_start (mp := true) h hk hm
  have hb0 : Below wv.heap.size wv (wR w p) := hb.trans ((wR_below w p).mono hb.size)
  have eg : ∀ args w, (callFunc 40 args).run Tryz.prog w = .ok (.enter 40 args) w := enters_of Tryz.func40 (by kernel_rfl) rfl
  have ER0 := row_any p s ⟨#[125]⟩ 40 #[.pointer (some ⟨w.heap.size + 2, 0, none⟩), .pointer (some ⟨w.heap.size, 0, none⟩)] (Jx true s p (w.heap.size + 2) w.heap.size (w.heap.size + 3) (wR w p) k) (fun w' => Rk p (wR w p) w') (NxX (rdT n s) true s) (BxX (rdT n s) true s) ([], []) k m (wS true w p) eg
    (one_of hpl (fun x k' m' w' hj => map1_any hpl hT hn hwv hb0 hs x k' m' w' hj)) hs rfl hJ
  obtain ⟨RWP, hRWP⟩ : ∃ RWP : Ending → World → Prop, RWP = fun e w' => RowsP s ⟨#[125]⟩ (Jx true s p (w.heap.size + 2) w.heap.size (w.heap.size + 3) (wR w p) k) (fun w' => Rk p (wR w p) w') (NxX (rdT n s) true s) (BxX (rdT n s) true s) ([], []) k m e w' := ⟨_, rfl⟩
  have ER : Calls Tryz.prog 39 #[.pointer (some ⟨p, 0, none⟩), .string ⟨#[125]⟩, .func (Fn.func 40) #[] #[.pointer (some ⟨w.heap.size + 2, 0, none⟩), .pointer (some ⟨w.heap.size, 0, none⟩)]] (wS true w p) RWP := by rw [hRWP]; exact ER0
  have HRWP : Hid (RWP = fun e w' => RowsP s ⟨#[125]⟩ (Jx true s p (w.heap.size + 2) w.heap.size (w.heap.size + 3) (wR w p) k) (fun w' => Rk p (wR w p) w') (NxX (rdT n s) true s) (BxX (rdT n s) true s) ([], []) k m e w') := hRWP
  obtain ⟨post, hpost⟩ : ∃ post, post = ReadP n true p s k m w := ⟨_, rfl⟩
  rw [← hpost]
  have HPO : Hid (post = ReadP n true p s k m w) := hpost
  have HWR : Hid (Rk p w (wR w p) ∧ (wR w p).heap.size = w.heap.size + 2 ∧ (wR w p).heap[w.heap.size + 1]? = some zO ∧ p < w.heap.size) := ⟨Rk.of (wR_below w p), wR_size w p, (two_new w _ _).1, h.lt⟩
  have HK0 : Hid (k ≤ s.size) := hk
  clear hpost hT hwv hs hn h hk hm hb hb0 hpl hJ eg hRWP ER0
  unfold wS wR zO cx at ER
  simp only [if_true] at ER
  go_enter Tryz.func21, Tryz.ntmps21
  go_wp2_with fail
  refine Calls.mono ER ?_
  rintro e w3 hR
  clear ER
  rw [HRWP.out] at hR
  rcases hR with ⟨nn, x, kk, mm, hch, hpre, rfl, hJ⟩ | ⟨nn, x, kk, mm, v, hch, hpre, rfl, hbx, hQ⟩
  rotate_left
  · have HEND : Hid (post (.panicked [{ v := v, recovered := false }]) w3) := by
      show post _ _
      rw [HPO.out]
      obtain ⟨kf, fe, rfl, hr9⟩ := from_bad hch hpre HK0.out hbx
      exact Or.inr ⟨_, rfl, ⟨kf, fe, rfl, hr9⟩, HWR.out.1.trans hQ⟩
    clear hch hpre hbx hQ
    go_wp2
    exact ⟨rfl, HEND.out⟩
  have hfo := from_ok hch hpre HK0.out
  have hcs := ch_size nn x kk mm hch
  obtain ⟨_, vk, vt, us, hBo⟩ := hJ
  obtain ⟨ta, tn, tc, rfl⟩ : ∃ ta tn tc, vt = .slice ta tn tc := by
    rcases own_rowB hBo.ts with ⟨e, h0⟩ | ⟨g, cap, e, _⟩
    · exact ⟨none, 0, 0, e⟩
    · exact ⟨_, _, _, e⟩
  obtain ⟨ka, kn, kc, rfl⟩ : ∃ ka kn kc, vk = .slice ka kn kc := by
    rcases hBo.ks.2 with ⟨e, h0⟩ | ⟨g, cap, cur, e, _⟩
    · exact ⟨none, 0, 0, e⟩
    · exact ⟨_, _, _, e⟩
  have hz2 : w3.heap[w.heap.size + 1]? = some zO := by
    rw [hBo.rk.block _ (by have := HWR.out; omega) (by have := HWR.out; omega)]
    exact HWR.out.2.2.1
  unfold zO at hz2
  have HF : Hid (_ = some _) := set7 hz2 (.int .i64 5) (.int .i64 0) (.string ⟨#[]⟩) (.int .i64 0) (.int .i64 0) (.slice ka kn kc) (.slice ta tn tc)
  have HEND : Hid (post (.returned (tval (cx true, .slice ka kn kc, .slice ta tn tc))) (((((((w3.setCell ⟨w.heap.size + 1, 0, none⟩ (.int .i64 5)).setCell ⟨w.heap.size + 1, 1, none⟩ (.int .i64 0)).setCell ⟨w.heap.size + 1, 2, none⟩ (.string ⟨#[]⟩)).setCell ⟨w.heap.size + 1, 3, none⟩ (.int .i64 0)).setCell ⟨w.heap.size + 1, 4, none⟩ (.int .i64 0)).setCell ⟨w.heap.size + 1, 5, none⟩ (.slice ka kn kc)).setCell ⟨w.heap.size + 1, 6, none⟩ (.slice ta tn tc))) := by
    show post _ _
    rw [HPO.out]
    have hbl : Below (w.heap.size + 1) w3 (((((((w3.setCell ⟨w.heap.size + 1, 0, none⟩ (.int .i64 5)).setCell ⟨w.heap.size + 1, 1, none⟩ (.int .i64 0)).setCell ⟨w.heap.size + 1, 2, none⟩ (.string ⟨#[]⟩)).setCell ⟨w.heap.size + 1, 3, none⟩ (.int .i64 0)).setCell ⟨w.heap.size + 1, 4, none⟩ (.int .i64 0)).setCell ⟨w.heap.size + 1, 5, none⟩ (.slice ka kn kc)).setCell ⟨w.heap.size + 1, 6, none⟩ (.slice ta tn tc)) := set7_below (Below.refl _ _) (Nat.le_refl _) (.int .i64 5) (.int .i64 0) (.string ⟨#[]⟩) (.int .i64 0) (.int .i64 0) (.slice ka kn kc) (.slice ta tn tc)
    have hot : ∀ b, b ≠ w.heap.size + 1 → b < w3.heap.size → ((((((((w3.setCell ⟨w.heap.size + 1, 0, none⟩ (.int .i64 5)).setCell ⟨w.heap.size + 1, 1, none⟩ (.int .i64 0)).setCell ⟨w.heap.size + 1, 2, none⟩ (.string ⟨#[]⟩)).setCell ⟨w.heap.size + 1, 3, none⟩ (.int .i64 0)).setCell ⟨w.heap.size + 1, 4, none⟩ (.int .i64 0)).setCell ⟨w.heap.size + 1, 5, none⟩ (.slice ka kn kc)).setCell ⟨w.heap.size + 1, 6, none⟩ (.slice ta tn tc))).heap[b]? = w3.heap[b]? := fun b hb hlt => by
      have h9 : w3.heap[b]? = some w3.heap[b] := Array.getElem?_eq_getElem hlt
      rw [h9]
      exact set7_other h9 hb (.int .i64 5) (.int .i64 0) (.string ⟨#[]⟩) (.int .i64 0) (.int .i64 0) (.slice ka kn kc) (.slice ta tn tc)
    refine Or.inl ⟨x, kk, mm, _, hfo, hcs.1, hBo.few, hcs.2, hBo.le, rfl, ?_, (hot p (by have := HWR.out; omega) hBo.rb.lt).trans hBo.rb, ?_⟩
    · have hal : AllT (fun b => w.heap.size + 3 ≤ b) w3 us x.2 := hBo.al.stay (Nat.le_refl _) (fun b hb _ => ⟨rfl, hb.1⟩)
      have hl := hBo.lens
      have h1 : IsTP (fun b => w.heap.size + 3 ≤ b) w3 (tval (cx true, .slice ka kn kc, .slice ta tn tc)) (.node (cx true) x.1 x.2) := tree_of hBo.ks hBo.ts hal (by omega) (by omega) (fun b hb => hb)
      exact h1.move hbl.size (fun b hb hlt => hot b (by omega) hlt) (fun b hb => by omega)
    · have R := HWR.out.1.trans hBo.rk
      exact ⟨hbl.os.trans R.os, hbl.tape.trans R.tape, hbl.output.trans R.output, Nat.le_trans R.size hbl.size, fun b h1 h2 => (hbl.block b (by omega)).trans (R.block b h1 h2)⟩
  have hbt := hBo.ht
  unfold cx at hbt
  simp only [if_true] at hbt
  have b0 : w3.cell? ⟨w.heap.size + 2, 0, none⟩ = some (.int .i64 5) := Lib.cell_of_heap hbt 0
  have b1 : w3.cell? ⟨w.heap.size + 2, 1, none⟩ = some (.int .i64 0) := Lib.cell_of_heap hbt 1
  have b2 : w3.cell? ⟨w.heap.size + 2, 2, none⟩ = some (.string ⟨#[]⟩) := Lib.cell_of_heap hbt 2
  have b3 : w3.cell? ⟨w.heap.size + 2, 3, none⟩ = some (.int .i64 0) := Lib.cell_of_heap hbt 3
  have b4 : w3.cell? ⟨w.heap.size + 2, 4, none⟩ = some (.int .i64 0) := Lib.cell_of_heap hbt 4
  have b5 : w3.cell? ⟨w.heap.size + 2, 5, none⟩ = some (.slice ka kn kc) := Lib.cell_of_heap hbt 5
  have b6 : w3.cell? ⟨w.heap.size + 2, 6, none⟩ = some (.slice ta tn tc) := Lib.cell_of_heap hbt 6
  have r0 : w3.cell? ⟨w.heap.size + 1, 0, none⟩ = some (.int .i64 0) := Lib.cell_of_heap hz2 0
  have r1 : w3.cell? ⟨w.heap.size + 1, 1, none⟩ = some (.int .i64 0) := Lib.cell_of_heap hz2 1
  have r2 : w3.cell? ⟨w.heap.size + 1, 2, none⟩ = some (.string ⟨#[]⟩) := Lib.cell_of_heap hz2 2
  have r3 : w3.cell? ⟨w.heap.size + 1, 3, none⟩ = some (.int .i64 0) := Lib.cell_of_heap hz2 3
  have r4 : w3.cell? ⟨w.heap.size + 1, 4, none⟩ = some (.int .i64 0) := Lib.cell_of_heap hz2 4
  have r5 : w3.cell? ⟨w.heap.size + 1, 5, none⟩ = some (.slice none 0 0) := Lib.cell_of_heap hz2 5
  have r6 : w3.cell? ⟨w.heap.size + 1, 6, none⟩ = some (.slice none 0 0) := Lib.cell_of_heap hz2 6
  have zf := Lib.frozen_of_heap hz2
  clear hBo hfo hcs hch hpre hbt hz2
  go_wp2_with fail
  clear b0 b1 b2 b3 b4 b5 b6 r0 r1 r2 r3 r4 r5 r6 zf
  generalize (((((((w3.setCell ⟨w.heap.size + 1, 0, none⟩ (.int .i64 5)).setCell ⟨w.heap.size + 1, 1, none⟩ (.int .i64 0)).setCell ⟨w.heap.size + 1, 2, none⟩ (.string ⟨#[]⟩)).setCell ⟨w.heap.size + 1, 3, none⟩ (.int .i64 0)).setCell ⟨w.heap.size + 1, 4, none⟩ (.int .i64 0)).setCell ⟨w.heap.size + 1, 5, none⟩ (.slice ka kn kc)).setCell ⟨w.heap.size + 1, 6, none⟩ (.slice ta tn tc)) = W at *
  have q0 : W.cell? ⟨w.heap.size + 1, 0, none⟩ = some (.int .i64 5) := Lib.cell_of_heap HF.out 0
  have q1 : W.cell? ⟨w.heap.size + 1, 1, none⟩ = some (.int .i64 0) := Lib.cell_of_heap HF.out 1
  have q2 : W.cell? ⟨w.heap.size + 1, 2, none⟩ = some (.string ⟨#[]⟩) := Lib.cell_of_heap HF.out 2
  have q3 : W.cell? ⟨w.heap.size + 1, 3, none⟩ = some (.int .i64 0) := Lib.cell_of_heap HF.out 3
  have q4 : W.cell? ⟨w.heap.size + 1, 4, none⟩ = some (.int .i64 0) := Lib.cell_of_heap HF.out 4
  have q5 : W.cell? ⟨w.heap.size + 1, 5, none⟩ = some (.slice ka kn kc) := Lib.cell_of_heap HF.out 5
  have q6 : W.cell? ⟨w.heap.size + 1, 6, none⟩ = some (.slice ta tn tc) := Lib.cell_of_heap HF.out 6
  exact bodyPost_ret (v := tval (cx true, .slice ka kn kc, .slice ta tn tc)) (by simp [tval, cx, results, Tryz.results21, go_sem, q0, q1, q2, q3, q4, q5, q6]) rfl HEND.out
end Go.Proofs.YtnmdhbejjjmdeaaGreatDoor
