/-
  What is proved: how a tree's text that stands somewhere begins, by the tree's kind, and what a plain value's tree is.
  Conditions: as each theorem says.
-/
import Derived.Test.YtnoikdlofkcgaaaGreatDoorJRdT
namespace Go.Proofs.YtnoikdlofkcgaaaGreatDoor
open Go.RowKit Go.Sort

theorem dig_same (c : UInt8) : digS.data.toList.contains c = digB c := by
  have h : ∀ n : Fin 256, digS.data.toList.contains (UInt8.ofNat n.val) = digB (UInt8.ofNat n.val) := by decide +kernel
  have h1 := h ⟨c.toNat, c.toNat_lt⟩
  simpa using h1
theorem dgs_app {a r : List UInt8} (ha : ∀ c ∈ a, digB c = true) (hr : bnd r) : dgs (a ++ r) = a := by
  unfold dgs
  rw [List.takeWhile_append_of_pos (fun c hc => by rw [dig_same]; exact ha c hc)]
  cases r with
  | nil => simp
  | cons c t =>
    have h := hr c rfl
    rw [List.takeWhile_cons_of_neg (by rw [dig_same, h]; decide), List.append_nil]
theorem dgs_lft (s : ByteArray) (k : Nat) : lft s k = dgs (lft s k) ++ lft s (k + (dgs (lft s k)).length) ∧ bnd (lft s (k + (dgs (lft s k)).length)) := by
  have h := dgs_split (lft s k)
  have h2 : lft s (k + (dgs (lft s k)).length) = Lib.trimLeftS (lft s k) digS.data.toList := by
    rw [lft_add]
    have h3 := congrArg (List.drop (dgs (lft s k)).length) h
    rw [List.drop_left' rfl] at h3
    exact h3.symm
  refine ⟨by rw [h2]; exact h.symm, ?_⟩
  rw [h2]
  intro c hc
  have h4 : (lft s k).dropWhile (digS.data.toList.contains ·) = Lib.trimLeftS (lft s k) digS.data.toList := rfl
  rw [← h4] at hc
  have h5 := List.head?_dropWhile_not (digS.data.toList.contains ·) (lft s k)
  rw [Option.mem_def.1 hc] at h5
  have h6 : (digS.data.toList.contains c) = false := by simpa using h5
  rw [← dig_same]
  exact h6
/-- The tree of a plain value. -/
def lfT (x : V) : JT := .node x [] []
theorem leaf_fits {s : ByteArray} {k k' m : Nat} {x : V} (hv : valB x = true) (hr : -9223372036854775808 ≤ x.n ∧ x.n ≤ 9223372036854775807) (h5 : x.k ≠ 5) (h6 : x.k ≠ 6) (hm : m + 1 ≤ 400) (ht : lft s k = showV x ++ lft s k') (hb : x.k = 2 → bnd (lft s k')) : Fits false [] m (lft s k) ⟨#[]⟩ (lfT x) (lft s k') ∧ (lfT x).size = 1 := by
  have hs : (lfT x).size = 1 := by unfold lfT; rw [size_node]; rfl
  refine ⟨⟨⟨?_, trivial, ?_, by omega⟩, (fun e => nomatch e), ?_, hb⟩, hs⟩
  · rw [formed_iff]
    unfold lfT
    rw [node_ts]
    refine ⟨?_, fun t ht => nomatch ht⟩
    show nodeB x [] 0 = true
    unfold nodeB
    rw [if_neg h5, if_neg h6, hv]
    rfl
  · exact (rngT_node _ _ _).2 ⟨hr, fun t ht => nomatch ht⟩
  · rw [ht]
    unfold thT lfT
    rw [txtT_node]
    unfold wrapT
    rw [if_neg h5, if_neg h6]
    rfl
/-- A tree that stands there begins as its kind does. -/
theorem fits_head {s : ByteArray} {k m : Nat} {key : ByteArray} {T : JT} {r : List UInt8} (h : Fits false [] m (lft s k) key T r) : ∃ c t, lft s k = c :: t ∧ headOf T.x c ∧ lft s k = txtT T ++ r := by
  have ht : lft s k = txtT T ++ r := by rw [h.text]; rfl
  obtain ⟨c, t, e1, hc⟩ := txt_head h.gd.formed
  exact ⟨c, t ++ r, by rw [ht, e1]; rfl, hc, ht⟩
theorem fits_plain {s : ByteArray} {k m : Nat} {key : ByteArray} {T : JT} {r : List UInt8} (h : Fits false [] m (lft s k) key T r) (h5 : T.x.k ≠ 5) (h6 : T.x.k ≠ 6) : lft s k = showV T.x ++ r := by
  obtain ⟨c, t, _, _, h3⟩ := fits_head h
  rw [h3, txtT_eq]
  unfold wrapT
  rw [if_neg h5, if_neg h6]
theorem no_few {s : ByteArray} {k m : Nat} (hm : m = 400) (T : JT) (r : List UInt8) : ¬ Fits false [] m (lft s k) ⟨#[]⟩ T r := fun h => by
  have := h.gd.few
  have := size_pos T
  omega
theorem no_text {s : ByteArray} {k m : Nat} {c : List UInt8} (hl : lft s k = 34 :: c) (hq : qtd 60 (lft s k) = none) (T : JT) (r : List UInt8) : ¬ Fits false [] m (lft s k) ⟨#[]⟩ T r := fun h => by
  obtain ⟨d, t, e1, hd, _⟩ := fits_head h
  have hk : T.x.k = 3 := by
    rw [hl] at e1
    obtain rfl := (List.cons.inj e1).1
    exact head_one hd (v' := ⟨3, 0, ⟨#[]⟩, 0, 0⟩) (Or.inr (Or.inr (Or.inr (Or.inl ⟨rfl, rfl⟩))))
  have hp := fits_plain h (by omega) (by omega)
  unfold showV at hp
  rw [if_neg (by omega), if_neg (by omega), if_pos hk] at hp
  have hv := formed_val h.gd.formed
  have hsz : T.x.t.data.toList.length ≤ 60 := by
    unfold valB okB usedB at hv
    rw [if_neg (by omega), if_neg (by omega), if_pos hk] at hv
    simp only [Bool.and_eq_true, decide_eq_true_eq] at hv
    have h9 := hv.1.1
    rw [Array.length_toList]
    have e9 : T.x.t.size = T.x.t.data.size := rfl
    omega
  have hq2 := qtd_quote (most := 60) (rest := r) hsz
  rw [← hp, hq] at hq2
  cases hq2
theorem no_number {s : ByteArray} {k m : Nat} (hd : dgs (lft s k) ≠ []) (hno : ∀ n : Int, -9223372036854775808 ≤ n ∧ n ≤ 9223372036854775807 → Lib.itoa n ≠ dgs (lft s k)) (T : JT) (r : List UInt8) : ¬ Fits false [] m (lft s k) ⟨#[]⟩ T r := fun h => by
  obtain ⟨c, t, e1, hc, _⟩ := fits_head h
  have hdc : digB c = true := by
    cases hcc : digB c with
    | true => rfl
    | false =>
      exfalso
      apply hd
      rw [e1]
      unfold dgs
      rw [List.takeWhile_cons_of_neg (by rw [dig_same, hcc]; decide)]
  have hk : T.x.k = 2 := head_one hc (v' := ⟨2, 0, ⟨#[]⟩, 0, 0⟩) (Or.inr (Or.inr (Or.inl ⟨rfl, hdc⟩)))
  have hp := fits_plain h (by omega) (by omega)
  unfold showV at hp
  rw [if_neg (by omega), if_pos (Or.inl hk)] at hp
  have h1 := dgs_app (itoa_dig T.x.n) (h.bd hk)
  rw [← hp] at h1
  exact hno T.x.n ((rngT_eq T).1 h.gd.rng).1 h1.symm
theorem pre_app {s : ByteArray} {k : Nat} {q : ByteArray} {r : List UInt8} (h : lft s k = q.data.toList ++ r) : preB s k q = true := by
  unfold preB
  rw [h]
  simp [Lib.hasPrefix]
theorem no_word {s : ByteArray} {k m : Nat} (h1 : preB s k ⟨#[123]⟩ = false) (h2 : preB s k ⟨#[91]⟩ = false) (h3 : preB s k ⟨#[34]⟩ = false) (h4 : dgs (lft s k) = []) (h5 : preB s k wNil = false) (h6 : preB s k wNo = false) (h7 : preB s k wYes = false) (T : JT) (r : List UInt8) : ¬ Fits false [] m (lft s k) ⟨#[]⟩ T r := fun h => by
  obtain ⟨c, t, e1, hc, _⟩ := fits_head h
  have hv := val_parts (formed_val h.gd.formed)
  have hhead : ∀ d, c = d → preB s k ⟨#[d]⟩ = true := fun d e => pre_of (by rw [e1, e])
  rcases hc with ⟨e, g⟩ | ⟨e, g⟩ | ⟨e, g⟩ | ⟨e, g⟩ | ⟨e, g⟩ | ⟨e, g⟩
  · have hp := fits_plain h (by omega) (by omega)
    unfold showV at hp
    rw [if_neg (by omega), if_neg (by omega), if_neg (by omega)] at hp
    rw [pre_app (q := wNil) (r := r) hp] at h5
    cases h5
  · have hp := fits_plain h (by omega) (by omega)
    unfold showV at hp
    rw [if_pos e] at hp
    by_cases hn : T.x.n = 1
    · rw [if_pos hn] at hp
      rw [pre_app (q := wYes) (r := r) hp] at h7
      cases h7
    · rw [if_neg hn] at hp
      rw [pre_app (q := wNo) (r := r) hp] at h6
      cases h6
  · rw [e1] at h4
    unfold dgs at h4
    rw [List.takeWhile_cons_of_pos (by rw [dig_same]; exact g)] at h4
    cases h4
  · rw [hhead 34 g] at h3; cases h3
  · rw [hhead 123 g] at h1; cases h1
  · rw [hhead 91 g] at h2; cases h2
theorem pre_split {s : ByteArray} {k : Nat} {q : ByteArray} (h : preB s k q = true) : lft s k = q.data.toList ++ lft s (k + q.size) := by
  unfold preB Lib.hasPrefix at h
  obtain ⟨r, hr⟩ := List.isPrefixOf_iff_prefix.1 h
  rw [lft_add, ← hr]
  congr 1
  have e : q.size = q.data.toList.length := by rw [Array.length_toList]; rfl
  rw [e, List.drop_left' rfl]
theorem pre_fit {s : ByteArray} {k : Nat} {q : ByteArray} (h : preB s k q = true) (hk : k ≤ s.size) : k + q.size ≤ s.size := by
  have h1 := congrArg List.length (pre_split h)
  rw [List.length_append] at h1
  have h3 : ∀ j, (lft s j).length = s.size - j := fun j => by
    unfold lft
    rw [List.length_drop, Array.length_toList]
    rfl
  rw [h3, h3] at h1
  have e : q.size = q.data.toList.length := by rw [Array.length_toList]; rfl
  omega
/-- What stays while a tree is read. -/
structure Ti (w : World) (p : Nat) (s : ByteArray) (k m : Nat) (w' : World) : Prop where
  rb : RB w' p s k m
  rk : Rk p w w'
  box : w'.heap[w.heap.size]? = some zO
theorem Ti.move {w : World} {p : Nat} {s : ByteArray} {k m k' m' : Nat} {w' w'' : World} (h : Ti w p s k m w') (hp : p < w.heap.size) (hr : RB w'' p s k' m') (hb : Rk p w' w'') : Ti w p s k' m' w'' :=
  ⟨hr, h.rk.trans hb, (hb.block _ (lt_of_heap h.box) (by omega)).trans h.box⟩
theorem Ti.size {w : World} {p : Nat} {s : ByteArray} {k m : Nat} {w' : World} (h : Ti w p s k m w') : w.heap.size + 1 ≤ w'.heap.size := lt_of_heap h.box
theorem tr_end {w w4 : World} {p : Nat} {s : ByteArray} {k m : Nat} {T : JT} {yk yn yo ya : Int} {yt : ByteArray} {a1 a2 : Option Addr} {n1 c1 n2 c2 : Nat} (hp : p < w.heap.size) (h : Ti w p s k m w4) (hI : IsTP (fun b => w.heap.size + 1 ≤ b) w4 (tval (⟨yk, yn, yt, yo, ya⟩, .slice a1 n1 c1, .slice a2 n2 c2)) T) :
    IsTP (fun b => w.heap.size ≤ b) (((((((w4.setCell ⟨w.heap.size, 0, none⟩ (.int .i64 yk)).setCell ⟨w.heap.size, 1, none⟩ (.int .i64 yn)).setCell ⟨w.heap.size, 2, none⟩ (.string yt)).setCell ⟨w.heap.size, 3, none⟩ (.int .i64 yo)).setCell ⟨w.heap.size, 4, none⟩ (.int .i64 ya)).setCell ⟨w.heap.size, 5, none⟩ (.slice a1 n1 c1)).setCell ⟨w.heap.size, 6, none⟩ (.slice a2 n2 c2)) (tval (⟨yk, yn, yt, yo, ya⟩, .slice a1 n1 c1, .slice a2 n2 c2)) T ∧
    RB (((((((w4.setCell ⟨w.heap.size, 0, none⟩ (.int .i64 yk)).setCell ⟨w.heap.size, 1, none⟩ (.int .i64 yn)).setCell ⟨w.heap.size, 2, none⟩ (.string yt)).setCell ⟨w.heap.size, 3, none⟩ (.int .i64 yo)).setCell ⟨w.heap.size, 4, none⟩ (.int .i64 ya)).setCell ⟨w.heap.size, 5, none⟩ (.slice a1 n1 c1)).setCell ⟨w.heap.size, 6, none⟩ (.slice a2 n2 c2)) p s k m ∧
    Rk p w (((((((w4.setCell ⟨w.heap.size, 0, none⟩ (.int .i64 yk)).setCell ⟨w.heap.size, 1, none⟩ (.int .i64 yn)).setCell ⟨w.heap.size, 2, none⟩ (.string yt)).setCell ⟨w.heap.size, 3, none⟩ (.int .i64 yo)).setCell ⟨w.heap.size, 4, none⟩ (.int .i64 ya)).setCell ⟨w.heap.size, 5, none⟩ (.slice a1 n1 c1)).setCell ⟨w.heap.size, 6, none⟩ (.slice a2 n2 c2)) := by
  have hbl := set7_below (g := w.heap.size) (Below.refl w.heap.size w4) (Nat.le_refl _) (.int .i64 yk) (.int .i64 yn) (.string yt) (.int .i64 yo) (.int .i64 ya) (.slice a1 n1 c1) (.slice a2 n2 c2)
  have hot : ∀ b, b ≠ w.heap.size → b < w4.heap.size → (((((((w4.setCell ⟨w.heap.size, 0, none⟩ (.int .i64 yk)).setCell ⟨w.heap.size, 1, none⟩ (.int .i64 yn)).setCell ⟨w.heap.size, 2, none⟩ (.string yt)).setCell ⟨w.heap.size, 3, none⟩ (.int .i64 yo)).setCell ⟨w.heap.size, 4, none⟩ (.int .i64 ya)).setCell ⟨w.heap.size, 5, none⟩ (.slice a1 n1 c1)).setCell ⟨w.heap.size, 6, none⟩ (.slice a2 n2 c2)).heap[b]? = w4.heap[b]? := fun b hb hlt => by
    have h9 : w4.heap[b]? = some w4.heap[b] := Array.getElem?_eq_getElem hlt
    rw [h9]
    exact set7_other h9 hb _ _ _ _ _ _ _
  generalize (((((((w4.setCell ⟨w.heap.size, 0, none⟩ (.int .i64 yk)).setCell ⟨w.heap.size, 1, none⟩ (.int .i64 yn)).setCell ⟨w.heap.size, 2, none⟩ (.string yt)).setCell ⟨w.heap.size, 3, none⟩ (.int .i64 yo)).setCell ⟨w.heap.size, 4, none⟩ (.int .i64 ya)).setCell ⟨w.heap.size, 5, none⟩ (.slice a1 n1 c1)).setCell ⟨w.heap.size, 6, none⟩ (.slice a2 n2 c2)) = X at hbl hot ⊢
  refine ⟨hI.move hbl.size (fun b hb hlt => hot b (by omega) hlt) (fun b hb => by omega), (hot p (by omega) h.rb.lt).trans h.rb, ?_⟩
  have R := h.rk
  exact ⟨hbl.os.trans R.os, hbl.tape.trans R.tape, hbl.output.trans R.output, Nat.le_trans R.size hbl.size, fun b h1 h2 => (hbl.block b (by omega)).trans (R.block b h1 h2)⟩
end Go.Proofs.YtnoikdlofkcgaaaGreatDoor
