/-
  What is proved: json's reader reads the tree that stands where it stands, or throws a fault, and of which kind and where.
  Conditions: the reader lies in its box, and stands within its text; package variables lie as the text lays them.
-/
import Derived.Test.YtnmdhbejjjmdeaaGreatDoorJXT
namespace Go.Proofs.YtnmdhbejjjmdeaaGreatDoor
open Go.RowKit Go.Sort

/-- The tree of a plain value. -/
def lfT (x : V) : JT := .node x [] []
theorem pre_split {s : ByteArray} {k : Nat} {q : ByteArray} (h : preB s k q = true) : lft s k = q.data.toList ++ lft s (k + q.size) := by
  unfold preB Lib.hasPrefix at h
  obtain ⟨r, hr⟩ := List.isPrefixOf_iff_prefix.1 h
  rw [lft_add, ← hr]
  congr 1
  have e : q.size = q.data.toList.length := by rw [Array.length_toList]; rfl
  rw [e, List.drop_left' rfl]
theorem pre_fit {s : ByteArray} {k : Nat} {q : ByteArray} (h : preB s k q = true) (hk : k ≤ s.size) : k + q.size ≤ s.size := by
  have h1 := congrArg List.length (pre_split h)
  rw [List.length_append] at h1
  have h3 : ∀ j, (lft s j).length = s.size - j := fun j => by
    unfold lft
    rw [List.length_drop, Array.length_toList]
    rfl
  rw [h3, h3] at h1
  have e : q.size = q.data.toList.length := by rw [Array.length_toList]; rfl
  omega
/-- What stays while a tree is read. -/
structure Ti (w : World) (p : Nat) (s : ByteArray) (k m : Nat) (w' : World) : Prop where
  rb : RB w' p s k m
  rk : Rk p w w'
  box : w'.heap[w.heap.size]? = some zO
theorem Ti.move {w : World} {p : Nat} {s : ByteArray} {k m k' m' : Nat} {w' w'' : World} (h : Ti w p s k m w') (hp : p < w.heap.size) (hr : RB w'' p s k' m') (hb : Rk p w' w'') : Ti w p s k' m' w'' :=
  ⟨hr, h.rk.trans hb, (hb.block _ (lt_of_heap h.box) (by omega)).trans h.box⟩
theorem Ti.size {w : World} {p : Nat} {s : ByteArray} {k m : Nat} {w' : World} (h : Ti w p s k m w') : w.heap.size + 1 ≤ w'.heap.size := lt_of_heap h.box
theorem tr_end {w w4 : World} {p : Nat} {s : ByteArray} {k m : Nat} {T : JT} {yk yn yo ya : Int} {yt : ByteArray} {a1 a2 : Option Addr} {n1 c1 n2 c2 : Nat} (hp : p < w.heap.size) (h : Ti w p s k m w4) (hI : IsTP (fun b => w.heap.size + 1 ≤ b) w4 (tval (⟨yk, yn, yt, yo, ya⟩, .slice a1 n1 c1, .slice a2 n2 c2)) T) :
    IsTP (fun b => w.heap.size ≤ b) (((((((w4.setCell ⟨w.heap.size, 0, none⟩ (.int .i64 yk)).setCell ⟨w.heap.size, 1, none⟩ (.int .i64 yn)).setCell ⟨w.heap.size, 2, none⟩ (.string yt)).setCell ⟨w.heap.size, 3, none⟩ (.int .i64 yo)).setCell ⟨w.heap.size, 4, none⟩ (.int .i64 ya)).setCell ⟨w.heap.size, 5, none⟩ (.slice a1 n1 c1)).setCell ⟨w.heap.size, 6, none⟩ (.slice a2 n2 c2)) (tval (⟨yk, yn, yt, yo, ya⟩, .slice a1 n1 c1, .slice a2 n2 c2)) T ∧
    RB (((((((w4.setCell ⟨w.heap.size, 0, none⟩ (.int .i64 yk)).setCell ⟨w.heap.size, 1, none⟩ (.int .i64 yn)).setCell ⟨w.heap.size, 2, none⟩ (.string yt)).setCell ⟨w.heap.size, 3, none⟩ (.int .i64 yo)).setCell ⟨w.heap.size, 4, none⟩ (.int .i64 ya)).setCell ⟨w.heap.size, 5, none⟩ (.slice a1 n1 c1)).setCell ⟨w.heap.size, 6, none⟩ (.slice a2 n2 c2)) p s k m ∧
    Rk p w (((((((w4.setCell ⟨w.heap.size, 0, none⟩ (.int .i64 yk)).setCell ⟨w.heap.size, 1, none⟩ (.int .i64 yn)).setCell ⟨w.heap.size, 2, none⟩ (.string yt)).setCell ⟨w.heap.size, 3, none⟩ (.int .i64 yo)).setCell ⟨w.heap.size, 4, none⟩ (.int .i64 ya)).setCell ⟨w.heap.size, 5, none⟩ (.slice a1 n1 c1)).setCell ⟨w.heap.size, 6, none⟩ (.slice a2 n2 c2)) := by
  have hbl := set7_below (g := w.heap.size) (Below.refl w.heap.size w4) (Nat.le_refl _) (.int .i64 yk) (.int .i64 yn) (.string yt) (.int .i64 yo) (.int .i64 ya) (.slice a1 n1 c1) (.slice a2 n2 c2)
  have hot : ∀ b, b ≠ w.heap.size → b < w4.heap.size → (((((((w4.setCell ⟨w.heap.size, 0, none⟩ (.int .i64 yk)).setCell ⟨w.heap.size, 1, none⟩ (.int .i64 yn)).setCell ⟨w.heap.size, 2, none⟩ (.string yt)).setCell ⟨w.heap.size, 3, none⟩ (.int .i64 yo)).setCell ⟨w.heap.size, 4, none⟩ (.int .i64 ya)).setCell ⟨w.heap.size, 5, none⟩ (.slice a1 n1 c1)).setCell ⟨w.heap.size, 6, none⟩ (.slice a2 n2 c2)).heap[b]? = w4.heap[b]? := fun b hb hlt => by
    have h9 : w4.heap[b]? = some w4.heap[b] := Array.getElem?_eq_getElem hlt
    rw [h9]
    exact set7_other h9 hb _ _ _ _ _ _ _
  generalize (((((((w4.setCell ⟨w.heap.size, 0, none⟩ (.int .i64 yk)).setCell ⟨w.heap.size, 1, none⟩ (.int .i64 yn)).setCell ⟨w.heap.size, 2, none⟩ (.string yt)).setCell ⟨w.heap.size, 3, none⟩ (.int .i64 yo)).setCell ⟨w.heap.size, 4, none⟩ (.int .i64 ya)).setCell ⟨w.heap.size, 5, none⟩ (.slice a1 n1 c1)).setCell ⟨w.heap.size, 6, none⟩ (.slice a2 n2 c2)) = X at hbl hot ⊢
  refine ⟨hI.move hbl.size (fun b hb hlt => hot b (by omega) hlt) (fun b hb => by omega), (hot p (by omega) h.rb.lt).trans h.rb, ?_⟩
  have R := h.rk
  exact ⟨hbl.os.trans R.os, hbl.tape.trans R.tape, hbl.output.trans R.output, Nat.le_trans R.size hbl.size, fun b h1 h2 => (hbl.block b (by omega)).trans (R.block b h1 h2)⟩
theorem fx_of {n : Nat} {s : ByteArray} {k m k' : Nat} {x : V} (h : rdT n s k m = .ok (lfT x, k')) (hm : m + 1 ≤ 400) : FX n s k m (lfT x) k' ∧ (lfT x).size = 1 := by
  have hs : (lfT x).size = 1 := by unfold lfT; rw [size_node]; rfl
  exact ⟨⟨h, ⟨by omega⟩⟩, hs⟩
section
variable {n k m : Nat} {s : ByteArray}
theorem rd_full (h : m = 400) : rdT (n + 1) s k m = .error (k, 4) := by rw [rdT, if_pos h]
theorem rd_map (hm : m + 1 ≤ 400) (h1 : preB s k ⟨#[123]⟩ = true) {r : Rs (Sg × Nat)} (h : rdFrom (rdT n s) true s ⟨#[c1 true]⟩ (s.size + 1) true ([], []) (k + 1) (m + 1) = r) : rdT (n + 1) s k m = r.map fun x => (.node (cx true) x.1.1 x.1.2, x.2) := by
  rw [rdT, if_neg (by omega), if_pos h1, ← h]
  rfl
theorem rd_list (hm : m + 1 ≤ 400) (h1 : preB s k ⟨#[123]⟩ = false) (h2 : preB s k ⟨#[91]⟩ = true) {r : Rs (Sg × Nat)} (h : rdFrom (rdT n s) false s ⟨#[c1 false]⟩ (s.size + 1) true ([], []) (k + 1) (m + 1) = r) : rdT (n + 1) s k m = r.map fun x => (.node (cx false) x.1.1 x.1.2, x.2) := by
  rw [rdT, if_neg (by omega), if_neg (by rw [h1]; decide), if_pos h2, ← h]
  rfl
theorem rd_text (hm : m + 1 ≤ 400) (h1 : preB s k ⟨#[123]⟩ = false) (h2 : preB s k ⟨#[91]⟩ = false) (h3 : preB s k ⟨#[34]⟩ = true) {t : List UInt8} {n6 : Nat} (h : qtd 60 (lft s k) = some (t, n6)) : rdT (n + 1) s k m = .ok (lfT ⟨3, 0, ⟨t.toArray⟩, 0, 0⟩, k + n6) := by
  rw [rdT, if_neg (by omega), if_neg (by rw [h1]; decide), if_neg (by rw [h2]; decide), if_pos h3, h]
  rfl
theorem rd_text_bad (hm : m + 1 ≤ 400) (h1 : preB s k ⟨#[123]⟩ = false) (h2 : preB s k ⟨#[91]⟩ = false) (h3 : preB s k ⟨#[34]⟩ = true) (h : qtd 60 (lft s k) = none) : rdT (n + 1) s k m = .error (k, 2) := by
  rw [rdT, if_neg (by omega), if_neg (by rw [h1]; decide), if_neg (by rw [h2]; decide), if_pos h3, h]
theorem rd_num (hm : m + 1 ≤ 400) (h1 : preB s k ⟨#[123]⟩ = false) (h2 : preB s k ⟨#[91]⟩ = false) (h3 : preB s k ⟨#[34]⟩ = false) (h4 : dgs (lft s k) ≠ []) {v : Int} (hr : -9223372036854775808 ≤ v ∧ v ≤ 9223372036854775807) (hi : Lib.itoa v = dgs (lft s k)) : rdT (n + 1) s k m = .ok (lfT ⟨2, v, ⟨#[]⟩, 0, 0⟩, k + (dgs (lft s k)).length) := by
  have ha := atoi_back v hr.1 hr.2
  rw [hi] at ha
  rw [rdT, if_neg (by omega), if_neg (by rw [h1]; decide), if_neg (by rw [h2]; decide), if_neg (by rw [h3]; decide), if_pos h4, ha]
  simp only
  rw [if_pos hi]
  rfl
theorem rd_num_bad (hm : m + 1 ≤ 400) (h1 : preB s k ⟨#[123]⟩ = false) (h2 : preB s k ⟨#[91]⟩ = false) (h3 : preB s k ⟨#[34]⟩ = false) (h4 : dgs (lft s k) ≠ []) (hno : ∀ v : Int, -9223372036854775808 ≤ v ∧ v ≤ 9223372036854775807 → Lib.itoa v ≠ dgs (lft s k)) : rdT (n + 1) s k m = .error (k, 2) := by
  rw [rdT, if_neg (by omega), if_neg (by rw [h1]; decide), if_neg (by rw [h2]; decide), if_neg (by rw [h3]; decide), if_pos h4]
  cases ha : Lib.atoiAll (dgs (lft s k)) with
  | ok v =>
    simp only
    rw [if_neg (hno v (atoi_rng ha))]
  | _ => rfl
theorem rd_word (hm : m + 1 ≤ 400) (h1 : preB s k ⟨#[123]⟩ = false) (h2 : preB s k ⟨#[91]⟩ = false) (h3 : preB s k ⟨#[34]⟩ = false) (h4 : dgs (lft s k) = []) : rdT (n + 1) s k m = (if preB s k wNil = true then .ok (lfT ⟨0, 0, ⟨#[]⟩, 0, 0⟩, k + 4) else if preB s k wNo = true then .ok (lfT ⟨1, 0, ⟨#[]⟩, 0, 0⟩, k + 5) else if preB s k wYes = true then .ok (lfT ⟨1, 1, ⟨#[]⟩, 0, 0⟩, k + 4) else .error (k, 2)) := by
  rw [rdT, if_neg (by omega), if_neg (by rw [h1]; decide), if_neg (by rw [h2]; decide), if_neg (by rw [h3]; decide), if_neg (by simpa using h4)]
  rfl
end
theorem leaf_is (P : Nat → Prop) (w : World) (x : V) : IsTP P w (tval (x, .slice none 0 0, .slice none 0 0)) (lfT x) :=
  IsTG.mk x [] [] (.slice none 0 0) none 0 [] ⟨none, 0, rfl, ⟨Nat.le_refl _, fun _ => rfl⟩, by simp, fun h => absurd rfl h⟩ rfl ⟨Nat.le_refl _, fun _ => rfl⟩ (by simp) (fun h => absurd rfl h) (fun i h => absurd h (Nat.not_lt_zero _))

theorem wv_val (a b : Int) : wv a b = .agg #[.int .i64 a, .int .i64 b, .string ⟨#[]⟩, .int .i64 0, .int .i64 0] := rfl
set_option maxRecDepth 100000 in
set_option maxHeartbeats 8000000 in
theorem tree_step {s : ByteArray} {p : Nat} {wv : World} {n : Nat} (hT : TreeC wv p s n) (hV : Vr wv) (hwv : wv.heap.size ≤ p) (hs : s.size ≤ 60000) (k m : Nat) (w : World) (hn : s.size - k < n + 1) (h : RB w p s k m) (hk : k ≤ s.size) (hm : m ≤ 400) (hb : Below wv.heap.size wv w) :
    Calls Tryz.prog 10 #[.pointer (some ⟨p, 0, none⟩)] w fun e w' => TreeP (n + 1) p s k m w e w' := by
  obtain ⟨post, hpost⟩ : ∃ post, post = TreeP (n + 1) p s k m w := ⟨_, rfl⟩
  rw [← hpost]
  have HPO : Hid (post = TreeP (n + 1) p s k m w) := hpost
  have HP : Hid (p < w.heap.size) := h.lt
  have HTC : Hid (TreeC wv p s n) := hT
  have HVR : Hid (Vr wv) := hV
  have HWV : Hid (wv.heap.size ≤ p ∧ Below wv.heap.size wv w) := ⟨hwv, hb⟩
  have HS : Hid (s.size ≤ 60000) := hs
  have HN : Hid (s.size - k < n + 1) := hn
  have HK : Hid (k ≤ s.size) := hk
  have hb1 : Below w.heap.size w (w.alloc zO) := (Below.refl _ _).alloc (Nat.le_refl _) _
  have HTI0 : Hid (Ti w p s k m (w.alloc zO)) := ⟨h.below hb1, Rk.of hb1, one_new w zO⟩
  clear hpost hT hV hwv hs hn h hk hb hb1
  have hfold : (Obj.cells #[.int .i64 0, .int .i64 0, .string ⟨#[]⟩, .int .i64 0, .int .i64 0, .slice none 0 0, .slice none 0 0] 29) = zO := rfl
  go_enter Tryz.func10, Tryz.ntmps10
  go_upto_region 1 with fail
  generalize hw0 : w.alloc _ = w1 at *
  have HTI1 : Hid (Ti w p s k m w1) := HTI0
  clear hw0 HTI0 hfold
  have d1 : w1.cell? ⟨p, 1, none⟩ = some (.int .i64 (k : Int)) := Lib.cell_of_heap HTI1.out.rb 1
  have d2 : w1.cell? ⟨p, 2, none⟩ = some (.int .i64 (m : Int)) := Lib.cell_of_heap HTI1.out.rb 2
  by_cases h400 : m = 400
  · have g1 : ((m : Int) == 400) = true := by rw [h400]; rfl
    have HEND : Hid (post (.panicked [{ v := faultV k 4, recovered := false }]) w1) := by
      show post _ _
      rw [HPO.out]
      exact Or.inr ⟨_, rfl, trivial, ⟨_, _, rfl, rd_full h400⟩, HTI1.out.rk⟩
    clear h400
    go_wp2
    exact ⟨rfl, HEND.out⟩
  have g1 : ((m : Int) == 400) = false := by rw [beq_eq_false_iff_ne]; omega
  have HM : Hid (m + 1 ≤ 400) := by show _ ≤ _; omega
  have g2 : (m : Int) ≤ 400 := by omega
  have cf := Lib.frozen_of_heap HTI1.out.rb
  have HTI2 : Hid (Ti w p s k (m + 1) (w1.setCell ⟨p, 2, none⟩ (.int .i64 ((m : Int) + 1)))) := by
    refine HTI1.out.move HP.out ?_ ⟨rfl, rfl, rfl, by simp, fun b _ hne => Below.heap_setCell _ _ _ _ (by simpa using hne)⟩
    unfold RB
    rw [set_atR HTI1.out.rb 2 _]
    simp
  clear h400
  go_upto_region 4 with fail
  generalize w1.setCell ⟨p, 2, none⟩ (.int .i64 ((m : Int) + 1)) = w2 at *
  clear d1 d2 g1 g2 cf HTI1 hm
  have E1 := skip_any p s k (m + 1) ⟨#[123]⟩ w2 HTI2.out.rb HK.out HS.out (by decide)
  go_wp2_with fail
  go_fit E1
  rintro e w3 hS1
  clear E1
  rcases hS1 with ⟨hc, rfl, hrb, hrk⟩ | ⟨hc, rfl, hrb, hrk⟩
  · have HC : Hid (preB s k ⟨#[123]⟩ = true) := hc
    have HTI3 : Hid (Ti w p s (k + 1) (m + 1) w3) := HTI2.out.move HP.out hrb hrk
    clear hc hrb hrk HTI2
    have E2 := readMap_any HTC.out HWV.out.1 HS.out (k + 1) (m + 1) w3 (by have := pre_room HC.out rfl; have := HN.out; omega) HTI3.out.rb (pre_room HC.out rfl) HM.out (HTI3.out.rk.low HWV.out.1 HWV.out.2)
    go_wp2_with fail
    go_fit E2
    rintro e w4 hR
    clear E2
    rcases hR with ⟨x, kk, mm, u, hfo, hmm, hfew, hk1, hk2, rfl, hI, hrb, hrk⟩ | ⟨v, rfl, ⟨kf, fe, rfl, hr9⟩, hrk⟩
    rotate_left
    · have HEND : Hid (post (.panicked [{ v := faultV kf fe, recovered := false }]) w4) := by
        show post _ _
        rw [HPO.out]
        exact Or.inr ⟨_, rfl, trivial, ⟨kf, fe, rfl, rd_map HM.out HC.out hr9⟩, HTI3.out.rk.trans hrk⟩
      clear hr9 hrk
      go_wp2
      exact ⟨rfl, HEND.out⟩
    have hT4 : Ti w p s (kk + 1) mm w4 := HTI3.out.move HP.out hrb hrk
    have hI4 : IsTP (fun b => w.heap.size + 1 ≤ b) w4 (tval u) (.node (cx true) x.1 x.2) := hI.move (Nat.le_refl _) (fun _ _ _ => rfl) (fun b hb => Nat.le_trans HTI3.out.size hb)
    have hgf : FX (n + 1) s k m (.node (cx true) x.1 x.2) (kk + 1) ∧ mm = m + (JT.node (cx true) x.1 x.2).size := by
      have hsn := size_node (cx true) x.1 x.2
      exact ⟨⟨rd_map HM.out HC.out hfo, ⟨by omega⟩⟩, by omega⟩
    obtain ⟨⟨yk, yn, yt, yo, ya⟩, a1, n1, c1, a2, n2, c2, hu⟩ := hI4.plain.parts
    subst hu
    clear hI hfo hmm hfew hrb hrk
    have hbx := hT4.box
    unfold zO at hbx
    have r0 : w4.cell? ⟨w.heap.size, 0, none⟩ = some (.int .i64 0) := Lib.cell_of_heap hbx 0
    have r1 : w4.cell? ⟨w.heap.size, 1, none⟩ = some (.int .i64 0) := Lib.cell_of_heap hbx 1
    have r2 : w4.cell? ⟨w.heap.size, 2, none⟩ = some (.string ⟨#[]⟩) := Lib.cell_of_heap hbx 2
    have r3 : w4.cell? ⟨w.heap.size, 3, none⟩ = some (.int .i64 0) := Lib.cell_of_heap hbx 3
    have r4 : w4.cell? ⟨w.heap.size, 4, none⟩ = some (.int .i64 0) := Lib.cell_of_heap hbx 4
    have r5 : w4.cell? ⟨w.heap.size, 5, none⟩ = some (.slice none 0 0) := Lib.cell_of_heap hbx 5
    have r6 : w4.cell? ⟨w.heap.size, 6, none⟩ = some (.slice none 0 0) := Lib.cell_of_heap hbx 6
    have zf := Lib.frozen_of_heap hbx
    have HF : Hid (_ = some _) := set7 hbx (.int .i64 yk) (.int .i64 yn) (.string yt) (.int .i64 yo) (.int .i64 ya) (.slice a1 n1 c1) (.slice a2 n2 c2)
    have hend := tr_end HP.out hT4 hI4
    have HEND : Hid (post (.returned (tval (⟨yk, yn, yt, yo, ya⟩, .slice a1 n1 c1, .slice a2 n2 c2))) (((((((w4.setCell ⟨w.heap.size, 0, none⟩ (.int .i64 yk)).setCell ⟨w.heap.size, 1, none⟩ (.int .i64 yn)).setCell ⟨w.heap.size, 2, none⟩ (.string yt)).setCell ⟨w.heap.size, 3, none⟩ (.int .i64 yo)).setCell ⟨w.heap.size, 4, none⟩ (.int .i64 ya)).setCell ⟨w.heap.size, 5, none⟩ (.slice a1 n1 c1)).setCell ⟨w.heap.size, 6, none⟩ (.slice a2 n2 c2))) := by
      show post _ _
      rw [HPO.out]
      refine Or.inl ⟨_, _, kk + 1, rfl, hend.1, hgf.1, by omega, hk2, ?_, hend.2.2⟩
      rw [← hgf.2]
      exact hend.2.1
    clear hbx hend
    unfold tval
    dsimp only
    clear hT4 hI4 hgf hk1 hk2
    go_wp2_with fail
    clear r0 r1 r2 r3 r4 r5 r6 zf
    generalize (((((((w4.setCell ⟨w.heap.size, 0, none⟩ (.int .i64 yk)).setCell ⟨w.heap.size, 1, none⟩ (.int .i64 yn)).setCell ⟨w.heap.size, 2, none⟩ (.string yt)).setCell ⟨w.heap.size, 3, none⟩ (.int .i64 yo)).setCell ⟨w.heap.size, 4, none⟩ (.int .i64 ya)).setCell ⟨w.heap.size, 5, none⟩ (.slice a1 n1 c1)).setCell ⟨w.heap.size, 6, none⟩ (.slice a2 n2 c2)) = W9 at *
    have q0 : W9.cell? ⟨w.heap.size, 0, none⟩ = some (.int .i64 yk) := Lib.cell_of_heap HF.out 0
    have q1 : W9.cell? ⟨w.heap.size, 1, none⟩ = some (.int .i64 yn) := Lib.cell_of_heap HF.out 1
    have q2 : W9.cell? ⟨w.heap.size, 2, none⟩ = some (.string yt) := Lib.cell_of_heap HF.out 2
    have q3 : W9.cell? ⟨w.heap.size, 3, none⟩ = some (.int .i64 yo) := Lib.cell_of_heap HF.out 3
    have q4 : W9.cell? ⟨w.heap.size, 4, none⟩ = some (.int .i64 ya) := Lib.cell_of_heap HF.out 4
    have q5 : W9.cell? ⟨w.heap.size, 5, none⟩ = some (.slice a1 n1 c1) := Lib.cell_of_heap HF.out 5
    have q6 : W9.cell? ⟨w.heap.size, 6, none⟩ = some (.slice a2 n2 c2) := Lib.cell_of_heap HF.out 6
    exact bodyPost_ret (v := tval (⟨yk, yn, yt, yo, ya⟩, .slice a1 n1 c1, .slice a2 n2 c2)) (by simp [tval, results, Tryz.results10, go_sem, q0, q1, q2, q3, q4, q5, q6]) rfl HEND.out
  have HC1 : Hid (preB s k ⟨#[123]⟩ = false) := hc
  have HTI3 : Hid (Ti w p s k (m + 1) w3) := HTI2.out.move HP.out hrb hrk
  clear hc hrb hrk HTI2
  have E1 := skip_any p s k (m + 1) ⟨#[91]⟩ w3 HTI3.out.rb HK.out HS.out (by decide)
  go_wp2_with fail
  go_fit E1
  rintro e w2 hS1
  clear E1
  rcases hS1 with ⟨hc, rfl, hrb, hrk⟩ | ⟨hc, rfl, hrb, hrk⟩
  · have HC : Hid (preB s k ⟨#[91]⟩ = true) := hc
    have HTI4 : Hid (Ti w p s (k + 1) (m + 1) w2) := HTI3.out.move HP.out hrb hrk
    clear hc hrb hrk HTI3
    rename_i w30
    have HTI3 := HTI4
    clear HTI4
    generalize w2 = w3 at *
    have E2 := readList_any HTC.out HWV.out.1 HS.out (k + 1) (m + 1) w3 (by have := pre_room HC.out rfl; have := HN.out; omega) HTI3.out.rb (pre_room HC.out rfl) HM.out (HTI3.out.rk.low HWV.out.1 HWV.out.2)
    go_wp2_with fail
    go_fit E2
    rintro e w4 hR
    clear E2
    rcases hR with ⟨x, kk, mm, u, hfo, hmm, hfew, hk1, hk2, rfl, hI, hrb, hrk⟩ | ⟨v, rfl, ⟨kf, fe, rfl, hr9⟩, hrk⟩
    rotate_left
    · have HEND : Hid (post (.panicked [{ v := faultV kf fe, recovered := false }]) w4) := by
        show post _ _
        rw [HPO.out]
        exact Or.inr ⟨_, rfl, trivial, ⟨kf, fe, rfl, rd_list HM.out HC1.out HC.out hr9⟩, HTI3.out.rk.trans hrk⟩
      clear hr9 hrk
      go_wp2
      exact ⟨rfl, HEND.out⟩
    have hT4 : Ti w p s (kk + 1) mm w4 := HTI3.out.move HP.out hrb hrk
    have hI4 : IsTP (fun b => w.heap.size + 1 ≤ b) w4 (tval u) (.node (cx false) x.1 x.2) := hI.move (Nat.le_refl _) (fun _ _ _ => rfl) (fun b hb => Nat.le_trans HTI3.out.size hb)
    have hgf : FX (n + 1) s k m (.node (cx false) x.1 x.2) (kk + 1) ∧ mm = m + (JT.node (cx false) x.1 x.2).size := by
      have hsn := size_node (cx false) x.1 x.2
      exact ⟨⟨rd_list HM.out HC1.out HC.out hfo, ⟨by omega⟩⟩, by omega⟩
    obtain ⟨⟨yk, yn, yt, yo, ya⟩, a1, n1, c1, a2, n2, c2, hu⟩ := hI4.plain.parts
    subst hu
    clear hI hfo hmm hfew hrb hrk
    have hbx := hT4.box
    unfold zO at hbx
    have r0 : w4.cell? ⟨w.heap.size, 0, none⟩ = some (.int .i64 0) := Lib.cell_of_heap hbx 0
    have r1 : w4.cell? ⟨w.heap.size, 1, none⟩ = some (.int .i64 0) := Lib.cell_of_heap hbx 1
    have r2 : w4.cell? ⟨w.heap.size, 2, none⟩ = some (.string ⟨#[]⟩) := Lib.cell_of_heap hbx 2
    have r3 : w4.cell? ⟨w.heap.size, 3, none⟩ = some (.int .i64 0) := Lib.cell_of_heap hbx 3
    have r4 : w4.cell? ⟨w.heap.size, 4, none⟩ = some (.int .i64 0) := Lib.cell_of_heap hbx 4
    have r5 : w4.cell? ⟨w.heap.size, 5, none⟩ = some (.slice none 0 0) := Lib.cell_of_heap hbx 5
    have r6 : w4.cell? ⟨w.heap.size, 6, none⟩ = some (.slice none 0 0) := Lib.cell_of_heap hbx 6
    have zf := Lib.frozen_of_heap hbx
    have HF : Hid (_ = some _) := set7 hbx (.int .i64 yk) (.int .i64 yn) (.string yt) (.int .i64 yo) (.int .i64 ya) (.slice a1 n1 c1) (.slice a2 n2 c2)
    have hend := tr_end HP.out hT4 hI4
    have HEND : Hid (post (.returned (tval (⟨yk, yn, yt, yo, ya⟩, .slice a1 n1 c1, .slice a2 n2 c2))) (((((((w4.setCell ⟨w.heap.size, 0, none⟩ (.int .i64 yk)).setCell ⟨w.heap.size, 1, none⟩ (.int .i64 yn)).setCell ⟨w.heap.size, 2, none⟩ (.string yt)).setCell ⟨w.heap.size, 3, none⟩ (.int .i64 yo)).setCell ⟨w.heap.size, 4, none⟩ (.int .i64 ya)).setCell ⟨w.heap.size, 5, none⟩ (.slice a1 n1 c1)).setCell ⟨w.heap.size, 6, none⟩ (.slice a2 n2 c2))) := by
      show post _ _
      rw [HPO.out]
      refine Or.inl ⟨_, _, kk + 1, rfl, hend.1, hgf.1, by omega, hk2, ?_, hend.2.2⟩
      rw [← hgf.2]
      exact hend.2.1
    clear hbx hend
    unfold tval
    dsimp only
    clear hT4 hI4 hgf hk1 hk2
    go_wp2_with fail
    clear r0 r1 r2 r3 r4 r5 r6 zf
    generalize (((((((w4.setCell ⟨w.heap.size, 0, none⟩ (.int .i64 yk)).setCell ⟨w.heap.size, 1, none⟩ (.int .i64 yn)).setCell ⟨w.heap.size, 2, none⟩ (.string yt)).setCell ⟨w.heap.size, 3, none⟩ (.int .i64 yo)).setCell ⟨w.heap.size, 4, none⟩ (.int .i64 ya)).setCell ⟨w.heap.size, 5, none⟩ (.slice a1 n1 c1)).setCell ⟨w.heap.size, 6, none⟩ (.slice a2 n2 c2)) = W9 at *
    have q0 : W9.cell? ⟨w.heap.size, 0, none⟩ = some (.int .i64 yk) := Lib.cell_of_heap HF.out 0
    have q1 : W9.cell? ⟨w.heap.size, 1, none⟩ = some (.int .i64 yn) := Lib.cell_of_heap HF.out 1
    have q2 : W9.cell? ⟨w.heap.size, 2, none⟩ = some (.string yt) := Lib.cell_of_heap HF.out 2
    have q3 : W9.cell? ⟨w.heap.size, 3, none⟩ = some (.int .i64 yo) := Lib.cell_of_heap HF.out 3
    have q4 : W9.cell? ⟨w.heap.size, 4, none⟩ = some (.int .i64 ya) := Lib.cell_of_heap HF.out 4
    have q5 : W9.cell? ⟨w.heap.size, 5, none⟩ = some (.slice a1 n1 c1) := Lib.cell_of_heap HF.out 5
    have q6 : W9.cell? ⟨w.heap.size, 6, none⟩ = some (.slice a2 n2 c2) := Lib.cell_of_heap HF.out 6
    exact bodyPost_ret (v := tval (⟨yk, yn, yt, yo, ya⟩, .slice a1 n1 c1, .slice a2 n2 c2)) (by simp [tval, results, Tryz.results10, go_sem, q0, q1, q2, q3, q4, q5, q6]) rfl HEND.out
  have HC2 : Hid (preB s k ⟨#[91]⟩ = false) := hc
  have HTI4 : Hid (Ti w p s k (m + 1) w2) := HTI3.out.move HP.out hrb hrk
  clear hc hrb hrk HTI3
  have E1 := rest_any p s k (m + 1) w2 HTI4.out.rb HK.out
  have E2 := fun W => Tryz.hasPrefix (s.extract k s.size) ⟨#[34]⟩ W
  rw [lft_ex] at E2
  have ep : Lib.hasPrefix (lft s k) (⟨#[34]⟩ : ByteArray).data.toList = preB s k ⟨#[34]⟩ := rfl
  rw [ep] at E2
  clear ep
  generalize s.extract k s.size = sx at *
  obtain ⟨hp3, HP3⟩ : ∃ b, Hid (preB s k ⟨#[34]⟩ = b) := ⟨_, rfl⟩
  rw [HP3.out] at E2
  go_wp2_with fail
  go_fit E1
  rintro e w5 ⟨rfl, b5⟩
  clear E1
  have HTI5 : Hid (Ti w p s k (m + 1) w5) := HTI4.out.move HP.out (HTI4.out.rb.below b5) (Rk.of b5)
  clear b5 HTI4
  have E3 := E2 w5
  clear E2
  go_wp2_with fail
  go_fit E3
  rintro e w55 ⟨rfl, hw55⟩
  subst w55
  clear E3
  cases hp3 with
  | true =>
    have E4 := quoted_any p s k (m + 1) 60 w5 HTI5.out.rb HK.out HS.out (by omega)
    have e60 : ((60 : Nat) : Int) = 60 := rfl
    rw [e60] at E4
    clear e60
    go_wp2_with fail
    go_fit E4
    rintro e w6 hQ
    clear E4
    rcases hQ with ⟨t, n6, hq, rfl, hrb, hle, hrk⟩ | ⟨hq, rfl, hrk⟩
    rotate_left
    · have HEND : Hid (post (.panicked [{ v := faultV k 2, recovered := false }]) w6) := by
        show post _ _
        rw [HPO.out]
        exact Or.inr ⟨_, rfl, trivial, ⟨_, _, rfl, rd_text_bad HM.out HC1.out HC2.out HP3.out hq⟩, HTI5.out.rk.trans hrk⟩
      clear hq hrk
      go_wp2
      exact ⟨rfl, HEND.out⟩
    obtain ⟨ts, hts⟩ : ∃ ts : ByteArray, ts = ⟨t.toArray⟩ := ⟨_, rfl⟩
    rw [← hts]
    have hT6 : Ti w p s (k + n6) (m + 1) w6 := HTI5.out.move HP.out hrb hrk
    obtain ⟨hl60, rest, hl1, hl2⟩ := qtd_back hq
    have hrd := rd_text (n := n) HM.out HC1.out HC2.out HP3.out hq
    rw [← hts] at hrd
    have hfit := fx_of hrd HM.out
    have hn6 : 0 < n6 := by
      rw [hl2]
      unfold quote
      simp
    clear hts hq hl1 hl2 hl60 hrd hrb hrk
    have hI4 : IsTP (fun b => w.heap.size + 1 ≤ b) w6 (tval (⟨3, 0, ts, 0, 0⟩, .slice none 0 0, .slice none 0 0)) (lfT ⟨3, 0, ts, 0, 0⟩) := leaf_is _ _ _
    have hbx := hT6.box
    unfold zO at hbx
    have r0 : w6.cell? ⟨w.heap.size, 0, none⟩ = some (.int .i64 0) := Lib.cell_of_heap hbx 0
    have r1 : w6.cell? ⟨w.heap.size, 1, none⟩ = some (.int .i64 0) := Lib.cell_of_heap hbx 1
    have r2 : w6.cell? ⟨w.heap.size, 2, none⟩ = some (.string ⟨#[]⟩) := Lib.cell_of_heap hbx 2
    have r3 : w6.cell? ⟨w.heap.size, 3, none⟩ = some (.int .i64 0) := Lib.cell_of_heap hbx 3
    have r4 : w6.cell? ⟨w.heap.size, 4, none⟩ = some (.int .i64 0) := Lib.cell_of_heap hbx 4
    have r5 : w6.cell? ⟨w.heap.size, 5, none⟩ = some (.slice none 0 0) := Lib.cell_of_heap hbx 5
    have r6 : w6.cell? ⟨w.heap.size, 6, none⟩ = some (.slice none 0 0) := Lib.cell_of_heap hbx 6
    have zf := Lib.frozen_of_heap hbx
    have HF : Hid (_ = some _) := set7 hbx (.int .i64 3) (.int .i64 0) (.string ts) (.int .i64 0) (.int .i64 0) (.slice none 0 0) (.slice none 0 0)
    have hend := tr_end HP.out hT6 hI4
    have HEND : Hid (post (.returned (tval (⟨3, 0, ts, 0, 0⟩, .slice none 0 0, .slice none 0 0))) (((((((w6.setCell ⟨w.heap.size, 0, none⟩ (.int .i64 3)).setCell ⟨w.heap.size, 1, none⟩ (.int .i64 0)).setCell ⟨w.heap.size, 2, none⟩ (.string ts)).setCell ⟨w.heap.size, 3, none⟩ (.int .i64 0)).setCell ⟨w.heap.size, 4, none⟩ (.int .i64 0)).setCell ⟨w.heap.size, 5, none⟩ (.slice none 0 0)).setCell ⟨w.heap.size, 6, none⟩ (.slice none 0 0))) := by
      show post _ _
      rw [HPO.out]
      refine Or.inl ⟨_, _, k + n6, rfl, hend.1, hfit.1, by omega, hle, ?_, hend.2.2⟩
      rw [hfit.2]
      exact hend.2.1
    clear hbx hend
    clear hI4 hfit hT6
    go_wp2_with fail
    clear r0 r1 r2 r3 r4 r5 r6 zf
    generalize (((((((w6.setCell ⟨w.heap.size, 0, none⟩ (.int .i64 3)).setCell ⟨w.heap.size, 1, none⟩ (.int .i64 0)).setCell ⟨w.heap.size, 2, none⟩ (.string ts)).setCell ⟨w.heap.size, 3, none⟩ (.int .i64 0)).setCell ⟨w.heap.size, 4, none⟩ (.int .i64 0)).setCell ⟨w.heap.size, 5, none⟩ (.slice none 0 0)).setCell ⟨w.heap.size, 6, none⟩ (.slice none 0 0)) = W9 at *
    have q0 : W9.cell? ⟨w.heap.size, 0, none⟩ = some (.int .i64 3) := Lib.cell_of_heap HF.out 0
    have q1 : W9.cell? ⟨w.heap.size, 1, none⟩ = some (.int .i64 0) := Lib.cell_of_heap HF.out 1
    have q2 : W9.cell? ⟨w.heap.size, 2, none⟩ = some (.string ts) := Lib.cell_of_heap HF.out 2
    have q3 : W9.cell? ⟨w.heap.size, 3, none⟩ = some (.int .i64 0) := Lib.cell_of_heap HF.out 3
    have q4 : W9.cell? ⟨w.heap.size, 4, none⟩ = some (.int .i64 0) := Lib.cell_of_heap HF.out 4
    have q5 : W9.cell? ⟨w.heap.size, 5, none⟩ = some (.slice none 0 0) := Lib.cell_of_heap HF.out 5
    have q6 : W9.cell? ⟨w.heap.size, 6, none⟩ = some (.slice none 0 0) := Lib.cell_of_heap HF.out 6
    exact bodyPost_ret (v := tval (⟨3, 0, ts, 0, 0⟩, .slice none 0 0, .slice none 0 0)) (by simp [tval, results, Tryz.results10, go_sem, q0, q1, q2, q3, q4, q5, q6]) rfl HEND.out
  | false =>
    have E4 := digitsR_any p s k (m + 1) w5 HTI5.out.rb HK.out HS.out
    obtain ⟨d, hd⟩ : ∃ d : ByteArray, d = ⟨(dgs (lft s k)).toArray⟩ := ⟨_, rfl⟩
    have hdl : d.toList = dgs (lft s k) := by rw [hd]; exact ts_list _
    rw [← hd] at E4
    clear hd
    go_wp2_with fail
    go_fit E4
    rintro e w6 ⟨rfl, b6⟩
    clear E4
    have HTI6 : Hid (Ti w p s k (m + 1) w6) := HTI5.out.move HP.out (HTI5.out.rb.below b6) (Rk.of b6)
    clear b6 HTI5
    by_cases hd0 : dgs (lft s k) = []
    · have hbe : d.toList.isEmpty = true := by rw [hdl, hd0]; rfl
      have HD0 : Hid (dgs (lft s k) = []) := hd0
      have HRW : Hid (rdT (n + 1) s k m = _) := rd_word HM.out HC1.out HC2.out HP3.out hd0
      clear hd0 hdl
      have E5 := word_any p s k (m + 1) w6 HTI6.out.rb HK.out HS.out
      go_wp2_with fail
      go_fit E5
      rintro e w8 hW
      clear E5 hbe
      rcases hW with ⟨hq, rfl, hrb, hrk⟩ | ⟨hq0, hq, rfl, hrb, hrk⟩ | ⟨hq0, hq1, hq, rfl, hrb, hrk⟩ | ⟨hq0, hq1, hq2, rfl, hrk⟩
      · have hT8 : Ti w p s (k + 4) (m + 1) w8 := HTI6.out.move HP.out hrb hrk
        have hfit := fx_of (n := n + 1) (s := s) (k := k) (m := m) (k' := k + 4) (x := ⟨0, 0, ⟨#[]⟩, 0, 0⟩) (by rw [HRW.out, if_pos hq]) HM.out
        clear hrb hrk
        have hI4 : IsTP (fun b => w.heap.size + 1 ≤ b) w8 (tval (⟨0, 0, ⟨#[]⟩, 0, 0⟩, .slice none 0 0, .slice none 0 0)) (lfT ⟨0, 0, ⟨#[]⟩, 0, 0⟩) := leaf_is _ _ _
        have hbx := hT8.box
        unfold zO at hbx
        have r0 : w8.cell? ⟨w.heap.size, 0, none⟩ = some (.int .i64 0) := Lib.cell_of_heap hbx 0
        have r1 : w8.cell? ⟨w.heap.size, 1, none⟩ = some (.int .i64 0) := Lib.cell_of_heap hbx 1
        have r2 : w8.cell? ⟨w.heap.size, 2, none⟩ = some (.string ⟨#[]⟩) := Lib.cell_of_heap hbx 2
        have r3 : w8.cell? ⟨w.heap.size, 3, none⟩ = some (.int .i64 0) := Lib.cell_of_heap hbx 3
        have r4 : w8.cell? ⟨w.heap.size, 4, none⟩ = some (.int .i64 0) := Lib.cell_of_heap hbx 4
        have r5 : w8.cell? ⟨w.heap.size, 5, none⟩ = some (.slice none 0 0) := Lib.cell_of_heap hbx 5
        have r6 : w8.cell? ⟨w.heap.size, 6, none⟩ = some (.slice none 0 0) := Lib.cell_of_heap hbx 6
        have zf := Lib.frozen_of_heap hbx
        have HF : Hid (_ = some _) := set7 hbx (.int .i64 0) (.int .i64 0) (.string ⟨#[]⟩) (.int .i64 0) (.int .i64 0) (.slice none 0 0) (.slice none 0 0)
        have hend := tr_end HP.out hT8 hI4
        have HEND : Hid (post (.returned (tval (⟨0, 0, ⟨#[]⟩, 0, 0⟩, .slice none 0 0, .slice none 0 0))) (((((((w8.setCell ⟨w.heap.size, 0, none⟩ (.int .i64 0)).setCell ⟨w.heap.size, 1, none⟩ (.int .i64 0)).setCell ⟨w.heap.size, 2, none⟩ (.string ⟨#[]⟩)).setCell ⟨w.heap.size, 3, none⟩ (.int .i64 0)).setCell ⟨w.heap.size, 4, none⟩ (.int .i64 0)).setCell ⟨w.heap.size, 5, none⟩ (.slice none 0 0)).setCell ⟨w.heap.size, 6, none⟩ (.slice none 0 0))) := by
          show post _ _
          rw [HPO.out]
          refine Or.inl ⟨_, _, k + 4, rfl, hend.1, hfit.1, by omega, pre_fit (q := wNil) hq HK.out, ?_, hend.2.2⟩
          rw [hfit.2]
          exact hend.2.1
        clear hbx hend
        rw [wv_val]
        clear hI4 hfit hT8
        go_wp2_with fail
        clear r0 r1 r2 r3 r4 r5 r6 zf
        generalize (((((((w8.setCell ⟨w.heap.size, 0, none⟩ (.int .i64 0)).setCell ⟨w.heap.size, 1, none⟩ (.int .i64 0)).setCell ⟨w.heap.size, 2, none⟩ (.string ⟨#[]⟩)).setCell ⟨w.heap.size, 3, none⟩ (.int .i64 0)).setCell ⟨w.heap.size, 4, none⟩ (.int .i64 0)).setCell ⟨w.heap.size, 5, none⟩ (.slice none 0 0)).setCell ⟨w.heap.size, 6, none⟩ (.slice none 0 0)) = W9 at *
        have q0 : W9.cell? ⟨w.heap.size, 0, none⟩ = some (.int .i64 0) := Lib.cell_of_heap HF.out 0
        have q1 : W9.cell? ⟨w.heap.size, 1, none⟩ = some (.int .i64 0) := Lib.cell_of_heap HF.out 1
        have q2 : W9.cell? ⟨w.heap.size, 2, none⟩ = some (.string ⟨#[]⟩) := Lib.cell_of_heap HF.out 2
        have q3 : W9.cell? ⟨w.heap.size, 3, none⟩ = some (.int .i64 0) := Lib.cell_of_heap HF.out 3
        have q4 : W9.cell? ⟨w.heap.size, 4, none⟩ = some (.int .i64 0) := Lib.cell_of_heap HF.out 4
        have q5 : W9.cell? ⟨w.heap.size, 5, none⟩ = some (.slice none 0 0) := Lib.cell_of_heap HF.out 5
        have q6 : W9.cell? ⟨w.heap.size, 6, none⟩ = some (.slice none 0 0) := Lib.cell_of_heap HF.out 6
        exact bodyPost_ret (v := tval (⟨0, 0, ⟨#[]⟩, 0, 0⟩, .slice none 0 0, .slice none 0 0)) (by simp [tval, results, Tryz.results10, go_sem, q0, q1, q2, q3, q4, q5, q6]) rfl HEND.out
      · have hT8 : Ti w p s (k + 5) (m + 1) w8 := HTI6.out.move HP.out hrb hrk
        have hfit := fx_of (n := n + 1) (s := s) (k := k) (m := m) (k' := k + 5) (x := ⟨1, 0, ⟨#[]⟩, 0, 0⟩) (by rw [HRW.out, if_neg (by rw [hq0]; decide), if_pos hq]) HM.out
        clear hrb hrk hq0
        have hI4 : IsTP (fun b => w.heap.size + 1 ≤ b) w8 (tval (⟨1, 0, ⟨#[]⟩, 0, 0⟩, .slice none 0 0, .slice none 0 0)) (lfT ⟨1, 0, ⟨#[]⟩, 0, 0⟩) := leaf_is _ _ _
        have hbx := hT8.box
        unfold zO at hbx
        have r0 : w8.cell? ⟨w.heap.size, 0, none⟩ = some (.int .i64 0) := Lib.cell_of_heap hbx 0
        have r1 : w8.cell? ⟨w.heap.size, 1, none⟩ = some (.int .i64 0) := Lib.cell_of_heap hbx 1
        have r2 : w8.cell? ⟨w.heap.size, 2, none⟩ = some (.string ⟨#[]⟩) := Lib.cell_of_heap hbx 2
        have r3 : w8.cell? ⟨w.heap.size, 3, none⟩ = some (.int .i64 0) := Lib.cell_of_heap hbx 3
        have r4 : w8.cell? ⟨w.heap.size, 4, none⟩ = some (.int .i64 0) := Lib.cell_of_heap hbx 4
        have r5 : w8.cell? ⟨w.heap.size, 5, none⟩ = some (.slice none 0 0) := Lib.cell_of_heap hbx 5
        have r6 : w8.cell? ⟨w.heap.size, 6, none⟩ = some (.slice none 0 0) := Lib.cell_of_heap hbx 6
        have zf := Lib.frozen_of_heap hbx
        have HF : Hid (_ = some _) := set7 hbx (.int .i64 1) (.int .i64 0) (.string ⟨#[]⟩) (.int .i64 0) (.int .i64 0) (.slice none 0 0) (.slice none 0 0)
        have hend := tr_end HP.out hT8 hI4
        have HEND : Hid (post (.returned (tval (⟨1, 0, ⟨#[]⟩, 0, 0⟩, .slice none 0 0, .slice none 0 0))) (((((((w8.setCell ⟨w.heap.size, 0, none⟩ (.int .i64 1)).setCell ⟨w.heap.size, 1, none⟩ (.int .i64 0)).setCell ⟨w.heap.size, 2, none⟩ (.string ⟨#[]⟩)).setCell ⟨w.heap.size, 3, none⟩ (.int .i64 0)).setCell ⟨w.heap.size, 4, none⟩ (.int .i64 0)).setCell ⟨w.heap.size, 5, none⟩ (.slice none 0 0)).setCell ⟨w.heap.size, 6, none⟩ (.slice none 0 0))) := by
          show post _ _
          rw [HPO.out]
          refine Or.inl ⟨_, _, k + 5, rfl, hend.1, hfit.1, by omega, pre_fit (q := wNo) hq HK.out, ?_, hend.2.2⟩
          rw [hfit.2]
          exact hend.2.1
        clear hbx hend
        rw [wv_val]
        clear hI4 hfit hT8
        go_wp2_with fail
        clear r0 r1 r2 r3 r4 r5 r6 zf
        generalize (((((((w8.setCell ⟨w.heap.size, 0, none⟩ (.int .i64 1)).setCell ⟨w.heap.size, 1, none⟩ (.int .i64 0)).setCell ⟨w.heap.size, 2, none⟩ (.string ⟨#[]⟩)).setCell ⟨w.heap.size, 3, none⟩ (.int .i64 0)).setCell ⟨w.heap.size, 4, none⟩ (.int .i64 0)).setCell ⟨w.heap.size, 5, none⟩ (.slice none 0 0)).setCell ⟨w.heap.size, 6, none⟩ (.slice none 0 0)) = W9 at *
        have q0 : W9.cell? ⟨w.heap.size, 0, none⟩ = some (.int .i64 1) := Lib.cell_of_heap HF.out 0
        have q1 : W9.cell? ⟨w.heap.size, 1, none⟩ = some (.int .i64 0) := Lib.cell_of_heap HF.out 1
        have q2 : W9.cell? ⟨w.heap.size, 2, none⟩ = some (.string ⟨#[]⟩) := Lib.cell_of_heap HF.out 2
        have q3 : W9.cell? ⟨w.heap.size, 3, none⟩ = some (.int .i64 0) := Lib.cell_of_heap HF.out 3
        have q4 : W9.cell? ⟨w.heap.size, 4, none⟩ = some (.int .i64 0) := Lib.cell_of_heap HF.out 4
        have q5 : W9.cell? ⟨w.heap.size, 5, none⟩ = some (.slice none 0 0) := Lib.cell_of_heap HF.out 5
        have q6 : W9.cell? ⟨w.heap.size, 6, none⟩ = some (.slice none 0 0) := Lib.cell_of_heap HF.out 6
        exact bodyPost_ret (v := tval (⟨1, 0, ⟨#[]⟩, 0, 0⟩, .slice none 0 0, .slice none 0 0)) (by simp [tval, results, Tryz.results10, go_sem, q0, q1, q2, q3, q4, q5, q6]) rfl HEND.out
      · have hT8 : Ti w p s (k + 4) (m + 1) w8 := HTI6.out.move HP.out hrb hrk
        have hfit := fx_of (n := n + 1) (s := s) (k := k) (m := m) (k' := k + 4) (x := ⟨1, 1, ⟨#[]⟩, 0, 0⟩) (by rw [HRW.out, if_neg (by rw [hq0]; decide), if_neg (by rw [hq1]; decide), if_pos hq]) HM.out
        clear hrb hrk hq0 hq1
        have hI4 : IsTP (fun b => w.heap.size + 1 ≤ b) w8 (tval (⟨1, 1, ⟨#[]⟩, 0, 0⟩, .slice none 0 0, .slice none 0 0)) (lfT ⟨1, 1, ⟨#[]⟩, 0, 0⟩) := leaf_is _ _ _
        have hbx := hT8.box
        unfold zO at hbx
        have r0 : w8.cell? ⟨w.heap.size, 0, none⟩ = some (.int .i64 0) := Lib.cell_of_heap hbx 0
        have r1 : w8.cell? ⟨w.heap.size, 1, none⟩ = some (.int .i64 0) := Lib.cell_of_heap hbx 1
        have r2 : w8.cell? ⟨w.heap.size, 2, none⟩ = some (.string ⟨#[]⟩) := Lib.cell_of_heap hbx 2
        have r3 : w8.cell? ⟨w.heap.size, 3, none⟩ = some (.int .i64 0) := Lib.cell_of_heap hbx 3
        have r4 : w8.cell? ⟨w.heap.size, 4, none⟩ = some (.int .i64 0) := Lib.cell_of_heap hbx 4
        have r5 : w8.cell? ⟨w.heap.size, 5, none⟩ = some (.slice none 0 0) := Lib.cell_of_heap hbx 5
        have r6 : w8.cell? ⟨w.heap.size, 6, none⟩ = some (.slice none 0 0) := Lib.cell_of_heap hbx 6
        have zf := Lib.frozen_of_heap hbx
        have HF : Hid (_ = some _) := set7 hbx (.int .i64 1) (.int .i64 1) (.string ⟨#[]⟩) (.int .i64 0) (.int .i64 0) (.slice none 0 0) (.slice none 0 0)
        have hend := tr_end HP.out hT8 hI4
        have HEND : Hid (post (.returned (tval (⟨1, 1, ⟨#[]⟩, 0, 0⟩, .slice none 0 0, .slice none 0 0))) (((((((w8.setCell ⟨w.heap.size, 0, none⟩ (.int .i64 1)).setCell ⟨w.heap.size, 1, none⟩ (.int .i64 1)).setCell ⟨w.heap.size, 2, none⟩ (.string ⟨#[]⟩)).setCell ⟨w.heap.size, 3, none⟩ (.int .i64 0)).setCell ⟨w.heap.size, 4, none⟩ (.int .i64 0)).setCell ⟨w.heap.size, 5, none⟩ (.slice none 0 0)).setCell ⟨w.heap.size, 6, none⟩ (.slice none 0 0))) := by
          show post _ _
          rw [HPO.out]
          refine Or.inl ⟨_, _, k + 4, rfl, hend.1, hfit.1, by omega, pre_fit (q := wYes) hq HK.out, ?_, hend.2.2⟩
          rw [hfit.2]
          exact hend.2.1
        clear hbx hend
        rw [wv_val]
        clear hI4 hfit hT8
        go_wp2_with fail
        clear r0 r1 r2 r3 r4 r5 r6 zf
        generalize (((((((w8.setCell ⟨w.heap.size, 0, none⟩ (.int .i64 1)).setCell ⟨w.heap.size, 1, none⟩ (.int .i64 1)).setCell ⟨w.heap.size, 2, none⟩ (.string ⟨#[]⟩)).setCell ⟨w.heap.size, 3, none⟩ (.int .i64 0)).setCell ⟨w.heap.size, 4, none⟩ (.int .i64 0)).setCell ⟨w.heap.size, 5, none⟩ (.slice none 0 0)).setCell ⟨w.heap.size, 6, none⟩ (.slice none 0 0)) = W9 at *
        have q0 : W9.cell? ⟨w.heap.size, 0, none⟩ = some (.int .i64 1) := Lib.cell_of_heap HF.out 0
        have q1 : W9.cell? ⟨w.heap.size, 1, none⟩ = some (.int .i64 1) := Lib.cell_of_heap HF.out 1
        have q2 : W9.cell? ⟨w.heap.size, 2, none⟩ = some (.string ⟨#[]⟩) := Lib.cell_of_heap HF.out 2
        have q3 : W9.cell? ⟨w.heap.size, 3, none⟩ = some (.int .i64 0) := Lib.cell_of_heap HF.out 3
        have q4 : W9.cell? ⟨w.heap.size, 4, none⟩ = some (.int .i64 0) := Lib.cell_of_heap HF.out 4
        have q5 : W9.cell? ⟨w.heap.size, 5, none⟩ = some (.slice none 0 0) := Lib.cell_of_heap HF.out 5
        have q6 : W9.cell? ⟨w.heap.size, 6, none⟩ = some (.slice none 0 0) := Lib.cell_of_heap HF.out 6
        exact bodyPost_ret (v := tval (⟨1, 1, ⟨#[]⟩, 0, 0⟩, .slice none 0 0, .slice none 0 0)) (by simp [tval, results, Tryz.results10, go_sem, q0, q1, q2, q3, q4, q5, q6]) rfl HEND.out
      · have HEND : Hid (post (.panicked [{ v := faultV k 2, recovered := false }]) w8) := by
          show post _ _
          rw [HPO.out]
          exact Or.inr ⟨_, rfl, trivial, ⟨_, _, rfl, by rw [HRW.out, if_neg (by rw [hq0]; decide), if_neg (by rw [hq1]; decide), if_neg (by rw [hq2]; decide)]⟩, HTI6.out.rk.trans hrk⟩
        clear hq0 hq1 hq2 hrk
        go_wp2
        exact ⟨rfl, HEND.out⟩
    · have hbe : d.toList.isEmpty = false := by
        rw [hdl]
        cases hdd : dgs (lft s k) with
        | nil => exact absurd hdd hd0
        | cons a b => rfl
      have HD0 : Hid (dgs (lft s k) ≠ []) := hd0
      clear hd0 hdl
      have E5 := numberR_any p s k (m + 1) w6 HTI6.out.rb HK.out HS.out (HVR.out.below (HTI6.out.rk.low HWV.out.1 HWV.out.2))
      go_wp2_with fail
      go_fit E5
      rintro e w7 hW
      clear E5 hbe
      rcases hW with ⟨nn, hr, hi, rfl, hrb, hrk⟩ | ⟨hno, rfl, hrk⟩
      rotate_left
      · have HEND : Hid (post (.panicked [{ v := faultV k 2, recovered := false }]) w7) := by
          show post _ _
          rw [HPO.out]
          exact Or.inr ⟨_, rfl, trivial, ⟨_, _, rfl, rd_num_bad HM.out HC1.out HC2.out HP3.out HD0.out hno⟩, HTI6.out.rk.trans hrk⟩
        clear hno hrk
        go_wp2
        exact ⟨rfl, HEND.out⟩
      have hT7 : Ti w p s (k + (dgs (lft s k)).length) (m + 1) w7 := HTI6.out.move HP.out hrb hrk
      have hfit := fx_of (rd_num (n := n) HM.out HC1.out HC2.out HP3.out HD0.out hr hi) HM.out
      have hkd := HK.out
      have hpos : 0 < (dgs (lft s k)).length := List.length_pos_iff.2 HD0.out
      clear hrb hrk hr hi
      have hI4 : IsTP (fun b => w.heap.size + 1 ≤ b) w7 (tval (⟨2, nn, ⟨#[]⟩, 0, 0⟩, .slice none 0 0, .slice none 0 0)) (lfT ⟨2, nn, ⟨#[]⟩, 0, 0⟩) := leaf_is _ _ _
      have hbx := hT7.box
      unfold zO at hbx
      have r0 : w7.cell? ⟨w.heap.size, 0, none⟩ = some (.int .i64 0) := Lib.cell_of_heap hbx 0
      have r1 : w7.cell? ⟨w.heap.size, 1, none⟩ = some (.int .i64 0) := Lib.cell_of_heap hbx 1
      have r2 : w7.cell? ⟨w.heap.size, 2, none⟩ = some (.string ⟨#[]⟩) := Lib.cell_of_heap hbx 2
      have r3 : w7.cell? ⟨w.heap.size, 3, none⟩ = some (.int .i64 0) := Lib.cell_of_heap hbx 3
      have r4 : w7.cell? ⟨w.heap.size, 4, none⟩ = some (.int .i64 0) := Lib.cell_of_heap hbx 4
      have r5 : w7.cell? ⟨w.heap.size, 5, none⟩ = some (.slice none 0 0) := Lib.cell_of_heap hbx 5
      have r6 : w7.cell? ⟨w.heap.size, 6, none⟩ = some (.slice none 0 0) := Lib.cell_of_heap hbx 6
      have zf := Lib.frozen_of_heap hbx
      have HF : Hid (_ = some _) := set7 hbx (.int .i64 2) (.int .i64 nn) (.string ⟨#[]⟩) (.int .i64 0) (.int .i64 0) (.slice none 0 0) (.slice none 0 0)
      have hend := tr_end HP.out hT7 hI4
      have HEND : Hid (post (.returned (tval (⟨2, nn, ⟨#[]⟩, 0, 0⟩, .slice none 0 0, .slice none 0 0))) (((((((w7.setCell ⟨w.heap.size, 0, none⟩ (.int .i64 2)).setCell ⟨w.heap.size, 1, none⟩ (.int .i64 nn)).setCell ⟨w.heap.size, 2, none⟩ (.string ⟨#[]⟩)).setCell ⟨w.heap.size, 3, none⟩ (.int .i64 0)).setCell ⟨w.heap.size, 4, none⟩ (.int .i64 0)).setCell ⟨w.heap.size, 5, none⟩ (.slice none 0 0)).setCell ⟨w.heap.size, 6, none⟩ (.slice none 0 0))) := by
        show post _ _
        rw [HPO.out]
        refine Or.inl ⟨_, _, k + (dgs (lft s k)).length, rfl, hend.1, hfit.1, by omega, by have := dgs_len s k; omega, ?_, hend.2.2⟩
        rw [hfit.2]
        exact hend.2.1
      clear hbx hend
      unfold nv V.val
      dsimp only
      clear hI4 hfit hT7
      go_wp2_with fail
      clear r0 r1 r2 r3 r4 r5 r6 zf
      generalize (((((((w7.setCell ⟨w.heap.size, 0, none⟩ (.int .i64 2)).setCell ⟨w.heap.size, 1, none⟩ (.int .i64 nn)).setCell ⟨w.heap.size, 2, none⟩ (.string ⟨#[]⟩)).setCell ⟨w.heap.size, 3, none⟩ (.int .i64 0)).setCell ⟨w.heap.size, 4, none⟩ (.int .i64 0)).setCell ⟨w.heap.size, 5, none⟩ (.slice none 0 0)).setCell ⟨w.heap.size, 6, none⟩ (.slice none 0 0)) = W9 at *
      have q0 : W9.cell? ⟨w.heap.size, 0, none⟩ = some (.int .i64 2) := Lib.cell_of_heap HF.out 0
      have q1 : W9.cell? ⟨w.heap.size, 1, none⟩ = some (.int .i64 nn) := Lib.cell_of_heap HF.out 1
      have q2 : W9.cell? ⟨w.heap.size, 2, none⟩ = some (.string ⟨#[]⟩) := Lib.cell_of_heap HF.out 2
      have q3 : W9.cell? ⟨w.heap.size, 3, none⟩ = some (.int .i64 0) := Lib.cell_of_heap HF.out 3
      have q4 : W9.cell? ⟨w.heap.size, 4, none⟩ = some (.int .i64 0) := Lib.cell_of_heap HF.out 4
      have q5 : W9.cell? ⟨w.heap.size, 5, none⟩ = some (.slice none 0 0) := Lib.cell_of_heap HF.out 5
      have q6 : W9.cell? ⟨w.heap.size, 6, none⟩ = some (.slice none 0 0) := Lib.cell_of_heap HF.out 6
      exact bodyPost_ret (v := tval (⟨2, nn, ⟨#[]⟩, 0, 0⟩, .slice none 0 0, .slice none 0 0)) (by simp [tval, results, Tryz.results10, go_sem, q0, q1, q2, q3, q4, q5, q6]) rfl HEND.out
/-- Trees are read, however much is left. -/
theorem tree_all {s : ByteArray} {p : Nat} {wv : World} (hV : Vr wv) (hwv : wv.heap.size ≤ p) (hs : s.size ≤ 60000) : ∀ n, TreeC wv p s n
  | 0 => fun _ _ _ h => absurd h (Nat.not_lt_zero _)
  | n + 1 => fun k m w hn h hk hm hb => tree_step (tree_all hV hwv hs n) hV hwv hs k m w hn h hk hm hb
end Go.Proofs.YtnmdhbejjjmdeaaGreatDoor
