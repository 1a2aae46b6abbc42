/-
  What is proved: bookref3's Tree reads a tree, or tells a fault, and its place.
  Conditions: trees that stand farther on are read, or a fault is told.
-/
import Derived.Test.YtnmdhbejjjmdeaaGreatDoorP25
import Derived.Test.YtnmdhbejjjmdeaaGreatDoorJHKL
import Derived.Test.YtnmdhbejjjmdeaaGreatDoorJHKM
namespace Go.Proofs.YtnmdhbejjjmdeaaGreatDoor
open Go.RowKit Go.Sort

theorem quote_pos (t : List UInt8) : 0 < (quote t).length := by unfold quote; simp
set_option maxRecDepth 100000 in
set_option maxHeartbeats 32000000 in
theorem treeH_step {s : ByteArray} {p n : Nat} (hT : TreeHC p s n) (hs : s.size ≤ 60000) (k m : Nat) (w : World) (hn : s.size - k < n + 1) (h : PB w p s k m 0 0) (hk : k ≤ s.size) (hm : m ≤ 400) :
    Calls Tryz.prog 7 #[.pointer (some ⟨p, 0, none⟩)] w fun e w' => TreeHP (n + 1) p s k m w e w' := by
  have HT00 : Hid (Tn w p s k (m + 1) 0 0 ((w.alloc zO).setCell ⟨p, 2, none⟩ (.int .i64 ((m : Int) + 1)))) := tn_start h
  have hb1 := h.below ((Below.refl w.heap.size w).alloc (Nat.le_refl _) zO)
  have c2 : (w.alloc zO).cell? ⟨p, 2, none⟩ = some (.int .i64 (m : Int)) := Lib.cell_of_heap hb1 2
  have cf := Lib.frozen_of_heap hb1
  have HP : Hid (p < w.heap.size ∧ k ≤ s.size ∧ s.size - k < n + 1) := ⟨h.lt, hk, hn⟩
  have HS : Hid (s.size ≤ 60000) := hs
  have HTC : Hid (TreeHC p s n) := hT
  obtain ⟨post, hpost⟩ : ∃ post, post = TreeHP (n + 1) p s k m w := ⟨_, rfl⟩
  rw [← hpost]
  have HPO : Hid (post = TreeHP (n + 1) p s k m w) := hpost
  have gm : (m : Int) ≤ 400 := by omega
  have HM4 : Hid (m ≤ 400) := hm
  clear hpost hT hs hn h hk hm hb1
  unfold zO at HT00 c2 cf
  go_enter Tryz.func7, Tryz.ntmps7
  go_upto_region 2 with fail
  clear c2 cf gm
  generalize (w.alloc (.cells #[.int .i64 0, .int .i64 0, .string ⟨#[]⟩, .int .i64 0, .int .i64 0, .slice none 0 0, .slice none 0 0] 29)).setCell ⟨p, 2, none⟩ (.int .i64 ((m : Int) + 1)) = W0 at *
  obtain ⟨m1, hm1⟩ : ∃ m1, m + 1 = m1 := ⟨_, rfl⟩
  rw [hm1] at HT00
  have HT0 : Hid (Tn w p s k m1 0 0 W0) := HT00.out
  clear HT00
  have p2 : W0.cell? ⟨p, 2, none⟩ = some (.int .i64 (m1 : Int)) := Lib.cell_of_heap HT0.out.pb 2
  by_cases h4 : m = 400
  · have g1 : (400 : Int) < m1 := by omega
    have HR : Hid (rdT (n + 1) s k m = .error (k, 4)) := rd_full h4
    clear h4 hm1
    have EF := failH_any p s k m1 0 k 0 4 W0 HT0.out.pb
    simp only [if_true] at EF
    have p1 : W0.cell? ⟨p, 1, none⟩ = some (.int .i64 (k : Int)) := Lib.cell_of_heap HT0.out.pb 1
    go_wp2_with fail
    go_fit EF
    rintro e wf ⟨rfl, hpbf, hrkf⟩
    clear EF p1 p2 g1
    have hTn := HT0.out.move HP.out.1 hrkf hpbf
    clear hpbf hrkf HT0
    have HEND : Hid (∀ W7, EndT p w wf s k m1 k 4 ((⟨0, 0, ⟨#[]⟩, 0, 0⟩, .slice none 0 0, .slice none 0 0) : TV) W7 → post (.returned (tval ((⟨0, 0, ⟨#[]⟩, 0, 0⟩, .slice none 0 0, .slice none 0 0) : TV))) W7) := by
      intro W7 hE
      rw [HPO.out]
      exact bad_end hE zU_sl HR.out (by decide)
    have hz2 := hTn.box
    unfold zO at hz2
    have r0 : wf.cell? ⟨w.heap.size, 0, none⟩ = some (.int .i64 0) := Lib.cell_of_heap hz2 0
    have r1 : wf.cell? ⟨w.heap.size, 1, none⟩ = some (.int .i64 0) := Lib.cell_of_heap hz2 1
    have r2 : wf.cell? ⟨w.heap.size, 2, none⟩ = some (.string ⟨#[]⟩) := Lib.cell_of_heap hz2 2
    have r3 : wf.cell? ⟨w.heap.size, 3, none⟩ = some (.int .i64 0) := Lib.cell_of_heap hz2 3
    have r4 : wf.cell? ⟨w.heap.size, 4, none⟩ = some (.int .i64 0) := Lib.cell_of_heap hz2 4
    have r5 : wf.cell? ⟨w.heap.size, 5, none⟩ = some (.slice none 0 0) := Lib.cell_of_heap hz2 5
    have r6 : wf.cell? ⟨w.heap.size, 6, none⟩ = some (.slice none 0 0) := Lib.cell_of_heap hz2 6
    have zf := Lib.frozen_of_heap hz2
    have HE : Hid (EndT p w wf s k m1 k 4 ((⟨0, 0, ⟨#[]⟩, 0, 0⟩, .slice none 0 0, .slice none 0 0) : TV) _) := tree_end HP.out.1 hTn ((⟨0, 0, ⟨#[]⟩, 0, 0⟩, .slice none 0 0, .slice none 0 0) : TV)
    unfold sv7 at HE
    dsimp only at HE
    clear hz2 hTn 
    go_wp2_with fail
    clear r0 r1 r2 r3 r4 r5 r6 zf
    generalize (((((((wf.setCell ⟨w.heap.size, 0, none⟩ (.int .i64 0)).setCell ⟨w.heap.size, 1, none⟩ (.int .i64 0)).setCell ⟨w.heap.size, 2, none⟩ (.string ⟨#[]⟩)).setCell ⟨w.heap.size, 3, none⟩ (.int .i64 0)).setCell ⟨w.heap.size, 4, none⟩ (.int .i64 0)).setCell ⟨w.heap.size, 5, none⟩ (.slice none 0 0)).setCell ⟨w.heap.size, 6, none⟩ (.slice none 0 0)) = W7 at *
    have h7 := HE.out.1
    dsimp only at h7
    have q0 : W7.cell? ⟨w.heap.size, 0, none⟩ = some (.int .i64 0) := Lib.cell_of_heap h7 0
    have q1 : W7.cell? ⟨w.heap.size, 1, none⟩ = some (.int .i64 0) := Lib.cell_of_heap h7 1
    have q2 : W7.cell? ⟨w.heap.size, 2, none⟩ = some (.string ⟨#[]⟩) := Lib.cell_of_heap h7 2
    have q3 : W7.cell? ⟨w.heap.size, 3, none⟩ = some (.int .i64 0) := Lib.cell_of_heap h7 3
    have q4 : W7.cell? ⟨w.heap.size, 4, none⟩ = some (.int .i64 0) := Lib.cell_of_heap h7 4
    have q5 : W7.cell? ⟨w.heap.size, 5, none⟩ = some (.slice none 0 0) := Lib.cell_of_heap h7 5
    have q6 : W7.cell? ⟨w.heap.size, 6, none⟩ = some (.slice none 0 0) := Lib.cell_of_heap h7 6
    exact bodyPost_ret (v := tval ((⟨0, 0, ⟨#[]⟩, 0, 0⟩, .slice none 0 0, .slice none 0 0) : TV)) (by simp [tval, results, Tryz.results7, go_sem, q0, q1, q2, q3, q4, q5, q6]) rfl (HEND.out W7 HE.out)
  · have HM : Hid (m + 1 = m1 ∧ m + 1 ≤ 400) := ⟨hm1, by have := HM4.out; omega⟩
    have g1 : ¬ (400 : Int) < m1 := by have := HM4.out; omega
    clear h4 hm1
    go_upto_region 5 with fail
    clear p2 g1
    have EI := isH_any p s k m1 0 0 ⟨#[110, 117, 108, 108]⟩ W0 HT0.out.pb HP.out.2.1 HS.out (by decide)
    obtain ⟨pb, hpb⟩ : ∃ pb, preB s k ⟨#[110, 117, 108, 108]⟩ = pb := ⟨_, rfl⟩
    rw [hpb] at EI
    go_wp2_with fail
    go_fit EI
    rintro e W1 ⟨rfl, hpb1, hrk1⟩
    clear EI
    cases pb with
    | true =>
      simp only [if_true] at hpb1
      have hTn : Tn w p s (k + 4) m1 0 0 W1 := HT0.out.move HP.out.1 hrk1 hpb1
      have HFT : Hid (k + 4 ≤ s.size) := pre_fit hpb HP.out.2.1
      clear hpb1 hrk1 HT0
      have HEND : Hid (∀ W7, EndT p w W1 s (k + 4) m1 0 0 ((⟨0, 0, ⟨#[]⟩, 0, 0⟩, .slice none 0 0, .slice none 0 0) : TV) W7 → post (.returned (tval ((⟨0, 0, ⟨#[]⟩, 0, 0⟩, .slice none 0 0, .slice none 0 0) : TV))) W7) := by
        intro W7 hE
        rw [HPO.out]
        have e1 := HM.out.1
        subst e1
        exact leaf_end hE (rd_nil HM.out.2 hpb) HM.out.2 (by omega) HFT.out
      have hz2 := hTn.box
      unfold zO at hz2
      have r0 : W1.cell? ⟨w.heap.size, 0, none⟩ = some (.int .i64 0) := Lib.cell_of_heap hz2 0
      have r1 : W1.cell? ⟨w.heap.size, 1, none⟩ = some (.int .i64 0) := Lib.cell_of_heap hz2 1
      have r2 : W1.cell? ⟨w.heap.size, 2, none⟩ = some (.string ⟨#[]⟩) := Lib.cell_of_heap hz2 2
      have r3 : W1.cell? ⟨w.heap.size, 3, none⟩ = some (.int .i64 0) := Lib.cell_of_heap hz2 3
      have r4 : W1.cell? ⟨w.heap.size, 4, none⟩ = some (.int .i64 0) := Lib.cell_of_heap hz2 4
      have r5 : W1.cell? ⟨w.heap.size, 5, none⟩ = some (.slice none 0 0) := Lib.cell_of_heap hz2 5
      have r6 : W1.cell? ⟨w.heap.size, 6, none⟩ = some (.slice none 0 0) := Lib.cell_of_heap hz2 6
      have zf := Lib.frozen_of_heap hz2
      have HE : Hid (EndT p w W1 s (k + 4) m1 0 0 ((⟨0, 0, ⟨#[]⟩, 0, 0⟩, .slice none 0 0, .slice none 0 0) : TV) _) := tree_end HP.out.1 hTn ((⟨0, 0, ⟨#[]⟩, 0, 0⟩, .slice none 0 0, .slice none 0 0) : TV)
      unfold sv7 at HE
      dsimp only at HE
      clear hz2 hTn 
      go_wp2_with fail
      clear r0 r1 r2 r3 r4 r5 r6 zf
      generalize (((((((W1.setCell ⟨w.heap.size, 0, none⟩ (.int .i64 0)).setCell ⟨w.heap.size, 1, none⟩ (.int .i64 0)).setCell ⟨w.heap.size, 2, none⟩ (.string ⟨#[]⟩)).setCell ⟨w.heap.size, 3, none⟩ (.int .i64 0)).setCell ⟨w.heap.size, 4, none⟩ (.int .i64 0)).setCell ⟨w.heap.size, 5, none⟩ (.slice none 0 0)).setCell ⟨w.heap.size, 6, none⟩ (.slice none 0 0)) = W7 at *
      have h7 := HE.out.1
      dsimp only at h7
      have q0 : W7.cell? ⟨w.heap.size, 0, none⟩ = some (.int .i64 0) := Lib.cell_of_heap h7 0
      have q1 : W7.cell? ⟨w.heap.size, 1, none⟩ = some (.int .i64 0) := Lib.cell_of_heap h7 1
      have q2 : W7.cell? ⟨w.heap.size, 2, none⟩ = some (.string ⟨#[]⟩) := Lib.cell_of_heap h7 2
      have q3 : W7.cell? ⟨w.heap.size, 3, none⟩ = some (.int .i64 0) := Lib.cell_of_heap h7 3
      have q4 : W7.cell? ⟨w.heap.size, 4, none⟩ = some (.int .i64 0) := Lib.cell_of_heap h7 4
      have q5 : W7.cell? ⟨w.heap.size, 5, none⟩ = some (.slice none 0 0) := Lib.cell_of_heap h7 5
      have q6 : W7.cell? ⟨w.heap.size, 6, none⟩ = some (.slice none 0 0) := Lib.cell_of_heap h7 6
      exact bodyPost_ret (v := tval ((⟨0, 0, ⟨#[]⟩, 0, 0⟩, .slice none 0 0, .slice none 0 0) : TV)) (by simp [tval, results, Tryz.results7, go_sem, q0, q1, q2, q3, q4, q5, q6]) rfl (HEND.out W7 HE.out)
    | false =>
      simp only [Bool.false_eq_true, if_false] at hpb1
      have HT1 : Hid (Tn w p s k m1 0 0 W1) := HT0.out.move HP.out.1 hrk1 hpb1
      have HW1 : Hid (preB s k ⟨#[110, 117, 108, 108]⟩ = false) := hpb
      clear hpb1 hrk1 hpb HT0
      have EI := isH_any p s k m1 0 0 ⟨#[116, 114, 117, 101]⟩ W1 HT1.out.pb HP.out.2.1 HS.out (by decide)
      obtain ⟨pb, hpb⟩ : ∃ pb, preB s k ⟨#[116, 114, 117, 101]⟩ = pb := ⟨_, rfl⟩
      rw [hpb] at EI
      go_wp2_with fail
      go_fit EI
      rintro e W2 ⟨rfl, hpb1, hrk1⟩
      clear EI
      cases pb with
      | true =>
        simp only [if_true] at hpb1
        have hTn : Tn w p s (k + 4) m1 0 0 W2 := HT1.out.move HP.out.1 hrk1 hpb1
        have HFT : Hid (k + 4 ≤ s.size) := pre_fit hpb HP.out.2.1
        clear hpb1 hrk1 HT1
        have HEND : Hid (∀ W7, EndT p w W2 s (k + 4) m1 0 0 ((⟨1, 1, ⟨#[]⟩, 0, 0⟩, .slice none 0 0, .slice none 0 0) : TV) W7 → post (.returned (tval ((⟨1, 1, ⟨#[]⟩, 0, 0⟩, .slice none 0 0, .slice none 0 0) : TV))) W7) := by
          intro W7 hE
          rw [HPO.out]
          have e1 := HM.out.1
          subst e1
          exact leaf_end hE (rd_true HM.out.2 hpb) HM.out.2 (by omega) HFT.out
        have hz2 := hTn.box
        unfold zO at hz2
        have r0 : W2.cell? ⟨w.heap.size, 0, none⟩ = some (.int .i64 0) := Lib.cell_of_heap hz2 0
        have r1 : W2.cell? ⟨w.heap.size, 1, none⟩ = some (.int .i64 0) := Lib.cell_of_heap hz2 1
        have r2 : W2.cell? ⟨w.heap.size, 2, none⟩ = some (.string ⟨#[]⟩) := Lib.cell_of_heap hz2 2
        have r3 : W2.cell? ⟨w.heap.size, 3, none⟩ = some (.int .i64 0) := Lib.cell_of_heap hz2 3
        have r4 : W2.cell? ⟨w.heap.size, 4, none⟩ = some (.int .i64 0) := Lib.cell_of_heap hz2 4
        have r5 : W2.cell? ⟨w.heap.size, 5, none⟩ = some (.slice none 0 0) := Lib.cell_of_heap hz2 5
        have r6 : W2.cell? ⟨w.heap.size, 6, none⟩ = some (.slice none 0 0) := Lib.cell_of_heap hz2 6
        have zf := Lib.frozen_of_heap hz2
        have HE : Hid (EndT p w W2 s (k + 4) m1 0 0 ((⟨1, 1, ⟨#[]⟩, 0, 0⟩, .slice none 0 0, .slice none 0 0) : TV) _) := tree_end HP.out.1 hTn ((⟨1, 1, ⟨#[]⟩, 0, 0⟩, .slice none 0 0, .slice none 0 0) : TV)
        unfold sv7 at HE
        dsimp only at HE
        clear hz2 hTn 
        go_wp2_with fail
        clear r0 r1 r2 r3 r4 r5 r6 zf
        generalize (((((((W2.setCell ⟨w.heap.size, 0, none⟩ (.int .i64 1)).setCell ⟨w.heap.size, 1, none⟩ (.int .i64 1)).setCell ⟨w.heap.size, 2, none⟩ (.string ⟨#[]⟩)).setCell ⟨w.heap.size, 3, none⟩ (.int .i64 0)).setCell ⟨w.heap.size, 4, none⟩ (.int .i64 0)).setCell ⟨w.heap.size, 5, none⟩ (.slice none 0 0)).setCell ⟨w.heap.size, 6, none⟩ (.slice none 0 0)) = W7 at *
        have h7 := HE.out.1
        dsimp only at h7
        have q0 : W7.cell? ⟨w.heap.size, 0, none⟩ = some (.int .i64 1) := Lib.cell_of_heap h7 0
        have q1 : W7.cell? ⟨w.heap.size, 1, none⟩ = some (.int .i64 1) := Lib.cell_of_heap h7 1
        have q2 : W7.cell? ⟨w.heap.size, 2, none⟩ = some (.string ⟨#[]⟩) := Lib.cell_of_heap h7 2
        have q3 : W7.cell? ⟨w.heap.size, 3, none⟩ = some (.int .i64 0) := Lib.cell_of_heap h7 3
        have q4 : W7.cell? ⟨w.heap.size, 4, none⟩ = some (.int .i64 0) := Lib.cell_of_heap h7 4
        have q5 : W7.cell? ⟨w.heap.size, 5, none⟩ = some (.slice none 0 0) := Lib.cell_of_heap h7 5
        have q6 : W7.cell? ⟨w.heap.size, 6, none⟩ = some (.slice none 0 0) := Lib.cell_of_heap h7 6
        exact bodyPost_ret (v := tval ((⟨1, 1, ⟨#[]⟩, 0, 0⟩, .slice none 0 0, .slice none 0 0) : TV)) (by simp [tval, results, Tryz.results7, go_sem, q0, q1, q2, q3, q4, q5, q6]) rfl (HEND.out W7 HE.out)
      | false =>
        simp only [Bool.false_eq_true, if_false] at hpb1
        have HT2 : Hid (Tn w p s k m1 0 0 W2) := HT1.out.move HP.out.1 hrk1 hpb1
        have HW2 : Hid (preB s k ⟨#[116, 114, 117, 101]⟩ = false) := hpb
        clear hpb1 hrk1 hpb HT1
        have EI := isH_any p s k m1 0 0 ⟨#[102, 97, 108, 115, 101]⟩ W2 HT2.out.pb HP.out.2.1 HS.out (by decide)
        obtain ⟨pb, hpb⟩ : ∃ pb, preB s k ⟨#[102, 97, 108, 115, 101]⟩ = pb := ⟨_, rfl⟩
        rw [hpb] at EI
        go_wp2_with fail
        go_fit EI
        rintro e W3 ⟨rfl, hpb1, hrk1⟩
        clear EI
        cases pb with
        | true =>
          simp only [if_true] at hpb1
          have hTn : Tn w p s (k + 5) m1 0 0 W3 := HT2.out.move HP.out.1 hrk1 hpb1
          have HFT : Hid (k + 5 ≤ s.size) := pre_fit hpb HP.out.2.1
          clear hpb1 hrk1 HT2
          have HEND : Hid (∀ W7, EndT p w W3 s (k + 5) m1 0 0 ((⟨1, 0, ⟨#[]⟩, 0, 0⟩, .slice none 0 0, .slice none 0 0) : TV) W7 → post (.returned (tval ((⟨1, 0, ⟨#[]⟩, 0, 0⟩, .slice none 0 0, .slice none 0 0) : TV))) W7) := by
            intro W7 hE
            rw [HPO.out]
            have e1 := HM.out.1
            subst e1
            exact leaf_end hE (rd_false HM.out.2 hpb) HM.out.2 (by omega) HFT.out
          have hz2 := hTn.box
          unfold zO at hz2
          have r0 : W3.cell? ⟨w.heap.size, 0, none⟩ = some (.int .i64 0) := Lib.cell_of_heap hz2 0
          have r1 : W3.cell? ⟨w.heap.size, 1, none⟩ = some (.int .i64 0) := Lib.cell_of_heap hz2 1
          have r2 : W3.cell? ⟨w.heap.size, 2, none⟩ = some (.string ⟨#[]⟩) := Lib.cell_of_heap hz2 2
          have r3 : W3.cell? ⟨w.heap.size, 3, none⟩ = some (.int .i64 0) := Lib.cell_of_heap hz2 3
          have r4 : W3.cell? ⟨w.heap.size, 4, none⟩ = some (.int .i64 0) := Lib.cell_of_heap hz2 4
          have r5 : W3.cell? ⟨w.heap.size, 5, none⟩ = some (.slice none 0 0) := Lib.cell_of_heap hz2 5
          have r6 : W3.cell? ⟨w.heap.size, 6, none⟩ = some (.slice none 0 0) := Lib.cell_of_heap hz2 6
          have zf := Lib.frozen_of_heap hz2
          have HE : Hid (EndT p w W3 s (k + 5) m1 0 0 ((⟨1, 0, ⟨#[]⟩, 0, 0⟩, .slice none 0 0, .slice none 0 0) : TV) _) := tree_end HP.out.1 hTn ((⟨1, 0, ⟨#[]⟩, 0, 0⟩, .slice none 0 0, .slice none 0 0) : TV)
          unfold sv7 at HE
          dsimp only at HE
          clear hz2 hTn 
          go_wp2_with fail
          clear r0 r1 r2 r3 r4 r5 r6 zf
          generalize (((((((W3.setCell ⟨w.heap.size, 0, none⟩ (.int .i64 1)).setCell ⟨w.heap.size, 1, none⟩ (.int .i64 0)).setCell ⟨w.heap.size, 2, none⟩ (.string ⟨#[]⟩)).setCell ⟨w.heap.size, 3, none⟩ (.int .i64 0)).setCell ⟨w.heap.size, 4, none⟩ (.int .i64 0)).setCell ⟨w.heap.size, 5, none⟩ (.slice none 0 0)).setCell ⟨w.heap.size, 6, none⟩ (.slice none 0 0)) = W7 at *
          have h7 := HE.out.1
          dsimp only at h7
          have q0 : W7.cell? ⟨w.heap.size, 0, none⟩ = some (.int .i64 1) := Lib.cell_of_heap h7 0
          have q1 : W7.cell? ⟨w.heap.size, 1, none⟩ = some (.int .i64 0) := Lib.cell_of_heap h7 1
          have q2 : W7.cell? ⟨w.heap.size, 2, none⟩ = some (.string ⟨#[]⟩) := Lib.cell_of_heap h7 2
          have q3 : W7.cell? ⟨w.heap.size, 3, none⟩ = some (.int .i64 0) := Lib.cell_of_heap h7 3
          have q4 : W7.cell? ⟨w.heap.size, 4, none⟩ = some (.int .i64 0) := Lib.cell_of_heap h7 4
          have q5 : W7.cell? ⟨w.heap.size, 5, none⟩ = some (.slice none 0 0) := Lib.cell_of_heap h7 5
          have q6 : W7.cell? ⟨w.heap.size, 6, none⟩ = some (.slice none 0 0) := Lib.cell_of_heap h7 6
          exact bodyPost_ret (v := tval ((⟨1, 0, ⟨#[]⟩, 0, 0⟩, .slice none 0 0, .slice none 0 0) : TV)) (by simp [tval, results, Tryz.results7, go_sem, q0, q1, q2, q3, q4, q5, q6]) rfl (HEND.out W7 HE.out)
        | false =>
          simp only [Bool.false_eq_true, if_false] at hpb1
          have HT3 : Hid (Tn w p s k m1 0 0 W3) := HT2.out.move HP.out.1 hrk1 hpb1
          have HW3 : Hid (preB s k ⟨#[102, 97, 108, 115, 101]⟩ = false) := hpb
          clear hpb1 hrk1 hpb HT2
          have EI := isH_any p s k m1 0 0 ⟨#[123]⟩ W3 HT3.out.pb HP.out.2.1 HS.out (by decide)
          obtain ⟨pb, hpb⟩ : ∃ pb, preB s k ⟨#[123]⟩ = pb := ⟨_, rfl⟩
          rw [hpb] at EI
          go_wp2_with fail
          go_fit EI
          rintro e W4 ⟨rfl, hpb1, hrk1⟩
          clear EI
          cases pb with
          | true =>
            simp only [if_true] at hpb1
            have hrm := pre_room hpb rfl
            have hTn0 : Tn w p s (k + 1) m1 0 0 W4 := HT3.out.move HP.out.1 hrk1 hpb1
            clear hpb1 hrk1 HT3
            have EK := kidsM_any HTC.out HS.out (k + 1) m1 W4 (by have := HP.out; omega) hTn0.pb (by omega) hrm (by have := HM.out; omega)
            have HZ : Hid (w.heap.size + 1 ≤ W4.heap.size) := lt_of_heap hTn0.box
            have HTN0 : Hid (Tn w p s (k + 1) m1 0 0 W4) := hTn0
            clear hTn0 hrm
            go_wp2_with fail
            refine Calls.mono EK ?_
            rintro e wk hK
            clear EK
            rcases hK with ⟨x, kk, mm, u, hfo, hmm, hm4, hk2, hle, rfl, hI, hpbk, hrkk⟩ | ⟨u, k2, m2, kf, fe, rfl, hsl, hno, hfe, hpbk, hrkk⟩
            · obtain ⟨yk, yn, yt, yo, ya, a1, n1, d1, a2, n2, d2, rfl⟩ := slU_parts (slU_of hI)
              have hTn := HTN0.out.move HP.out.1 hrkk hpbk
              have HI : Hid (IsTP (fun b => w.heap.size + 1 ≤ b) wk (tval ((⟨yk, yn, yt, yo, ya⟩, .slice a1 n1 d1, .slice a2 n2 d2) : TV)) (.node (cx true) x.1 x.2)) := hI.move (Nat.le_refl _) (fun _ _ _ => rfl) (fun b hb => by have := HZ.out; omega)
              have HR : Hid (rdT (n + 1) s k m = .ok (.node (cx true) x.1 x.2, kk)) := by
                have e1 := HM.out.1
                subst e1
                exact rd_map HM.out.2 hpb hfo
              have HNM : Hid (mm = m + 1 + sizes x.2 ∧ mm ≤ 400 ∧ k < kk ∧ kk ≤ s.size) := ⟨by have := HM.out.1; omega, hm4, by omega, hle⟩
              clear hI hpbk hrkk hfo hmm hm4 hk2 hle HTN0 hpb
              unfold tval
              dsimp only
              have HEND : Hid (∀ W7, EndT p w wk s kk mm 0 0 ((⟨yk, yn, yt, yo, ya⟩, .slice a1 n1 d1, .slice a2 n2 d2) : TV) W7 → post (.returned (tval ((⟨yk, yn, yt, yo, ya⟩, .slice a1 n1 d1, .slice a2 n2 d2) : TV))) W7) := by
                intro W7 hE
                rw [HPO.out]
                exact kids_tree hE HI.out HR.out HNM.out.1 HNM.out.2.1 HNM.out.2.2.1 HNM.out.2.2.2
              have hz2 := hTn.box
              unfold zO at hz2
              have r0 : wk.cell? ⟨w.heap.size, 0, none⟩ = some (.int .i64 0) := Lib.cell_of_heap hz2 0
              have r1 : wk.cell? ⟨w.heap.size, 1, none⟩ = some (.int .i64 0) := Lib.cell_of_heap hz2 1
              have r2 : wk.cell? ⟨w.heap.size, 2, none⟩ = some (.string ⟨#[]⟩) := Lib.cell_of_heap hz2 2
              have r3 : wk.cell? ⟨w.heap.size, 3, none⟩ = some (.int .i64 0) := Lib.cell_of_heap hz2 3
              have r4 : wk.cell? ⟨w.heap.size, 4, none⟩ = some (.int .i64 0) := Lib.cell_of_heap hz2 4
              have r5 : wk.cell? ⟨w.heap.size, 5, none⟩ = some (.slice none 0 0) := Lib.cell_of_heap hz2 5
              have r6 : wk.cell? ⟨w.heap.size, 6, none⟩ = some (.slice none 0 0) := Lib.cell_of_heap hz2 6
              have zf := Lib.frozen_of_heap hz2
              have HE : Hid (EndT p w wk s kk mm 0 0 ((⟨yk, yn, yt, yo, ya⟩, .slice a1 n1 d1, .slice a2 n2 d2) : TV) _) := tree_end HP.out.1 hTn ((⟨yk, yn, yt, yo, ya⟩, .slice a1 n1 d1, .slice a2 n2 d2) : TV)
              unfold sv7 at HE
              dsimp only at HE
              clear hz2 hTn 
              go_wp2_with fail
              clear r0 r1 r2 r3 r4 r5 r6 zf
              generalize (((((((wk.setCell ⟨w.heap.size, 0, none⟩ (.int .i64 yk)).setCell ⟨w.heap.size, 1, none⟩ (.int .i64 yn)).setCell ⟨w.heap.size, 2, none⟩ (.string yt)).setCell ⟨w.heap.size, 3, none⟩ (.int .i64 yo)).setCell ⟨w.heap.size, 4, none⟩ (.int .i64 ya)).setCell ⟨w.heap.size, 5, none⟩ (.slice a1 n1 d1)).setCell ⟨w.heap.size, 6, none⟩ (.slice a2 n2 d2)) = W7 at *
              have h7 := HE.out.1
              dsimp only at h7
              have q0 : W7.cell? ⟨w.heap.size, 0, none⟩ = some (.int .i64 yk) := Lib.cell_of_heap h7 0
              have q1 : W7.cell? ⟨w.heap.size, 1, none⟩ = some (.int .i64 yn) := Lib.cell_of_heap h7 1
              have q2 : W7.cell? ⟨w.heap.size, 2, none⟩ = some (.string yt) := Lib.cell_of_heap h7 2
              have q3 : W7.cell? ⟨w.heap.size, 3, none⟩ = some (.int .i64 yo) := Lib.cell_of_heap h7 3
              have q4 : W7.cell? ⟨w.heap.size, 4, none⟩ = some (.int .i64 ya) := Lib.cell_of_heap h7 4
              have q5 : W7.cell? ⟨w.heap.size, 5, none⟩ = some (.slice a1 n1 d1) := Lib.cell_of_heap h7 5
              have q6 : W7.cell? ⟨w.heap.size, 6, none⟩ = some (.slice a2 n2 d2) := Lib.cell_of_heap h7 6
              exact bodyPost_ret (v := tval ((⟨yk, yn, yt, yo, ya⟩, .slice a1 n1 d1, .slice a2 n2 d2) : TV)) (by simp [tval, results, Tryz.results7, go_sem, q0, q1, q2, q3, q4, q5, q6]) rfl (HEND.out W7 HE.out)
            · obtain ⟨yk, yn, yt, yo, ya, a1, n1, d1, a2, n2, d2, rfl⟩ := slU_parts hsl
              have hTn := HTN0.out.move HP.out.1 hrkk hpbk
              have HR : Hid (rdT (n + 1) s k m = .error (kf, fe) ∧ fe ≠ 0) := ⟨by
                have e1 := HM.out.1
                subst e1
                exact rd_map HM.out.2 hpb hno, hfe⟩
              have HSL : Hid (slU ((⟨yk, yn, yt, yo, ya⟩, .slice a1 n1 d1, .slice a2 n2 d2) : TV)) := hsl
              clear hsl hno hfe hpbk hrkk HTN0 hpb
              unfold tval
              dsimp only
              have HEND : Hid (∀ W7, EndT p w wk s k2 m2 kf fe ((⟨yk, yn, yt, yo, ya⟩, .slice a1 n1 d1, .slice a2 n2 d2) : TV) W7 → post (.returned (tval ((⟨yk, yn, yt, yo, ya⟩, .slice a1 n1 d1, .slice a2 n2 d2) : TV))) W7) := by
                intro W7 hE
                rw [HPO.out]
                exact bad_end hE HSL.out HR.out.1 HR.out.2
              have hz2 := hTn.box
              unfold zO at hz2
              have r0 : wk.cell? ⟨w.heap.size, 0, none⟩ = some (.int .i64 0) := Lib.cell_of_heap hz2 0
              have r1 : wk.cell? ⟨w.heap.size, 1, none⟩ = some (.int .i64 0) := Lib.cell_of_heap hz2 1
              have r2 : wk.cell? ⟨w.heap.size, 2, none⟩ = some (.string ⟨#[]⟩) := Lib.cell_of_heap hz2 2
              have r3 : wk.cell? ⟨w.heap.size, 3, none⟩ = some (.int .i64 0) := Lib.cell_of_heap hz2 3
              have r4 : wk.cell? ⟨w.heap.size, 4, none⟩ = some (.int .i64 0) := Lib.cell_of_heap hz2 4
              have r5 : wk.cell? ⟨w.heap.size, 5, none⟩ = some (.slice none 0 0) := Lib.cell_of_heap hz2 5
              have r6 : wk.cell? ⟨w.heap.size, 6, none⟩ = some (.slice none 0 0) := Lib.cell_of_heap hz2 6
              have zf := Lib.frozen_of_heap hz2
              have HE : Hid (EndT p w wk s k2 m2 kf fe ((⟨yk, yn, yt, yo, ya⟩, .slice a1 n1 d1, .slice a2 n2 d2) : TV) _) := tree_end HP.out.1 hTn ((⟨yk, yn, yt, yo, ya⟩, .slice a1 n1 d1, .slice a2 n2 d2) : TV)
              unfold sv7 at HE
              dsimp only at HE
              clear hz2 hTn 
              go_wp2_with fail
              clear r0 r1 r2 r3 r4 r5 r6 zf
              generalize (((((((wk.setCell ⟨w.heap.size, 0, none⟩ (.int .i64 yk)).setCell ⟨w.heap.size, 1, none⟩ (.int .i64 yn)).setCell ⟨w.heap.size, 2, none⟩ (.string yt)).setCell ⟨w.heap.size, 3, none⟩ (.int .i64 yo)).setCell ⟨w.heap.size, 4, none⟩ (.int .i64 ya)).setCell ⟨w.heap.size, 5, none⟩ (.slice a1 n1 d1)).setCell ⟨w.heap.size, 6, none⟩ (.slice a2 n2 d2)) = W7 at *
              have h7 := HE.out.1
              dsimp only at h7
              have q0 : W7.cell? ⟨w.heap.size, 0, none⟩ = some (.int .i64 yk) := Lib.cell_of_heap h7 0
              have q1 : W7.cell? ⟨w.heap.size, 1, none⟩ = some (.int .i64 yn) := Lib.cell_of_heap h7 1
              have q2 : W7.cell? ⟨w.heap.size, 2, none⟩ = some (.string yt) := Lib.cell_of_heap h7 2
              have q3 : W7.cell? ⟨w.heap.size, 3, none⟩ = some (.int .i64 yo) := Lib.cell_of_heap h7 3
              have q4 : W7.cell? ⟨w.heap.size, 4, none⟩ = some (.int .i64 ya) := Lib.cell_of_heap h7 4
              have q5 : W7.cell? ⟨w.heap.size, 5, none⟩ = some (.slice a1 n1 d1) := Lib.cell_of_heap h7 5
              have q6 : W7.cell? ⟨w.heap.size, 6, none⟩ = some (.slice a2 n2 d2) := Lib.cell_of_heap h7 6
              exact bodyPost_ret (v := tval ((⟨yk, yn, yt, yo, ya⟩, .slice a1 n1 d1, .slice a2 n2 d2) : TV)) (by simp [tval, results, Tryz.results7, go_sem, q0, q1, q2, q3, q4, q5, q6]) rfl (HEND.out W7 HE.out)
          | false =>
            simp only [Bool.false_eq_true, if_false] at hpb1
            have HT4 : Hid (Tn w p s k m1 0 0 W4) := HT3.out.move HP.out.1 hrk1 hpb1
            have HMP : Hid (preB s k ⟨#[123]⟩ = false) := hpb
            clear hpb1 hrk1 hpb HT3
            have EI := isH_any p s k m1 0 0 ⟨#[91]⟩ W4 HT4.out.pb HP.out.2.1 HS.out (by decide)
            obtain ⟨pb, hpb⟩ : ∃ pb, preB s k ⟨#[91]⟩ = pb := ⟨_, rfl⟩
            rw [hpb] at EI
            go_wp2_with fail
            go_fit EI
            rintro e W5 ⟨rfl, hpb1, hrk1⟩
            clear EI
            cases pb with
            | true =>
              simp only [if_true] at hpb1
              have hrm := pre_room hpb rfl
              have hTn0 : Tn w p s (k + 1) m1 0 0 W5 := HT4.out.move HP.out.1 hrk1 hpb1
              clear hpb1 hrk1 HT4
              have EK := kidsL_any HTC.out HS.out (k + 1) m1 W5 (by have := HP.out; omega) hTn0.pb (by omega) hrm (by have := HM.out; omega)
              have HZ : Hid (w.heap.size + 1 ≤ W5.heap.size) := lt_of_heap hTn0.box
              have HTN0 : Hid (Tn w p s (k + 1) m1 0 0 W5) := hTn0
              clear hTn0 hrm
              go_wp2_with fail
              refine Calls.mono EK ?_
              rintro e wk hK
              clear EK
              rcases hK with ⟨x, kk, mm, u, hfo, hmm, hm4, hk2, hle, rfl, hI, hpbk, hrkk⟩ | ⟨u, k2, m2, kf, fe, rfl, hsl, hno, hfe, hpbk, hrkk⟩
              · obtain ⟨yk, yn, yt, yo, ya, a1, n1, d1, a2, n2, d2, rfl⟩ := slU_parts (slU_of hI)
                have hTn := HTN0.out.move HP.out.1 hrkk hpbk
                have HI : Hid (IsTP (fun b => w.heap.size + 1 ≤ b) wk (tval ((⟨yk, yn, yt, yo, ya⟩, .slice a1 n1 d1, .slice a2 n2 d2) : TV)) (.node (cx false) x.1 x.2)) := hI.move (Nat.le_refl _) (fun _ _ _ => rfl) (fun b hb => by have := HZ.out; omega)
                have HR : Hid (rdT (n + 1) s k m = .ok (.node (cx false) x.1 x.2, kk)) := by
                  have e1 := HM.out.1
                  subst e1
                  exact rd_list HM.out.2 HMP.out hpb hfo
                have HNM : Hid (mm = m + 1 + sizes x.2 ∧ mm ≤ 400 ∧ k < kk ∧ kk ≤ s.size) := ⟨by have := HM.out.1; omega, hm4, by omega, hle⟩
                clear hI hpbk hrkk hfo hmm hm4 hk2 hle HTN0 hpb
                unfold tval
                dsimp only
                have HEND : Hid (∀ W7, EndT p w wk s kk mm 0 0 ((⟨yk, yn, yt, yo, ya⟩, .slice a1 n1 d1, .slice a2 n2 d2) : TV) W7 → post (.returned (tval ((⟨yk, yn, yt, yo, ya⟩, .slice a1 n1 d1, .slice a2 n2 d2) : TV))) W7) := by
                  intro W7 hE
                  rw [HPO.out]
                  exact kids_tree hE HI.out HR.out HNM.out.1 HNM.out.2.1 HNM.out.2.2.1 HNM.out.2.2.2
                have hz2 := hTn.box
                unfold zO at hz2
                have r0 : wk.cell? ⟨w.heap.size, 0, none⟩ = some (.int .i64 0) := Lib.cell_of_heap hz2 0
                have r1 : wk.cell? ⟨w.heap.size, 1, none⟩ = some (.int .i64 0) := Lib.cell_of_heap hz2 1
                have r2 : wk.cell? ⟨w.heap.size, 2, none⟩ = some (.string ⟨#[]⟩) := Lib.cell_of_heap hz2 2
                have r3 : wk.cell? ⟨w.heap.size, 3, none⟩ = some (.int .i64 0) := Lib.cell_of_heap hz2 3
                have r4 : wk.cell? ⟨w.heap.size, 4, none⟩ = some (.int .i64 0) := Lib.cell_of_heap hz2 4
                have r5 : wk.cell? ⟨w.heap.size, 5, none⟩ = some (.slice none 0 0) := Lib.cell_of_heap hz2 5
                have r6 : wk.cell? ⟨w.heap.size, 6, none⟩ = some (.slice none 0 0) := Lib.cell_of_heap hz2 6
                have zf := Lib.frozen_of_heap hz2
                have HE : Hid (EndT p w wk s kk mm 0 0 ((⟨yk, yn, yt, yo, ya⟩, .slice a1 n1 d1, .slice a2 n2 d2) : TV) _) := tree_end HP.out.1 hTn ((⟨yk, yn, yt, yo, ya⟩, .slice a1 n1 d1, .slice a2 n2 d2) : TV)
                unfold sv7 at HE
                dsimp only at HE
                clear hz2 hTn 
                go_wp2_with fail
                clear r0 r1 r2 r3 r4 r5 r6 zf
                generalize (((((((wk.setCell ⟨w.heap.size, 0, none⟩ (.int .i64 yk)).setCell ⟨w.heap.size, 1, none⟩ (.int .i64 yn)).setCell ⟨w.heap.size, 2, none⟩ (.string yt)).setCell ⟨w.heap.size, 3, none⟩ (.int .i64 yo)).setCell ⟨w.heap.size, 4, none⟩ (.int .i64 ya)).setCell ⟨w.heap.size, 5, none⟩ (.slice a1 n1 d1)).setCell ⟨w.heap.size, 6, none⟩ (.slice a2 n2 d2)) = W7 at *
                have h7 := HE.out.1
                dsimp only at h7
                have q0 : W7.cell? ⟨w.heap.size, 0, none⟩ = some (.int .i64 yk) := Lib.cell_of_heap h7 0
                have q1 : W7.cell? ⟨w.heap.size, 1, none⟩ = some (.int .i64 yn) := Lib.cell_of_heap h7 1
                have q2 : W7.cell? ⟨w.heap.size, 2, none⟩ = some (.string yt) := Lib.cell_of_heap h7 2
                have q3 : W7.cell? ⟨w.heap.size, 3, none⟩ = some (.int .i64 yo) := Lib.cell_of_heap h7 3
                have q4 : W7.cell? ⟨w.heap.size, 4, none⟩ = some (.int .i64 ya) := Lib.cell_of_heap h7 4
                have q5 : W7.cell? ⟨w.heap.size, 5, none⟩ = some (.slice a1 n1 d1) := Lib.cell_of_heap h7 5
                have q6 : W7.cell? ⟨w.heap.size, 6, none⟩ = some (.slice a2 n2 d2) := Lib.cell_of_heap h7 6
                exact bodyPost_ret (v := tval ((⟨yk, yn, yt, yo, ya⟩, .slice a1 n1 d1, .slice a2 n2 d2) : TV)) (by simp [tval, results, Tryz.results7, go_sem, q0, q1, q2, q3, q4, q5, q6]) rfl (HEND.out W7 HE.out)
              · obtain ⟨yk, yn, yt, yo, ya, a1, n1, d1, a2, n2, d2, rfl⟩ := slU_parts hsl
                have hTn := HTN0.out.move HP.out.1 hrkk hpbk
                have HR : Hid (rdT (n + 1) s k m = .error (kf, fe) ∧ fe ≠ 0) := ⟨by
                  have e1 := HM.out.1
                  subst e1
                  exact rd_list HM.out.2 HMP.out hpb hno, hfe⟩
                have HSL : Hid (slU ((⟨yk, yn, yt, yo, ya⟩, .slice a1 n1 d1, .slice a2 n2 d2) : TV)) := hsl
                clear hsl hno hfe hpbk hrkk HTN0 hpb
                unfold tval
                dsimp only
                have HEND : Hid (∀ W7, EndT p w wk s k2 m2 kf fe ((⟨yk, yn, yt, yo, ya⟩, .slice a1 n1 d1, .slice a2 n2 d2) : TV) W7 → post (.returned (tval ((⟨yk, yn, yt, yo, ya⟩, .slice a1 n1 d1, .slice a2 n2 d2) : TV))) W7) := by
                  intro W7 hE
                  rw [HPO.out]
                  exact bad_end hE HSL.out HR.out.1 HR.out.2
                have hz2 := hTn.box
                unfold zO at hz2
                have r0 : wk.cell? ⟨w.heap.size, 0, none⟩ = some (.int .i64 0) := Lib.cell_of_heap hz2 0
                have r1 : wk.cell? ⟨w.heap.size, 1, none⟩ = some (.int .i64 0) := Lib.cell_of_heap hz2 1
                have r2 : wk.cell? ⟨w.heap.size, 2, none⟩ = some (.string ⟨#[]⟩) := Lib.cell_of_heap hz2 2
                have r3 : wk.cell? ⟨w.heap.size, 3, none⟩ = some (.int .i64 0) := Lib.cell_of_heap hz2 3
                have r4 : wk.cell? ⟨w.heap.size, 4, none⟩ = some (.int .i64 0) := Lib.cell_of_heap hz2 4
                have r5 : wk.cell? ⟨w.heap.size, 5, none⟩ = some (.slice none 0 0) := Lib.cell_of_heap hz2 5
                have r6 : wk.cell? ⟨w.heap.size, 6, none⟩ = some (.slice none 0 0) := Lib.cell_of_heap hz2 6
                have zf := Lib.frozen_of_heap hz2
                have HE : Hid (EndT p w wk s k2 m2 kf fe ((⟨yk, yn, yt, yo, ya⟩, .slice a1 n1 d1, .slice a2 n2 d2) : TV) _) := tree_end HP.out.1 hTn ((⟨yk, yn, yt, yo, ya⟩, .slice a1 n1 d1, .slice a2 n2 d2) : TV)
                unfold sv7 at HE
                dsimp only at HE
                clear hz2 hTn 
                go_wp2_with fail
                clear r0 r1 r2 r3 r4 r5 r6 zf
                generalize (((((((wk.setCell ⟨w.heap.size, 0, none⟩ (.int .i64 yk)).setCell ⟨w.heap.size, 1, none⟩ (.int .i64 yn)).setCell ⟨w.heap.size, 2, none⟩ (.string yt)).setCell ⟨w.heap.size, 3, none⟩ (.int .i64 yo)).setCell ⟨w.heap.size, 4, none⟩ (.int .i64 ya)).setCell ⟨w.heap.size, 5, none⟩ (.slice a1 n1 d1)).setCell ⟨w.heap.size, 6, none⟩ (.slice a2 n2 d2)) = W7 at *
                have h7 := HE.out.1
                dsimp only at h7
                have q0 : W7.cell? ⟨w.heap.size, 0, none⟩ = some (.int .i64 yk) := Lib.cell_of_heap h7 0
                have q1 : W7.cell? ⟨w.heap.size, 1, none⟩ = some (.int .i64 yn) := Lib.cell_of_heap h7 1
                have q2 : W7.cell? ⟨w.heap.size, 2, none⟩ = some (.string yt) := Lib.cell_of_heap h7 2
                have q3 : W7.cell? ⟨w.heap.size, 3, none⟩ = some (.int .i64 yo) := Lib.cell_of_heap h7 3
                have q4 : W7.cell? ⟨w.heap.size, 4, none⟩ = some (.int .i64 ya) := Lib.cell_of_heap h7 4
                have q5 : W7.cell? ⟨w.heap.size, 5, none⟩ = some (.slice a1 n1 d1) := Lib.cell_of_heap h7 5
                have q6 : W7.cell? ⟨w.heap.size, 6, none⟩ = some (.slice a2 n2 d2) := Lib.cell_of_heap h7 6
                exact bodyPost_ret (v := tval ((⟨yk, yn, yt, yo, ya⟩, .slice a1 n1 d1, .slice a2 n2 d2) : TV)) (by simp [tval, results, Tryz.results7, go_sem, q0, q1, q2, q3, q4, q5, q6]) rfl (HEND.out W7 HE.out)
            | false =>
              simp only [Bool.false_eq_true, if_false] at hpb1
              have HT5 : Hid (Tn w p s k m1 0 0 W5) := HT4.out.move HP.out.1 hrk1 hpb1
              have HLI : Hid (preB s k ⟨#[91]⟩ = false) := hpb
              clear hpb1 hrk1 hpb HT4
              have c0 : W5.cell? ⟨p, 0, none⟩ = some (.string s) := Lib.cell_of_heap HT5.out.pb 0
              have c1 : W5.cell? ⟨p, 1, none⟩ = some (.int .i64 (k : Int)) := Lib.cell_of_heap HT5.out.pb 1
              have HTD : Hid (Tn w p s k m1 0 0 W5.drew) := ⟨HT5.out.pb, HT5.out.box, HT5.out.rk.trans (Rk.of (Below.refl _ _).drew)⟩
              obtain ⟨qb, hqb⟩ : ∃ qb, preB s k ⟨#[34]⟩ = qb := ⟨_, rfl⟩
              have H34 : Hid (preB s k ⟨#[34]⟩ = qb) := hqb
              clear hqb
              go_upto_region 20 with fail
              go_cut [72] from 51 to 72 (fun x wx => x = .bool qb ∧ W5.drew = wx)
              case first =>
                by_cases hlt : k < s.size
                · have g1 : (k : Int) < s.size := by omega
                  have g3 : (0 : Int) ≤ (k : Int) := by omega
                  by_cases h34 : (s[k]'hlt).toNat = 34
                  · have j34 : (((s[k]'hlt).toNat : Int) == 34) = true := by rw [beq_iff_eq]; omega
                    obtain rfl : qb = true := by rw [← H34.out]; exact pre34_yes hlt h34
                    clear h34
                    go_wp2_with fail
                    refine wp_region_noPanic ?_
                    refine wp_region_held_drew (S := fun W => W.cell? ⟨p, 0, none⟩ = some (.string s) ∧ W.cell? ⟨p, 1, none⟩ = some (.int .i64 (k : Int))) (by kernel_rfl) (⟨c0, c1⟩) (fun hHeld => ?_)
                    refine wpAnyH_take (i := 0) (oi := { dst := some 51, op := Op.move (Operand.tmp 0), type := 38, pos := "json.go:120", after := #[], guard := none }) (v := ?_) rfl (by kernel_rfl) (by kernel_rfl) (by kernel_rfl) (fun _ _ _ h => h) (Or.inl ⟨by rfl, ?_⟩) (by assumption) ?_
                    rotate_left
                    · intro wz hSw
                      try dsimp only at hSw
                      go_simp
                      try with_reducible rfl
                    try simp only [Act.put, List.setIfInBounds_toArray, List.set_cons_zero, List.set_cons_succ]
                    refine wpAnyH_take (i := 1) (oi := { dst := some 52, op := Op.nilCheck (Operand.tmp 51), type := 0, pos := "json.go:120", after := #[{ on := 0, ground := Ground.data }], guard := none }) (v := ?_) rfl (by kernel_rfl) (by kernel_rfl) (by kernel_rfl) (fun _ _ _ h => h) (Or.inl ⟨by rfl, ?_⟩) (by assumption) ?_
                    rotate_left
                    · intro wz hSw
                      try dsimp only at hSw
                      go_simp
                      try with_reducible rfl
                    try simp only [Act.put, List.setIfInBounds_toArray, List.set_cons_zero, List.set_cons_succ]
                    refine wpAnyH_take (i := 2) (oi := { dst := some 53, op := Op.fieldAddr 40 (Operand.tmp 52) 1, type := 0, pos := "json.go:120", after := #[{ on := 1, ground := Ground.data }], guard := none }) (v := ?_) rfl (by kernel_rfl) (by kernel_rfl) (by kernel_rfl) (fun _ _ _ h => h) (Or.inl ⟨by rfl, ?_⟩) (by assumption) ?_
                    rotate_left
                    · intro wz hSw
                      try dsimp only at hSw
                      go_simp
                      try with_reducible rfl
                    try simp only [Act.put, List.setIfInBounds_toArray, List.set_cons_zero, List.set_cons_succ]
                    refine wpAnyH_take (i := 3) (oi := { dst := some 54, op := Op.load 3 (Operand.tmp 53), type := 3, pos := "json.go:120", after := #[{ on := 2, ground := Ground.data }], guard := none }) (v := ?_) rfl (by kernel_rfl) (by kernel_rfl) (by kernel_rfl) (fun _ _ _ h => h) (Or.inl ⟨by rfl, ?_⟩) (by assumption) ?_
                    rotate_left
                    · intro wz hSw
                      try dsimp only at hSw
                      go_simp
                      try with_reducible rfl
                    try simp only [Act.put, List.setIfInBounds_toArray, List.set_cons_zero, List.set_cons_succ]
                    refine wpAnyH_take (i := 4) (oi := { dst := some 55, op := Op.move (Operand.tmp 0), type := 38, pos := "json.go:120", after := #[], guard := none }) (v := ?_) rfl (by kernel_rfl) (by kernel_rfl) (by kernel_rfl) (fun _ _ _ h => h) (Or.inl ⟨by rfl, ?_⟩) (by assumption) ?_
                    rotate_left
                    · intro wz hSw
                      try dsimp only at hSw
                      go_simp
                      try with_reducible rfl
                    try simp only [Act.put, List.setIfInBounds_toArray, List.set_cons_zero, List.set_cons_succ]
                    refine wpAnyH_take (i := 5) (oi := { dst := some 56, op := Op.nilCheck (Operand.tmp 55), type := 0, pos := "json.go:120", after := #[{ on := 4, ground := Ground.data }], guard := none }) (v := ?_) rfl (by kernel_rfl) (by kernel_rfl) (by kernel_rfl) (fun _ _ _ h => h) (Or.inl ⟨by rfl, ?_⟩) (by assumption) ?_
                    rotate_left
                    · intro wz hSw
                      try dsimp only at hSw
                      go_simp
                      try with_reducible rfl
                    try simp only [Act.put, List.setIfInBounds_toArray, List.set_cons_zero, List.set_cons_succ]
                    refine wpAnyH_take (i := 6) (oi := { dst := some 57, op := Op.fieldAddr 40 (Operand.tmp 56) 0, type := 0, pos := "json.go:120", after := #[{ on := 5, ground := Ground.data }], guard := none }) (v := ?_) rfl (by kernel_rfl) (by kernel_rfl) (by kernel_rfl) (fun _ _ _ h => h) (Or.inl ⟨by rfl, ?_⟩) (by assumption) ?_
                    rotate_left
                    · intro wz hSw
                      try dsimp only at hSw
                      go_simp
                      try with_reducible rfl
                    try simp only [Act.put, List.setIfInBounds_toArray, List.set_cons_zero, List.set_cons_succ]
                    refine wpAnyH_take (i := 7) (oi := { dst := some 58, op := Op.load 9 (Operand.tmp 57), type := 9, pos := "json.go:120", after := #[{ on := 6, ground := Ground.data }], guard := none }) (v := ?_) rfl (by kernel_rfl) (by kernel_rfl) (by kernel_rfl) (fun _ _ _ h => h) (Or.inl ⟨by rfl, ?_⟩) (by assumption) ?_
                    rotate_left
                    · intro wz hSw
                      try dsimp only at hSw
                      go_simp
                      try with_reducible rfl
                    try simp only [Act.put, List.setIfInBounds_toArray, List.set_cons_zero, List.set_cons_succ]
                    refine wpAnyH_take (i := 8) (oi := { dst := some 59, op := Op.call { callee := Callee.builtin Builtin.len, args := #[Operand.tmp 58], argTypes := #[9] }, type := 3, pos := "json.go:120", after := #[{ on := 7, ground := Ground.data }], guard := none }) (v := ?_) rfl (by kernel_rfl) (by kernel_rfl) (by kernel_rfl) (fun _ _ _ h => h) (Or.inl ⟨by rfl, ?_⟩) (by assumption) ?_
                    rotate_left
                    · intro wz hSw
                      try dsimp only at hSw
                      go_simp
                      try with_reducible rfl
                    try simp only [Act.put, List.setIfInBounds_toArray, List.set_cons_zero, List.set_cons_succ]
                    refine wpAnyH_take (i := 9) (oi := { dst := some 60, op := Op.binOp BinOp.lss 3 (Operand.tmp 54) (Operand.tmp 59) 3, type := 4, pos := "json.go:120", after := #[{ on := 3, ground := Ground.data }, { on := 8, ground := Ground.data }], guard := none }) (v := ?_) rfl (by kernel_rfl) (by kernel_rfl) (by kernel_rfl) (fun _ _ _ h => h) (Or.inl ⟨by rfl, ?_⟩) (by assumption) ?_
                    rotate_left
                    · intro wz hSw
                      try dsimp only at hSw
                      go_simp
                      try with_reducible rfl
                    try simp only [Act.put, List.setIfInBounds_toArray, List.set_cons_zero, List.set_cons_succ]
                    refine wpAnyH_take (i := 10) (oi := { dst := some 61, op := Op.move (Operand.tmp 60), type := 4, pos := "json.go:120", after := #[{ on := 9, ground := Ground.data }], guard := none }) (v := ?_) rfl (by kernel_rfl) (by kernel_rfl) (by kernel_rfl) (fun _ _ _ h => h) (Or.inl ⟨by rfl, ?_⟩) (by assumption) ?_
                    rotate_left
                    · intro wz hSw
                      try dsimp only at hSw
                      go_simp
                      try with_reducible rfl
                    try simp only [Act.put, List.setIfInBounds_toArray, List.set_cons_zero, List.set_cons_succ]
                    refine wpAnyH_take (i := 11) (oi := { dst := some 62, op := Op.move (Operand.tmp 0), type := 38, pos := "json.go:120", after := #[{ on := 10, ground := Ground.guard }], guard := some (10, true) }) (v := ?_) rfl (by kernel_rfl) (by kernel_rfl) (by kernel_rfl) (fun _ _ _ h => h) (Or.inl ⟨by rfl, ?_⟩) (by assumption) ?_
                    rotate_left
                    · intro wz hSw
                      try dsimp only at hSw
                      go_simp
                      try with_reducible rfl
                    try simp only [Act.put, List.setIfInBounds_toArray, List.set_cons_zero, List.set_cons_succ]
                    refine wpAnyH_take (i := 12) (oi := { dst := some 63, op := Op.nilCheck (Operand.tmp 62), type := 0, pos := "json.go:120", after := #[{ on := 11, ground := Ground.data }, { on := 10, ground := Ground.guard }], guard := some (10, true) }) (v := ?_) rfl (by kernel_rfl) (by kernel_rfl) (by kernel_rfl) (fun _ _ _ h => h) (Or.inl ⟨by rfl, ?_⟩) (by assumption) ?_
                    rotate_left
                    · intro wz hSw
                      try dsimp only at hSw
                      go_simp
                      try with_reducible rfl
                    try simp only [Act.put, List.setIfInBounds_toArray, List.set_cons_zero, List.set_cons_succ]
                    refine wpAnyH_take (i := 13) (oi := { dst := some 64, op := Op.fieldAddr 40 (Operand.tmp 63) 0, type := 0, pos := "json.go:120", after := #[{ on := 12, ground := Ground.data }, { on := 10, ground := Ground.guard }], guard := some (10, true) }) (v := ?_) rfl (by kernel_rfl) (by kernel_rfl) (by kernel_rfl) (fun _ _ _ h => h) (Or.inl ⟨by rfl, ?_⟩) (by assumption) ?_
                    rotate_left
                    · intro wz hSw
                      try dsimp only at hSw
                      go_simp
                      try with_reducible rfl
                    try simp only [Act.put, List.setIfInBounds_toArray, List.set_cons_zero, List.set_cons_succ]
                    refine wpAnyH_take (i := 14) (oi := { dst := some 65, op := Op.load 9 (Operand.tmp 64), type := 9, pos := "json.go:120", after := #[{ on := 13, ground := Ground.data }, { on := 10, ground := Ground.guard }], guard := some (10, true) }) (v := ?_) rfl (by kernel_rfl) (by kernel_rfl) (by kernel_rfl) (fun _ _ _ h => h) (Or.inl ⟨by rfl, ?_⟩) (by assumption) ?_
                    rotate_left
                    · intro wz hSw
                      try dsimp only at hSw
                      go_simp
                      try with_reducible rfl
                    try simp only [Act.put, List.setIfInBounds_toArray, List.set_cons_zero, List.set_cons_succ]
                    refine wpAnyH_take (i := 15) (oi := { dst := some 66, op := Op.move (Operand.tmp 0), type := 38, pos := "json.go:120", after := #[{ on := 10, ground := Ground.guard }], guard := some (10, true) }) (v := ?_) rfl (by kernel_rfl) (by kernel_rfl) (by kernel_rfl) (fun _ _ _ h => h) (Or.inl ⟨by rfl, ?_⟩) (by assumption) ?_
                    rotate_left
                    · intro wz hSw
                      try dsimp only at hSw
                      go_simp
                      try with_reducible rfl
                    try simp only [Act.put, List.setIfInBounds_toArray, List.set_cons_zero, List.set_cons_succ]
                    refine wpAnyH_take (i := 16) (oi := { dst := some 67, op := Op.nilCheck (Operand.tmp 66), type := 0, pos := "json.go:120", after := #[{ on := 15, ground := Ground.data }, { on := 10, ground := Ground.guard }], guard := some (10, true) }) (v := ?_) rfl (by kernel_rfl) (by kernel_rfl) (by kernel_rfl) (fun _ _ _ h => h) (Or.inl ⟨by rfl, ?_⟩) (by assumption) ?_
                    rotate_left
                    · intro wz hSw
                      try dsimp only at hSw
                      go_simp
                      try with_reducible rfl
                    try simp only [Act.put, List.setIfInBounds_toArray, List.set_cons_zero, List.set_cons_succ]
                    refine wpAnyH_take (i := 17) (oi := { dst := some 68, op := Op.fieldAddr 40 (Operand.tmp 67) 1, type := 0, pos := "json.go:120", after := #[{ on := 16, ground := Ground.data }, { on := 10, ground := Ground.guard }], guard := some (10, true) }) (v := ?_) rfl (by kernel_rfl) (by kernel_rfl) (by kernel_rfl) (fun _ _ _ h => h) (Or.inl ⟨by rfl, ?_⟩) (by assumption) ?_
                    rotate_left
                    · intro wz hSw
                      try dsimp only at hSw
                      go_simp
                      try with_reducible rfl
                    try simp only [Act.put, List.setIfInBounds_toArray, List.set_cons_zero, List.set_cons_succ]
                    refine wpAnyH_take (i := 18) (oi := { dst := some 69, op := Op.load 3 (Operand.tmp 68), type := 3, pos := "json.go:120", after := #[{ on := 17, ground := Ground.data }, { on := 10, ground := Ground.guard }], guard := some (10, true) }) (v := ?_) rfl (by kernel_rfl) (by kernel_rfl) (by kernel_rfl) (fun _ _ _ h => h) (Or.inl ⟨by rfl, ?_⟩) (by assumption) ?_
                    rotate_left
                    · intro wz hSw
                      try dsimp only at hSw
                      go_simp
                      try with_reducible rfl
                    try simp only [Act.put, List.setIfInBounds_toArray, List.set_cons_zero, List.set_cons_succ]
                    refine wpAnyH_take (i := 19) (oi := { dst := some 70, op := Op.index 9 (Operand.tmp 65) (Operand.tmp 69), type := 5, pos := "json.go:120", after := #[{ on := 14, ground := Ground.data }, { on := 18, ground := Ground.data }, { on := 10, ground := Ground.guard }], guard := some (10, true) }) (v := ?_) rfl (by kernel_rfl) (by kernel_rfl) (by kernel_rfl) (fun _ _ _ h => h) (Or.inl ⟨by rfl, ?_⟩) (by assumption) ?_
                    rotate_left
                    · intro wz hSw
                      try dsimp only at hSw
                      go_simp
                      try with_reducible rfl
                    try simp only [Act.put, List.setIfInBounds_toArray, List.set_cons_zero, List.set_cons_succ]
                    refine wpAnyH_take (i := 20) (oi := { dst := some 71, op := Op.binOp BinOp.eql 5 (Operand.tmp 70) (Operand.const (Value.int IntKind.u8 34)) 5, type := 4, pos := "json.go:120", after := #[{ on := 19, ground := Ground.data }, { on := 10, ground := Ground.guard }], guard := some (10, true) }) (v := ?_) rfl (by kernel_rfl) (by kernel_rfl) (by kernel_rfl) (fun _ _ _ h => h) (Or.inl ⟨by rfl, ?_⟩) (by assumption) ?_
                    rotate_left
                    · intro wz hSw
                      try dsimp only at hSw
                      go_simp
                      try with_reducible rfl
                    try simp only [Act.put, List.setIfInBounds_toArray, List.set_cons_zero, List.set_cons_succ]
                    refine wpAnyH_take (i := 21) (oi := { dst := some 72, op := Op.pick (Operand.tmp 61) (Operand.tmp 71) (Operand.const (Value.bool false)), type := 4, pos := "json.go:120", after := #[{ on := 10, ground := Ground.data }, { on := 20, ground := Ground.data }], guard := none }) (v := ?_) rfl (by kernel_rfl) (by kernel_rfl) (by kernel_rfl) (fun _ _ _ h => h) (Or.inl ⟨by rfl, ?_⟩) (by assumption) ?_
                    rotate_left
                    · intro wz hSw
                      try dsimp only at hSw
                      go_simp
                      try with_reducible rfl
                    try simp only [Act.put, List.setIfInBounds_toArray, List.set_cons_zero, List.set_cons_succ]
                    refine wpAnyH_done (by kernel_rfl) ?_ _
                    refine NoPanic.normal ?_
                    clear hHeld c0 c1 j34 HT5
                    go_wp2_with fail
                    go_meet
                    case rel => exact ⟨rfl, rfl⟩
                  · have j34 : (((s[k]'hlt).toNat : Int) == 34) = false := by rw [beq_eq_false_iff_ne]; omega
                    obtain rfl : qb = false := by rw [← H34.out]; exact pre34_no hlt h34
                    clear h34
                    go_wp2_with fail
                    refine wp_region_noPanic ?_
                    refine wp_region_held_drew (S := fun W => W.cell? ⟨p, 0, none⟩ = some (.string s) ∧ W.cell? ⟨p, 1, none⟩ = some (.int .i64 (k : Int))) (by kernel_rfl) (⟨c0, c1⟩) (fun hHeld => ?_)
                    refine wpAnyH_take (i := 0) (oi := { dst := some 51, op := Op.move (Operand.tmp 0), type := 38, pos := "json.go:120", after := #[], guard := none }) (v := ?_) rfl (by kernel_rfl) (by kernel_rfl) (by kernel_rfl) (fun _ _ _ h => h) (Or.inl ⟨by rfl, ?_⟩) (by assumption) ?_
                    rotate_left
                    · intro wz hSw
                      try dsimp only at hSw
                      go_simp
                      try with_reducible rfl
                    try simp only [Act.put, List.setIfInBounds_toArray, List.set_cons_zero, List.set_cons_succ]
                    refine wpAnyH_take (i := 1) (oi := { dst := some 52, op := Op.nilCheck (Operand.tmp 51), type := 0, pos := "json.go:120", after := #[{ on := 0, ground := Ground.data }], guard := none }) (v := ?_) rfl (by kernel_rfl) (by kernel_rfl) (by kernel_rfl) (fun _ _ _ h => h) (Or.inl ⟨by rfl, ?_⟩) (by assumption) ?_
                    rotate_left
                    · intro wz hSw
                      try dsimp only at hSw
                      go_simp
                      try with_reducible rfl
                    try simp only [Act.put, List.setIfInBounds_toArray, List.set_cons_zero, List.set_cons_succ]
                    refine wpAnyH_take (i := 2) (oi := { dst := some 53, op := Op.fieldAddr 40 (Operand.tmp 52) 1, type := 0, pos := "json.go:120", after := #[{ on := 1, ground := Ground.data }], guard := none }) (v := ?_) rfl (by kernel_rfl) (by kernel_rfl) (by kernel_rfl) (fun _ _ _ h => h) (Or.inl ⟨by rfl, ?_⟩) (by assumption) ?_
                    rotate_left
                    · intro wz hSw
                      try dsimp only at hSw
                      go_simp
                      try with_reducible rfl
                    try simp only [Act.put, List.setIfInBounds_toArray, List.set_cons_zero, List.set_cons_succ]
                    refine wpAnyH_take (i := 3) (oi := { dst := some 54, op := Op.load 3 (Operand.tmp 53), type := 3, pos := "json.go:120", after := #[{ on := 2, ground := Ground.data }], guard := none }) (v := ?_) rfl (by kernel_rfl) (by kernel_rfl) (by kernel_rfl) (fun _ _ _ h => h) (Or.inl ⟨by rfl, ?_⟩) (by assumption) ?_
                    rotate_left
                    · intro wz hSw
                      try dsimp only at hSw
                      go_simp
                      try with_reducible rfl
                    try simp only [Act.put, List.setIfInBounds_toArray, List.set_cons_zero, List.set_cons_succ]
                    refine wpAnyH_take (i := 4) (oi := { dst := some 55, op := Op.move (Operand.tmp 0), type := 38, pos := "json.go:120", after := #[], guard := none }) (v := ?_) rfl (by kernel_rfl) (by kernel_rfl) (by kernel_rfl) (fun _ _ _ h => h) (Or.inl ⟨by rfl, ?_⟩) (by assumption) ?_
                    rotate_left
                    · intro wz hSw
                      try dsimp only at hSw
                      go_simp
                      try with_reducible rfl
                    try simp only [Act.put, List.setIfInBounds_toArray, List.set_cons_zero, List.set_cons_succ]
                    refine wpAnyH_take (i := 5) (oi := { dst := some 56, op := Op.nilCheck (Operand.tmp 55), type := 0, pos := "json.go:120", after := #[{ on := 4, ground := Ground.data }], guard := none }) (v := ?_) rfl (by kernel_rfl) (by kernel_rfl) (by kernel_rfl) (fun _ _ _ h => h) (Or.inl ⟨by rfl, ?_⟩) (by assumption) ?_
                    rotate_left
                    · intro wz hSw
                      try dsimp only at hSw
                      go_simp
                      try with_reducible rfl
                    try simp only [Act.put, List.setIfInBounds_toArray, List.set_cons_zero, List.set_cons_succ]
                    refine wpAnyH_take (i := 6) (oi := { dst := some 57, op := Op.fieldAddr 40 (Operand.tmp 56) 0, type := 0, pos := "json.go:120", after := #[{ on := 5, ground := Ground.data }], guard := none }) (v := ?_) rfl (by kernel_rfl) (by kernel_rfl) (by kernel_rfl) (fun _ _ _ h => h) (Or.inl ⟨by rfl, ?_⟩) (by assumption) ?_
                    rotate_left
                    · intro wz hSw
                      try dsimp only at hSw
                      go_simp
                      try with_reducible rfl
                    try simp only [Act.put, List.setIfInBounds_toArray, List.set_cons_zero, List.set_cons_succ]
                    refine wpAnyH_take (i := 7) (oi := { dst := some 58, op := Op.load 9 (Operand.tmp 57), type := 9, pos := "json.go:120", after := #[{ on := 6, ground := Ground.data }], guard := none }) (v := ?_) rfl (by kernel_rfl) (by kernel_rfl) (by kernel_rfl) (fun _ _ _ h => h) (Or.inl ⟨by rfl, ?_⟩) (by assumption) ?_
                    rotate_left
                    · intro wz hSw
                      try dsimp only at hSw
                      go_simp
                      try with_reducible rfl
                    try simp only [Act.put, List.setIfInBounds_toArray, List.set_cons_zero, List.set_cons_succ]
                    refine wpAnyH_take (i := 8) (oi := { dst := some 59, op := Op.call { callee := Callee.builtin Builtin.len, args := #[Operand.tmp 58], argTypes := #[9] }, type := 3, pos := "json.go:120", after := #[{ on := 7, ground := Ground.data }], guard := none }) (v := ?_) rfl (by kernel_rfl) (by kernel_rfl) (by kernel_rfl) (fun _ _ _ h => h) (Or.inl ⟨by rfl, ?_⟩) (by assumption) ?_
                    rotate_left
                    · intro wz hSw
                      try dsimp only at hSw
                      go_simp
                      try with_reducible rfl
                    try simp only [Act.put, List.setIfInBounds_toArray, List.set_cons_zero, List.set_cons_succ]
                    refine wpAnyH_take (i := 9) (oi := { dst := some 60, op := Op.binOp BinOp.lss 3 (Operand.tmp 54) (Operand.tmp 59) 3, type := 4, pos := "json.go:120", after := #[{ on := 3, ground := Ground.data }, { on := 8, ground := Ground.data }], guard := none }) (v := ?_) rfl (by kernel_rfl) (by kernel_rfl) (by kernel_rfl) (fun _ _ _ h => h) (Or.inl ⟨by rfl, ?_⟩) (by assumption) ?_
                    rotate_left
                    · intro wz hSw
                      try dsimp only at hSw
                      go_simp
                      try with_reducible rfl
                    try simp only [Act.put, List.setIfInBounds_toArray, List.set_cons_zero, List.set_cons_succ]
                    refine wpAnyH_take (i := 10) (oi := { dst := some 61, op := Op.move (Operand.tmp 60), type := 4, pos := "json.go:120", after := #[{ on := 9, ground := Ground.data }], guard := none }) (v := ?_) rfl (by kernel_rfl) (by kernel_rfl) (by kernel_rfl) (fun _ _ _ h => h) (Or.inl ⟨by rfl, ?_⟩) (by assumption) ?_
                    rotate_left
                    · intro wz hSw
                      try dsimp only at hSw
                      go_simp
                      try with_reducible rfl
                    try simp only [Act.put, List.setIfInBounds_toArray, List.set_cons_zero, List.set_cons_succ]
                    refine wpAnyH_take (i := 11) (oi := { dst := some 62, op := Op.move (Operand.tmp 0), type := 38, pos := "json.go:120", after := #[{ on := 10, ground := Ground.guard }], guard := some (10, true) }) (v := ?_) rfl (by kernel_rfl) (by kernel_rfl) (by kernel_rfl) (fun _ _ _ h => h) (Or.inl ⟨by rfl, ?_⟩) (by assumption) ?_
                    rotate_left
                    · intro wz hSw
                      try dsimp only at hSw
                      go_simp
                      try with_reducible rfl
                    try simp only [Act.put, List.setIfInBounds_toArray, List.set_cons_zero, List.set_cons_succ]
                    refine wpAnyH_take (i := 12) (oi := { dst := some 63, op := Op.nilCheck (Operand.tmp 62), type := 0, pos := "json.go:120", after := #[{ on := 11, ground := Ground.data }, { on := 10, ground := Ground.guard }], guard := some (10, true) }) (v := ?_) rfl (by kernel_rfl) (by kernel_rfl) (by kernel_rfl) (fun _ _ _ h => h) (Or.inl ⟨by rfl, ?_⟩) (by assumption) ?_
                    rotate_left
                    · intro wz hSw
                      try dsimp only at hSw
                      go_simp
                      try with_reducible rfl
                    try simp only [Act.put, List.setIfInBounds_toArray, List.set_cons_zero, List.set_cons_succ]
                    refine wpAnyH_take (i := 13) (oi := { dst := some 64, op := Op.fieldAddr 40 (Operand.tmp 63) 0, type := 0, pos := "json.go:120", after := #[{ on := 12, ground := Ground.data }, { on := 10, ground := Ground.guard }], guard := some (10, true) }) (v := ?_) rfl (by kernel_rfl) (by kernel_rfl) (by kernel_rfl) (fun _ _ _ h => h) (Or.inl ⟨by rfl, ?_⟩) (by assumption) ?_
                    rotate_left
                    · intro wz hSw
                      try dsimp only at hSw
                      go_simp
                      try with_reducible rfl
                    try simp only [Act.put, List.setIfInBounds_toArray, List.set_cons_zero, List.set_cons_succ]
                    refine wpAnyH_take (i := 14) (oi := { dst := some 65, op := Op.load 9 (Operand.tmp 64), type := 9, pos := "json.go:120", after := #[{ on := 13, ground := Ground.data }, { on := 10, ground := Ground.guard }], guard := some (10, true) }) (v := ?_) rfl (by kernel_rfl) (by kernel_rfl) (by kernel_rfl) (fun _ _ _ h => h) (Or.inl ⟨by rfl, ?_⟩) (by assumption) ?_
                    rotate_left
                    · intro wz hSw
                      try dsimp only at hSw
                      go_simp
                      try with_reducible rfl
                    try simp only [Act.put, List.setIfInBounds_toArray, List.set_cons_zero, List.set_cons_succ]
                    refine wpAnyH_take (i := 15) (oi := { dst := some 66, op := Op.move (Operand.tmp 0), type := 38, pos := "json.go:120", after := #[{ on := 10, ground := Ground.guard }], guard := some (10, true) }) (v := ?_) rfl (by kernel_rfl) (by kernel_rfl) (by kernel_rfl) (fun _ _ _ h => h) (Or.inl ⟨by rfl, ?_⟩) (by assumption) ?_
                    rotate_left
                    · intro wz hSw
                      try dsimp only at hSw
                      go_simp
                      try with_reducible rfl
                    try simp only [Act.put, List.setIfInBounds_toArray, List.set_cons_zero, List.set_cons_succ]
                    refine wpAnyH_take (i := 16) (oi := { dst := some 67, op := Op.nilCheck (Operand.tmp 66), type := 0, pos := "json.go:120", after := #[{ on := 15, ground := Ground.data }, { on := 10, ground := Ground.guard }], guard := some (10, true) }) (v := ?_) rfl (by kernel_rfl) (by kernel_rfl) (by kernel_rfl) (fun _ _ _ h => h) (Or.inl ⟨by rfl, ?_⟩) (by assumption) ?_
                    rotate_left
                    · intro wz hSw
                      try dsimp only at hSw
                      go_simp
                      try with_reducible rfl
                    try simp only [Act.put, List.setIfInBounds_toArray, List.set_cons_zero, List.set_cons_succ]
                    refine wpAnyH_take (i := 17) (oi := { dst := some 68, op := Op.fieldAddr 40 (Operand.tmp 67) 1, type := 0, pos := "json.go:120", after := #[{ on := 16, ground := Ground.data }, { on := 10, ground := Ground.guard }], guard := some (10, true) }) (v := ?_) rfl (by kernel_rfl) (by kernel_rfl) (by kernel_rfl) (fun _ _ _ h => h) (Or.inl ⟨by rfl, ?_⟩) (by assumption) ?_
                    rotate_left
                    · intro wz hSw
                      try dsimp only at hSw
                      go_simp
                      try with_reducible rfl
                    try simp only [Act.put, List.setIfInBounds_toArray, List.set_cons_zero, List.set_cons_succ]
                    refine wpAnyH_take (i := 18) (oi := { dst := some 69, op := Op.load 3 (Operand.tmp 68), type := 3, pos := "json.go:120", after := #[{ on := 17, ground := Ground.data }, { on := 10, ground := Ground.guard }], guard := some (10, true) }) (v := ?_) rfl (by kernel_rfl) (by kernel_rfl) (by kernel_rfl) (fun _ _ _ h => h) (Or.inl ⟨by rfl, ?_⟩) (by assumption) ?_
                    rotate_left
                    · intro wz hSw
                      try dsimp only at hSw
                      go_simp
                      try with_reducible rfl
                    try simp only [Act.put, List.setIfInBounds_toArray, List.set_cons_zero, List.set_cons_succ]
                    refine wpAnyH_take (i := 19) (oi := { dst := some 70, op := Op.index 9 (Operand.tmp 65) (Operand.tmp 69), type := 5, pos := "json.go:120", after := #[{ on := 14, ground := Ground.data }, { on := 18, ground := Ground.data }, { on := 10, ground := Ground.guard }], guard := some (10, true) }) (v := ?_) rfl (by kernel_rfl) (by kernel_rfl) (by kernel_rfl) (fun _ _ _ h => h) (Or.inl ⟨by rfl, ?_⟩) (by assumption) ?_
                    rotate_left
                    · intro wz hSw
                      try dsimp only at hSw
                      go_simp
                      try with_reducible rfl
                    try simp only [Act.put, List.setIfInBounds_toArray, List.set_cons_zero, List.set_cons_succ]
                    refine wpAnyH_take (i := 20) (oi := { dst := some 71, op := Op.binOp BinOp.eql 5 (Operand.tmp 70) (Operand.const (Value.int IntKind.u8 34)) 5, type := 4, pos := "json.go:120", after := #[{ on := 19, ground := Ground.data }, { on := 10, ground := Ground.guard }], guard := some (10, true) }) (v := ?_) rfl (by kernel_rfl) (by kernel_rfl) (by kernel_rfl) (fun _ _ _ h => h) (Or.inl ⟨by rfl, ?_⟩) (by assumption) ?_
                    rotate_left
                    · intro wz hSw
                      try dsimp only at hSw
                      go_simp
                      try with_reducible rfl
                    try simp only [Act.put, List.setIfInBounds_toArray, List.set_cons_zero, List.set_cons_succ]
                    refine wpAnyH_take (i := 21) (oi := { dst := some 72, op := Op.pick (Operand.tmp 61) (Operand.tmp 71) (Operand.const (Value.bool false)), type := 4, pos := "json.go:120", after := #[{ on := 10, ground := Ground.data }, { on := 20, ground := Ground.data }], guard := none }) (v := ?_) rfl (by kernel_rfl) (by kernel_rfl) (by kernel_rfl) (fun _ _ _ h => h) (Or.inl ⟨by rfl, ?_⟩) (by assumption) ?_
                    rotate_left
                    · intro wz hSw
                      try dsimp only at hSw
                      go_simp
                      try with_reducible rfl
                    try simp only [Act.put, List.setIfInBounds_toArray, List.set_cons_zero, List.set_cons_succ]
                    refine wpAnyH_done (by kernel_rfl) ?_ _
                    refine NoPanic.normal ?_
                    clear hHeld c0 c1 j34 HT5
                    go_wp2_with fail
                    go_meet
                    case rel => exact ⟨rfl, rfl⟩
                · have GF : Hid (decide ((k : Int) < s.size) = false) := decide_eq_false (by omega)
                  have g1 : ¬ (k : Int) < s.size := by omega
                  obtain rfl : qb = false := by rw [← H34.out]; exact pre34_end hlt
                  go_wp2_with fail
                  refine wp_region_noPanic ?_
                  refine wp_region_held_drew (S := fun W => W.cell? ⟨p, 0, none⟩ = some (.string s) ∧ W.cell? ⟨p, 1, none⟩ = some (.int .i64 (k : Int))) (by kernel_rfl) (⟨c0, c1⟩) (fun hHeld => ?_)
                  refine wpAnyH_take (i := 0) (oi := { dst := some 51, op := Op.move (Operand.tmp 0), type := 38, pos := "json.go:120", after := #[], guard := none }) (v := ?_) rfl (by kernel_rfl) (by kernel_rfl) (by kernel_rfl) (fun _ _ _ h => h) (Or.inl ⟨by rfl, ?_⟩) (by assumption) ?_
                  rotate_left
                  · intro wz hSw
                    try dsimp only at hSw
                    go_simp
                    try with_reducible rfl
                  try simp only [Act.put, List.setIfInBounds_toArray, List.set_cons_zero, List.set_cons_succ]
                  refine wpAnyH_take (i := 1) (oi := { dst := some 52, op := Op.nilCheck (Operand.tmp 51), type := 0, pos := "json.go:120", after := #[{ on := 0, ground := Ground.data }], guard := none }) (v := ?_) rfl (by kernel_rfl) (by kernel_rfl) (by kernel_rfl) (fun _ _ _ h => h) (Or.inl ⟨by rfl, ?_⟩) (by assumption) ?_
                  rotate_left
                  · intro wz hSw
                    try dsimp only at hSw
                    go_simp
                    try with_reducible rfl
                  try simp only [Act.put, List.setIfInBounds_toArray, List.set_cons_zero, List.set_cons_succ]
                  refine wpAnyH_take (i := 2) (oi := { dst := some 53, op := Op.fieldAddr 40 (Operand.tmp 52) 1, type := 0, pos := "json.go:120", after := #[{ on := 1, ground := Ground.data }], guard := none }) (v := ?_) rfl (by kernel_rfl) (by kernel_rfl) (by kernel_rfl) (fun _ _ _ h => h) (Or.inl ⟨by rfl, ?_⟩) (by assumption) ?_
                  rotate_left
                  · intro wz hSw
                    try dsimp only at hSw
                    go_simp
                    try with_reducible rfl
                  try simp only [Act.put, List.setIfInBounds_toArray, List.set_cons_zero, List.set_cons_succ]
                  refine wpAnyH_take (i := 3) (oi := { dst := some 54, op := Op.load 3 (Operand.tmp 53), type := 3, pos := "json.go:120", after := #[{ on := 2, ground := Ground.data }], guard := none }) (v := ?_) rfl (by kernel_rfl) (by kernel_rfl) (by kernel_rfl) (fun _ _ _ h => h) (Or.inl ⟨by rfl, ?_⟩) (by assumption) ?_
                  rotate_left
                  · intro wz hSw
                    try dsimp only at hSw
                    go_simp
                    try with_reducible rfl
                  try simp only [Act.put, List.setIfInBounds_toArray, List.set_cons_zero, List.set_cons_succ]
                  refine wpAnyH_take (i := 4) (oi := { dst := some 55, op := Op.move (Operand.tmp 0), type := 38, pos := "json.go:120", after := #[], guard := none }) (v := ?_) rfl (by kernel_rfl) (by kernel_rfl) (by kernel_rfl) (fun _ _ _ h => h) (Or.inl ⟨by rfl, ?_⟩) (by assumption) ?_
                  rotate_left
                  · intro wz hSw
                    try dsimp only at hSw
                    go_simp
                    try with_reducible rfl
                  try simp only [Act.put, List.setIfInBounds_toArray, List.set_cons_zero, List.set_cons_succ]
                  refine wpAnyH_take (i := 5) (oi := { dst := some 56, op := Op.nilCheck (Operand.tmp 55), type := 0, pos := "json.go:120", after := #[{ on := 4, ground := Ground.data }], guard := none }) (v := ?_) rfl (by kernel_rfl) (by kernel_rfl) (by kernel_rfl) (fun _ _ _ h => h) (Or.inl ⟨by rfl, ?_⟩) (by assumption) ?_
                  rotate_left
                  · intro wz hSw
                    try dsimp only at hSw
                    go_simp
                    try with_reducible rfl
                  try simp only [Act.put, List.setIfInBounds_toArray, List.set_cons_zero, List.set_cons_succ]
                  refine wpAnyH_take (i := 6) (oi := { dst := some 57, op := Op.fieldAddr 40 (Operand.tmp 56) 0, type := 0, pos := "json.go:120", after := #[{ on := 5, ground := Ground.data }], guard := none }) (v := ?_) rfl (by kernel_rfl) (by kernel_rfl) (by kernel_rfl) (fun _ _ _ h => h) (Or.inl ⟨by rfl, ?_⟩) (by assumption) ?_
                  rotate_left
                  · intro wz hSw
                    try dsimp only at hSw
                    go_simp
                    try with_reducible rfl
                  try simp only [Act.put, List.setIfInBounds_toArray, List.set_cons_zero, List.set_cons_succ]
                  refine wpAnyH_take (i := 7) (oi := { dst := some 58, op := Op.load 9 (Operand.tmp 57), type := 9, pos := "json.go:120", after := #[{ on := 6, ground := Ground.data }], guard := none }) (v := ?_) rfl (by kernel_rfl) (by kernel_rfl) (by kernel_rfl) (fun _ _ _ h => h) (Or.inl ⟨by rfl, ?_⟩) (by assumption) ?_
                  rotate_left
                  · intro wz hSw
                    try dsimp only at hSw
                    go_simp
                    try with_reducible rfl
                  try simp only [Act.put, List.setIfInBounds_toArray, List.set_cons_zero, List.set_cons_succ]
                  refine wpAnyH_take (i := 8) (oi := { dst := some 59, op := Op.call { callee := Callee.builtin Builtin.len, args := #[Operand.tmp 58], argTypes := #[9] }, type := 3, pos := "json.go:120", after := #[{ on := 7, ground := Ground.data }], guard := none }) (v := ?_) rfl (by kernel_rfl) (by kernel_rfl) (by kernel_rfl) (fun _ _ _ h => h) (Or.inl ⟨by rfl, ?_⟩) (by assumption) ?_
                  rotate_left
                  · intro wz hSw
                    try dsimp only at hSw
                    go_simp
                    try with_reducible rfl
                  try simp only [Act.put, List.setIfInBounds_toArray, List.set_cons_zero, List.set_cons_succ]
                  refine wpAnyH_take (i := 9) (oi := { dst := some 60, op := Op.binOp BinOp.lss 3 (Operand.tmp 54) (Operand.tmp 59) 3, type := 4, pos := "json.go:120", after := #[{ on := 3, ground := Ground.data }, { on := 8, ground := Ground.data }], guard := none }) (v := .bool false) rfl (by kernel_rfl) (by kernel_rfl) (by kernel_rfl) (fun _ _ _ h => h) (Or.inl ⟨by rfl, ?_⟩) (by assumption) ?_
                  · intro wz hSw
                    try dsimp only at hSw
                    rw [← GF.out]
                    go_simp
                    try with_reducible rfl
                  try simp only [Act.put, List.setIfInBounds_toArray, List.set_cons_zero, List.set_cons_succ]
                  refine wpAnyH_take (i := 10) (oi := { dst := some 61, op := Op.move (Operand.tmp 60), type := 4, pos := "json.go:120", after := #[{ on := 9, ground := Ground.data }], guard := none }) (v := ?_) rfl (by kernel_rfl) (by kernel_rfl) (by kernel_rfl) (fun _ _ _ h => h) (Or.inl ⟨by rfl, ?_⟩) (by assumption) ?_
                  rotate_left
                  · intro wz hSw
                    try dsimp only at hSw
                    go_simp
                    try with_reducible rfl
                  try simp only [Act.put, List.setIfInBounds_toArray, List.set_cons_zero, List.set_cons_succ]
                  refine wpAnyH_take (i := 11) (oi := { dst := some 62, op := Op.move (Operand.tmp 0), type := 38, pos := "json.go:120", after := #[{ on := 10, ground := Ground.guard }], guard := some (10, true) }) (v := undef) rfl (by kernel_rfl) (by kernel_rfl) (by kernel_rfl) (fun _ _ _ h => h) (Or.inr ⟨by rfl, rfl⟩) (by assumption) ?_
                  try simp only [Act.put, List.setIfInBounds_toArray, List.set_cons_zero, List.set_cons_succ]
                  refine wpAnyH_take (i := 12) (oi := { dst := some 63, op := Op.nilCheck (Operand.tmp 62), type := 0, pos := "json.go:120", after := #[{ on := 11, ground := Ground.data }, { on := 10, ground := Ground.guard }], guard := some (10, true) }) (v := undef) rfl (by kernel_rfl) (by kernel_rfl) (by kernel_rfl) (fun _ _ _ h => h) (Or.inr ⟨by rfl, rfl⟩) (by assumption) ?_
                  try simp only [Act.put, List.setIfInBounds_toArray, List.set_cons_zero, List.set_cons_succ]
                  refine wpAnyH_take (i := 13) (oi := { dst := some 64, op := Op.fieldAddr 40 (Operand.tmp 63) 0, type := 0, pos := "json.go:120", after := #[{ on := 12, ground := Ground.data }, { on := 10, ground := Ground.guard }], guard := some (10, true) }) (v := undef) rfl (by kernel_rfl) (by kernel_rfl) (by kernel_rfl) (fun _ _ _ h => h) (Or.inr ⟨by rfl, rfl⟩) (by assumption) ?_
                  try simp only [Act.put, List.setIfInBounds_toArray, List.set_cons_zero, List.set_cons_succ]
                  refine wpAnyH_take (i := 14) (oi := { dst := some 65, op := Op.load 9 (Operand.tmp 64), type := 9, pos := "json.go:120", after := #[{ on := 13, ground := Ground.data }, { on := 10, ground := Ground.guard }], guard := some (10, true) }) (v := undef) rfl (by kernel_rfl) (by kernel_rfl) (by kernel_rfl) (fun _ _ _ h => h) (Or.inr ⟨by rfl, rfl⟩) (by assumption) ?_
                  try simp only [Act.put, List.setIfInBounds_toArray, List.set_cons_zero, List.set_cons_succ]
                  refine wpAnyH_take (i := 15) (oi := { dst := some 66, op := Op.move (Operand.tmp 0), type := 38, pos := "json.go:120", after := #[{ on := 10, ground := Ground.guard }], guard := some (10, true) }) (v := undef) rfl (by kernel_rfl) (by kernel_rfl) (by kernel_rfl) (fun _ _ _ h => h) (Or.inr ⟨by rfl, rfl⟩) (by assumption) ?_
                  try simp only [Act.put, List.setIfInBounds_toArray, List.set_cons_zero, List.set_cons_succ]
                  refine wpAnyH_take (i := 16) (oi := { dst := some 67, op := Op.nilCheck (Operand.tmp 66), type := 0, pos := "json.go:120", after := #[{ on := 15, ground := Ground.data }, { on := 10, ground := Ground.guard }], guard := some (10, true) }) (v := undef) rfl (by kernel_rfl) (by kernel_rfl) (by kernel_rfl) (fun _ _ _ h => h) (Or.inr ⟨by rfl, rfl⟩) (by assumption) ?_
                  try simp only [Act.put, List.setIfInBounds_toArray, List.set_cons_zero, List.set_cons_succ]
                  refine wpAnyH_take (i := 17) (oi := { dst := some 68, op := Op.fieldAddr 40 (Operand.tmp 67) 1, type := 0, pos := "json.go:120", after := #[{ on := 16, ground := Ground.data }, { on := 10, ground := Ground.guard }], guard := some (10, true) }) (v := undef) rfl (by kernel_rfl) (by kernel_rfl) (by kernel_rfl) (fun _ _ _ h => h) (Or.inr ⟨by rfl, rfl⟩) (by assumption) ?_
                  try simp only [Act.put, List.setIfInBounds_toArray, List.set_cons_zero, List.set_cons_succ]
                  refine wpAnyH_take (i := 18) (oi := { dst := some 69, op := Op.load 3 (Operand.tmp 68), type := 3, pos := "json.go:120", after := #[{ on := 17, ground := Ground.data }, { on := 10, ground := Ground.guard }], guard := some (10, true) }) (v := undef) rfl (by kernel_rfl) (by kernel_rfl) (by kernel_rfl) (fun _ _ _ h => h) (Or.inr ⟨by rfl, rfl⟩) (by assumption) ?_
                  try simp only [Act.put, List.setIfInBounds_toArray, List.set_cons_zero, List.set_cons_succ]
                  refine wpAnyH_take (i := 19) (oi := { dst := some 70, op := Op.index 9 (Operand.tmp 65) (Operand.tmp 69), type := 5, pos := "json.go:120", after := #[{ on := 14, ground := Ground.data }, { on := 18, ground := Ground.data }, { on := 10, ground := Ground.guard }], guard := some (10, true) }) (v := undef) rfl (by kernel_rfl) (by kernel_rfl) (by kernel_rfl) (fun _ _ _ h => h) (Or.inr ⟨by rfl, rfl⟩) (by assumption) ?_
                  try simp only [Act.put, List.setIfInBounds_toArray, List.set_cons_zero, List.set_cons_succ]
                  refine wpAnyH_take (i := 20) (oi := { dst := some 71, op := Op.binOp BinOp.eql 5 (Operand.tmp 70) (Operand.const (Value.int IntKind.u8 34)) 5, type := 4, pos := "json.go:120", after := #[{ on := 19, ground := Ground.data }, { on := 10, ground := Ground.guard }], guard := some (10, true) }) (v := undef) rfl (by kernel_rfl) (by kernel_rfl) (by kernel_rfl) (fun _ _ _ h => h) (Or.inr ⟨by rfl, rfl⟩) (by assumption) ?_
                  try simp only [Act.put, List.setIfInBounds_toArray, List.set_cons_zero, List.set_cons_succ]
                  refine wpAnyH_take (i := 21) (oi := { dst := some 72, op := Op.pick (Operand.tmp 61) (Operand.tmp 71) (Operand.const (Value.bool false)), type := 4, pos := "json.go:120", after := #[{ on := 10, ground := Ground.data }, { on := 20, ground := Ground.data }], guard := none }) (v := ?_) rfl (by kernel_rfl) (by kernel_rfl) (by kernel_rfl) (fun _ _ _ h => h) (Or.inl ⟨by rfl, ?_⟩) (by assumption) ?_
                  rotate_left
                  · intro wz hSw
                    try dsimp only at hSw
                    go_simp
                    try with_reducible rfl
                  try simp only [Act.put, List.setIfInBounds_toArray, List.set_cons_zero, List.set_cons_succ]
                  refine wpAnyH_done (by kernel_rfl) ?_ _
                  refine NoPanic.normal ?_
                  clear hHeld c0 c1 g1 GF HT5 hlt
                  go_wp2_with fail
                  go_meet
                  case rel => exact ⟨rfl, rfl⟩
              case rest =>
                obtain ⟨rfl, rfl⟩ := hcut
                clear c0 c1 HT5
                cases qb with
                | true =>
                  have EQ := quotedH_any p s k m1 60 W5.drew HTD.out.pb HP.out.2.1 HS.out (by decide)
                  have e60 : ((60 : Nat) : Int) = 60 := rfl
                  rw [e60] at EQ
                  clear e60
                  generalize W5.drew = Wd at *
                  go_wp2_with fail
                  go_fit EQ
                  rintro e wq hQ
                  clear EQ
                  rcases hQ with ⟨t, n5, hq, rfl, hpb1, hkn5, hrk1⟩ | ⟨hq, rfl, hpb1, hrk1⟩
                  · obtain ⟨key, hkey⟩ : ∃ key : ByteArray, key = ⟨t.toArray⟩ := ⟨_, rfl⟩
                    rw [← hkey]
                    have HR : Hid (rdT (n + 1) s k m = .ok (lfT ⟨3, 0, key, 0, 0⟩, k + n5)) := by
                      show _ = _
                      rw [hkey]
                      exact rd_text HM.out.2 HMP.out HLI.out H34.out hq
                    have HFT : Hid (k < k + n5 ∧ k + n5 ≤ s.size) := ⟨by
                      obtain ⟨_, rest, _, h3⟩ := qtd_back hq
                      have := quote_pos t
                      omega, hkn5⟩
                    have hTn := HTD.out.move HP.out.1 hrk1 hpb1
                    clear hkey hq hpb1 hrk1 hkn5 HTD
                    have HEND : Hid (∀ W7, EndT p w wq s (k + n5) m1 0 0 ((⟨3, 0, key, 0, 0⟩, .slice none 0 0, .slice none 0 0) : TV) W7 → post (.returned (tval ((⟨3, 0, key, 0, 0⟩, .slice none 0 0, .slice none 0 0) : TV))) W7) := by
                      intro W7 hE
                      rw [HPO.out]
                      have e1 := HM.out.1
                      subst e1
                      exact leaf_end hE HR.out HM.out.2 HFT.out.1 HFT.out.2
                    have hz2 := hTn.box
                    unfold zO at hz2
                    have r0 : wq.cell? ⟨w.heap.size, 0, none⟩ = some (.int .i64 0) := Lib.cell_of_heap hz2 0
                    have r1 : wq.cell? ⟨w.heap.size, 1, none⟩ = some (.int .i64 0) := Lib.cell_of_heap hz2 1
                    have r2 : wq.cell? ⟨w.heap.size, 2, none⟩ = some (.string ⟨#[]⟩) := Lib.cell_of_heap hz2 2
                    have r3 : wq.cell? ⟨w.heap.size, 3, none⟩ = some (.int .i64 0) := Lib.cell_of_heap hz2 3
                    have r4 : wq.cell? ⟨w.heap.size, 4, none⟩ = some (.int .i64 0) := Lib.cell_of_heap hz2 4
                    have r5 : wq.cell? ⟨w.heap.size, 5, none⟩ = some (.slice none 0 0) := Lib.cell_of_heap hz2 5
                    have r6 : wq.cell? ⟨w.heap.size, 6, none⟩ = some (.slice none 0 0) := Lib.cell_of_heap hz2 6
                    have zf := Lib.frozen_of_heap hz2
                    have HE : Hid (EndT p w wq s (k + n5) m1 0 0 ((⟨3, 0, key, 0, 0⟩, .slice none 0 0, .slice none 0 0) : TV) _) := tree_end HP.out.1 hTn ((⟨3, 0, key, 0, 0⟩, .slice none 0 0, .slice none 0 0) : TV)
                    unfold sv7 at HE
                    dsimp only at HE
                    clear hz2 hTn 
                    go_wp2_with fail
                    clear r0 r1 r2 r3 r4 r5 r6 zf
                    generalize (((((((wq.setCell ⟨w.heap.size, 0, none⟩ (.int .i64 3)).setCell ⟨w.heap.size, 1, none⟩ (.int .i64 0)).setCell ⟨w.heap.size, 2, none⟩ (.string key)).setCell ⟨w.heap.size, 3, none⟩ (.int .i64 0)).setCell ⟨w.heap.size, 4, none⟩ (.int .i64 0)).setCell ⟨w.heap.size, 5, none⟩ (.slice none 0 0)).setCell ⟨w.heap.size, 6, none⟩ (.slice none 0 0)) = W7 at *
                    have h7 := HE.out.1
                    dsimp only at h7
                    have q0 : W7.cell? ⟨w.heap.size, 0, none⟩ = some (.int .i64 3) := Lib.cell_of_heap h7 0
                    have q1 : W7.cell? ⟨w.heap.size, 1, none⟩ = some (.int .i64 0) := Lib.cell_of_heap h7 1
                    have q2 : W7.cell? ⟨w.heap.size, 2, none⟩ = some (.string key) := Lib.cell_of_heap h7 2
                    have q3 : W7.cell? ⟨w.heap.size, 3, none⟩ = some (.int .i64 0) := Lib.cell_of_heap h7 3
                    have q4 : W7.cell? ⟨w.heap.size, 4, none⟩ = some (.int .i64 0) := Lib.cell_of_heap h7 4
                    have q5 : W7.cell? ⟨w.heap.size, 5, none⟩ = some (.slice none 0 0) := Lib.cell_of_heap h7 5
                    have q6 : W7.cell? ⟨w.heap.size, 6, none⟩ = some (.slice none 0 0) := Lib.cell_of_heap h7 6
                    exact bodyPost_ret (v := tval ((⟨3, 0, key, 0, 0⟩, .slice none 0 0, .slice none 0 0) : TV)) (by simp [tval, results, Tryz.results7, go_sem, q0, q1, q2, q3, q4, q5, q6]) rfl (HEND.out W7 HE.out)
                  · have HR : Hid (rdT (n + 1) s k m = .error (k, 2)) := rd_text_bad HM.out.2 HMP.out HLI.out H34.out hq
                    have hTn := HTD.out.move HP.out.1 hrk1 hpb1
                    clear hq hpb1 hrk1 HTD
                    have HEND : Hid (∀ W7, EndT p w wq s k m1 k 2 ((⟨3, 0, ⟨#[]⟩, 0, 0⟩, .slice none 0 0, .slice none 0 0) : TV) W7 → post (.returned (tval ((⟨3, 0, ⟨#[]⟩, 0, 0⟩, .slice none 0 0, .slice none 0 0) : TV))) W7) := by
                      intro W7 hE
                      rw [HPO.out]
                      exact bad_end hE (slU_nil _) HR.out (by decide)
                    have hz2 := hTn.box
                    unfold zO at hz2
                    have r0 : wq.cell? ⟨w.heap.size, 0, none⟩ = some (.int .i64 0) := Lib.cell_of_heap hz2 0
                    have r1 : wq.cell? ⟨w.heap.size, 1, none⟩ = some (.int .i64 0) := Lib.cell_of_heap hz2 1
                    have r2 : wq.cell? ⟨w.heap.size, 2, none⟩ = some (.string ⟨#[]⟩) := Lib.cell_of_heap hz2 2
                    have r3 : wq.cell? ⟨w.heap.size, 3, none⟩ = some (.int .i64 0) := Lib.cell_of_heap hz2 3
                    have r4 : wq.cell? ⟨w.heap.size, 4, none⟩ = some (.int .i64 0) := Lib.cell_of_heap hz2 4
                    have r5 : wq.cell? ⟨w.heap.size, 5, none⟩ = some (.slice none 0 0) := Lib.cell_of_heap hz2 5
                    have r6 : wq.cell? ⟨w.heap.size, 6, none⟩ = some (.slice none 0 0) := Lib.cell_of_heap hz2 6
                    have zf := Lib.frozen_of_heap hz2
                    have HE : Hid (EndT p w wq s k m1 k 2 ((⟨3, 0, ⟨#[]⟩, 0, 0⟩, .slice none 0 0, .slice none 0 0) : TV) _) := tree_end HP.out.1 hTn ((⟨3, 0, ⟨#[]⟩, 0, 0⟩, .slice none 0 0, .slice none 0 0) : TV)
                    unfold sv7 at HE
                    dsimp only at HE
                    clear hz2 hTn 
                    go_wp2_with fail
                    clear r0 r1 r2 r3 r4 r5 r6 zf
                    generalize (((((((wq.setCell ⟨w.heap.size, 0, none⟩ (.int .i64 3)).setCell ⟨w.heap.size, 1, none⟩ (.int .i64 0)).setCell ⟨w.heap.size, 2, none⟩ (.string ⟨#[]⟩)).setCell ⟨w.heap.size, 3, none⟩ (.int .i64 0)).setCell ⟨w.heap.size, 4, none⟩ (.int .i64 0)).setCell ⟨w.heap.size, 5, none⟩ (.slice none 0 0)).setCell ⟨w.heap.size, 6, none⟩ (.slice none 0 0)) = W7 at *
                    have h7 := HE.out.1
                    dsimp only at h7
                    have q0 : W7.cell? ⟨w.heap.size, 0, none⟩ = some (.int .i64 3) := Lib.cell_of_heap h7 0
                    have q1 : W7.cell? ⟨w.heap.size, 1, none⟩ = some (.int .i64 0) := Lib.cell_of_heap h7 1
                    have q2 : W7.cell? ⟨w.heap.size, 2, none⟩ = some (.string ⟨#[]⟩) := Lib.cell_of_heap h7 2
                    have q3 : W7.cell? ⟨w.heap.size, 3, none⟩ = some (.int .i64 0) := Lib.cell_of_heap h7 3
                    have q4 : W7.cell? ⟨w.heap.size, 4, none⟩ = some (.int .i64 0) := Lib.cell_of_heap h7 4
                    have q5 : W7.cell? ⟨w.heap.size, 5, none⟩ = some (.slice none 0 0) := Lib.cell_of_heap h7 5
                    have q6 : W7.cell? ⟨w.heap.size, 6, none⟩ = some (.slice none 0 0) := Lib.cell_of_heap h7 6
                    exact bodyPost_ret (v := tval ((⟨3, 0, ⟨#[]⟩, 0, 0⟩, .slice none 0 0, .slice none 0 0) : TV)) (by simp [tval, results, Tryz.results7, go_sem, q0, q1, q2, q3, q4, q5, q6]) rfl (HEND.out W7 HE.out)
                | false =>
                  generalize W5.drew = WD at *
                  have p0 : WD.cell? ⟨p, 0, none⟩ = some (.string s) := Lib.cell_of_heap HTD.out.pb 0
                  have p1 : WD.cell? ⟨p, 1, none⟩ = some (.int .i64 (k : Int)) := Lib.cell_of_heap HTD.out.pb 1
                  obtain ⟨iq, hiq⟩ : ∃ iq, k + (dgs (lft s k)).length = iq := ⟨_, rfl⟩
                  have HIQ : Hid (iq = k + (dgs (lft s k)).length ∧ iq ≤ s.size) := ⟨hiq.symm, by
                    have := dgs_len s k
                    have := HP.out.2.1
                    omega⟩
                  clear hiq
                  go_upto_block 0 with fail
                  clear p1
                  go_cut [5] from 82 to 117 (fun i wx => i = .int .i64 iq ∧ WD = wx)
                  case first =>
                    go_wp2_with fail
                    go_loop [5] (fun i => ∃ q : Nat, i = .int .i64 q ∧ Hid (k ≤ q ∧ q ≤ iq)) (fun i => s.size + 1 - (RowKit.intOf i).toNat)
                    case atStart => exact ⟨k, rfl, Nat.le_refl _, by have := HIQ.out; omega⟩
                    case round =>
                      obtain ⟨q, rfl, hq⟩ := hrel
                      by_cases hin : q < iq
                      · obtain ⟨hlt, hc⟩ := dgs_in hq.out.1 (by have := HIQ.out.1; omega : q < k + (dgs (lft s k)).length)
                        have HQ2 : Hid (k ≤ q + 1 ∧ q + 1 ≤ iq) := ⟨by have := hq.out; omega, hin⟩
                        have HLT : Hid (q < 60000 ∧ s.size + 1 - (q + 1) < s.size + 1 - q) := ⟨Nat.lt_of_lt_of_le hlt HS.out, by omega⟩
                        have g1 : (q : Int) < s.size := by omega
                        clear hin hq
                        rcases hc with hc | ⟨hc1, hc2⟩
                        · have j45 : (((s[q]'hlt).toNat : Int) == 45) = true := by rw [beq_iff_eq]; omega
                          clear hc
                          go_upto_region 25 with fail
                          clear j45
                          have gq : (q : Int) < 60000 := by have := HLT.out; omega
                          go_wp2
                          go_round
                          case rel => exact ⟨q + 1, by go_num, HQ2⟩
                          case measure => have := HLT.out.2; simp [RowKit.intOf]; omega
                        · have j45 : (((s[q]'hlt).toNat : Int) == 45) = false := by rw [beq_eq_false_iff_ne]; omega
                          have j48 : (48 : Int) ≤ ((s[q]'hlt).toNat : Int) := by omega
                          have j57 : ((s[q]'hlt).toNat : Int) ≤ 57 := by omega
                          clear hc1 hc2
                          go_upto_region 25 with fail
                          clear j45 j48 j57
                          have gq : (q : Int) < 60000 := by have := HLT.out; omega
                          go_wp2
                          go_round
                          case rel => exact ⟨q + 1, by go_num, HQ2⟩
                          case measure => have := HLT.out.2; simp [RowKit.intOf]; omega
                      · obtain rfl : q = iq := by have := hq.out; omega
                        clear hin hq
                        by_cases hlt : q < s.size
                        · have hc := dgs_out HIQ.out.1 hlt
                          have g1 : (q : Int) < s.size := by omega
                          have j45 : (((s[q]'hlt).toNat : Int) == 45) = false := by rw [beq_eq_false_iff_ne]; omega
                          by_cases h48 : 48 ≤ (s[q]'hlt).toNat
                          · have j48 : (48 : Int) ≤ ((s[q]'hlt).toNat : Int) := by omega
                            have j57 : ¬ ((s[q]'hlt).toNat : Int) ≤ 57 := by omega
                            clear hc h48
                            go_wp2_with fail
                            go_meet
                            case rel => exact ⟨rfl, rfl⟩
                          · have j48 : ¬ (48 : Int) ≤ ((s[q]'hlt).toNat : Int) := by omega
                            clear hc h48
                            go_wp2_with fail
                            go_meet
                            case rel => exact ⟨rfl, rfl⟩
                        · have g1 : ¬ (q : Int) < s.size := by omega
                          go_wp2_with fail
                          go_meet
                          case rel => exact ⟨rfl, rfl⟩
                  case rest =>
                    obtain ⟨rfl, rfl⟩ := hcut
                    clear p0
                    have c0 : WD.cell? ⟨p, 0, none⟩ = some (.string s) := Lib.cell_of_heap HTD.out.pb 0
                    have c1 : WD.cell? ⟨p, 1, none⟩ = some (.int .i64 (k : Int)) := Lib.cell_of_heap HTD.out.pb 1
                    obtain ⟨hxl, hxd⟩ := dgs_ex (s := s) HIQ.out.1
                    obtain ⟨sx, hsx⟩ : ∃ sx, s.extract k iq = sx := ⟨_, rfl⟩
                    rw [hsx] at hxl hxd
                    have HSX : Hid (s.extract k iq = sx) := hsx
                    have hxs : sx.size ≤ 60000 := by
                      rw [← hsx, ByteArray.size_extract]
                      have := HS.out
                      omega
                    have HXL : Hid (sx.data.toList = dgs (lft s k)) := hxl
                    have i0 : (0 : Int) ≤ (k : Int) := by omega
                    have i1 : (k : Int) ≤ (iq : Int) := by have := HIQ.out; omega
                    have i2 : (iq : Int) ≤ s.size := by have := HIQ.out; omega
                    have bA : Below WD.heap.size WD (WD.drew.alloc (.cells #[.bool false, .slice none 0 0] 56)) := ((Below.refl WD.heap.size WD).drew).alloc (Nat.le_refl _) _
                    have hA : (WD.drew.alloc (.cells #[.bool false, .slice none 0 0] 56)).heap[WD.heap.size]? = some (.cells #[.bool false, .slice none 0 0] 56) := one_new WD.drew _
                    have ES0 := setStr_any WD.heap.size sx (WD.drew.alloc (.cells #[.bool false, .slice none 0 0] 56)) hA hxs hxd
                    have HKA : Hid ((WD.drew.alloc (.cells #[.bool false, .slice none 0 0] 56)).cell? ⟨p, 0, none⟩ = some (.string s) ∧ (WD.drew.alloc (.cells #[.bool false, .slice none 0 0] 56)).cell? ⟨p, 1, none⟩ = some (.int .i64 (k : Int))) := ⟨Lib.cell_of_heap (HTD.out.pb.below bA) 0, Lib.cell_of_heap (HTD.out.pb.below bA) 1⟩
                    have HKT : Hid (∀ W9, Below WD.heap.size (WD.drew.alloc (.cells #[.bool false, .slice none 0 0] 56)) W9 → Tn w p s k m1 0 0 W9) := fun W9 h9 => HTD.out.below HP.out.1 (bA.trans (h9.mono (Nat.le_refl _)))
                    have HKB : Hid (∀ W9, Below WD.heap.size (WD.drew.alloc (.cells #[.bool false, .slice none 0 0] 56)) W9 → W9.cell? ⟨p, 0, none⟩ = some (.string s) ∧ W9.cell? ⟨p, 1, none⟩ = some (.int .i64 (k : Int))) := fun W9 h9 => ⟨Lib.cell_of_heap (HKT.out W9 h9).pb 0, Lib.cell_of_heap (HKT.out W9 h9).pb 1⟩
                    have HZQ : Hid (p < WD.heap.size) := HTD.out.pb.lt
                    clear hsx hxl hxd hxs bA hA HTD
                    unfold SetP at ES0
                    cases hss : sstr sx.data.toList with
                    | none =>
                      rw [hss] at ES0
                      have ES : Calls Tryz.prog 16 #[.pointer (some ⟨WD.heap.size, 0, none⟩), .string sx, .int .i64 10] (WD.drew.alloc (.cells #[.bool false, .slice none 0 0] 56)) fun e w' => e = .returned (.tuple #[.pointer none, .bool false]) ∧ Below WD.heap.size (WD.drew.alloc (.cells #[.bool false, .slice none 0 0] 56)) w' := ES0
                      clear ES0
                      have HNN : Hid (num64 (dgs (lft s k)) = none) := by
                        show _ = _
                        rw [← HXL.out]
                        unfold num64
                        rw [hss]
                      clear hss
                      go_wp2_with fail
                      refine wp_region_noPanic ?_
                      refine wp_region_held_drew (S := fun W => W.cell? ⟨p, 0, none⟩ = some (.string s) ∧ W.cell? ⟨p, 1, none⟩ = some (.int .i64 (k : Int))) (by kernel_rfl) (⟨c0, c1⟩) (fun hHeld => ?_)
                      refine wpAnyH_take (i := 1) (oi := { dst := some 120, op := Op.move (Operand.tmp 0), type := 38, pos := "json.go:129", after := #[], guard := none }) (v := ?_) rfl (by kernel_rfl) (by kernel_rfl) (by kernel_rfl) (fun _ _ _ h => h) (Or.inl ⟨by rfl, ?_⟩) (by assumption) ?_
                      rotate_left
                      · intro wz hSw
                        try dsimp only at hSw
                        go_simp
                        try with_reducible rfl
                      try simp only [Act.put, List.setIfInBounds_toArray, List.set_cons_zero, List.set_cons_succ]
                      refine wpAnyH_take (i := 2) (oi := { dst := some 121, op := Op.nilCheck (Operand.tmp 120), type := 0, pos := "json.go:129", after := #[{ on := 1, ground := Ground.data }], guard := none }) (v := ?_) rfl (by kernel_rfl) (by kernel_rfl) (by kernel_rfl) (fun _ _ _ h => h) (Or.inl ⟨by rfl, ?_⟩) (by assumption) ?_
                      rotate_left
                      · intro wz hSw
                        try dsimp only at hSw
                        go_simp
                        try with_reducible rfl
                      try simp only [Act.put, List.setIfInBounds_toArray, List.set_cons_zero, List.set_cons_succ]
                      refine wpAnyH_take (i := 3) (oi := { dst := some 122, op := Op.fieldAddr 40 (Operand.tmp 121) 0, type := 0, pos := "json.go:129", after := #[{ on := 2, ground := Ground.data }], guard := none }) (v := ?_) rfl (by kernel_rfl) (by kernel_rfl) (by kernel_rfl) (fun _ _ _ h => h) (Or.inl ⟨by rfl, ?_⟩) (by assumption) ?_
                      rotate_left
                      · intro wz hSw
                        try dsimp only at hSw
                        go_simp
                        try with_reducible rfl
                      try simp only [Act.put, List.setIfInBounds_toArray, List.set_cons_zero, List.set_cons_succ]
                      refine wpAnyH_take (i := 4) (oi := { dst := some 123, op := Op.load 9 (Operand.tmp 122), type := 9, pos := "json.go:129", after := #[{ on := 3, ground := Ground.data }], guard := none }) (v := ?_) rfl (by kernel_rfl) (by kernel_rfl) (by kernel_rfl) (fun _ _ _ h => h) (Or.inl ⟨by rfl, ?_⟩) (by assumption) ?_
                      rotate_left
                      · intro wz hSw
                        try dsimp only at hSw
                        go_simp
                        try with_reducible rfl
                      try simp only [Act.put, List.setIfInBounds_toArray, List.set_cons_zero, List.set_cons_succ]
                      refine wpAnyH_take (i := 5) (oi := { dst := some 124, op := Op.move (Operand.tmp 0), type := 38, pos := "json.go:129", after := #[], guard := none }) (v := ?_) rfl (by kernel_rfl) (by kernel_rfl) (by kernel_rfl) (fun _ _ _ h => h) (Or.inl ⟨by rfl, ?_⟩) (by assumption) ?_
                      rotate_left
                      · intro wz hSw
                        try dsimp only at hSw
                        go_simp
                        try with_reducible rfl
                      try simp only [Act.put, List.setIfInBounds_toArray, List.set_cons_zero, List.set_cons_succ]
                      refine wpAnyH_take (i := 6) (oi := { dst := some 125, op := Op.nilCheck (Operand.tmp 124), type := 0, pos := "json.go:129", after := #[{ on := 5, ground := Ground.data }], guard := none }) (v := ?_) rfl (by kernel_rfl) (by kernel_rfl) (by kernel_rfl) (fun _ _ _ h => h) (Or.inl ⟨by rfl, ?_⟩) (by assumption) ?_
                      rotate_left
                      · intro wz hSw
                        try dsimp only at hSw
                        go_simp
                        try with_reducible rfl
                      try simp only [Act.put, List.setIfInBounds_toArray, List.set_cons_zero, List.set_cons_succ]
                      refine wpAnyH_take (i := 7) (oi := { dst := some 126, op := Op.fieldAddr 40 (Operand.tmp 125) 1, type := 0, pos := "json.go:129", after := #[{ on := 6, ground := Ground.data }], guard := none }) (v := ?_) rfl (by kernel_rfl) (by kernel_rfl) (by kernel_rfl) (fun _ _ _ h => h) (Or.inl ⟨by rfl, ?_⟩) (by assumption) ?_
                      rotate_left
                      · intro wz hSw
                        try dsimp only at hSw
                        go_simp
                        try with_reducible rfl
                      try simp only [Act.put, List.setIfInBounds_toArray, List.set_cons_zero, List.set_cons_succ]
                      refine wpAnyH_take (i := 8) (oi := { dst := some 127, op := Op.load 3 (Operand.tmp 126), type := 3, pos := "json.go:129", after := #[{ on := 7, ground := Ground.data }], guard := none }) (v := ?_) rfl (by kernel_rfl) (by kernel_rfl) (by kernel_rfl) (fun _ _ _ h => h) (Or.inl ⟨by rfl, ?_⟩) (by assumption) ?_
                      rotate_left
                      · intro wz hSw
                        try dsimp only at hSw
                        go_simp
                        try with_reducible rfl
                      try simp only [Act.put, List.setIfInBounds_toArray, List.set_cons_zero, List.set_cons_succ]
                      refine wpAnyH_take (i := 9) (oi := { dst := some 128, op := Op.move (Operand.tmp 5), type := 3, pos := "json.go:129", after := #[], guard := none }) (v := ?_) rfl (by kernel_rfl) (by kernel_rfl) (by kernel_rfl) (fun _ _ _ h => h) (Or.inl ⟨by rfl, ?_⟩) (by assumption) ?_
                      rotate_left
                      · intro wz hSw
                        try dsimp only at hSw
                        go_simp
                        try with_reducible rfl
                      try simp only [Act.put, List.setIfInBounds_toArray, List.set_cons_zero, List.set_cons_succ]
                      refine wpAnyH_take (i := 10) (oi := { dst := some 129, op := Op.slice 9 (Operand.tmp 123) (some (Operand.tmp 127)) (some (Operand.tmp 128)) none, type := 9, pos := "json.go:129", after := #[{ on := 4, ground := Ground.data }, { on := 8, ground := Ground.data }, { on := 9, ground := Ground.data }], guard := none }) (v := .string sx) rfl (by kernel_rfl) (by kernel_rfl) (by kernel_rfl) (fun _ _ _ h => h) (Or.inl ⟨by rfl, ?_⟩) (by assumption) ?_
                      · intro wz hSw
                        try dsimp only at hSw
                        rw [← HSX.out]
                        go_simp
                      try simp only [Act.put, List.setIfInBounds_toArray, List.set_cons_zero, List.set_cons_succ]
                      refine wpAnyH_ready (rs := [0]) (by kernel_rfl) (by simp) (AllReadyH.cons (o := { dst := some 119, op := Op.alloc 56, type := 52, pos := "json.go:129", after := #[], guard := none }) rfl (fun K hK => ?_) AllReadyH.nil)
                      go_simp
                      refine hK.out _ _ (HKA.out) (fun hHeld0 => ?_)
                      clear hK K
                      try simp only [Act.put, List.setIfInBounds_toArray, List.set_cons_zero, List.set_cons_succ]
                      refine wpAnyH_ready (rs := [11]) (by kernel_rfl) (by simp) (AllReadyH.cons (o := { dst := some 130, op := Op.call { callee := Callee.value (Operand.func 16), args := #[Operand.tmp 119, Operand.tmp 129, Operand.const (Value.int IntKind.i64 10)], argTypes := #[52, 9, 3] }, type := 53, pos := "json.go:129", after := #[{ on := 0, ground := Ground.data }, { on := 10, ground := Ground.data }], guard := none }) rfl (fun K hK => ?_) AllReadyH.nil)
                      go_simp
                      go_at_call 16
                      refine Calls.mono ES ?_
                      rintro e w11 ⟨rfl, b11⟩
                      go_wp2_with fail
                      refine hK.out _ _ (HKB.out _ b11) (fun hHeld11 => ?_)
                      clear hK K
                      try simp only [Act.put, List.setIfInBounds_toArray, List.set_cons_zero, List.set_cons_succ]
                      refine wpAnyH_take (i := 12) (oi := { dst := some 118, op := Op.move (Operand.tmp 130), type := 53, pos := "json.go:129", after := #[{ on := 11, ground := Ground.data }], guard := none }) (v := ?_) rfl (by kernel_rfl) (by kernel_rfl) (by kernel_rfl) (fun _ _ _ h => h) (Or.inl ⟨by rfl, ?_⟩) (by assumption) ?_
                      rotate_left
                      · intro wz hSw
                        try dsimp only at hSw
                        go_simp
                        try with_reducible rfl
                      try simp only [Act.put, List.setIfInBounds_toArray, List.set_cons_zero, List.set_cons_succ]
                      refine wpAnyH_take (i := 13) (oi := { dst := some 131, op := Op.extract (Operand.tmp 118) 0, type := 52, pos := "json.go:129", after := #[{ on := 12, ground := Ground.data }], guard := none }) (v := ?_) rfl (by kernel_rfl) (by kernel_rfl) (by kernel_rfl) (fun _ _ _ h => h) (Or.inl ⟨by rfl, ?_⟩) (by assumption) ?_
                      rotate_left
                      · intro wz hSw
                        try dsimp only at hSw
                        go_simp
                        try with_reducible rfl
                      try simp only [Act.put, List.setIfInBounds_toArray, List.set_cons_zero, List.set_cons_succ]
                      refine wpAnyH_take (i := 15) (oi := { dst := some 6, op := Op.assign (Operand.tmp 131), type := 52, pos := "json.go:129", after := #[{ on := 13, ground := Ground.data }, { on := 11, ground := Ground.chain }, { on := 0, ground := Ground.phase }, { on := 1, ground := Ground.phase }, { on := 2, ground := Ground.phase }, { on := 3, ground := Ground.phase }, { on := 4, ground := Ground.phase }, { on := 5, ground := Ground.phase }, { on := 6, ground := Ground.phase }, { on := 7, ground := Ground.phase }, { on := 8, ground := Ground.phase }, { on := 9, ground := Ground.phase }, { on := 10, ground := Ground.phase }, { on := 11, ground := Ground.phase }, { on := 12, ground := Ground.phase }, { on := 13, ground := Ground.phase }, { on := 14, ground := Ground.textOnly Departure.lateStores }], guard := none }) (v := ?_) rfl (by kernel_rfl) (by kernel_rfl) (by kernel_rfl) (fun _ _ _ h => h) (Or.inl ⟨by rfl, ?_⟩) (by assumption) ?_
                      rotate_left
                      · intro wz hSw
                        try dsimp only at hSw
                        go_simp
                        try with_reducible rfl
                      try simp only [Act.put, List.setIfInBounds_toArray, List.set_cons_zero, List.set_cons_succ]
                      refine wpAnyH_take (i := 14) (oi := { dst := some 132, op := Op.extract (Operand.tmp 118) 1, type := 4, pos := "json.go:129", after := #[{ on := 12, ground := Ground.data }, { on := 15, ground := Ground.gcOnly Departure.lateStores }], guard := none }) (v := ?_) rfl (by kernel_rfl) (by kernel_rfl) (by kernel_rfl) (fun _ _ _ h => h) (Or.inl ⟨by rfl, ?_⟩) (by assumption) ?_
                      rotate_left
                      · intro wz hSw
                        try dsimp only at hSw
                        go_simp
                        try with_reducible rfl
                      try simp only [Act.put, List.setIfInBounds_toArray, List.set_cons_zero, List.set_cons_succ]
                      refine wpAnyH_take (i := 16) (oi := { dst := some 7, op := Op.assign (Operand.tmp 132), type := 4, pos := "json.go:129", after := #[{ on := 14, ground := Ground.data }, { on := 15, ground := Ground.chain }, { on := 0, ground := Ground.phase }, { on := 1, ground := Ground.phase }, { on := 2, ground := Ground.phase }, { on := 3, ground := Ground.phase }, { on := 4, ground := Ground.phase }, { on := 5, ground := Ground.phase }, { on := 6, ground := Ground.phase }, { on := 7, ground := Ground.phase }, { on := 8, ground := Ground.phase }, { on := 9, ground := Ground.phase }, { on := 10, ground := Ground.phase }, { on := 11, ground := Ground.phase }, { on := 12, ground := Ground.phase }, { on := 13, ground := Ground.phase }, { on := 14, ground := Ground.phase }, { on := 15, ground := Ground.phase }], guard := none }) (v := ?_) rfl (by kernel_rfl) (by kernel_rfl) (by kernel_rfl) (fun _ _ _ h => h) (Or.inl ⟨by rfl, ?_⟩) (by assumption) ?_
                      rotate_left
                      · intro wz hSw
                        try dsimp only at hSw
                        go_simp
                        try with_reducible rfl
                      try simp only [Act.put, List.setIfInBounds_toArray, List.set_cons_zero, List.set_cons_succ]
                      refine wpAnyH_done (by kernel_rfl) ?_ _
                      refine NoPanic.normal ?_
                      clear hHeld hHeld0 hHeld11 ES c0 c1 i0 i1 i2
                      have hTnX0 := HKT.out _ b11
                      obtain ⟨d0, d1⟩ := HKB.out _ b11
                      clear b11 HKA HKB HKT
                      go_wp2_with fail
                      refine wp_region_noPanic ?_
                      refine wp_region_held_drew (S := fun W => W.cell? ⟨p, 0, none⟩ = some (.string s) ∧ W.cell? ⟨p, 1, none⟩ = some (.int .i64 (k : Int))) (by kernel_rfl) (⟨d0, d1⟩) (fun hHeld => ?_)
                      refine wpAnyH_take (i := 0) (oi := { dst := some 133, op := Op.move (Operand.tmp 7), type := 4, pos := "json.go:130", after := #[], guard := none }) (v := ?_) rfl (by kernel_rfl) (by kernel_rfl) (by kernel_rfl) (fun _ _ _ h => h) (Or.inl ⟨by rfl, ?_⟩) (by assumption) ?_
                      rotate_left
                      · intro wz hSw
                        try dsimp only at hSw
                        go_simp
                        try with_reducible rfl
                      try simp only [Act.put, List.setIfInBounds_toArray, List.set_cons_zero, List.set_cons_succ]
                      refine wpAnyH_take (i := 1) (oi := { dst := some 134, op := Op.unOp UnOp.not 4 (Operand.tmp 133), type := 4, pos := "json.go:130", after := #[{ on := 0, ground := Ground.data }], guard := none }) (v := ?_) rfl (by kernel_rfl) (by kernel_rfl) (by kernel_rfl) (fun _ _ _ h => h) (Or.inl ⟨by rfl, ?_⟩) (by assumption) ?_
                      rotate_left
                      · intro wz hSw
                        try dsimp only at hSw
                        go_simp
                        try with_reducible rfl
                      try simp only [Act.put, List.setIfInBounds_toArray, List.set_cons_zero, List.set_cons_succ]
                      refine wpAnyH_take (i := 2) (oi := { dst := some 135, op := Op.move (Operand.tmp 134), type := 4, pos := "json.go:130", after := #[{ on := 1, ground := Ground.data }], guard := none }) (v := ?_) rfl (by kernel_rfl) (by kernel_rfl) (by kernel_rfl) (fun _ _ _ h => h) (Or.inl ⟨by rfl, ?_⟩) (by assumption) ?_
                      rotate_left
                      · intro wz hSw
                        try dsimp only at hSw
                        go_simp
                        try with_reducible rfl
                      try simp only [Act.put, List.setIfInBounds_toArray, List.set_cons_zero, List.set_cons_succ]
                      refine wpAnyH_take (i := 3) (oi := { dst := some 136, op := Op.move (Operand.tmp 6), type := 52, pos := "json.go:130", after := #[{ on := 2, ground := Ground.guard }], guard := some (2, false) }) (v := undef) rfl (by kernel_rfl) (by kernel_rfl) (by kernel_rfl) (fun _ _ _ h => h) (Or.inr ⟨by rfl, rfl⟩) (by assumption) ?_
                      try simp only [Act.put, List.setIfInBounds_toArray, List.set_cons_zero, List.set_cons_succ]
                      refine wpAnyH_take (i := 4) (oi := { dst := some 137, op := Op.call { callee := Callee.value (Operand.func 17), args := #[Operand.tmp 136], argTypes := #[52] }, type := 4, pos := "json.go:130", after := #[{ on := 3, ground := Ground.data }, { on := 2, ground := Ground.chain }, { on := 2, ground := Ground.guard }], guard := some (2, false) }) (v := undef) rfl (by kernel_rfl) (by kernel_rfl) (by kernel_rfl) (fun _ _ _ h => h) (Or.inr ⟨by rfl, rfl⟩) (by assumption) ?_
                      try simp only [Act.put, List.setIfInBounds_toArray, List.set_cons_zero, List.set_cons_succ]
                      refine wpAnyH_take (i := 5) (oi := { dst := some 138, op := Op.unOp UnOp.not 4 (Operand.tmp 137), type := 4, pos := "json.go:130", after := #[{ on := 4, ground := Ground.data }, { on := 2, ground := Ground.guard }], guard := some (2, false) }) (v := undef) rfl (by kernel_rfl) (by kernel_rfl) (by kernel_rfl) (fun _ _ _ h => h) (Or.inr ⟨by rfl, rfl⟩) (by assumption) ?_
                      try simp only [Act.put, List.setIfInBounds_toArray, List.set_cons_zero, List.set_cons_succ]
                      refine wpAnyH_take (i := 6) (oi := { dst := some 139, op := Op.pick (Operand.tmp 135) (Operand.const (Value.bool true)) (Operand.tmp 138), type := 4, pos := "json.go:130", after := #[{ on := 2, ground := Ground.data }, { on := 5, ground := Ground.data }], guard := none }) (v := ?_) rfl (by kernel_rfl) (by kernel_rfl) (by kernel_rfl) (fun _ _ _ h => h) (Or.inl ⟨by rfl, ?_⟩) (by assumption) ?_
                      rotate_left
                      · intro wz hSw
                        try dsimp only at hSw
                        go_simp
                        try with_reducible rfl
                      try simp only [Act.put, List.setIfInBounds_toArray, List.set_cons_zero, List.set_cons_succ]
                      refine wpAnyH_take (i := 7) (oi := { dst := some 140, op := Op.move (Operand.tmp 139), type := 4, pos := "json.go:130", after := #[{ on := 6, ground := Ground.data }, { on := 4, ground := Ground.chain }], guard := none }) (v := ?_) rfl (by kernel_rfl) (by kernel_rfl) (by kernel_rfl) (fun _ _ _ h => h) (Or.inl ⟨by rfl, ?_⟩) (by assumption) ?_
                      rotate_left
                      · intro wz hSw
                        try dsimp only at hSw
                        go_simp
                        try with_reducible rfl
                      try simp only [Act.put, List.setIfInBounds_toArray, List.set_cons_zero, List.set_cons_succ]
                      refine wpAnyH_take (i := 8) (oi := { dst := some 141, op := Op.move (Operand.tmp 6), type := 52, pos := "json.go:130", after := #[{ on := 7, ground := Ground.guard }], guard := some (7, false) }) (v := undef) rfl (by kernel_rfl) (by kernel_rfl) (by kernel_rfl) (fun _ _ _ h => h) (Or.inr ⟨by rfl, rfl⟩) (by assumption) ?_
                      try simp only [Act.put, List.setIfInBounds_toArray, List.set_cons_zero, List.set_cons_succ]
                      refine wpAnyH_take (i := 9) (oi := { dst := some 142, op := Op.call { callee := Callee.value (Operand.func 18), args := #[Operand.tmp 141], argTypes := #[52] }, type := 9, pos := "json.go:130", after := #[{ on := 8, ground := Ground.data }, { on := 7, ground := Ground.chain }, { on := 7, ground := Ground.guard }], guard := some (7, false) }) (v := undef) rfl (by kernel_rfl) (by kernel_rfl) (by kernel_rfl) (fun _ _ _ h => h) (Or.inr ⟨by rfl, rfl⟩) (by assumption) ?_
                      try simp only [Act.put, List.setIfInBounds_toArray, List.set_cons_zero, List.set_cons_succ]
                      refine wpAnyH_take (i := 10) (oi := { dst := some 143, op := Op.move (Operand.tmp 0), type := 38, pos := "json.go:130", after := #[{ on := 7, ground := Ground.guard }], guard := some (7, false) }) (v := undef) rfl (by kernel_rfl) (by kernel_rfl) (by kernel_rfl) (fun _ _ _ h => h) (Or.inr ⟨by rfl, rfl⟩) (by assumption) ?_
                      try simp only [Act.put, List.setIfInBounds_toArray, List.set_cons_zero, List.set_cons_succ]
                      refine wpAnyH_take (i := 11) (oi := { dst := some 144, op := Op.nilCheck (Operand.tmp 143), type := 0, pos := "json.go:130", after := #[{ on := 10, ground := Ground.data }, { on := 7, ground := Ground.guard }], guard := some (7, false) }) (v := undef) rfl (by kernel_rfl) (by kernel_rfl) (by kernel_rfl) (fun _ _ _ h => h) (Or.inr ⟨by rfl, rfl⟩) (by assumption) ?_
                      try simp only [Act.put, List.setIfInBounds_toArray, List.set_cons_zero, List.set_cons_succ]
                      refine wpAnyH_take (i := 12) (oi := { dst := some 145, op := Op.fieldAddr 40 (Operand.tmp 144) 0, type := 0, pos := "json.go:130", after := #[{ on := 11, ground := Ground.data }, { on := 7, ground := Ground.guard }], guard := some (7, false) }) (v := undef) rfl (by kernel_rfl) (by kernel_rfl) (by kernel_rfl) (fun _ _ _ h => h) (Or.inr ⟨by rfl, rfl⟩) (by assumption) ?_
                      try simp only [Act.put, List.setIfInBounds_toArray, List.set_cons_zero, List.set_cons_succ]
                      refine wpAnyH_take (i := 13) (oi := { dst := some 146, op := Op.load 9 (Operand.tmp 145), type := 9, pos := "json.go:130", after := #[{ on := 12, ground := Ground.data }, { on := 7, ground := Ground.guard }], guard := some (7, false) }) (v := undef) rfl (by kernel_rfl) (by kernel_rfl) (by kernel_rfl) (fun _ _ _ h => h) (Or.inr ⟨by rfl, rfl⟩) (by assumption) ?_
                      try simp only [Act.put, List.setIfInBounds_toArray, List.set_cons_zero, List.set_cons_succ]
                      refine wpAnyH_take (i := 14) (oi := { dst := some 147, op := Op.move (Operand.tmp 0), type := 38, pos := "json.go:130", after := #[{ on := 7, ground := Ground.guard }], guard := some (7, false) }) (v := undef) rfl (by kernel_rfl) (by kernel_rfl) (by kernel_rfl) (fun _ _ _ h => h) (Or.inr ⟨by rfl, rfl⟩) (by assumption) ?_
                      try simp only [Act.put, List.setIfInBounds_toArray, List.set_cons_zero, List.set_cons_succ]
                      refine wpAnyH_take (i := 15) (oi := { dst := some 148, op := Op.nilCheck (Operand.tmp 147), type := 0, pos := "json.go:130", after := #[{ on := 14, ground := Ground.data }, { on := 7, ground := Ground.guard }], guard := some (7, false) }) (v := undef) rfl (by kernel_rfl) (by kernel_rfl) (by kernel_rfl) (fun _ _ _ h => h) (Or.inr ⟨by rfl, rfl⟩) (by assumption) ?_
                      try simp only [Act.put, List.setIfInBounds_toArray, List.set_cons_zero, List.set_cons_succ]
                      refine wpAnyH_take (i := 16) (oi := { dst := some 149, op := Op.fieldAddr 40 (Operand.tmp 148) 1, type := 0, pos := "json.go:130", after := #[{ on := 15, ground := Ground.data }, { on := 7, ground := Ground.guard }], guard := some (7, false) }) (v := undef) rfl (by kernel_rfl) (by kernel_rfl) (by kernel_rfl) (fun _ _ _ h => h) (Or.inr ⟨by rfl, rfl⟩) (by assumption) ?_
                      try simp only [Act.put, List.setIfInBounds_toArray, List.set_cons_zero, List.set_cons_succ]
                      refine wpAnyH_take (i := 17) (oi := { dst := some 150, op := Op.load 3 (Operand.tmp 149), type := 3, pos := "json.go:130", after := #[{ on := 16, ground := Ground.data }, { on := 7, ground := Ground.guard }], guard := some (7, false) }) (v := undef) rfl (by kernel_rfl) (by kernel_rfl) (by kernel_rfl) (fun _ _ _ h => h) (Or.inr ⟨by rfl, rfl⟩) (by assumption) ?_
                      try simp only [Act.put, List.setIfInBounds_toArray, List.set_cons_zero, List.set_cons_succ]
                      refine wpAnyH_take (i := 18) (oi := { dst := some 151, op := Op.move (Operand.tmp 5), type := 3, pos := "json.go:130", after := #[{ on := 7, ground := Ground.guard }], guard := some (7, false) }) (v := undef) rfl (by kernel_rfl) (by kernel_rfl) (by kernel_rfl) (fun _ _ _ h => h) (Or.inr ⟨by rfl, rfl⟩) (by assumption) ?_
                      try simp only [Act.put, List.setIfInBounds_toArray, List.set_cons_zero, List.set_cons_succ]
                      refine wpAnyH_take (i := 19) (oi := { dst := some 152, op := Op.slice 9 (Operand.tmp 146) (some (Operand.tmp 150)) (some (Operand.tmp 151)) none, type := 9, pos := "json.go:130", after := #[{ on := 13, ground := Ground.data }, { on := 17, ground := Ground.data }, { on := 18, ground := Ground.data }, { on := 7, ground := Ground.guard }], guard := some (7, false) }) (v := undef) rfl (by kernel_rfl) (by kernel_rfl) (by kernel_rfl) (fun _ _ _ h => h) (Or.inr ⟨by rfl, rfl⟩) (by assumption) ?_
                      try simp only [Act.put, List.setIfInBounds_toArray, List.set_cons_zero, List.set_cons_succ]
                      refine wpAnyH_take (i := 20) (oi := { dst := some 153, op := Op.binOp BinOp.neq 9 (Operand.tmp 142) (Operand.tmp 152) 9, type := 4, pos := "json.go:130", after := #[{ on := 9, ground := Ground.data }, { on := 19, ground := Ground.data }, { on := 7, ground := Ground.guard }], guard := some (7, false) }) (v := undef) rfl (by kernel_rfl) (by kernel_rfl) (by kernel_rfl) (fun _ _ _ h => h) (Or.inr ⟨by rfl, rfl⟩) (by assumption) ?_
                      try simp only [Act.put, List.setIfInBounds_toArray, List.set_cons_zero, List.set_cons_succ]
                      refine wpAnyH_take (i := 21) (oi := { dst := some 154, op := Op.pick (Operand.tmp 140) (Operand.const (Value.bool true)) (Operand.tmp 153), type := 4, pos := "json.go:130", after := #[{ on := 7, ground := Ground.data }, { on := 20, ground := Ground.data }], guard := none }) (v := ?_) rfl (by kernel_rfl) (by kernel_rfl) (by kernel_rfl) (fun _ _ _ h => h) (Or.inl ⟨by rfl, ?_⟩) (by assumption) ?_
                      rotate_left
                      · intro wz hSw
                        try dsimp only at hSw
                        go_simp
                        try with_reducible rfl
                      try simp only [Act.put, List.setIfInBounds_toArray, List.set_cons_zero, List.set_cons_succ]
                      refine wpAnyH_done (by kernel_rfl) ?_ _
                      refine NoPanic.normal ?_
                      clear hHeld d0 d1
                      have hTnX : Tn w p s k m1 0 0 w11.drew := ⟨hTnX0.pb, hTnX0.box, hTnX0.rk.trans (Rk.of (Below.refl _ _).drew)⟩
                      clear hTnX0
                      generalize w11.drew = wX at *
                      have EF := failH_any p s k m1 0 k 0 2 wX hTnX.pb
                      simp only [if_true] at EF
                      have p1 : wX.cell? ⟨p, 1, none⟩ = some (.int .i64 (k : Int)) := Lib.cell_of_heap hTnX.pb 1
                      have HTX : Hid (Tn w p s k m1 0 0 wX) := hTnX
                      clear hTnX
                      have HR : Hid (rdT (n + 1) s k m = .error (k, 2)) := rd_no HM.out.2 HMP.out HLI.out H34.out HW1.out HW3.out HW2.out (HNN.out)
                      go_wp2_with fail
                      go_fit EF
                      rintro e wf ⟨rfl, hpbf, hrkf⟩
                      clear EF p1
                      have hTn := HTX.out.move HP.out.1 hrkf hpbf
                      clear hpbf hrkf HTX
                      have HEND : Hid (∀ W7, EndT p w wf s k m1 k 2 ((⟨0, 0, ⟨#[]⟩, 0, 0⟩, .slice none 0 0, .slice none 0 0) : TV) W7 → post (.returned (tval ((⟨0, 0, ⟨#[]⟩, 0, 0⟩, .slice none 0 0, .slice none 0 0) : TV))) W7) := by
                        intro W7 hE
                        rw [HPO.out]
                        exact bad_end hE zU_sl HR.out (by decide)
                      have hz2 := hTn.box
                      unfold zO at hz2
                      have r0 : wf.cell? ⟨w.heap.size, 0, none⟩ = some (.int .i64 0) := Lib.cell_of_heap hz2 0
                      have r1 : wf.cell? ⟨w.heap.size, 1, none⟩ = some (.int .i64 0) := Lib.cell_of_heap hz2 1
                      have r2 : wf.cell? ⟨w.heap.size, 2, none⟩ = some (.string ⟨#[]⟩) := Lib.cell_of_heap hz2 2
                      have r3 : wf.cell? ⟨w.heap.size, 3, none⟩ = some (.int .i64 0) := Lib.cell_of_heap hz2 3
                      have r4 : wf.cell? ⟨w.heap.size, 4, none⟩ = some (.int .i64 0) := Lib.cell_of_heap hz2 4
                      have r5 : wf.cell? ⟨w.heap.size, 5, none⟩ = some (.slice none 0 0) := Lib.cell_of_heap hz2 5
                      have r6 : wf.cell? ⟨w.heap.size, 6, none⟩ = some (.slice none 0 0) := Lib.cell_of_heap hz2 6
                      have zf := Lib.frozen_of_heap hz2
                      have HE : Hid (EndT p w wf s k m1 k 2 ((⟨0, 0, ⟨#[]⟩, 0, 0⟩, .slice none 0 0, .slice none 0 0) : TV) _) := tree_end HP.out.1 hTn ((⟨0, 0, ⟨#[]⟩, 0, 0⟩, .slice none 0 0, .slice none 0 0) : TV)
                      unfold sv7 at HE
                      dsimp only at HE
                      clear hz2 hTn 
                      go_wp2_with fail
                      clear r0 r1 r2 r3 r4 r5 r6 zf
                      generalize (((((((wf.setCell ⟨w.heap.size, 0, none⟩ (.int .i64 0)).setCell ⟨w.heap.size, 1, none⟩ (.int .i64 0)).setCell ⟨w.heap.size, 2, none⟩ (.string ⟨#[]⟩)).setCell ⟨w.heap.size, 3, none⟩ (.int .i64 0)).setCell ⟨w.heap.size, 4, none⟩ (.int .i64 0)).setCell ⟨w.heap.size, 5, none⟩ (.slice none 0 0)).setCell ⟨w.heap.size, 6, none⟩ (.slice none 0 0)) = W7 at *
                      have h7 := HE.out.1
                      dsimp only at h7
                      have q0 : W7.cell? ⟨w.heap.size, 0, none⟩ = some (.int .i64 0) := Lib.cell_of_heap h7 0
                      have q1 : W7.cell? ⟨w.heap.size, 1, none⟩ = some (.int .i64 0) := Lib.cell_of_heap h7 1
                      have q2 : W7.cell? ⟨w.heap.size, 2, none⟩ = some (.string ⟨#[]⟩) := Lib.cell_of_heap h7 2
                      have q3 : W7.cell? ⟨w.heap.size, 3, none⟩ = some (.int .i64 0) := Lib.cell_of_heap h7 3
                      have q4 : W7.cell? ⟨w.heap.size, 4, none⟩ = some (.int .i64 0) := Lib.cell_of_heap h7 4
                      have q5 : W7.cell? ⟨w.heap.size, 5, none⟩ = some (.slice none 0 0) := Lib.cell_of_heap h7 5
                      have q6 : W7.cell? ⟨w.heap.size, 6, none⟩ = some (.slice none 0 0) := Lib.cell_of_heap h7 6
                      exact bodyPost_ret (v := tval ((⟨0, 0, ⟨#[]⟩, 0, 0⟩, .slice none 0 0, .slice none 0 0) : TV)) (by simp [tval, results, Tryz.results7, go_sem, q0, q1, q2, q3, q4, q5, q6]) rfl (HEND.out W7 HE.out)
                    | some y =>
                      obtain ⟨ng0, u⟩ := y
                      rw [hss] at ES0
                      have hne := num64_eq hss
                      rw [HXL.out] at hne
                      have hult := sstr_lt hss
                      have hxl : sx.data.toList.length ≤ 60000 := by
                        rw [Array.length_toList]
                        show sx.size ≤ 60000
                        rw [← HSX.out, ByteArray.size_extract]
                        have := HS.out
                        omega
                      obtain ⟨ng, hng⟩ : ∃ ng, (ng0 && decide (0 < u)) = ng := ⟨_, rfl⟩
                      simp only [hng] at ES0 hne
                      have ES : Calls Tryz.prog 16 #[.pointer (some ⟨WD.heap.size, 0, none⟩), .string sx, .int .i64 10] (WD.drew.alloc (.cells #[.bool false, .slice none 0 0] 56)) fun e w' => (e = .returned (.tuple #[.pointer (some ⟨WD.heap.size, 0, none⟩), .bool true]) ∧ NumAt w' WD.heap.size ng u) ∧ Below WD.heap.size (WD.drew.alloc (.cells #[.bool false, .slice none 0 0] 56)) w' := ES0
                      clear ES0 hng hss
                      obtain ⟨L, hL⟩ : ∃ L, sx.data.toList.length = L := ⟨_, rfl⟩
                      rw [hL] at hult hxl
                      clear hL
                      have HUL : Hid (u < 4294967296 ^ L ∧ L ≤ 70000) := ⟨hult, by omega⟩
                      clear hult hxl
                      have HNE : Hid (num64 (dgs (lft s k)) = if i64B ng u = true ∧ sgnT ng u = dgs (lft s k) then some (if ng = true then -(u : Int) else u) else none) := hne
                      clear hne
                      go_wp2_with fail
                      refine wp_region_noPanic ?_
                      refine wp_region_held_drew (S := fun W => W.cell? ⟨p, 0, none⟩ = some (.string s) ∧ W.cell? ⟨p, 1, none⟩ = some (.int .i64 (k : Int))) (by kernel_rfl) (⟨c0, c1⟩) (fun hHeld => ?_)
                      refine wpAnyH_take (i := 1) (oi := { dst := some 120, op := Op.move (Operand.tmp 0), type := 38, pos := "json.go:129", after := #[], guard := none }) (v := ?_) rfl (by kernel_rfl) (by kernel_rfl) (by kernel_rfl) (fun _ _ _ h => h) (Or.inl ⟨by rfl, ?_⟩) (by assumption) ?_
                      rotate_left
                      · intro wz hSw
                        try dsimp only at hSw
                        go_simp
                        try with_reducible rfl
                      try simp only [Act.put, List.setIfInBounds_toArray, List.set_cons_zero, List.set_cons_succ]
                      refine wpAnyH_take (i := 2) (oi := { dst := some 121, op := Op.nilCheck (Operand.tmp 120), type := 0, pos := "json.go:129", after := #[{ on := 1, ground := Ground.data }], guard := none }) (v := ?_) rfl (by kernel_rfl) (by kernel_rfl) (by kernel_rfl) (fun _ _ _ h => h) (Or.inl ⟨by rfl, ?_⟩) (by assumption) ?_
                      rotate_left
                      · intro wz hSw
                        try dsimp only at hSw
                        go_simp
                        try with_reducible rfl
                      try simp only [Act.put, List.setIfInBounds_toArray, List.set_cons_zero, List.set_cons_succ]
                      refine wpAnyH_take (i := 3) (oi := { dst := some 122, op := Op.fieldAddr 40 (Operand.tmp 121) 0, type := 0, pos := "json.go:129", after := #[{ on := 2, ground := Ground.data }], guard := none }) (v := ?_) rfl (by kernel_rfl) (by kernel_rfl) (by kernel_rfl) (fun _ _ _ h => h) (Or.inl ⟨by rfl, ?_⟩) (by assumption) ?_
                      rotate_left
                      · intro wz hSw
                        try dsimp only at hSw
                        go_simp
                        try with_reducible rfl
                      try simp only [Act.put, List.setIfInBounds_toArray, List.set_cons_zero, List.set_cons_succ]
                      refine wpAnyH_take (i := 4) (oi := { dst := some 123, op := Op.load 9 (Operand.tmp 122), type := 9, pos := "json.go:129", after := #[{ on := 3, ground := Ground.data }], guard := none }) (v := ?_) rfl (by kernel_rfl) (by kernel_rfl) (by kernel_rfl) (fun _ _ _ h => h) (Or.inl ⟨by rfl, ?_⟩) (by assumption) ?_
                      rotate_left
                      · intro wz hSw
                        try dsimp only at hSw
                        go_simp
                        try with_reducible rfl
                      try simp only [Act.put, List.setIfInBounds_toArray, List.set_cons_zero, List.set_cons_succ]
                      refine wpAnyH_take (i := 5) (oi := { dst := some 124, op := Op.move (Operand.tmp 0), type := 38, pos := "json.go:129", after := #[], guard := none }) (v := ?_) rfl (by kernel_rfl) (by kernel_rfl) (by kernel_rfl) (fun _ _ _ h => h) (Or.inl ⟨by rfl, ?_⟩) (by assumption) ?_
                      rotate_left
                      · intro wz hSw
                        try dsimp only at hSw
                        go_simp
                        try with_reducible rfl
                      try simp only [Act.put, List.setIfInBounds_toArray, List.set_cons_zero, List.set_cons_succ]
                      refine wpAnyH_take (i := 6) (oi := { dst := some 125, op := Op.nilCheck (Operand.tmp 124), type := 0, pos := "json.go:129", after := #[{ on := 5, ground := Ground.data }], guard := none }) (v := ?_) rfl (by kernel_rfl) (by kernel_rfl) (by kernel_rfl) (fun _ _ _ h => h) (Or.inl ⟨by rfl, ?_⟩) (by assumption) ?_
                      rotate_left
                      · intro wz hSw
                        try dsimp only at hSw
                        go_simp
                        try with_reducible rfl
                      try simp only [Act.put, List.setIfInBounds_toArray, List.set_cons_zero, List.set_cons_succ]
                      refine wpAnyH_take (i := 7) (oi := { dst := some 126, op := Op.fieldAddr 40 (Operand.tmp 125) 1, type := 0, pos := "json.go:129", after := #[{ on := 6, ground := Ground.data }], guard := none }) (v := ?_) rfl (by kernel_rfl) (by kernel_rfl) (by kernel_rfl) (fun _ _ _ h => h) (Or.inl ⟨by rfl, ?_⟩) (by assumption) ?_
                      rotate_left
                      · intro wz hSw
                        try dsimp only at hSw
                        go_simp
                        try with_reducible rfl
                      try simp only [Act.put, List.setIfInBounds_toArray, List.set_cons_zero, List.set_cons_succ]
                      refine wpAnyH_take (i := 8) (oi := { dst := some 127, op := Op.load 3 (Operand.tmp 126), type := 3, pos := "json.go:129", after := #[{ on := 7, ground := Ground.data }], guard := none }) (v := ?_) rfl (by kernel_rfl) (by kernel_rfl) (by kernel_rfl) (fun _ _ _ h => h) (Or.inl ⟨by rfl, ?_⟩) (by assumption) ?_
                      rotate_left
                      · intro wz hSw
                        try dsimp only at hSw
                        go_simp
                        try with_reducible rfl
                      try simp only [Act.put, List.setIfInBounds_toArray, List.set_cons_zero, List.set_cons_succ]
                      refine wpAnyH_take (i := 9) (oi := { dst := some 128, op := Op.move (Operand.tmp 5), type := 3, pos := "json.go:129", after := #[], guard := none }) (v := ?_) rfl (by kernel_rfl) (by kernel_rfl) (by kernel_rfl) (fun _ _ _ h => h) (Or.inl ⟨by rfl, ?_⟩) (by assumption) ?_
                      rotate_left
                      · intro wz hSw
                        try dsimp only at hSw
                        go_simp
                        try with_reducible rfl
                      try simp only [Act.put, List.setIfInBounds_toArray, List.set_cons_zero, List.set_cons_succ]
                      refine wpAnyH_take (i := 10) (oi := { dst := some 129, op := Op.slice 9 (Operand.tmp 123) (some (Operand.tmp 127)) (some (Operand.tmp 128)) none, type := 9, pos := "json.go:129", after := #[{ on := 4, ground := Ground.data }, { on := 8, ground := Ground.data }, { on := 9, ground := Ground.data }], guard := none }) (v := .string sx) rfl (by kernel_rfl) (by kernel_rfl) (by kernel_rfl) (fun _ _ _ h => h) (Or.inl ⟨by rfl, ?_⟩) (by assumption) ?_
                      · intro wz hSw
                        try dsimp only at hSw
                        rw [← HSX.out]
                        go_simp
                      try simp only [Act.put, List.setIfInBounds_toArray, List.set_cons_zero, List.set_cons_succ]
                      refine wpAnyH_ready (rs := [0]) (by kernel_rfl) (by simp) (AllReadyH.cons (o := { dst := some 119, op := Op.alloc 56, type := 52, pos := "json.go:129", after := #[], guard := none }) rfl (fun K hK => ?_) AllReadyH.nil)
                      go_simp
                      refine hK.out _ _ (HKA.out) (fun hHeld0 => ?_)
                      clear hK K
                      try simp only [Act.put, List.setIfInBounds_toArray, List.set_cons_zero, List.set_cons_succ]
                      refine wpAnyH_ready (rs := [11]) (by kernel_rfl) (by simp) (AllReadyH.cons (o := { dst := some 130, op := Op.call { callee := Callee.value (Operand.func 16), args := #[Operand.tmp 119, Operand.tmp 129, Operand.const (Value.int IntKind.i64 10)], argTypes := #[52, 9, 3] }, type := 53, pos := "json.go:129", after := #[{ on := 0, ground := Ground.data }, { on := 10, ground := Ground.data }], guard := none }) rfl (fun K hK => ?_) AllReadyH.nil)
                      go_simp
                      go_at_call 16
                      refine Calls.mono ES ?_
                      rintro e w11 ⟨⟨rfl, hnum⟩, b11⟩
                      go_wp2_with fail
                      refine hK.out _ _ (HKB.out _ b11) (fun hHeld11 => ?_)
                      clear hK K
                      try simp only [Act.put, List.setIfInBounds_toArray, List.set_cons_zero, List.set_cons_succ]
                      refine wpAnyH_take (i := 12) (oi := { dst := some 118, op := Op.move (Operand.tmp 130), type := 53, pos := "json.go:129", after := #[{ on := 11, ground := Ground.data }], guard := none }) (v := ?_) rfl (by kernel_rfl) (by kernel_rfl) (by kernel_rfl) (fun _ _ _ h => h) (Or.inl ⟨by rfl, ?_⟩) (by assumption) ?_
                      rotate_left
                      · intro wz hSw
                        try dsimp only at hSw
                        go_simp
                        try with_reducible rfl
                      try simp only [Act.put, List.setIfInBounds_toArray, List.set_cons_zero, List.set_cons_succ]
                      refine wpAnyH_take (i := 13) (oi := { dst := some 131, op := Op.extract (Operand.tmp 118) 0, type := 52, pos := "json.go:129", after := #[{ on := 12, ground := Ground.data }], guard := none }) (v := ?_) rfl (by kernel_rfl) (by kernel_rfl) (by kernel_rfl) (fun _ _ _ h => h) (Or.inl ⟨by rfl, ?_⟩) (by assumption) ?_
                      rotate_left
                      · intro wz hSw
                        try dsimp only at hSw
                        go_simp
                        try with_reducible rfl
                      try simp only [Act.put, List.setIfInBounds_toArray, List.set_cons_zero, List.set_cons_succ]
                      refine wpAnyH_take (i := 15) (oi := { dst := some 6, op := Op.assign (Operand.tmp 131), type := 52, pos := "json.go:129", after := #[{ on := 13, ground := Ground.data }, { on := 11, ground := Ground.chain }, { on := 0, ground := Ground.phase }, { on := 1, ground := Ground.phase }, { on := 2, ground := Ground.phase }, { on := 3, ground := Ground.phase }, { on := 4, ground := Ground.phase }, { on := 5, ground := Ground.phase }, { on := 6, ground := Ground.phase }, { on := 7, ground := Ground.phase }, { on := 8, ground := Ground.phase }, { on := 9, ground := Ground.phase }, { on := 10, ground := Ground.phase }, { on := 11, ground := Ground.phase }, { on := 12, ground := Ground.phase }, { on := 13, ground := Ground.phase }, { on := 14, ground := Ground.textOnly Departure.lateStores }], guard := none }) (v := ?_) rfl (by kernel_rfl) (by kernel_rfl) (by kernel_rfl) (fun _ _ _ h => h) (Or.inl ⟨by rfl, ?_⟩) (by assumption) ?_
                      rotate_left
                      · intro wz hSw
                        try dsimp only at hSw
                        go_simp
                        try with_reducible rfl
                      try simp only [Act.put, List.setIfInBounds_toArray, List.set_cons_zero, List.set_cons_succ]
                      refine wpAnyH_take (i := 14) (oi := { dst := some 132, op := Op.extract (Operand.tmp 118) 1, type := 4, pos := "json.go:129", after := #[{ on := 12, ground := Ground.data }, { on := 15, ground := Ground.gcOnly Departure.lateStores }], guard := none }) (v := ?_) rfl (by kernel_rfl) (by kernel_rfl) (by kernel_rfl) (fun _ _ _ h => h) (Or.inl ⟨by rfl, ?_⟩) (by assumption) ?_
                      rotate_left
                      · intro wz hSw
                        try dsimp only at hSw
                        go_simp
                        try with_reducible rfl
                      try simp only [Act.put, List.setIfInBounds_toArray, List.set_cons_zero, List.set_cons_succ]
                      refine wpAnyH_take (i := 16) (oi := { dst := some 7, op := Op.assign (Operand.tmp 132), type := 4, pos := "json.go:129", after := #[{ on := 14, ground := Ground.data }, { on := 15, ground := Ground.chain }, { on := 0, ground := Ground.phase }, { on := 1, ground := Ground.phase }, { on := 2, ground := Ground.phase }, { on := 3, ground := Ground.phase }, { on := 4, ground := Ground.phase }, { on := 5, ground := Ground.phase }, { on := 6, ground := Ground.phase }, { on := 7, ground := Ground.phase }, { on := 8, ground := Ground.phase }, { on := 9, ground := Ground.phase }, { on := 10, ground := Ground.phase }, { on := 11, ground := Ground.phase }, { on := 12, ground := Ground.phase }, { on := 13, ground := Ground.phase }, { on := 14, ground := Ground.phase }, { on := 15, ground := Ground.phase }], guard := none }) (v := ?_) rfl (by kernel_rfl) (by kernel_rfl) (by kernel_rfl) (fun _ _ _ h => h) (Or.inl ⟨by rfl, ?_⟩) (by assumption) ?_
                      rotate_left
                      · intro wz hSw
                        try dsimp only at hSw
                        go_simp
                        try with_reducible rfl
                      try simp only [Act.put, List.setIfInBounds_toArray, List.set_cons_zero, List.set_cons_succ]
                      refine wpAnyH_done (by kernel_rfl) ?_ _
                      refine NoPanic.normal ?_
                      clear hHeld hHeld0 hHeld11 ES c0 c1
                      have hTnX0 := HKT.out _ b11
                      obtain ⟨d0, d1⟩ := HKB.out _ b11
                      clear b11 HKA HKB HKT
                      obtain ⟨zq, hzq⟩ : ∃ zq, WD.heap.size = zq := ⟨_, rfl⟩
                      rw [hzq] at hnum HZQ ⊢
                      clear hzq
                      have HTX0 : Hid (Tn w p s k m1 0 0 w11) := hTnX0
                      have HNUMA : Hid (NumAt w11 zq ng u) := hnum
                      clear hTnX0 hnum
                      have EIS := nIs_any zq u L ng w11.drew HNUMA.out.drew HUL.out.2 HUL.out.1
                      have HKD : Hid (w11.drew.cell? ⟨p, 0, none⟩ = some (.string s) ∧ w11.drew.cell? ⟨p, 1, none⟩ = some (.int .i64 (k : Int))) := ⟨d0, d1⟩
                      cases hib : i64B ng u with
                      | false =>
                        rw [hib] at EIS
                        have HNN : Hid (num64 (dgs (lft s k)) = none) := by
                          show _ = _
                          rw [HNE.out, if_neg (fun h => by rw [hib] at h; cases h.1)]
                        clear hib i0 i1 i2
                        go_wp2_with fail
                        refine wp_region_noPanic ?_
                        refine wp_region_held_drew (S := fun W => W.cell? ⟨p, 0, none⟩ = some (.string s) ∧ W.cell? ⟨p, 1, none⟩ = some (.int .i64 (k : Int))) (by kernel_rfl) (⟨d0, d1⟩) (fun hHeld => ?_)
                        refine wpAnyH_take (i := 0) (oi := { dst := some 133, op := Op.move (Operand.tmp 7), type := 4, pos := "json.go:130", after := #[], guard := none }) (v := ?_) rfl (by kernel_rfl) (by kernel_rfl) (by kernel_rfl) (fun _ _ _ h => h) (Or.inl ⟨by rfl, ?_⟩) (by assumption) ?_
                        rotate_left
                        · intro wz hSw
                          try dsimp only at hSw
                          go_simp
                          try with_reducible rfl
                        try simp only [Act.put, List.setIfInBounds_toArray, List.set_cons_zero, List.set_cons_succ]
                        refine wpAnyH_take (i := 1) (oi := { dst := some 134, op := Op.unOp UnOp.not 4 (Operand.tmp 133), type := 4, pos := "json.go:130", after := #[{ on := 0, ground := Ground.data }], guard := none }) (v := ?_) rfl (by kernel_rfl) (by kernel_rfl) (by kernel_rfl) (fun _ _ _ h => h) (Or.inl ⟨by rfl, ?_⟩) (by assumption) ?_
                        rotate_left
                        · intro wz hSw
                          try dsimp only at hSw
                          go_simp
                          try with_reducible rfl
                        try simp only [Act.put, List.setIfInBounds_toArray, List.set_cons_zero, List.set_cons_succ]
                        refine wpAnyH_take (i := 2) (oi := { dst := some 135, op := Op.move (Operand.tmp 134), type := 4, pos := "json.go:130", after := #[{ on := 1, ground := Ground.data }], guard := none }) (v := ?_) rfl (by kernel_rfl) (by kernel_rfl) (by kernel_rfl) (fun _ _ _ h => h) (Or.inl ⟨by rfl, ?_⟩) (by assumption) ?_
                        rotate_left
                        · intro wz hSw
                          try dsimp only at hSw
                          go_simp
                          try with_reducible rfl
                        try simp only [Act.put, List.setIfInBounds_toArray, List.set_cons_zero, List.set_cons_succ]
                        refine wpAnyH_take (i := 3) (oi := { dst := some 136, op := Op.move (Operand.tmp 6), type := 52, pos := "json.go:130", after := #[{ on := 2, ground := Ground.guard }], guard := some (2, false) }) (v := ?_) rfl (by kernel_rfl) (by kernel_rfl) (by kernel_rfl) (fun _ _ _ h => h) (Or.inl ⟨by rfl, ?_⟩) (by assumption) ?_
                        rotate_left
                        · intro wz hSw
                          try dsimp only at hSw
                          go_simp
                          try with_reducible rfl
                        try simp only [Act.put, List.setIfInBounds_toArray, List.set_cons_zero, List.set_cons_succ]
                        refine wpAnyH_ready (rs := [4]) (by kernel_rfl) (by simp) (AllReadyH.cons (o := { dst := some 137, op := Op.call { callee := Callee.value (Operand.func 17), args := #[Operand.tmp 136], argTypes := #[52] }, type := 4, pos := "json.go:130", after := #[{ on := 3, ground := Ground.data }, { on := 2, ground := Ground.chain }, { on := 2, ground := Ground.guard }], guard := some (2, false) }) rfl (fun K hK => ?_) AllReadyH.nil)
                        go_simp
                        go_at_call 17
                        refine Calls.mono EIS ?_
                        rintro e w4 ⟨rfl, hw4⟩
                        go_wp2_with fail
                        refine hK.out _ _ ((by first | exact HKD.out | (rw [hw4]; exact HKD.out))) (fun hHeld4 => ?_)
                        clear hK K
                        try simp only [Act.put, List.setIfInBounds_toArray, List.set_cons_zero, List.set_cons_succ]
                        subst hw4
                        refine wpAnyH_take (i := 5) (oi := { dst := some 138, op := Op.unOp UnOp.not 4 (Operand.tmp 137), type := 4, pos := "json.go:130", after := #[{ on := 4, ground := Ground.data }, { on := 2, ground := Ground.guard }], guard := some (2, false) }) (v := ?_) rfl (by kernel_rfl) (by kernel_rfl) (by kernel_rfl) (fun _ _ _ h => h) (Or.inl ⟨by rfl, ?_⟩) (by assumption) ?_
                        rotate_left
                        · intro wz hSw
                          try dsimp only at hSw
                          go_simp
                          try with_reducible rfl
                        try simp only [Act.put, List.setIfInBounds_toArray, List.set_cons_zero, List.set_cons_succ]
                        refine wpAnyH_take (i := 6) (oi := { dst := some 139, op := Op.pick (Operand.tmp 135) (Operand.const (Value.bool true)) (Operand.tmp 138), type := 4, pos := "json.go:130", after := #[{ on := 2, ground := Ground.data }, { on := 5, ground := Ground.data }], guard := none }) (v := ?_) rfl (by kernel_rfl) (by kernel_rfl) (by kernel_rfl) (fun _ _ _ h => h) (Or.inl ⟨by rfl, ?_⟩) (by assumption) ?_
                        rotate_left
                        · intro wz hSw
                          try dsimp only at hSw
                          go_simp
                          try with_reducible rfl
                        try simp only [Act.put, List.setIfInBounds_toArray, List.set_cons_zero, List.set_cons_succ]
                        refine wpAnyH_take (i := 7) (oi := { dst := some 140, op := Op.move (Operand.tmp 139), type := 4, pos := "json.go:130", after := #[{ on := 6, ground := Ground.data }, { on := 4, ground := Ground.chain }], guard := none }) (v := ?_) rfl (by kernel_rfl) (by kernel_rfl) (by kernel_rfl) (fun _ _ _ h => h) (Or.inl ⟨by rfl, ?_⟩) (by assumption) ?_
                        rotate_left
                        · intro wz hSw
                          try dsimp only at hSw
                          go_simp
                          try with_reducible rfl
                        try simp only [Act.put, List.setIfInBounds_toArray, List.set_cons_zero, List.set_cons_succ]
                        refine wpAnyH_take (i := 8) (oi := { dst := some 141, op := Op.move (Operand.tmp 6), type := 52, pos := "json.go:130", after := #[{ on := 7, ground := Ground.guard }], guard := some (7, false) }) (v := undef) rfl (by kernel_rfl) (by kernel_rfl) (by kernel_rfl) (fun _ _ _ h => h) (Or.inr ⟨by rfl, rfl⟩) (by assumption) ?_
                        try simp only [Act.put, List.setIfInBounds_toArray, List.set_cons_zero, List.set_cons_succ]
                        refine wpAnyH_take (i := 9) (oi := { dst := some 142, op := Op.call { callee := Callee.value (Operand.func 18), args := #[Operand.tmp 141], argTypes := #[52] }, type := 9, pos := "json.go:130", after := #[{ on := 8, ground := Ground.data }, { on := 7, ground := Ground.chain }, { on := 7, ground := Ground.guard }], guard := some (7, false) }) (v := undef) rfl (by kernel_rfl) (by kernel_rfl) (by kernel_rfl) (fun _ _ _ h => h) (Or.inr ⟨by rfl, rfl⟩) (by assumption) ?_
                        try simp only [Act.put, List.setIfInBounds_toArray, List.set_cons_zero, List.set_cons_succ]
                        refine wpAnyH_take (i := 10) (oi := { dst := some 143, op := Op.move (Operand.tmp 0), type := 38, pos := "json.go:130", after := #[{ on := 7, ground := Ground.guard }], guard := some (7, false) }) (v := undef) rfl (by kernel_rfl) (by kernel_rfl) (by kernel_rfl) (fun _ _ _ h => h) (Or.inr ⟨by rfl, rfl⟩) (by assumption) ?_
                        try simp only [Act.put, List.setIfInBounds_toArray, List.set_cons_zero, List.set_cons_succ]
                        refine wpAnyH_take (i := 11) (oi := { dst := some 144, op := Op.nilCheck (Operand.tmp 143), type := 0, pos := "json.go:130", after := #[{ on := 10, ground := Ground.data }, { on := 7, ground := Ground.guard }], guard := some (7, false) }) (v := undef) rfl (by kernel_rfl) (by kernel_rfl) (by kernel_rfl) (fun _ _ _ h => h) (Or.inr ⟨by rfl, rfl⟩) (by assumption) ?_
                        try simp only [Act.put, List.setIfInBounds_toArray, List.set_cons_zero, List.set_cons_succ]
                        refine wpAnyH_take (i := 12) (oi := { dst := some 145, op := Op.fieldAddr 40 (Operand.tmp 144) 0, type := 0, pos := "json.go:130", after := #[{ on := 11, ground := Ground.data }, { on := 7, ground := Ground.guard }], guard := some (7, false) }) (v := undef) rfl (by kernel_rfl) (by kernel_rfl) (by kernel_rfl) (fun _ _ _ h => h) (Or.inr ⟨by rfl, rfl⟩) (by assumption) ?_
                        try simp only [Act.put, List.setIfInBounds_toArray, List.set_cons_zero, List.set_cons_succ]
                        refine wpAnyH_take (i := 13) (oi := { dst := some 146, op := Op.load 9 (Operand.tmp 145), type := 9, pos := "json.go:130", after := #[{ on := 12, ground := Ground.data }, { on := 7, ground := Ground.guard }], guard := some (7, false) }) (v := undef) rfl (by kernel_rfl) (by kernel_rfl) (by kernel_rfl) (fun _ _ _ h => h) (Or.inr ⟨by rfl, rfl⟩) (by assumption) ?_
                        try simp only [Act.put, List.setIfInBounds_toArray, List.set_cons_zero, List.set_cons_succ]
                        refine wpAnyH_take (i := 14) (oi := { dst := some 147, op := Op.move (Operand.tmp 0), type := 38, pos := "json.go:130", after := #[{ on := 7, ground := Ground.guard }], guard := some (7, false) }) (v := undef) rfl (by kernel_rfl) (by kernel_rfl) (by kernel_rfl) (fun _ _ _ h => h) (Or.inr ⟨by rfl, rfl⟩) (by assumption) ?_
                        try simp only [Act.put, List.setIfInBounds_toArray, List.set_cons_zero, List.set_cons_succ]
                        refine wpAnyH_take (i := 15) (oi := { dst := some 148, op := Op.nilCheck (Operand.tmp 147), type := 0, pos := "json.go:130", after := #[{ on := 14, ground := Ground.data }, { on := 7, ground := Ground.guard }], guard := some (7, false) }) (v := undef) rfl (by kernel_rfl) (by kernel_rfl) (by kernel_rfl) (fun _ _ _ h => h) (Or.inr ⟨by rfl, rfl⟩) (by assumption) ?_
                        try simp only [Act.put, List.setIfInBounds_toArray, List.set_cons_zero, List.set_cons_succ]
                        refine wpAnyH_take (i := 16) (oi := { dst := some 149, op := Op.fieldAddr 40 (Operand.tmp 148) 1, type := 0, pos := "json.go:130", after := #[{ on := 15, ground := Ground.data }, { on := 7, ground := Ground.guard }], guard := some (7, false) }) (v := undef) rfl (by kernel_rfl) (by kernel_rfl) (by kernel_rfl) (fun _ _ _ h => h) (Or.inr ⟨by rfl, rfl⟩) (by assumption) ?_
                        try simp only [Act.put, List.setIfInBounds_toArray, List.set_cons_zero, List.set_cons_succ]
                        refine wpAnyH_take (i := 17) (oi := { dst := some 150, op := Op.load 3 (Operand.tmp 149), type := 3, pos := "json.go:130", after := #[{ on := 16, ground := Ground.data }, { on := 7, ground := Ground.guard }], guard := some (7, false) }) (v := undef) rfl (by kernel_rfl) (by kernel_rfl) (by kernel_rfl) (fun _ _ _ h => h) (Or.inr ⟨by rfl, rfl⟩) (by assumption) ?_
                        try simp only [Act.put, List.setIfInBounds_toArray, List.set_cons_zero, List.set_cons_succ]
                        refine wpAnyH_take (i := 18) (oi := { dst := some 151, op := Op.move (Operand.tmp 5), type := 3, pos := "json.go:130", after := #[{ on := 7, ground := Ground.guard }], guard := some (7, false) }) (v := undef) rfl (by kernel_rfl) (by kernel_rfl) (by kernel_rfl) (fun _ _ _ h => h) (Or.inr ⟨by rfl, rfl⟩) (by assumption) ?_
                        try simp only [Act.put, List.setIfInBounds_toArray, List.set_cons_zero, List.set_cons_succ]
                        refine wpAnyH_take (i := 19) (oi := { dst := some 152, op := Op.slice 9 (Operand.tmp 146) (some (Operand.tmp 150)) (some (Operand.tmp 151)) none, type := 9, pos := "json.go:130", after := #[{ on := 13, ground := Ground.data }, { on := 17, ground := Ground.data }, { on := 18, ground := Ground.data }, { on := 7, ground := Ground.guard }], guard := some (7, false) }) (v := undef) rfl (by kernel_rfl) (by kernel_rfl) (by kernel_rfl) (fun _ _ _ h => h) (Or.inr ⟨by rfl, rfl⟩) (by assumption) ?_
                        try simp only [Act.put, List.setIfInBounds_toArray, List.set_cons_zero, List.set_cons_succ]
                        refine wpAnyH_take (i := 20) (oi := { dst := some 153, op := Op.binOp BinOp.neq 9 (Operand.tmp 142) (Operand.tmp 152) 9, type := 4, pos := "json.go:130", after := #[{ on := 9, ground := Ground.data }, { on := 19, ground := Ground.data }, { on := 7, ground := Ground.guard }], guard := some (7, false) }) (v := undef) rfl (by kernel_rfl) (by kernel_rfl) (by kernel_rfl) (fun _ _ _ h => h) (Or.inr ⟨by rfl, rfl⟩) (by assumption) ?_
                        try simp only [Act.put, List.setIfInBounds_toArray, List.set_cons_zero, List.set_cons_succ]
                        refine wpAnyH_take (i := 21) (oi := { dst := some 154, op := Op.pick (Operand.tmp 140) (Operand.const (Value.bool true)) (Operand.tmp 153), type := 4, pos := "json.go:130", after := #[{ on := 7, ground := Ground.data }, { on := 20, ground := Ground.data }], guard := none }) (v := ?_) rfl (by kernel_rfl) (by kernel_rfl) (by kernel_rfl) (fun _ _ _ h => h) (Or.inl ⟨by rfl, ?_⟩) (by assumption) ?_
                        rotate_left
                        · intro wz hSw
                          try dsimp only at hSw
                          go_simp
                          try with_reducible rfl
                        try simp only [Act.put, List.setIfInBounds_toArray, List.set_cons_zero, List.set_cons_succ]
                        refine wpAnyH_done (by kernel_rfl) ?_ _
                        refine NoPanic.normal ?_
                        clear hHeld hHeld4 EIS d0 d1
                        have hTnX : Tn w p s k m1 0 0 w11.drew := ⟨HTX0.out.pb, HTX0.out.box, HTX0.out.rk.trans (Rk.of (Below.refl _ _).drew)⟩
                        clear HTX0 HKD HNUMA
                        generalize w11.drew = wX at *
                        have EF := failH_any p s k m1 0 k 0 2 wX hTnX.pb
                        simp only [if_true] at EF
                        have p1 : wX.cell? ⟨p, 1, none⟩ = some (.int .i64 (k : Int)) := Lib.cell_of_heap hTnX.pb 1
                        have HTX : Hid (Tn w p s k m1 0 0 wX) := hTnX
                        clear hTnX
                        have HR : Hid (rdT (n + 1) s k m = .error (k, 2)) := rd_no HM.out.2 HMP.out HLI.out H34.out HW1.out HW3.out HW2.out (HNN.out)
                        go_wp2_with fail
                        go_fit EF
                        rintro e wf ⟨rfl, hpbf, hrkf⟩
                        clear EF p1
                        have hTn := HTX.out.move HP.out.1 hrkf hpbf
                        clear hpbf hrkf HTX
                        have HEND : Hid (∀ W7, EndT p w wf s k m1 k 2 ((⟨0, 0, ⟨#[]⟩, 0, 0⟩, .slice none 0 0, .slice none 0 0) : TV) W7 → post (.returned (tval ((⟨0, 0, ⟨#[]⟩, 0, 0⟩, .slice none 0 0, .slice none 0 0) : TV))) W7) := by
                          intro W7 hE
                          rw [HPO.out]
                          exact bad_end hE zU_sl HR.out (by decide)
                        have hz2 := hTn.box
                        unfold zO at hz2
                        have r0 : wf.cell? ⟨w.heap.size, 0, none⟩ = some (.int .i64 0) := Lib.cell_of_heap hz2 0
                        have r1 : wf.cell? ⟨w.heap.size, 1, none⟩ = some (.int .i64 0) := Lib.cell_of_heap hz2 1
                        have r2 : wf.cell? ⟨w.heap.size, 2, none⟩ = some (.string ⟨#[]⟩) := Lib.cell_of_heap hz2 2
                        have r3 : wf.cell? ⟨w.heap.size, 3, none⟩ = some (.int .i64 0) := Lib.cell_of_heap hz2 3
                        have r4 : wf.cell? ⟨w.heap.size, 4, none⟩ = some (.int .i64 0) := Lib.cell_of_heap hz2 4
                        have r5 : wf.cell? ⟨w.heap.size, 5, none⟩ = some (.slice none 0 0) := Lib.cell_of_heap hz2 5
                        have r6 : wf.cell? ⟨w.heap.size, 6, none⟩ = some (.slice none 0 0) := Lib.cell_of_heap hz2 6
                        have zf := Lib.frozen_of_heap hz2
                        have HE : Hid (EndT p w wf s k m1 k 2 ((⟨0, 0, ⟨#[]⟩, 0, 0⟩, .slice none 0 0, .slice none 0 0) : TV) _) := tree_end HP.out.1 hTn ((⟨0, 0, ⟨#[]⟩, 0, 0⟩, .slice none 0 0, .slice none 0 0) : TV)
                        unfold sv7 at HE
                        dsimp only at HE
                        clear hz2 hTn 
                        go_wp2_with fail
                        clear r0 r1 r2 r3 r4 r5 r6 zf
                        generalize (((((((wf.setCell ⟨w.heap.size, 0, none⟩ (.int .i64 0)).setCell ⟨w.heap.size, 1, none⟩ (.int .i64 0)).setCell ⟨w.heap.size, 2, none⟩ (.string ⟨#[]⟩)).setCell ⟨w.heap.size, 3, none⟩ (.int .i64 0)).setCell ⟨w.heap.size, 4, none⟩ (.int .i64 0)).setCell ⟨w.heap.size, 5, none⟩ (.slice none 0 0)).setCell ⟨w.heap.size, 6, none⟩ (.slice none 0 0)) = W7 at *
                        have h7 := HE.out.1
                        dsimp only at h7
                        have q0 : W7.cell? ⟨w.heap.size, 0, none⟩ = some (.int .i64 0) := Lib.cell_of_heap h7 0
                        have q1 : W7.cell? ⟨w.heap.size, 1, none⟩ = some (.int .i64 0) := Lib.cell_of_heap h7 1
                        have q2 : W7.cell? ⟨w.heap.size, 2, none⟩ = some (.string ⟨#[]⟩) := Lib.cell_of_heap h7 2
                        have q3 : W7.cell? ⟨w.heap.size, 3, none⟩ = some (.int .i64 0) := Lib.cell_of_heap h7 3
                        have q4 : W7.cell? ⟨w.heap.size, 4, none⟩ = some (.int .i64 0) := Lib.cell_of_heap h7 4
                        have q5 : W7.cell? ⟨w.heap.size, 5, none⟩ = some (.slice none 0 0) := Lib.cell_of_heap h7 5
                        have q6 : W7.cell? ⟨w.heap.size, 6, none⟩ = some (.slice none 0 0) := Lib.cell_of_heap h7 6
                        exact bodyPost_ret (v := tval ((⟨0, 0, ⟨#[]⟩, 0, 0⟩, .slice none 0 0, .slice none 0 0) : TV)) (by simp [tval, results, Tryz.results7, go_sem, q0, q1, q2, q3, q4, q5, q6]) rfl (HEND.out W7 HE.out)
                      | true =>
                        rw [hib] at EIS
                        have hu64 : u < 18446744073709551616 := by
                          unfold i64B at hib
                          simp at hib
                          omega
                        have EST := nString_any zq u ng w11.drew HNUMA.out.drew hu64
                        clear hu64
                        obtain ⟨ts, hts⟩ : ∃ ts : ByteArray, ⟨(sgnT ng u).toArray⟩ = ts := ⟨_, rfl⟩
                        rw [hts] at EST
                        have htl : ts.toList = sgnT ng u := by rw [← hts]; exact ts_list _
                        clear hts
                        have hxl : sx.toList = dgs (lft s k) := by rw [ba_listR]; exact HXL.out
                        have HKE : Hid (∀ W9, Below w11.drew.heap.size w11.drew W9 → W9.cell? ⟨p, 0, none⟩ = some (.string s) ∧ W9.cell? ⟨p, 1, none⟩ = some (.int .i64 (k : Int))) := fun W9 h9 => ⟨Lib.cell_of_heap (HTX0.out.pb.below ((Below.refl w11.heap.size w11).drew.trans h9)) 0, Lib.cell_of_heap (HTX0.out.pb.below ((Below.refl w11.heap.size w11).drew.trans h9)) 1⟩
                        have HIB : Hid (i64B ng u = true) := hib
                        by_cases heq : sgnT ng u = dgs (lft s k)
                        · have hne : (ts.toList == sx.toList) = true := by rw [htl, hxl, heq]; exact beq_self_eq_true _
                          have HYY : Hid (num64 (dgs (lft s k)) = some (if ng = true then -(u : Int) else u)) := by
                            show _ = _
                            rw [HNE.out, if_pos ⟨hib, heq⟩]
                          clear heq htl hxl hib
                          go_wp2_with fail
                          refine wp_region_noPanic ?_
                          refine wp_region_held_drew (S := fun W => W.cell? ⟨p, 0, none⟩ = some (.string s) ∧ W.cell? ⟨p, 1, none⟩ = some (.int .i64 (k : Int))) (by kernel_rfl) (⟨d0, d1⟩) (fun hHeld => ?_)
                          refine wpAnyH_take (i := 0) (oi := { dst := some 133, op := Op.move (Operand.tmp 7), type := 4, pos := "json.go:130", after := #[], guard := none }) (v := ?_) rfl (by kernel_rfl) (by kernel_rfl) (by kernel_rfl) (fun _ _ _ h => h) (Or.inl ⟨by rfl, ?_⟩) (by assumption) ?_
                          rotate_left
                          · intro wz hSw
                            try dsimp only at hSw
                            go_simp
                            try with_reducible rfl
                          try simp only [Act.put, List.setIfInBounds_toArray, List.set_cons_zero, List.set_cons_succ]
                          refine wpAnyH_take (i := 1) (oi := { dst := some 134, op := Op.unOp UnOp.not 4 (Operand.tmp 133), type := 4, pos := "json.go:130", after := #[{ on := 0, ground := Ground.data }], guard := none }) (v := ?_) rfl (by kernel_rfl) (by kernel_rfl) (by kernel_rfl) (fun _ _ _ h => h) (Or.inl ⟨by rfl, ?_⟩) (by assumption) ?_
                          rotate_left
                          · intro wz hSw
                            try dsimp only at hSw
                            go_simp
                            try with_reducible rfl
                          try simp only [Act.put, List.setIfInBounds_toArray, List.set_cons_zero, List.set_cons_succ]
                          refine wpAnyH_take (i := 2) (oi := { dst := some 135, op := Op.move (Operand.tmp 134), type := 4, pos := "json.go:130", after := #[{ on := 1, ground := Ground.data }], guard := none }) (v := ?_) rfl (by kernel_rfl) (by kernel_rfl) (by kernel_rfl) (fun _ _ _ h => h) (Or.inl ⟨by rfl, ?_⟩) (by assumption) ?_
                          rotate_left
                          · intro wz hSw
                            try dsimp only at hSw
                            go_simp
                            try with_reducible rfl
                          try simp only [Act.put, List.setIfInBounds_toArray, List.set_cons_zero, List.set_cons_succ]
                          refine wpAnyH_take (i := 3) (oi := { dst := some 136, op := Op.move (Operand.tmp 6), type := 52, pos := "json.go:130", after := #[{ on := 2, ground := Ground.guard }], guard := some (2, false) }) (v := ?_) rfl (by kernel_rfl) (by kernel_rfl) (by kernel_rfl) (fun _ _ _ h => h) (Or.inl ⟨by rfl, ?_⟩) (by assumption) ?_
                          rotate_left
                          · intro wz hSw
                            try dsimp only at hSw
                            go_simp
                            try with_reducible rfl
                          try simp only [Act.put, List.setIfInBounds_toArray, List.set_cons_zero, List.set_cons_succ]
                          refine wpAnyH_ready (rs := [4]) (by kernel_rfl) (by simp) (AllReadyH.cons (o := { dst := some 137, op := Op.call { callee := Callee.value (Operand.func 17), args := #[Operand.tmp 136], argTypes := #[52] }, type := 4, pos := "json.go:130", after := #[{ on := 3, ground := Ground.data }, { on := 2, ground := Ground.chain }, { on := 2, ground := Ground.guard }], guard := some (2, false) }) rfl (fun K hK => ?_) AllReadyH.nil)
                          go_simp
                          go_at_call 17
                          refine Calls.mono EIS ?_
                          rintro e w4 ⟨rfl, hw4⟩
                          go_wp2_with fail
                          refine hK.out _ _ ((by first | exact HKD.out | (rw [hw4]; exact HKD.out))) (fun hHeld4 => ?_)
                          clear hK K
                          try simp only [Act.put, List.setIfInBounds_toArray, List.set_cons_zero, List.set_cons_succ]
                          subst hw4
                          refine wpAnyH_take (i := 5) (oi := { dst := some 138, op := Op.unOp UnOp.not 4 (Operand.tmp 137), type := 4, pos := "json.go:130", after := #[{ on := 4, ground := Ground.data }, { on := 2, ground := Ground.guard }], guard := some (2, false) }) (v := ?_) rfl (by kernel_rfl) (by kernel_rfl) (by kernel_rfl) (fun _ _ _ h => h) (Or.inl ⟨by rfl, ?_⟩) (by assumption) ?_
                          rotate_left
                          · intro wz hSw
                            try dsimp only at hSw
                            go_simp
                            try with_reducible rfl
                          try simp only [Act.put, List.setIfInBounds_toArray, List.set_cons_zero, List.set_cons_succ]
                          refine wpAnyH_take (i := 6) (oi := { dst := some 139, op := Op.pick (Operand.tmp 135) (Operand.const (Value.bool true)) (Operand.tmp 138), type := 4, pos := "json.go:130", after := #[{ on := 2, ground := Ground.data }, { on := 5, ground := Ground.data }], guard := none }) (v := ?_) rfl (by kernel_rfl) (by kernel_rfl) (by kernel_rfl) (fun _ _ _ h => h) (Or.inl ⟨by rfl, ?_⟩) (by assumption) ?_
                          rotate_left
                          · intro wz hSw
                            try dsimp only at hSw
                            go_simp
                            try with_reducible rfl
                          try simp only [Act.put, List.setIfInBounds_toArray, List.set_cons_zero, List.set_cons_succ]
                          refine wpAnyH_take (i := 7) (oi := { dst := some 140, op := Op.move (Operand.tmp 139), type := 4, pos := "json.go:130", after := #[{ on := 6, ground := Ground.data }, { on := 4, ground := Ground.chain }], guard := none }) (v := ?_) rfl (by kernel_rfl) (by kernel_rfl) (by kernel_rfl) (fun _ _ _ h => h) (Or.inl ⟨by rfl, ?_⟩) (by assumption) ?_
                          rotate_left
                          · intro wz hSw
                            try dsimp only at hSw
                            go_simp
                            try with_reducible rfl
                          try simp only [Act.put, List.setIfInBounds_toArray, List.set_cons_zero, List.set_cons_succ]
                          refine wpAnyH_take (i := 8) (oi := { dst := some 141, op := Op.move (Operand.tmp 6), type := 52, pos := "json.go:130", after := #[{ on := 7, ground := Ground.guard }], guard := some (7, false) }) (v := ?_) rfl (by kernel_rfl) (by kernel_rfl) (by kernel_rfl) (fun _ _ _ h => h) (Or.inl ⟨by rfl, ?_⟩) (by assumption) ?_
                          rotate_left
                          · intro wz hSw
                            try dsimp only at hSw
                            go_simp
                            try with_reducible rfl
                          try simp only [Act.put, List.setIfInBounds_toArray, List.set_cons_zero, List.set_cons_succ]
                          refine wpAnyH_take (i := 10) (oi := { dst := some 143, op := Op.move (Operand.tmp 0), type := 38, pos := "json.go:130", after := #[{ on := 7, ground := Ground.guard }], guard := some (7, false) }) (v := ?_) rfl (by kernel_rfl) (by kernel_rfl) (by kernel_rfl) (fun _ _ _ h => h) (Or.inl ⟨by rfl, ?_⟩) (by assumption) ?_
                          rotate_left
                          · intro wz hSw
                            try dsimp only at hSw
                            go_simp
                            try with_reducible rfl
                          try simp only [Act.put, List.setIfInBounds_toArray, List.set_cons_zero, List.set_cons_succ]
                          refine wpAnyH_take (i := 11) (oi := { dst := some 144, op := Op.nilCheck (Operand.tmp 143), type := 0, pos := "json.go:130", after := #[{ on := 10, ground := Ground.data }, { on := 7, ground := Ground.guard }], guard := some (7, false) }) (v := ?_) rfl (by kernel_rfl) (by kernel_rfl) (by kernel_rfl) (fun _ _ _ h => h) (Or.inl ⟨by rfl, ?_⟩) (by assumption) ?_
                          rotate_left
                          · intro wz hSw
                            try dsimp only at hSw
                            go_simp
                            try with_reducible rfl
                          try simp only [Act.put, List.setIfInBounds_toArray, List.set_cons_zero, List.set_cons_succ]
                          refine wpAnyH_take (i := 12) (oi := { dst := some 145, op := Op.fieldAddr 40 (Operand.tmp 144) 0, type := 0, pos := "json.go:130", after := #[{ on := 11, ground := Ground.data }, { on := 7, ground := Ground.guard }], guard := some (7, false) }) (v := ?_) rfl (by kernel_rfl) (by kernel_rfl) (by kernel_rfl) (fun _ _ _ h => h) (Or.inl ⟨by rfl, ?_⟩) (by assumption) ?_
                          rotate_left
                          · intro wz hSw
                            try dsimp only at hSw
                            go_simp
                            try with_reducible rfl
                          try simp only [Act.put, List.setIfInBounds_toArray, List.set_cons_zero, List.set_cons_succ]
                          refine wpAnyH_take (i := 13) (oi := { dst := some 146, op := Op.load 9 (Operand.tmp 145), type := 9, pos := "json.go:130", after := #[{ on := 12, ground := Ground.data }, { on := 7, ground := Ground.guard }], guard := some (7, false) }) (v := ?_) rfl (by kernel_rfl) (by kernel_rfl) (by kernel_rfl) (fun _ _ _ h => h) (Or.inl ⟨by rfl, ?_⟩) (by assumption) ?_
                          rotate_left
                          · intro wz hSw
                            try dsimp only at hSw
                            go_simp
                            try with_reducible rfl
                          try simp only [Act.put, List.setIfInBounds_toArray, List.set_cons_zero, List.set_cons_succ]
                          refine wpAnyH_take (i := 14) (oi := { dst := some 147, op := Op.move (Operand.tmp 0), type := 38, pos := "json.go:130", after := #[{ on := 7, ground := Ground.guard }], guard := some (7, false) }) (v := ?_) rfl (by kernel_rfl) (by kernel_rfl) (by kernel_rfl) (fun _ _ _ h => h) (Or.inl ⟨by rfl, ?_⟩) (by assumption) ?_
                          rotate_left
                          · intro wz hSw
                            try dsimp only at hSw
                            go_simp
                            try with_reducible rfl
                          try simp only [Act.put, List.setIfInBounds_toArray, List.set_cons_zero, List.set_cons_succ]
                          refine wpAnyH_take (i := 15) (oi := { dst := some 148, op := Op.nilCheck (Operand.tmp 147), type := 0, pos := "json.go:130", after := #[{ on := 14, ground := Ground.data }, { on := 7, ground := Ground.guard }], guard := some (7, false) }) (v := ?_) rfl (by kernel_rfl) (by kernel_rfl) (by kernel_rfl) (fun _ _ _ h => h) (Or.inl ⟨by rfl, ?_⟩) (by assumption) ?_
                          rotate_left
                          · intro wz hSw
                            try dsimp only at hSw
                            go_simp
                            try with_reducible rfl
                          try simp only [Act.put, List.setIfInBounds_toArray, List.set_cons_zero, List.set_cons_succ]
                          refine wpAnyH_take (i := 16) (oi := { dst := some 149, op := Op.fieldAddr 40 (Operand.tmp 148) 1, type := 0, pos := "json.go:130", after := #[{ on := 15, ground := Ground.data }, { on := 7, ground := Ground.guard }], guard := some (7, false) }) (v := ?_) rfl (by kernel_rfl) (by kernel_rfl) (by kernel_rfl) (fun _ _ _ h => h) (Or.inl ⟨by rfl, ?_⟩) (by assumption) ?_
                          rotate_left
                          · intro wz hSw
                            try dsimp only at hSw
                            go_simp
                            try with_reducible rfl
                          try simp only [Act.put, List.setIfInBounds_toArray, List.set_cons_zero, List.set_cons_succ]
                          refine wpAnyH_take (i := 17) (oi := { dst := some 150, op := Op.load 3 (Operand.tmp 149), type := 3, pos := "json.go:130", after := #[{ on := 16, ground := Ground.data }, { on := 7, ground := Ground.guard }], guard := some (7, false) }) (v := ?_) rfl (by kernel_rfl) (by kernel_rfl) (by kernel_rfl) (fun _ _ _ h => h) (Or.inl ⟨by rfl, ?_⟩) (by assumption) ?_
                          rotate_left
                          · intro wz hSw
                            try dsimp only at hSw
                            go_simp
                            try with_reducible rfl
                          try simp only [Act.put, List.setIfInBounds_toArray, List.set_cons_zero, List.set_cons_succ]
                          refine wpAnyH_take (i := 18) (oi := { dst := some 151, op := Op.move (Operand.tmp 5), type := 3, pos := "json.go:130", after := #[{ on := 7, ground := Ground.guard }], guard := some (7, false) }) (v := ?_) rfl (by kernel_rfl) (by kernel_rfl) (by kernel_rfl) (fun _ _ _ h => h) (Or.inl ⟨by rfl, ?_⟩) (by assumption) ?_
                          rotate_left
                          · intro wz hSw
                            try dsimp only at hSw
                            go_simp
                            try with_reducible rfl
                          try simp only [Act.put, List.setIfInBounds_toArray, List.set_cons_zero, List.set_cons_succ]
                          refine wpAnyH_take (i := 19) (oi := { dst := some 152, op := Op.slice 9 (Operand.tmp 146) (some (Operand.tmp 150)) (some (Operand.tmp 151)) none, type := 9, pos := "json.go:130", after := #[{ on := 13, ground := Ground.data }, { on := 17, ground := Ground.data }, { on := 18, ground := Ground.data }, { on := 7, ground := Ground.guard }], guard := some (7, false) }) (v := .string sx) rfl (by kernel_rfl) (by kernel_rfl) (by kernel_rfl) (fun _ _ _ h => h) (Or.inl ⟨by rfl, ?_⟩) (by assumption) ?_
                          · intro wz hSw
                            try dsimp only at hSw
                            rw [← HSX.out]
                            go_simp
                          try simp only [Act.put, List.setIfInBounds_toArray, List.set_cons_zero, List.set_cons_succ]
                          refine wpAnyH_ready (rs := [9]) (by kernel_rfl) (by simp) (AllReadyH.cons (o := { dst := some 142, op := Op.call { callee := Callee.value (Operand.func 18), args := #[Operand.tmp 141], argTypes := #[52] }, type := 9, pos := "json.go:130", after := #[{ on := 8, ground := Ground.data }, { on := 7, ground := Ground.chain }, { on := 7, ground := Ground.guard }], guard := some (7, false) }) rfl (fun K hK => ?_) AllReadyH.nil)
                          go_simp
                          go_at_call 18
                          refine Calls.mono EST ?_
                          rintro e w9 ⟨rfl, b9⟩
                          go_wp2_with fail
                          refine hK.out _ _ (HKE.out _ b9) (fun hHeld9 => ?_)
                          clear hK K
                          try simp only [Act.put, List.setIfInBounds_toArray, List.set_cons_zero, List.set_cons_succ]
                          refine wpAnyH_take (i := 20) (oi := { dst := some 153, op := Op.binOp BinOp.neq 9 (Operand.tmp 142) (Operand.tmp 152) 9, type := 4, pos := "json.go:130", after := #[{ on := 9, ground := Ground.data }, { on := 19, ground := Ground.data }, { on := 7, ground := Ground.guard }], guard := some (7, false) }) (v := ?_) rfl (by kernel_rfl) (by kernel_rfl) (by kernel_rfl) (fun _ _ _ h => h) (Or.inl ⟨by rfl, ?_⟩) (by assumption) ?_
                          rotate_left
                          · intro wz hSw
                            try dsimp only at hSw
                            go_simp
                            try with_reducible rfl
                          try simp only [Act.put, List.setIfInBounds_toArray, List.set_cons_zero, List.set_cons_succ]
                          refine wpAnyH_take (i := 21) (oi := { dst := some 154, op := Op.pick (Operand.tmp 140) (Operand.const (Value.bool true)) (Operand.tmp 153), type := 4, pos := "json.go:130", after := #[{ on := 7, ground := Ground.data }, { on := 20, ground := Ground.data }], guard := none }) (v := ?_) rfl (by kernel_rfl) (by kernel_rfl) (by kernel_rfl) (fun _ _ _ h => h) (Or.inl ⟨by rfl, ?_⟩) (by assumption) ?_
                          rotate_left
                          · intro wz hSw
                            try dsimp only at hSw
                            go_simp
                            try with_reducible rfl
                          try simp only [Act.put, List.setIfInBounds_toArray, List.set_cons_zero, List.set_cons_succ]
                          refine wpAnyH_done (by kernel_rfl) ?_ _
                          refine NoPanic.normal ?_
                          clear hHeld hHeld4 hHeld9 EIS EST d0 d1 HKD HKE hne i0 i1 i2
                          have hTnX : Tn w p s k m1 0 0 w9 := HTX0.out.below HP.out.1 ((Below.refl _ _).drew.trans b9)
                          have hnX : NumAt w9 zq ng u := HNUMA.out.drew.below b9
                          clear b9 HTX0 HNUMA
                          have p0 : w9.cell? ⟨p, 0, none⟩ = some (.string s) := Lib.cell_of_heap hTnX.pb 0
                          have p1 : w9.cell? ⟨p, 1, none⟩ = some (.int .i64 (k : Int)) := Lib.cell_of_heap hTnX.pb 1
                          have pf := Lib.frozen_of_heap hTnX.pb
                          have hpbY : PB (w9.setCell ⟨p, 1, none⟩ (.int .i64 (iq : Int))) p s iq m1 0 0 := by
                            unfold PB
                            rw [set_atR hTnX.pb 1 _]
                            rfl
                          have hTnY : Tn w p s iq m1 0 0 (w9.setCell ⟨p, 1, none⟩ (.int .i64 (iq : Int))) := hTnX.move HP.out.1 ⟨rfl, rfl, rfl, by simp, fun b _ hne => Below.heap_setCell _ _ _ _ (by simpa using hne)⟩ hpbY
                          have hnY : NumAt (w9.setCell ⟨p, 1, none⟩ (.int .i64 (iq : Int))) zq ng u := hnX.setP p0 (by have := HZQ.out; omega)
                          have HTY : Hid (Tn w p s iq m1 0 0 (w9.setCell ⟨p, 1, none⟩ (.int .i64 (iq : Int)))) := hTnY
                          have HNY : Hid (NumAt (w9.setCell ⟨p, 1, none⟩ (.int .i64 (iq : Int))) zq ng u) := hnY
                          clear hpbY hTnY hnY hTnX hnX
                          go_upto_region 31 with fail
                          clear p0 p1 pf
                          generalize w9.setCell ⟨p, 1, none⟩ (.int .i64 (iq : Int)) = WY at *
                          have EIN := nInt_any zq u ng WY HNY.out HIB.out
                          obtain ⟨nv9, hnv⟩ : ∃ nv9 : Int, (if ng = true then -(u : Int) else u) = nv9 := ⟨_, rfl⟩
                          rw [hnv] at EIN HYY
                          clear hnv
                          have HR : Hid (rdT (n + 1) s k m = .ok (lfT ⟨2, nv9, ⟨#[]⟩, 0, 0⟩, iq) ∧ k < iq) := by
                            have h8 := rd_yes (n := n) HM.out.2 HMP.out HLI.out H34.out HYY.out
                            have h9 := HIQ.out.1
                            exact ⟨by rw [h9]; exact h8.1, by omega⟩
                          have hTn := HTY.out
                          clear HTY HNY
                          go_wp2_with fail
                          go_fit EIN
                          rintro e wz ⟨rfl, hwz⟩
                          subst wz
                          clear EIN
                          have HEND : Hid (∀ W7, EndT p w WY s iq m1 0 0 ((⟨2, nv9, ⟨#[]⟩, 0, 0⟩, .slice none 0 0, .slice none 0 0) : TV) W7 → post (.returned (tval ((⟨2, nv9, ⟨#[]⟩, 0, 0⟩, .slice none 0 0, .slice none 0 0) : TV))) W7) := by
                            intro W7 hE
                            rw [HPO.out]
                            have e1 := HM.out.1
                            subst e1
                            exact leaf_end hE HR.out.1 HM.out.2 HR.out.2 HIQ.out.2
                          have hz2 := hTn.box
                          unfold zO at hz2
                          have r0 : WY.cell? ⟨w.heap.size, 0, none⟩ = some (.int .i64 0) := Lib.cell_of_heap hz2 0
                          have r1 : WY.cell? ⟨w.heap.size, 1, none⟩ = some (.int .i64 0) := Lib.cell_of_heap hz2 1
                          have r2 : WY.cell? ⟨w.heap.size, 2, none⟩ = some (.string ⟨#[]⟩) := Lib.cell_of_heap hz2 2
                          have r3 : WY.cell? ⟨w.heap.size, 3, none⟩ = some (.int .i64 0) := Lib.cell_of_heap hz2 3
                          have r4 : WY.cell? ⟨w.heap.size, 4, none⟩ = some (.int .i64 0) := Lib.cell_of_heap hz2 4
                          have r5 : WY.cell? ⟨w.heap.size, 5, none⟩ = some (.slice none 0 0) := Lib.cell_of_heap hz2 5
                          have r6 : WY.cell? ⟨w.heap.size, 6, none⟩ = some (.slice none 0 0) := Lib.cell_of_heap hz2 6
                          have zf := Lib.frozen_of_heap hz2
                          have HE : Hid (EndT p w WY s iq m1 0 0 ((⟨2, nv9, ⟨#[]⟩, 0, 0⟩, .slice none 0 0, .slice none 0 0) : TV) _) := tree_end HP.out.1 hTn ((⟨2, nv9, ⟨#[]⟩, 0, 0⟩, .slice none 0 0, .slice none 0 0) : TV)
                          unfold sv7 at HE
                          dsimp only at HE
                          clear hz2 hTn 
                          go_wp2_with fail
                          clear r0 r1 r2 r3 r4 r5 r6 zf
                          generalize (((((((WY.setCell ⟨w.heap.size, 0, none⟩ (.int .i64 2)).setCell ⟨w.heap.size, 1, none⟩ (.int .i64 nv9)).setCell ⟨w.heap.size, 2, none⟩ (.string ⟨#[]⟩)).setCell ⟨w.heap.size, 3, none⟩ (.int .i64 0)).setCell ⟨w.heap.size, 4, none⟩ (.int .i64 0)).setCell ⟨w.heap.size, 5, none⟩ (.slice none 0 0)).setCell ⟨w.heap.size, 6, none⟩ (.slice none 0 0)) = W7 at *
                          have h7 := HE.out.1
                          dsimp only at h7
                          have q0 : W7.cell? ⟨w.heap.size, 0, none⟩ = some (.int .i64 2) := Lib.cell_of_heap h7 0
                          have q1 : W7.cell? ⟨w.heap.size, 1, none⟩ = some (.int .i64 nv9) := Lib.cell_of_heap h7 1
                          have q2 : W7.cell? ⟨w.heap.size, 2, none⟩ = some (.string ⟨#[]⟩) := Lib.cell_of_heap h7 2
                          have q3 : W7.cell? ⟨w.heap.size, 3, none⟩ = some (.int .i64 0) := Lib.cell_of_heap h7 3
                          have q4 : W7.cell? ⟨w.heap.size, 4, none⟩ = some (.int .i64 0) := Lib.cell_of_heap h7 4
                          have q5 : W7.cell? ⟨w.heap.size, 5, none⟩ = some (.slice none 0 0) := Lib.cell_of_heap h7 5
                          have q6 : W7.cell? ⟨w.heap.size, 6, none⟩ = some (.slice none 0 0) := Lib.cell_of_heap h7 6
                          exact bodyPost_ret (v := tval ((⟨2, nv9, ⟨#[]⟩, 0, 0⟩, .slice none 0 0, .slice none 0 0) : TV)) (by simp [tval, results, Tryz.results7, go_sem, q0, q1, q2, q3, q4, q5, q6]) rfl (HEND.out W7 HE.out)
                        · have hne : (ts.toList == sx.toList) = false := by rw [htl, hxl, beq_eq_false_iff_ne]; exact heq
                          have HNN : Hid (num64 (dgs (lft s k)) = none) := by
                            show _ = _
                            rw [HNE.out, if_neg (fun h => heq h.2)]
                          clear heq htl hxl hib
                          go_wp2_with fail
                          refine wp_region_noPanic ?_
                          refine wp_region_held_drew (S := fun W => W.cell? ⟨p, 0, none⟩ = some (.string s) ∧ W.cell? ⟨p, 1, none⟩ = some (.int .i64 (k : Int))) (by kernel_rfl) (⟨d0, d1⟩) (fun hHeld => ?_)
                          refine wpAnyH_take (i := 0) (oi := { dst := some 133, op := Op.move (Operand.tmp 7), type := 4, pos := "json.go:130", after := #[], guard := none }) (v := ?_) rfl (by kernel_rfl) (by kernel_rfl) (by kernel_rfl) (fun _ _ _ h => h) (Or.inl ⟨by rfl, ?_⟩) (by assumption) ?_
                          rotate_left
                          · intro wz hSw
                            try dsimp only at hSw
                            go_simp
                            try with_reducible rfl
                          try simp only [Act.put, List.setIfInBounds_toArray, List.set_cons_zero, List.set_cons_succ]
                          refine wpAnyH_take (i := 1) (oi := { dst := some 134, op := Op.unOp UnOp.not 4 (Operand.tmp 133), type := 4, pos := "json.go:130", after := #[{ on := 0, ground := Ground.data }], guard := none }) (v := ?_) rfl (by kernel_rfl) (by kernel_rfl) (by kernel_rfl) (fun _ _ _ h => h) (Or.inl ⟨by rfl, ?_⟩) (by assumption) ?_
                          rotate_left
                          · intro wz hSw
                            try dsimp only at hSw
                            go_simp
                            try with_reducible rfl
                          try simp only [Act.put, List.setIfInBounds_toArray, List.set_cons_zero, List.set_cons_succ]
                          refine wpAnyH_take (i := 2) (oi := { dst := some 135, op := Op.move (Operand.tmp 134), type := 4, pos := "json.go:130", after := #[{ on := 1, ground := Ground.data }], guard := none }) (v := ?_) rfl (by kernel_rfl) (by kernel_rfl) (by kernel_rfl) (fun _ _ _ h => h) (Or.inl ⟨by rfl, ?_⟩) (by assumption) ?_
                          rotate_left
                          · intro wz hSw
                            try dsimp only at hSw
                            go_simp
                            try with_reducible rfl
                          try simp only [Act.put, List.setIfInBounds_toArray, List.set_cons_zero, List.set_cons_succ]
                          refine wpAnyH_take (i := 3) (oi := { dst := some 136, op := Op.move (Operand.tmp 6), type := 52, pos := "json.go:130", after := #[{ on := 2, ground := Ground.guard }], guard := some (2, false) }) (v := ?_) rfl (by kernel_rfl) (by kernel_rfl) (by kernel_rfl) (fun _ _ _ h => h) (Or.inl ⟨by rfl, ?_⟩) (by assumption) ?_
                          rotate_left
                          · intro wz hSw
                            try dsimp only at hSw
                            go_simp
                            try with_reducible rfl
                          try simp only [Act.put, List.setIfInBounds_toArray, List.set_cons_zero, List.set_cons_succ]
                          refine wpAnyH_ready (rs := [4]) (by kernel_rfl) (by simp) (AllReadyH.cons (o := { dst := some 137, op := Op.call { callee := Callee.value (Operand.func 17), args := #[Operand.tmp 136], argTypes := #[52] }, type := 4, pos := "json.go:130", after := #[{ on := 3, ground := Ground.data }, { on := 2, ground := Ground.chain }, { on := 2, ground := Ground.guard }], guard := some (2, false) }) rfl (fun K hK => ?_) AllReadyH.nil)
                          go_simp
                          go_at_call 17
                          refine Calls.mono EIS ?_
                          rintro e w4 ⟨rfl, hw4⟩
                          go_wp2_with fail
                          refine hK.out _ _ ((by first | exact HKD.out | (rw [hw4]; exact HKD.out))) (fun hHeld4 => ?_)
                          clear hK K
                          try simp only [Act.put, List.setIfInBounds_toArray, List.set_cons_zero, List.set_cons_succ]
                          subst hw4
                          refine wpAnyH_take (i := 5) (oi := { dst := some 138, op := Op.unOp UnOp.not 4 (Operand.tmp 137), type := 4, pos := "json.go:130", after := #[{ on := 4, ground := Ground.data }, { on := 2, ground := Ground.guard }], guard := some (2, false) }) (v := ?_) rfl (by kernel_rfl) (by kernel_rfl) (by kernel_rfl) (fun _ _ _ h => h) (Or.inl ⟨by rfl, ?_⟩) (by assumption) ?_
                          rotate_left
                          · intro wz hSw
                            try dsimp only at hSw
                            go_simp
                            try with_reducible rfl
                          try simp only [Act.put, List.setIfInBounds_toArray, List.set_cons_zero, List.set_cons_succ]
                          refine wpAnyH_take (i := 6) (oi := { dst := some 139, op := Op.pick (Operand.tmp 135) (Operand.const (Value.bool true)) (Operand.tmp 138), type := 4, pos := "json.go:130", after := #[{ on := 2, ground := Ground.data }, { on := 5, ground := Ground.data }], guard := none }) (v := ?_) rfl (by kernel_rfl) (by kernel_rfl) (by kernel_rfl) (fun _ _ _ h => h) (Or.inl ⟨by rfl, ?_⟩) (by assumption) ?_
                          rotate_left
                          · intro wz hSw
                            try dsimp only at hSw
                            go_simp
                            try with_reducible rfl
                          try simp only [Act.put, List.setIfInBounds_toArray, List.set_cons_zero, List.set_cons_succ]
                          refine wpAnyH_take (i := 7) (oi := { dst := some 140, op := Op.move (Operand.tmp 139), type := 4, pos := "json.go:130", after := #[{ on := 6, ground := Ground.data }, { on := 4, ground := Ground.chain }], guard := none }) (v := ?_) rfl (by kernel_rfl) (by kernel_rfl) (by kernel_rfl) (fun _ _ _ h => h) (Or.inl ⟨by rfl, ?_⟩) (by assumption) ?_
                          rotate_left
                          · intro wz hSw
                            try dsimp only at hSw
                            go_simp
                            try with_reducible rfl
                          try simp only [Act.put, List.setIfInBounds_toArray, List.set_cons_zero, List.set_cons_succ]
                          refine wpAnyH_take (i := 8) (oi := { dst := some 141, op := Op.move (Operand.tmp 6), type := 52, pos := "json.go:130", after := #[{ on := 7, ground := Ground.guard }], guard := some (7, false) }) (v := ?_) rfl (by kernel_rfl) (by kernel_rfl) (by kernel_rfl) (fun _ _ _ h => h) (Or.inl ⟨by rfl, ?_⟩) (by assumption) ?_
                          rotate_left
                          · intro wz hSw
                            try dsimp only at hSw
                            go_simp
                            try with_reducible rfl
                          try simp only [Act.put, List.setIfInBounds_toArray, List.set_cons_zero, List.set_cons_succ]
                          refine wpAnyH_take (i := 10) (oi := { dst := some 143, op := Op.move (Operand.tmp 0), type := 38, pos := "json.go:130", after := #[{ on := 7, ground := Ground.guard }], guard := some (7, false) }) (v := ?_) rfl (by kernel_rfl) (by kernel_rfl) (by kernel_rfl) (fun _ _ _ h => h) (Or.inl ⟨by rfl, ?_⟩) (by assumption) ?_
                          rotate_left
                          · intro wz hSw
                            try dsimp only at hSw
                            go_simp
                            try with_reducible rfl
                          try simp only [Act.put, List.setIfInBounds_toArray, List.set_cons_zero, List.set_cons_succ]
                          refine wpAnyH_take (i := 11) (oi := { dst := some 144, op := Op.nilCheck (Operand.tmp 143), type := 0, pos := "json.go:130", after := #[{ on := 10, ground := Ground.data }, { on := 7, ground := Ground.guard }], guard := some (7, false) }) (v := ?_) rfl (by kernel_rfl) (by kernel_rfl) (by kernel_rfl) (fun _ _ _ h => h) (Or.inl ⟨by rfl, ?_⟩) (by assumption) ?_
                          rotate_left
                          · intro wz hSw
                            try dsimp only at hSw
                            go_simp
                            try with_reducible rfl
                          try simp only [Act.put, List.setIfInBounds_toArray, List.set_cons_zero, List.set_cons_succ]
                          refine wpAnyH_take (i := 12) (oi := { dst := some 145, op := Op.fieldAddr 40 (Operand.tmp 144) 0, type := 0, pos := "json.go:130", after := #[{ on := 11, ground := Ground.data }, { on := 7, ground := Ground.guard }], guard := some (7, false) }) (v := ?_) rfl (by kernel_rfl) (by kernel_rfl) (by kernel_rfl) (fun _ _ _ h => h) (Or.inl ⟨by rfl, ?_⟩) (by assumption) ?_
                          rotate_left
                          · intro wz hSw
                            try dsimp only at hSw
                            go_simp
                            try with_reducible rfl
                          try simp only [Act.put, List.setIfInBounds_toArray, List.set_cons_zero, List.set_cons_succ]
                          refine wpAnyH_take (i := 13) (oi := { dst := some 146, op := Op.load 9 (Operand.tmp 145), type := 9, pos := "json.go:130", after := #[{ on := 12, ground := Ground.data }, { on := 7, ground := Ground.guard }], guard := some (7, false) }) (v := ?_) rfl (by kernel_rfl) (by kernel_rfl) (by kernel_rfl) (fun _ _ _ h => h) (Or.inl ⟨by rfl, ?_⟩) (by assumption) ?_
                          rotate_left
                          · intro wz hSw
                            try dsimp only at hSw
                            go_simp
                            try with_reducible rfl
                          try simp only [Act.put, List.setIfInBounds_toArray, List.set_cons_zero, List.set_cons_succ]
                          refine wpAnyH_take (i := 14) (oi := { dst := some 147, op := Op.move (Operand.tmp 0), type := 38, pos := "json.go:130", after := #[{ on := 7, ground := Ground.guard }], guard := some (7, false) }) (v := ?_) rfl (by kernel_rfl) (by kernel_rfl) (by kernel_rfl) (fun _ _ _ h => h) (Or.inl ⟨by rfl, ?_⟩) (by assumption) ?_
                          rotate_left
                          · intro wz hSw
                            try dsimp only at hSw
                            go_simp
                            try with_reducible rfl
                          try simp only [Act.put, List.setIfInBounds_toArray, List.set_cons_zero, List.set_cons_succ]
                          refine wpAnyH_take (i := 15) (oi := { dst := some 148, op := Op.nilCheck (Operand.tmp 147), type := 0, pos := "json.go:130", after := #[{ on := 14, ground := Ground.data }, { on := 7, ground := Ground.guard }], guard := some (7, false) }) (v := ?_) rfl (by kernel_rfl) (by kernel_rfl) (by kernel_rfl) (fun _ _ _ h => h) (Or.inl ⟨by rfl, ?_⟩) (by assumption) ?_
                          rotate_left
                          · intro wz hSw
                            try dsimp only at hSw
                            go_simp
                            try with_reducible rfl
                          try simp only [Act.put, List.setIfInBounds_toArray, List.set_cons_zero, List.set_cons_succ]
                          refine wpAnyH_take (i := 16) (oi := { dst := some 149, op := Op.fieldAddr 40 (Operand.tmp 148) 1, type := 0, pos := "json.go:130", after := #[{ on := 15, ground := Ground.data }, { on := 7, ground := Ground.guard }], guard := some (7, false) }) (v := ?_) rfl (by kernel_rfl) (by kernel_rfl) (by kernel_rfl) (fun _ _ _ h => h) (Or.inl ⟨by rfl, ?_⟩) (by assumption) ?_
                          rotate_left
                          · intro wz hSw
                            try dsimp only at hSw
                            go_simp
                            try with_reducible rfl
                          try simp only [Act.put, List.setIfInBounds_toArray, List.set_cons_zero, List.set_cons_succ]
                          refine wpAnyH_take (i := 17) (oi := { dst := some 150, op := Op.load 3 (Operand.tmp 149), type := 3, pos := "json.go:130", after := #[{ on := 16, ground := Ground.data }, { on := 7, ground := Ground.guard }], guard := some (7, false) }) (v := ?_) rfl (by kernel_rfl) (by kernel_rfl) (by kernel_rfl) (fun _ _ _ h => h) (Or.inl ⟨by rfl, ?_⟩) (by assumption) ?_
                          rotate_left
                          · intro wz hSw
                            try dsimp only at hSw
                            go_simp
                            try with_reducible rfl
                          try simp only [Act.put, List.setIfInBounds_toArray, List.set_cons_zero, List.set_cons_succ]
                          refine wpAnyH_take (i := 18) (oi := { dst := some 151, op := Op.move (Operand.tmp 5), type := 3, pos := "json.go:130", after := #[{ on := 7, ground := Ground.guard }], guard := some (7, false) }) (v := ?_) rfl (by kernel_rfl) (by kernel_rfl) (by kernel_rfl) (fun _ _ _ h => h) (Or.inl ⟨by rfl, ?_⟩) (by assumption) ?_
                          rotate_left
                          · intro wz hSw
                            try dsimp only at hSw
                            go_simp
                            try with_reducible rfl
                          try simp only [Act.put, List.setIfInBounds_toArray, List.set_cons_zero, List.set_cons_succ]
                          refine wpAnyH_take (i := 19) (oi := { dst := some 152, op := Op.slice 9 (Operand.tmp 146) (some (Operand.tmp 150)) (some (Operand.tmp 151)) none, type := 9, pos := "json.go:130", after := #[{ on := 13, ground := Ground.data }, { on := 17, ground := Ground.data }, { on := 18, ground := Ground.data }, { on := 7, ground := Ground.guard }], guard := some (7, false) }) (v := .string sx) rfl (by kernel_rfl) (by kernel_rfl) (by kernel_rfl) (fun _ _ _ h => h) (Or.inl ⟨by rfl, ?_⟩) (by assumption) ?_
                          · intro wz hSw
                            try dsimp only at hSw
                            rw [← HSX.out]
                            go_simp
                          try simp only [Act.put, List.setIfInBounds_toArray, List.set_cons_zero, List.set_cons_succ]
                          refine wpAnyH_ready (rs := [9]) (by kernel_rfl) (by simp) (AllReadyH.cons (o := { dst := some 142, op := Op.call { callee := Callee.value (Operand.func 18), args := #[Operand.tmp 141], argTypes := #[52] }, type := 9, pos := "json.go:130", after := #[{ on := 8, ground := Ground.data }, { on := 7, ground := Ground.chain }, { on := 7, ground := Ground.guard }], guard := some (7, false) }) rfl (fun K hK => ?_) AllReadyH.nil)
                          go_simp
                          go_at_call 18
                          refine Calls.mono EST ?_
                          rintro e w9 ⟨rfl, b9⟩
                          go_wp2_with fail
                          refine hK.out _ _ (HKE.out _ b9) (fun hHeld9 => ?_)
                          clear hK K
                          try simp only [Act.put, List.setIfInBounds_toArray, List.set_cons_zero, List.set_cons_succ]
                          refine wpAnyH_take (i := 20) (oi := { dst := some 153, op := Op.binOp BinOp.neq 9 (Operand.tmp 142) (Operand.tmp 152) 9, type := 4, pos := "json.go:130", after := #[{ on := 9, ground := Ground.data }, { on := 19, ground := Ground.data }, { on := 7, ground := Ground.guard }], guard := some (7, false) }) (v := ?_) rfl (by kernel_rfl) (by kernel_rfl) (by kernel_rfl) (fun _ _ _ h => h) (Or.inl ⟨by rfl, ?_⟩) (by assumption) ?_
                          rotate_left
                          · intro wz hSw
                            try dsimp only at hSw
                            go_simp
                            try with_reducible rfl
                          try simp only [Act.put, List.setIfInBounds_toArray, List.set_cons_zero, List.set_cons_succ]
                          refine wpAnyH_take (i := 21) (oi := { dst := some 154, op := Op.pick (Operand.tmp 140) (Operand.const (Value.bool true)) (Operand.tmp 153), type := 4, pos := "json.go:130", after := #[{ on := 7, ground := Ground.data }, { on := 20, ground := Ground.data }], guard := none }) (v := ?_) rfl (by kernel_rfl) (by kernel_rfl) (by kernel_rfl) (fun _ _ _ h => h) (Or.inl ⟨by rfl, ?_⟩) (by assumption) ?_
                          rotate_left
                          · intro wz hSw
                            try dsimp only at hSw
                            go_simp
                            try with_reducible rfl
                          try simp only [Act.put, List.setIfInBounds_toArray, List.set_cons_zero, List.set_cons_succ]
                          refine wpAnyH_done (by kernel_rfl) ?_ _
                          refine NoPanic.normal ?_
                          clear hHeld hHeld4 hHeld9 EIS EST d0 d1 HKD HKE hne i0 i1 i2
                          have hTnX : Tn w p s k m1 0 0 w9 := HTX0.out.below HP.out.1 ((Below.refl _ _).drew.trans b9)
                          clear b9 HTX0 HNUMA
                          have EF := failH_any p s k m1 0 k 0 2 w9 hTnX.pb
                          simp only [if_true] at EF
                          have p1 : w9.cell? ⟨p, 1, none⟩ = some (.int .i64 (k : Int)) := Lib.cell_of_heap hTnX.pb 1
                          have HTX : Hid (Tn w p s k m1 0 0 w9) := hTnX
                          clear hTnX
                          have HR : Hid (rdT (n + 1) s k m = .error (k, 2)) := rd_no HM.out.2 HMP.out HLI.out H34.out HW1.out HW3.out HW2.out (HNN.out)
                          go_wp2_with fail
                          go_fit EF
                          rintro e wf ⟨rfl, hpbf, hrkf⟩
                          clear EF p1
                          have hTn := HTX.out.move HP.out.1 hrkf hpbf
                          clear hpbf hrkf HTX
                          have HEND : Hid (∀ W7, EndT p w wf s k m1 k 2 ((⟨0, 0, ⟨#[]⟩, 0, 0⟩, .slice none 0 0, .slice none 0 0) : TV) W7 → post (.returned (tval ((⟨0, 0, ⟨#[]⟩, 0, 0⟩, .slice none 0 0, .slice none 0 0) : TV))) W7) := by
                            intro W7 hE
                            rw [HPO.out]
                            exact bad_end hE zU_sl HR.out (by decide)
                          have hz2 := hTn.box
                          unfold zO at hz2
                          have r0 : wf.cell? ⟨w.heap.size, 0, none⟩ = some (.int .i64 0) := Lib.cell_of_heap hz2 0
                          have r1 : wf.cell? ⟨w.heap.size, 1, none⟩ = some (.int .i64 0) := Lib.cell_of_heap hz2 1
                          have r2 : wf.cell? ⟨w.heap.size, 2, none⟩ = some (.string ⟨#[]⟩) := Lib.cell_of_heap hz2 2
                          have r3 : wf.cell? ⟨w.heap.size, 3, none⟩ = some (.int .i64 0) := Lib.cell_of_heap hz2 3
                          have r4 : wf.cell? ⟨w.heap.size, 4, none⟩ = some (.int .i64 0) := Lib.cell_of_heap hz2 4
                          have r5 : wf.cell? ⟨w.heap.size, 5, none⟩ = some (.slice none 0 0) := Lib.cell_of_heap hz2 5
                          have r6 : wf.cell? ⟨w.heap.size, 6, none⟩ = some (.slice none 0 0) := Lib.cell_of_heap hz2 6
                          have zf := Lib.frozen_of_heap hz2
                          have HE : Hid (EndT p w wf s k m1 k 2 ((⟨0, 0, ⟨#[]⟩, 0, 0⟩, .slice none 0 0, .slice none 0 0) : TV) _) := tree_end HP.out.1 hTn ((⟨0, 0, ⟨#[]⟩, 0, 0⟩, .slice none 0 0, .slice none 0 0) : TV)
                          unfold sv7 at HE
                          dsimp only at HE
                          clear hz2 hTn 
                          go_wp2_with fail
                          clear r0 r1 r2 r3 r4 r5 r6 zf
                          generalize (((((((wf.setCell ⟨w.heap.size, 0, none⟩ (.int .i64 0)).setCell ⟨w.heap.size, 1, none⟩ (.int .i64 0)).setCell ⟨w.heap.size, 2, none⟩ (.string ⟨#[]⟩)).setCell ⟨w.heap.size, 3, none⟩ (.int .i64 0)).setCell ⟨w.heap.size, 4, none⟩ (.int .i64 0)).setCell ⟨w.heap.size, 5, none⟩ (.slice none 0 0)).setCell ⟨w.heap.size, 6, none⟩ (.slice none 0 0)) = W7 at *
                          have h7 := HE.out.1
                          dsimp only at h7
                          have q0 : W7.cell? ⟨w.heap.size, 0, none⟩ = some (.int .i64 0) := Lib.cell_of_heap h7 0
                          have q1 : W7.cell? ⟨w.heap.size, 1, none⟩ = some (.int .i64 0) := Lib.cell_of_heap h7 1
                          have q2 : W7.cell? ⟨w.heap.size, 2, none⟩ = some (.string ⟨#[]⟩) := Lib.cell_of_heap h7 2
                          have q3 : W7.cell? ⟨w.heap.size, 3, none⟩ = some (.int .i64 0) := Lib.cell_of_heap h7 3
                          have q4 : W7.cell? ⟨w.heap.size, 4, none⟩ = some (.int .i64 0) := Lib.cell_of_heap h7 4
                          have q5 : W7.cell? ⟨w.heap.size, 5, none⟩ = some (.slice none 0 0) := Lib.cell_of_heap h7 5
                          have q6 : W7.cell? ⟨w.heap.size, 6, none⟩ = some (.slice none 0 0) := Lib.cell_of_heap h7 6
                          exact bodyPost_ret (v := tval ((⟨0, 0, ⟨#[]⟩, 0, 0⟩, .slice none 0 0, .slice none 0 0) : TV)) (by simp [tval, results, Tryz.results7, go_sem, q0, q1, q2, q3, q4, q5, q6]) rfl (HEND.out W7 HE.out)
/-- Trees are read, whatever is left. -/
theorem treeH_all {s : ByteArray} {p : Nat} (hs : s.size ≤ 60000) : ∀ n, TreeHC p s n
  | 0 => fun _ _ _ h => absurd h (Nat.not_lt_zero _)
  | n + 1 => fun k m w h1 h2 h3 h4 => treeH_step (treeH_all hs n) hs k m w h1 h2 h3 h4
end Go.Proofs.YtnmdhbejjjmdeaaGreatDoor
