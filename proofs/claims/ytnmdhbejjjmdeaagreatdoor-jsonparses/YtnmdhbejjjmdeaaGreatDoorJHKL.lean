/-
  What is proved: bookref3's kids reads a list, or tells a fault, and its place.
  Conditions: trees that stand farther on are read, or a fault is told.
-/
import Derived.Test.YtnmdhbejjjmdeaaGreatDoorP21
namespace Go.Proofs.YtnmdhbejjjmdeaaGreatDoor
open Go.RowKit Go.Sort

set_option maxRecDepth 100000 in
set_option maxHeartbeats 16000000 in
theorem kidsL_any {s : ByteArray} {p n : Nat} (hT : TreeHC p s n) (hs : s.size ≤ 60000) (k0 m0 : Nat) (w : World) (hn : s.size - k0 < n) (h : PB w p s k0 m0 0 0) (h1 : 1 ≤ k0) (hk : k0 ≤ s.size) (hm : m0 ≤ 400) :
    Calls Tryz.prog 14 #[.pointer (some ⟨p, 0, none⟩), .int .i64 6, .string ⟨#[93]⟩] w fun e w' => KidsP n false p s k0 m0 w e w' := by
  obtain ⟨hpl, hBm0, hPB0⟩ := kids_start (mp := false) h
  have EI := isH_any p s k0 m0 0 0 ⟨#[93]⟩ (wK (cx false).k w) hPB0 hk hs (by decide)
  have HBM0 : Hid (Bm false p (w.heap.size + 1) w.heap.size (w.heap.size + 2) w ([], []) (.slice none 0 0) (.slice none 0 0) [] (wK (cx false).k w)) := hBm0
  have HPL : Hid (Pl p (w.heap.size + 1) w.heap.size (w.heap.size + 2) w ∧ 1 ≤ k0) := ⟨hpl, h1⟩
  have HS : Hid (s.size ≤ 60000) := hs
  have HN : Hid (s.size - k0 < n ∧ k0 ≤ s.size ∧ m0 ≤ 400 ∧ 1 ≤ k0) := ⟨hn, hk, hm, h1⟩
  have HTC : Hid (TreeHC p s n) := hT
  obtain ⟨post, hpost⟩ : ∃ post, post = KidsP n false p s k0 m0 w := ⟨_, rfl⟩
  rw [← hpost]
  have HPO : Hid (post = KidsP n false p s k0 m0 w) := hpost
  obtain ⟨pb, hpb⟩ : ∃ pb, preB s k0 ⟨#[93]⟩ = pb := ⟨_, rfl⟩
  rw [hpb] at EI
  clear hpost hT hs hn h hk hm hpl hBm0 hPB0 h1
  unfold wK zO at EI
  simp only [show (cx false).k = 6 from rfl] at EI
  go_enter Tryz.func14, Tryz.ntmps14
  go_wp2_with fail
  refine Calls.mono EI ?_
  rintro e w1 ⟨rfl, hpb1, hrk1⟩
  clear EI
  have hBm1 := HBM0.out.move HPL.out.1 hrk1
  clear hrk1 HBM0
  cases pb with
  | true =>
    simp only [if_true] at hpb1
    have hrm := pre_room hpb rfl
    have hBn := hBm1.n
    have hPBE := hpb1
    have HTR : Hid (IsTP (fun b => w.heap.size + 2 ≤ b) w1 (tval (cx false, .slice none 0 0, .slice none 0 0)) (.node (cx false) [] [])) := hBm1.tree
    have HRM : Hid (k0 + 1 ≤ s.size) := hrm
    have HEND : Hid (∀ W7, EndP false p w.heap.size w w1 s (k0 + 1) m0 0 0 (.slice none 0 0) (.slice none 0 0) W7 → post (.returned (tval (cx false, .slice none 0 0, .slice none 0 0))) W7) := by
      intro W7 hE
      rw [HPO.out]
      have h9 := HN.out
      refine Or.inl ⟨([], []), k0 + 1, m0, _, from_end hpb, by simp [sizes], h9.2.2.1, by omega, HRM.out, rfl, ?_, hE.2.1, hE.2.2.1⟩
      exact (hE.2.2.2 _ _ _ HTR.out (fun b hb => by omega)).move (Nat.le_refl _) (fun _ _ _ => rfl) (fun b hb => by omega)
    have hbt := hBn.ht
    unfold cx at hbt
    simp only [Bool.false_eq_true, if_false] at hbt
    have hz2 := hBn.hr
    unfold zO at hz2
    have b0 : w1.cell? ⟨w.heap.size + 1, 0, none⟩ = some (.int .i64 6) := Lib.cell_of_heap hbt 0
    have b1 : w1.cell? ⟨w.heap.size + 1, 1, none⟩ = some (.int .i64 0) := Lib.cell_of_heap hbt 1
    have b2 : w1.cell? ⟨w.heap.size + 1, 2, none⟩ = some (.string ⟨#[]⟩) := Lib.cell_of_heap hbt 2
    have b3 : w1.cell? ⟨w.heap.size + 1, 3, none⟩ = some (.int .i64 0) := Lib.cell_of_heap hbt 3
    have b4 : w1.cell? ⟨w.heap.size + 1, 4, none⟩ = some (.int .i64 0) := Lib.cell_of_heap hbt 4
    have b5 : w1.cell? ⟨w.heap.size + 1, 5, none⟩ = some (.slice none 0 0) := Lib.cell_of_heap hbt 5
    have b6 : w1.cell? ⟨w.heap.size + 1, 6, none⟩ = some (.slice none 0 0) := Lib.cell_of_heap hbt 6
    have r0 : w1.cell? ⟨w.heap.size, 0, none⟩ = some (.int .i64 0) := Lib.cell_of_heap hz2 0
    have r1 : w1.cell? ⟨w.heap.size, 1, none⟩ = some (.int .i64 0) := Lib.cell_of_heap hz2 1
    have r2 : w1.cell? ⟨w.heap.size, 2, none⟩ = some (.string ⟨#[]⟩) := Lib.cell_of_heap hz2 2
    have r3 : w1.cell? ⟨w.heap.size, 3, none⟩ = some (.int .i64 0) := Lib.cell_of_heap hz2 3
    have r4 : w1.cell? ⟨w.heap.size, 4, none⟩ = some (.int .i64 0) := Lib.cell_of_heap hz2 4
    have r5 : w1.cell? ⟨w.heap.size, 5, none⟩ = some (.slice none 0 0) := Lib.cell_of_heap hz2 5
    have r6 : w1.cell? ⟨w.heap.size, 6, none⟩ = some (.slice none 0 0) := Lib.cell_of_heap hz2 6
    have zf := Lib.frozen_of_heap hz2
    have HE : Hid (EndP _ _ _ _ _ _ _ _ _ _ _ _ _) := kids_end HPL.out.1 (Nat.le_refl _) hBn hPBE
    unfold st7 at HE
    simp only [show (cx false).k = 6 from rfl] at HE
    clear hbt hz2 hBn hPBE hBm1 hpb1 hrm hpb HTR
    go_wp2_with fail
    clear b0 b1 b2 b3 b4 b5 b6 r0 r1 r2 r3 r4 r5 r6 zf
    generalize (((((((w1.setCell ⟨w.heap.size, 0, none⟩ (.int .i64 6)).setCell ⟨w.heap.size, 1, none⟩ (.int .i64 0)).setCell ⟨w.heap.size, 2, none⟩ (.string ⟨#[]⟩)).setCell ⟨w.heap.size, 3, none⟩ (.int .i64 0)).setCell ⟨w.heap.size, 4, none⟩ (.int .i64 0)).setCell ⟨w.heap.size, 5, none⟩ (.slice none 0 0)).setCell ⟨w.heap.size, 6, none⟩ (.slice none 0 0)) = W7 at *
    have h7 := HE.out.1
    have q0 : W7.cell? ⟨w.heap.size, 0, none⟩ = some (.int .i64 6) := Lib.cell_of_heap h7 0
    have q1 : W7.cell? ⟨w.heap.size, 1, none⟩ = some (.int .i64 0) := Lib.cell_of_heap h7 1
    have q2 : W7.cell? ⟨w.heap.size, 2, none⟩ = some (.string ⟨#[]⟩) := Lib.cell_of_heap h7 2
    have q3 : W7.cell? ⟨w.heap.size, 3, none⟩ = some (.int .i64 0) := Lib.cell_of_heap h7 3
    have q4 : W7.cell? ⟨w.heap.size, 4, none⟩ = some (.int .i64 0) := Lib.cell_of_heap h7 4
    have q5 : W7.cell? ⟨w.heap.size, 5, none⟩ = some (.slice none 0 0) := Lib.cell_of_heap h7 5
    have q6 : W7.cell? ⟨w.heap.size, 6, none⟩ = some (.slice none 0 0) := Lib.cell_of_heap h7 6
    exact bodyPost_ret (v := tval (cx false, .slice none 0 0, .slice none 0 0)) (by simp [tval, cx, results, Tryz.results14, go_sem, q0, q1, q2, q3, q4, q5, q6]) rfl (HEND.out W7 HE.out)
  | false =>
    simp only [Bool.false_eq_true, if_false] at hpb1
    have HST : Hid (KI n false p s k0 m0 w w1) := ⟨([], []), k0, m0, s.size, _, _, _, hBm1, hpb1, Nat.le_refl _, HN.out.2.1, HN.out.2.2.1, by simp [sizes], by have := HN.out; omega, fun _ => rfl, from_start hpb⟩
    clear hBm1 hpb1 hpb
    go_wp2_with fail
    go_loopw [8, 9, 10, 11, 12] (fun _ _ _ _ _ wr => KI n false p s k0 m0 w wr) (fun _ _ _ _ _ wr => s.size + 1 - posOf wr p)
    case atStart => exact HST.out
    case round =>
      clear HST
      obtain ⟨x, k, m, f, vk, vt, us, hBm, hPB, hk0, hk, hm, hmm, hf, hkx, htot⟩ := hrel
      obtain ⟨⟨ka, kc, rfl⟩, ta, tc, rfl⟩ := hBm.sls
      obtain ⟨tn, htn⟩ : ∃ tn, us.length = tn := ⟨_, rfl⟩
      obtain ⟨kn, hkn⟩ : ∃ kn, x.1.length = kn := ⟨_, rfl⟩
      rw [htn, hkn] at hBm
      have HTN : Hid (us.length = tn) := htn
      have HKN : Hid (x.1.length = kn) := hkn
      clear htn hkn
      have HNUM : Hid (k0 ≤ k ∧ m = m0 + sizes x.2 ∧ s.size + 1 ≤ f + k ∧ True) := ⟨hk0, hmm, hf, trivial⟩
      have HTOT : Hid (rdFrom (rdT n s) false s ⟨#[c1 false]⟩ (s.size + 1) true ([], []) k0 m0 = rdTh (rdT n s) false s ⟨#[c1 false]⟩ f x k m) := htot
      have HPB : Hid (PB wr p s k m 0 0) := hPB
      have HKM : Hid (k ≤ s.size ∧ m ≤ 400) := ⟨hk, hm⟩
      have p4 : wr.cell? ⟨p, 4, none⟩ = some (.int .i64 0) := Lib.cell_of_heap hPB 4
      have HBM : Hid (Bm false p (w.heap.size + 1) w.heap.size (w.heap.size + 2) w x (.slice ka kn kc) (.slice ta tn tc) us wr) := hBm
      have HWZ : Hid (w.heap.size + 2 ≤ wr.heap.size ∧ (∀ b, (Value.slice ka kn kc).ownBlock = some b → b < wr.heap.size) ∧ ∀ b, (Value.slice ta tn tc).ownBlock = some b → b < wr.heap.size) := ⟨hBm.bz, fun b hb => (ownR_blk hBm.ks hb).2.1, fun b hb => (ownR_blk hBm.ts hb).2.1⟩
      have ET := HTC.out k m wr (by have := HN.out; omega) hPB hk hm
      clear hBm hPB hk0 hk hm hmm hf hkx htot
      go_wp2_with fail
      refine Calls.mono ET ?_
      rintro e w2 hR2
      clear ET p4
      rcases hR2 with ⟨u, T, k', rfl, hI, hok, hfew, hlt, hle, hpb2, hrk2⟩ | ⟨u, k2, m2, kf, fe, rfl, hsl, hno, hfe, hpb2, hrk2⟩
      rotate_left
      · have hBm2 := HBM.out.move HPL.out.1 hrk2
        clear hrk2
        have HNO : Hid (rdFrom (rdT n s) false s ⟨#[c1 false]⟩ (s.size + 1) true ([], []) k0 m0 = .error (kf, fe) ∧ fe ≠ 0) := ⟨by rw [HTOT.out]; exact th_bad (one_list_bad hno), hfe⟩
        clear hno hfe
        obtain ⟨yk, yn, yt, yo, ya, a1, n1, d1, a2, n2, d2, rfl⟩ := slU_parts hsl
        unfold tval
        dsimp only
        have b3 : Below w2.heap.size w2 (w2.alloc (.cells #[.int .i64 yk, .int .i64 yn, .string yt, .int .i64 yo, .int .i64 ya, .slice a1 n1 d1, .slice a2 n2 d2] 29)) := (Below.refl _ _).alloc (Nat.le_refl _) _
        have hx3 : (w2.alloc (.cells #[.int .i64 yk, .int .i64 yn, .string yt, .int .i64 yo, .int .i64 ya, .slice a1 n1 d1, .slice a2 n2 d2] 29)).heap[w2.heap.size]? = some (.cells #[.int .i64 yk, .int .i64 yn, .string yt, .int .i64 yo, .int .i64 ya, .slice a1 n1 d1, .slice a2 n2 d2] 29) := one_new w2 _
        have hz3 : (w2.alloc (.cells #[.int .i64 yk, .int .i64 yn, .string yt, .int .i64 yo, .int .i64 ya, .slice a1 n1 d1, .slice a2 n2 d2] 29)).heap.size = w2.heap.size + 1 := sz_new _ _
        have hBm3 := hBm2.move HPL.out.1 (Rk.of b3)
        have hPB3 := hpb2.below b3
        clear hBm2 hpb2
        have ct3 := hBm3.n.ht
        unfold cx at ct3
        simp only [Bool.false_eq_true, if_false] at ct3
        go_upto_region 19 with fail
        obtain ⟨xb, hxb⟩ : ∃ xb, w2.heap.size = xb := ⟨_, rfl⟩
        rw [hxb] at hx3 hz3 ⊢
        generalize (w2.alloc (.cells #[.int .i64 yk, .int .i64 yn, .string yt, .int .i64 yo, .int .i64 ya, .slice a1 n1 d1, .slice a2 n2 d2] 29)) = W3 at *
        have HXB : Hid (Below xb w2 W3) := by rw [← hxb]; exact b3
        clear b3
        have x0 : W3.cell? ⟨xb, 0, none⟩ = some (.int .i64 yk) := Lib.cell_of_heap hx3 0
        have x1 : W3.cell? ⟨xb, 1, none⟩ = some (.int .i64 yn) := Lib.cell_of_heap hx3 1
        have x2 : W3.cell? ⟨xb, 2, none⟩ = some (.string yt) := Lib.cell_of_heap hx3 2
        have x3 : W3.cell? ⟨xb, 3, none⟩ = some (.int .i64 yo) := Lib.cell_of_heap hx3 3
        have x4 : W3.cell? ⟨xb, 4, none⟩ = some (.int .i64 ya) := Lib.cell_of_heap hx3 4
        have x5 : W3.cell? ⟨xb, 5, none⟩ = some (.slice a1 n1 d1) := Lib.cell_of_heap hx3 5
        have x6 : W3.cell? ⟨xb, 6, none⟩ = some (.slice a2 n2 d2) := Lib.cell_of_heap hx3 6
        have ckd : W3.cell? ⟨w.heap.size + 1, 6, none⟩ = some (.slice ta tn tc) := Lib.cell_of_heap ct3 6
        have b4 : Below W3.heap.size W3 (W3.alloc (.cells #[.int .i64 yk, .int .i64 yn, .string yt, .int .i64 yo, .int .i64 ya, .slice a1 n1 d1, .slice a2 n2 d2] 29)) := (Below.refl _ _).alloc (Nat.le_refl _) _
        have hx4 : (W3.alloc (.cells #[.int .i64 yk, .int .i64 yn, .string yt, .int .i64 yo, .int .i64 ya, .slice a1 n1 d1, .slice a2 n2 d2] 29)).heap[W3.heap.size]? = some (.cells #[.int .i64 yk, .int .i64 yn, .string yt, .int .i64 yo, .int .i64 ya, .slice a1 n1 d1, .slice a2 n2 d2] 29) := one_new W3 _
        have hBm4 := hBm3.move HPL.out.1 (Rk.of b4)
        have hPB4 := hPB3.below b4
        have hl4 := hBm4.lens
        obtain ⟨g5, c5, W5, hrun, hown, hgr, hat⟩ := appU 27 (W3.alloc (.cells #[.int .i64 yk, .int .i64 yn, .string yt, .int .i64 yo, .int .i64 ya, .slice a1 n1 d1, .slice a2 n2 d2] 29)) (w.heap.size + 2) hBm4.bz (.slice ta tn tc) us hBm4.ts W3.heap.size (⟨yk, yn, yt, yo, ya⟩, .slice a1 n1 d1, .slice a2 n2 d2) hx4 hsl (by omega)
        have hW5 : Below (w.heap.size + 2) (W3.alloc (.cells #[.int .i64 yk, .int .i64 yn, .string yt, .int .i64 yo, .int .i64 ya, .slice a1 n1 d1, .slice a2 n2 d2] 29)) W5 := grown_belowJ hgr hBm4.ts hBm4.bz
        have htn := HTN.out
        rw [htn] at hrun hown
        have ht5 := (hW5.block (w.heap.size + 1) (by omega)).trans hBm4.n.ht
        unfold cx at ht5
        simp only [Bool.false_eq_true, if_false] at ht5
        have f6 : W5.cell? ⟨w.heap.size + 1, 6, none⟩ = some (.slice ta tn tc) := Lib.cell_of_heap ht5 6
        have ff := Lib.frozen_of_heap ht5
        have hPB6 : PB (W5.setCell ⟨w.heap.size + 1, 6, none⟩ (.slice (some ⟨g5, 0, none⟩) (tn + 1) c5)) p s k2 m2 kf fe := hPB4.keepB HPL.out.1 hW5
        have hBn6 : Bn false p (w.heap.size + 1) w.heap.size w (.slice ka kn kc) (.slice (some ⟨g5, 0, none⟩) (tn + 1) c5) (W5.setCell ⟨w.heap.size + 1, 6, none⟩ (.slice (some ⟨g5, 0, none⟩) (tn + 1) c5)) := hBm4.n.addB HPL.out.1 hBm4.bz hW5
        have HBN6 : Hid (Bn false p (w.heap.size + 1) w.heap.size w (.slice ka kn kc) (.slice (some ⟨g5, 0, none⟩) (tn + 1) c5) (W5.setCell ⟨w.heap.size + 1, 6, none⟩ (.slice (some ⟨g5, 0, none⟩) (tn + 1) c5))) := hBn6
        clear hBn6
        have HPB6 : Hid (PB (W5.setCell ⟨w.heap.size + 1, 6, none⟩ (.slice (some ⟨g5, 0, none⟩) (tn + 1) c5)) p s k2 m2 kf fe) := hPB6
        clear hPB6 hBm4 hPB4 hBm3 hPB3 hown hgr hat hW5 ht5 hx4 b4 ct3 hx3 hz3 hl4 htn
        go_upto_region 20 with (first | (at_builtin; refine wp_append rfl _ _ 27 rfl _ _ _ _ rfl rfl hrun ?_))
        clear x0 x1 x2 x3 x4 x5 x6 ckd f6 ff hrun
        generalize W5.setCell ⟨w.heap.size + 1, 6, none⟩ (.slice (some ⟨g5, 0, none⟩) (tn + 1) c5) = W6 at *
        have p4 : W6.cell? ⟨p, 4, none⟩ = some (.int .i64 fe) := Lib.cell_of_heap HPB6.out 4
        have hfe9 : (fe != 0) = true := by have := HNO.out.2; simpa using this
        have hBn := HBN6.out
        have hPBE := HPB6.out
        have HEND : Hid (∀ W7, EndP false p w.heap.size w W6 s k2 m2 kf fe (.slice ka kn kc) (.slice (some ⟨g5, 0, none⟩) (tn + 1) c5) W7 → post (.returned (tval (cx false, .slice ka kn kc, .slice (some ⟨g5, 0, none⟩) (tn + 1) c5))) W7) := by
          intro W7 hE
          rw [HPO.out]
          exact Or.inr ⟨_, k2, m2, kf, fe, rfl, ⟨⟨_, _, _, rfl⟩, _, _, _, rfl⟩, HNO.out.1, HNO.out.2, hE.2.1, hE.2.2.1⟩
        have hbt := hBn.ht
        unfold cx at hbt
        simp only [Bool.false_eq_true, if_false] at hbt
        have hz2 := hBn.hr
        unfold zO at hz2
        have b0 : W6.cell? ⟨w.heap.size + 1, 0, none⟩ = some (.int .i64 6) := Lib.cell_of_heap hbt 0
        have b1 : W6.cell? ⟨w.heap.size + 1, 1, none⟩ = some (.int .i64 0) := Lib.cell_of_heap hbt 1
        have b2 : W6.cell? ⟨w.heap.size + 1, 2, none⟩ = some (.string ⟨#[]⟩) := Lib.cell_of_heap hbt 2
        have b3 : W6.cell? ⟨w.heap.size + 1, 3, none⟩ = some (.int .i64 0) := Lib.cell_of_heap hbt 3
        have b4 : W6.cell? ⟨w.heap.size + 1, 4, none⟩ = some (.int .i64 0) := Lib.cell_of_heap hbt 4
        have b5 : W6.cell? ⟨w.heap.size + 1, 5, none⟩ = some (.slice ka kn kc) := Lib.cell_of_heap hbt 5
        have b6 : W6.cell? ⟨w.heap.size + 1, 6, none⟩ = some (.slice (some ⟨g5, 0, none⟩) (tn + 1) c5) := Lib.cell_of_heap hbt 6
        have r0 : W6.cell? ⟨w.heap.size, 0, none⟩ = some (.int .i64 0) := Lib.cell_of_heap hz2 0
        have r1 : W6.cell? ⟨w.heap.size, 1, none⟩ = some (.int .i64 0) := Lib.cell_of_heap hz2 1
        have r2 : W6.cell? ⟨w.heap.size, 2, none⟩ = some (.string ⟨#[]⟩) := Lib.cell_of_heap hz2 2
        have r3 : W6.cell? ⟨w.heap.size, 3, none⟩ = some (.int .i64 0) := Lib.cell_of_heap hz2 3
        have r4 : W6.cell? ⟨w.heap.size, 4, none⟩ = some (.int .i64 0) := Lib.cell_of_heap hz2 4
        have r5 : W6.cell? ⟨w.heap.size, 5, none⟩ = some (.slice none 0 0) := Lib.cell_of_heap hz2 5
        have r6 : W6.cell? ⟨w.heap.size, 6, none⟩ = some (.slice none 0 0) := Lib.cell_of_heap hz2 6
        have zf := Lib.frozen_of_heap hz2
        have HE : Hid (EndP _ _ _ _ _ _ _ _ _ _ _ _ _) := kids_end HPL.out.1 (Nat.le_refl _) hBn hPBE
        unfold st7 at HE
        simp only [show (cx false).k = 6 from rfl] at HE
        clear hbt hz2 hBn hPBE HBN6 HPB6
        go_wp2_with fail
        clear b0 b1 b2 b3 b4 b5 b6 r0 r1 r2 r3 r4 r5 r6 zf
        generalize (((((((W6.setCell ⟨w.heap.size, 0, none⟩ (.int .i64 6)).setCell ⟨w.heap.size, 1, none⟩ (.int .i64 0)).setCell ⟨w.heap.size, 2, none⟩ (.string ⟨#[]⟩)).setCell ⟨w.heap.size, 3, none⟩ (.int .i64 0)).setCell ⟨w.heap.size, 4, none⟩ (.int .i64 0)).setCell ⟨w.heap.size, 5, none⟩ (.slice ka kn kc)).setCell ⟨w.heap.size, 6, none⟩ (.slice (some ⟨g5, 0, none⟩) (tn + 1) c5)) = W7 at *
        have h7 := HE.out.1
        have q0 : W7.cell? ⟨w.heap.size, 0, none⟩ = some (.int .i64 6) := Lib.cell_of_heap h7 0
        have q1 : W7.cell? ⟨w.heap.size, 1, none⟩ = some (.int .i64 0) := Lib.cell_of_heap h7 1
        have q2 : W7.cell? ⟨w.heap.size, 2, none⟩ = some (.string ⟨#[]⟩) := Lib.cell_of_heap h7 2
        have q3 : W7.cell? ⟨w.heap.size, 3, none⟩ = some (.int .i64 0) := Lib.cell_of_heap h7 3
        have q4 : W7.cell? ⟨w.heap.size, 4, none⟩ = some (.int .i64 0) := Lib.cell_of_heap h7 4
        have q5 : W7.cell? ⟨w.heap.size, 5, none⟩ = some (.slice ka kn kc) := Lib.cell_of_heap h7 5
        have q6 : W7.cell? ⟨w.heap.size, 6, none⟩ = some (.slice (some ⟨g5, 0, none⟩) (tn + 1) c5) := Lib.cell_of_heap h7 6
        exact bodyPost_ret (v := tval (cx false, .slice ka kn kc, .slice (some ⟨g5, 0, none⟩) (tn + 1) c5)) (by simp [tval, cx, results, Tryz.results14, go_sem, q0, q1, q2, q3, q4, q5, q6]) rfl (HEND.out W7 HE.out)
      have hsl := slU_of hI
      have hBm2 := HBM.out.move HPL.out.1 hrk2
      clear hrk2
      have HFEW : Hid (m + T.size ≤ 400 ∧ k < k' ∧ k' ≤ s.size ∧ x.2.length + 1 ≤ 400) := ⟨hfew, by omega, hle, by have h8 := HNUM.out; have h9 := len_sizes (x.2 ++ [T]); rw [sizes_append] at h9; simp [sizes] at h9; omega⟩
      have HTOT2 : Hid (rdFrom (rdT n s) false s ⟨#[c1 false]⟩ (s.size + 1) true ([], []) k0 m0 = rdFrom (rdT n s) false s ⟨#[c1 false]⟩ f false (x.1, x.2 ++ [T]) k' (m + T.size)) := by
        show _ = _
        rw [HTOT.out, th_ok (one_list_ok hok)]
        rfl
      clear hok hfew hlt hle
      obtain ⟨yk, yn, yt, yo, ya, a1, n1, d1, a2, n2, d2, rfl⟩ := slU_parts hsl
      unfold tval
      dsimp only
      have b3 : Below w2.heap.size w2 (w2.alloc (.cells #[.int .i64 yk, .int .i64 yn, .string yt, .int .i64 yo, .int .i64 ya, .slice a1 n1 d1, .slice a2 n2 d2] 29)) := (Below.refl _ _).alloc (Nat.le_refl _) _
      have hx3 : (w2.alloc (.cells #[.int .i64 yk, .int .i64 yn, .string yt, .int .i64 yo, .int .i64 ya, .slice a1 n1 d1, .slice a2 n2 d2] 29)).heap[w2.heap.size]? = some (.cells #[.int .i64 yk, .int .i64 yn, .string yt, .int .i64 yo, .int .i64 ya, .slice a1 n1 d1, .slice a2 n2 d2] 29) := one_new w2 _
      have hz3 : (w2.alloc (.cells #[.int .i64 yk, .int .i64 yn, .string yt, .int .i64 yo, .int .i64 ya, .slice a1 n1 d1, .slice a2 n2 d2] 29)).heap.size = w2.heap.size + 1 := sz_new _ _
      have hBm3 := hBm2.move HPL.out.1 (Rk.of b3)
      have hPB3 := hpb2.below b3
      have hI3 := hI.move b3.size (fun b _ h2 => b3.block b h2) (fun _ h => h)
      clear hI
      clear hBm2 hpb2
      have ct3 := hBm3.n.ht
      unfold cx at ct3
      simp only [Bool.false_eq_true, if_false] at ct3
      go_upto_region 19 with fail
      obtain ⟨xb, hxb⟩ : ∃ xb, w2.heap.size = xb := ⟨_, rfl⟩
      rw [hxb] at hx3 hz3 ⊢
      generalize (w2.alloc (.cells #[.int .i64 yk, .int .i64 yn, .string yt, .int .i64 yo, .int .i64 ya, .slice a1 n1 d1, .slice a2 n2 d2] 29)) = W3 at *
      have HXB : Hid (Below xb w2 W3) := by rw [← hxb]; exact b3
      clear b3
      have x0 : W3.cell? ⟨xb, 0, none⟩ = some (.int .i64 yk) := Lib.cell_of_heap hx3 0
      have x1 : W3.cell? ⟨xb, 1, none⟩ = some (.int .i64 yn) := Lib.cell_of_heap hx3 1
      have x2 : W3.cell? ⟨xb, 2, none⟩ = some (.string yt) := Lib.cell_of_heap hx3 2
      have x3 : W3.cell? ⟨xb, 3, none⟩ = some (.int .i64 yo) := Lib.cell_of_heap hx3 3
      have x4 : W3.cell? ⟨xb, 4, none⟩ = some (.int .i64 ya) := Lib.cell_of_heap hx3 4
      have x5 : W3.cell? ⟨xb, 5, none⟩ = some (.slice a1 n1 d1) := Lib.cell_of_heap hx3 5
      have x6 : W3.cell? ⟨xb, 6, none⟩ = some (.slice a2 n2 d2) := Lib.cell_of_heap hx3 6
      have ckd : W3.cell? ⟨w.heap.size + 1, 6, none⟩ = some (.slice ta tn tc) := Lib.cell_of_heap ct3 6
      have b4 : Below W3.heap.size W3 (W3.alloc (.cells #[.int .i64 yk, .int .i64 yn, .string yt, .int .i64 yo, .int .i64 ya, .slice a1 n1 d1, .slice a2 n2 d2] 29)) := (Below.refl _ _).alloc (Nat.le_refl _) _
      have hx4 : (W3.alloc (.cells #[.int .i64 yk, .int .i64 yn, .string yt, .int .i64 yo, .int .i64 ya, .slice a1 n1 d1, .slice a2 n2 d2] 29)).heap[W3.heap.size]? = some (.cells #[.int .i64 yk, .int .i64 yn, .string yt, .int .i64 yo, .int .i64 ya, .slice a1 n1 d1, .slice a2 n2 d2] 29) := one_new W3 _
      have hBm4 := hBm3.move HPL.out.1 (Rk.of b4)
      have hPB4 := hPB3.below b4
      have hI4 := hI3.move b4.size (fun b _ h2 => b4.block b h2) (fun _ h => h)
      clear hI3
      have hl4 := hBm4.lens
      obtain ⟨g5, c5, W5, hrun, hown, hgr, hat⟩ := appU 27 (W3.alloc (.cells #[.int .i64 yk, .int .i64 yn, .string yt, .int .i64 yo, .int .i64 ya, .slice a1 n1 d1, .slice a2 n2 d2] 29)) (w.heap.size + 2) hBm4.bz (.slice ta tn tc) us hBm4.ts W3.heap.size (⟨yk, yn, yt, yo, ya⟩, .slice a1 n1 d1, .slice a2 n2 d2) hx4 hsl (by omega)
      have hW5 : Below (w.heap.size + 2) (W3.alloc (.cells #[.int .i64 yk, .int .i64 yn, .string yt, .int .i64 yo, .int .i64 ya, .slice a1 n1 d1, .slice a2 n2 d2] 29)) W5 := grown_belowJ hgr hBm4.ts hBm4.bz
      have htn := HTN.out
      rw [htn] at hrun hown
      have ht5 := (hW5.block (w.heap.size + 1) (by omega)).trans hBm4.n.ht
      unfold cx at ht5
      simp only [Bool.false_eq_true, if_false] at ht5
      have f6 : W5.cell? ⟨w.heap.size + 1, 6, none⟩ = some (.slice ta tn tc) := Lib.cell_of_heap ht5 6
      have ff := Lib.frozen_of_heap ht5
      have hPB6 : PB (W5.setCell ⟨w.heap.size + 1, 6, none⟩ (.slice (some ⟨g5, 0, none⟩) (tn + 1) c5)) p s k' (m + T.size) 0 0 := hPB4.keepB HPL.out.1 hW5
      have hBm6 := hBm4.addT (u := (⟨yk, yn, yt, yo, ya⟩, .slice a1 n1 d1, .slice a2 n2 d2)) (T := T) (N := wr.heap.size) HPL.out.1 (by rw [htn]; exact hown) hgr hat hI4 ⟨HWZ.out.1, fun b hb => HWZ.out.2.1 b hb, fun b hb => HWZ.out.2.2 b hb⟩ HFEW.out.2.2.2
      rw [htn] at hBm6
      have HBM6 : Hid (Bm false p (w.heap.size + 1) w.heap.size (w.heap.size + 2) w (x.1, x.2 ++ [T]) (.slice ka kn kc) (.slice (some ⟨g5, 0, none⟩) (tn + 1) c5) (us ++ [(⟨yk, yn, yt, yo, ya⟩, .slice a1 n1 d1, .slice a2 n2 d2)]) (W5.setCell ⟨w.heap.size + 1, 6, none⟩ (.slice (some ⟨g5, 0, none⟩) (tn + 1) c5))) := hBm6
      clear hBm6 hI4
      have HPB6 : Hid (PB (W5.setCell ⟨w.heap.size + 1, 6, none⟩ (.slice (some ⟨g5, 0, none⟩) (tn + 1) c5)) p s k' (m + T.size) 0 0) := hPB6
      clear hPB6 hBm4 hPB4 hBm3 hPB3 hown hgr hat hW5 ht5 hx4 b4 ct3 hx3 hz3 hl4 htn
      go_upto_region 20 with (first | (at_builtin; refine wp_append rfl _ _ 27 rfl _ _ _ _ rfl rfl hrun ?_))
      clear x0 x1 x2 x3 x4 x5 x6 ckd f6 ff hrun
      generalize W5.setCell ⟨w.heap.size + 1, 6, none⟩ (.slice (some ⟨g5, 0, none⟩) (tn + 1) c5) = W6 at *
      have p4 : W6.cell? ⟨p, 4, none⟩ = some (.int .i64 0) := Lib.cell_of_heap HPB6.out 4
      have EC := isH_any p s k' (m + T.size) 0 0 ⟨#[44]⟩ W6 HPB6.out HFEW.out.2.2.1 HS.out (by decide)
      obtain ⟨pc, hpc⟩ : ∃ pc, preB s k' ⟨#[44]⟩ = pc := ⟨_, rfl⟩
      rw [hpc] at EC
      go_wp2_with fail
      go_fit EC
      rintro e w7 ⟨rfl, hpb7, hrk7⟩
      clear EC p4
      have hBm7 := HBM6.out.move HPL.out.1 hrk7
      clear hrk7
      obtain ⟨f1, rfl⟩ : ∃ f1, f = f1 + 1 := ⟨f - 1, by have h8 := HFEW.out; have h9 := HNUM.out; omega⟩
      cases pc with
      | true =>
        have hrm := pre_room hpc rfl
        simp only [if_true] at hpb7
        have HROUND : Hid (KI n false p s k0 m0 w w7) := by
          have h8 := HFEW.out
          have h9 := HNUM.out
          refine ⟨(x.1, x.2 ++ [T]), k' + 1, m + T.size, f1, _, _, _, hBm7, hpb7, by omega, hrm, h8.1, ?_, by omega, ?_, ?_⟩
          · rw [sizes_append, h9.2.1]
            simp [sizes]
            omega
          · intro h; cases h
          · rw [HTOT2.out]
            exact from_com (com_not hpc) hpc
        have HMEAS : Hid (s.size + 1 - posOf w7 p < s.size + 1 - posOf wr p) := by
          have h8 := HFEW.out
          show _ < _
          rw [hpb7.pos, HPB.out.pos]
          omega
        clear hBm7 hpb7 hrm hpc HBM6 HPB6
        go_wp2
        go_roundw
        case rel => exact HROUND.out
        case measure => exact HMEAS.out
      | false =>
        simp only [Bool.false_eq_true, if_false] at hpb7
        have EE := isH_any p s k' (m + T.size) 0 0 ⟨#[93]⟩ w7 hpb7 HFEW.out.2.2.1 HS.out (by decide)
        obtain ⟨pe, hpe⟩ : ∃ pe, preB s k' ⟨#[93]⟩ = pe := ⟨_, rfl⟩
        rw [hpe] at EE
        clear hpb7 HBM6 HPB6
        go_wp2_with fail
        go_fit EE
        rintro e w8 ⟨rfl, hpb8, hrk8⟩
        clear EE
        have hBm8 := hBm7.move HPL.out.1 hrk8
        clear hrk8 hBm7
        cases pe with
        | true =>
          simp only [if_true] at hpb8
          have hrm := pre_room hpe rfl
          have hBn := hBm8.n
          have hPBE := hpb8
          have HTR : Hid (IsTP (fun b => w.heap.size + 2 ≤ b) w8 (tval (cx false, .slice ka kn kc, .slice (some ⟨g5, 0, none⟩) (tn + 1) c5)) (.node (cx false) (x.1) (x.2 ++ [T]))) := hBm8.tree
          have HRM : Hid (k' + 1 ≤ s.size) := hrm
          have HEND : Hid (∀ W7, EndP false p w.heap.size w w8 s (k' + 1) (m + T.size) 0 0 (.slice ka kn kc) (.slice (some ⟨g5, 0, none⟩) (tn + 1) c5) W7 → post (.returned (tval (cx false, .slice ka kn kc, .slice (some ⟨g5, 0, none⟩) (tn + 1) c5))) W7) := by
            intro W7 hE
            rw [HPO.out]
            have h8 := HFEW.out
            have h9 := HNUM.out
            refine Or.inl ⟨(x.1, x.2 ++ [T]), k' + 1, m + T.size, _, ?_, ?_, h8.1, by omega, HRM.out, rfl, ?_, hE.2.1, hE.2.2.1⟩
            · rw [HTOT2.out]
              exact from_end hpe
            · rw [sizes_append, h9.2.1]
              simp [sizes]
              omega
            · exact (hE.2.2.2 _ _ _ HTR.out (fun b hb => by omega)).move (Nat.le_refl _) (fun _ _ _ => rfl) (fun b hb => by omega)
          have hbt := hBn.ht
          unfold cx at hbt
          simp only [Bool.false_eq_true, if_false] at hbt
          have hz2 := hBn.hr
          unfold zO at hz2
          have b0 : w8.cell? ⟨w.heap.size + 1, 0, none⟩ = some (.int .i64 6) := Lib.cell_of_heap hbt 0
          have b1 : w8.cell? ⟨w.heap.size + 1, 1, none⟩ = some (.int .i64 0) := Lib.cell_of_heap hbt 1
          have b2 : w8.cell? ⟨w.heap.size + 1, 2, none⟩ = some (.string ⟨#[]⟩) := Lib.cell_of_heap hbt 2
          have b3 : w8.cell? ⟨w.heap.size + 1, 3, none⟩ = some (.int .i64 0) := Lib.cell_of_heap hbt 3
          have b4 : w8.cell? ⟨w.heap.size + 1, 4, none⟩ = some (.int .i64 0) := Lib.cell_of_heap hbt 4
          have b5 : w8.cell? ⟨w.heap.size + 1, 5, none⟩ = some (.slice ka kn kc) := Lib.cell_of_heap hbt 5
          have b6 : w8.cell? ⟨w.heap.size + 1, 6, none⟩ = some (.slice (some ⟨g5, 0, none⟩) (tn + 1) c5) := Lib.cell_of_heap hbt 6
          have r0 : w8.cell? ⟨w.heap.size, 0, none⟩ = some (.int .i64 0) := Lib.cell_of_heap hz2 0
          have r1 : w8.cell? ⟨w.heap.size, 1, none⟩ = some (.int .i64 0) := Lib.cell_of_heap hz2 1
          have r2 : w8.cell? ⟨w.heap.size, 2, none⟩ = some (.string ⟨#[]⟩) := Lib.cell_of_heap hz2 2
          have r3 : w8.cell? ⟨w.heap.size, 3, none⟩ = some (.int .i64 0) := Lib.cell_of_heap hz2 3
          have r4 : w8.cell? ⟨w.heap.size, 4, none⟩ = some (.int .i64 0) := Lib.cell_of_heap hz2 4
          have r5 : w8.cell? ⟨w.heap.size, 5, none⟩ = some (.slice none 0 0) := Lib.cell_of_heap hz2 5
          have r6 : w8.cell? ⟨w.heap.size, 6, none⟩ = some (.slice none 0 0) := Lib.cell_of_heap hz2 6
          have zf := Lib.frozen_of_heap hz2
          have HE : Hid (EndP _ _ _ _ _ _ _ _ _ _ _ _ _) := kids_end HPL.out.1 (Nat.le_refl _) hBn hPBE
          unfold st7 at HE
          simp only [show (cx false).k = 6 from rfl] at HE
          clear hbt hz2 hBn hPBE hBm8 hpb8 hrm hpe HTR
          go_wp2_with fail
          clear b0 b1 b2 b3 b4 b5 b6 r0 r1 r2 r3 r4 r5 r6 zf
          generalize (((((((w8.setCell ⟨w.heap.size, 0, none⟩ (.int .i64 6)).setCell ⟨w.heap.size, 1, none⟩ (.int .i64 0)).setCell ⟨w.heap.size, 2, none⟩ (.string ⟨#[]⟩)).setCell ⟨w.heap.size, 3, none⟩ (.int .i64 0)).setCell ⟨w.heap.size, 4, none⟩ (.int .i64 0)).setCell ⟨w.heap.size, 5, none⟩ (.slice ka kn kc)).setCell ⟨w.heap.size, 6, none⟩ (.slice (some ⟨g5, 0, none⟩) (tn + 1) c5)) = W7 at *
          have h7 := HE.out.1
          have q0 : W7.cell? ⟨w.heap.size, 0, none⟩ = some (.int .i64 6) := Lib.cell_of_heap h7 0
          have q1 : W7.cell? ⟨w.heap.size, 1, none⟩ = some (.int .i64 0) := Lib.cell_of_heap h7 1
          have q2 : W7.cell? ⟨w.heap.size, 2, none⟩ = some (.string ⟨#[]⟩) := Lib.cell_of_heap h7 2
          have q3 : W7.cell? ⟨w.heap.size, 3, none⟩ = some (.int .i64 0) := Lib.cell_of_heap h7 3
          have q4 : W7.cell? ⟨w.heap.size, 4, none⟩ = some (.int .i64 0) := Lib.cell_of_heap h7 4
          have q5 : W7.cell? ⟨w.heap.size, 5, none⟩ = some (.slice ka kn kc) := Lib.cell_of_heap h7 5
          have q6 : W7.cell? ⟨w.heap.size, 6, none⟩ = some (.slice (some ⟨g5, 0, none⟩) (tn + 1) c5) := Lib.cell_of_heap h7 6
          exact bodyPost_ret (v := tval (cx false, .slice ka kn kc, .slice (some ⟨g5, 0, none⟩) (tn + 1) c5)) (by simp [tval, cx, results, Tryz.results14, go_sem, q0, q1, q2, q3, q4, q5, q6]) rfl (HEND.out W7 HE.out)
        | false =>
          simp only [Bool.false_eq_true, if_false] at hpb8
          have EF := failH_any p s k' (m + T.size) 0 k' 0 2 w8 hpb8
          simp only [if_true] at EF
          have p1 : w8.cell? ⟨p, 1, none⟩ = some (.int .i64 (k' : Int)) := Lib.cell_of_heap hpb8 1
          clear hpb8
          go_wp2_with fail
          go_fit EF
          rintro e w9 ⟨rfl, hpb9, hrk9⟩
          clear EF p1
          have hBn := hBm8.n.move HPL.out.1 hBm8.bz hrk9
          have hPBE := hpb9
          have HNO : Hid (rdFrom (rdT n s) false s ⟨#[c1 false]⟩ (s.size + 1) true ([], []) k0 m0 = .error (k', 2)) := by
            show _ = _
            rw [HTOT2.out]
            exact from_no hpe hpc
          have HEND : Hid (∀ W7, EndP false p w.heap.size w w9 s k' (m + T.size) k' 2 (.slice ka kn kc) (.slice (some ⟨g5, 0, none⟩) (tn + 1) c5) W7 → post (.returned (tval (cx false, .slice ka kn kc, .slice (some ⟨g5, 0, none⟩) (tn + 1) c5))) W7) := by
            intro W7 hE
            rw [HPO.out]
            exact Or.inr ⟨_, k', m + T.size, k', 2, rfl, ⟨⟨_, _, _, rfl⟩, _, _, _, rfl⟩, HNO.out, by decide, hE.2.1, hE.2.2.1⟩
          have hbt := hBn.ht
          unfold cx at hbt
          simp only [Bool.false_eq_true, if_false] at hbt
          have hz2 := hBn.hr
          unfold zO at hz2
          have b0 : w9.cell? ⟨w.heap.size + 1, 0, none⟩ = some (.int .i64 6) := Lib.cell_of_heap hbt 0
          have b1 : w9.cell? ⟨w.heap.size + 1, 1, none⟩ = some (.int .i64 0) := Lib.cell_of_heap hbt 1
          have b2 : w9.cell? ⟨w.heap.size + 1, 2, none⟩ = some (.string ⟨#[]⟩) := Lib.cell_of_heap hbt 2
          have b3 : w9.cell? ⟨w.heap.size + 1, 3, none⟩ = some (.int .i64 0) := Lib.cell_of_heap hbt 3
          have b4 : w9.cell? ⟨w.heap.size + 1, 4, none⟩ = some (.int .i64 0) := Lib.cell_of_heap hbt 4
          have b5 : w9.cell? ⟨w.heap.size + 1, 5, none⟩ = some (.slice ka kn kc) := Lib.cell_of_heap hbt 5
          have b6 : w9.cell? ⟨w.heap.size + 1, 6, none⟩ = some (.slice (some ⟨g5, 0, none⟩) (tn + 1) c5) := Lib.cell_of_heap hbt 6
          have r0 : w9.cell? ⟨w.heap.size, 0, none⟩ = some (.int .i64 0) := Lib.cell_of_heap hz2 0
          have r1 : w9.cell? ⟨w.heap.size, 1, none⟩ = some (.int .i64 0) := Lib.cell_of_heap hz2 1
          have r2 : w9.cell? ⟨w.heap.size, 2, none⟩ = some (.string ⟨#[]⟩) := Lib.cell_of_heap hz2 2
          have r3 : w9.cell? ⟨w.heap.size, 3, none⟩ = some (.int .i64 0) := Lib.cell_of_heap hz2 3
          have r4 : w9.cell? ⟨w.heap.size, 4, none⟩ = some (.int .i64 0) := Lib.cell_of_heap hz2 4
          have r5 : w9.cell? ⟨w.heap.size, 5, none⟩ = some (.slice none 0 0) := Lib.cell_of_heap hz2 5
          have r6 : w9.cell? ⟨w.heap.size, 6, none⟩ = some (.slice none 0 0) := Lib.cell_of_heap hz2 6
          have zf := Lib.frozen_of_heap hz2
          have HE : Hid (EndP _ _ _ _ _ _ _ _ _ _ _ _ _) := kids_end HPL.out.1 (Nat.le_refl _) hBn hPBE
          unfold st7 at HE
          simp only [show (cx false).k = 6 from rfl] at HE
          clear hbt hz2 hBn hPBE hBm8 hpb9 hrk9 hpe hpc
          go_wp2_with fail
          clear b0 b1 b2 b3 b4 b5 b6 r0 r1 r2 r3 r4 r5 r6 zf
          generalize (((((((w9.setCell ⟨w.heap.size, 0, none⟩ (.int .i64 6)).setCell ⟨w.heap.size, 1, none⟩ (.int .i64 0)).setCell ⟨w.heap.size, 2, none⟩ (.string ⟨#[]⟩)).setCell ⟨w.heap.size, 3, none⟩ (.int .i64 0)).setCell ⟨w.heap.size, 4, none⟩ (.int .i64 0)).setCell ⟨w.heap.size, 5, none⟩ (.slice ka kn kc)).setCell ⟨w.heap.size, 6, none⟩ (.slice (some ⟨g5, 0, none⟩) (tn + 1) c5)) = W7 at *
          have h7 := HE.out.1
          have q0 : W7.cell? ⟨w.heap.size, 0, none⟩ = some (.int .i64 6) := Lib.cell_of_heap h7 0
          have q1 : W7.cell? ⟨w.heap.size, 1, none⟩ = some (.int .i64 0) := Lib.cell_of_heap h7 1
          have q2 : W7.cell? ⟨w.heap.size, 2, none⟩ = some (.string ⟨#[]⟩) := Lib.cell_of_heap h7 2
          have q3 : W7.cell? ⟨w.heap.size, 3, none⟩ = some (.int .i64 0) := Lib.cell_of_heap h7 3
          have q4 : W7.cell? ⟨w.heap.size, 4, none⟩ = some (.int .i64 0) := Lib.cell_of_heap h7 4
          have q5 : W7.cell? ⟨w.heap.size, 5, none⟩ = some (.slice ka kn kc) := Lib.cell_of_heap h7 5
          have q6 : W7.cell? ⟨w.heap.size, 6, none⟩ = some (.slice (some ⟨g5, 0, none⟩) (tn + 1) c5) := Lib.cell_of_heap h7 6
          exact bodyPost_ret (v := tval (cx false, .slice ka kn kc, .slice (some ⟨g5, 0, none⟩) (tn + 1) c5)) (by simp [tval, cx, results, Tryz.results14, go_sem, q0, q1, q2, q3, q4, q5, q6]) rfl (HEND.out W7 HE.out)
end Go.Proofs.YtnmdhbejjjmdeaaGreatDoor
