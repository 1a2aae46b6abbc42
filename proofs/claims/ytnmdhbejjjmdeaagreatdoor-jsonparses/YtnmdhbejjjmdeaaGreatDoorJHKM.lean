/-
  What is proved: bookref3's kids reads a map, or tells a fault, and its place.
  Conditions: trees that stand farther on are read, or a fault is told.
-/
import Derived.Test.YtnmdhbejjjmdeaaGreatDoorP21
namespace Go.Proofs.YtnmdhbejjjmdeaaGreatDoor
open Go.RowKit Go.Sort

set_option maxRecDepth 100000 in
set_option maxHeartbeats 16000000 in
theorem kidsM_any {s : ByteArray} {p n : Nat} (hT : TreeHC p s n) (hs : s.size ≤ 60000) (k0 m0 : Nat) (w : World) (hn : s.size - k0 < n) (h : PB w p s k0 m0 0 0) (h1 : 1 ≤ k0) (hk : k0 ≤ s.size) (hm : m0 ≤ 400) :
    Calls Tryz.prog 14 #[.pointer (some ⟨p, 0, none⟩), .int .i64 5, .string ⟨#[125]⟩] w fun e w' => KidsP n true p s k0 m0 w e w' := by
  obtain ⟨hpl, hBm0, hPB0⟩ := kids_start (mp := true) h
  have EI := isH_any p s k0 m0 0 0 ⟨#[125]⟩ (wK (cx true).k w) hPB0 hk hs (by decide)
  have HBM0 : Hid (Bm true p (w.heap.size + 1) w.heap.size (w.heap.size + 2) w ([], []) (.slice none 0 0) (.slice none 0 0) [] (wK (cx true).k w)) := hBm0
  have HPL : Hid (Pl p (w.heap.size + 1) w.heap.size (w.heap.size + 2) w ∧ 1 ≤ k0) := ⟨hpl, h1⟩
  have HS : Hid (s.size ≤ 60000) := hs
  have HN : Hid (s.size - k0 < n ∧ k0 ≤ s.size ∧ m0 ≤ 400 ∧ 1 ≤ k0) := ⟨hn, hk, hm, h1⟩
  have HTC : Hid (TreeHC p s n) := hT
  obtain ⟨post, hpost⟩ : ∃ post, post = KidsP n true p s k0 m0 w := ⟨_, rfl⟩
  rw [← hpost]
  have HPO : Hid (post = KidsP n true p s k0 m0 w) := hpost
  obtain ⟨pb, hpb⟩ : ∃ pb, preB s k0 ⟨#[125]⟩ = pb := ⟨_, rfl⟩
  rw [hpb] at EI
  clear hpost hT hs hn h hk hm hpl hBm0 hPB0 h1
  unfold wK zO at EI
  simp only [show (cx true).k = 5 from rfl] at EI
  go_enter Tryz.func14, Tryz.ntmps14
  go_wp2_with fail
  refine Calls.mono EI ?_
  rintro e w1 ⟨rfl, hpb1, hrk1⟩
  clear EI
  have hBm1 := HBM0.out.move HPL.out.1 hrk1
  clear hrk1 HBM0
  cases pb with
  | true =>
    simp only [if_true] at hpb1
    have hrm := pre_room hpb rfl
    have hBn := hBm1.n
    have hPBE := hpb1
    have HTR : Hid (IsTP (fun b => w.heap.size + 2 ≤ b) w1 (tval (cx true, .slice none 0 0, .slice none 0 0)) (.node (cx true) [] [])) := hBm1.tree
    have HRM : Hid (k0 + 1 ≤ s.size) := hrm
    have HEND : Hid (∀ W7, EndP true p w.heap.size w w1 s (k0 + 1) m0 0 0 (.slice none 0 0) (.slice none 0 0) W7 → post (.returned (tval (cx true, .slice none 0 0, .slice none 0 0))) W7) := by
      intro W7 hE
      rw [HPO.out]
      have h9 := HN.out
      refine Or.inl ⟨([], []), k0 + 1, m0, _, from_end hpb, by simp [sizes], h9.2.2.1, by omega, HRM.out, rfl, ?_, hE.2.1, hE.2.2.1⟩
      exact (hE.2.2.2 _ _ _ HTR.out (fun b hb => by omega)).move (Nat.le_refl _) (fun _ _ _ => rfl) (fun b hb => by omega)
    have hbt := hBn.ht
    unfold cx at hbt
    simp only [if_true] at hbt
    have hz2 := hBn.hr
    unfold zO at hz2
    have b0 : w1.cell? ⟨w.heap.size + 1, 0, none⟩ = some (.int .i64 5) := Lib.cell_of_heap hbt 0
    have b1 : w1.cell? ⟨w.heap.size + 1, 1, none⟩ = some (.int .i64 0) := Lib.cell_of_heap hbt 1
    have b2 : w1.cell? ⟨w.heap.size + 1, 2, none⟩ = some (.string ⟨#[]⟩) := Lib.cell_of_heap hbt 2
    have b3 : w1.cell? ⟨w.heap.size + 1, 3, none⟩ = some (.int .i64 0) := Lib.cell_of_heap hbt 3
    have b4 : w1.cell? ⟨w.heap.size + 1, 4, none⟩ = some (.int .i64 0) := Lib.cell_of_heap hbt 4
    have b5 : w1.cell? ⟨w.heap.size + 1, 5, none⟩ = some (.slice none 0 0) := Lib.cell_of_heap hbt 5
    have b6 : w1.cell? ⟨w.heap.size + 1, 6, none⟩ = some (.slice none 0 0) := Lib.cell_of_heap hbt 6
    have r0 : w1.cell? ⟨w.heap.size, 0, none⟩ = some (.int .i64 0) := Lib.cell_of_heap hz2 0
    have r1 : w1.cell? ⟨w.heap.size, 1, none⟩ = some (.int .i64 0) := Lib.cell_of_heap hz2 1
    have r2 : w1.cell? ⟨w.heap.size, 2, none⟩ = some (.string ⟨#[]⟩) := Lib.cell_of_heap hz2 2
    have r3 : w1.cell? ⟨w.heap.size, 3, none⟩ = some (.int .i64 0) := Lib.cell_of_heap hz2 3
    have r4 : w1.cell? ⟨w.heap.size, 4, none⟩ = some (.int .i64 0) := Lib.cell_of_heap hz2 4
    have r5 : w1.cell? ⟨w.heap.size, 5, none⟩ = some (.slice none 0 0) := Lib.cell_of_heap hz2 5
    have r6 : w1.cell? ⟨w.heap.size, 6, none⟩ = some (.slice none 0 0) := Lib.cell_of_heap hz2 6
    have zf := Lib.frozen_of_heap hz2
    have HE : Hid (EndP _ _ _ _ _ _ _ _ _ _ _ _ _) := kids_end HPL.out.1 (Nat.le_refl _) hBn hPBE
    unfold st7 at HE
    simp only [show (cx true).k = 5 from rfl] at HE
    clear hbt hz2 hBn hPBE hBm1 hpb1 hrm hpb HTR
    go_wp2_with fail
    clear b0 b1 b2 b3 b4 b5 b6 r0 r1 r2 r3 r4 r5 r6 zf
    generalize (((((((w1.setCell ⟨w.heap.size, 0, none⟩ (.int .i64 5)).setCell ⟨w.heap.size, 1, none⟩ (.int .i64 0)).setCell ⟨w.heap.size, 2, none⟩ (.string ⟨#[]⟩)).setCell ⟨w.heap.size, 3, none⟩ (.int .i64 0)).setCell ⟨w.heap.size, 4, none⟩ (.int .i64 0)).setCell ⟨w.heap.size, 5, none⟩ (.slice none 0 0)).setCell ⟨w.heap.size, 6, none⟩ (.slice none 0 0)) = W7 at *
    have h7 := HE.out.1
    have q0 : W7.cell? ⟨w.heap.size, 0, none⟩ = some (.int .i64 5) := Lib.cell_of_heap h7 0
    have q1 : W7.cell? ⟨w.heap.size, 1, none⟩ = some (.int .i64 0) := Lib.cell_of_heap h7 1
    have q2 : W7.cell? ⟨w.heap.size, 2, none⟩ = some (.string ⟨#[]⟩) := Lib.cell_of_heap h7 2
    have q3 : W7.cell? ⟨w.heap.size, 3, none⟩ = some (.int .i64 0) := Lib.cell_of_heap h7 3
    have q4 : W7.cell? ⟨w.heap.size, 4, none⟩ = some (.int .i64 0) := Lib.cell_of_heap h7 4
    have q5 : W7.cell? ⟨w.heap.size, 5, none⟩ = some (.slice none 0 0) := Lib.cell_of_heap h7 5
    have q6 : W7.cell? ⟨w.heap.size, 6, none⟩ = some (.slice none 0 0) := Lib.cell_of_heap h7 6
    exact bodyPost_ret (v := tval (cx true, .slice none 0 0, .slice none 0 0)) (by simp [tval, cx, results, Tryz.results14, go_sem, q0, q1, q2, q3, q4, q5, q6]) rfl (HEND.out W7 HE.out)
  | false =>
    simp only [Bool.false_eq_true, if_false] at hpb1
    have HST : Hid (KI n true p s k0 m0 w w1) := ⟨([], []), k0, m0, s.size, _, _, _, hBm1, hpb1, Nat.le_refl _, HN.out.2.1, HN.out.2.2.1, by simp [sizes], by have := HN.out; omega, fun _ => rfl, from_start hpb⟩
    clear hBm1 hpb1 hpb
    go_wp2_with fail
    go_loopw [8, 9, 10, 11, 12] (fun _ _ _ _ _ wr => KI n true p s k0 m0 w wr) (fun _ _ _ _ _ wr => s.size + 1 - posOf wr p)
    case atStart => exact HST.out
    case round =>
      clear HST
      obtain ⟨x, k, m, f, vk, vt, us, hBm, hPB, hk0, hk, hm, hmm, hf, hkx, htot⟩ := hrel
      obtain ⟨⟨ka, kc, rfl⟩, ta, tc, rfl⟩ := hBm.sls
      obtain ⟨tn, htn⟩ : ∃ tn, us.length = tn := ⟨_, rfl⟩
      obtain ⟨kn, hkn⟩ : ∃ kn, x.1.length = kn := ⟨_, rfl⟩
      rw [htn, hkn] at hBm
      have HTN : Hid (us.length = tn) := htn
      have HKN : Hid (x.1.length = kn) := hkn
      clear htn hkn
      have HNUM : Hid (k0 ≤ k ∧ m = m0 + sizes x.2 ∧ s.size + 1 ≤ f + k ∧ x.1.length = x.2.length) := ⟨hk0, hmm, hf, hkx rfl⟩
      have HTOT : Hid (rdFrom (rdT n s) true s ⟨#[c1 true]⟩ (s.size + 1) true ([], []) k0 m0 = rdTh (rdT n s) true s ⟨#[c1 true]⟩ f x k m) := htot
      have HPB : Hid (PB wr p s k m 0 0) := hPB
      have HKM : Hid (k ≤ s.size ∧ m ≤ 400) := ⟨hk, hm⟩
      have p4 : wr.cell? ⟨p, 4, none⟩ = some (.int .i64 0) := Lib.cell_of_heap hPB 4
      have HBMR : Hid (Bm true p (w.heap.size + 1) w.heap.size (w.heap.size + 2) w x (.slice ka kn kc) (.slice ta tn tc) us wr) := hBm
      have EQ := quotedH_any p s k m 20 wr hPB hk HS.out (by decide)
      have e20 : ((20 : Nat) : Int) = 20 := rfl
      rw [e20] at EQ
      clear e20
      have p1 : wr.cell? ⟨p, 1, none⟩ = some (.int .i64 (k : Int)) := Lib.cell_of_heap hPB 1
      clear hBm hPB hk0 hk hm hmm hf hkx htot
      go_wp2_with fail
      go_fit EQ
      rintro e w1 hQ
      clear EQ p4 p1
      rcases hQ with ⟨t, n5, hq, rfl, hpb1, hkn5, hrk1⟩ | ⟨hq, rfl, hpb1, hrk1⟩
      rotate_left
      · have hBm1 := HBMR.out.move HPL.out.1 hrk1
        clear hrk1 HBMR
        have HNO : Hid (rdFrom (rdT n s) true s ⟨#[c1 true]⟩ (s.size + 1) true ([], []) k0 m0 = .error (k, 2)) := by
          show _ = _
          rw [HTOT.out]
          exact th_bad (no_key (fun t' n' h' => by rw [hq] at h'; cases h'))
        clear hq
        have ct := hBm1.n.ht
        unfold cx at ct
        simp only [if_true] at ct
        have c5 : w1.cell? ⟨w.heap.size + 1, 5, none⟩ = some (.slice ka kn kc) := Lib.cell_of_heap ct 5
        clear ct
        have p4 : w1.cell? ⟨p, 4, none⟩ = some (.int .i64 2) := Lib.cell_of_heap hpb1 4
        go_upto_region 12 with fail
        clear p4
        have b3 : Below w1.heap.size w1 (w1.alloc (.cells #[.string ⟨#[]⟩] 9)) := (Below.refl _ _).alloc (Nat.le_refl _) _
        have hx3 : (w1.alloc (.cells #[.string ⟨#[]⟩] 9)).heap[w1.heap.size]? = some (.cells #[.string ⟨#[]⟩] 9) := one_new w1 _
        have hBm3 := hBm1.move HPL.out.1 (Rk.of b3)
        have hPB3 := hpb1.below b3
        clear hBm1 hpb1
        have hl4 := hBm3.lens
        obtain ⟨gk, ck, W5, hrun, hown, hgr, hat⟩ := appK 26 (w1.alloc (.cells #[.string ⟨#[]⟩] 9)) (w.heap.size + 2) hBm3.bz (.slice ka kn kc) x.1 hBm3.ks w1.heap.size ⟨#[]⟩ hx3 (by omega)
        have hW5 : Below (w.heap.size + 2) (w1.alloc (.cells #[.string ⟨#[]⟩] 9)) W5 := grown_belowJ hgr hBm3.ks hBm3.bz
        have hkn := HKN.out
        rw [hkn] at hrun hown
        have ht5 := (hW5.block (w.heap.size + 1) (by omega)).trans hBm3.n.ht
        unfold cx at ht5
        simp only [if_true] at ht5
        have f5 : W5.cell? ⟨w.heap.size + 1, 5, none⟩ = some (.slice ka kn kc) := Lib.cell_of_heap ht5 5
        have ff := Lib.frozen_of_heap ht5
        have hPB6 : PB (W5.setCell ⟨w.heap.size + 1, 5, none⟩ (.slice (some ⟨gk, 0, none⟩) (kn + 1) ck)) p s (k) m k 2 := hPB3.keepB HPL.out.1 hW5
        have hBm6 := hBm3.addK (key := ⟨#[]⟩) HPL.out.1 (by have := HNUM.out.2.2.2; omega) (by rw [hkn]; exact hown) hgr hat
        rw [hkn] at hBm6
        have HM6 : Hid (Bm true p (w.heap.size + 1) w.heap.size (w.heap.size + 2) w (x.1 ++ [⟨#[]⟩], x.2) (.slice (some ⟨gk, 0, none⟩) (kn + 1) ck) (.slice ta tn tc) us (W5.setCell ⟨w.heap.size + 1, 5, none⟩ (.slice (some ⟨gk, 0, none⟩) (kn + 1) ck)) ∧ PB (W5.setCell ⟨w.heap.size + 1, 5, none⟩ (.slice (some ⟨gk, 0, none⟩) (kn + 1) ck)) p s (k) m k 2) := ⟨hBm6, hPB6⟩
        clear hBm6 hPB6 hBm3 hPB3 hown hgr hat hW5 ht5 hx3 b3 hl4 hkn
        go_upto_region 13 with (first | (at_builtin; refine wp_append rfl _ _ 26 rfl _ _ _ _ rfl rfl hrun ?_))
        clear f5 ff hrun c5
        generalize W5.setCell ⟨w.heap.size + 1, 5, none⟩ (.slice (some ⟨gk, 0, none⟩) (kn + 1) ck) = W6 at *
        obtain ⟨ka2, hka2⟩ : ∃ ka2, some (⟨gk, 0, none⟩ : Addr) = ka2 := ⟨_, rfl⟩
        obtain ⟨kn2, hkn2⟩ : ∃ kn2, kn + 1 = kn2 := ⟨_, rfl⟩
        rw [hka2, hkn2] at HM6
        clear hka2 hkn2
        obtain ⟨hBm6, hPB6⟩ := HM6.out
        clear HM6
        have EC := isH_any p s (k) m k 2 ⟨#[58]⟩ W6 hPB6 HKM.out.1 HS.out (by decide)
        clear hPB6
        obtain ⟨pc, hpc⟩ : ∃ pc, preB s (k) ⟨#[58]⟩ = pc := ⟨_, rfl⟩
        rw [hpc] at EC
        go_wp2_with fail
        go_fit EC
        rintro e w7k ⟨rfl, hpb7, hrk7⟩
        clear EC
        have hBm7 := hBm6.move HPL.out.1 hrk7
        clear hrk7 hBm6
        cases pc with
        | true =>
          simp only [if_true] at hpb7
          have p4 : w7k.cell? ⟨p, 4, none⟩ = some (.int .i64 2) := Lib.cell_of_heap hpb7 4
          have hBn := hBm7.n
          have hPBE := hpb7
          have HEND : Hid (∀ W7, EndP true p w.heap.size w w7k s (k + 1) m k 2 (.slice ka2 kn2 ck) (.slice ta tn tc) W7 → post (.returned (tval (cx true, .slice ka2 kn2 ck, .slice ta tn tc))) W7) := by
            intro W7 hE
            rw [HPO.out]
            exact Or.inr ⟨_, _, m, k, 2, rfl, ⟨⟨_, _, _, rfl⟩, _, _, _, rfl⟩, HNO.out, by decide, hE.2.1, hE.2.2.1⟩
          have hbt := hBn.ht
          unfold cx at hbt
          simp only [if_true] at hbt
          have hz2 := hBn.hr
          unfold zO at hz2
          have b0 : w7k.cell? ⟨w.heap.size + 1, 0, none⟩ = some (.int .i64 5) := Lib.cell_of_heap hbt 0
          have b1 : w7k.cell? ⟨w.heap.size + 1, 1, none⟩ = some (.int .i64 0) := Lib.cell_of_heap hbt 1
          have b2 : w7k.cell? ⟨w.heap.size + 1, 2, none⟩ = some (.string ⟨#[]⟩) := Lib.cell_of_heap hbt 2
          have b3 : w7k.cell? ⟨w.heap.size + 1, 3, none⟩ = some (.int .i64 0) := Lib.cell_of_heap hbt 3
          have b4 : w7k.cell? ⟨w.heap.size + 1, 4, none⟩ = some (.int .i64 0) := Lib.cell_of_heap hbt 4
          have b5 : w7k.cell? ⟨w.heap.size + 1, 5, none⟩ = some (.slice ka2 kn2 ck) := Lib.cell_of_heap hbt 5
          have b6 : w7k.cell? ⟨w.heap.size + 1, 6, none⟩ = some (.slice ta tn tc) := Lib.cell_of_heap hbt 6
          have r0 : w7k.cell? ⟨w.heap.size, 0, none⟩ = some (.int .i64 0) := Lib.cell_of_heap hz2 0
          have r1 : w7k.cell? ⟨w.heap.size, 1, none⟩ = some (.int .i64 0) := Lib.cell_of_heap hz2 1
          have r2 : w7k.cell? ⟨w.heap.size, 2, none⟩ = some (.string ⟨#[]⟩) := Lib.cell_of_heap hz2 2
          have r3 : w7k.cell? ⟨w.heap.size, 3, none⟩ = some (.int .i64 0) := Lib.cell_of_heap hz2 3
          have r4 : w7k.cell? ⟨w.heap.size, 4, none⟩ = some (.int .i64 0) := Lib.cell_of_heap hz2 4
          have r5 : w7k.cell? ⟨w.heap.size, 5, none⟩ = some (.slice none 0 0) := Lib.cell_of_heap hz2 5
          have r6 : w7k.cell? ⟨w.heap.size, 6, none⟩ = some (.slice none 0 0) := Lib.cell_of_heap hz2 6
          have zf := Lib.frozen_of_heap hz2
          have HE : Hid (EndP _ _ _ _ _ _ _ _ _ _ _ _ _) := kids_end HPL.out.1 (Nat.le_refl _) hBn hPBE
          unfold st7 at HE
          simp only [show (cx true).k = 5 from rfl] at HE
          clear hbt hz2 hBn hPBE hBm7 hpb7 hpc
          go_wp2_with fail
          clear b0 b1 b2 b3 b4 b5 b6 r0 r1 r2 r3 r4 r5 r6 zf
          generalize (((((((w7k.setCell ⟨w.heap.size, 0, none⟩ (.int .i64 5)).setCell ⟨w.heap.size, 1, none⟩ (.int .i64 0)).setCell ⟨w.heap.size, 2, none⟩ (.string ⟨#[]⟩)).setCell ⟨w.heap.size, 3, none⟩ (.int .i64 0)).setCell ⟨w.heap.size, 4, none⟩ (.int .i64 0)).setCell ⟨w.heap.size, 5, none⟩ (.slice ka2 kn2 ck)).setCell ⟨w.heap.size, 6, none⟩ (.slice ta tn tc)) = W7 at *
          have h7 := HE.out.1
          have q0 : W7.cell? ⟨w.heap.size, 0, none⟩ = some (.int .i64 5) := Lib.cell_of_heap h7 0
          have q1 : W7.cell? ⟨w.heap.size, 1, none⟩ = some (.int .i64 0) := Lib.cell_of_heap h7 1
          have q2 : W7.cell? ⟨w.heap.size, 2, none⟩ = some (.string ⟨#[]⟩) := Lib.cell_of_heap h7 2
          have q3 : W7.cell? ⟨w.heap.size, 3, none⟩ = some (.int .i64 0) := Lib.cell_of_heap h7 3
          have q4 : W7.cell? ⟨w.heap.size, 4, none⟩ = some (.int .i64 0) := Lib.cell_of_heap h7 4
          have q5 : W7.cell? ⟨w.heap.size, 5, none⟩ = some (.slice ka2 kn2 ck) := Lib.cell_of_heap h7 5
          have q6 : W7.cell? ⟨w.heap.size, 6, none⟩ = some (.slice ta tn tc) := Lib.cell_of_heap h7 6
          exact bodyPost_ret (v := tval (cx true, .slice ka2 kn2 ck, .slice ta tn tc)) (by simp [tval, cx, results, Tryz.results14, go_sem, q0, q1, q2, q3, q4, q5, q6]) rfl (HEND.out W7 HE.out)
        | false =>
          simp only [Bool.false_eq_true, if_false] at hpb7
          have EF := failH_any p s (k) m k (k) 2 2 w7k hpb7
          simp only [show ¬ (2 : Int) = 0 from by decide, if_false] at EF
          have p1 : w7k.cell? ⟨p, 1, none⟩ = some (.int .i64 ((k : Nat) : Int)) := Lib.cell_of_heap hpb7 1
          clear hpb7
          obtain ⟨k3i, hk3i⟩ : ∃ k3i : Int, ((k : Nat) : Int) = k3i := ⟨_, rfl⟩
          rw [hk3i] at EF p1
          clear hk3i
          go_wp2_with fail
          go_fit EF
          rintro e w9 ⟨rfl, hpb9, hrk9⟩
          clear EF p1
          have hBn := hBm7.n.move HPL.out.1 hBm7.bz hrk9
          have hPBE := hpb9
          have p4 : w9.cell? ⟨p, 4, none⟩ = some (.int .i64 2) := Lib.cell_of_heap hpb9 4
          have HEND : Hid (∀ W7, EndP true p w.heap.size w w9 s (k) m k 2 (.slice ka2 kn2 ck) (.slice ta tn tc) W7 → post (.returned (tval (cx true, .slice ka2 kn2 ck, .slice ta tn tc))) W7) := by
            intro W7 hE
            rw [HPO.out]
            exact Or.inr ⟨_, _, m, k, 2, rfl, ⟨⟨_, _, _, rfl⟩, _, _, _, rfl⟩, HNO.out, by decide, hE.2.1, hE.2.2.1⟩
          have hbt := hBn.ht
          unfold cx at hbt
          simp only [if_true] at hbt
          have hz2 := hBn.hr
          unfold zO at hz2
          have b0 : w9.cell? ⟨w.heap.size + 1, 0, none⟩ = some (.int .i64 5) := Lib.cell_of_heap hbt 0
          have b1 : w9.cell? ⟨w.heap.size + 1, 1, none⟩ = some (.int .i64 0) := Lib.cell_of_heap hbt 1
          have b2 : w9.cell? ⟨w.heap.size + 1, 2, none⟩ = some (.string ⟨#[]⟩) := Lib.cell_of_heap hbt 2
          have b3 : w9.cell? ⟨w.heap.size + 1, 3, none⟩ = some (.int .i64 0) := Lib.cell_of_heap hbt 3
          have b4 : w9.cell? ⟨w.heap.size + 1, 4, none⟩ = some (.int .i64 0) := Lib.cell_of_heap hbt 4
          have b5 : w9.cell? ⟨w.heap.size + 1, 5, none⟩ = some (.slice ka2 kn2 ck) := Lib.cell_of_heap hbt 5
          have b6 : w9.cell? ⟨w.heap.size + 1, 6, none⟩ = some (.slice ta tn tc) := Lib.cell_of_heap hbt 6
          have r0 : w9.cell? ⟨w.heap.size, 0, none⟩ = some (.int .i64 0) := Lib.cell_of_heap hz2 0
          have r1 : w9.cell? ⟨w.heap.size, 1, none⟩ = some (.int .i64 0) := Lib.cell_of_heap hz2 1
          have r2 : w9.cell? ⟨w.heap.size, 2, none⟩ = some (.string ⟨#[]⟩) := Lib.cell_of_heap hz2 2
          have r3 : w9.cell? ⟨w.heap.size, 3, none⟩ = some (.int .i64 0) := Lib.cell_of_heap hz2 3
          have r4 : w9.cell? ⟨w.heap.size, 4, none⟩ = some (.int .i64 0) := Lib.cell_of_heap hz2 4
          have r5 : w9.cell? ⟨w.heap.size, 5, none⟩ = some (.slice none 0 0) := Lib.cell_of_heap hz2 5
          have r6 : w9.cell? ⟨w.heap.size, 6, none⟩ = some (.slice none 0 0) := Lib.cell_of_heap hz2 6
          have zf := Lib.frozen_of_heap hz2
          have HE : Hid (EndP _ _ _ _ _ _ _ _ _ _ _ _ _) := kids_end HPL.out.1 (Nat.le_refl _) hBn hPBE
          unfold st7 at HE
          simp only [show (cx true).k = 5 from rfl] at HE
          clear hbt hz2 hBn hPBE hBm7 hpb9 hrk9 hpc
          go_wp2_with fail
          clear b0 b1 b2 b3 b4 b5 b6 r0 r1 r2 r3 r4 r5 r6 zf
          generalize (((((((w9.setCell ⟨w.heap.size, 0, none⟩ (.int .i64 5)).setCell ⟨w.heap.size, 1, none⟩ (.int .i64 0)).setCell ⟨w.heap.size, 2, none⟩ (.string ⟨#[]⟩)).setCell ⟨w.heap.size, 3, none⟩ (.int .i64 0)).setCell ⟨w.heap.size, 4, none⟩ (.int .i64 0)).setCell ⟨w.heap.size, 5, none⟩ (.slice ka2 kn2 ck)).setCell ⟨w.heap.size, 6, none⟩ (.slice ta tn tc)) = W7 at *
          have h7 := HE.out.1
          have q0 : W7.cell? ⟨w.heap.size, 0, none⟩ = some (.int .i64 5) := Lib.cell_of_heap h7 0
          have q1 : W7.cell? ⟨w.heap.size, 1, none⟩ = some (.int .i64 0) := Lib.cell_of_heap h7 1
          have q2 : W7.cell? ⟨w.heap.size, 2, none⟩ = some (.string ⟨#[]⟩) := Lib.cell_of_heap h7 2
          have q3 : W7.cell? ⟨w.heap.size, 3, none⟩ = some (.int .i64 0) := Lib.cell_of_heap h7 3
          have q4 : W7.cell? ⟨w.heap.size, 4, none⟩ = some (.int .i64 0) := Lib.cell_of_heap h7 4
          have q5 : W7.cell? ⟨w.heap.size, 5, none⟩ = some (.slice ka2 kn2 ck) := Lib.cell_of_heap h7 5
          have q6 : W7.cell? ⟨w.heap.size, 6, none⟩ = some (.slice ta tn tc) := Lib.cell_of_heap h7 6
          exact bodyPost_ret (v := tval (cx true, .slice ka2 kn2 ck, .slice ta tn tc)) (by simp [tval, cx, results, Tryz.results14, go_sem, q0, q1, q2, q3, q4, q5, q6]) rfl (HEND.out W7 HE.out)
      have hBm1 := HBMR.out.move HPL.out.1 hrk1
      clear hrk1 HBMR
      obtain ⟨key, hkey⟩ : ∃ key : ByteArray, key = ⟨t.toArray⟩ := ⟨_, rfl⟩
      rw [← hkey]
      have hkt : key.toList = t := by rw [hkey]; exact ts_list t
      have HQ5 : Hid (qtd 20 (lft s k) = some (t, n5) ∧ k + n5 ≤ s.size) := ⟨hq, hkn5⟩
      clear hq hkn5
      have ct := hBm1.n.ht
      unfold cx at ct
      simp only [if_true] at ct
      have c5 : w1.cell? ⟨w.heap.size + 1, 5, none⟩ = some (.slice ka kn kc) := Lib.cell_of_heap ct 5
      clear ct
      have p4 : w1.cell? ⟨p, 4, none⟩ = some (.int .i64 0) := Lib.cell_of_heap hpb1 4
      by_cases h0 : t = []
      · have hbe : key.toList.isEmpty = true := by rw [hkt, h0]; rfl
        have hnok : ¬ keyOk x.1 t := fun hok => hok.1 h0
        obtain rfl : key = ⟨#[]⟩ := by rw [hkey, h0]
        clear h0 hkt hkey hbe
        have EF1 := failH_any p s (k + n5) m 0 k 0 2 w1 hpb1
        simp only [if_true] at EF1
        clear hpb1
        have HNO : Hid (rdFrom (rdT n s) true s ⟨#[c1 true]⟩ (s.size + 1) true ([], []) k0 m0 = .error (k, 2)) := by
          show _ = _
          rw [HTOT.out]
          exact th_bad (no_key (fun t' n' h' => by
            rw [HQ5.out.1] at h'
            obtain ⟨rfl, _⟩ := Prod.mk.inj (Option.some.inj h')
            exact hnok))
        clear hnok
        go_wp2_with fail
        go_fit EF1
        rintro e w2 ⟨rfl, hpb2, hrk2⟩
        clear EF1 p4 c5 
        have hBm2 := hBm1.move HPL.out.1 hrk2
        clear hBm1 hrk2
        have hBm1 := hBm2
        have hpb1 := hpb2
        clear hBm2 hpb2
        have ct := hBm1.n.ht
        unfold cx at ct
        simp only [if_true] at ct
        have c5 : w2.cell? ⟨w.heap.size + 1, 5, none⟩ = some (.slice ka kn kc) := Lib.cell_of_heap ct 5
        clear ct
        go_upto_region 12 with fail
        have b3 : Below w2.heap.size w2 (w2.alloc (.cells #[.string ⟨#[]⟩] 9)) := (Below.refl _ _).alloc (Nat.le_refl _) _
        have hx3 : (w2.alloc (.cells #[.string ⟨#[]⟩] 9)).heap[w2.heap.size]? = some (.cells #[.string ⟨#[]⟩] 9) := one_new w2 _
        have hBm3 := hBm1.move HPL.out.1 (Rk.of b3)
        have hPB3 := hpb1.below b3
        clear hBm1 hpb1
        have hl4 := hBm3.lens
        obtain ⟨gk, ck, W5, hrun, hown, hgr, hat⟩ := appK 26 (w2.alloc (.cells #[.string ⟨#[]⟩] 9)) (w.heap.size + 2) hBm3.bz (.slice ka kn kc) x.1 hBm3.ks w2.heap.size ⟨#[]⟩ hx3 (by omega)
        have hW5 : Below (w.heap.size + 2) (w2.alloc (.cells #[.string ⟨#[]⟩] 9)) W5 := grown_belowJ hgr hBm3.ks hBm3.bz
        have hkn := HKN.out
        rw [hkn] at hrun hown
        have ht5 := (hW5.block (w.heap.size + 1) (by omega)).trans hBm3.n.ht
        unfold cx at ht5
        simp only [if_true] at ht5
        have f5 : W5.cell? ⟨w.heap.size + 1, 5, none⟩ = some (.slice ka kn kc) := Lib.cell_of_heap ht5 5
        have ff := Lib.frozen_of_heap ht5
        have hPB6 : PB (W5.setCell ⟨w.heap.size + 1, 5, none⟩ (.slice (some ⟨gk, 0, none⟩) (kn + 1) ck)) p s (k + n5) m k 2 := hPB3.keepB HPL.out.1 hW5
        have hBm6 := hBm3.addK (key := ⟨#[]⟩) HPL.out.1 (by have := HNUM.out.2.2.2; omega) (by rw [hkn]; exact hown) hgr hat
        rw [hkn] at hBm6
        have HM6 : Hid (Bm true p (w.heap.size + 1) w.heap.size (w.heap.size + 2) w (x.1 ++ [⟨#[]⟩], x.2) (.slice (some ⟨gk, 0, none⟩) (kn + 1) ck) (.slice ta tn tc) us (W5.setCell ⟨w.heap.size + 1, 5, none⟩ (.slice (some ⟨gk, 0, none⟩) (kn + 1) ck)) ∧ PB (W5.setCell ⟨w.heap.size + 1, 5, none⟩ (.slice (some ⟨gk, 0, none⟩) (kn + 1) ck)) p s (k + n5) m k 2) := ⟨hBm6, hPB6⟩
        clear hBm6 hPB6 hBm3 hPB3 hown hgr hat hW5 ht5 hx3 b3 hl4 hkn
        go_upto_region 13 with (first | (at_builtin; refine wp_append rfl _ _ 26 rfl _ _ _ _ rfl rfl hrun ?_))
        clear f5 ff hrun c5
        generalize W5.setCell ⟨w.heap.size + 1, 5, none⟩ (.slice (some ⟨gk, 0, none⟩) (kn + 1) ck) = W6 at *
        obtain ⟨ka2, hka2⟩ : ∃ ka2, some (⟨gk, 0, none⟩ : Addr) = ka2 := ⟨_, rfl⟩
        obtain ⟨kn2, hkn2⟩ : ∃ kn2, kn + 1 = kn2 := ⟨_, rfl⟩
        rw [hka2, hkn2] at HM6
        clear hka2 hkn2
        obtain ⟨hBm6, hPB6⟩ := HM6.out
        clear HM6
        have EC := isH_any p s (k + n5) m k 2 ⟨#[58]⟩ W6 hPB6 HQ5.out.2 HS.out (by decide)
        clear hPB6
        obtain ⟨pc, hpc⟩ : ∃ pc, preB s (k + n5) ⟨#[58]⟩ = pc := ⟨_, rfl⟩
        rw [hpc] at EC
        go_wp2_with fail
        go_fit EC
        rintro e w7k ⟨rfl, hpb7, hrk7⟩
        clear EC
        have hBm7 := hBm6.move HPL.out.1 hrk7
        clear hrk7 hBm6
        cases pc with
        | true =>
          simp only [if_true] at hpb7
          have p4 : w7k.cell? ⟨p, 4, none⟩ = some (.int .i64 2) := Lib.cell_of_heap hpb7 4
          have hBn := hBm7.n
          have hPBE := hpb7
          have HEND : Hid (∀ W7, EndP true p w.heap.size w w7k s (k + n5 + 1) m k 2 (.slice ka2 kn2 ck) (.slice ta tn tc) W7 → post (.returned (tval (cx true, .slice ka2 kn2 ck, .slice ta tn tc))) W7) := by
            intro W7 hE
            rw [HPO.out]
            exact Or.inr ⟨_, _, m, k, 2, rfl, ⟨⟨_, _, _, rfl⟩, _, _, _, rfl⟩, HNO.out, by decide, hE.2.1, hE.2.2.1⟩
          have hbt := hBn.ht
          unfold cx at hbt
          simp only [if_true] at hbt
          have hz2 := hBn.hr
          unfold zO at hz2
          have b0 : w7k.cell? ⟨w.heap.size + 1, 0, none⟩ = some (.int .i64 5) := Lib.cell_of_heap hbt 0
          have b1 : w7k.cell? ⟨w.heap.size + 1, 1, none⟩ = some (.int .i64 0) := Lib.cell_of_heap hbt 1
          have b2 : w7k.cell? ⟨w.heap.size + 1, 2, none⟩ = some (.string ⟨#[]⟩) := Lib.cell_of_heap hbt 2
          have b3 : w7k.cell? ⟨w.heap.size + 1, 3, none⟩ = some (.int .i64 0) := Lib.cell_of_heap hbt 3
          have b4 : w7k.cell? ⟨w.heap.size + 1, 4, none⟩ = some (.int .i64 0) := Lib.cell_of_heap hbt 4
          have b5 : w7k.cell? ⟨w.heap.size + 1, 5, none⟩ = some (.slice ka2 kn2 ck) := Lib.cell_of_heap hbt 5
          have b6 : w7k.cell? ⟨w.heap.size + 1, 6, none⟩ = some (.slice ta tn tc) := Lib.cell_of_heap hbt 6
          have r0 : w7k.cell? ⟨w.heap.size, 0, none⟩ = some (.int .i64 0) := Lib.cell_of_heap hz2 0
          have r1 : w7k.cell? ⟨w.heap.size, 1, none⟩ = some (.int .i64 0) := Lib.cell_of_heap hz2 1
          have r2 : w7k.cell? ⟨w.heap.size, 2, none⟩ = some (.string ⟨#[]⟩) := Lib.cell_of_heap hz2 2
          have r3 : w7k.cell? ⟨w.heap.size, 3, none⟩ = some (.int .i64 0) := Lib.cell_of_heap hz2 3
          have r4 : w7k.cell? ⟨w.heap.size, 4, none⟩ = some (.int .i64 0) := Lib.cell_of_heap hz2 4
          have r5 : w7k.cell? ⟨w.heap.size, 5, none⟩ = some (.slice none 0 0) := Lib.cell_of_heap hz2 5
          have r6 : w7k.cell? ⟨w.heap.size, 6, none⟩ = some (.slice none 0 0) := Lib.cell_of_heap hz2 6
          have zf := Lib.frozen_of_heap hz2
          have HE : Hid (EndP _ _ _ _ _ _ _ _ _ _ _ _ _) := kids_end HPL.out.1 (Nat.le_refl _) hBn hPBE
          unfold st7 at HE
          simp only [show (cx true).k = 5 from rfl] at HE
          clear hbt hz2 hBn hPBE hBm7 hpb7 hpc
          go_wp2_with fail
          clear b0 b1 b2 b3 b4 b5 b6 r0 r1 r2 r3 r4 r5 r6 zf
          generalize (((((((w7k.setCell ⟨w.heap.size, 0, none⟩ (.int .i64 5)).setCell ⟨w.heap.size, 1, none⟩ (.int .i64 0)).setCell ⟨w.heap.size, 2, none⟩ (.string ⟨#[]⟩)).setCell ⟨w.heap.size, 3, none⟩ (.int .i64 0)).setCell ⟨w.heap.size, 4, none⟩ (.int .i64 0)).setCell ⟨w.heap.size, 5, none⟩ (.slice ka2 kn2 ck)).setCell ⟨w.heap.size, 6, none⟩ (.slice ta tn tc)) = W7 at *
          have h7 := HE.out.1
          have q0 : W7.cell? ⟨w.heap.size, 0, none⟩ = some (.int .i64 5) := Lib.cell_of_heap h7 0
          have q1 : W7.cell? ⟨w.heap.size, 1, none⟩ = some (.int .i64 0) := Lib.cell_of_heap h7 1
          have q2 : W7.cell? ⟨w.heap.size, 2, none⟩ = some (.string ⟨#[]⟩) := Lib.cell_of_heap h7 2
          have q3 : W7.cell? ⟨w.heap.size, 3, none⟩ = some (.int .i64 0) := Lib.cell_of_heap h7 3
          have q4 : W7.cell? ⟨w.heap.size, 4, none⟩ = some (.int .i64 0) := Lib.cell_of_heap h7 4
          have q5 : W7.cell? ⟨w.heap.size, 5, none⟩ = some (.slice ka2 kn2 ck) := Lib.cell_of_heap h7 5
          have q6 : W7.cell? ⟨w.heap.size, 6, none⟩ = some (.slice ta tn tc) := Lib.cell_of_heap h7 6
          exact bodyPost_ret (v := tval (cx true, .slice ka2 kn2 ck, .slice ta tn tc)) (by simp [tval, cx, results, Tryz.results14, go_sem, q0, q1, q2, q3, q4, q5, q6]) rfl (HEND.out W7 HE.out)
        | false =>
          simp only [Bool.false_eq_true, if_false] at hpb7
          have EF := failH_any p s (k + n5) m k (k + n5) 2 2 w7k hpb7
          simp only [show ¬ (2 : Int) = 0 from by decide, if_false] at EF
          have p1 : w7k.cell? ⟨p, 1, none⟩ = some (.int .i64 ((k + n5 : Nat) : Int)) := Lib.cell_of_heap hpb7 1
          clear hpb7
          obtain ⟨k3i, hk3i⟩ : ∃ k3i : Int, ((k + n5 : Nat) : Int) = k3i := ⟨_, rfl⟩
          rw [hk3i] at EF p1
          clear hk3i
          go_wp2_with fail
          go_fit EF
          rintro e w9 ⟨rfl, hpb9, hrk9⟩
          clear EF p1
          have hBn := hBm7.n.move HPL.out.1 hBm7.bz hrk9
          have hPBE := hpb9
          have p4 : w9.cell? ⟨p, 4, none⟩ = some (.int .i64 2) := Lib.cell_of_heap hpb9 4
          have HEND : Hid (∀ W7, EndP true p w.heap.size w w9 s (k + n5) m k 2 (.slice ka2 kn2 ck) (.slice ta tn tc) W7 → post (.returned (tval (cx true, .slice ka2 kn2 ck, .slice ta tn tc))) W7) := by
            intro W7 hE
            rw [HPO.out]
            exact Or.inr ⟨_, _, m, k, 2, rfl, ⟨⟨_, _, _, rfl⟩, _, _, _, rfl⟩, HNO.out, by decide, hE.2.1, hE.2.2.1⟩
          have hbt := hBn.ht
          unfold cx at hbt
          simp only [if_true] at hbt
          have hz2 := hBn.hr
          unfold zO at hz2
          have b0 : w9.cell? ⟨w.heap.size + 1, 0, none⟩ = some (.int .i64 5) := Lib.cell_of_heap hbt 0
          have b1 : w9.cell? ⟨w.heap.size + 1, 1, none⟩ = some (.int .i64 0) := Lib.cell_of_heap hbt 1
          have b2 : w9.cell? ⟨w.heap.size + 1, 2, none⟩ = some (.string ⟨#[]⟩) := Lib.cell_of_heap hbt 2
          have b3 : w9.cell? ⟨w.heap.size + 1, 3, none⟩ = some (.int .i64 0) := Lib.cell_of_heap hbt 3
          have b4 : w9.cell? ⟨w.heap.size + 1, 4, none⟩ = some (.int .i64 0) := Lib.cell_of_heap hbt 4
          have b5 : w9.cell? ⟨w.heap.size + 1, 5, none⟩ = some (.slice ka2 kn2 ck) := Lib.cell_of_heap hbt 5
          have b6 : w9.cell? ⟨w.heap.size + 1, 6, none⟩ = some (.slice ta tn tc) := Lib.cell_of_heap hbt 6
          have r0 : w9.cell? ⟨w.heap.size, 0, none⟩ = some (.int .i64 0) := Lib.cell_of_heap hz2 0
          have r1 : w9.cell? ⟨w.heap.size, 1, none⟩ = some (.int .i64 0) := Lib.cell_of_heap hz2 1
          have r2 : w9.cell? ⟨w.heap.size, 2, none⟩ = some (.string ⟨#[]⟩) := Lib.cell_of_heap hz2 2
          have r3 : w9.cell? ⟨w.heap.size, 3, none⟩ = some (.int .i64 0) := Lib.cell_of_heap hz2 3
          have r4 : w9.cell? ⟨w.heap.size, 4, none⟩ = some (.int .i64 0) := Lib.cell_of_heap hz2 4
          have r5 : w9.cell? ⟨w.heap.size, 5, none⟩ = some (.slice none 0 0) := Lib.cell_of_heap hz2 5
          have r6 : w9.cell? ⟨w.heap.size, 6, none⟩ = some (.slice none 0 0) := Lib.cell_of_heap hz2 6
          have zf := Lib.frozen_of_heap hz2
          have HE : Hid (EndP _ _ _ _ _ _ _ _ _ _ _ _ _) := kids_end HPL.out.1 (Nat.le_refl _) hBn hPBE
          unfold st7 at HE
          simp only [show (cx true).k = 5 from rfl] at HE
          clear hbt hz2 hBn hPBE hBm7 hpb9 hrk9 hpc
          go_wp2_with fail
          clear b0 b1 b2 b3 b4 b5 b6 r0 r1 r2 r3 r4 r5 r6 zf
          generalize (((((((w9.setCell ⟨w.heap.size, 0, none⟩ (.int .i64 5)).setCell ⟨w.heap.size, 1, none⟩ (.int .i64 0)).setCell ⟨w.heap.size, 2, none⟩ (.string ⟨#[]⟩)).setCell ⟨w.heap.size, 3, none⟩ (.int .i64 0)).setCell ⟨w.heap.size, 4, none⟩ (.int .i64 0)).setCell ⟨w.heap.size, 5, none⟩ (.slice ka2 kn2 ck)).setCell ⟨w.heap.size, 6, none⟩ (.slice ta tn tc)) = W7 at *
          have h7 := HE.out.1
          have q0 : W7.cell? ⟨w.heap.size, 0, none⟩ = some (.int .i64 5) := Lib.cell_of_heap h7 0
          have q1 : W7.cell? ⟨w.heap.size, 1, none⟩ = some (.int .i64 0) := Lib.cell_of_heap h7 1
          have q2 : W7.cell? ⟨w.heap.size, 2, none⟩ = some (.string ⟨#[]⟩) := Lib.cell_of_heap h7 2
          have q3 : W7.cell? ⟨w.heap.size, 3, none⟩ = some (.int .i64 0) := Lib.cell_of_heap h7 3
          have q4 : W7.cell? ⟨w.heap.size, 4, none⟩ = some (.int .i64 0) := Lib.cell_of_heap h7 4
          have q5 : W7.cell? ⟨w.heap.size, 5, none⟩ = some (.slice ka2 kn2 ck) := Lib.cell_of_heap h7 5
          have q6 : W7.cell? ⟨w.heap.size, 6, none⟩ = some (.slice ta tn tc) := Lib.cell_of_heap h7 6
          exact bodyPost_ret (v := tval (cx true, .slice ka2 kn2 ck, .slice ta tn tc)) (by simp [tval, cx, results, Tryz.results14, go_sem, q0, q1, q2, q3, q4, q5, q6]) rfl (HEND.out W7 HE.out)
      · have hbe : key.toList.isEmpty = false := by
          rw [hkt]
          cases t with
          | nil => exact absurd rfl h0
          | cons x r => rfl
        by_cases hz : kn = 0
        · have hks : x.1 = [] := List.length_eq_zero_iff.1 (by have := HKN.out; omega)
          have HKQ : Hid (key = ⟨t.toArray⟩ ∧ keyOk x.1 t) := ⟨hkey, h0, fun y hy => by rw [hks] at hy; cases hy⟩
          have g1 : ¬ (0 : Int) < kn := by omega
          clear hz hks h0 hkt hkey
          go_upto_region 12 with fail
          clear p4 g1 hbe
          have b3 : Below w1.heap.size w1 (w1.alloc (.cells #[.string key] 9)) := (Below.refl _ _).alloc (Nat.le_refl _) _
          have hx3 : (w1.alloc (.cells #[.string key] 9)).heap[w1.heap.size]? = some (.cells #[.string key] 9) := one_new w1 _
          have hBm3 := hBm1.move HPL.out.1 (Rk.of b3)
          have hPB3 := hpb1.below b3
          clear hBm1 hpb1
          have hl4 := hBm3.lens
          obtain ⟨gk, ck, W5, hrun, hown, hgr, hat⟩ := appK 26 (w1.alloc (.cells #[.string key] 9)) (w.heap.size + 2) hBm3.bz (.slice ka kn kc) x.1 hBm3.ks w1.heap.size key hx3 (by omega)
          have hW5 : Below (w.heap.size + 2) (w1.alloc (.cells #[.string key] 9)) W5 := grown_belowJ hgr hBm3.ks hBm3.bz
          have hkn := HKN.out
          rw [hkn] at hrun hown
          have ht5 := (hW5.block (w.heap.size + 1) (by omega)).trans hBm3.n.ht
          unfold cx at ht5
          simp only [if_true] at ht5
          have f5 : W5.cell? ⟨w.heap.size + 1, 5, none⟩ = some (.slice ka kn kc) := Lib.cell_of_heap ht5 5
          have ff := Lib.frozen_of_heap ht5
          have hPB6 : PB (W5.setCell ⟨w.heap.size + 1, 5, none⟩ (.slice (some ⟨gk, 0, none⟩) (kn + 1) ck)) p s (k + n5) m 0 0 := hPB3.keepB HPL.out.1 hW5
          have hBm6 := hBm3.addK (key := key) HPL.out.1 (by have := HNUM.out.2.2.2; omega) (by rw [hkn]; exact hown) hgr hat
          rw [hkn] at hBm6
          have HM6 : Hid (Bm true p (w.heap.size + 1) w.heap.size (w.heap.size + 2) w (x.1 ++ [key], x.2) (.slice (some ⟨gk, 0, none⟩) (kn + 1) ck) (.slice ta tn tc) us (W5.setCell ⟨w.heap.size + 1, 5, none⟩ (.slice (some ⟨gk, 0, none⟩) (kn + 1) ck)) ∧ PB (W5.setCell ⟨w.heap.size + 1, 5, none⟩ (.slice (some ⟨gk, 0, none⟩) (kn + 1) ck)) p s (k + n5) m 0 0) := ⟨hBm6, hPB6⟩
          clear hBm6 hPB6 hBm3 hPB3 hown hgr hat hW5 ht5 hx3 b3 hl4 hkn
          go_upto_region 13 with (first | (at_builtin; refine wp_append rfl _ _ 26 rfl _ _ _ _ rfl rfl hrun ?_))
          clear f5 ff hrun c5
          generalize W5.setCell ⟨w.heap.size + 1, 5, none⟩ (.slice (some ⟨gk, 0, none⟩) (kn + 1) ck) = W6 at *
          obtain ⟨ka2, hka2⟩ : ∃ ka2, some (⟨gk, 0, none⟩ : Addr) = ka2 := ⟨_, rfl⟩
          obtain ⟨kn2, hkn2⟩ : ∃ kn2, kn + 1 = kn2 := ⟨_, rfl⟩
          rw [hka2, hkn2] at HM6
          clear hka2 hkn2
          obtain ⟨hBm6, hPB6⟩ := HM6.out
          clear HM6
          have EC := isH_any p s (k + n5) m 0 0 ⟨#[58]⟩ W6 hPB6 HQ5.out.2 HS.out (by decide)
          clear hPB6
          obtain ⟨pc, hpc⟩ : ∃ pc, preB s (k + n5) ⟨#[58]⟩ = pc := ⟨_, rfl⟩
          rw [hpc] at EC
          go_wp2_with fail
          go_fit EC
          rintro e w7k ⟨rfl, hpb7, hrk7⟩
          clear EC
          have hBm7 := hBm6.move HPL.out.1 hrk7
          clear hrk7 hBm6
          cases pc with
          | true =>
            simp only [if_true] at hpb7
            have hrm := pre_room hpc rfl
            have p4 : w7k.cell? ⟨p, 4, none⟩ = some (.int .i64 0) := Lib.cell_of_heap hpb7 4
            obtain ⟨xk, hxk⟩ : ∃ xk, xk = x.1 ++ [key] := ⟨_, rfl⟩
            rw [← hxk] at hBm7
            have HXK : Hid (xk = x.1 ++ [key]) := hxk
            clear hxk
            have HBM : Hid (Bm true p (w.heap.size + 1) w.heap.size (w.heap.size + 2) w (xk, x.2) (.slice ka2 kn2 ck) (.slice ta tn tc) us w7k) := hBm7
            have HWZ : Hid (w.heap.size + 2 ≤ w7k.heap.size ∧ (∀ b, (Value.slice ka2 kn2 ck).ownBlock = some b → b < w7k.heap.size) ∧ ∀ b, (Value.slice ta tn tc).ownBlock = some b → b < w7k.heap.size) := ⟨hBm7.bz, fun b hb => (ownR_blk hBm7.ks hb).2.1, fun b hb => (ownR_blk hBm7.ts hb).2.1⟩
            have HKY : Hid (key = ⟨t.toArray⟩ ∧ qtd 20 (lft s k) = some (t, n5) ∧ keyOk x.1 t ∧ preB s (k + n5) ⟨#[58]⟩ = true) := ⟨HKQ.out.1, HQ5.out.1, HKQ.out.2, hpc⟩
            have ET := HTC.out (k + n5 + 1) m w7k (by have := HN.out; have := HNUM.out; omega) hpb7 hrm HKM.out.2
            clear hBm7 hpb7 hrm hpc
            go_wp2_with fail
            refine Calls.mono ET ?_
            rintro e w2 hR2
            clear ET p4
            rcases hR2 with ⟨u, T, k', rfl, hI, hok, hfew, hlt, hle, hpb2, hrk2⟩ | ⟨u, k2, m2, kf, fe, rfl, hsl, hno, hfe, hpb2, hrk2⟩
            rotate_left
            · have hBm2 := HBM.out.move HPL.out.1 hrk2
              clear hrk2
              have HNO : Hid (rdFrom (rdT n s) true s ⟨#[c1 true]⟩ (s.size + 1) true ([], []) k0 m0 = .error (kf, fe) ∧ fe ≠ 0) := ⟨by rw [HTOT.out]; exact th_bad (no_tree HKY.out.2.1 HKY.out.2.2.1 HKY.out.2.2.2 hno), hfe⟩
              clear hno hfe
              obtain ⟨yk, yn, yt, yo, ya, a1, n1, d1, a2, n2, d2, rfl⟩ := slU_parts hsl
              unfold tval
              dsimp only
              have b3 : Below w2.heap.size w2 (w2.alloc (.cells #[.int .i64 yk, .int .i64 yn, .string yt, .int .i64 yo, .int .i64 ya, .slice a1 n1 d1, .slice a2 n2 d2] 29)) := (Below.refl _ _).alloc (Nat.le_refl _) _
              have hx3 : (w2.alloc (.cells #[.int .i64 yk, .int .i64 yn, .string yt, .int .i64 yo, .int .i64 ya, .slice a1 n1 d1, .slice a2 n2 d2] 29)).heap[w2.heap.size]? = some (.cells #[.int .i64 yk, .int .i64 yn, .string yt, .int .i64 yo, .int .i64 ya, .slice a1 n1 d1, .slice a2 n2 d2] 29) := one_new w2 _
              have hz3 : (w2.alloc (.cells #[.int .i64 yk, .int .i64 yn, .string yt, .int .i64 yo, .int .i64 ya, .slice a1 n1 d1, .slice a2 n2 d2] 29)).heap.size = w2.heap.size + 1 := sz_new _ _
              have hBm3 := hBm2.move HPL.out.1 (Rk.of b3)
              have hPB3 := hpb2.below b3
              clear hBm2 hpb2
              have ct3 := hBm3.n.ht
              unfold cx at ct3
              simp only [if_true] at ct3
              go_upto_region 19 with fail
              obtain ⟨xb, hxb⟩ : ∃ xb, w2.heap.size = xb := ⟨_, rfl⟩
              rw [hxb] at hx3 hz3 ⊢
              generalize (w2.alloc (.cells #[.int .i64 yk, .int .i64 yn, .string yt, .int .i64 yo, .int .i64 ya, .slice a1 n1 d1, .slice a2 n2 d2] 29)) = W3 at *
              have HXB : Hid (Below xb w2 W3) := by rw [← hxb]; exact b3
              clear b3
              have x0 : W3.cell? ⟨xb, 0, none⟩ = some (.int .i64 yk) := Lib.cell_of_heap hx3 0
              have x1 : W3.cell? ⟨xb, 1, none⟩ = some (.int .i64 yn) := Lib.cell_of_heap hx3 1
              have x2 : W3.cell? ⟨xb, 2, none⟩ = some (.string yt) := Lib.cell_of_heap hx3 2
              have x3 : W3.cell? ⟨xb, 3, none⟩ = some (.int .i64 yo) := Lib.cell_of_heap hx3 3
              have x4 : W3.cell? ⟨xb, 4, none⟩ = some (.int .i64 ya) := Lib.cell_of_heap hx3 4
              have x5 : W3.cell? ⟨xb, 5, none⟩ = some (.slice a1 n1 d1) := Lib.cell_of_heap hx3 5
              have x6 : W3.cell? ⟨xb, 6, none⟩ = some (.slice a2 n2 d2) := Lib.cell_of_heap hx3 6
              have ckd : W3.cell? ⟨w.heap.size + 1, 6, none⟩ = some (.slice ta tn tc) := Lib.cell_of_heap ct3 6
              have b4 : Below W3.heap.size W3 (W3.alloc (.cells #[.int .i64 yk, .int .i64 yn, .string yt, .int .i64 yo, .int .i64 ya, .slice a1 n1 d1, .slice a2 n2 d2] 29)) := (Below.refl _ _).alloc (Nat.le_refl _) _
              have hx4 : (W3.alloc (.cells #[.int .i64 yk, .int .i64 yn, .string yt, .int .i64 yo, .int .i64 ya, .slice a1 n1 d1, .slice a2 n2 d2] 29)).heap[W3.heap.size]? = some (.cells #[.int .i64 yk, .int .i64 yn, .string yt, .int .i64 yo, .int .i64 ya, .slice a1 n1 d1, .slice a2 n2 d2] 29) := one_new W3 _
              have hBm4 := hBm3.move HPL.out.1 (Rk.of b4)
              have hPB4 := hPB3.below b4
              have hl4 := hBm4.lens
              obtain ⟨g5, c5, W5, hrun, hown, hgr, hat⟩ := appU 27 (W3.alloc (.cells #[.int .i64 yk, .int .i64 yn, .string yt, .int .i64 yo, .int .i64 ya, .slice a1 n1 d1, .slice a2 n2 d2] 29)) (w.heap.size + 2) hBm4.bz (.slice ta tn tc) us hBm4.ts W3.heap.size (⟨yk, yn, yt, yo, ya⟩, .slice a1 n1 d1, .slice a2 n2 d2) hx4 hsl (by omega)
              have hW5 : Below (w.heap.size + 2) (W3.alloc (.cells #[.int .i64 yk, .int .i64 yn, .string yt, .int .i64 yo, .int .i64 ya, .slice a1 n1 d1, .slice a2 n2 d2] 29)) W5 := grown_belowJ hgr hBm4.ts hBm4.bz
              have htn := HTN.out
              rw [htn] at hrun hown
              have ht5 := (hW5.block (w.heap.size + 1) (by omega)).trans hBm4.n.ht
              unfold cx at ht5
              simp only [if_true] at ht5
              have f6 : W5.cell? ⟨w.heap.size + 1, 6, none⟩ = some (.slice ta tn tc) := Lib.cell_of_heap ht5 6
              have ff := Lib.frozen_of_heap ht5
              have hPB6 : PB (W5.setCell ⟨w.heap.size + 1, 6, none⟩ (.slice (some ⟨g5, 0, none⟩) (tn + 1) c5)) p s k2 m2 kf fe := hPB4.keepB HPL.out.1 hW5
              have hBn6 : Bn true p (w.heap.size + 1) w.heap.size w (.slice ka2 kn2 ck) (.slice (some ⟨g5, 0, none⟩) (tn + 1) c5) (W5.setCell ⟨w.heap.size + 1, 6, none⟩ (.slice (some ⟨g5, 0, none⟩) (tn + 1) c5)) := hBm4.n.addB HPL.out.1 hBm4.bz hW5
              have HBN6 : Hid (Bn true p (w.heap.size + 1) w.heap.size w (.slice ka2 kn2 ck) (.slice (some ⟨g5, 0, none⟩) (tn + 1) c5) (W5.setCell ⟨w.heap.size + 1, 6, none⟩ (.slice (some ⟨g5, 0, none⟩) (tn + 1) c5))) := hBn6
              clear hBn6
              have HPB6 : Hid (PB (W5.setCell ⟨w.heap.size + 1, 6, none⟩ (.slice (some ⟨g5, 0, none⟩) (tn + 1) c5)) p s k2 m2 kf fe) := hPB6
              clear hPB6 hBm4 hPB4 hBm3 hPB3 hown hgr hat hW5 ht5 hx4 b4 ct3 hx3 hz3 hl4 htn
              go_upto_region 20 with (first | (at_builtin; refine wp_append rfl _ _ 27 rfl _ _ _ _ rfl rfl hrun ?_))
              clear x0 x1 x2 x3 x4 x5 x6 ckd f6 ff hrun
              generalize W5.setCell ⟨w.heap.size + 1, 6, none⟩ (.slice (some ⟨g5, 0, none⟩) (tn + 1) c5) = W6 at *
              have p4 : W6.cell? ⟨p, 4, none⟩ = some (.int .i64 fe) := Lib.cell_of_heap HPB6.out 4
              have hfe9 : (fe != 0) = true := by have := HNO.out.2; simpa using this
              have hBn := HBN6.out
              have hPBE := HPB6.out
              have HEND : Hid (∀ W7, EndP true p w.heap.size w W6 s k2 m2 kf fe (.slice ka2 kn2 ck) (.slice (some ⟨g5, 0, none⟩) (tn + 1) c5) W7 → post (.returned (tval (cx true, .slice ka2 kn2 ck, .slice (some ⟨g5, 0, none⟩) (tn + 1) c5))) W7) := by
                intro W7 hE
                rw [HPO.out]
                exact Or.inr ⟨_, k2, m2, kf, fe, rfl, ⟨⟨_, _, _, rfl⟩, _, _, _, rfl⟩, HNO.out.1, HNO.out.2, hE.2.1, hE.2.2.1⟩
              have hbt := hBn.ht
              unfold cx at hbt
              simp only [if_true] at hbt
              have hz2 := hBn.hr
              unfold zO at hz2
              have b0 : W6.cell? ⟨w.heap.size + 1, 0, none⟩ = some (.int .i64 5) := Lib.cell_of_heap hbt 0
              have b1 : W6.cell? ⟨w.heap.size + 1, 1, none⟩ = some (.int .i64 0) := Lib.cell_of_heap hbt 1
              have b2 : W6.cell? ⟨w.heap.size + 1, 2, none⟩ = some (.string ⟨#[]⟩) := Lib.cell_of_heap hbt 2
              have b3 : W6.cell? ⟨w.heap.size + 1, 3, none⟩ = some (.int .i64 0) := Lib.cell_of_heap hbt 3
              have b4 : W6.cell? ⟨w.heap.size + 1, 4, none⟩ = some (.int .i64 0) := Lib.cell_of_heap hbt 4
              have b5 : W6.cell? ⟨w.heap.size + 1, 5, none⟩ = some (.slice ka2 kn2 ck) := Lib.cell_of_heap hbt 5
              have b6 : W6.cell? ⟨w.heap.size + 1, 6, none⟩ = some (.slice (some ⟨g5, 0, none⟩) (tn + 1) c5) := Lib.cell_of_heap hbt 6
              have r0 : W6.cell? ⟨w.heap.size, 0, none⟩ = some (.int .i64 0) := Lib.cell_of_heap hz2 0
              have r1 : W6.cell? ⟨w.heap.size, 1, none⟩ = some (.int .i64 0) := Lib.cell_of_heap hz2 1
              have r2 : W6.cell? ⟨w.heap.size, 2, none⟩ = some (.string ⟨#[]⟩) := Lib.cell_of_heap hz2 2
              have r3 : W6.cell? ⟨w.heap.size, 3, none⟩ = some (.int .i64 0) := Lib.cell_of_heap hz2 3
              have r4 : W6.cell? ⟨w.heap.size, 4, none⟩ = some (.int .i64 0) := Lib.cell_of_heap hz2 4
              have r5 : W6.cell? ⟨w.heap.size, 5, none⟩ = some (.slice none 0 0) := Lib.cell_of_heap hz2 5
              have r6 : W6.cell? ⟨w.heap.size, 6, none⟩ = some (.slice none 0 0) := Lib.cell_of_heap hz2 6
              have zf := Lib.frozen_of_heap hz2
              have HE : Hid (EndP _ _ _ _ _ _ _ _ _ _ _ _ _) := kids_end HPL.out.1 (Nat.le_refl _) hBn hPBE
              unfold st7 at HE
              simp only [show (cx true).k = 5 from rfl] at HE
              clear hbt hz2 hBn hPBE HBN6 HPB6
              go_wp2_with fail
              clear b0 b1 b2 b3 b4 b5 b6 r0 r1 r2 r3 r4 r5 r6 zf
              generalize (((((((W6.setCell ⟨w.heap.size, 0, none⟩ (.int .i64 5)).setCell ⟨w.heap.size, 1, none⟩ (.int .i64 0)).setCell ⟨w.heap.size, 2, none⟩ (.string ⟨#[]⟩)).setCell ⟨w.heap.size, 3, none⟩ (.int .i64 0)).setCell ⟨w.heap.size, 4, none⟩ (.int .i64 0)).setCell ⟨w.heap.size, 5, none⟩ (.slice ka2 kn2 ck)).setCell ⟨w.heap.size, 6, none⟩ (.slice (some ⟨g5, 0, none⟩) (tn + 1) c5)) = W7 at *
              have h7 := HE.out.1
              have q0 : W7.cell? ⟨w.heap.size, 0, none⟩ = some (.int .i64 5) := Lib.cell_of_heap h7 0
              have q1 : W7.cell? ⟨w.heap.size, 1, none⟩ = some (.int .i64 0) := Lib.cell_of_heap h7 1
              have q2 : W7.cell? ⟨w.heap.size, 2, none⟩ = some (.string ⟨#[]⟩) := Lib.cell_of_heap h7 2
              have q3 : W7.cell? ⟨w.heap.size, 3, none⟩ = some (.int .i64 0) := Lib.cell_of_heap h7 3
              have q4 : W7.cell? ⟨w.heap.size, 4, none⟩ = some (.int .i64 0) := Lib.cell_of_heap h7 4
              have q5 : W7.cell? ⟨w.heap.size, 5, none⟩ = some (.slice ka2 kn2 ck) := Lib.cell_of_heap h7 5
              have q6 : W7.cell? ⟨w.heap.size, 6, none⟩ = some (.slice (some ⟨g5, 0, none⟩) (tn + 1) c5) := Lib.cell_of_heap h7 6
              exact bodyPost_ret (v := tval (cx true, .slice ka2 kn2 ck, .slice (some ⟨g5, 0, none⟩) (tn + 1) c5)) (by simp [tval, cx, results, Tryz.results14, go_sem, q0, q1, q2, q3, q4, q5, q6]) rfl (HEND.out W7 HE.out)
            have hsl := slU_of hI
            have hBm2 := HBM.out.move HPL.out.1 hrk2
            clear hrk2
            have HFEW : Hid (m + T.size ≤ 400 ∧ k < k' ∧ k' ≤ s.size ∧ x.2.length + 1 ≤ 400) := ⟨hfew, by omega, hle, by have h8 := HNUM.out; have h9 := len_sizes (x.2 ++ [T]); rw [sizes_append] at h9; simp [sizes] at h9; omega⟩
            have HTOT2 : Hid (rdFrom (rdT n s) true s ⟨#[c1 true]⟩ (s.size + 1) true ([], []) k0 m0 = rdFrom (rdT n s) true s ⟨#[c1 true]⟩ f false (x.1 ++ [key], x.2 ++ [T]) k' (m + T.size)) := by
              show _ = _
              rw [HTOT.out, th_ok (key_one HKY.out.2.1 HKY.out.2.2.1 HKY.out.2.2.2 hok), HKY.out.1]
              rfl
            clear hok hfew hlt hle
            obtain ⟨yk, yn, yt, yo, ya, a1, n1, d1, a2, n2, d2, rfl⟩ := slU_parts hsl
            unfold tval
            dsimp only
            have b3 : Below w2.heap.size w2 (w2.alloc (.cells #[.int .i64 yk, .int .i64 yn, .string yt, .int .i64 yo, .int .i64 ya, .slice a1 n1 d1, .slice a2 n2 d2] 29)) := (Below.refl _ _).alloc (Nat.le_refl _) _
            have hx3 : (w2.alloc (.cells #[.int .i64 yk, .int .i64 yn, .string yt, .int .i64 yo, .int .i64 ya, .slice a1 n1 d1, .slice a2 n2 d2] 29)).heap[w2.heap.size]? = some (.cells #[.int .i64 yk, .int .i64 yn, .string yt, .int .i64 yo, .int .i64 ya, .slice a1 n1 d1, .slice a2 n2 d2] 29) := one_new w2 _
            have hz3 : (w2.alloc (.cells #[.int .i64 yk, .int .i64 yn, .string yt, .int .i64 yo, .int .i64 ya, .slice a1 n1 d1, .slice a2 n2 d2] 29)).heap.size = w2.heap.size + 1 := sz_new _ _
            have hBm3 := hBm2.move HPL.out.1 (Rk.of b3)
            have hPB3 := hpb2.below b3
            have hI3 := hI.move b3.size (fun b _ h2 => b3.block b h2) (fun _ h => h)
            clear hI
            clear hBm2 hpb2
            have ct3 := hBm3.n.ht
            unfold cx at ct3
            simp only [if_true] at ct3
            go_upto_region 19 with fail
            obtain ⟨xb, hxb⟩ : ∃ xb, w2.heap.size = xb := ⟨_, rfl⟩
            rw [hxb] at hx3 hz3 ⊢
            generalize (w2.alloc (.cells #[.int .i64 yk, .int .i64 yn, .string yt, .int .i64 yo, .int .i64 ya, .slice a1 n1 d1, .slice a2 n2 d2] 29)) = W3 at *
            have HXB : Hid (Below xb w2 W3) := by rw [← hxb]; exact b3
            clear b3
            have x0 : W3.cell? ⟨xb, 0, none⟩ = some (.int .i64 yk) := Lib.cell_of_heap hx3 0
            have x1 : W3.cell? ⟨xb, 1, none⟩ = some (.int .i64 yn) := Lib.cell_of_heap hx3 1
            have x2 : W3.cell? ⟨xb, 2, none⟩ = some (.string yt) := Lib.cell_of_heap hx3 2
            have x3 : W3.cell? ⟨xb, 3, none⟩ = some (.int .i64 yo) := Lib.cell_of_heap hx3 3
            have x4 : W3.cell? ⟨xb, 4, none⟩ = some (.int .i64 ya) := Lib.cell_of_heap hx3 4
            have x5 : W3.cell? ⟨xb, 5, none⟩ = some (.slice a1 n1 d1) := Lib.cell_of_heap hx3 5
            have x6 : W3.cell? ⟨xb, 6, none⟩ = some (.slice a2 n2 d2) := Lib.cell_of_heap hx3 6
            have ckd : W3.cell? ⟨w.heap.size + 1, 6, none⟩ = some (.slice ta tn tc) := Lib.cell_of_heap ct3 6
            have b4 : Below W3.heap.size W3 (W3.alloc (.cells #[.int .i64 yk, .int .i64 yn, .string yt, .int .i64 yo, .int .i64 ya, .slice a1 n1 d1, .slice a2 n2 d2] 29)) := (Below.refl _ _).alloc (Nat.le_refl _) _
            have hx4 : (W3.alloc (.cells #[.int .i64 yk, .int .i64 yn, .string yt, .int .i64 yo, .int .i64 ya, .slice a1 n1 d1, .slice a2 n2 d2] 29)).heap[W3.heap.size]? = some (.cells #[.int .i64 yk, .int .i64 yn, .string yt, .int .i64 yo, .int .i64 ya, .slice a1 n1 d1, .slice a2 n2 d2] 29) := one_new W3 _
            have hBm4 := hBm3.move HPL.out.1 (Rk.of b4)
            have hPB4 := hPB3.below b4
            have hI4 := hI3.move b4.size (fun b _ h2 => b4.block b h2) (fun _ h => h)
            clear hI3
            have hl4 := hBm4.lens
            obtain ⟨g5, c5, W5, hrun, hown, hgr, hat⟩ := appU 27 (W3.alloc (.cells #[.int .i64 yk, .int .i64 yn, .string yt, .int .i64 yo, .int .i64 ya, .slice a1 n1 d1, .slice a2 n2 d2] 29)) (w.heap.size + 2) hBm4.bz (.slice ta tn tc) us hBm4.ts W3.heap.size (⟨yk, yn, yt, yo, ya⟩, .slice a1 n1 d1, .slice a2 n2 d2) hx4 hsl (by omega)
            have hW5 : Below (w.heap.size + 2) (W3.alloc (.cells #[.int .i64 yk, .int .i64 yn, .string yt, .int .i64 yo, .int .i64 ya, .slice a1 n1 d1, .slice a2 n2 d2] 29)) W5 := grown_belowJ hgr hBm4.ts hBm4.bz
            have htn := HTN.out
            rw [htn] at hrun hown
            have ht5 := (hW5.block (w.heap.size + 1) (by omega)).trans hBm4.n.ht
            unfold cx at ht5
            simp only [if_true] at ht5
            have f6 : W5.cell? ⟨w.heap.size + 1, 6, none⟩ = some (.slice ta tn tc) := Lib.cell_of_heap ht5 6
            have ff := Lib.frozen_of_heap ht5
            have hPB6 : PB (W5.setCell ⟨w.heap.size + 1, 6, none⟩ (.slice (some ⟨g5, 0, none⟩) (tn + 1) c5)) p s k' (m + T.size) 0 0 := hPB4.keepB HPL.out.1 hW5
            have hBm6 := hBm4.addT (u := (⟨yk, yn, yt, yo, ya⟩, .slice a1 n1 d1, .slice a2 n2 d2)) (T := T) (N := w7k.heap.size) HPL.out.1 (by rw [htn]; exact hown) hgr hat hI4 ⟨HWZ.out.1, fun b hb => HWZ.out.2.1 b hb, fun b hb => HWZ.out.2.2 b hb⟩ HFEW.out.2.2.2
            rw [htn] at hBm6
            have HBM6 : Hid (Bm true p (w.heap.size + 1) w.heap.size (w.heap.size + 2) w (xk, x.2 ++ [T]) (.slice ka2 kn2 ck) (.slice (some ⟨g5, 0, none⟩) (tn + 1) c5) (us ++ [(⟨yk, yn, yt, yo, ya⟩, .slice a1 n1 d1, .slice a2 n2 d2)]) (W5.setCell ⟨w.heap.size + 1, 6, none⟩ (.slice (some ⟨g5, 0, none⟩) (tn + 1) c5))) := hBm6
            clear hBm6 hI4
            have HPB6 : Hid (PB (W5.setCell ⟨w.heap.size + 1, 6, none⟩ (.slice (some ⟨g5, 0, none⟩) (tn + 1) c5)) p s k' (m + T.size) 0 0) := hPB6
            clear hPB6 hBm4 hPB4 hBm3 hPB3 hown hgr hat hW5 ht5 hx4 b4 ct3 hx3 hz3 hl4 htn
            go_upto_region 20 with (first | (at_builtin; refine wp_append rfl _ _ 27 rfl _ _ _ _ rfl rfl hrun ?_))
            clear x0 x1 x2 x3 x4 x5 x6 ckd f6 ff hrun
            generalize W5.setCell ⟨w.heap.size + 1, 6, none⟩ (.slice (some ⟨g5, 0, none⟩) (tn + 1) c5) = W6 at *
            have p4 : W6.cell? ⟨p, 4, none⟩ = some (.int .i64 0) := Lib.cell_of_heap HPB6.out 4
            have EC := isH_any p s k' (m + T.size) 0 0 ⟨#[44]⟩ W6 HPB6.out HFEW.out.2.2.1 HS.out (by decide)
            obtain ⟨pc, hpc⟩ : ∃ pc, preB s k' ⟨#[44]⟩ = pc := ⟨_, rfl⟩
            rw [hpc] at EC
            go_wp2_with fail
            go_fit EC
            rintro e w7 ⟨rfl, hpb7, hrk7⟩
            clear EC p4
            have hBm7 := HBM6.out.move HPL.out.1 hrk7
            clear hrk7
            obtain ⟨f1, rfl⟩ : ∃ f1, f = f1 + 1 := ⟨f - 1, by have h8 := HFEW.out; have h9 := HNUM.out; omega⟩
            cases pc with
            | true =>
              have hrm := pre_room hpc rfl
              simp only [if_true] at hpb7
              have HROUND : Hid (KI n true p s k0 m0 w w7) := by
                have h8 := HFEW.out
                have h9 := HNUM.out
                refine ⟨(xk, x.2 ++ [T]), k' + 1, m + T.size, f1, _, _, _, hBm7, hpb7, by omega, hrm, h8.1, ?_, by omega, ?_, ?_⟩
                · rw [sizes_append, h9.2.1]
                  simp [sizes]
                  omega
                · intro _; have h10 := HNUM.out.2.2.2; have h11 := HXK.out; simp [h11, h10]
                · rw [HTOT2.out, ← HXK.out]
                  exact from_com (com_not hpc) hpc
              have HMEAS : Hid (s.size + 1 - posOf w7 p < s.size + 1 - posOf wr p) := by
                have h8 := HFEW.out
                show _ < _
                rw [hpb7.pos, HPB.out.pos]
                omega
              clear hBm7 hpb7 hrm hpc HBM6 HPB6
              go_wp2
              go_roundw
              case rel => exact HROUND.out
              case measure => exact HMEAS.out
            | false =>
              simp only [Bool.false_eq_true, if_false] at hpb7
              have EE := isH_any p s k' (m + T.size) 0 0 ⟨#[125]⟩ w7 hpb7 HFEW.out.2.2.1 HS.out (by decide)
              obtain ⟨pe, hpe⟩ : ∃ pe, preB s k' ⟨#[125]⟩ = pe := ⟨_, rfl⟩
              rw [hpe] at EE
              clear hpb7 HBM6 HPB6
              go_wp2_with fail
              go_fit EE
              rintro e w8 ⟨rfl, hpb8, hrk8⟩
              clear EE
              have hBm8 := hBm7.move HPL.out.1 hrk8
              clear hrk8 hBm7
              cases pe with
              | true =>
                simp only [if_true] at hpb8
                have hrm := pre_room hpe rfl
                have hBn := hBm8.n
                have hPBE := hpb8
                have HTR : Hid (IsTP (fun b => w.heap.size + 2 ≤ b) w8 (tval (cx true, .slice ka2 kn2 ck, .slice (some ⟨g5, 0, none⟩) (tn + 1) c5)) (.node (cx true) (xk) (x.2 ++ [T]))) := hBm8.tree
                have HRM : Hid (k' + 1 ≤ s.size) := hrm
                have HEND : Hid (∀ W7, EndP true p w.heap.size w w8 s (k' + 1) (m + T.size) 0 0 (.slice ka2 kn2 ck) (.slice (some ⟨g5, 0, none⟩) (tn + 1) c5) W7 → post (.returned (tval (cx true, .slice ka2 kn2 ck, .slice (some ⟨g5, 0, none⟩) (tn + 1) c5))) W7) := by
                  intro W7 hE
                  rw [HPO.out]
                  have h8 := HFEW.out
                  have h9 := HNUM.out
                  refine Or.inl ⟨(x.1 ++ [key], x.2 ++ [T]), k' + 1, m + T.size, _, ?_, ?_, h8.1, by omega, HRM.out, rfl, ?_, hE.2.1, hE.2.2.1⟩
                  · rw [HTOT2.out]
                    exact from_end hpe
                  · rw [sizes_append, h9.2.1]
                    simp [sizes]
                    omega
                  · have h12 := HTR.out
                    rw [HXK.out] at h12
                    exact (hE.2.2.2 _ _ _ h12 (fun b hb => by omega)).move (Nat.le_refl _) (fun _ _ _ => rfl) (fun b hb => by omega)
                have hbt := hBn.ht
                unfold cx at hbt
                simp only [if_true] at hbt
                have hz2 := hBn.hr
                unfold zO at hz2
                have b0 : w8.cell? ⟨w.heap.size + 1, 0, none⟩ = some (.int .i64 5) := Lib.cell_of_heap hbt 0
                have b1 : w8.cell? ⟨w.heap.size + 1, 1, none⟩ = some (.int .i64 0) := Lib.cell_of_heap hbt 1
                have b2 : w8.cell? ⟨w.heap.size + 1, 2, none⟩ = some (.string ⟨#[]⟩) := Lib.cell_of_heap hbt 2
                have b3 : w8.cell? ⟨w.heap.size + 1, 3, none⟩ = some (.int .i64 0) := Lib.cell_of_heap hbt 3
                have b4 : w8.cell? ⟨w.heap.size + 1, 4, none⟩ = some (.int .i64 0) := Lib.cell_of_heap hbt 4
                have b5 : w8.cell? ⟨w.heap.size + 1, 5, none⟩ = some (.slice ka2 kn2 ck) := Lib.cell_of_heap hbt 5
                have b6 : w8.cell? ⟨w.heap.size + 1, 6, none⟩ = some (.slice (some ⟨g5, 0, none⟩) (tn + 1) c5) := Lib.cell_of_heap hbt 6
                have r0 : w8.cell? ⟨w.heap.size, 0, none⟩ = some (.int .i64 0) := Lib.cell_of_heap hz2 0
                have r1 : w8.cell? ⟨w.heap.size, 1, none⟩ = some (.int .i64 0) := Lib.cell_of_heap hz2 1
                have r2 : w8.cell? ⟨w.heap.size, 2, none⟩ = some (.string ⟨#[]⟩) := Lib.cell_of_heap hz2 2
                have r3 : w8.cell? ⟨w.heap.size, 3, none⟩ = some (.int .i64 0) := Lib.cell_of_heap hz2 3
                have r4 : w8.cell? ⟨w.heap.size, 4, none⟩ = some (.int .i64 0) := Lib.cell_of_heap hz2 4
                have r5 : w8.cell? ⟨w.heap.size, 5, none⟩ = some (.slice none 0 0) := Lib.cell_of_heap hz2 5
                have r6 : w8.cell? ⟨w.heap.size, 6, none⟩ = some (.slice none 0 0) := Lib.cell_of_heap hz2 6
                have zf := Lib.frozen_of_heap hz2
                have HE : Hid (EndP _ _ _ _ _ _ _ _ _ _ _ _ _) := kids_end HPL.out.1 (Nat.le_refl _) hBn hPBE
                unfold st7 at HE
                simp only [show (cx true).k = 5 from rfl] at HE
                clear hbt hz2 hBn hPBE hBm8 hpb8 hrm hpe HTR
                go_wp2_with fail
                clear b0 b1 b2 b3 b4 b5 b6 r0 r1 r2 r3 r4 r5 r6 zf
                generalize (((((((w8.setCell ⟨w.heap.size, 0, none⟩ (.int .i64 5)).setCell ⟨w.heap.size, 1, none⟩ (.int .i64 0)).setCell ⟨w.heap.size, 2, none⟩ (.string ⟨#[]⟩)).setCell ⟨w.heap.size, 3, none⟩ (.int .i64 0)).setCell ⟨w.heap.size, 4, none⟩ (.int .i64 0)).setCell ⟨w.heap.size, 5, none⟩ (.slice ka2 kn2 ck)).setCell ⟨w.heap.size, 6, none⟩ (.slice (some ⟨g5, 0, none⟩) (tn + 1) c5)) = W7 at *
                have h7 := HE.out.1
                have q0 : W7.cell? ⟨w.heap.size, 0, none⟩ = some (.int .i64 5) := Lib.cell_of_heap h7 0
                have q1 : W7.cell? ⟨w.heap.size, 1, none⟩ = some (.int .i64 0) := Lib.cell_of_heap h7 1
                have q2 : W7.cell? ⟨w.heap.size, 2, none⟩ = some (.string ⟨#[]⟩) := Lib.cell_of_heap h7 2
                have q3 : W7.cell? ⟨w.heap.size, 3, none⟩ = some (.int .i64 0) := Lib.cell_of_heap h7 3
                have q4 : W7.cell? ⟨w.heap.size, 4, none⟩ = some (.int .i64 0) := Lib.cell_of_heap h7 4
                have q5 : W7.cell? ⟨w.heap.size, 5, none⟩ = some (.slice ka2 kn2 ck) := Lib.cell_of_heap h7 5
                have q6 : W7.cell? ⟨w.heap.size, 6, none⟩ = some (.slice (some ⟨g5, 0, none⟩) (tn + 1) c5) := Lib.cell_of_heap h7 6
                exact bodyPost_ret (v := tval (cx true, .slice ka2 kn2 ck, .slice (some ⟨g5, 0, none⟩) (tn + 1) c5)) (by simp [tval, cx, results, Tryz.results14, go_sem, q0, q1, q2, q3, q4, q5, q6]) rfl (HEND.out W7 HE.out)
              | false =>
                simp only [Bool.false_eq_true, if_false] at hpb8
                have EF := failH_any p s k' (m + T.size) 0 k' 0 2 w8 hpb8
                simp only [if_true] at EF
                have p1 : w8.cell? ⟨p, 1, none⟩ = some (.int .i64 (k' : Int)) := Lib.cell_of_heap hpb8 1
                clear hpb8
                go_wp2_with fail
                go_fit EF
                rintro e w9 ⟨rfl, hpb9, hrk9⟩
                clear EF p1
                have hBn := hBm8.n.move HPL.out.1 hBm8.bz hrk9
                have hPBE := hpb9
                have HNO : Hid (rdFrom (rdT n s) true s ⟨#[c1 true]⟩ (s.size + 1) true ([], []) k0 m0 = .error (k', 2)) := by
                  show _ = _
                  rw [HTOT2.out]
                  exact from_no hpe hpc
                have HEND : Hid (∀ W7, EndP true p w.heap.size w w9 s k' (m + T.size) k' 2 (.slice ka2 kn2 ck) (.slice (some ⟨g5, 0, none⟩) (tn + 1) c5) W7 → post (.returned (tval (cx true, .slice ka2 kn2 ck, .slice (some ⟨g5, 0, none⟩) (tn + 1) c5))) W7) := by
                  intro W7 hE
                  rw [HPO.out]
                  exact Or.inr ⟨_, k', m + T.size, k', 2, rfl, ⟨⟨_, _, _, rfl⟩, _, _, _, rfl⟩, HNO.out, by decide, hE.2.1, hE.2.2.1⟩
                have hbt := hBn.ht
                unfold cx at hbt
                simp only [if_true] at hbt
                have hz2 := hBn.hr
                unfold zO at hz2
                have b0 : w9.cell? ⟨w.heap.size + 1, 0, none⟩ = some (.int .i64 5) := Lib.cell_of_heap hbt 0
                have b1 : w9.cell? ⟨w.heap.size + 1, 1, none⟩ = some (.int .i64 0) := Lib.cell_of_heap hbt 1
                have b2 : w9.cell? ⟨w.heap.size + 1, 2, none⟩ = some (.string ⟨#[]⟩) := Lib.cell_of_heap hbt 2
                have b3 : w9.cell? ⟨w.heap.size + 1, 3, none⟩ = some (.int .i64 0) := Lib.cell_of_heap hbt 3
                have b4 : w9.cell? ⟨w.heap.size + 1, 4, none⟩ = some (.int .i64 0) := Lib.cell_of_heap hbt 4
                have b5 : w9.cell? ⟨w.heap.size + 1, 5, none⟩ = some (.slice ka2 kn2 ck) := Lib.cell_of_heap hbt 5
                have b6 : w9.cell? ⟨w.heap.size + 1, 6, none⟩ = some (.slice (some ⟨g5, 0, none⟩) (tn + 1) c5) := Lib.cell_of_heap hbt 6
                have r0 : w9.cell? ⟨w.heap.size, 0, none⟩ = some (.int .i64 0) := Lib.cell_of_heap hz2 0
                have r1 : w9.cell? ⟨w.heap.size, 1, none⟩ = some (.int .i64 0) := Lib.cell_of_heap hz2 1
                have r2 : w9.cell? ⟨w.heap.size, 2, none⟩ = some (.string ⟨#[]⟩) := Lib.cell_of_heap hz2 2
                have r3 : w9.cell? ⟨w.heap.size, 3, none⟩ = some (.int .i64 0) := Lib.cell_of_heap hz2 3
                have r4 : w9.cell? ⟨w.heap.size, 4, none⟩ = some (.int .i64 0) := Lib.cell_of_heap hz2 4
                have r5 : w9.cell? ⟨w.heap.size, 5, none⟩ = some (.slice none 0 0) := Lib.cell_of_heap hz2 5
                have r6 : w9.cell? ⟨w.heap.size, 6, none⟩ = some (.slice none 0 0) := Lib.cell_of_heap hz2 6
                have zf := Lib.frozen_of_heap hz2
                have HE : Hid (EndP _ _ _ _ _ _ _ _ _ _ _ _ _) := kids_end HPL.out.1 (Nat.le_refl _) hBn hPBE
                unfold st7 at HE
                simp only [show (cx true).k = 5 from rfl] at HE
                clear hbt hz2 hBn hPBE hBm8 hpb9 hrk9 hpe hpc
                go_wp2_with fail
                clear b0 b1 b2 b3 b4 b5 b6 r0 r1 r2 r3 r4 r5 r6 zf
                generalize (((((((w9.setCell ⟨w.heap.size, 0, none⟩ (.int .i64 5)).setCell ⟨w.heap.size, 1, none⟩ (.int .i64 0)).setCell ⟨w.heap.size, 2, none⟩ (.string ⟨#[]⟩)).setCell ⟨w.heap.size, 3, none⟩ (.int .i64 0)).setCell ⟨w.heap.size, 4, none⟩ (.int .i64 0)).setCell ⟨w.heap.size, 5, none⟩ (.slice ka2 kn2 ck)).setCell ⟨w.heap.size, 6, none⟩ (.slice (some ⟨g5, 0, none⟩) (tn + 1) c5)) = W7 at *
                have h7 := HE.out.1
                have q0 : W7.cell? ⟨w.heap.size, 0, none⟩ = some (.int .i64 5) := Lib.cell_of_heap h7 0
                have q1 : W7.cell? ⟨w.heap.size, 1, none⟩ = some (.int .i64 0) := Lib.cell_of_heap h7 1
                have q2 : W7.cell? ⟨w.heap.size, 2, none⟩ = some (.string ⟨#[]⟩) := Lib.cell_of_heap h7 2
                have q3 : W7.cell? ⟨w.heap.size, 3, none⟩ = some (.int .i64 0) := Lib.cell_of_heap h7 3
                have q4 : W7.cell? ⟨w.heap.size, 4, none⟩ = some (.int .i64 0) := Lib.cell_of_heap h7 4
                have q5 : W7.cell? ⟨w.heap.size, 5, none⟩ = some (.slice ka2 kn2 ck) := Lib.cell_of_heap h7 5
                have q6 : W7.cell? ⟨w.heap.size, 6, none⟩ = some (.slice (some ⟨g5, 0, none⟩) (tn + 1) c5) := Lib.cell_of_heap h7 6
                exact bodyPost_ret (v := tval (cx true, .slice ka2 kn2 ck, .slice (some ⟨g5, 0, none⟩) (tn + 1) c5)) (by simp [tval, cx, results, Tryz.results14, go_sem, q0, q1, q2, q3, q4, q5, q6]) rfl (HEND.out W7 HE.out)
          | false =>
            simp only [Bool.false_eq_true, if_false] at hpb7
            have EF := failH_any p s (k + n5) m 0 (k + n5) 0 2 w7k hpb7
            simp only [if_true] at EF
            have p1 : w7k.cell? ⟨p, 1, none⟩ = some (.int .i64 ((k + n5 : Nat) : Int)) := Lib.cell_of_heap hpb7 1
            clear hpb7
            obtain ⟨k3i, hk3i⟩ : ∃ k3i : Int, ((k + n5 : Nat) : Int) = k3i := ⟨_, rfl⟩
            rw [hk3i] at EF p1
            clear hk3i
            go_wp2_with fail
            go_fit EF
            rintro e w9 ⟨rfl, hpb9, hrk9⟩
            clear EF p1
            have hBn := hBm7.n.move HPL.out.1 hBm7.bz hrk9
            have hPBE := hpb9
            have p4 : w9.cell? ⟨p, 4, none⟩ = some (.int .i64 2) := Lib.cell_of_heap hpb9 4
            have HNO : Hid (rdFrom (rdT n s) true s ⟨#[c1 true]⟩ (s.size + 1) true ([], []) k0 m0 = .error (k + n5, 2)) := by
              show _ = _
              rw [HTOT.out]
              exact th_bad (no_sign HQ5.out.1 HKQ.out.2 hpc)
            have HEND : Hid (∀ W7, EndP true p w.heap.size w w9 s (k + n5) m (k + n5) 2 (.slice ka2 kn2 ck) (.slice ta tn tc) W7 → post (.returned (tval (cx true, .slice ka2 kn2 ck, .slice ta tn tc))) W7) := by
              intro W7 hE
              rw [HPO.out]
              exact Or.inr ⟨_, _, m, (k + n5), 2, rfl, ⟨⟨_, _, _, rfl⟩, _, _, _, rfl⟩, HNO.out, by decide, hE.2.1, hE.2.2.1⟩
            have hbt := hBn.ht
            unfold cx at hbt
            simp only [if_true] at hbt
            have hz2 := hBn.hr
            unfold zO at hz2
            have b0 : w9.cell? ⟨w.heap.size + 1, 0, none⟩ = some (.int .i64 5) := Lib.cell_of_heap hbt 0
            have b1 : w9.cell? ⟨w.heap.size + 1, 1, none⟩ = some (.int .i64 0) := Lib.cell_of_heap hbt 1
            have b2 : w9.cell? ⟨w.heap.size + 1, 2, none⟩ = some (.string ⟨#[]⟩) := Lib.cell_of_heap hbt 2
            have b3 : w9.cell? ⟨w.heap.size + 1, 3, none⟩ = some (.int .i64 0) := Lib.cell_of_heap hbt 3
            have b4 : w9.cell? ⟨w.heap.size + 1, 4, none⟩ = some (.int .i64 0) := Lib.cell_of_heap hbt 4
            have b5 : w9.cell? ⟨w.heap.size + 1, 5, none⟩ = some (.slice ka2 kn2 ck) := Lib.cell_of_heap hbt 5
            have b6 : w9.cell? ⟨w.heap.size + 1, 6, none⟩ = some (.slice ta tn tc) := Lib.cell_of_heap hbt 6
            have r0 : w9.cell? ⟨w.heap.size, 0, none⟩ = some (.int .i64 0) := Lib.cell_of_heap hz2 0
            have r1 : w9.cell? ⟨w.heap.size, 1, none⟩ = some (.int .i64 0) := Lib.cell_of_heap hz2 1
            have r2 : w9.cell? ⟨w.heap.size, 2, none⟩ = some (.string ⟨#[]⟩) := Lib.cell_of_heap hz2 2
            have r3 : w9.cell? ⟨w.heap.size, 3, none⟩ = some (.int .i64 0) := Lib.cell_of_heap hz2 3
            have r4 : w9.cell? ⟨w.heap.size, 4, none⟩ = some (.int .i64 0) := Lib.cell_of_heap hz2 4
            have r5 : w9.cell? ⟨w.heap.size, 5, none⟩ = some (.slice none 0 0) := Lib.cell_of_heap hz2 5
            have r6 : w9.cell? ⟨w.heap.size, 6, none⟩ = some (.slice none 0 0) := Lib.cell_of_heap hz2 6
            have zf := Lib.frozen_of_heap hz2
            have HE : Hid (EndP _ _ _ _ _ _ _ _ _ _ _ _ _) := kids_end HPL.out.1 (Nat.le_refl _) hBn hPBE
            unfold st7 at HE
            simp only [show (cx true).k = 5 from rfl] at HE
            clear hbt hz2 hBn hPBE hBm7 hpb9 hrk9 hpc
            go_wp2_with fail
            clear b0 b1 b2 b3 b4 b5 b6 r0 r1 r2 r3 r4 r5 r6 zf
            generalize (((((((w9.setCell ⟨w.heap.size, 0, none⟩ (.int .i64 5)).setCell ⟨w.heap.size, 1, none⟩ (.int .i64 0)).setCell ⟨w.heap.size, 2, none⟩ (.string ⟨#[]⟩)).setCell ⟨w.heap.size, 3, none⟩ (.int .i64 0)).setCell ⟨w.heap.size, 4, none⟩ (.int .i64 0)).setCell ⟨w.heap.size, 5, none⟩ (.slice ka2 kn2 ck)).setCell ⟨w.heap.size, 6, none⟩ (.slice ta tn tc)) = W7 at *
            have h7 := HE.out.1
            have q0 : W7.cell? ⟨w.heap.size, 0, none⟩ = some (.int .i64 5) := Lib.cell_of_heap h7 0
            have q1 : W7.cell? ⟨w.heap.size, 1, none⟩ = some (.int .i64 0) := Lib.cell_of_heap h7 1
            have q2 : W7.cell? ⟨w.heap.size, 2, none⟩ = some (.string ⟨#[]⟩) := Lib.cell_of_heap h7 2
            have q3 : W7.cell? ⟨w.heap.size, 3, none⟩ = some (.int .i64 0) := Lib.cell_of_heap h7 3
            have q4 : W7.cell? ⟨w.heap.size, 4, none⟩ = some (.int .i64 0) := Lib.cell_of_heap h7 4
            have q5 : W7.cell? ⟨w.heap.size, 5, none⟩ = some (.slice ka2 kn2 ck) := Lib.cell_of_heap h7 5
            have q6 : W7.cell? ⟨w.heap.size, 6, none⟩ = some (.slice ta tn tc) := Lib.cell_of_heap h7 6
            exact bodyPost_ret (v := tval (cx true, .slice ka2 kn2 ck, .slice ta tn tc)) (by simp [tval, cx, results, Tryz.results14, go_sem, q0, q1, q2, q3, q4, q5, q6]) rfl (HEND.out W7 HE.out)
        · obtain ⟨kb, ko, y, rfl, c9, hlast⟩ := hBm1.last HKN.out (by omega)
          obtain ⟨l0, hl0⟩ : ∃ l0, kn - 1 = l0 := ⟨_, rfl⟩
          rw [hl0] at c9
          have g1 : (0 : Int) < kn := by omega
          have hw1 : wrap64 ((kn : Int) - 1) = (l0 : Int) := by have h8 := HKN.out; have h9 := hBm1.lens; unfold wrap64; omega
          have g2 : (l0 : Int) < kn := by omega
          clear hl0 hz
          by_cases hlt : y.toList < t
          · have HKQ : Hid (key = ⟨t.toArray⟩ ∧ keyOk x.1 t) := ⟨hkey, h0, fun z hz => by
              rw [hlast] at hz
              obtain rfl := Option.some.inj hz
              exact hlt⟩
            have e1 : Op.bytesLess y.toList key.toList = true := by rw [bytesLess_eq, hkt]; exact decide_eq_true hlt
            clear h0 hkt hkey hlast hlt
            go_upto_region 12 with fail
            clear p4 g1 g2 hbe hw1 e1 c9
            have b3 : Below w1.heap.size w1 (w1.alloc (.cells #[.string key] 9)) := (Below.refl _ _).alloc (Nat.le_refl _) _
            have hx3 : (w1.alloc (.cells #[.string key] 9)).heap[w1.heap.size]? = some (.cells #[.string key] 9) := one_new w1 _
            have hBm3 := hBm1.move HPL.out.1 (Rk.of b3)
            have hPB3 := hpb1.below b3
            clear hBm1 hpb1
            have hl4 := hBm3.lens
            obtain ⟨gk, ck, W5, hrun, hown, hgr, hat⟩ := appK 26 (w1.alloc (.cells #[.string key] 9)) (w.heap.size + 2) hBm3.bz (.slice (some ⟨kb, ko, none⟩) kn kc) x.1 hBm3.ks w1.heap.size key hx3 (by omega)
            have hW5 : Below (w.heap.size + 2) (w1.alloc (.cells #[.string key] 9)) W5 := grown_belowJ hgr hBm3.ks hBm3.bz
            have hkn := HKN.out
            rw [hkn] at hrun hown
            have ht5 := (hW5.block (w.heap.size + 1) (by omega)).trans hBm3.n.ht
            unfold cx at ht5
            simp only [if_true] at ht5
            have f5 : W5.cell? ⟨w.heap.size + 1, 5, none⟩ = some (.slice (some ⟨kb, ko, none⟩) kn kc) := Lib.cell_of_heap ht5 5
            have ff := Lib.frozen_of_heap ht5
            have hPB6 : PB (W5.setCell ⟨w.heap.size + 1, 5, none⟩ (.slice (some ⟨gk, 0, none⟩) (kn + 1) ck)) p s (k + n5) m 0 0 := hPB3.keepB HPL.out.1 hW5
            have hBm6 := hBm3.addK (key := key) HPL.out.1 (by have := HNUM.out.2.2.2; omega) (by rw [hkn]; exact hown) hgr hat
            rw [hkn] at hBm6
            have HM6 : Hid (Bm true p (w.heap.size + 1) w.heap.size (w.heap.size + 2) w (x.1 ++ [key], x.2) (.slice (some ⟨gk, 0, none⟩) (kn + 1) ck) (.slice ta tn tc) us (W5.setCell ⟨w.heap.size + 1, 5, none⟩ (.slice (some ⟨gk, 0, none⟩) (kn + 1) ck)) ∧ PB (W5.setCell ⟨w.heap.size + 1, 5, none⟩ (.slice (some ⟨gk, 0, none⟩) (kn + 1) ck)) p s (k + n5) m 0 0) := ⟨hBm6, hPB6⟩
            clear hBm6 hPB6 hBm3 hPB3 hown hgr hat hW5 ht5 hx3 b3 hl4 hkn
            go_upto_region 13 with (first | (at_builtin; refine wp_append rfl _ _ 26 rfl _ _ _ _ rfl rfl hrun ?_))
            clear f5 ff hrun c5
            generalize W5.setCell ⟨w.heap.size + 1, 5, none⟩ (.slice (some ⟨gk, 0, none⟩) (kn + 1) ck) = W6 at *
            obtain ⟨ka2, hka2⟩ : ∃ ka2, some (⟨gk, 0, none⟩ : Addr) = ka2 := ⟨_, rfl⟩
            obtain ⟨kn2, hkn2⟩ : ∃ kn2, kn + 1 = kn2 := ⟨_, rfl⟩
            rw [hka2, hkn2] at HM6
            clear hka2 hkn2
            obtain ⟨hBm6, hPB6⟩ := HM6.out
            clear HM6
            have EC := isH_any p s (k + n5) m 0 0 ⟨#[58]⟩ W6 hPB6 HQ5.out.2 HS.out (by decide)
            clear hPB6
            obtain ⟨pc, hpc⟩ : ∃ pc, preB s (k + n5) ⟨#[58]⟩ = pc := ⟨_, rfl⟩
            rw [hpc] at EC
            go_wp2_with fail
            go_fit EC
            rintro e w7k ⟨rfl, hpb7, hrk7⟩
            clear EC
            have hBm7 := hBm6.move HPL.out.1 hrk7
            clear hrk7 hBm6
            cases pc with
            | true =>
              simp only [if_true] at hpb7
              have hrm := pre_room hpc rfl
              have p4 : w7k.cell? ⟨p, 4, none⟩ = some (.int .i64 0) := Lib.cell_of_heap hpb7 4
              obtain ⟨xk, hxk⟩ : ∃ xk, xk = x.1 ++ [key] := ⟨_, rfl⟩
              rw [← hxk] at hBm7
              have HXK : Hid (xk = x.1 ++ [key]) := hxk
              clear hxk
              have HBM : Hid (Bm true p (w.heap.size + 1) w.heap.size (w.heap.size + 2) w (xk, x.2) (.slice ka2 kn2 ck) (.slice ta tn tc) us w7k) := hBm7
              have HWZ : Hid (w.heap.size + 2 ≤ w7k.heap.size ∧ (∀ b, (Value.slice ka2 kn2 ck).ownBlock = some b → b < w7k.heap.size) ∧ ∀ b, (Value.slice ta tn tc).ownBlock = some b → b < w7k.heap.size) := ⟨hBm7.bz, fun b hb => (ownR_blk hBm7.ks hb).2.1, fun b hb => (ownR_blk hBm7.ts hb).2.1⟩
              have HKY : Hid (key = ⟨t.toArray⟩ ∧ qtd 20 (lft s k) = some (t, n5) ∧ keyOk x.1 t ∧ preB s (k + n5) ⟨#[58]⟩ = true) := ⟨HKQ.out.1, HQ5.out.1, HKQ.out.2, hpc⟩
              have ET := HTC.out (k + n5 + 1) m w7k (by have := HN.out; have := HNUM.out; omega) hpb7 hrm HKM.out.2
              clear hBm7 hpb7 hrm hpc
              go_wp2_with fail
              refine Calls.mono ET ?_
              rintro e w2 hR2
              clear ET p4
              rcases hR2 with ⟨u, T, k', rfl, hI, hok, hfew, hlt, hle, hpb2, hrk2⟩ | ⟨u, k2, m2, kf, fe, rfl, hsl, hno, hfe, hpb2, hrk2⟩
              rotate_left
              · have hBm2 := HBM.out.move HPL.out.1 hrk2
                clear hrk2
                have HNO : Hid (rdFrom (rdT n s) true s ⟨#[c1 true]⟩ (s.size + 1) true ([], []) k0 m0 = .error (kf, fe) ∧ fe ≠ 0) := ⟨by rw [HTOT.out]; exact th_bad (no_tree HKY.out.2.1 HKY.out.2.2.1 HKY.out.2.2.2 hno), hfe⟩
                clear hno hfe
                obtain ⟨yk, yn, yt, yo, ya, a1, n1, d1, a2, n2, d2, rfl⟩ := slU_parts hsl
                unfold tval
                dsimp only
                have b3 : Below w2.heap.size w2 (w2.alloc (.cells #[.int .i64 yk, .int .i64 yn, .string yt, .int .i64 yo, .int .i64 ya, .slice a1 n1 d1, .slice a2 n2 d2] 29)) := (Below.refl _ _).alloc (Nat.le_refl _) _
                have hx3 : (w2.alloc (.cells #[.int .i64 yk, .int .i64 yn, .string yt, .int .i64 yo, .int .i64 ya, .slice a1 n1 d1, .slice a2 n2 d2] 29)).heap[w2.heap.size]? = some (.cells #[.int .i64 yk, .int .i64 yn, .string yt, .int .i64 yo, .int .i64 ya, .slice a1 n1 d1, .slice a2 n2 d2] 29) := one_new w2 _
                have hz3 : (w2.alloc (.cells #[.int .i64 yk, .int .i64 yn, .string yt, .int .i64 yo, .int .i64 ya, .slice a1 n1 d1, .slice a2 n2 d2] 29)).heap.size = w2.heap.size + 1 := sz_new _ _
                have hBm3 := hBm2.move HPL.out.1 (Rk.of b3)
                have hPB3 := hpb2.below b3
                clear hBm2 hpb2
                have ct3 := hBm3.n.ht
                unfold cx at ct3
                simp only [if_true] at ct3
                go_upto_region 19 with fail
                obtain ⟨xb, hxb⟩ : ∃ xb, w2.heap.size = xb := ⟨_, rfl⟩
                rw [hxb] at hx3 hz3 ⊢
                generalize (w2.alloc (.cells #[.int .i64 yk, .int .i64 yn, .string yt, .int .i64 yo, .int .i64 ya, .slice a1 n1 d1, .slice a2 n2 d2] 29)) = W3 at *
                have HXB : Hid (Below xb w2 W3) := by rw [← hxb]; exact b3
                clear b3
                have x0 : W3.cell? ⟨xb, 0, none⟩ = some (.int .i64 yk) := Lib.cell_of_heap hx3 0
                have x1 : W3.cell? ⟨xb, 1, none⟩ = some (.int .i64 yn) := Lib.cell_of_heap hx3 1
                have x2 : W3.cell? ⟨xb, 2, none⟩ = some (.string yt) := Lib.cell_of_heap hx3 2
                have x3 : W3.cell? ⟨xb, 3, none⟩ = some (.int .i64 yo) := Lib.cell_of_heap hx3 3
                have x4 : W3.cell? ⟨xb, 4, none⟩ = some (.int .i64 ya) := Lib.cell_of_heap hx3 4
                have x5 : W3.cell? ⟨xb, 5, none⟩ = some (.slice a1 n1 d1) := Lib.cell_of_heap hx3 5
                have x6 : W3.cell? ⟨xb, 6, none⟩ = some (.slice a2 n2 d2) := Lib.cell_of_heap hx3 6
                have ckd : W3.cell? ⟨w.heap.size + 1, 6, none⟩ = some (.slice ta tn tc) := Lib.cell_of_heap ct3 6
                have b4 : Below W3.heap.size W3 (W3.alloc (.cells #[.int .i64 yk, .int .i64 yn, .string yt, .int .i64 yo, .int .i64 ya, .slice a1 n1 d1, .slice a2 n2 d2] 29)) := (Below.refl _ _).alloc (Nat.le_refl _) _
                have hx4 : (W3.alloc (.cells #[.int .i64 yk, .int .i64 yn, .string yt, .int .i64 yo, .int .i64 ya, .slice a1 n1 d1, .slice a2 n2 d2] 29)).heap[W3.heap.size]? = some (.cells #[.int .i64 yk, .int .i64 yn, .string yt, .int .i64 yo, .int .i64 ya, .slice a1 n1 d1, .slice a2 n2 d2] 29) := one_new W3 _
                have hBm4 := hBm3.move HPL.out.1 (Rk.of b4)
                have hPB4 := hPB3.below b4
                have hl4 := hBm4.lens
                obtain ⟨g5, c5, W5, hrun, hown, hgr, hat⟩ := appU 27 (W3.alloc (.cells #[.int .i64 yk, .int .i64 yn, .string yt, .int .i64 yo, .int .i64 ya, .slice a1 n1 d1, .slice a2 n2 d2] 29)) (w.heap.size + 2) hBm4.bz (.slice ta tn tc) us hBm4.ts W3.heap.size (⟨yk, yn, yt, yo, ya⟩, .slice a1 n1 d1, .slice a2 n2 d2) hx4 hsl (by omega)
                have hW5 : Below (w.heap.size + 2) (W3.alloc (.cells #[.int .i64 yk, .int .i64 yn, .string yt, .int .i64 yo, .int .i64 ya, .slice a1 n1 d1, .slice a2 n2 d2] 29)) W5 := grown_belowJ hgr hBm4.ts hBm4.bz
                have htn := HTN.out
                rw [htn] at hrun hown
                have ht5 := (hW5.block (w.heap.size + 1) (by omega)).trans hBm4.n.ht
                unfold cx at ht5
                simp only [if_true] at ht5
                have f6 : W5.cell? ⟨w.heap.size + 1, 6, none⟩ = some (.slice ta tn tc) := Lib.cell_of_heap ht5 6
                have ff := Lib.frozen_of_heap ht5
                have hPB6 : PB (W5.setCell ⟨w.heap.size + 1, 6, none⟩ (.slice (some ⟨g5, 0, none⟩) (tn + 1) c5)) p s k2 m2 kf fe := hPB4.keepB HPL.out.1 hW5
                have hBn6 : Bn true p (w.heap.size + 1) w.heap.size w (.slice ka2 kn2 ck) (.slice (some ⟨g5, 0, none⟩) (tn + 1) c5) (W5.setCell ⟨w.heap.size + 1, 6, none⟩ (.slice (some ⟨g5, 0, none⟩) (tn + 1) c5)) := hBm4.n.addB HPL.out.1 hBm4.bz hW5
                have HBN6 : Hid (Bn true p (w.heap.size + 1) w.heap.size w (.slice ka2 kn2 ck) (.slice (some ⟨g5, 0, none⟩) (tn + 1) c5) (W5.setCell ⟨w.heap.size + 1, 6, none⟩ (.slice (some ⟨g5, 0, none⟩) (tn + 1) c5))) := hBn6
                clear hBn6
                have HPB6 : Hid (PB (W5.setCell ⟨w.heap.size + 1, 6, none⟩ (.slice (some ⟨g5, 0, none⟩) (tn + 1) c5)) p s k2 m2 kf fe) := hPB6
                clear hPB6 hBm4 hPB4 hBm3 hPB3 hown hgr hat hW5 ht5 hx4 b4 ct3 hx3 hz3 hl4 htn
                go_upto_region 20 with (first | (at_builtin; refine wp_append rfl _ _ 27 rfl _ _ _ _ rfl rfl hrun ?_))
                clear x0 x1 x2 x3 x4 x5 x6 ckd f6 ff hrun
                generalize W5.setCell ⟨w.heap.size + 1, 6, none⟩ (.slice (some ⟨g5, 0, none⟩) (tn + 1) c5) = W6 at *
                have p4 : W6.cell? ⟨p, 4, none⟩ = some (.int .i64 fe) := Lib.cell_of_heap HPB6.out 4
                have hfe9 : (fe != 0) = true := by have := HNO.out.2; simpa using this
                have hBn := HBN6.out
                have hPBE := HPB6.out
                have HEND : Hid (∀ W7, EndP true p w.heap.size w W6 s k2 m2 kf fe (.slice ka2 kn2 ck) (.slice (some ⟨g5, 0, none⟩) (tn + 1) c5) W7 → post (.returned (tval (cx true, .slice ka2 kn2 ck, .slice (some ⟨g5, 0, none⟩) (tn + 1) c5))) W7) := by
                  intro W7 hE
                  rw [HPO.out]
                  exact Or.inr ⟨_, k2, m2, kf, fe, rfl, ⟨⟨_, _, _, rfl⟩, _, _, _, rfl⟩, HNO.out.1, HNO.out.2, hE.2.1, hE.2.2.1⟩
                have hbt := hBn.ht
                unfold cx at hbt
                simp only [if_true] at hbt
                have hz2 := hBn.hr
                unfold zO at hz2
                have b0 : W6.cell? ⟨w.heap.size + 1, 0, none⟩ = some (.int .i64 5) := Lib.cell_of_heap hbt 0
                have b1 : W6.cell? ⟨w.heap.size + 1, 1, none⟩ = some (.int .i64 0) := Lib.cell_of_heap hbt 1
                have b2 : W6.cell? ⟨w.heap.size + 1, 2, none⟩ = some (.string ⟨#[]⟩) := Lib.cell_of_heap hbt 2
                have b3 : W6.cell? ⟨w.heap.size + 1, 3, none⟩ = some (.int .i64 0) := Lib.cell_of_heap hbt 3
                have b4 : W6.cell? ⟨w.heap.size + 1, 4, none⟩ = some (.int .i64 0) := Lib.cell_of_heap hbt 4
                have b5 : W6.cell? ⟨w.heap.size + 1, 5, none⟩ = some (.slice ka2 kn2 ck) := Lib.cell_of_heap hbt 5
                have b6 : W6.cell? ⟨w.heap.size + 1, 6, none⟩ = some (.slice (some ⟨g5, 0, none⟩) (tn + 1) c5) := Lib.cell_of_heap hbt 6
                have r0 : W6.cell? ⟨w.heap.size, 0, none⟩ = some (.int .i64 0) := Lib.cell_of_heap hz2 0
                have r1 : W6.cell? ⟨w.heap.size, 1, none⟩ = some (.int .i64 0) := Lib.cell_of_heap hz2 1
                have r2 : W6.cell? ⟨w.heap.size, 2, none⟩ = some (.string ⟨#[]⟩) := Lib.cell_of_heap hz2 2
                have r3 : W6.cell? ⟨w.heap.size, 3, none⟩ = some (.int .i64 0) := Lib.cell_of_heap hz2 3
                have r4 : W6.cell? ⟨w.heap.size, 4, none⟩ = some (.int .i64 0) := Lib.cell_of_heap hz2 4
                have r5 : W6.cell? ⟨w.heap.size, 5, none⟩ = some (.slice none 0 0) := Lib.cell_of_heap hz2 5
                have r6 : W6.cell? ⟨w.heap.size, 6, none⟩ = some (.slice none 0 0) := Lib.cell_of_heap hz2 6
                have zf := Lib.frozen_of_heap hz2
                have HE : Hid (EndP _ _ _ _ _ _ _ _ _ _ _ _ _) := kids_end HPL.out.1 (Nat.le_refl _) hBn hPBE
                unfold st7 at HE
                simp only [show (cx true).k = 5 from rfl] at HE
                clear hbt hz2 hBn hPBE HBN6 HPB6
                go_wp2_with fail
                clear b0 b1 b2 b3 b4 b5 b6 r0 r1 r2 r3 r4 r5 r6 zf
                generalize (((((((W6.setCell ⟨w.heap.size, 0, none⟩ (.int .i64 5)).setCell ⟨w.heap.size, 1, none⟩ (.int .i64 0)).setCell ⟨w.heap.size, 2, none⟩ (.string ⟨#[]⟩)).setCell ⟨w.heap.size, 3, none⟩ (.int .i64 0)).setCell ⟨w.heap.size, 4, none⟩ (.int .i64 0)).setCell ⟨w.heap.size, 5, none⟩ (.slice ka2 kn2 ck)).setCell ⟨w.heap.size, 6, none⟩ (.slice (some ⟨g5, 0, none⟩) (tn + 1) c5)) = W7 at *
                have h7 := HE.out.1
                have q0 : W7.cell? ⟨w.heap.size, 0, none⟩ = some (.int .i64 5) := Lib.cell_of_heap h7 0
                have q1 : W7.cell? ⟨w.heap.size, 1, none⟩ = some (.int .i64 0) := Lib.cell_of_heap h7 1
                have q2 : W7.cell? ⟨w.heap.size, 2, none⟩ = some (.string ⟨#[]⟩) := Lib.cell_of_heap h7 2
                have q3 : W7.cell? ⟨w.heap.size, 3, none⟩ = some (.int .i64 0) := Lib.cell_of_heap h7 3
                have q4 : W7.cell? ⟨w.heap.size, 4, none⟩ = some (.int .i64 0) := Lib.cell_of_heap h7 4
                have q5 : W7.cell? ⟨w.heap.size, 5, none⟩ = some (.slice ka2 kn2 ck) := Lib.cell_of_heap h7 5
                have q6 : W7.cell? ⟨w.heap.size, 6, none⟩ = some (.slice (some ⟨g5, 0, none⟩) (tn + 1) c5) := Lib.cell_of_heap h7 6
                exact bodyPost_ret (v := tval (cx true, .slice ka2 kn2 ck, .slice (some ⟨g5, 0, none⟩) (tn + 1) c5)) (by simp [tval, cx, results, Tryz.results14, go_sem, q0, q1, q2, q3, q4, q5, q6]) rfl (HEND.out W7 HE.out)
              have hsl := slU_of hI
              have hBm2 := HBM.out.move HPL.out.1 hrk2
              clear hrk2
              have HFEW : Hid (m + T.size ≤ 400 ∧ k < k' ∧ k' ≤ s.size ∧ x.2.length + 1 ≤ 400) := ⟨hfew, by omega, hle, by have h8 := HNUM.out; have h9 := len_sizes (x.2 ++ [T]); rw [sizes_append] at h9; simp [sizes] at h9; omega⟩
              have HTOT2 : Hid (rdFrom (rdT n s) true s ⟨#[c1 true]⟩ (s.size + 1) true ([], []) k0 m0 = rdFrom (rdT n s) true s ⟨#[c1 true]⟩ f false (x.1 ++ [key], x.2 ++ [T]) k' (m + T.size)) := by
                show _ = _
                rw [HTOT.out, th_ok (key_one HKY.out.2.1 HKY.out.2.2.1 HKY.out.2.2.2 hok), HKY.out.1]
                rfl
              clear hok hfew hlt hle
              obtain ⟨yk, yn, yt, yo, ya, a1, n1, d1, a2, n2, d2, rfl⟩ := slU_parts hsl
              unfold tval
              dsimp only
              have b3 : Below w2.heap.size w2 (w2.alloc (.cells #[.int .i64 yk, .int .i64 yn, .string yt, .int .i64 yo, .int .i64 ya, .slice a1 n1 d1, .slice a2 n2 d2] 29)) := (Below.refl _ _).alloc (Nat.le_refl _) _
              have hx3 : (w2.alloc (.cells #[.int .i64 yk, .int .i64 yn, .string yt, .int .i64 yo, .int .i64 ya, .slice a1 n1 d1, .slice a2 n2 d2] 29)).heap[w2.heap.size]? = some (.cells #[.int .i64 yk, .int .i64 yn, .string yt, .int .i64 yo, .int .i64 ya, .slice a1 n1 d1, .slice a2 n2 d2] 29) := one_new w2 _
              have hz3 : (w2.alloc (.cells #[.int .i64 yk, .int .i64 yn, .string yt, .int .i64 yo, .int .i64 ya, .slice a1 n1 d1, .slice a2 n2 d2] 29)).heap.size = w2.heap.size + 1 := sz_new _ _
              have hBm3 := hBm2.move HPL.out.1 (Rk.of b3)
              have hPB3 := hpb2.below b3
              have hI3 := hI.move b3.size (fun b _ h2 => b3.block b h2) (fun _ h => h)
              clear hI
              clear hBm2 hpb2
              have ct3 := hBm3.n.ht
              unfold cx at ct3
              simp only [if_true] at ct3
              go_upto_region 19 with fail
              obtain ⟨xb, hxb⟩ : ∃ xb, w2.heap.size = xb := ⟨_, rfl⟩
              rw [hxb] at hx3 hz3 ⊢
              generalize (w2.alloc (.cells #[.int .i64 yk, .int .i64 yn, .string yt, .int .i64 yo, .int .i64 ya, .slice a1 n1 d1, .slice a2 n2 d2] 29)) = W3 at *
              have HXB : Hid (Below xb w2 W3) := by rw [← hxb]; exact b3
              clear b3
              have x0 : W3.cell? ⟨xb, 0, none⟩ = some (.int .i64 yk) := Lib.cell_of_heap hx3 0
              have x1 : W3.cell? ⟨xb, 1, none⟩ = some (.int .i64 yn) := Lib.cell_of_heap hx3 1
              have x2 : W3.cell? ⟨xb, 2, none⟩ = some (.string yt) := Lib.cell_of_heap hx3 2
              have x3 : W3.cell? ⟨xb, 3, none⟩ = some (.int .i64 yo) := Lib.cell_of_heap hx3 3
              have x4 : W3.cell? ⟨xb, 4, none⟩ = some (.int .i64 ya) := Lib.cell_of_heap hx3 4
              have x5 : W3.cell? ⟨xb, 5, none⟩ = some (.slice a1 n1 d1) := Lib.cell_of_heap hx3 5
              have x6 : W3.cell? ⟨xb, 6, none⟩ = some (.slice a2 n2 d2) := Lib.cell_of_heap hx3 6
              have ckd : W3.cell? ⟨w.heap.size + 1, 6, none⟩ = some (.slice ta tn tc) := Lib.cell_of_heap ct3 6
              have b4 : Below W3.heap.size W3 (W3.alloc (.cells #[.int .i64 yk, .int .i64 yn, .string yt, .int .i64 yo, .int .i64 ya, .slice a1 n1 d1, .slice a2 n2 d2] 29)) := (Below.refl _ _).alloc (Nat.le_refl _) _
              have hx4 : (W3.alloc (.cells #[.int .i64 yk, .int .i64 yn, .string yt, .int .i64 yo, .int .i64 ya, .slice a1 n1 d1, .slice a2 n2 d2] 29)).heap[W3.heap.size]? = some (.cells #[.int .i64 yk, .int .i64 yn, .string yt, .int .i64 yo, .int .i64 ya, .slice a1 n1 d1, .slice a2 n2 d2] 29) := one_new W3 _
              have hBm4 := hBm3.move HPL.out.1 (Rk.of b4)
              have hPB4 := hPB3.below b4
              have hI4 := hI3.move b4.size (fun b _ h2 => b4.block b h2) (fun _ h => h)
              clear hI3
              have hl4 := hBm4.lens
              obtain ⟨g5, c5, W5, hrun, hown, hgr, hat⟩ := appU 27 (W3.alloc (.cells #[.int .i64 yk, .int .i64 yn, .string yt, .int .i64 yo, .int .i64 ya, .slice a1 n1 d1, .slice a2 n2 d2] 29)) (w.heap.size + 2) hBm4.bz (.slice ta tn tc) us hBm4.ts W3.heap.size (⟨yk, yn, yt, yo, ya⟩, .slice a1 n1 d1, .slice a2 n2 d2) hx4 hsl (by omega)
              have hW5 : Below (w.heap.size + 2) (W3.alloc (.cells #[.int .i64 yk, .int .i64 yn, .string yt, .int .i64 yo, .int .i64 ya, .slice a1 n1 d1, .slice a2 n2 d2] 29)) W5 := grown_belowJ hgr hBm4.ts hBm4.bz
              have htn := HTN.out
              rw [htn] at hrun hown
              have ht5 := (hW5.block (w.heap.size + 1) (by omega)).trans hBm4.n.ht
              unfold cx at ht5
              simp only [if_true] at ht5
              have f6 : W5.cell? ⟨w.heap.size + 1, 6, none⟩ = some (.slice ta tn tc) := Lib.cell_of_heap ht5 6
              have ff := Lib.frozen_of_heap ht5
              have hPB6 : PB (W5.setCell ⟨w.heap.size + 1, 6, none⟩ (.slice (some ⟨g5, 0, none⟩) (tn + 1) c5)) p s k' (m + T.size) 0 0 := hPB4.keepB HPL.out.1 hW5
              have hBm6 := hBm4.addT (u := (⟨yk, yn, yt, yo, ya⟩, .slice a1 n1 d1, .slice a2 n2 d2)) (T := T) (N := w7k.heap.size) HPL.out.1 (by rw [htn]; exact hown) hgr hat hI4 ⟨HWZ.out.1, fun b hb => HWZ.out.2.1 b hb, fun b hb => HWZ.out.2.2 b hb⟩ HFEW.out.2.2.2
              rw [htn] at hBm6
              have HBM6 : Hid (Bm true p (w.heap.size + 1) w.heap.size (w.heap.size + 2) w (xk, x.2 ++ [T]) (.slice ka2 kn2 ck) (.slice (some ⟨g5, 0, none⟩) (tn + 1) c5) (us ++ [(⟨yk, yn, yt, yo, ya⟩, .slice a1 n1 d1, .slice a2 n2 d2)]) (W5.setCell ⟨w.heap.size + 1, 6, none⟩ (.slice (some ⟨g5, 0, none⟩) (tn + 1) c5))) := hBm6
              clear hBm6 hI4
              have HPB6 : Hid (PB (W5.setCell ⟨w.heap.size + 1, 6, none⟩ (.slice (some ⟨g5, 0, none⟩) (tn + 1) c5)) p s k' (m + T.size) 0 0) := hPB6
              clear hPB6 hBm4 hPB4 hBm3 hPB3 hown hgr hat hW5 ht5 hx4 b4 ct3 hx3 hz3 hl4 htn
              go_upto_region 20 with (first | (at_builtin; refine wp_append rfl _ _ 27 rfl _ _ _ _ rfl rfl hrun ?_))
              clear x0 x1 x2 x3 x4 x5 x6 ckd f6 ff hrun
              generalize W5.setCell ⟨w.heap.size + 1, 6, none⟩ (.slice (some ⟨g5, 0, none⟩) (tn + 1) c5) = W6 at *
              have p4 : W6.cell? ⟨p, 4, none⟩ = some (.int .i64 0) := Lib.cell_of_heap HPB6.out 4
              have EC := isH_any p s k' (m + T.size) 0 0 ⟨#[44]⟩ W6 HPB6.out HFEW.out.2.2.1 HS.out (by decide)
              obtain ⟨pc, hpc⟩ : ∃ pc, preB s k' ⟨#[44]⟩ = pc := ⟨_, rfl⟩
              rw [hpc] at EC
              go_wp2_with fail
              go_fit EC
              rintro e w7 ⟨rfl, hpb7, hrk7⟩
              clear EC p4
              have hBm7 := HBM6.out.move HPL.out.1 hrk7
              clear hrk7
              obtain ⟨f1, rfl⟩ : ∃ f1, f = f1 + 1 := ⟨f - 1, by have h8 := HFEW.out; have h9 := HNUM.out; omega⟩
              cases pc with
              | true =>
                have hrm := pre_room hpc rfl
                simp only [if_true] at hpb7
                have HROUND : Hid (KI n true p s k0 m0 w w7) := by
                  have h8 := HFEW.out
                  have h9 := HNUM.out
                  refine ⟨(xk, x.2 ++ [T]), k' + 1, m + T.size, f1, _, _, _, hBm7, hpb7, by omega, hrm, h8.1, ?_, by omega, ?_, ?_⟩
                  · rw [sizes_append, h9.2.1]
                    simp [sizes]
                    omega
                  · intro _; have h10 := HNUM.out.2.2.2; have h11 := HXK.out; simp [h11, h10]
                  · rw [HTOT2.out, ← HXK.out]
                    exact from_com (com_not hpc) hpc
                have HMEAS : Hid (s.size + 1 - posOf w7 p < s.size + 1 - posOf wr p) := by
                  have h8 := HFEW.out
                  show _ < _
                  rw [hpb7.pos, HPB.out.pos]
                  omega
                clear hBm7 hpb7 hrm hpc HBM6 HPB6
                go_wp2
                go_roundw
                case rel => exact HROUND.out
                case measure => exact HMEAS.out
              | false =>
                simp only [Bool.false_eq_true, if_false] at hpb7
                have EE := isH_any p s k' (m + T.size) 0 0 ⟨#[125]⟩ w7 hpb7 HFEW.out.2.2.1 HS.out (by decide)
                obtain ⟨pe, hpe⟩ : ∃ pe, preB s k' ⟨#[125]⟩ = pe := ⟨_, rfl⟩
                rw [hpe] at EE
                clear hpb7 HBM6 HPB6
                go_wp2_with fail
                go_fit EE
                rintro e w8 ⟨rfl, hpb8, hrk8⟩
                clear EE
                have hBm8 := hBm7.move HPL.out.1 hrk8
                clear hrk8 hBm7
                cases pe with
                | true =>
                  simp only [if_true] at hpb8
                  have hrm := pre_room hpe rfl
                  have hBn := hBm8.n
                  have hPBE := hpb8
                  have HTR : Hid (IsTP (fun b => w.heap.size + 2 ≤ b) w8 (tval (cx true, .slice ka2 kn2 ck, .slice (some ⟨g5, 0, none⟩) (tn + 1) c5)) (.node (cx true) (xk) (x.2 ++ [T]))) := hBm8.tree
                  have HRM : Hid (k' + 1 ≤ s.size) := hrm
                  have HEND : Hid (∀ W7, EndP true p w.heap.size w w8 s (k' + 1) (m + T.size) 0 0 (.slice ka2 kn2 ck) (.slice (some ⟨g5, 0, none⟩) (tn + 1) c5) W7 → post (.returned (tval (cx true, .slice ka2 kn2 ck, .slice (some ⟨g5, 0, none⟩) (tn + 1) c5))) W7) := by
                    intro W7 hE
                    rw [HPO.out]
                    have h8 := HFEW.out
                    have h9 := HNUM.out
                    refine Or.inl ⟨(x.1 ++ [key], x.2 ++ [T]), k' + 1, m + T.size, _, ?_, ?_, h8.1, by omega, HRM.out, rfl, ?_, hE.2.1, hE.2.2.1⟩
                    · rw [HTOT2.out]
                      exact from_end hpe
                    · rw [sizes_append, h9.2.1]
                      simp [sizes]
                      omega
                    · have h12 := HTR.out
                      rw [HXK.out] at h12
                      exact (hE.2.2.2 _ _ _ h12 (fun b hb => by omega)).move (Nat.le_refl _) (fun _ _ _ => rfl) (fun b hb => by omega)
                  have hbt := hBn.ht
                  unfold cx at hbt
                  simp only [if_true] at hbt
                  have hz2 := hBn.hr
                  unfold zO at hz2
                  have b0 : w8.cell? ⟨w.heap.size + 1, 0, none⟩ = some (.int .i64 5) := Lib.cell_of_heap hbt 0
                  have b1 : w8.cell? ⟨w.heap.size + 1, 1, none⟩ = some (.int .i64 0) := Lib.cell_of_heap hbt 1
                  have b2 : w8.cell? ⟨w.heap.size + 1, 2, none⟩ = some (.string ⟨#[]⟩) := Lib.cell_of_heap hbt 2
                  have b3 : w8.cell? ⟨w.heap.size + 1, 3, none⟩ = some (.int .i64 0) := Lib.cell_of_heap hbt 3
                  have b4 : w8.cell? ⟨w.heap.size + 1, 4, none⟩ = some (.int .i64 0) := Lib.cell_of_heap hbt 4
                  have b5 : w8.cell? ⟨w.heap.size + 1, 5, none⟩ = some (.slice ka2 kn2 ck) := Lib.cell_of_heap hbt 5
                  have b6 : w8.cell? ⟨w.heap.size + 1, 6, none⟩ = some (.slice (some ⟨g5, 0, none⟩) (tn + 1) c5) := Lib.cell_of_heap hbt 6
                  have r0 : w8.cell? ⟨w.heap.size, 0, none⟩ = some (.int .i64 0) := Lib.cell_of_heap hz2 0
                  have r1 : w8.cell? ⟨w.heap.size, 1, none⟩ = some (.int .i64 0) := Lib.cell_of_heap hz2 1
                  have r2 : w8.cell? ⟨w.heap.size, 2, none⟩ = some (.string ⟨#[]⟩) := Lib.cell_of_heap hz2 2
                  have r3 : w8.cell? ⟨w.heap.size, 3, none⟩ = some (.int .i64 0) := Lib.cell_of_heap hz2 3
                  have r4 : w8.cell? ⟨w.heap.size, 4, none⟩ = some (.int .i64 0) := Lib.cell_of_heap hz2 4
                  have r5 : w8.cell? ⟨w.heap.size, 5, none⟩ = some (.slice none 0 0) := Lib.cell_of_heap hz2 5
                  have r6 : w8.cell? ⟨w.heap.size, 6, none⟩ = some (.slice none 0 0) := Lib.cell_of_heap hz2 6
                  have zf := Lib.frozen_of_heap hz2
                  have HE : Hid (EndP _ _ _ _ _ _ _ _ _ _ _ _ _) := kids_end HPL.out.1 (Nat.le_refl _) hBn hPBE
                  unfold st7 at HE
                  simp only [show (cx true).k = 5 from rfl] at HE
                  clear hbt hz2 hBn hPBE hBm8 hpb8 hrm hpe HTR
                  go_wp2_with fail
                  clear b0 b1 b2 b3 b4 b5 b6 r0 r1 r2 r3 r4 r5 r6 zf
                  generalize (((((((w8.setCell ⟨w.heap.size, 0, none⟩ (.int .i64 5)).setCell ⟨w.heap.size, 1, none⟩ (.int .i64 0)).setCell ⟨w.heap.size, 2, none⟩ (.string ⟨#[]⟩)).setCell ⟨w.heap.size, 3, none⟩ (.int .i64 0)).setCell ⟨w.heap.size, 4, none⟩ (.int .i64 0)).setCell ⟨w.heap.size, 5, none⟩ (.slice ka2 kn2 ck)).setCell ⟨w.heap.size, 6, none⟩ (.slice (some ⟨g5, 0, none⟩) (tn + 1) c5)) = W7 at *
                  have h7 := HE.out.1
                  have q0 : W7.cell? ⟨w.heap.size, 0, none⟩ = some (.int .i64 5) := Lib.cell_of_heap h7 0
                  have q1 : W7.cell? ⟨w.heap.size, 1, none⟩ = some (.int .i64 0) := Lib.cell_of_heap h7 1
                  have q2 : W7.cell? ⟨w.heap.size, 2, none⟩ = some (.string ⟨#[]⟩) := Lib.cell_of_heap h7 2
                  have q3 : W7.cell? ⟨w.heap.size, 3, none⟩ = some (.int .i64 0) := Lib.cell_of_heap h7 3
                  have q4 : W7.cell? ⟨w.heap.size, 4, none⟩ = some (.int .i64 0) := Lib.cell_of_heap h7 4
                  have q5 : W7.cell? ⟨w.heap.size, 5, none⟩ = some (.slice ka2 kn2 ck) := Lib.cell_of_heap h7 5
                  have q6 : W7.cell? ⟨w.heap.size, 6, none⟩ = some (.slice (some ⟨g5, 0, none⟩) (tn + 1) c5) := Lib.cell_of_heap h7 6
                  exact bodyPost_ret (v := tval (cx true, .slice ka2 kn2 ck, .slice (some ⟨g5, 0, none⟩) (tn + 1) c5)) (by simp [tval, cx, results, Tryz.results14, go_sem, q0, q1, q2, q3, q4, q5, q6]) rfl (HEND.out W7 HE.out)
                | false =>
                  simp only [Bool.false_eq_true, if_false] at hpb8
                  have EF := failH_any p s k' (m + T.size) 0 k' 0 2 w8 hpb8
                  simp only [if_true] at EF
                  have p1 : w8.cell? ⟨p, 1, none⟩ = some (.int .i64 (k' : Int)) := Lib.cell_of_heap hpb8 1
                  clear hpb8
                  go_wp2_with fail
                  go_fit EF
                  rintro e w9 ⟨rfl, hpb9, hrk9⟩
                  clear EF p1
                  have hBn := hBm8.n.move HPL.out.1 hBm8.bz hrk9
                  have hPBE := hpb9
                  have HNO : Hid (rdFrom (rdT n s) true s ⟨#[c1 true]⟩ (s.size + 1) true ([], []) k0 m0 = .error (k', 2)) := by
                    show _ = _
                    rw [HTOT2.out]
                    exact from_no hpe hpc
                  have HEND : Hid (∀ W7, EndP true p w.heap.size w w9 s k' (m + T.size) k' 2 (.slice ka2 kn2 ck) (.slice (some ⟨g5, 0, none⟩) (tn + 1) c5) W7 → post (.returned (tval (cx true, .slice ka2 kn2 ck, .slice (some ⟨g5, 0, none⟩) (tn + 1) c5))) W7) := by
                    intro W7 hE
                    rw [HPO.out]
                    exact Or.inr ⟨_, k', m + T.size, k', 2, rfl, ⟨⟨_, _, _, rfl⟩, _, _, _, rfl⟩, HNO.out, by decide, hE.2.1, hE.2.2.1⟩
                  have hbt := hBn.ht
                  unfold cx at hbt
                  simp only [if_true] at hbt
                  have hz2 := hBn.hr
                  unfold zO at hz2
                  have b0 : w9.cell? ⟨w.heap.size + 1, 0, none⟩ = some (.int .i64 5) := Lib.cell_of_heap hbt 0
                  have b1 : w9.cell? ⟨w.heap.size + 1, 1, none⟩ = some (.int .i64 0) := Lib.cell_of_heap hbt 1
                  have b2 : w9.cell? ⟨w.heap.size + 1, 2, none⟩ = some (.string ⟨#[]⟩) := Lib.cell_of_heap hbt 2
                  have b3 : w9.cell? ⟨w.heap.size + 1, 3, none⟩ = some (.int .i64 0) := Lib.cell_of_heap hbt 3
                  have b4 : w9.cell? ⟨w.heap.size + 1, 4, none⟩ = some (.int .i64 0) := Lib.cell_of_heap hbt 4
                  have b5 : w9.cell? ⟨w.heap.size + 1, 5, none⟩ = some (.slice ka2 kn2 ck) := Lib.cell_of_heap hbt 5
                  have b6 : w9.cell? ⟨w.heap.size + 1, 6, none⟩ = some (.slice (some ⟨g5, 0, none⟩) (tn + 1) c5) := Lib.cell_of_heap hbt 6
                  have r0 : w9.cell? ⟨w.heap.size, 0, none⟩ = some (.int .i64 0) := Lib.cell_of_heap hz2 0
                  have r1 : w9.cell? ⟨w.heap.size, 1, none⟩ = some (.int .i64 0) := Lib.cell_of_heap hz2 1
                  have r2 : w9.cell? ⟨w.heap.size, 2, none⟩ = some (.string ⟨#[]⟩) := Lib.cell_of_heap hz2 2
                  have r3 : w9.cell? ⟨w.heap.size, 3, none⟩ = some (.int .i64 0) := Lib.cell_of_heap hz2 3
                  have r4 : w9.cell? ⟨w.heap.size, 4, none⟩ = some (.int .i64 0) := Lib.cell_of_heap hz2 4
                  have r5 : w9.cell? ⟨w.heap.size, 5, none⟩ = some (.slice none 0 0) := Lib.cell_of_heap hz2 5
                  have r6 : w9.cell? ⟨w.heap.size, 6, none⟩ = some (.slice none 0 0) := Lib.cell_of_heap hz2 6
                  have zf := Lib.frozen_of_heap hz2
                  have HE : Hid (EndP _ _ _ _ _ _ _ _ _ _ _ _ _) := kids_end HPL.out.1 (Nat.le_refl _) hBn hPBE
                  unfold st7 at HE
                  simp only [show (cx true).k = 5 from rfl] at HE
                  clear hbt hz2 hBn hPBE hBm8 hpb9 hrk9 hpe hpc
                  go_wp2_with fail
                  clear b0 b1 b2 b3 b4 b5 b6 r0 r1 r2 r3 r4 r5 r6 zf
                  generalize (((((((w9.setCell ⟨w.heap.size, 0, none⟩ (.int .i64 5)).setCell ⟨w.heap.size, 1, none⟩ (.int .i64 0)).setCell ⟨w.heap.size, 2, none⟩ (.string ⟨#[]⟩)).setCell ⟨w.heap.size, 3, none⟩ (.int .i64 0)).setCell ⟨w.heap.size, 4, none⟩ (.int .i64 0)).setCell ⟨w.heap.size, 5, none⟩ (.slice ka2 kn2 ck)).setCell ⟨w.heap.size, 6, none⟩ (.slice (some ⟨g5, 0, none⟩) (tn + 1) c5)) = W7 at *
                  have h7 := HE.out.1
                  have q0 : W7.cell? ⟨w.heap.size, 0, none⟩ = some (.int .i64 5) := Lib.cell_of_heap h7 0
                  have q1 : W7.cell? ⟨w.heap.size, 1, none⟩ = some (.int .i64 0) := Lib.cell_of_heap h7 1
                  have q2 : W7.cell? ⟨w.heap.size, 2, none⟩ = some (.string ⟨#[]⟩) := Lib.cell_of_heap h7 2
                  have q3 : W7.cell? ⟨w.heap.size, 3, none⟩ = some (.int .i64 0) := Lib.cell_of_heap h7 3
                  have q4 : W7.cell? ⟨w.heap.size, 4, none⟩ = some (.int .i64 0) := Lib.cell_of_heap h7 4
                  have q5 : W7.cell? ⟨w.heap.size, 5, none⟩ = some (.slice ka2 kn2 ck) := Lib.cell_of_heap h7 5
                  have q6 : W7.cell? ⟨w.heap.size, 6, none⟩ = some (.slice (some ⟨g5, 0, none⟩) (tn + 1) c5) := Lib.cell_of_heap h7 6
                  exact bodyPost_ret (v := tval (cx true, .slice ka2 kn2 ck, .slice (some ⟨g5, 0, none⟩) (tn + 1) c5)) (by simp [tval, cx, results, Tryz.results14, go_sem, q0, q1, q2, q3, q4, q5, q6]) rfl (HEND.out W7 HE.out)
            | false =>
              simp only [Bool.false_eq_true, if_false] at hpb7
              have EF := failH_any p s (k + n5) m 0 (k + n5) 0 2 w7k hpb7
              simp only [if_true] at EF
              have p1 : w7k.cell? ⟨p, 1, none⟩ = some (.int .i64 ((k + n5 : Nat) : Int)) := Lib.cell_of_heap hpb7 1
              clear hpb7
              obtain ⟨k3i, hk3i⟩ : ∃ k3i : Int, ((k + n5 : Nat) : Int) = k3i := ⟨_, rfl⟩
              rw [hk3i] at EF p1
              clear hk3i
              go_wp2_with fail
              go_fit EF
              rintro e w9 ⟨rfl, hpb9, hrk9⟩
              clear EF p1
              have hBn := hBm7.n.move HPL.out.1 hBm7.bz hrk9
              have hPBE := hpb9
              have p4 : w9.cell? ⟨p, 4, none⟩ = some (.int .i64 2) := Lib.cell_of_heap hpb9 4
              have HNO : Hid (rdFrom (rdT n s) true s ⟨#[c1 true]⟩ (s.size + 1) true ([], []) k0 m0 = .error (k + n5, 2)) := by
                show _ = _
                rw [HTOT.out]
                exact th_bad (no_sign HQ5.out.1 HKQ.out.2 hpc)
              have HEND : Hid (∀ W7, EndP true p w.heap.size w w9 s (k + n5) m (k + n5) 2 (.slice ka2 kn2 ck) (.slice ta tn tc) W7 → post (.returned (tval (cx true, .slice ka2 kn2 ck, .slice ta tn tc))) W7) := by
                intro W7 hE
                rw [HPO.out]
                exact Or.inr ⟨_, _, m, (k + n5), 2, rfl, ⟨⟨_, _, _, rfl⟩, _, _, _, rfl⟩, HNO.out, by decide, hE.2.1, hE.2.2.1⟩
              have hbt := hBn.ht
              unfold cx at hbt
              simp only [if_true] at hbt
              have hz2 := hBn.hr
              unfold zO at hz2
              have b0 : w9.cell? ⟨w.heap.size + 1, 0, none⟩ = some (.int .i64 5) := Lib.cell_of_heap hbt 0
              have b1 : w9.cell? ⟨w.heap.size + 1, 1, none⟩ = some (.int .i64 0) := Lib.cell_of_heap hbt 1
              have b2 : w9.cell? ⟨w.heap.size + 1, 2, none⟩ = some (.string ⟨#[]⟩) := Lib.cell_of_heap hbt 2
              have b3 : w9.cell? ⟨w.heap.size + 1, 3, none⟩ = some (.int .i64 0) := Lib.cell_of_heap hbt 3
              have b4 : w9.cell? ⟨w.heap.size + 1, 4, none⟩ = some (.int .i64 0) := Lib.cell_of_heap hbt 4
              have b5 : w9.cell? ⟨w.heap.size + 1, 5, none⟩ = some (.slice ka2 kn2 ck) := Lib.cell_of_heap hbt 5
              have b6 : w9.cell? ⟨w.heap.size + 1, 6, none⟩ = some (.slice ta tn tc) := Lib.cell_of_heap hbt 6
              have r0 : w9.cell? ⟨w.heap.size, 0, none⟩ = some (.int .i64 0) := Lib.cell_of_heap hz2 0
              have r1 : w9.cell? ⟨w.heap.size, 1, none⟩ = some (.int .i64 0) := Lib.cell_of_heap hz2 1
              have r2 : w9.cell? ⟨w.heap.size, 2, none⟩ = some (.string ⟨#[]⟩) := Lib.cell_of_heap hz2 2
              have r3 : w9.cell? ⟨w.heap.size, 3, none⟩ = some (.int .i64 0) := Lib.cell_of_heap hz2 3
              have r4 : w9.cell? ⟨w.heap.size, 4, none⟩ = some (.int .i64 0) := Lib.cell_of_heap hz2 4
              have r5 : w9.cell? ⟨w.heap.size, 5, none⟩ = some (.slice none 0 0) := Lib.cell_of_heap hz2 5
              have r6 : w9.cell? ⟨w.heap.size, 6, none⟩ = some (.slice none 0 0) := Lib.cell_of_heap hz2 6
              have zf := Lib.frozen_of_heap hz2
              have HE : Hid (EndP _ _ _ _ _ _ _ _ _ _ _ _ _) := kids_end HPL.out.1 (Nat.le_refl _) hBn hPBE
              unfold st7 at HE
              simp only [show (cx true).k = 5 from rfl] at HE
              clear hbt hz2 hBn hPBE hBm7 hpb9 hrk9 hpc
              go_wp2_with fail
              clear b0 b1 b2 b3 b4 b5 b6 r0 r1 r2 r3 r4 r5 r6 zf
              generalize (((((((w9.setCell ⟨w.heap.size, 0, none⟩ (.int .i64 5)).setCell ⟨w.heap.size, 1, none⟩ (.int .i64 0)).setCell ⟨w.heap.size, 2, none⟩ (.string ⟨#[]⟩)).setCell ⟨w.heap.size, 3, none⟩ (.int .i64 0)).setCell ⟨w.heap.size, 4, none⟩ (.int .i64 0)).setCell ⟨w.heap.size, 5, none⟩ (.slice ka2 kn2 ck)).setCell ⟨w.heap.size, 6, none⟩ (.slice ta tn tc)) = W7 at *
              have h7 := HE.out.1
              have q0 : W7.cell? ⟨w.heap.size, 0, none⟩ = some (.int .i64 5) := Lib.cell_of_heap h7 0
              have q1 : W7.cell? ⟨w.heap.size, 1, none⟩ = some (.int .i64 0) := Lib.cell_of_heap h7 1
              have q2 : W7.cell? ⟨w.heap.size, 2, none⟩ = some (.string ⟨#[]⟩) := Lib.cell_of_heap h7 2
              have q3 : W7.cell? ⟨w.heap.size, 3, none⟩ = some (.int .i64 0) := Lib.cell_of_heap h7 3
              have q4 : W7.cell? ⟨w.heap.size, 4, none⟩ = some (.int .i64 0) := Lib.cell_of_heap h7 4
              have q5 : W7.cell? ⟨w.heap.size, 5, none⟩ = some (.slice ka2 kn2 ck) := Lib.cell_of_heap h7 5
              have q6 : W7.cell? ⟨w.heap.size, 6, none⟩ = some (.slice ta tn tc) := Lib.cell_of_heap h7 6
              exact bodyPost_ret (v := tval (cx true, .slice ka2 kn2 ck, .slice ta tn tc)) (by simp [tval, cx, results, Tryz.results14, go_sem, q0, q1, q2, q3, q4, q5, q6]) rfl (HEND.out W7 HE.out)
          · have hnok : ¬ keyOk x.1 t := fun hok => hlt (hok.2 y (by rw [hlast]; rfl))
            have e1 : Op.bytesLess y.toList key.toList = false := by rw [bytesLess_eq, hkt]; exact decide_eq_false hlt
            clear h0 hkt hkey hlast hlt
            have EF1 := failH_any p s (k + n5) m 0 k 0 2 w1 hpb1
            simp only [if_true] at EF1
            clear hpb1
            have HNO : Hid (rdFrom (rdT n s) true s ⟨#[c1 true]⟩ (s.size + 1) true ([], []) k0 m0 = .error (k, 2)) := by
              show _ = _
              rw [HTOT.out]
              exact th_bad (no_key (fun t' n' h' => by
                rw [HQ5.out.1] at h'
                obtain ⟨rfl, _⟩ := Prod.mk.inj (Option.some.inj h')
                exact hnok))
            clear hnok
            go_wp2_with fail
            go_fit EF1
            rintro e w2 ⟨rfl, hpb2, hrk2⟩
            clear EF1 p4 c5 g1 g2 hw1 e1 c9 hbe
            have hBm2 := hBm1.move HPL.out.1 hrk2
            clear hBm1 hrk2
            have hBm1 := hBm2
            have hpb1 := hpb2
            clear hBm2 hpb2
            have ct := hBm1.n.ht
            unfold cx at ct
            simp only [if_true] at ct
            have c5 : w2.cell? ⟨w.heap.size + 1, 5, none⟩ = some (.slice (some ⟨kb, ko, none⟩) kn kc) := Lib.cell_of_heap ct 5
            clear ct
            go_upto_region 12 with fail
            have b3 : Below w2.heap.size w2 (w2.alloc (.cells #[.string key] 9)) := (Below.refl _ _).alloc (Nat.le_refl _) _
            have hx3 : (w2.alloc (.cells #[.string key] 9)).heap[w2.heap.size]? = some (.cells #[.string key] 9) := one_new w2 _
            have hBm3 := hBm1.move HPL.out.1 (Rk.of b3)
            have hPB3 := hpb1.below b3
            clear hBm1 hpb1
            have hl4 := hBm3.lens
            obtain ⟨gk, ck, W5, hrun, hown, hgr, hat⟩ := appK 26 (w2.alloc (.cells #[.string key] 9)) (w.heap.size + 2) hBm3.bz (.slice (some ⟨kb, ko, none⟩) kn kc) x.1 hBm3.ks w2.heap.size key hx3 (by omega)
            have hW5 : Below (w.heap.size + 2) (w2.alloc (.cells #[.string key] 9)) W5 := grown_belowJ hgr hBm3.ks hBm3.bz
            have hkn := HKN.out
            rw [hkn] at hrun hown
            have ht5 := (hW5.block (w.heap.size + 1) (by omega)).trans hBm3.n.ht
            unfold cx at ht5
            simp only [if_true] at ht5
            have f5 : W5.cell? ⟨w.heap.size + 1, 5, none⟩ = some (.slice (some ⟨kb, ko, none⟩) kn kc) := Lib.cell_of_heap ht5 5
            have ff := Lib.frozen_of_heap ht5
            have hPB6 : PB (W5.setCell ⟨w.heap.size + 1, 5, none⟩ (.slice (some ⟨gk, 0, none⟩) (kn + 1) ck)) p s (k + n5) m k 2 := hPB3.keepB HPL.out.1 hW5
            have hBm6 := hBm3.addK (key := key) HPL.out.1 (by have := HNUM.out.2.2.2; omega) (by rw [hkn]; exact hown) hgr hat
            rw [hkn] at hBm6
            have HM6 : Hid (Bm true p (w.heap.size + 1) w.heap.size (w.heap.size + 2) w (x.1 ++ [key], x.2) (.slice (some ⟨gk, 0, none⟩) (kn + 1) ck) (.slice ta tn tc) us (W5.setCell ⟨w.heap.size + 1, 5, none⟩ (.slice (some ⟨gk, 0, none⟩) (kn + 1) ck)) ∧ PB (W5.setCell ⟨w.heap.size + 1, 5, none⟩ (.slice (some ⟨gk, 0, none⟩) (kn + 1) ck)) p s (k + n5) m k 2) := ⟨hBm6, hPB6⟩
            clear hBm6 hPB6 hBm3 hPB3 hown hgr hat hW5 ht5 hx3 b3 hl4 hkn
            go_upto_region 13 with (first | (at_builtin; refine wp_append rfl _ _ 26 rfl _ _ _ _ rfl rfl hrun ?_))
            clear f5 ff hrun c5
            generalize W5.setCell ⟨w.heap.size + 1, 5, none⟩ (.slice (some ⟨gk, 0, none⟩) (kn + 1) ck) = W6 at *
            obtain ⟨ka2, hka2⟩ : ∃ ka2, some (⟨gk, 0, none⟩ : Addr) = ka2 := ⟨_, rfl⟩
            obtain ⟨kn2, hkn2⟩ : ∃ kn2, kn + 1 = kn2 := ⟨_, rfl⟩
            rw [hka2, hkn2] at HM6
            clear hka2 hkn2
            obtain ⟨hBm6, hPB6⟩ := HM6.out
            clear HM6
            have EC := isH_any p s (k + n5) m k 2 ⟨#[58]⟩ W6 hPB6 HQ5.out.2 HS.out (by decide)
            clear hPB6
            obtain ⟨pc, hpc⟩ : ∃ pc, preB s (k + n5) ⟨#[58]⟩ = pc := ⟨_, rfl⟩
            rw [hpc] at EC
            go_wp2_with fail
            go_fit EC
            rintro e w7k ⟨rfl, hpb7, hrk7⟩
            clear EC
            have hBm7 := hBm6.move HPL.out.1 hrk7
            clear hrk7 hBm6
            cases pc with
            | true =>
              simp only [if_true] at hpb7
              have p4 : w7k.cell? ⟨p, 4, none⟩ = some (.int .i64 2) := Lib.cell_of_heap hpb7 4
              have hBn := hBm7.n
              have hPBE := hpb7
              have HEND : Hid (∀ W7, EndP true p w.heap.size w w7k s (k + n5 + 1) m k 2 (.slice ka2 kn2 ck) (.slice ta tn tc) W7 → post (.returned (tval (cx true, .slice ka2 kn2 ck, .slice ta tn tc))) W7) := by
                intro W7 hE
                rw [HPO.out]
                exact Or.inr ⟨_, _, m, k, 2, rfl, ⟨⟨_, _, _, rfl⟩, _, _, _, rfl⟩, HNO.out, by decide, hE.2.1, hE.2.2.1⟩
              have hbt := hBn.ht
              unfold cx at hbt
              simp only [if_true] at hbt
              have hz2 := hBn.hr
              unfold zO at hz2
              have b0 : w7k.cell? ⟨w.heap.size + 1, 0, none⟩ = some (.int .i64 5) := Lib.cell_of_heap hbt 0
              have b1 : w7k.cell? ⟨w.heap.size + 1, 1, none⟩ = some (.int .i64 0) := Lib.cell_of_heap hbt 1
              have b2 : w7k.cell? ⟨w.heap.size + 1, 2, none⟩ = some (.string ⟨#[]⟩) := Lib.cell_of_heap hbt 2
              have b3 : w7k.cell? ⟨w.heap.size + 1, 3, none⟩ = some (.int .i64 0) := Lib.cell_of_heap hbt 3
              have b4 : w7k.cell? ⟨w.heap.size + 1, 4, none⟩ = some (.int .i64 0) := Lib.cell_of_heap hbt 4
              have b5 : w7k.cell? ⟨w.heap.size + 1, 5, none⟩ = some (.slice ka2 kn2 ck) := Lib.cell_of_heap hbt 5
              have b6 : w7k.cell? ⟨w.heap.size + 1, 6, none⟩ = some (.slice ta tn tc) := Lib.cell_of_heap hbt 6
              have r0 : w7k.cell? ⟨w.heap.size, 0, none⟩ = some (.int .i64 0) := Lib.cell_of_heap hz2 0
              have r1 : w7k.cell? ⟨w.heap.size, 1, none⟩ = some (.int .i64 0) := Lib.cell_of_heap hz2 1
              have r2 : w7k.cell? ⟨w.heap.size, 2, none⟩ = some (.string ⟨#[]⟩) := Lib.cell_of_heap hz2 2
              have r3 : w7k.cell? ⟨w.heap.size, 3, none⟩ = some (.int .i64 0) := Lib.cell_of_heap hz2 3
              have r4 : w7k.cell? ⟨w.heap.size, 4, none⟩ = some (.int .i64 0) := Lib.cell_of_heap hz2 4
              have r5 : w7k.cell? ⟨w.heap.size, 5, none⟩ = some (.slice none 0 0) := Lib.cell_of_heap hz2 5
              have r6 : w7k.cell? ⟨w.heap.size, 6, none⟩ = some (.slice none 0 0) := Lib.cell_of_heap hz2 6
              have zf := Lib.frozen_of_heap hz2
              have HE : Hid (EndP _ _ _ _ _ _ _ _ _ _ _ _ _) := kids_end HPL.out.1 (Nat.le_refl _) hBn hPBE
              unfold st7 at HE
              simp only [show (cx true).k = 5 from rfl] at HE
              clear hbt hz2 hBn hPBE hBm7 hpb7 hpc
              go_wp2_with fail
              clear b0 b1 b2 b3 b4 b5 b6 r0 r1 r2 r3 r4 r5 r6 zf
              generalize (((((((w7k.setCell ⟨w.heap.size, 0, none⟩ (.int .i64 5)).setCell ⟨w.heap.size, 1, none⟩ (.int .i64 0)).setCell ⟨w.heap.size, 2, none⟩ (.string ⟨#[]⟩)).setCell ⟨w.heap.size, 3, none⟩ (.int .i64 0)).setCell ⟨w.heap.size, 4, none⟩ (.int .i64 0)).setCell ⟨w.heap.size, 5, none⟩ (.slice ka2 kn2 ck)).setCell ⟨w.heap.size, 6, none⟩ (.slice ta tn tc)) = W7 at *
              have h7 := HE.out.1
              have q0 : W7.cell? ⟨w.heap.size, 0, none⟩ = some (.int .i64 5) := Lib.cell_of_heap h7 0
              have q1 : W7.cell? ⟨w.heap.size, 1, none⟩ = some (.int .i64 0) := Lib.cell_of_heap h7 1
              have q2 : W7.cell? ⟨w.heap.size, 2, none⟩ = some (.string ⟨#[]⟩) := Lib.cell_of_heap h7 2
              have q3 : W7.cell? ⟨w.heap.size, 3, none⟩ = some (.int .i64 0) := Lib.cell_of_heap h7 3
              have q4 : W7.cell? ⟨w.heap.size, 4, none⟩ = some (.int .i64 0) := Lib.cell_of_heap h7 4
              have q5 : W7.cell? ⟨w.heap.size, 5, none⟩ = some (.slice ka2 kn2 ck) := Lib.cell_of_heap h7 5
              have q6 : W7.cell? ⟨w.heap.size, 6, none⟩ = some (.slice ta tn tc) := Lib.cell_of_heap h7 6
              exact bodyPost_ret (v := tval (cx true, .slice ka2 kn2 ck, .slice ta tn tc)) (by simp [tval, cx, results, Tryz.results14, go_sem, q0, q1, q2, q3, q4, q5, q6]) rfl (HEND.out W7 HE.out)
            | false =>
              simp only [Bool.false_eq_true, if_false] at hpb7
              have EF := failH_any p s (k + n5) m k (k + n5) 2 2 w7k hpb7
              simp only [show ¬ (2 : Int) = 0 from by decide, if_false] at EF
              have p1 : w7k.cell? ⟨p, 1, none⟩ = some (.int .i64 ((k + n5 : Nat) : Int)) := Lib.cell_of_heap hpb7 1
              clear hpb7
              obtain ⟨k3i, hk3i⟩ : ∃ k3i : Int, ((k + n5 : Nat) : Int) = k3i := ⟨_, rfl⟩
              rw [hk3i] at EF p1
              clear hk3i
              go_wp2_with fail
              go_fit EF
              rintro e w9 ⟨rfl, hpb9, hrk9⟩
              clear EF p1
              have hBn := hBm7.n.move HPL.out.1 hBm7.bz hrk9
              have hPBE := hpb9
              have p4 : w9.cell? ⟨p, 4, none⟩ = some (.int .i64 2) := Lib.cell_of_heap hpb9 4
              have HEND : Hid (∀ W7, EndP true p w.heap.size w w9 s (k + n5) m k 2 (.slice ka2 kn2 ck) (.slice ta tn tc) W7 → post (.returned (tval (cx true, .slice ka2 kn2 ck, .slice ta tn tc))) W7) := by
                intro W7 hE
                rw [HPO.out]
                exact Or.inr ⟨_, _, m, k, 2, rfl, ⟨⟨_, _, _, rfl⟩, _, _, _, rfl⟩, HNO.out, by decide, hE.2.1, hE.2.2.1⟩
              have hbt := hBn.ht
              unfold cx at hbt
              simp only [if_true] at hbt
              have hz2 := hBn.hr
              unfold zO at hz2
              have b0 : w9.cell? ⟨w.heap.size + 1, 0, none⟩ = some (.int .i64 5) := Lib.cell_of_heap hbt 0
              have b1 : w9.cell? ⟨w.heap.size + 1, 1, none⟩ = some (.int .i64 0) := Lib.cell_of_heap hbt 1
              have b2 : w9.cell? ⟨w.heap.size + 1, 2, none⟩ = some (.string ⟨#[]⟩) := Lib.cell_of_heap hbt 2
              have b3 : w9.cell? ⟨w.heap.size + 1, 3, none⟩ = some (.int .i64 0) := Lib.cell_of_heap hbt 3
              have b4 : w9.cell? ⟨w.heap.size + 1, 4, none⟩ = some (.int .i64 0) := Lib.cell_of_heap hbt 4
              have b5 : w9.cell? ⟨w.heap.size + 1, 5, none⟩ = some (.slice ka2 kn2 ck) := Lib.cell_of_heap hbt 5
              have b6 : w9.cell? ⟨w.heap.size + 1, 6, none⟩ = some (.slice ta tn tc) := Lib.cell_of_heap hbt 6
              have r0 : w9.cell? ⟨w.heap.size, 0, none⟩ = some (.int .i64 0) := Lib.cell_of_heap hz2 0
              have r1 : w9.cell? ⟨w.heap.size, 1, none⟩ = some (.int .i64 0) := Lib.cell_of_heap hz2 1
              have r2 : w9.cell? ⟨w.heap.size, 2, none⟩ = some (.string ⟨#[]⟩) := Lib.cell_of_heap hz2 2
              have r3 : w9.cell? ⟨w.heap.size, 3, none⟩ = some (.int .i64 0) := Lib.cell_of_heap hz2 3
              have r4 : w9.cell? ⟨w.heap.size, 4, none⟩ = some (.int .i64 0) := Lib.cell_of_heap hz2 4
              have r5 : w9.cell? ⟨w.heap.size, 5, none⟩ = some (.slice none 0 0) := Lib.cell_of_heap hz2 5
              have r6 : w9.cell? ⟨w.heap.size, 6, none⟩ = some (.slice none 0 0) := Lib.cell_of_heap hz2 6
              have zf := Lib.frozen_of_heap hz2
              have HE : Hid (EndP _ _ _ _ _ _ _ _ _ _ _ _ _) := kids_end HPL.out.1 (Nat.le_refl _) hBn hPBE
              unfold st7 at HE
              simp only [show (cx true).k = 5 from rfl] at HE
              clear hbt hz2 hBn hPBE hBm7 hpb9 hrk9 hpc
              go_wp2_with fail
              clear b0 b1 b2 b3 b4 b5 b6 r0 r1 r2 r3 r4 r5 r6 zf
              generalize (((((((w9.setCell ⟨w.heap.size, 0, none⟩ (.int .i64 5)).setCell ⟨w.heap.size, 1, none⟩ (.int .i64 0)).setCell ⟨w.heap.size, 2, none⟩ (.string ⟨#[]⟩)).setCell ⟨w.heap.size, 3, none⟩ (.int .i64 0)).setCell ⟨w.heap.size, 4, none⟩ (.int .i64 0)).setCell ⟨w.heap.size, 5, none⟩ (.slice ka2 kn2 ck)).setCell ⟨w.heap.size, 6, none⟩ (.slice ta tn tc)) = W7 at *
              have h7 := HE.out.1
              have q0 : W7.cell? ⟨w.heap.size, 0, none⟩ = some (.int .i64 5) := Lib.cell_of_heap h7 0
              have q1 : W7.cell? ⟨w.heap.size, 1, none⟩ = some (.int .i64 0) := Lib.cell_of_heap h7 1
              have q2 : W7.cell? ⟨w.heap.size, 2, none⟩ = some (.string ⟨#[]⟩) := Lib.cell_of_heap h7 2
              have q3 : W7.cell? ⟨w.heap.size, 3, none⟩ = some (.int .i64 0) := Lib.cell_of_heap h7 3
              have q4 : W7.cell? ⟨w.heap.size, 4, none⟩ = some (.int .i64 0) := Lib.cell_of_heap h7 4
              have q5 : W7.cell? ⟨w.heap.size, 5, none⟩ = some (.slice ka2 kn2 ck) := Lib.cell_of_heap h7 5
              have q6 : W7.cell? ⟨w.heap.size, 6, none⟩ = some (.slice ta tn tc) := Lib.cell_of_heap h7 6
              exact bodyPost_ret (v := tval (cx true, .slice ka2 kn2 ck, .slice ta tn tc)) (by simp [tval, cx, results, Tryz.results14, go_sem, q0, q1, q2, q3, q4, q5, q6]) rfl (HEND.out W7 HE.out)
end Go.Proofs.YtnmdhbejjjmdeaaGreatDoor
