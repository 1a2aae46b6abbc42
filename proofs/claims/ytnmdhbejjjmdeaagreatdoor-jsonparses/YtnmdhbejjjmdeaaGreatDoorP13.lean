/-
  What is proved: json's reader reads a number, or throws a fault. json's reading as a function, with the place of the fault; what things read one by one come to.
  Conditions: as each theorem says.
-/
import Derived.Test.YtnmdhbejjjmdeaaGreatDoorP12
import Derived.Test.YtnmdhbejjjmdeaaGreatDoorJFitM
namespace Go.Proofs.YtnmdhbejjjmdeaaGreatDoor
open Go.RowKit Go.Sort

/-- A number, as a value. -/
def nv (n : Int) : V := ⟨2, n, ⟨#[]⟩, 0, 0⟩
/-- What number leaves. -/
def NumP (w : World) (p : Nat) (s : ByteArray) (k m : Nat) (e : Ending) (w' : World) : Prop :=
  (∃ n : Int, (-9223372036854775808 ≤ n ∧ n ≤ 9223372036854775807) ∧ Lib.itoa n = dgs (lft s k) ∧ e = .returned (nv n).val ∧ RB w' p s (k + (dgs (lft s k)).length) m ∧ Rk p w w') ∨
  ((∀ n : Int, -9223372036854775808 ≤ n ∧ n ≤ 9223372036854775807 → Lib.itoa n ≠ dgs (lft s k)) ∧ e = .panicked [{ v := faultV k 2, recovered := false }] ∧ Rk p w w')
theorem dgs_len (s : ByteArray) (k : Nat) : (dgs (lft s k)).length ≤ s.size - k := by
  have h := congrArg List.length (dgs_split (lft s k))
  rw [List.length_append] at h
  have hll : (lft s k).length = s.size - k := by
    unfold lft
    rw [List.length_drop, Array.length_toList]
    rfl
  omega
set_option maxRecDepth 100000 in
set_option maxHeartbeats 4000000 in
theorem numberR_any (p : Nat) (s : ByteArray) (k m : Nat) (w : World) (h : RB w p s k m) (hk : k ≤ s.size) (hs : s.size ≤ 60000) (hV : Vr w) :
    Calls Tryz.prog 27 #[.pointer (some ⟨p, 0, none⟩)] w fun e w' => NumP w p s k m e w' := by
  obtain ⟨post, hpost⟩ : ∃ post, post = NumP w p s k m := ⟨_, rfl⟩
  rw [← hpost]
  have HPO : Hid (post = NumP w p s k m) := hpost
  have hp := h.lt
  have HB0 := (Below.refl w.heap.size w).alloc (Nat.le_refl _) (.cells #[.int .i64 0, .int .i64 0, .string ⟨#[]⟩, .int .i64 0, .int .i64 0] 25)
  have E1 := digitsR_any p s k m (w.alloc (.cells #[.int .i64 0, .int .i64 0, .string ⟨#[]⟩, .int .i64 0, .int .i64 0] 25)) (h.below HB0) hk hs
  have hdl := dgs_len s k
  obtain ⟨d, hd⟩ : ∃ d : ByteArray, d = ⟨(dgs (lft s k)).toArray⟩ := ⟨_, rfl⟩
  have hdd : d.data.toList = dgs (lft s k) := by rw [hd]
  have hdz : d.size = (dgs (lft s k)).length := by rw [hd]; simp [ByteArray.size]
  rw [← hd] at E1
  have HD : Hid (d.data.toList = dgs (lft s k) ∧ d.size = (dgs (lft s k)).length ∧ d.size ≤ s.size - k ∧ k ≤ s.size ∧ s.size ≤ 60000 ∧ RB w p s k m ∧ Vr w ∧ p < w.heap.size) := ⟨hdd, hdz, by omega, hk, hs, h, hV, hp⟩
  clear hpost h hk hs hV hp hdl hd hdd hdz
  go_enter Tryz.func27, Tryz.ntmps27
  go_wp2_with fail
  go_fit E1
  rintro e w1 ⟨rfl, b1⟩
  have B1 : Below w.heap.size w w1 := HB0.trans (b1.mono (by rw [sz_new]; omega))
  have hbx : w1.heap[w.heap.size]? = some (.cells #[.int .i64 0, .int .i64 0, .string ⟨#[]⟩, .int .i64 0, .int .i64 0] 25) := by
    rw [b1.block _ (by rw [sz_new]; omega)]
    exact one_new w _
  have HX : Hid (Below w.heap.size w w1 ∧ w1.heap[w.heap.size]? = some (.cells #[.int .i64 0, .int .i64 0, .string ⟨#[]⟩, .int .i64 0, .int .i64 0] 25)) := ⟨B1, hbx⟩
  clear E1 b1 HB0 B1 hbx
  have E2 := atoi_any d w1 (by have := HD.out; omega) (HD.out.2.2.2.2.2.2.1.below HX.out.1).2
  go_wp2_with fail
  go_fit E2
  rintro e w2 ⟨hA, b2⟩
  have HX2 : Hid (Below w.heap.size w w2 ∧ w2.heap[w.heap.size]? = some (.cells #[.int .i64 0, .int .i64 0, .string ⟨#[]⟩, .int .i64 0, .int .i64 0] 25)) := by
    refine ⟨HX.out.1.trans (b2.mono HX.out.1.size), ?_⟩
    rw [b2.block _ (Array.getElem?_eq_some_iff.1 HX.out.2).1]
    exact HX.out.2
  clear E2 b2 HX
  have HRB2 : Hid (RB w2 p s k m) := HD.out.2.2.2.2.2.1.below HX2.out.1
  have c1 : w2.cell? ⟨p, 1, none⟩ = some (.int .i64 (k : Int)) := Lib.cell_of_heap HRB2.out 1
  rcases hA with ⟨v, hv, rfl⟩ | ⟨hv, v, T, N, rfl⟩
  · have hr := atoi_rng hv
    have E3 := itoa_any v hr.1 hr.2 w2 (HD.out.2.2.2.2.2.2.1.below HX2.out.1).1
    have HVV : Hid (Lib.atoiAll d.data.toList = .ok v) := hv
    have HRR : Hid (-9223372036854775808 ≤ v ∧ v ≤ 9223372036854775807) := hr
    clear hv hr
    obtain ⟨i, hi⟩ : ∃ i : ByteArray, i = ⟨(Lib.itoa v).toArray⟩ := ⟨_, rfl⟩
    have HI : Hid (i.data.toList = Lib.itoa v) := by show _ = _; rw [hi]
    rw [← hi] at E3
    clear hi
    go_wp2_with fail
    go_fit E3
    rintro e w3 ⟨rfl, b3⟩
    have HX3 : Hid (Below w.heap.size w w3 ∧ w3.heap[w.heap.size]? = some (.cells #[.int .i64 0, .int .i64 0, .string ⟨#[]⟩, .int .i64 0, .int .i64 0] 25)) := by
      refine ⟨HX2.out.1.trans (b3.mono HX2.out.1.size), ?_⟩
      rw [b3.block _ (Array.getElem?_eq_some_iff.1 HX2.out.2).1]
      exact HX2.out.2
    have HRB3 : Hid (RB w3 p s k m) := HRB2.out.below b3
    clear E3 b3 HX2 HRB2 c1
    have c1 : w3.cell? ⟨p, 1, none⟩ = some (.int .i64 (k : Int)) := Lib.cell_of_heap HRB3.out 1
    by_cases he : i = d
    · subst he
      have cf := Lib.frozen_of_heap HRB3.out
      have g1 : (k : Int) + i.size ≤ 70000 := by have := HD.out; omega
      have g0 : (0 : Int) ≤ (k : Int) + i.size := by omega
      have hse : (i.toList == i.toList) = true := beq_self_eq_true _
      have HW : Hid (RB (w3.setCell ⟨p, 1, none⟩ (.int .i64 ((k : Int) + i.size))) p s (k + i.size) m ∧ Rk p w (w3.setCell ⟨p, 1, none⟩ (.int .i64 ((k : Int) + i.size))) ∧ (w3.setCell ⟨p, 1, none⟩ (.int .i64 ((k : Int) + i.size))).heap[w.heap.size]? = some (.cells #[.int .i64 0, .int .i64 0, .string ⟨#[]⟩, .int .i64 0, .int .i64 0] 25)) := by
        refine ⟨?_, (Rk.of HX3.out.1).trans ⟨rfl, rfl, rfl, by simp, fun b _ hne => Below.heap_setCell _ _ _ _ (by simpa using hne)⟩, ?_⟩
        · unfold RB
          rw [set_atR HRB3.out 1 _]
          simp
        · rw [Below.heap_setCell _ _ _ _ (by have := HD.out; show _ ≠ _; simp; omega)]
          exact HX3.out.2
      go_upto_region 6 with fail
      generalize w3.setCell ⟨p, 1, none⟩ (.int .i64 ((k : Int) + i.size)) = w4 at *
      clear c1 cf g1 g0 hse HX3 HRB3
      have hrs := HW.out.2.2
      have r0 : w4.cell? ⟨w.heap.size, 0, none⟩ = some (.int .i64 0) := Lib.cell_of_heap hrs 0
      have r1 : w4.cell? ⟨w.heap.size, 1, none⟩ = some (.int .i64 0) := Lib.cell_of_heap hrs 1
      have r2 : w4.cell? ⟨w.heap.size, 2, none⟩ = some (.string ⟨#[]⟩) := Lib.cell_of_heap hrs 2
      have r3 : w4.cell? ⟨w.heap.size, 3, none⟩ = some (.int .i64 0) := Lib.cell_of_heap hrs 3
      have r4 : w4.cell? ⟨w.heap.size, 4, none⟩ = some (.int .i64 0) := Lib.cell_of_heap hrs 4
      have zf := Lib.frozen_of_heap hrs
      have HF : Hid (_ = some _) := set5 hrs (.int .i64 2) (.int .i64 v) (.string ⟨#[]⟩) (.int .i64 0) (.int .i64 0)
      have HE := set5_rk HD.out.2.2.2.2.2.2.2 (Nat.le_refl _) HW.out.1 HW.out.2.1 (.int .i64 2) (.int .i64 v) (.string ⟨#[]⟩) (.int .i64 0) (.int .i64 0)
      have HEND : Hid (post (.returned (nv v).val) (((((w4.setCell ⟨w.heap.size, 0, none⟩ (.int .i64 2)).setCell ⟨w.heap.size, 1, none⟩ (.int .i64 v)).setCell ⟨w.heap.size, 2, none⟩ (.string ⟨#[]⟩)).setCell ⟨w.heap.size, 3, none⟩ (.int .i64 0)).setCell ⟨w.heap.size, 4, none⟩ (.int .i64 0))) := by
        show post _ _
        rw [HPO.out]
        refine Or.inl ⟨v, HRR.out, by rw [← HI.out, HD.out.1], rfl, ?_, HE.2⟩
        rw [← HD.out.2.1]
        exact HE.1
      clear hrs HE HW
      go_wp2_with fail
      clear r0 r1 r2 r3 r4 zf
      generalize (((((w4.setCell ⟨w.heap.size, 0, none⟩ (.int .i64 2)).setCell ⟨w.heap.size, 1, none⟩ (.int .i64 v)).setCell ⟨w.heap.size, 2, none⟩ (.string ⟨#[]⟩)).setCell ⟨w.heap.size, 3, none⟩ (.int .i64 0)).setCell ⟨w.heap.size, 4, none⟩ (.int .i64 0)) = W at *
      have q0 : W.cell? ⟨w.heap.size, 0, none⟩ = some (.int .i64 2) := Lib.cell_of_heap HF.out 0
      have q1 : W.cell? ⟨w.heap.size, 1, none⟩ = some (.int .i64 v) := Lib.cell_of_heap HF.out 1
      have q2 : W.cell? ⟨w.heap.size, 2, none⟩ = some (.string ⟨#[]⟩) := Lib.cell_of_heap HF.out 2
      have q3 : W.cell? ⟨w.heap.size, 3, none⟩ = some (.int .i64 0) := Lib.cell_of_heap HF.out 3
      have q4 : W.cell? ⟨w.heap.size, 4, none⟩ = some (.int .i64 0) := Lib.cell_of_heap HF.out 4
      exact bodyPost_ret (v := (nv v).val) (by simp [nv, V.val, results, Tryz.results27, go_sem, q0, q1, q2, q3, q4]) rfl HEND.out
    · have hne : (i.toList == d.toList) = false := by
        rw [beq_eq_false_iff_ne]
        exact fun h => he (ba_toL h)
      have HEND : Hid (post (.panicked [{ v := faultV k 2, recovered := false }]) w3) := by
        show post _ _
        rw [HPO.out]
        refine Or.inr ⟨fun n hn h => he ?_, rfl, Rk.of HX3.out.1⟩
        have h1 := atoi_back n hn.1 hn.2
        rw [h, ← HD.out.1, HVV.out] at h1
        obtain rfl : v = n := by injection h1
        apply ba_eq
        rw [HI.out, HD.out.1, h]
      clear he
      go_wp2
      exact ⟨rfl, HEND.out⟩
  · have HEND : Hid (post (.panicked [{ v := faultV k 2, recovered := false }]) w2) := by
      show post _ _
      rw [HPO.out]
      refine Or.inr ⟨fun n hn h => ?_, rfl, Rk.of HX2.out.1⟩
      have h1 := atoi_back n hn.1 hn.2
      rw [h, ← HD.out.1] at h1
      exact hv n h1
    clear hv
    go_wp2
    exact ⟨rfl, HEND.out⟩
end Go.Proofs.YtnmdhbejjjmdeaaGreatDoor

namespace Go.Proofs.YtnmdhbejjjmdeaaGreatDoor
open Go.RowKit Go.Sort

/-- A fault: its place, and which; or what was read, and where it ends. -/
abbrev Rs (α : Type) := Except (Nat × Int) α
/-- May a text be a key behind others? -/
def keyOkB (ks : List ByteArray) (t : List UInt8) : Bool := !t.isEmpty && (match ks.getLast? with | none => true | some x => decide (x.toList < t))
theorem keyOkB_iff (ks : List ByteArray) (t : List UInt8) : keyOkB ks t = true ↔ keyOk ks t := by
  unfold keyOkB keyOk
  cases h : ks.getLast? with
  | none => simp
  | some x => simp
/-- One thing of a map or list, by a function that reads trees. -/
def rdOne (R : Nat → Nat → Rs (JT × Nat)) (mp : Bool) (s : ByteArray) (ks : List ByteArray) (k m : Nat) : Rs (ByteArray × JT × Nat) :=
  if mp = true then
    match qtd 20 (lft s k) with
    | none => .error (k, 2)
    | some (t, n) => if keyOkB ks t = true then (if preB s (k + n) ⟨#[58]⟩ = true then (R (k + n + 1) m).map fun x => (⟨t.toArray⟩, x.1, x.2) else .error (k + n, 2)) else .error (k, 2)
  else (R k m).map fun x => (⟨#[]⟩, x.1, x.2)
/-- The things from some on. -/
def rdFrom (R : Nat → Nat → Rs (JT × Nat)) (mp : Bool) (s en : ByteArray) : Nat → Bool → Sg → Nat → Nat → Rs (Sg × Nat)
  | 0, _, _, k, _ => .error (k, 0)
  | f + 1, first, x, k, m =>
    if preB s k en = true then .ok (x, k + 1)
    else if first = false ∧ preB s k com = false then .error (k, 2)
    else match rdOne R mp s x.1 (if first = true then k else k + 1) m with
      | .error e => .error e
      | .ok (key, T, k') => rdFrom R mp s en f false (if mp = true then x.1 ++ [key] else x.1, x.2 ++ [T]) k' (m + T.size)
/-- A thing was read. -/
def NxX (R : Nat → Nat → Rs (JT × Nat)) (mp : Bool) (s : ByteArray) (x : Sg) (k m : Nat) (x' : Sg) (k' m' : Nat) : Prop :=
  ∃ key T, rdOne R mp s x.1 k m = .ok (key, T, k') ∧ k < k' ∧ k' ≤ s.size ∧ x' = (if mp = true then x.1 ++ [key] else x.1, x.2 ++ [T]) ∧ m' = m + T.size
/-- None was. -/
def BxX (R : Nat → Nat → Rs (JT × Nat)) (mp : Bool) (s : ByteArray) (x : Sg) (k m : Nat) (v : Value) : Prop :=
  ∃ (kf : Nat) (e : Int), v = faultV kf e ∧ rdOne R mp s x.1 k m = .error (kf, e)
theorem ch_from {R : Nat → Nat → Rs (JT × Nat)} {mp : Bool} {s en : ByteArray} {k0 m0 : Nat} : ∀ (n : Nat) (x : Sg) (k m : Nat), Ch s en (NxX R mp s) ([], []) k0 m0 n x k m → (n ≤ k - k0 ∧ k0 ≤ k ∧ (n ≠ 0 → k ≤ s.size)) ∧ ∀ f, rdFrom R mp s en (f + n) true ([], []) k0 m0 = rdFrom R mp s en f (decide (n = 0)) x k m
  | 0, x, k, m, h => by
    obtain ⟨rfl, rfl, rfl⟩ := h
    exact ⟨⟨by omega, by omega, fun h => absurd rfl h⟩, fun f => rfl⟩
  | n + 1, x, k, m, h => by
    obtain ⟨x1, k1, m1, h1, hno, h3⟩ := h
    obtain ⟨⟨hk1, hk2, hk3⟩, ih⟩ := ch_from n x1 k1 m1 h1
    obtain ⟨hle, hN⟩ : k1 ≤ (if n = 0 then k1 else k1 + 1) ∧ NxX R mp s x1 (if n = 0 then k1 else k1 + 1) m1 x k m := by
      rcases h3 with ⟨h0, hN⟩ | ⟨hn, _, hN⟩
      · rw [if_pos h0]; exact ⟨Nat.le_refl _, hN⟩
      · rw [if_neg hn]; exact ⟨Nat.le_succ _, hN⟩
    have hcom : ¬ (decide (n = 0) = false ∧ preB s k1 com = false) := by
      rcases h3 with ⟨h0, _⟩ | ⟨_, hc, _⟩
      · simp [h0]
      · simp [hc]
    obtain ⟨key, T, h4, h5, h6, rfl, rfl⟩ := hN
    refine ⟨⟨by omega, by omega, fun _ => h6⟩, fun f => ?_⟩
    have e := ih (f + 1)
    rw [show f + 1 + n = f + (n + 1) by omega] at e
    rw [e, rdFrom]
    rw [if_neg (by rw [hno]; decide), if_neg hcom]
    have e2 : (if decide (n = 0) = true then k1 else k1 + 1) = (if n = 0 then k1 else k1 + 1) := by simp
    rw [e2, h4]
    simp
/-- What things read up to the end are. -/
theorem from_ok {R : Nat → Nat → Rs (JT × Nat)} {mp : Bool} {s en : ByteArray} {k0 m0 n : Nat} {x : Sg} {k m : Nat} (h : Ch s en (NxX R mp s) ([], []) k0 m0 n x k m) (he : preB s k en = true) (hk0 : k0 ≤ s.size) : rdFrom R mp s en (s.size + 1) true ([], []) k0 m0 = .ok (x, k + 1) := by
  obtain ⟨⟨h1, h2, h3⟩, h4⟩ := ch_from n x k m h
  have hn : n ≤ s.size := by
    by_cases h0 : n = 0
    · omega
    · have := h3 h0; omega
  have e := h4 (s.size - n + 1)
  rw [show s.size - n + 1 + n = s.size + 1 by omega] at e
  rw [e, rdFrom, if_pos he]
/-- What row throws. -/
theorem from_bad {R : Nat → Nat → Rs (JT × Nat)} {mp : Bool} {s en : ByteArray} {k0 m0 n : Nat} {x : Sg} {k m : Nat} {v : Value} (h : Ch s en (NxX R mp s) ([], []) k0 m0 n x k m) (he : preB s k en = false) (hk0 : k0 ≤ s.size)
    (hb : (n = 0 ∧ BxX R mp s x k m v) ∨ (n ≠ 0 ∧ preB s k com = false ∧ v = faultV k 2) ∨ (n ≠ 0 ∧ preB s k com = true ∧ BxX R mp s x (k + 1) m v)) : ∃ (kf : Nat) (e : Int), v = faultV kf e ∧ rdFrom R mp s en (s.size + 1) true ([], []) k0 m0 = .error (kf, e) := by
  obtain ⟨⟨h1, h2, h3⟩, h4⟩ := ch_from n x k m h
  have hn : n ≤ s.size := by
    by_cases h0 : n = 0
    · omega
    · have := h3 h0; omega
  have e := h4 (s.size - n + 1)
  rw [show s.size - n + 1 + n = s.size + 1 by omega] at e
  rw [e, rdFrom, if_neg (by rw [he]; decide)]
  rcases hb with ⟨h0, kf, fe, rfl, hr⟩ | ⟨hn0, hc, rfl⟩ | ⟨hn0, hc, kf, fe, rfl, hr⟩
  · refine ⟨kf, fe, rfl, ?_⟩
    rw [if_neg (by simp [h0])]
    simp only [h0, decide_true, if_true, hr]
  · exact ⟨k, 2, rfl, by rw [if_pos ⟨by simp [hn0], hc⟩]⟩
  · refine ⟨kf, fe, rfl, ?_⟩
    rw [if_neg (by simp [hc])]
    have e0 : decide (n = 0) = false := by simp [hn0]
    simp only [e0, Bool.false_eq_true, if_false, hr]
/-- A tree. -/
def rdT : Nat → ByteArray → Nat → Nat → Rs (JT × Nat)
  | 0, _, k, _ => .error (k, 0)
  | n + 1, s, k, m =>
    if m = 400 then .error (k, 4)
    else if preB s k ⟨#[123]⟩ = true then (rdFrom (rdT n s) true s ⟨#[125]⟩ (s.size + 1) true ([], []) (k + 1) (m + 1)).map fun x => (.node (cx true) x.1.1 x.1.2, x.2)
    else if preB s k ⟨#[91]⟩ = true then (rdFrom (rdT n s) false s ⟨#[93]⟩ (s.size + 1) true ([], []) (k + 1) (m + 1)).map fun x => (.node (cx false) x.1.1 x.1.2, x.2)
    else if preB s k ⟨#[34]⟩ = true then
      match qtd 60 (lft s k) with
      | none => .error (k, 2)
      | some (t, n6) => .ok (.node ⟨3, 0, ⟨t.toArray⟩, 0, 0⟩ [] [], k + n6)
    else if dgs (lft s k) ≠ [] then
      match Lib.atoiAll (dgs (lft s k)) with
      | .ok v => if Lib.itoa v = dgs (lft s k) then .ok (.node (nv v) [] [], k + (dgs (lft s k)).length) else .error (k, 2)
      | _ => .error (k, 2)
    else if preB s k wNil = true then .ok (.node ⟨0, 0, ⟨#[]⟩, 0, 0⟩ [] [], k + 4)
    else if preB s k wNo = true then .ok (.node ⟨1, 0, ⟨#[]⟩, 0, 0⟩ [] [], k + 5)
    else if preB s k wYes = true then .ok (.node ⟨1, 1, ⟨#[]⟩, 0, 0⟩ [] [], k + 4)
    else .error (k, 2)
end Go.Proofs.YtnmdhbejjjmdeaaGreatDoor
