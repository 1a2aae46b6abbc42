/-
  What is proved: what a disk's Rename and Remove do.
  Conditions: as each theorem says.
-/
import Derived.Test.YtcdpcjafomfddaaDoorKApp
namespace Go.Proofs.YtcdpcjafomfddaaDoor
open Go.RowKit Go.Maps

theorem names2 (w : World) (s t : Tx) : IsNames (w.alloc (.cells #[.string ⟨s.toArray⟩, .string ⟨t.toArray⟩] 9)) (.slice (some ⟨w.heap.size, 0, none⟩) 2 2) [s, t] :=
  ⟨_, _, rfl, by simp, fun _ => ⟨_, rfl, fun i hi => by
    have hb := (MapKept.heap_alloc w (.cells #[.string ⟨s.toArray⟩, .string ⟨t.toArray⟩] 9)).1
    have : i = 0 ∨ i = 1 := by simp at hi; omega
    rcases this with rfl | rfl
    · exact Lib.cell_of_heap hb 0
    · exact Lib.cell_of_heap hb 1⟩⟩

/-- What is wrong with giving a file another name. -/
def rnE (F : List (Tx × Nat)) (st n : Int) (s t : Tx) : Int := if rdy st n [s, t] = 0 then (if (fk F s).isSome then 0 else 6) else rdy st n [s, t]
/-- The names then. -/
def renF (F : List (Tx × Nat)) (s t : Tx) (g : Nat) : List (Tx × Nat) := ((F.filter fun q => q.1 != s).filter fun q => q.1 != t) ++ [(t, g)]

theorem ptrs_filter (F : List (Tx × Nat)) (s : Tx) : (ptrs F).filter (fun q => q.1 != s) = ptrs (F.filter fun q => q.1 != s) := by
  unfold ptrs
  rw [List.filter_map]
  rfl
theorem ptrs_ren (F : List (Tx × Nat)) (s t : Tx) (g : Nat) : putL ((ptrs F).filter fun q => q.1 != s) t (ptrV g) = ptrs (renF F s t g) := by
  unfold putL renF
  rw [ptrs_filter, ptrs_filter]
  simp [ptrs]

set_option maxRecDepth 100000 in
set_option maxHeartbeats 2000000 in
theorem rename_no {S : Nat → Prop} {p fb sb : Nat} {F Z : List (Tx × Nat)} {n st : Int} {G : List Fi} (s t : Tx) (w : World) (hd : Dk S w p fb sb F Z n st G) (hs : T64 s) (hE : rnE F st n s t ≠ 0) :
    Calls Tryd.prog 18 #[ptrV p, txV s, txV t] w fun e w' => e = .returned (errV (rnE F st n s t)) ∧ Below w.heap.size w w' := by
  have b1 : Below w.heap.size w (w.alloc (.cells #[.string ⟨s.toArray⟩, .string ⟨t.toArray⟩] 9)) := (Below.refl _ _).alloc (Nat.le_refl _) _
  have R := ready_any (.slice (some ⟨w.heap.size, 0, none⟩) 2 2) [s, t] _ (hd.below b1) (names2 w s t)
  have HF : Hid (∀ w', Below w.heap.size w w' → _) := fun w' (hb : Below w.heap.size w w') => find_any s w' (hd.below hb) hs
  have HB : Hid (Below w.heap.size w (w.alloc (.cells #[.string ⟨s.toArray⟩, .string ⟨t.toArray⟩] 9)) ∧ w.heap.size ≤ (w.alloc (.cells #[.string ⟨s.toArray⟩, .string ⟨t.toArray⟩] 9)).heap.size) := ⟨b1, b1.size⟩
  clear hd b1
  unfold rnE at hE ⊢
  unfold ptrV txV at *
  generalize rdy st n [s, t] = r at *
  by_cases hr : r = 0
  · subst hr
    simp only [errV, if_true] at R
    simp only [if_true] at hE ⊢
    cases hg : fk F s with
    | some g => rw [hg] at hE; simp at hE
    | none =>
      rw [hg] at HF
      have HF' : Hid (∀ w', Below w.heap.size w w' → Calls Tryd.prog 26 #[.pointer (some ⟨p, 0, none⟩), encStr s] w' fun e w'' => e = .returned (.tuple #[.pointer none, .iface 66 (.int .i64 6)]) ∧ Below w'.heap.size w' w'') := fun w' hb => HF.out w' hb
      simp only [Option.isSome_none, Bool.false_eq_true, if_false, errV, show (6 : Int) ≠ 0 by decide]
      clear HF hE hg
      go_enter Tryd.func18, Tryd.ntmps18
      go_wp2_with (first
        | (go_at_call 31; refine R.mono ?_; rintro e w1 ⟨rfl, hb1⟩
           have HB1 : Hid (Below w.heap.size w w1) := HB.out.1.trans (hb1.mono HB.out.2)
           have F1 := HF'.out w1 HB1.out
           clear hb1 HF')
        | (go_at_call 26; refine F1.mono ?_; rintro e w2 ⟨rfl, hb2⟩
           have HB2 : Hid (Below w.heap.size w w2) := HB1.out.trans (hb2.mono HB1.out.size)
           clear hb2))
      go_ret
      exact ⟨rfl, HB2.out⟩
  · rw [if_neg hr]
    have he : errV r = .iface 66 (.int .i64 r) := by unfold errV; rw [if_neg hr]
    rw [he] at R ⊢
    clear he HF hr hE
    go_enter Tryd.func18, Tryd.ntmps18
    go_wp2_with (go_at_call 31; refine R.mono ?_; rintro e w1 ⟨rfl, hb1⟩
                 have HB1 : Hid (Below w.heap.size w w1) := HB.out.1.trans (hb1.mono HB.out.2)
                 clear hb1)
    go_ret
    exact ⟨rfl, HB1.out⟩

def RenP (S : Nat → Prop) (w : World) (p fb sb : Nat) (F Z : List (Tx × Nat)) (n st : Int) (G : List Fi) (s t : Tx) (g : Nat) (e : Ending) (w' : World) : Prop :=
  e = .returned .nilIface ∧ Kp S w w' ∧ Dk S w' p fb sb (renF F s t g) Z (n + 1) st G

theorem filter_in {F : List (Tx × Nat)} {G : List Fi} (h : ∀ q ∈ F, ∃ x ∈ G, x.g = q.2) (f : Tx × Nat → Bool) : ∀ q ∈ F.filter f, ∃ x ∈ G, x.g = q.2 := fun q hq => h q (List.mem_filter.1 hq).1

set_option maxRecDepth 100000 in
set_option maxHeartbeats 2000000 in
theorem rename_yes {S : Nat → Prop} {p fb sb : Nat} {F Z : List (Tx × Nat)} {n st : Int} {G : List Fi} (s t : Tx) (g : Nat) (w : World) (hd : Dk S w p fb sb F Z n st G) (hs : T64 s) (ht : T64 t) (hn : 0 ≤ n ∧ n < 1000000) (hF : F.length < 1000) (hr : rdy st n [s, t] = 0) (hg : fk F s = some g) :
    Calls Tryd.prog 18 #[ptrV p, txV s, txV t] w fun e w' => RenP S w p fb sb F Z n st G s t g e w' := by
  have b1 : Below w.heap.size w (w.alloc (.cells #[.string ⟨s.toArray⟩, .string ⟨t.toArray⟩] 9)) := (Below.refl _ _).alloc (Nat.le_refl _) _
  have R := ready_any (.slice (some ⟨w.heap.size, 0, none⟩) 2 2) [s, t] _ (hd.below b1) (names2 w s t)
  rw [hr] at R
  simp only [errV, if_true] at R
  have HF : Hid (∀ w', Below w.heap.size w w' → Calls Tryd.prog 26 #[.pointer (some ⟨p, 0, none⟩), encStr s] w' fun e w'' => e = .returned (.tuple #[.pointer (some ⟨g, 0, none⟩), .nilIface]) ∧ Below w'.heap.size w' w'') := fun w' hb => by
    have := find_any s w' (hd.below hb) hs
    rw [hg] at this
    exact this
  have HB : Hid (Below w.heap.size w (w.alloc (.cells #[.string ⟨s.toArray⟩, .string ⟨t.toArray⟩] 9)) ∧ w.heap.size ≤ (w.alloc (.cells #[.string ⟨s.toArray⟩, .string ⟨t.toArray⟩] 9)).heap.size) := ⟨b1, b1.size⟩
  have HP : Hid (∀ w1, Below w.heap.size w w1 → w1.cell? ⟨p, 0, none⟩ = some (.map (some fb)) ∧ ∃ w2 w3, (∀ ty, (Builtin.delete_ #[49, 9] ty #[.map (some fb), .string ⟨s.toArray⟩]).run Tryd.prog w1 = .ok (.tuple #[]) w2) ∧ w2.cell? ⟨p, 0, none⟩ = some (.map (some fb)) ∧
      (Instr.mapUpdate 49 (.map (some fb)) (.string ⟨t.toArray⟩) (.pointer (some ⟨g, 0, none⟩))).run Tryd.prog w2 = .ok () w3 ∧ Dk S w3 p fb sb (renF F s t g) Z n st G ∧ Kp S w w3) := fun w1 hb => by
    have d1 := hd.below hb
    obtain ⟨w2, q1, q2, q3⟩ := d1.mf.del (T := 49) (E := 62) Tryd.underlying49 hs 0
    have d2 := d1.turned q3 (by rw [← ptrs_filter]; exact q2) (filter_in d1.inF _)
    obtain ⟨w3, r1, r2, r3⟩ := q2.put (T := 49) (E := 62) Tryd.underlying49 ht (by refine Nat.lt_of_le_of_lt (List.length_filter_le _ _) ?_; unfold ptrs; rw [List.length_map]; omega) (ptrV g)
    have d3 := d2.turned (F' := renF F s t g) r3 (by rw [← ptrs_ren]; exact r2) (fun q hq => by
      unfold renF at hq
      rcases List.mem_append.1 hq with hq | hq
      · exact filter_in (filter_in d1.inF _) _ q hq
      · rw [List.mem_singleton.1 hq]; obtain ⟨x, hx, e⟩ := d1.inF _ (fk_mem hg); exact ⟨x, hx, e⟩)
    exact ⟨Lib.cell_of_heap d1.box 0, w2, w3, fun ty => q1, Lib.cell_of_heap d2.box 0, r1, d3, ((Kp.of hb).trans (turned_kp q3 d1.sfb)).trans (turned_kp r3 d1.sfb)⟩
  obtain ⟨post, hpost⟩ : ∃ post, post = fun e w' => RenP S w p fb sb F Z n st G s t g e w' := ⟨_, rfl⟩
  rw [← hpost]
  have HPO : Hid (post = _) := hpost
  obtain ⟨n0, n1⟩ := hn
  clear hd b1 hr hF hg hs ht hpost
  unfold ptrV txV
  go_enter Tryd.func18, Tryd.ntmps18
  go_wp2_with (first
    | (go_at_call 31; refine R.mono ?_; rintro e w1 ⟨rfl, hb1⟩
       have HB1 : Hid (Below w.heap.size w w1) := HB.out.1.trans (hb1.mono HB.out.2)
       have F1 := HF.out w1 HB1.out
       clear hb1 HF)
    | (go_at_call 26; refine F1.mono ?_; rintro e w2 ⟨rfl, hb2⟩
       have HB2 : Hid (Below w.heap.size w w2) := HB1.out.trans (hb2.mono HB1.out.size)
       obtain ⟨C0, w3, w4, q1, C1, q2, D4, K4⟩ := HP.out w2 HB2.out
       have N2 : w4.cell? ⟨p, 2, none⟩ = some (.int .i64 n) := Lib.cell_of_heap D4.box 2
       have N3 : w4.frozen? ⟨p, 2, none⟩ = false := Lib.frozen_of_heap D4.box 2
       have HEND : Hid (post (.returned .nilIface) (w4.setCell ⟨p, 2, none⟩ (.int .i64 (n + 1)))) := by
         rw [HPO.out]
         exact ⟨rfl, K4.set 2 _ D4.sp, D4.setN _⟩
       clear hb2 D4 K4 HP))
  exact HEND.out

def RemP (S : Nat → Prop) (w : World) (p fb sb : Nat) (F Z : List (Tx × Nat)) (n st : Int) (G : List Fi) (s : Tx) (e : Ending) (w' : World) : Prop :=
  e = .returned .nilIface ∧ Kp S w w' ∧ Dk S w' p fb sb (F.filter fun q => q.1 != s) Z (n + 1) st G

set_option maxRecDepth 100000 in
set_option maxHeartbeats 2000000 in
theorem remove_no {S : Nat → Prop} {p fb sb : Nat} {F Z : List (Tx × Nat)} {n st : Int} {G : List Fi} (s : Tx) (w : World) (hd : Dk S w p fb sb F Z n st G) (hs : T64 s) (hE : opE F st n s ≠ 0) :
    Calls Tryd.prog 19 #[ptrV p, txV s] w fun e w' => e = .returned (errV (opE F st n s)) ∧ Below w.heap.size w w' := by
  have O := open_any s w hd hs
  have he : errV (opE F st n s) = .iface 66 (.int .i64 (opE F st n s)) := by unfold errV; rw [if_neg hE]
  rw [opG_no hE, he] at O
  rw [he]
  unfold pN ptrV txV at *
  generalize opE F st n s = r at *
  clear hd he hE
  go_enter Tryd.func19, Tryd.ntmps19
  go_wp2_with (go_at_call 32; refine O.mono ?_; rintro e w1 ⟨rfl, hb1⟩; have HB1 : Hid (Below w.heap.size w w1) := hb1; clear hb1)
  go_ret
  exact ⟨rfl, HB1.out⟩

set_option maxRecDepth 100000 in
set_option maxHeartbeats 2000000 in
theorem remove_yes {S : Nat → Prop} {p fb sb : Nat} {F Z : List (Tx × Nat)} {n st : Int} {G : List Fi} (s : Tx) (w : World) (hd : Dk S w p fb sb F Z n st G) (hs : T64 s) (hn : 0 ≤ n ∧ n < 1000000) (hE : opE F st n s = 0) :
    Calls Tryd.prog 19 #[ptrV p, txV s] w fun e w' => RemP S w p fb sb F Z n st G s e w' := by
  have O := open_any s w hd hs
  obtain ⟨g, h1, h2⟩ := opG_of hE
  rw [h1, hE] at O
  have HP : Hid (∀ w1, Below w.heap.size w w1 → w1.cell? ⟨p, 0, none⟩ = some (.map (some fb)) ∧ ∃ w2, (∀ ty, (Builtin.delete_ #[49, 9] ty #[.map (some fb), .string ⟨s.toArray⟩]).run Tryd.prog w1 = .ok (.tuple #[]) w2) ∧ Dk S w2 p fb sb (F.filter fun q => q.1 != s) Z n st G ∧ Kp S w w2) := fun w1 hb => by
    have d1 := hd.below hb
    obtain ⟨w2, q1, q2, q3⟩ := d1.mf.del (T := 49) (E := 62) Tryd.underlying49 hs 0
    have d2 := d1.turned q3 (by rw [← ptrs_filter]; exact q2) (filter_in d1.inF _)
    exact ⟨Lib.cell_of_heap d1.box 0, w2, fun ty => q1, d2, (Kp.of hb).trans (turned_kp q3 d1.sfb)⟩
  obtain ⟨post, hpost⟩ : ∃ post, post = fun e w' => RemP S w p fb sb F Z n st G s e w' := ⟨_, rfl⟩
  rw [← hpost]
  have HPO : Hid (post = _) := hpost
  obtain ⟨n0, n1⟩ := hn
  simp only [errV, if_true] at O
  unfold pN ptrV txV at *
  clear hd hE hs hpost h1 h2
  go_enter Tryd.func19, Tryd.ntmps19
  go_wp2_with (go_at_call 32; refine O.mono ?_; rintro e w1 ⟨rfl, hb1⟩
               obtain ⟨C0, w2, q1, D2, K2⟩ := HP.out w1 hb1
               have N2 : w2.cell? ⟨p, 2, none⟩ = some (.int .i64 n) := Lib.cell_of_heap D2.box 2
               have N3 : w2.frozen? ⟨p, 2, none⟩ = false := Lib.frozen_of_heap D2.box 2
               have HEND : Hid (post (.returned .nilIface) (w2.setCell ⟨p, 2, none⟩ (.int .i64 (n + 1)))) := by
                 rw [HPO.out]
                 exact ⟨rfl, K2.set 2 _ D2.sp, D2.setN _⟩
               clear hb1 D2 K2 HP)
  exact HEND.out
end Go.Proofs.YtcdpcjafomfddaaDoor
