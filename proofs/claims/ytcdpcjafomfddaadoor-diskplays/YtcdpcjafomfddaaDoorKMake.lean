/-
  What is proved: what package disk's New makes, and what Create does to a disk.
  Conditions: as each theorem says.
-/
import Derived.Test.YtcdpcjafomfddaaDoorKEdM
import Derived.Carry
namespace Go.Proofs.YtcdpcjafomfddaaDoor
open Go.RowKit Go.Maps

def NewP (S : Nat → Prop) (w : World) (e : Ending) (w' : World) : Prop := ∃ p fb sb, e = .returned (ptrV p) ∧ Dk S w' p fb sb [] [] 0 (-1) [] ∧ Below w.heap.size w w'

set_option maxRecDepth 100000 in
set_option maxHeartbeats 2000000 in
theorem new_any (S : Nat → Prop) (w : World) (hS : ∀ k, w.heap.size ≤ k → S k) :
    Calls Tryd.prog 4 #[] w fun e w' => NewP S w e w' := by
  have m0 := MapS.made w
  have m1 := MapS.made (w.alloc (.map #[] 0))
  have b0 : Below w.heap.size w (w.alloc (.map #[] 0)) := (Below.refl _ _).alloc (Nat.le_refl _) _
  have b1 := (Below.refl (w.alloc (.map #[] 0)).heap.size (w.alloc (.map #[] 0))).alloc (Nat.le_refl _) (.map #[] 0)
  have b2 := (Below.refl ((w.alloc (.map #[] 0)).alloc (.map #[] 0)).heap.size ((w.alloc (.map #[] 0)).alloc (.map #[] 0))).alloc (Nat.le_refl _) (.cells #[.map (some w.heap.size), .map (some (w.alloc (.map #[] 0)).heap.size), .int .i64 0, .int .i64 (-1)] 51)
  have hz : (w.alloc (.map #[] 0)).heap.size = w.heap.size + 1 := by simp
  have hz2 : ((w.alloc (.map #[] 0)).alloc (.map #[] 0)).heap.size = w.heap.size + 2 := by simp
  have HD : Hid (Dk S (((w.alloc (.map #[] 0)).alloc (.map #[] 0)).alloc (.cells #[.map (some w.heap.size), .map (some (w.alloc (.map #[] 0)).heap.size), .int .i64 0, .int .i64 (-1)] 51)) ((w.alloc (.map #[] 0)).alloc (.map #[] 0)).heap.size w.heap.size (w.alloc (.map #[] 0)).heap.size [] [] 0 (-1) []) :=
    ⟨(MapKept.heap_alloc _ _).1, ((m0.below b1).below b2), m1.below b2, by omega, (fun _ h => by cases h), (fun _ h => by cases h), (fun _ h => by cases h), List.Pairwise.nil, hS _ (by omega), hS _ (Nat.le_refl _), hS _ (by omega)⟩
  have HB : Hid (Below w.heap.size w (((w.alloc (.map #[] 0)).alloc (.map #[] 0)).alloc (.cells #[.map (some w.heap.size), .map (some (w.alloc (.map #[] 0)).heap.size), .int .i64 0, .int .i64 (-1)] 51))) := (b0.trans (b1.mono b0.size)).trans (b2.mono (by omega))
  rw [hz, hz2] at HD
  rw [hz] at HB
  clear m0 m1 b0 b1 b2
  have hmm := @run_makeMap Tryd.prog
  go_enter Tryd.func4, Tryd.ntmps4
  go_wp2
  go_ret
  exact ⟨_, _, _, rfl, HD.out, HB.out⟩

theorem names1 (w : World) (s : Tx) : IsNames (w.alloc (.cells #[.string ⟨s.toArray⟩] 9)) (.slice (some ⟨w.heap.size, 0, none⟩) 1 1) [s] :=
  ⟨_, _, rfl, by simp, fun _ => ⟨_, rfl, fun i hi => by
    have : i = 0 := by simp at hi; exact hi
    subst this
    exact Lib.cell_of_heap (MapKept.heap_alloc w (.cells #[.string ⟨s.toArray⟩] 9)).1 0⟩⟩

/-- What is wrong with making a file. -/
def crE (F : List (Tx × Nat)) (st n : Int) (s : Tx) : Int := if rdy st n [s] = 0 then (if (fk F s).isSome then 8 else 0) else rdy st n [s]

set_option maxRecDepth 100000 in
set_option maxHeartbeats 2000000 in
theorem create_no {S : Nat → Prop} {p fb sb : Nat} {F Z : List (Tx × Nat)} {n st : Int} {G : List Fi} (s : Tx) (w : World) (hd : Dk S w p fb sb F Z n st G) (hs : T64 s) (hc : crE F st n s ≠ 0) :
    Calls Tryd.prog 14 #[ptrV p, txV s] w fun e w' => e = .returned (errV (crE F st n s)) ∧ Below w.heap.size w w' := by
  have b1 : Below w.heap.size w (w.alloc (.cells #[.string ⟨s.toArray⟩] 9)) := (Below.refl _ _).alloc (Nat.le_refl _) _
  have R := ready_any (.slice (some ⟨w.heap.size, 0, none⟩) 1 1) [s] _ (hd.below b1) (names1 w s)
  have HF : Hid (∀ w', Below w.heap.size w w' → Dk S w' p fb sb F Z n st G) := fun w' hb => hd.below hb
  have HB : Hid (Below w.heap.size w (w.alloc (.cells #[.string ⟨s.toArray⟩] 9)) ∧ w.heap.size ≤ (w.alloc (.cells #[.string ⟨s.toArray⟩] 9)).heap.size) := ⟨b1, b1.size⟩
  clear hd b1
  unfold crE at hc ⊢
  unfold ptrV txV at *
  generalize rdy st n [s] = r at *
  by_cases hr : r = 0
  · subst hr
    simp only [errV, if_true] at R
    simp only [if_true] at hc ⊢
    obtain ⟨g, hg⟩ : ∃ g, fk F s = some g := by
      cases hg : fk F s with
      | none => rw [hg] at hc; exact absurd rfl hc
      | some g => exact ⟨g, rfl⟩
    have HL : Hid (∀ w', Dk S w' p fb sb F Z n st G → (Instr.lookup 49 (.map (some fb)) (.string ⟨s.toArray⟩) true).run Tryd.prog w' = .ok (.tuple #[ptrV g, .bool true]) w') := fun w' h => by have := h.look hs; rw [hg] at this; exact this
    rw [hg]
    clear hc hg
    go_enter Tryd.func14, Tryd.ntmps14
    go_wp2_with (go_at_call 31; refine R.mono ?_; rintro e w1 ⟨rfl, hb1⟩
                 have HB1 : Hid (Below w.heap.size w w1) := HB.out.1.trans (hb1.mono HB.out.2)
                 have c0 : w1.cell? ⟨p, 0, none⟩ = some (.map (some fb)) := Lib.cell_of_heap (HF.out w1 HB1.out).box 0
                 have L1 := HL.out w1 (HF.out w1 HB1.out)
                 unfold ptrV at L1
                 clear hb1)
    go_ret
    exact ⟨rfl, HB1.out⟩
  · rw [if_neg hr]
    have he : errV r = .iface 66 (.int .i64 r) := by unfold errV; rw [if_neg hr]
    rw [he] at R ⊢
    clear he hr hc
    go_enter Tryd.func14, Tryd.ntmps14
    go_wp2_with (go_at_call 31; refine R.mono ?_; rintro e w1 ⟨rfl, hb1⟩
                 have HB1 : Hid (Below w.heap.size w w1) := HB.out.1.trans (hb1.mono HB.out.2)
                 clear hb1)
    go_ret
    exact ⟨rfl, HB1.out⟩

theorem fresh_file {S : Nat → Prop} (w : World) (hS : ∀ k, w.heap.size ≤ k → S k) : FileAt S (w.alloc (.cells #[.slice none 0 0, .int .i64 0] 71)) ⟨w.heap.size, .slice none 0 0, [], 0⟩ :=
  ⟨(MapKept.heap_alloc _ _).1, World.ownsRow_nil _ _ _ _, by simp, by simp, hS _ (Nat.le_refl _), (fun b h => by cases h)⟩

theorem ptrs_put (F : List (Tx × Nat)) (s : Tx) (g : Nat) (h : fk F s = none) : putL (ptrs F) s (ptrV g) = ptrs (F ++ [(s, g)]) := by
  rw [putL_new (by rw [lk_ptrs, h]; rfl)]
  simp [ptrs]

def MadeP (S : Nat → Prop) (w : World) (p fb sb : Nat) (F Z : List (Tx × Nat)) (n st : Int) (G : List Fi) (s : Tx) (e : Ending) (w' : World) : Prop :=
  e = .returned .nilIface ∧ Kp S w w' ∧ ∃ g, Dk S w' p fb sb (F ++ [(s, g)]) Z (n + 1) st (G ++ [⟨g, .slice none 0 0, [], 0⟩])

set_option maxRecDepth 100000 in
set_option maxHeartbeats 2000000 in
theorem create_yes {S : Nat → Prop} {p fb sb : Nat} {F Z : List (Tx × Nat)} {n st : Int} {G : List Fi} (s : Tx) (w : World) (hS : ∀ k, w.heap.size ≤ k → S k) (hd : Dk S w p fb sb F Z n st G) (hs : T64 s) (hn : 0 ≤ n ∧ n < 1000000) (hF : F.length < 1000) (hc : crE F st n s = 0) :
    Calls Tryd.prog 14 #[ptrV p, txV s] w fun e w' => MadeP S w p fb sb F Z n st G s e w' := by
  have b1 : Below w.heap.size w (w.alloc (.cells #[.string ⟨s.toArray⟩] 9)) := (Below.refl _ _).alloc (Nat.le_refl _) _
  have R := ready_any (.slice (some ⟨w.heap.size, 0, none⟩) 1 1) [s] _ (hd.below b1) (names1 w s)
  have HF : Hid (∀ w', Below w.heap.size w w' → Dk S w' p fb sb F Z n st G) := fun w' hb => hd.below hb
  have HB : Hid (Below w.heap.size w (w.alloc (.cells #[.string ⟨s.toArray⟩] 9)) ∧ w.heap.size ≤ (w.alloc (.cells #[.string ⟨s.toArray⟩] 9)).heap.size) := ⟨b1, b1.size⟩
  have hr : rdy st n [s] = 0 ∧ fk F s = none := by
    unfold crE at hc
    by_cases h : rdy st n [s] = 0
    · rw [if_pos h] at hc
      refine ⟨h, ?_⟩
      cases hg : fk F s with
      | none => rfl
      | some g => rw [hg] at hc; simp at hc
    · rw [if_neg h] at hc; exact absurd hc h
  rw [hr.1] at R
  simp only [errV, if_true] at R
  have HP : Hid (∀ w1, Below w.heap.size w w1 → ∃ w3, (Instr.mapUpdate 49 (.map (some fb)) (.string ⟨s.toArray⟩) (.pointer (some ⟨w1.heap.size, 0, none⟩))).run Tryd.prog (w1.alloc (.cells #[.slice none 0 0, .int .i64 0] 71)) = .ok () w3 ∧
      Dk S w3 p fb sb (F ++ [(s, w1.heap.size)]) Z n st (G ++ [⟨w1.heap.size, .slice none 0 0, [], 0⟩]) ∧ Kp S w w3) := fun w1 hb => by
    have d1 := hd.below hb
    have hS1 : ∀ k, w1.heap.size ≤ k → S k := fun k hk => hS k (Nat.le_trans hb.size hk)
    have ba : Below w1.heap.size w1 (w1.alloc (.cells #[.slice none 0 0, .int .i64 0] 71)) := (Below.refl _ _).alloc (Nat.le_refl _) _
    have d2 := d1.more ba (fresh_file w1 hS1) (Nat.le_refl _) (fun b h => by cases h)
    obtain ⟨w3, q1, q2, q3⟩ := d2.mf.put (T := 49) (E := 62) Tryd.underlying49 hs (by unfold ptrs; rw [List.length_map]; omega) (ptrV w1.heap.size)
    rw [ptrs_put F s _ hr.2] at q2
    refine ⟨w3, q1, d2.turned q3 q2 (fun q hq => ?_), ((Kp.of hb).alloc _).trans (turned_kp q3 d2.sfb)⟩
    rcases List.mem_append.1 hq with hq | hq
    · obtain ⟨x, hx, e⟩ := d1.inF q hq
      exact ⟨x, List.mem_append_left _ hx, e⟩
    · rw [List.mem_singleton.1 hq]
      exact ⟨_, List.mem_append_right _ (List.mem_singleton.2 rfl), rfl⟩
  have HL : Hid (∀ w', Dk S w' p fb sb F Z n st G → (Instr.lookup 49 (.map (some fb)) (.string ⟨s.toArray⟩) true).run Tryd.prog w' = .ok (.tuple #[.pointer none, .bool false]) w') := fun w' h => by have := h.look hs; rw [hr.2] at this; exact this
  obtain ⟨n0, n1⟩ := hn
  clear hd b1 hc hr hF
  unfold ptrV txV
  go_enter Tryd.func14, Tryd.ntmps14
  go_wp2_with (go_at_call 31; refine R.mono ?_; rintro e w1 ⟨rfl, hb1⟩
               have HB1 : Hid (Below w.heap.size w w1) := HB.out.1.trans (hb1.mono HB.out.2)
               have c0 : w1.cell? ⟨p, 0, none⟩ = some (.map (some fb)) := Lib.cell_of_heap (HF.out w1 HB1.out).box 0
               have L1 := HL.out w1 (HF.out w1 HB1.out)
               obtain ⟨w3, q1, q2, q3⟩ := HP.out w1 HB1.out
               have c2 : w3.cell? ⟨p, 2, none⟩ = some (.int .i64 n) := Lib.cell_of_heap q2.box 2
               have f2 : w3.frozen? ⟨p, 2, none⟩ = false := Lib.frozen_of_heap q2.box 2
               have HD : Hid (Dk S (w3.setCell ⟨p, 2, none⟩ (.int .i64 (n + 1))) p fb sb (F ++ [(s, w1.heap.size)]) Z (n + 1) st (G ++ [⟨w1.heap.size, .slice none 0 0, [], 0⟩]) ∧ Kp S w (w3.setCell ⟨p, 2, none⟩ (.int .i64 (n + 1)))) := ⟨q2.setN _, q3.set 2 _ q2.sp⟩
               clear hb1 q2 q3 HB HF HL HP)
  go_ret
  exact ⟨rfl, HD.out.2, _, HD.out.1⟩
end Go.Proofs.YtcdpcjafomfddaaDoor
