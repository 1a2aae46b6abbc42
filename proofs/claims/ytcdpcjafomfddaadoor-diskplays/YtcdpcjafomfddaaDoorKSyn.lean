/-
  What is proved: what a disk's SyncNames does, and what its Names answers.
  Conditions: as each theorem says.
-/
import Derived.Test.YtcdpcjafomfddaaDoorKRen
import Derived.Test.YtcdpcjafomfddaaDoorKLeft
import Derived.Test.YtcdpcjafomfddaaDoorShelf
namespace Go.Proofs.YtcdpcjafomfddaaDoor
open Go.RowKit Go.Maps Go.Sort Go.Shelf

theorem cloneM_any (b : Nat) (L : List (Tx × Value)) (w : World) (h : MapS w b L) :
    Calls Tryd.prog 33 #[.map (some b)] w fun e w' => e = .returned (.map (some w.heap.size)) ∧ MapS w' w.heap.size L ∧ Below w.heap.size w w' := by
  obtain ⟨es, clock, hb⟩ := h.obj
  have := AnyW.maps_Clone Tryd.cloneM b es clock w hb
  change Calls Tryd.prog 33 _ _ _ at this
  refine this.mono ?_
  rintro e w' ⟨rfl, rfl⟩
  exact ⟨rfl, h.copy (by rw [(MapKept.heap_alloc w _).1, hb]), (Below.refl _ _).alloc (Nat.le_refl _) _⟩

def SynP (S : Nat → Prop) (w : World) (p fb : Nat) (F : List (Tx × Nat)) (n st : Int) (G : List Fi) (e : Ending) (w' : World) : Prop :=
  e = .returned .nilIface ∧ Kp S w w' ∧ ∃ sb, Dk S w' p fb sb F F (n + 1) st G

theorem names0 (w : World) : IsNames w (.slice none 0 0) [] := ⟨_, _, rfl, by simp, fun h => absurd rfl h⟩

set_option maxRecDepth 100000 in
set_option maxHeartbeats 2000000 in
theorem syncN_no {S : Nat → Prop} {p fb sb : Nat} {F Z : List (Tx × Nat)} {n st : Int} {G : List Fi} (w : World) (hd : Dk S w p fb sb F Z n st G) (hr : rdy st n [] ≠ 0) :
    Calls Tryd.prog 17 #[ptrV p] w fun e w' => e = .returned (errV (rdy st n [])) ∧ Below w.heap.size w w' := by
  have R := ready_any (.slice none 0 0) [] w hd (names0 w)
  have he : errV (rdy st n []) = .iface 66 (.int .i64 (rdy st n [])) := by unfold errV; rw [if_neg hr]
  rw [he] at R ⊢
  generalize rdy st n [] = r at *
  unfold ptrV at *
  clear hd he hr
  go_enter Tryd.func17, Tryd.ntmps17
  go_wp2_with (go_at_call 31; refine R.mono ?_; rintro e w1 ⟨rfl, hb1⟩; have HB1 : Hid (Below w.heap.size w w1) := hb1; clear hb1)
  go_ret
  exact ⟨rfl, HB1.out⟩

theorem Dk.setS {S : Nat → Prop} {w : World} {p fb sb : Nat} {F Z Z' : List (Tx × Nat)} {n st : Int} {G : List Fi} (h : Dk S w p fb sb F Z n st G) {m : Nat} (hm : MapS w m (ptrs Z')) (hne : fb ≠ m) (hz : ∀ q ∈ Z', ∃ x ∈ G, x.g = q.2) (hS : S m) :
    Dk S (w.setCell ⟨p, 1, none⟩ (.map (some m))) p fb m F Z' n st G := by
  have hk : ∀ k, k ≠ p → k < w.heap.size → (w.setCell ⟨p, 1, none⟩ (.map (some m))).heap[k]? = w.heap[k]? := fun k hk _ => Below.heap_setCell _ _ _ _ hk
  refine h.boxed ?_ hk (h.mf.keep (hk _ (map_ne h.box h.mf).symm h.mf.lt)) (hm.keep (hk _ (map_ne h.box hm).symm hm.lt)) hne h.inF hz h.sfb hS
  rw [heap_setCell_same w p 1 _ _ _ h.box]
  rfl

set_option maxRecDepth 100000 in
set_option maxHeartbeats 2000000 in
theorem syncN_yes {S : Nat → Prop} {p fb sb : Nat} {F Z : List (Tx × Nat)} {n st : Int} {G : List Fi} (w : World) (hS : ∀ k, w.heap.size ≤ k → S k) (hd : Dk S w p fb sb F Z n st G) (hn : 0 ≤ n ∧ n < 1000000) (hr : rdy st n [] = 0) :
    Calls Tryd.prog 17 #[ptrV p] w fun e w' => SynP S w p fb F n st G e w' := by
  have R := ready_any (.slice none 0 0) [] w hd (names0 w)
  rw [hr] at R
  simp only [errV, if_true] at R
  have HC : Hid (∀ w1, Below w.heap.size w w1 → w1.cell? ⟨p, 0, none⟩ = some (.map (some fb)) ∧ Calls Tryd.prog 33 #[.map (some fb)] w1 fun e w' => ∃ m, e = .returned (.map (some m)) ∧ w'.cell? ⟨p, 1, none⟩ = some (.map (some sb)) ∧ w'.frozen? ⟨p, 1, none⟩ = false ∧ Dk S (w'.setCell ⟨p, 1, none⟩ (.map (some m))) p fb m F F n st G ∧ Kp S w (w'.setCell ⟨p, 1, none⟩ (.map (some m)))) := fun w1 hb => by
    have d1 := hd.below hb
    refine ⟨Lib.cell_of_heap d1.box 0, (cloneM_any fb _ w1 d1.mf).mono ?_⟩
    rintro e w' ⟨rfl, hm, hb'⟩
    have d2 := d1.below hb'
    exact ⟨_, rfl, Lib.cell_of_heap d2.box 1, Lib.frozen_of_heap d2.box 1, d2.setS hm (by have := d1.mf.lt; omega) d2.inF (hS _ hb.size), ((Kp.of hb).trans (Kp.of hb')).set 1 _ d2.sp⟩
  obtain ⟨post, hpost⟩ : ∃ post, post = fun e w' => SynP S w p fb F n st G e w' := ⟨_, rfl⟩
  rw [← hpost]
  have HPO : Hid (post = _) := hpost
  obtain ⟨n0, n1⟩ := hn
  unfold ptrV at *
  clear hd hr hS hpost
  go_enter Tryd.func17, Tryd.ntmps17
  go_wp2_with (first
    | (go_at_call 31; refine R.mono ?_; rintro e w1 ⟨rfl, hb1⟩
       obtain ⟨C0, L1⟩ := HC.out w1 hb1
       clear hb1 HC)
    | (go_at_call 33; refine L1.mono ?_; rintro e w2 ⟨m, rfl, C2, F2, D2, K2⟩
       have N2 : (w2.setCell ⟨p, 1, none⟩ (.map (some m))).cell? ⟨p, 2, none⟩ = some (.int .i64 n) := Lib.cell_of_heap D2.box 2
       have N3 : (w2.setCell ⟨p, 1, none⟩ (.map (some m))).frozen? ⟨p, 2, none⟩ = false := Lib.frozen_of_heap D2.box 2
       have HEND : Hid (post (.returned .nilIface) ((w2.setCell ⟨p, 1, none⟩ (.map (some m))).setCell ⟨p, 2, none⟩ (.int .i64 (n + 1)))) := by
         rw [HPO.out]
         exact ⟨rfl, K2.set 2 _ D2.sp, m, D2.setN _⟩
       clear D2 K2))
  exact HEND.out
end Go.Proofs.YtcdpcjafomfddaaDoor
