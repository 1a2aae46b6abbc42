/-
  What is proved: the methods of package change's reader that read lists, values, ops and changes, called with any bytes, read as the mathematics says, and turn nothing but the reader.
  Conditions: the bytes lie in memory, and so does the reader.
-/
import Derived.Test.YtgecgemfniiciaaGreatDoorCRead
namespace Go.Proofs.YtgecgemfniiciaaGreatDoor
open Go.RowKit

theorem RdAt.below {w0 w w' : World} {g B : Nat} {s : St} (h : RdAt w0 w g s) (hb : Below B w w') (hg : g < B) : RdAt w0 w' g s := by
  obtain ⟨v, h1, hw, h2⟩ := h.box
  have hl := h.low
  exact ⟨h.low, h.bel.trans (hb.mono (by omega)), v, h1, hw, by rw [hb.block g hg]; exact h2⟩

theorem Off.more {g : Nat} {w w1 w2 : World} (h : Off g w w1) (k : Below w.heap.size w1 w2) : Off g w w2 :=
  ⟨k.os.trans h.os, k.tape.trans h.tape, k.output.trans h.output, Nat.le_trans h.size k.size, fun b hb hg => (k.block b hb).trans (h.block b hb hg)⟩

theorem RdAt.own {w0 w w' : World} {g B e s n : Nat} {st : St} {v : Value} {xs : List Value} (h : RdAt w0 w g st) (ho : Off g w w') (hT : 54 ≠ e) (hr : w.ownsRow B e s v n xs) : w'.ownsRow B e s v n xs := by
  obtain ⟨u, _, _, h2⟩ := h.box
  exact own_off hr h2 hT ho

theorem infoR : (Tryz.prog.info? 41).map (fun i => (i.zero, i.size, i.bytes)) = some (some (.agg #[.int .i64 0, .int .i64 0]), 2, 16) := by kernel_rfl
theorem infoD : (Tryz.prog.info? 43).map (fun i => (i.zero, i.size, i.bytes)) = some (some (.agg #[.int .i64 0, .int .i64 0]), 2, 16) := by kernel_rfl

set_option maxRecDepth 100000 in
set_option maxHeartbeats 4000000 in
theorem refs_any (w0 w : World) (g : Nat) (s : St) (h : RdAt w0 w g s) :
    Calls Tryz.prog 21 #[.pointer (some ⟨g, 0, none⟩)] w fun e w' => ∃ u, e = .returned u ∧ RowPr 41 w.heap.size u (rPairs 12 s).1 w' ∧ RdAt w0 w' g (rPairs 12 s).2 ∧ Off g w w' := by
  obtain ⟨i0, hi, hz0, hz1, hz2⟩ := info_parts infoR
  have hg := h.lt
  have hr := rCnt_range 12 (by decide) s
  have HP : Hid (rPairs 12 s = rMany rId (rCnt 12 s).1.toNat (rCnt 12 s).2) := rfl
  go_enter Tryz.func21, Tryz.ntmps21
  go_wp2_with fail
  refine (count_any w0 w g s 12 h).mono ?_
  rintro e w1 ⟨rfl, R1, O1⟩
  generalize (rCnt 12 s).1 = n at *
  generalize (rCnt 12 s).2 = s1 at *
  obtain ⟨N, rfl⟩ : ∃ N : Nat, n = N := ⟨n.toNat, by omega⟩
  rw [Int.toNat_natCast] at HP
  go_wp2_with fail
  go_loopw [2, 5] (fun o i wr => ∃ k : Nat, k ≤ N ∧ i = .int .i64 k ∧ RowPr 41 w.heap.size o (rMany rId k s1).1 wr ∧ RdAt w0 wr g (rMany rId k s1).2 ∧ Off g w wr) (fun _ i _ => N - (RowKit.intOf i).toNat)
  case atStart => exact ⟨0, Nat.zero_le _, rfl, World.ownsRow_nil w1 w.heap.size 41 2, R1, O1⟩
  case round =>
    clear R1 O1
    obtain ⟨k, hk, rfl, hh, hR, hO⟩ := hrel
    by_cases hlt : k < N
    · have g1 : (k : Int) < N := by omega
      have HL : Hid (rMany rId (k + 1) s1 = ((rMany rId k s1).1 ++ [((rNum (rMany rId k s1).2).1, (rNum (rNum (rMany rId k s1).2).2).1)], (rNum (rNum (rMany rId k s1).2).2).2)) := rfl
      have hL : (rMany rId k s1).1.length ≤ 12 := by rw [rMany_len]; omega
      generalize (rMany rId k s1).1 = L at *
      generalize (rMany rId k s1).2 = st at *
      go_wp2_with fail
      refine (number_any w0 wr g st hR).mono ?_
      rintro e w2 ⟨rfl, R2, O2⟩
      have H2 := hR.own O2 (by decide) hh
      go_wp2_with fail
      refine (number_any w0 w2 g _ R2).mono ?_
      rintro e w3 ⟨rfl, R3, O3⟩
      have H3 := R2.own O3 (by decide) H2
      have OO := (hO.trans O2).trans O3
      have hz3 := OO.size
      have hl := rowPr_len H3
      clear H2 R2 O2 O3 hR hh hO
      generalize (rNum st).1 = x at *
      generalize (rNum (rNum st).2).1 = y at *
      go_wp2_with (first | (at_builtin; refine wpList_append_own _ rfl _ _ 23 rfl w.heap.size 41 i0 (.agg #[.int .i64 0, .int .i64 0]) 2 16 Tryz.underlying23 hi hz0 hz1 hz2 rfl (by decide) _ _ _ rfl (H3.alloc _) ⟨w3.heap.size, 0, none⟩ 1 1 (pcells [(x, y)]) rfl rfl ?c1 ?c2 ?c3 ?c4 ?c5 ?_))
      case c1 =>
        intro j u hj
        match j, hj with
        | 0, hj => simp [pcells] at hj; subst hj; simp [Addr.add]
        | 1, hj => simp [pcells] at hj; subst hj; simp [Addr.add]
      case c2 => intro u hu; simp [pcells] at hu; rcases hu with rfl | rfl <;> rfl
      case c3 => unfold maxLen; omega
      case c4 => omega
      case c5 => simp; omega
      intro v2 w4 hown hgrow _
      obtain ⟨R4, B4⟩ := rowPr_grown (m := [(x, y)]) H3 (Below.refl _ w3) hz3 hgrow hown
      have RD4 := R3.below B4 hg
      have O4 := OO.more B4
      clear hown hgrow
      go_wp2
      go_roundw
      case rel => exact ⟨k + 1, hlt, by go_num, by rw [HL.out]; exact R4, by rw [HL.out]; exact RD4, O4⟩
      case measure => simp [RowKit.intOf]; omega
    · obtain rfl : k = N := by omega
      have g1 : ¬ (k : Int) < k := by omega
      go_wp2
      go_ret
      exact ⟨_, rfl, by rw [HP.out]; exact hh, by rw [HP.out]; exact hR, hO⟩

set_option maxRecDepth 100000 in
set_option maxHeartbeats 4000000 in
theorem ids_any (w0 w : World) (g : Nat) (s : St) (h : RdAt w0 w g s) :
    Calls Tryz.prog 66 #[.pointer (some ⟨g, 0, none⟩)] w fun e w' => ∃ u, e = .returned u ∧ RowPr 43 w.heap.size u (rPairs 12 s).1 w' ∧ RdAt w0 w' g (rPairs 12 s).2 ∧ Off g w w' := by
  obtain ⟨i0, hi, hz0, hz1, hz2⟩ := info_parts infoD
  have hg := h.lt
  have hr := rCnt_range 12 (by decide) s
  have HP : Hid (rPairs 12 s = rMany rId (rCnt 12 s).1.toNat (rCnt 12 s).2) := rfl
  go_enter Tryz.func66, Tryz.ntmps66
  go_wp2_with fail
  refine (count_any w0 w g s 12 h).mono ?_
  rintro e w1 ⟨rfl, R1, O1⟩
  generalize (rCnt 12 s).1 = n at *
  generalize (rCnt 12 s).2 = s1 at *
  obtain ⟨N, rfl⟩ : ∃ N : Nat, n = N := ⟨n.toNat, by omega⟩
  rw [Int.toNat_natCast] at HP
  go_wp2_with fail
  go_loopw [2, 5] (fun o i wr => ∃ k : Nat, k ≤ N ∧ i = .int .i64 k ∧ RowPr 43 w.heap.size o (rMany rId k s1).1 wr ∧ RdAt w0 wr g (rMany rId k s1).2 ∧ Off g w wr) (fun _ i _ => N - (RowKit.intOf i).toNat)
  case atStart => exact ⟨0, Nat.zero_le _, rfl, World.ownsRow_nil w1 w.heap.size 43 2, R1, O1⟩
  case round =>
    clear R1 O1
    obtain ⟨k, hk, rfl, hh, hR, hO⟩ := hrel
    by_cases hlt : k < N
    · have g1 : (k : Int) < N := by omega
      have HL : Hid (rMany rId (k + 1) s1 = ((rMany rId k s1).1 ++ [(rId (rMany rId k s1).2).1], (rId (rMany rId k s1).2).2)) := rfl
      have hL : (rMany rId k s1).1.length ≤ 12 := by rw [rMany_len]; omega
      generalize (rMany rId k s1).1 = L at *
      generalize (rMany rId k s1).2 = st at *
      go_wp2_with fail
      refine (id_any w0 wr g st hR).mono ?_
      rintro e w3 ⟨rfl, R3, O2⟩
      have H3 := hR.own O2 (by decide) hh
      have OO := hO.trans O2
      have hz3 := OO.size
      have hl := rowPr_len H3
      clear O2 hR hh hO
      obtain ⟨⟨x, y⟩, hxy⟩ : ∃ q, (rId st).1 = q := ⟨_, rfl⟩
      simp only [hxy] at HL ⊢
      generalize (rId st).2 = st2 at *
      clear hxy
      go_wp2_with (first | (at_builtin; refine wpList_append_own _ rfl _ _ 46 rfl w.heap.size 43 i0 (.agg #[.int .i64 0, .int .i64 0]) 2 16 Tryz.underlying46 hi hz0 hz1 hz2 rfl (by decide) _ _ _ rfl (H3.alloc _) ⟨w3.heap.size, 0, none⟩ 1 1 (pcells [(x, y)]) rfl rfl ?c1 ?c2 ?c3 ?c4 ?c5 ?_))
      case c1 =>
        intro j u hj
        match j, hj with
        | 0, hj => simp [pcells] at hj; subst hj; simp [Addr.add]
        | 1, hj => simp [pcells] at hj; subst hj; simp [Addr.add]
      case c2 => intro u hu; simp [pcells] at hu; rcases hu with rfl | rfl <;> rfl
      case c3 => unfold maxLen; omega
      case c4 => omega
      case c5 => simp; omega
      intro v2 w4 hown hgrow _
      obtain ⟨R4, B4⟩ := rowPr_grown (m := [(x, y)]) H3 (Below.refl _ w3) hz3 hgrow hown
      have RD4 := R3.below B4 hg
      have O4 := OO.more B4
      clear hown hgrow
      go_wp2
      go_roundw
      case rel => exact ⟨k + 1, hlt, by go_num, by rw [HL.out]; exact R4, by rw [HL.out]; exact RD4, O4⟩
      case measure => simp [RowKit.intOf]; omega
    · obtain rfl : k = N := by omega
      have g1 : ¬ (k : Int) < k := by omega
      go_wp2
      go_ret
      exact ⟨_, rfl, by rw [HP.out]; exact hh, by rw [HP.out]; exact hR, hO⟩

/-- The cells of a box, all set. -/
theorem RdAt.sets {w0 w : World} {g b : Nat} {s : St} (h : RdAt w0 w g s) (hb : g < b) (l : List Value) : ∀ (i : Nat), RdAt w0 ((l.zipIdx i).foldl (fun w q => w.setCell ⟨b, q.2, none⟩ q.1) w) g s := by
  induction l generalizing w with
  | nil => intro i; exact h
  | cons v r ih => intro i; rw [List.zipIdx_cons, List.foldl_cons]; exact ih (h.set hb i v) (i + 1)

theorem Off.sets {g b : Nat} {w w' : World} (h : Off g w w') (hb : w.heap.size ≤ b) (l : List Value) : ∀ (i : Nat), Off g w ((l.zipIdx i).foldl (fun w q => w.setCell ⟨b, q.2, none⟩ q.1) w') := by
  induction l generalizing w' with
  | nil => intro i; exact h
  | cons v r ih => intro i; rw [List.zipIdx_cons, List.foldl_cons]; exact ih (h.setNew hb i v) (i + 1)

theorem sets_list (l : List Value) : ∀ (i : Nat) (cs : Array Value), i + l.length ≤ cs.size → ((l.zipIdx i).foldl (fun c q => c.setIfInBounds q.2 q.1) cs).toList = cs.toList.take i ++ l ++ cs.toList.drop (i + l.length) := by
  induction l with
  | nil => intro i cs _; simp
  | cons v r ih =>
    intro i cs h
    rw [List.length_cons] at h
    rw [List.zipIdx_cons, List.foldl_cons, ih (i + 1) _ (by simp; omega)]
    rw [Array.toList_setIfInBounds, List.take_set, List.drop_set_of_lt (by omega), List.length_cons, show i + 1 + r.length = i + (r.length + 1) from by omega]
    rw [List.take_succ_eq_append_getElem (by simp; omega), List.set_append_right _ _ (by rw [List.length_take]; omega), List.length_take, Nat.min_eq_left (by simp; omega), Nat.sub_self]
    simp

theorem heap_sets {g : Nat} {T : TypeId} (l : List Value) : ∀ (i : Nat) (w : World) (cs : Array Value), w.heap[g]? = some (.cells cs T) → ((l.zipIdx i).foldl (fun w q => w.setCell ⟨g, q.2, none⟩ q.1) w).heap[g]? = some (.cells ((l.zipIdx i).foldl (fun c q => c.setIfInBounds q.2 q.1) cs) T) := by
  induction l with
  | nil => intro i w cs h; exact h
  | cons v r ih => intro i w cs h; rw [List.zipIdx_cons, List.foldl_cons, List.foldl_cons]; exact ih (i + 1) _ _ (set_at h i v)

theorem heap_all {g : Nat} {T : TypeId} (l : List Value) (w : World) (cs : Array Value) (h : w.heap[g]? = some (.cells cs T)) (hl : l.length = cs.size) : ((l.zipIdx 0).foldl (fun w q => w.setCell ⟨g, q.2, none⟩ q.1) w).heap[g]? = some (.cells l.toArray T) := by
  rw [heap_sets l 0 w cs h]
  have e := sets_list l 0 cs (by omega)
  rw [List.take_zero, List.nil_append, List.drop_eq_nil_of_le (by simp; omega), List.append_nil] at e
  congr 2
  rw [← Array.toList_inj, e]

set_option maxRecDepth 100000 in
set_option maxHeartbeats 4000000 in
theorem value_any (w0 w : World) (g : Nat) (s : St) (h : RdAt w0 w g s) :
    Calls Tryz.prog 65 #[.pointer (some ⟨g, 0, none⟩)] w fun e w' => e = .returned (rVal s).1.val ∧ RdAt w0 w' g (rVal s).2 ∧ Off g w w' := by
  have BA : Below w.heap.size w (w.alloc (.cells #[.int .i64 0, .int .i64 0, .string .empty, .int .i64 0, .int .i64 0] 45)) := (Below.refl _ w).alloc (Nat.le_refl _) _
  have hbx : (w.alloc (.cells #[.int .i64 0, .int .i64 0, .string .empty, .int .i64 0, .int .i64 0] 45)).heap[w.heap.size]? = some (.cells #[.int .i64 0, .int .i64 0, .string .empty, .int .i64 0, .int .i64 0] 45) := (MapKept.heap_alloc w _).1
  have hg := h.lt
  go_enter Tryz.func65, Tryz.ntmps65
  go_wp2_with fail
  refine (number_any w0 _ g s (h.off BA)).mono ?_
  rintro e w1 ⟨rfl, R1, O1⟩
  have hb1 := O1.heap hbx (by omega)
  go_wp2_with fail
  refine (signed_any w0 w1 g _ R1).mono ?_
  rintro e w2 ⟨rfl, R2, O2⟩
  have hb2 := O2.heap hb1 (by omega)
  go_wp2_with fail
  refine (text_any w0 w2 g _ 60 (by decide) R2).mono ?_
  rintro e w3 ⟨rfl, R3, O3⟩
  have hb3 := O3.heap hb2 (by omega)
  have HV : Hid ((rVal s).1.val = .agg #[.int .i64 (rNum s).1, .int .i64 (rSig (rNum s).2).1, .string (asText (rTxt 60 (rSig (rNum s).2).2).1), .int .i64 0, .int .i64 0] ∧ (rVal s).2 = (rTxt 60 (rSig (rNum s).2).2).2) := ⟨rfl, rfl⟩
  have OO := ((O1.trans O2).trans O3).ahead
  clear O1 O2 O3 R1 R2 hb1 hb2 hbx BA
  generalize (rTxt 60 (rSig (rNum s).2).2).2 = s3 at *
  generalize asText (rTxt 60 (rSig (rNum s).2).2).1 = t at *
  generalize (rSig (rNum s).2).1 = n at *
  generalize (rNum s).1 = k at *
  have c0 : w3.cell? ⟨w.heap.size, 0, none⟩ = some (.int .i64 0) := Lib.cell_of_heap hb3 0
  have c1 : w3.cell? ⟨w.heap.size, 1, none⟩ = some (.int .i64 0) := Lib.cell_of_heap hb3 1
  have c2 : w3.cell? ⟨w.heap.size, 2, none⟩ = some (.string .empty) := Lib.cell_of_heap hb3 2
  have c3 : w3.cell? ⟨w.heap.size, 3, none⟩ = some (.int .i64 0) := Lib.cell_of_heap hb3 3
  have c4 : w3.cell? ⟨w.heap.size, 4, none⟩ = some (.int .i64 0) := Lib.cell_of_heap hb3 4
  have cf := Lib.frozen_of_heap hb3
  go_wp2
  have RF := R3.sets hg [.int .i64 k, .int .i64 n, .string t, .int .i64 0, .int .i64 0] 0
  have OF := OO.sets (Nat.le_refl _) [.int .i64 k, .int .i64 n, .string t, .int .i64 0, .int .i64 0] 0
  have hF := heap_all [.int .i64 k, .int .i64 n, .string t, .int .i64 0, .int .i64 0] w3 _ hb3 rfl
  simp only [List.zipIdx_cons, List.zipIdx_nil, List.foldl_cons, List.foldl_nil, Nat.zero_add, Nat.reduceAdd] at RF OF hF
  clear c0 c1 c2 c3 c4 cf
  generalize ((((w3.setCell ⟨w.heap.size, 0, none⟩ (.int .i64 k)).setCell ⟨w.heap.size, 1, none⟩ (.int .i64 n)).setCell ⟨w.heap.size, 2, none⟩ (.string t)).setCell ⟨w.heap.size, 3, none⟩ (.int .i64 0)).setCell ⟨w.heap.size, 4, none⟩ (.int .i64 0) = W at *
  have q0 : W.cell? ⟨w.heap.size, 0, none⟩ = some (.int .i64 k) := Lib.cell_of_heap hF 0
  have q1 : W.cell? ⟨w.heap.size, 1, none⟩ = some (.int .i64 n) := Lib.cell_of_heap hF 1
  have q2 : W.cell? ⟨w.heap.size, 2, none⟩ = some (.string t) := Lib.cell_of_heap hF 2
  have q3 : W.cell? ⟨w.heap.size, 3, none⟩ = some (.int .i64 0) := Lib.cell_of_heap hF 3
  have q4 : W.cell? ⟨w.heap.size, 4, none⟩ = some (.int .i64 0) := Lib.cell_of_heap hF 4
  exact bodyPost_ret (v := .agg #[.int .i64 k, .int .i64 n, .string t, .int .i64 0, .int .i64 0]) (by simp [results, Tryz.results65, go_sem, q0, q1, q2, q3, q4]) rfl ⟨by rw [HV.out.1], by rw [HV.out.2]; exact RF, OF⟩
end Go.Proofs.YtgecgemfniiciaaGreatDoor
