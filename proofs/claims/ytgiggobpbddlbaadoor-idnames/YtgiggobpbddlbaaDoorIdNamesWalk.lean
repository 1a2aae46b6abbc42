/-
  What is proved: the law IdNames, called with any two ids and any text, returns true, and nothing that was there has turned.
  Conditions: the package variables that it looks at lie as the text lays them; the text is no longer than a row's reach.
-/
import Derived.Test.YtgiggobpbddlbaaDoorTexts
import Derived.Test.YtgiggobpbddlbaaDoorRName
namespace Go.Proofs.YtgiggobpbddlbaaDoor
open Go.RowKit Go.Sort

/-- What the program's text lays, as far as the law looks at it. -/
def All (w : World) : Prop := Env w ∧ Et w
theorem All.below {w w' : World} (h : All w) (hb : Below w.heap.size w w') : All w' := ⟨h.1.below hb, h.2.below hb⟩

/-- The world in which two ids lie in boxes. -/
def box2 (w : World) (n a m b : Int) : World := (w.alloc (.cells #[.int .i64 n, .int .i64 a] 23)).alloc (.cells #[.int .i64 m, .int .i64 b] 23)
theorem box2_size (w : World) (n a m b : Int) : (box2 w n a m b).heap.size = w.heap.size + 2 := by simp [box2]
theorem box2_cells {w w' : World} {n a m b : Int} (B : Below (w.heap.size + 2) (box2 w n a m b) w') :
    (w'.cell? ⟨w.heap.size, 0, none⟩ = some (.int .i64 n) ∧ w'.cell? ⟨w.heap.size, 1, none⟩ = some (.int .i64 a)) ∧
    (w'.cell? ⟨w.heap.size + 1, 0, none⟩ = some (.int .i64 m) ∧ w'.cell? ⟨w.heap.size + 1, 1, none⟩ = some (.int .i64 b)) := by
  refine ⟨⟨?_, ?_⟩, ?_, ?_⟩
  · rw [B.cell (p := ⟨w.heap.size, 0, none⟩) (Nat.lt_add_of_pos_right (by omega)), box2, World.cell?_alloc_past _ _ _ (by simp), World.cell?_alloc_new]; rfl
  · rw [B.cell (p := ⟨w.heap.size, 1, none⟩) (Nat.lt_add_of_pos_right (by omega)), box2, World.cell?_alloc_past _ _ _ (by simp), World.cell?_alloc_new]; rfl
  · rw [B.cell (p := ⟨w.heap.size + 1, 0, none⟩) (Nat.lt_succ_self _), box2, World.cell?_alloc_at _ _ _ _ (by simp)]; rfl
  · rw [B.cell (p := ⟨w.heap.size + 1, 1, none⟩) (Nat.lt_succ_self _), box2, World.cell?_alloc_at _ _ _ _ (by simp)]; rfl

/-- What holds at each stop of the walk: all that was laid lies still. -/
structure At (w : World) (n a m b : Int) (w' : World) : Prop where
  box : Below (w.heap.size + 2) (box2 w n a m b) w'
  all : All w'

theorem At.size {w w' : World} {n a m b : Int} (h : At w n a m b w') : w.heap.size + 2 ≤ w'.heap.size := by
  have h1 := h.box.size
  have h2 := box2_size w n a m b
  omega
theorem At.next {w w' w2 : World} {n a m b : Int} (h : At w n a m b w') (hb : Below w'.heap.size w' w2) : At w n a m b w2 := ⟨h.box.trans (hb.mono h.size), h.all.below hb⟩
theorem At.start {w : World} (n a m b : Int) (h : All w) : At w n a m b (box2 w n a m b) :=
  ⟨Below.refl _ _, h.below (((Below.refl _ _).alloc (Nat.le_refl _) _).alloc (by simp) _)⟩
theorem At.below {w w' : World} {n a m b : Int} (h : At w n a m b w') : Below w.heap.size w w' :=
  (((Below.refl _ w).alloc (Nat.le_refl _) _).alloc (by simp) _).trans (h.box.mono (by omega))

set_option maxHeartbeats 1000000 in
theorem idNames_yes (n a m b : Int) (t nm : ByteArray) (w : World) (hA : All w)
    (hId : ∀ w, Calls Tryd.prog 5 #[.agg #[.int .i64 n, .int .i64 a]] w fun e w' => e = .returned (.bool true) ∧ Below w.heap.size w w')
    (hName : ∀ w, Tab w → Calls Tryd.prog 6 #[.agg #[.int .i64 n, .int .i64 a]] w fun e w' => e = .returned (.string nm) ∧ Below w.heap.size w w')
    (hRName : ∀ w, Calls Tryd.prog 7 #[.agg #[.int .i64 n, .int .i64 a]] w fun e w' => e = .returned (.string nm) ∧ Below w.heap.size w w')
    (hCheck : ∀ w, Calls Tryd.prog 8 #[.agg #[.int .i64 n, .int .i64 a]] w fun e w' => e = .returned .nilIface ∧ Below w.heap.size w w') (x y : Int) (ok : Bool)
    (hR : ∀ w, Calls Tryd.prog 12 #[.string t] w fun e w' => e = .returned (.tuple #[.agg #[.int .i64 x, .int .i64 y], .bool ok]) ∧ Below w.heap.size w w')
    (hP : ∀ w, Env w → Calls Tryd.prog 13 #[.string t] w fun e w' => e = .returned (.tuple #[.agg #[.int .i64 x, .int .i64 y], errV ok]) ∧ Below w.heap.size w w') :
    Calls Tryd.prog 3 #[.agg #[.int .i64 n, .int .i64 a], .agg #[.int .i64 m, .int .i64 b], .string t] w fun e w' => e = .returned (.bool true) ∧ Below w.heap.size w w' := by
  have A0 := At.start n a m b hA
  generalize hl : lessB n a m b = L
  go_enter Tryd.func3, Tryd.ntmps3
  go_wp2_with fail
  refine (hId (box2 w n a m b)).mono ?_
  rintro e w1 ⟨rfl, hb⟩
  have A1 := A0.next hb
  clear hb
  obtain ⟨⟨p0, p1⟩, q0, q1⟩ := box2_cells A1.box
  go_wp2_with fail
  refine (hName _ A1.all.1.1).mono ?_
  rintro e w2 ⟨rfl, hb⟩
  have A2 := A1.next hb
  clear hb p0 p1 q0 q1 A1
  obtain ⟨⟨p0, p1⟩, q0, q1⟩ := box2_cells A2.box
  go_wp2_with fail
  refine (hRName _).mono ?_
  rintro e w3 ⟨rfl, hb⟩
  have A3 := A2.next hb
  clear hb p0 p1 q0 q1 A2
  obtain ⟨⟨p0, p1⟩, q0, q1⟩ := box2_cells A3.box
  go_wp2_with fail
  refine (hCheck _).mono ?_
  rintro e w4 ⟨rfl, hb⟩
  have A4 := A3.next hb
  clear hb p0 p1 q0 q1 A3
  obtain ⟨⟨p0, p1⟩, q0, q1⟩ := box2_cells A4.box
  go_wp2_with fail
  refine (error_nil _).mono ?_
  rintro e w5 ⟨rfl, hb⟩
  have A5 := A4.next hb
  clear hb p0 p1 q0 q1 A4
  obtain ⟨⟨p0, p1⟩, q0, q1⟩ := box2_cells A5.box
  go_wp2_with fail
  refine (less_any n a m b _).mono ?_
  rintro e w6 ⟨rfl, hb⟩
  rw [hl]
  have A6 := A5.next hb
  clear hb p0 p1 q0 q1 A5
  obtain ⟨⟨p0, p1⟩, q0, q1⟩ := box2_cells A6.box
  go_wp2_with fail
  refine (rLess_any n a m b _).mono ?_
  rintro e w7 ⟨rfl, hb⟩
  rw [hl]
  have A7 := A6.next hb
  clear hb p0 p1 q0 q1 A6
  obtain ⟨⟨p0, p1⟩, q0, q1⟩ := box2_cells A7.box
  go_wp2_with fail
  refine (hR _).mono ?_
  rintro e w8 ⟨rfl, hb⟩
  have A8 := A7.next hb
  clear hb p0 p1 q0 q1 A7
  have X8 : Below w8.heap.size w8 (w8.alloc (.cells #[.int .i64 x, .int .i64 y] 23)) := (Below.refl _ _).alloc (Nat.le_refl _) _
  have A8' := A8.next X8
  clear X8 hR A8
  cases ok
  · go_wp2_with fail
    refine (hP _ A8'.all.1).mono ?_
    rintro e w9 ⟨rfl, hb⟩
    have A9 := A8'.next hb
    have z8 : (w8.alloc (.cells #[.int .i64 x, .int .i64 y] 23)).heap.size = w8.heap.size + 1 := by simp
    rw [z8] at hb
    have z9 : w8.heap.size < w9.heap.size := by have := hb.size; omega
    have A9' := A9.next ((Below.refl _ _).alloc (Nat.le_refl _) (.cells #[.int .i64 x, .int .i64 y] 23))
    clear A9 z8
    rw [show errV false = .iface 39 (.int .i64 2) from rfl]
    go_wp2_with fail
    refine (error_errno 2 (w9.alloc (.cells #[.int .i64 x, .int .i64 y] 23)) A9'.all.2).mono ?_
    rintro e w10 ⟨rfl, hc⟩
    have A10 := A9'.next hc
    have z10 : (w9.alloc (.cells #[.int .i64 x, .int .i64 y] 23)).heap.size = w9.heap.size + 1 := by simp
    rw [z10] at hc
    obtain ⟨r0, r1, _, _⟩ := old_cells hc
    obtain ⟨s0, s1, _, _⟩ := old_cells ((hb.alloc (show w8.heap.size + 1 ≤ w9.heap.size from z9) (.cells #[.int .i64 x, .int .i64 y] 23)).trans (hc.mono (by omega)))
    clear hb hc A9' A8' z10
    go_wp2
    go_ret
    exact ⟨by simp, A10.below⟩
  · go_wp2_with fail
    refine (hP _ A8'.all.1).mono ?_
    rintro e w9 ⟨rfl, hb⟩
    have A9 := A8'.next hb
    have z8 : (w8.alloc (.cells #[.int .i64 x, .int .i64 y] 23)).heap.size = w8.heap.size + 1 := by simp
    rw [z8] at hb
    have z9 : w8.heap.size < w9.heap.size := by have := hb.size; omega
    have A9' := A9.next ((Below.refl _ _).alloc (Nat.le_refl _) (.cells #[.int .i64 x, .int .i64 y] 23))
    clear A9 z8
    rw [show errV true = .nilIface from rfl]
    go_wp2_with fail
    refine (error_nil (w9.alloc (.cells #[.int .i64 x, .int .i64 y] 23))).mono ?_
    rintro e w10 ⟨rfl, hc⟩
    have A10 := A9'.next hc
    have z10 : (w9.alloc (.cells #[.int .i64 x, .int .i64 y] 23)).heap.size = w9.heap.size + 1 := by simp
    rw [z10] at hc
    obtain ⟨r0, r1, _, _⟩ := old_cells hc
    obtain ⟨s0, s1, _, _⟩ := old_cells ((hb.alloc (show w8.heap.size + 1 ≤ w9.heap.size from z9) (.cells #[.int .i64 x, .int .i64 y] 23)).trans (hc.mono (by omega)))
    clear hb hc A9' A8' z10
    go_wp2
    go_ret
    exact ⟨by simp, A10.below⟩

set_option maxHeartbeats 1000000 in
theorem idNames_no (n a m b : Int) (t : ByteArray) (w : World) (hA : All w)
    (hId : ∀ w, Calls Tryd.prog 5 #[.agg #[.int .i64 n, .int .i64 a]] w fun e w' => e = .returned (.bool false) ∧ Below w.heap.size w w')
    (hCheck : ∀ w, Calls Tryd.prog 8 #[.agg #[.int .i64 n, .int .i64 a]] w fun e w' => e = .returned (.iface 39 (.int .i64 1)) ∧ Below w.heap.size w w') (x y : Int) (ok : Bool)
    (hR : ∀ w, Calls Tryd.prog 12 #[.string t] w fun e w' => e = .returned (.tuple #[.agg #[.int .i64 x, .int .i64 y], .bool ok]) ∧ Below w.heap.size w w')
    (hP : ∀ w, Env w → Calls Tryd.prog 13 #[.string t] w fun e w' => e = .returned (.tuple #[.agg #[.int .i64 x, .int .i64 y], errV ok]) ∧ Below w.heap.size w w') :
    Calls Tryd.prog 3 #[.agg #[.int .i64 n, .int .i64 a], .agg #[.int .i64 m, .int .i64 b], .string t] w fun e w' => e = .returned (.bool true) ∧ Below w.heap.size w w' := by
  have A0 := At.start n a m b hA
  generalize hl : lessB n a m b = L
  go_enter Tryd.func3, Tryd.ntmps3
  go_wp2_with fail
  refine (hId (box2 w n a m b)).mono ?_
  rintro e w1 ⟨rfl, hb⟩
  have A1 := A0.next hb
  clear hb
  obtain ⟨⟨p0, p1⟩, q0, q1⟩ := box2_cells A1.box
  go_wp2_with fail
  refine (hCheck _).mono ?_
  rintro e w4 ⟨rfl, hb⟩
  have A4 := A1.next hb
  clear hb p0 p1 q0 q1 A1
  obtain ⟨⟨p0, p1⟩, q0, q1⟩ := box2_cells A4.box
  go_wp2_with fail
  refine (error_errno 1 _ A4.all.2).mono ?_
  rintro e w5 ⟨rfl, hb⟩
  have A5 := A4.next hb
  clear hb p0 p1 q0 q1 A4
  obtain ⟨⟨p0, p1⟩, q0, q1⟩ := box2_cells A5.box
  go_wp2_with fail
  refine (less_any n a m b _).mono ?_
  rintro e w6 ⟨rfl, hb⟩
  rw [hl]
  have A6 := A5.next hb
  clear hb p0 p1 q0 q1 A5
  obtain ⟨⟨p0, p1⟩, q0, q1⟩ := box2_cells A6.box
  go_wp2_with fail
  refine (rLess_any n a m b _).mono ?_
  rintro e w7 ⟨rfl, hb⟩
  rw [hl]
  have A7 := A6.next hb
  clear hb p0 p1 q0 q1 A6
  obtain ⟨⟨p0, p1⟩, q0, q1⟩ := box2_cells A7.box
  go_wp2_with fail
  refine (hR _).mono ?_
  rintro e w8 ⟨rfl, hb⟩
  have A8 := A7.next hb
  clear hb p0 p1 q0 q1 A7
  have X8 : Below w8.heap.size w8 (w8.alloc (.cells #[.int .i64 x, .int .i64 y] 23)) := (Below.refl _ _).alloc (Nat.le_refl _) _
  have A8' := A8.next X8
  clear X8 hR A8
  cases ok
  · go_wp2_with fail
    refine (hP _ A8'.all.1).mono ?_
    rintro e w9 ⟨rfl, hb⟩
    have A9 := A8'.next hb
    have z8 : (w8.alloc (.cells #[.int .i64 x, .int .i64 y] 23)).heap.size = w8.heap.size + 1 := by simp
    rw [z8] at hb
    have z9 : w8.heap.size < w9.heap.size := by have := hb.size; omega
    have A9' := A9.next ((Below.refl _ _).alloc (Nat.le_refl _) (.cells #[.int .i64 x, .int .i64 y] 23))
    clear A9 z8
    rw [show errV false = .iface 39 (.int .i64 2) from rfl]
    go_wp2_with fail
    refine (error_errno 2 (w9.alloc (.cells #[.int .i64 x, .int .i64 y] 23)) A9'.all.2).mono ?_
    rintro e w10 ⟨rfl, hc⟩
    have A10 := A9'.next hc
    have z10 : (w9.alloc (.cells #[.int .i64 x, .int .i64 y] 23)).heap.size = w9.heap.size + 1 := by simp
    rw [z10] at hc
    obtain ⟨r0, r1, _, _⟩ := old_cells hc
    obtain ⟨s0, s1, _, _⟩ := old_cells ((hb.alloc (show w8.heap.size + 1 ≤ w9.heap.size from z9) (.cells #[.int .i64 x, .int .i64 y] 23)).trans (hc.mono (by omega)))
    clear hb hc A9' A8' z10
    go_wp2
    go_ret
    exact ⟨by simp, A10.below⟩
  · go_wp2_with fail
    refine (hP _ A8'.all.1).mono ?_
    rintro e w9 ⟨rfl, hb⟩
    have A9 := A8'.next hb
    have z8 : (w8.alloc (.cells #[.int .i64 x, .int .i64 y] 23)).heap.size = w8.heap.size + 1 := by simp
    rw [z8] at hb
    have z9 : w8.heap.size < w9.heap.size := by have := hb.size; omega
    have A9' := A9.next ((Below.refl _ _).alloc (Nat.le_refl _) (.cells #[.int .i64 x, .int .i64 y] 23))
    clear A9 z8
    rw [show errV true = .nilIface from rfl]
    go_wp2_with fail
    refine (error_nil (w9.alloc (.cells #[.int .i64 x, .int .i64 y] 23))).mono ?_
    rintro e w10 ⟨rfl, hc⟩
    have A10 := A9'.next hc
    have z10 : (w9.alloc (.cells #[.int .i64 x, .int .i64 y] 23)).heap.size = w9.heap.size + 1 := by simp
    rw [z10] at hc
    obtain ⟨r0, r1, _, _⟩ := old_cells hc
    obtain ⟨s0, s1, _, _⟩ := old_cells ((hb.alloc (show w8.heap.size + 1 ≤ w9.heap.size from z9) (.cells #[.int .i64 x, .int .i64 y] 23)).trans (hc.mono (by omega)))
    clear hb hc A9' A8' z10
    go_wp2
    go_ret
    exact ⟨by simp, A10.below⟩

theorem idNames_any (n a m b : Int) (t : ByteArray) (w : World) (hA : All w) (ht : t.size ≤ 140737488351232) :
    Calls Tryd.prog 3 #[.agg #[.int .i64 n, .int .i64 a], .agg #[.int .i64 m, .int .i64 b], .string t] w fun e w' => e = .returned (.bool true) ∧ Below w.heap.size w w' := by
  obtain ⟨x, y, ok, hR, hP⟩ := alike t ht
  by_cases hr : n = 0 ∧ a = 0
  · obtain ⟨rfl, rfl⟩ := hr
    exact idNames_yes 0 0 m b t _ w hA rId_root (fun w _ => name_root w) rName_root check_root x y ok hR hP
  · by_cases hr2 : Real n a
    · exact idNames_yes n a m b t _ w hA (fun w => rId_real n a w hr2) (fun w h => name_real n a w hr2 h) (fun w => rName_real n a w hr2) (fun w => check_real n a w hr2) x y ok hR hP
    · exact idNames_no n a m b t w hA (fun w => rId_bad n a w ⟨hr, hr2⟩) (fun w => check_bad n a w ⟨hr, hr2⟩) x y ok hR hP
end Go.Proofs.YtgiggobpbddlbaaDoor
