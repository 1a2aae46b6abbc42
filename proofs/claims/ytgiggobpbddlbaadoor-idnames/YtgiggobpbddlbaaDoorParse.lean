/-
  What is proved: the function Parse of package id, by what Cut, number and Name answer; and at the name of any real id, and at root.
  Conditions: the package variables that it looks at lie as the text lays them.
-/
import Derived.Test.YtgiggobpbddlbaaDoorCut
namespace Go.Proofs.YtgiggobpbddlbaaDoor
open Go.RowKit Go.Sort

/-- What the program's text lays, as far as a parse looks at it. -/
def Env (w : World) : Prop := Tab w ∧ Errs w
theorem Env.below {w w' : World} (h : Env w) (hb : Below w.heap.size w w') : Env w' := ⟨h.1.below hb, h.2.below hb⟩

set_option maxHeartbeats 400000 in
theorem parse_root (w : World) :
    Calls Tryd.prog 13 #[.string ⟨#[114, 111, 111, 116]⟩] w fun e w' => e = .returned (.tuple #[.agg #[.int .i64 0, .int .i64 0], .nilIface]) ∧ Below w.heap.size w w' := by
  have hr : ((⟨#[114, 111, 111, 116]⟩ : ByteArray).toList == [114, 111, 111, 116]) = true := by decide +kernel
  go_enter Tryd.func13, Tryd.ntmps13
  go_wp2
  exact bodyPost_ret (v := .tuple #[.agg #[.int .i64 0, .int .i64 0], .nilIface]) (by simp [results, Tryd.results13, go_sem]) rfl ⟨rfl, (Below.refl _ _).alloc (Nat.le_refl _) _⟩

/-- A cell of a block that was laid first, and that it may be written, behind calls that turn nothing that was there. -/
theorem old_cells {w w4 : World} {c0 c1 : Value} {t : TypeId} (B : Below (w.heap.size + 1) (w.alloc (.cells #[c0, c1] t)) w4) :
    w4.cell? ⟨w.heap.size, 0, none⟩ = some c0 ∧ w4.cell? ⟨w.heap.size, 1, none⟩ = some c1 ∧ w4.frozen? ⟨w.heap.size, 0, none⟩ = false ∧ w4.frozen? ⟨w.heap.size, 1, none⟩ = false := by
  refine ⟨?_, ?_, ?_, ?_⟩
  · rw [B.cell (p := ⟨w.heap.size, 0, none⟩) (Nat.lt_succ_self _)]; simp
  · rw [B.cell (p := ⟨w.heap.size, 1, none⟩) (Nat.lt_succ_self _)]; simp
  · rw [B.frozen (p := ⟨w.heap.size, 0, none⟩) (Nat.lt_succ_self _)]; simp
  · rw [B.frozen (p := ⟨w.heap.size, 1, none⟩) (Nat.lt_succ_self _)]; simp

set_option maxHeartbeats 400000 in
theorem parse_yes (s x y : ByteArray) (f : Bool) (n a : Int) (w : World) (hroot : (s.toList == [114, 111, 111, 116]) = false) (hcut : ∀ w, Calls Tryd.prog 23 #[.string s, .string ⟨#[64]⟩] w fun e w' => e = .returned (.tuple #[.string x, .string y, .bool f]) ∧ Below w.heap.size w w')
    (hn : ∀ w, Errs w → Calls Tryd.prog 24 #[.string x] w fun e w' => e = .returned (.int .i64 n) ∧ Below w.heap.size w w')
    (ha : ∀ w, Errs w → Calls Tryd.prog 24 #[.string y] w fun e w' => e = .returned (.int .i64 a) ∧ Below w.heap.size w w')
    (hnm : ∀ w, Tab w → Calls Tryd.prog 6 #[.agg #[.int .i64 n, .int .i64 a]] w fun e w' => e = .returned (.string s) ∧ Below w.heap.size w w') (E : Env w) :
    Calls Tryd.prog 13 #[.string s] w fun e w' => e = .returned (.tuple #[.agg #[.int .i64 n, .int .i64 a], .nilIface]) ∧ Below w.heap.size w w' := by
  have B0 : Below w.heap.size w (w.alloc (.cells #[.int .i64 0, .int .i64 0] 23)) := (Below.refl _ _).alloc (Nat.le_refl _) _
  go_enter Tryd.func13, Tryd.ntmps13
  go_wp2_with fail
  refine (hcut _).mono ?_
  rintro e w1 ⟨rfl, hb1⟩
  rw [show (w.alloc (.cells #[.int .i64 0, .int .i64 0] 23)).heap.size = w.heap.size + 1 from by simp] at hb1
  have E1 : Env w1 := (E.below B0).below (by simpa using hb1)
  have z1 : w.heap.size < w1.heap.size := by have := hb1.size; simp at this; omega
  go_wp2_with fail
  refine (hn _ E1.2).mono ?_
  rintro e w2 ⟨rfl, hb2⟩
  have E2 : Env w2 := E1.below hb2
  have z2 : w.heap.size < w2.heap.size := by have := hb2.size; omega
  go_wp2_with fail
  refine (ha _ E2.2).mono ?_
  rintro e w3 ⟨rfl, hb3⟩
  have E3 : Env w3 := E2.below hb3
  have z3 : w.heap.size < w3.heap.size := by have := hb3.size; omega
  have B3 : Below (w.heap.size + 1) (w.alloc (.cells #[.int .i64 0, .int .i64 0] 23)) w3 := (hb1.trans (hb2.mono z1)).trans (hb3.mono z2)
  clear E1 E2 hb1 hb2 hb3 z1 z2
  go_wp2_with fail
  refine (hnm _ (E3.1.below ((Below.refl _ _).alloc (Nat.le_refl _) _))).mono ?_
  rintro e w4 ⟨rfl, hb4⟩
  rw [show (w3.alloc (.cells #[.int .i64 n, .int .i64 a] 23)).heap.size = w3.heap.size + 1 from by simp] at hb4
  have B4 : Below (w.heap.size + 1) (w.alloc (.cells #[.int .i64 0, .int .i64 0] 23)) w4 := (B3.alloc z3 _).trans (hb4.mono (by omega))
  obtain ⟨c0, c1, f0, f1⟩ := old_cells B4
  obtain ⟨d0, d1, _, _⟩ := old_cells hb4
  have B5 : Below w.heap.size w w4 := B0.trans (B4.mono (by omega))
  clear E3 hb4 B3 B4 B0 E hnm ha hn hcut
  go_wp2
  exact bodyPost_ret (v := .tuple #[.agg #[.int .i64 n, .int .i64 a], .nilIface]) (by simp [results, Tryd.results13, go_sem, c0, c1]) rfl ⟨rfl, (B5.setCell (Nat.le_refl _) _).setCell (Nat.le_refl _) _⟩

set_option maxHeartbeats 400000 in
theorem parse_no (s x y nm : ByteArray) (f : Bool) (n a : Int) (w : World) (hne : (nm.toList == s.toList) = false) (hroot : (s.toList == [114, 111, 111, 116]) = false) (hcut : ∀ w, Calls Tryd.prog 23 #[.string s, .string ⟨#[64]⟩] w fun e w' => e = .returned (.tuple #[.string x, .string y, .bool f]) ∧ Below w.heap.size w w')
    (hn : ∀ w, Errs w → Calls Tryd.prog 24 #[.string x] w fun e w' => e = .returned (.int .i64 n) ∧ Below w.heap.size w w')
    (ha : ∀ w, Errs w → Calls Tryd.prog 24 #[.string y] w fun e w' => e = .returned (.int .i64 a) ∧ Below w.heap.size w w')
    (hnm : ∀ w, Tab w → Calls Tryd.prog 6 #[.agg #[.int .i64 n, .int .i64 a]] w fun e w' => e = .returned (.string nm) ∧ Below w.heap.size w w') (E : Env w) :
    Calls Tryd.prog 13 #[.string s] w fun e w' => e = .returned (.tuple #[.agg #[.int .i64 0, .int .i64 0], .iface 39 (.int .i64 2)]) ∧ Below w.heap.size w w' := by
  have B0 : Below w.heap.size w (w.alloc (.cells #[.int .i64 0, .int .i64 0] 23)) := (Below.refl _ _).alloc (Nat.le_refl _) _
  go_enter Tryd.func13, Tryd.ntmps13
  go_wp2_with fail
  refine (hcut _).mono ?_
  rintro e w1 ⟨rfl, hb1⟩
  rw [show (w.alloc (.cells #[.int .i64 0, .int .i64 0] 23)).heap.size = w.heap.size + 1 from by simp] at hb1
  have E1 : Env w1 := (E.below B0).below (by simpa using hb1)
  have z1 : w.heap.size < w1.heap.size := by have := hb1.size; simp at this; omega
  go_wp2_with fail
  refine (hn _ E1.2).mono ?_
  rintro e w2 ⟨rfl, hb2⟩
  have E2 : Env w2 := E1.below hb2
  have z2 : w.heap.size < w2.heap.size := by have := hb2.size; omega
  go_wp2_with fail
  refine (ha _ E2.2).mono ?_
  rintro e w3 ⟨rfl, hb3⟩
  have E3 : Env w3 := E2.below hb3
  have z3 : w.heap.size < w3.heap.size := by have := hb3.size; omega
  have B3 : Below (w.heap.size + 1) (w.alloc (.cells #[.int .i64 0, .int .i64 0] 23)) w3 := (hb1.trans (hb2.mono z1)).trans (hb3.mono z2)
  clear E1 E2 hb1 hb2 hb3 z1 z2
  go_wp2_with fail
  refine (hnm _ (E3.1.below ((Below.refl _ _).alloc (Nat.le_refl _) _))).mono ?_
  rintro e w4 ⟨rfl, hb4⟩
  rw [show (w3.alloc (.cells #[.int .i64 n, .int .i64 a] 23)).heap.size = w3.heap.size + 1 from by simp] at hb4
  have B4 : Below (w.heap.size + 1) (w.alloc (.cells #[.int .i64 0, .int .i64 0] 23)) w4 := (B3.alloc z3 _).trans (hb4.mono (by omega))
  obtain ⟨c0, c1, f0, f1⟩ := old_cells B4
  obtain ⟨d0, d1, _, _⟩ := old_cells hb4
  have B5 : Below w.heap.size w w4 := B0.trans (B4.mono (by omega))
  clear E3 hb4 B3 B4 B0 E hnm ha hn hcut
  go_wp2
  exact bodyPost_ret (v := .tuple #[.agg #[.int .i64 0, .int .i64 0], .iface 39 (.int .i64 2)]) (by simp [results, Tryd.results13, go_sem, c0, c1]) rfl ⟨rfl, (B5.setCell (Nat.le_refl _) _).setCell (Nat.le_refl _) _⟩

theorem nameL_toList (n a : Int) : (⟨(nameL n a).toArray⟩ : ByteArray).data.toList = nameL n a := by simp

theorem toList_data (s : ByteArray) : s.toList = s.data.toList := by
  exact ByteArray.toList_eq s

theorem not_root_of_at (x y : List UInt8) (s : ByteArray) (h : s.data.toList = x ++ 64 :: y) : (s.toList == [114, 111, 111, 116]) = false := by
  rw [toList_data, h]
  rw [beq_eq_false_iff_ne]
  intro e
  have : (64 : UInt8) ∈ [(114 : UInt8), 111, 111, 116] := by rw [← e]; simp
  simp at this

theorem parse_real (n a : Int) (w : World) (h : Real n a) (E : Env w) :
    Calls Tryd.prog 13 #[.string ⟨(nameL n a).toArray⟩] w fun e w' => e = .returned (.tuple #[.agg #[.int .i64 n, .int .i64 a], .nilIface]) ∧ Below w.heap.size w w' := by
  have h' := h
  obtain ⟨h1, h2, h3, h4⟩ := h
  have l1 := itoa_len n (by omega) (by omega)
  have l2 := itoa_len a (by omega) (by omega)
  have hl : (⟨(nameL n a).toArray⟩ : ByteArray).size ≤ maxLen := by
    unfold nameL maxLen
    simp [ByteArray.size]
    omega
  refine parse_yes ⟨(nameL n a).toArray⟩ ⟨(Lib.itoa n).toArray⟩ ⟨(Lib.itoa a).toArray⟩ true n a w (not_root_of_at (Lib.itoa n) (Lib.itoa a) _ (by simp [nameL])) (fun w => cut_hit (Lib.itoa n) (Lib.itoa a) _ w (itoa_at n (by omega)) (by simp [nameL]) hl) ?_ ?_ (fun w t => name_real n a w h' t) E
  · intro w e
    have hn := number_any ⟨(Lib.itoa n).toArray⟩ w (by simp [ByteArray.size]; omega) e
    rw [show (⟨(Lib.itoa n).toArray⟩ : ByteArray).data.toList = Lib.itoa n from by simp, numV_itoa n (by omega) h2] at hn
    exact hn
  · intro w e
    have hn := number_any ⟨(Lib.itoa a).toArray⟩ w (by simp [ByteArray.size]; omega) e
    rw [show (⟨(Lib.itoa a).toArray⟩ : ByteArray).data.toList = Lib.itoa a from by simp, numV_itoa a (by omega) (by omega)] at hn
    exact hn
end Go.Proofs.YtgiggobpbddlbaaDoor
