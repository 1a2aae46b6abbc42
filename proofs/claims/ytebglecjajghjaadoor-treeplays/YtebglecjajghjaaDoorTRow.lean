/-
  What is proved: what package tree's methods whole, Len and Wide answer.
  Conditions: the row lies in memory.
-/
import Derived.Test.YtebglecjajghjaaDoorTLook
namespace Go.Proofs.YtebglecjajghjaaDoor
open Go.RowKit

set_option maxRecDepth 100000 in
set_option maxHeartbeats 2000000 in
theorem whole_any (t : (Deep.BT Int)) (g : Nat) (k : Nat) (w : World) (ht : t.At w) (hr : RowAt g t.pt k w) :
    Calls Tryd.prog 26 #[.pointer (some ⟨g, 0, none⟩)] w fun e w' => e = .returned (.agg #[.int .i64 (t.many : Int), .int .i64 t.wide, .int .i64 (t.high : Int)]) ∧ Below w.heap.size w w' := by
  have c0 : w.cell? ⟨g, 0, none⟩ = some t.pt := Lib.cell_of_heap hr 0
  have hg := lt_of_heap hr
  have B0 := fun o => (Below.refl w.heap.size w).alloc (Nat.le_refl _) o
  cases t with
  | nil =>
    simp only [Deep.BT.pt, Deep.BT.addr] at c0
    go_enter Tryd.func26, Tryd.ntmps26
    go_wp2
    exact bodyPost_ret (v := sumV 0 0 0) (by simp [results, Tryd.results26, go_sem]) rfl ⟨rfl, B0 _⟩
  | node b x u l r =>
    obtain ⟨h1, h2, h3⟩ := ht
    have hbl := lt_of_heap h1
    simp only [Deep.BT.pt, Deep.BT.addr] at c0
    have d4 : w.cell? ⟨b, 4, none⟩ = some (.int .i64 ((l.many + 1 + r.many : Nat) : Int)) := Lib.cell_of_heap h1 4
    have d5 : w.cell? ⟨b, 5, none⟩ = some (.int .i64 (l.wide + u + r.wide)) := Lib.cell_of_heap h1 5
    have d6 : w.cell? ⟨b, 6, none⟩ = some (.int .i64 ((1 + max l.high r.high : Nat) : Int)) := Lib.cell_of_heap h1 6
    obtain ⟨m, hm⟩ : ∃ m : Int, ((l.many + 1 + r.many : Nat) : Int) = m := ⟨_, rfl⟩
    rw [hm] at d4
    have HM : Hid (((l.many + 1 + r.many : Nat) : Int) = m) := hm
    clear hm h1 h2 h3
    go_enter Tryd.func26, Tryd.ntmps26
    go_wp2
    exact bodyPost_ret (v := sumV m (l.wide + u + r.wide) ((1 + max l.high r.high : Nat) : Int)) (by simp [results, Tryd.results26, go_sem]) rfl ⟨by rw [← HM.out]; rfl, B0 _⟩

set_option maxRecDepth 100000 in
set_option maxHeartbeats 2000000 in
theorem len_any (t : (Deep.BT Int)) (g : Nat) (k : Nat) (w : World) (ht : t.At w) (hr : RowAt g t.pt k w) :
    Calls Tryd.prog 16 #[.pointer (some ⟨g, 0, none⟩)] w fun e w' => e = .returned (.int .i64 (t.many : Int)) ∧ Below w.heap.size w w' := by
  have E := whole_any t g k w ht hr
  have hf := fld0
  generalize (t.many : Int) = m at *
  go_enter Tryd.func16, Tryd.ntmps16
  go_wp2_with fail
  go_fit E
  rintro e w1 ⟨rfl, b1⟩
  go_wp2
  go_ret
  exact ⟨rfl, b1⟩

set_option maxRecDepth 100000 in
set_option maxHeartbeats 2000000 in
theorem wide_any (t : (Deep.BT Int)) (g : Nat) (k : Nat) (w : World) (ht : t.At w) (hr : RowAt g t.pt k w) :
    Calls Tryd.prog 17 #[.pointer (some ⟨g, 0, none⟩)] w fun e w' => e = .returned (.int .i64 t.wide) ∧ Below w.heap.size w w' := by
  have E := whole_any t g k w ht hr
  have hf := fld1
  go_enter Tryd.func17, Tryd.ntmps17
  go_wp2_with fail
  go_fit E
  rintro e w1 ⟨rfl, b1⟩
  go_wp2
  go_ret
  exact ⟨rfl, b1⟩
end Go.Proofs.YtebglecjajghjaaDoor
