/-
  What is proved: the function Name of package id returns the name of an id, of what is none nothing.
  Conditions: the table of powers of ten lies as the text lays it.
-/
import Derived.Test.YtokjlfgffloagaaDoorSmall
import Derived.Test.YtokjlfgffloagaaDoorShelf
import Derived.Deep.RegionWith
import Derived.WalkSmall
import Derived.Lib.ItoaLen
namespace Go.Proofs.YtokjlfgffloagaaDoor
open Go.RowKit Go.Sort

/-- The table of powers of ten lies as the text lays it. -/
def Tab (w : World) : Prop := Lib.TabIs Tryd.prog w "internal/strconv.uint64pow10" .u64 Lib.pow10Tab

theorem lt_of_var {w : World} {n : String} {g : Nat} {cs : Array Value} (hg : Tryd.prog.globalNamed n = some g) (h : w.var? Tryd.prog n = some cs) : g < w.heap.size := by
  unfold World.var? at h
  rw [hg] at h
  simp only [Option.bind_some] at h
  by_cases hz : g < w.heap.size
  · exact hz
  · rw [Array.getElem?_eq_none (by omega)] at h
    simp at h

theorem pow10_g : Tryd.prog.globalNamed "internal/strconv.uint64pow10" = some 2 := by kernel_rfl

theorem Tab.below {w w' : World} (h : Tab w) (hb : Below w.heap.size w w') : Tab w' :=
  var?_below hb pow10_g (lt_of_var pow10_g h) h

theorem below_grow (w : World) (k : Nat) (os : Array Obj) : Below w.heap.size w (grow (w.drewN k) os) :=
  ⟨rfl, rfl, rfl, by rw [size_grow]; exact Nat.le_add_right _ _, fun _ h => heap_grow_old (w.drewN k) os h⟩

theorem itoa_any (n : Int) (h0 : -9223372036854775808 ≤ n) (h1 : n ≤ 9223372036854775807) (w : World) (ht : Tab w) :
    Calls Tryd.prog 24 #[.int .i64 n] w fun e w' => e = .returned (.string ⟨(Lib.itoa n).toArray⟩) ∧ Below w.heap.size w w' :=
  (Tryd.strconv_Itoa n h0 h1 w ht).mono fun _ _ ⟨he, k, os, hw⟩ => ⟨he, hw ▸ below_grow w k os⟩

theorem name_root (w : World) :
    Calls Tryd.prog 7 #[.agg #[.int .i64 0, .int .i64 0]] w fun e w' => e = .returned (.string ⟨#[114, 111, 111, 116]⟩) ∧ Below w.heap.size w w' := by
  go_enter Tryd.func7, Tryd.ntmps7
  go_wp2
  go_ret
  exact ⟨rfl, ((((Below.refl _ _).alloc (Nat.le_refl _) _).alloc (by simp) _).alloc (by simp; omega) _).alloc (by simp; omega) _⟩

set_option maxHeartbeats 400000 in
theorem name_bad (n a : Int) (w : World) (h : Bad n a) :
    Calls Tryd.prog 7 #[.agg #[.int .i64 n, .int .i64 a]] w fun e w' => e = .returned (.string ⟨#[]⟩) ∧ Below w.heap.size w w' := by
  go_enter Tryd.func7, Tryd.ntmps7
  go_wp2_with (go_at_call 9; refine (check_bad n a _ h).mono ?_; rintro e w1 ⟨rfl, hb⟩)
  go_ret
  exact ⟨rfl, ((Below.refl _ _).alloc (Nat.le_refl _) _).trans (hb.mono (by simp))⟩

theorem at_str (x y : List UInt8) : (⟨x.toArray⟩ ++ ⟨#[64]⟩ ++ ⟨y.toArray⟩ : ByteArray) = ⟨(x ++ 64 :: y).toArray⟩ := by
  apply ByteArray.ext
  simp [ByteArray.data_append]

theorem ret_str {a b : ByteArray} (h : a = b) : Ending.returned (.string a) = .returned (.string b) := by rw [h]

theorem bcell {W w1 : World} (hb : Below W.heap.size W w1) : (∀ b o, b < W.heap.size → w1.cell? ⟨b, o, none⟩ = W.cell? ⟨b, o, none⟩) ∧ (∀ b o, b < W.heap.size → w1.frozen? ⟨b, o, none⟩ = W.frozen? ⟨b, o, none⟩) :=
  ⟨fun b o h => hb.cell (p := ⟨b, o, none⟩) h, fun b o h => hb.frozen (p := ⟨b, o, none⟩) h⟩

set_option maxHeartbeats 400000 in
theorem name_real (n a : Int) (w : World) (h : Real n a) (ht : Tab w) :
    Calls Tryd.prog 7 #[.agg #[.int .i64 n, .int .i64 a]] w fun e w' => e = .returned (.string ⟨(Lib.itoa n ++ 64 :: Lib.itoa a).toArray⟩) ∧ Below w.heap.size w w' := by
  have hnr : ¬ (n = 0 ∧ a = 0) := by have := h.1; omega
  go_enter Tryd.func7, Tryd.ntmps7
  go_wp2_with (first | (go_at_call 9; refine (check_real n a _ h).mono ?_; rintro e w1 ⟨rfl, hb⟩; obtain ⟨hc, hf⟩ := bcell hb) | (go_at_call 23; refine (isRoot_no n a _ hnr).mono ?_; rintro e w2 ⟨rfl, hb2⟩; obtain ⟨hc2, hf2⟩ := bcell hb2))
  have B2 : Below w.heap.size w w2 := (((Below.refl _ _).alloc (Nat.le_refl _) _).trans (hb.mono (by simp))).trans (hb2.mono (by have := hb.size; simp at this; omega))
  have hz : w.heap.size < w2.heap.size := by have := hb.size; have := hb2.size; simp at *; omega
  have c0 : w2.cell? ⟨w.heap.size, 0, none⟩ = some (.int .i64 n) := by
    rw [hc2 _ _ (by have := hb.size; simp at this; omega), hc _ _ (by simp)]; simp
  have c1 : w2.cell? ⟨w.heap.size, 1, none⟩ = some (.int .i64 a) := by
    rw [hc2 _ _ (by have := hb.size; simp at this; omega), hc _ _ (by simp)]; simp
  have T2 : Tab w2 := ht.below B2
  clear hc hc2 hf hf2 hb hb2 hnr
  obtain ⟨h1, h2, h3, h4⟩ := h
  have l1 := Lib.itoa_length_le n (by omega) (by omega)
  have l2 := Lib.itoa_length_le a (by omega) (by omega)
  go_region_with (first | (go_at_call_of 24 n; refine (itoa_any n ?_ ?_ _ ?_).mono ?_; omega; omega; exact T2.below (Below.refl _ _).drew; rintro e w3 ⟨rfl, hb3⟩; have c13 : w3.cell? ⟨w.heap.size, 1, none⟩ = some (.int .i64 a) := (hb3.cell (p := ⟨w.heap.size, 1, none⟩) hz).trans c1) | (go_at_call_of 24 a; refine (itoa_any a ?_ ?_ _ ?_).mono ?_; omega; omega; exact (T2.below (Below.refl _ _).drew).below hb3; rintro e w4 ⟨rfl, hb4⟩))
  all_goals
    have B4 : Below w.heap.size w w4 := (B2.drew.trans (hb3.mono (Nat.le_of_lt hz))).trans (hb4.mono (by have h5 : w2.heap.size ≤ w3.heap.size := hb3.size; omega))
    clear hb3 hb4 c13 c0 c1 T2 B2 l1 l2
    go_wp2
    go_ret
    exact ⟨ret_str (at_str _ _), B4⟩
end Go.Proofs.YtokjlfgffloagaaDoor
