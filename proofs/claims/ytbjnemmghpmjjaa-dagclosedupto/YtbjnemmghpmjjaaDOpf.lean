/-
  What is proved: what package dag's isRoot, objKind, keyFits and elemFits answer, and the methods of an op that is known.
  Conditions: the changes lie in memory.
-/
import Derived.Test.YtbjnemmghpmjjaaDBook
import Derived.Test.YtbjnemmghpmjjaaGPast
namespace Go.Proofs.Ytbjnemmghpmjjaa
open Go.RowKit Go.Maps

theorem dRoot_any (n a : Int) (w : World) : Calls Try.prog 76 #[.agg #[.int .i64 n, .int .i64 a]] w fun e w' => e = .returned (.bool (rootB (n, a))) ∧ Below w.heap.size w w' := by
  unfold rootB
  by_cases h : n = 0
  · subst h
    by_cases h2 : a = 0
    · subst h2
      go_enter Try.func76, Try.ntmps76
      go_wp2
      go_ret
      exact ⟨by simp, (Below.refl _ _).alloc (Nat.le_refl _) _⟩
    · have q : (a == 0) = false := by simp [h2]
      go_enter Try.func76, Try.ntmps76
      go_wp2
      go_ret
      exact ⟨by simp [h2], (Below.refl _ _).alloc (Nat.le_refl _) _⟩
  · have q : (n == 0) = false := by simp [h]
    go_enter Try.func76, Try.ntmps76
    go_wp2
    go_ret
    exact ⟨by simp [h], (Below.refl _ _).alloc (Nat.le_refl _) _⟩

/-- Of which kind an object is. -/
def objKindM (cs : List Chg) (a : Pr) : Int := if rootB a = true then 5 else if (lookM cs a).1.kind = 2 then (lookM cs a).1.val.k else 0
/-- Goes an op's key with its object? -/
def keyFitsM (cs : List Chg) (o : OpM) : Bool := if objKindM cs o.obj = 5 then !(o.key.toList == []) else if objKindM cs o.obj = 6 then o.key.toList == [] else false
/-- Goes its element with it? -/
def elemFitsM (cs : List Chg) (o : OpM) : Bool := rootB o.elem || ((lookM cs o.elem).1.ins && samePr (lookM cs o.elem).1.obj o.obj)

set_option maxRecDepth 100000 in
set_option maxHeartbeats 8000000 in
theorem objKind_any (v : Value) (l : List CX) (a : Pr) (w : World) (hv : IsChgs w v l) :
    Calls Try.prog 75 #[refV a, v] w fun e w' => e = .returned (.int .i64 (objKindM (l.map (·.c)) a)) ∧ Below w.heap.size w w' := by
  obtain ⟨a1, a2⟩ := a
  have b0 := (Below.refl w.heap.size w).alloc (Nat.le_refl _) (.cells #[.int .i64 a1, .int .i64 a2] 59)
  have HA : Hid (_ ∧ _ ∧ _) := ⟨b0, hv, heap_alloc_new w (.cells #[.int .i64 a1, .int .i64 a2] 59)⟩
  have E1 := dRoot_any a1 a2 (w.alloc (.cells #[.int .i64 a1, .int .i64 a2] 59))
  obtain ⟨va, vc, rfl, _⟩ := hv
  clear b0
  unfold objKindM
  cases hr : rootB (a1, a2) with
  | true =>
    rw [hr] at E1
    go_enter Try.func75, Try.ntmps75
    go_wp2_with fail
    go_fit E1
    rintro e w1 ⟨rfl, b1⟩
    have HB : Hid (Below w.heap.size w w1) := HA.out.1.trans (b1.mono HA.out.1.size)
    clear b1 E1
    go_wp2
    go_ret
    exact ⟨by simp, HB.out⟩
  | false =>
    rw [hr] at E1
    obtain ⟨⟨⟨ok, oo, oy, oe, oi, ⟨wk, wn, wt, wo, wa⟩, op⟩, x1, x2⟩, hp⟩ : ∃ p, lookM (l.map (·.c)) (a1, a2) = p := ⟨_, rfl⟩
    rw [hp]
    have HP : Hid _ := hp
    clear hp
    dsimp only
    obtain ⟨rk, hrk⟩ : ∃ rk : Int, (if (false : Bool) = true then (5 : Int) else if ok = 2 then wk else 0) = rk := ⟨_, rfl⟩
    rw [hrk]
    simp only [Bool.false_eq_true, if_false] at hrk
    have HRK : Hid _ := hrk
    clear hrk
    go_enter Try.func75, Try.ntmps75
    go_wp2_with fail
    go_fit E1
    rintro e w1 ⟨rfl, b1⟩
    have hb1 : Below w.heap.size w w1 := HA.out.1.trans (b1.mono HA.out.1.size)
    have X := heap_below HA.out.2.2 b1 (Nat.le_refl _)
    have c0 : w1.cell? ⟨w.heap.size, 0, none⟩ = some (.int .i64 a1) := Lib.cell_of_heap X 0
    have c1 : w1.cell? ⟨w.heap.size, 1, none⟩ = some (.int .i64 a2) := Lib.cell_of_heap X 1
    have E2 := lookUp_any _ l (a1, a2) w1 (HA.out.2.1.below hb1)
    rw [HP.out] at E2
    have s0 := lt_of_heap X
    have HB : Hid _ := hb1
    clear b1 E1 hb1 X
    go_wp2_with fail
    go_fit E2
    rintro e w2 ⟨⟨sa, sn, sc, rfl⟩, b2⟩
    have HB2 : Hid (∀ o, Below w.heap.size w (w2.alloc o)) := fun o => (HB.out.trans (b2.mono HB.out.size)).alloc (Nat.le_trans HB.out.size b2.size) o
    clear b2 E2 c0 c1 s0
    simp only [knVal, knCells, opCells, List.cons_append, List.nil_append]
    by_cases h2 : ok = 2
    · subst h2
      go_wp2
      go_ret
      exact ⟨by rw [← HRK.out]; simp, HB2.out _⟩
    · have h2b : (ok == 2) = false := by simp [h2]
      go_wp2
      go_ret
      exact ⟨by rw [← HRK.out]; simp [h2], HB2.out _⟩

set_option maxRecDepth 100000 in
set_option maxHeartbeats 8000000 in
theorem keyFits_any (v : Value) (l : List CX) (o : OpM) (pa : Option Addr) (pn pc : Nat) (w : World) (hv : IsChgs w v l) :
    Calls Try.prog 55 #[opVal o (.slice pa pn pc), v] w fun e w' => e = .returned (.bool (keyFitsM (l.map (·.c)) o)) ∧ Below w.heap.size w w' := by
  obtain ⟨ok, oo, oy, oe, oi, ⟨wk, wn, wt, wo, wa⟩, op⟩ := o
  simp only [opVal, opCells]
  have b0 := (Below.refl w.heap.size w).alloc (Nat.le_refl _) (.cells #[.int .i64 ok, .int .i64 oo.1, .int .i64 oo.2, .string oy, .int .i64 oe.1, .int .i64 oe.2, .bool oi, .int .i64 wk, .int .i64 wn, .string wt, .int .i64 wo, .int .i64 wa, .slice pa pn pc] 64)
  have x0 := heap_alloc_new w (.cells #[.int .i64 ok, .int .i64 oo.1, .int .i64 oo.2, .string oy, .int .i64 oe.1, .int .i64 oe.2, .bool oi, .int .i64 wk, .int .i64 wn, .string wt, .int .i64 wo, .int .i64 wa, .slice pa pn pc] 64)
  have E1 := objKind_any v l oo _ (hv.below b0)
  have HA : Hid (_ ∧ _) := ⟨b0, x0⟩
  obtain ⟨va, vc, rfl, _⟩ := hv
  clear b0 x0
  unfold keyFitsM
  dsimp only
  generalize objKindM (l.map (·.c)) oo = kk at *
  obtain ⟨eb, hem⟩ : ∃ b : Bool, (oy.toList == []) = b := ⟨_, rfl⟩
  obtain ⟨rk, hrk⟩ : ∃ rk : Bool, (if kk = 5 then !(oy.toList == []) else if kk = 6 then oy.toList == [] else false) = rk := ⟨_, rfl⟩
  rw [hrk]
  rw [hem] at hrk
  have HRK : Hid _ := hrk
  clear hrk
  go_enter Try.func55, Try.ntmps55
  go_wp2_with fail
  go_fit E1
  rintro e w1 ⟨rfl, b1⟩
  have X := heap_below HA.out.2 b1 (Nat.le_refl _)
  have c0 : w1.cell? ⟨w.heap.size, 3, none⟩ = some (.string oy) := Lib.cell_of_heap X 3
  have HB : Hid (Below w.heap.size w w1) := HA.out.1.trans (b1.mono HA.out.1.size)
  have s0 := lt_of_heap X
  clear b1 E1 X
  by_cases h5 : kk = 5
  · subst h5
    go_wp2
    go_ret
    exact ⟨by rw [← HRK.out]; simp, HB.out⟩
  · have h5b : (kk == 5) = false := by simp [h5]
    by_cases h6 : kk = 6
    · subst h6
      go_wp2
      go_ret
      exact ⟨by rw [← HRK.out]; simp, HB.out⟩
    · have h6b : (kk == 6) = false := by simp [h6]
      go_wp2
      go_ret
      exact ⟨by rw [← HRK.out]; simp [h5, h6], HB.out⟩

set_option maxRecDepth 100000 in
set_option maxHeartbeats 8000000 in
theorem elemFits_any (v : Value) (l : List CX) (o : OpM) (pa : Option Addr) (pn pc : Nat) (w : World) (hv : IsChgs w v l) :
    Calls Try.prog 56 #[opVal o (.slice pa pn pc), v] w fun e w' => e = .returned (.bool (elemFitsM (l.map (·.c)) o)) ∧ Below w.heap.size w w' := by
  obtain ⟨ok, oo, oy, ⟨oe1, oe2⟩, oi, ⟨wk, wn, wt, wo, wa⟩, op⟩ := o
  simp only [opVal, opCells]
  have b0 := (Below.refl w.heap.size w).alloc (Nat.le_refl _) (.cells #[.int .i64 ok, .int .i64 oo.1, .int .i64 oo.2, .string oy, .int .i64 oe1, .int .i64 oe2, .bool oi, .int .i64 wk, .int .i64 wn, .string wt, .int .i64 wo, .int .i64 wa, .slice pa pn pc] 64)
  have x0 := heap_alloc_new w (.cells #[.int .i64 ok, .int .i64 oo.1, .int .i64 oo.2, .string oy, .int .i64 oe1, .int .i64 oe2, .bool oi, .int .i64 wk, .int .i64 wn, .string wt, .int .i64 wo, .int .i64 wa, .slice pa pn pc] 64)
  have E1 := dRoot_any oe1 oe2 (w.alloc (.cells #[.int .i64 ok, .int .i64 oo.1, .int .i64 oo.2, .string oy, .int .i64 oe1, .int .i64 oe2, .bool oi, .int .i64 wk, .int .i64 wn, .string wt, .int .i64 wo, .int .i64 wa, .slice pa pn pc] 64))
  have HA : Hid (_ ∧ _ ∧ _) := ⟨b0, x0, hv⟩
  obtain ⟨va, vc, rfl, _⟩ := hv
  clear b0 x0
  unfold elemFitsM
  dsimp only
  cases hr : rootB (oe1, oe2) with
  | true =>
    rw [hr] at E1
    go_enter Try.func56, Try.ntmps56
    go_wp2_with fail
    go_fit E1
    rintro e w1 ⟨rfl, b1⟩
    have HB : Hid (Below w.heap.size w w1) := HA.out.1.trans (b1.mono HA.out.1.size)
    clear b1 E1
    go_wp2
    go_ret
    exact ⟨by simp, HB.out⟩
  | false =>
    rw [hr] at E1
    obtain ⟨⟨⟨ok', oo', oy', oe', oi', ⟨wk', wn', wt', wo', wa'⟩, op'⟩, x1, x2⟩, hp⟩ : ∃ p, lookM (l.map (·.c)) (oe1, oe2) = p := ⟨_, rfl⟩
    rw [hp]
    have HP : Hid _ := hp
    clear hp
    dsimp only
    have EQ := eqD oo' oo
    obtain ⟨sb, hsb⟩ : ∃ s : Bool, samePr oo' oo = s := ⟨_, rfl⟩
    rw [hsb] at EQ
    obtain ⟨rk, hrk⟩ : ∃ rk : Bool, (false || (oi' && samePr oo' oo)) = rk := ⟨_, rfl⟩
    rw [hrk]
    rw [hsb] at hrk
    have HRK : Hid _ := hrk
    clear hrk hsb
    go_enter Try.func56, Try.ntmps56
    go_wp2_with fail
    go_fit E1
    rintro e w1 ⟨rfl, b1⟩
    have hb1 : Below w.heap.size w w1 := HA.out.1.trans (b1.mono HA.out.1.size)
    have X := heap_below HA.out.2.1 b1 (Nat.le_refl _)
    have c4 : w1.cell? ⟨w.heap.size, 4, none⟩ = some (.int .i64 oe1) := Lib.cell_of_heap X 4
    have c5 : w1.cell? ⟨w.heap.size, 5, none⟩ = some (.int .i64 oe2) := Lib.cell_of_heap X 5
    have E2 := lookUp_any _ l (oe1, oe2) w1 (HA.out.2.2.below hb1)
    rw [HP.out] at E2
    have s0 := lt_of_heap X
    have HB : Hid (_ ∧ _) := ⟨hb1, X⟩
    clear b1 E1 hb1 X
    go_wp2_with fail
    go_fit E2
    rintro e w2 ⟨⟨sa, sn, sc, rfl⟩, b2⟩
    have HB2 : Hid (∀ o, Below w.heap.size w (w2.alloc o)) := fun o => (HB.out.1.trans (b2.mono HB.out.1.size)).alloc (Nat.le_trans HB.out.1.size b2.size) o
    have X2 := heap_below HB.out.2 b2 (Nat.le_refl _)
    have c1 : w2.cell? ⟨w.heap.size, 1, none⟩ = some (.int .i64 oo.1) := Lib.cell_of_heap X2 1
    have c2 : w2.cell? ⟨w.heap.size, 2, none⟩ = some (.int .i64 oo.2) := Lib.cell_of_heap X2 2
    have s1 := lt_of_heap X2
    clear b2 E2 c4 c5 s0 X2
    simp only [knVal, knCells, opCells, List.cons_append, List.nil_append]
    cases oi' with
    | true =>
      go_wp2
      go_ret
      exact ⟨by rw [← HRK.out]; simp, HB2.out _⟩
    | false =>
      go_wp2
      go_ret
      exact ⟨by rw [← HRK.out]; simp, HB2.out _⟩
end Go.Proofs.Ytbjnemmghpmjjaa
